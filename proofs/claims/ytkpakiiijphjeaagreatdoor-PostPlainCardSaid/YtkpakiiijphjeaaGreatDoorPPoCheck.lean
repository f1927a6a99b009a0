/-
  Check, the program's: whether a packet may be. Conditions: lists of at most 1,000,000, lengths below 2^47; the library's variables hold what their types allow.
-/
import Derived.Test.YtkpakiiijphjeaaGreatDoorPPoOwn
import Derived.Test.YtkpakiiijphjeaaGreatDoorPPoKK
import Derived.Test.YtkpakiiijphjeaaGreatDoorPPoF
import Derived.Test.YtkpakiiijphjeaaGreatDoorPRegA
namespace Go.Proofs.YtkpakiiijphjeaaGreatDoor.Po
open Go.RowKit Bnd
open Go.Proofs.YtkpakiiijphjeaaGreatDoor.Od (Rep SP amongB)
open Go.Proofs.YtkpakiiijphjeaaGreatDoor.Ro (En SE)
theorem ownK_len {p : Pk} (h : SizK p) : LenK (ownK p) := by
  have h1 := h.es
  have h2 := h.ps
  obtain ⟨kk, kf, kt, kr, kw, ki, kn, ko, kc, kq, ks, kh, kp⟩ := p
  simp only at h1 h2
  unfold ownK ownW
  simp only
  refine ⟨?_, ?_⟩
  · (repeat' split) <;> simp <;> omega
  · (repeat' split) <;> simp <;> omega
theorem chkK_of {p : Pk} {a b c : Bool} (h1 : idB p.range = a) (h2 : sameK p (ownK p) = b) (h3 : fitsK p = c) : chkK p = if (a && b && c) = true then 0 else 140 := by
  unfold chkK isK; rw [h1, h2, h3]
set_option maxHeartbeats 8000000 in
set_option maxRecDepth 100000 in
theorem check_at (o q : Kh) (w : World) (v1 v2 v3 : Bool) (c1 : ∀ w1, Calls Tryz.prog 19 #[.int .i64 o.k.range, .int .i64 1, .int .i64 1099511627776] w1 fun e w' => e = .returned (.bool v1) ∧ w1 = w')
    (c2 : ∀ w1, Below w.heap.size w w1 → Calls Tryz.prog 20 #[kv o] w1 fun e w' => e = .returned (kv q) ∧ Below w1.heap.size w1 w')
    (c3 : ∀ w1, Below w.heap.size w w1 → Calls Tryz.prog 12 #[kv o, kv q] w1 fun e w' => e = .returned (.bool v2) ∧ Below w1.heap.size w1 w')
    (c4 : ∀ w1, Below w.heap.size w w1 → Calls Tryz.prog 21 #[kv o] w1 fun e w' => e = .returned (.bool v3) ∧ Below w1.heap.size w1 w') :
    Calls Tryz.prog 10 #[kv o] w fun e w' => e = .returned (.int .i64 (if (v1 && v2 && v3) = true then 0 else 140)) ∧ Below w.heap.size w w' := by
  cases v1 with
  | false =>
    show Calls _ _ _ _ fun e w' => e = .returned (.int .i64 140) ∧ _
    go_enter Tryz.func10, Tryz.ntmps10
    go_wp2_with (refine wpList_boxK (o := o) rfl rfl rfl ?_)
    intro W0 B0 hW hz0
    have hbox : ∀ wx, Below W0.heap.size W0 wx → BoxK w.heap.size o wx := fun wx hx => B0.keep hx
    have ca : ∀ wx, Below W0.heap.size W0 wx → Calls Tryz.prog 19 #[.int .i64 o.k.range, .int .i64 1, .int .i64 1099511627776] wx fun e w' => e = .returned (.bool false) ∧ Below W0.heap.size W0 w' := fun wx hx => (c1 wx).mono fun e w' ⟨h3, h4⟩ => ⟨h3, h4 ▸ hx⟩
    have co : ∀ wx, Below W0.heap.size W0 wx → Calls Tryz.prog 20 #[kv o] wx fun e w' => e = .returned (kv q) ∧ Below W0.heap.size W0 w' := fun wx hx => (c2 wx (hW.trans (hx.mono (by omega)))).mono fun e w' ⟨h3, h4⟩ => ⟨h3, hx.trans (h4.mono hx.size)⟩
    have cs : ∀ wx, Below W0.heap.size W0 wx → Calls Tryz.prog 12 #[kv o, kv q] wx fun e w' => e = .returned (.bool v2) ∧ Below W0.heap.size W0 w' := fun wx hx => (c3 wx (hW.trans (hx.mono (by omega)))).mono fun e w' ⟨h3, h4⟩ => ⟨h3, hx.trans (h4.mono hx.size)⟩
    have cf : ∀ wx, Below W0.heap.size W0 wx → Calls Tryz.prog 21 #[kv o] wx fun e w' => e = .returned (.bool v3) ∧ Below W0.heap.size W0 w' := fun wx hx => (c4 wx (hW.trans (hx.mono (by omega)))).mono fun e w' ⟨h3, h4⟩ => ⟨h3, hx.trans (h4.mono hx.size)⟩
    clear c1 c2 c3 c4 B0
    go_wp2_with fail
    refine St.wp_region_stage (fun _ wx => Below W0.heap.size W0 wx) (by kernel_rfl) (by kernel_rfl) (by kernel_rfl) (Below.refl _ _).drew ?_
    repeat (first
      | (apply St.step_past
         · rfl
         · exact fun L wx hS => hS
         simp only [Act.put, List.setIfInBounds_toArray, List.set_cons_zero, List.set_cons_succ])
      | (refine St.step_give (v := kv o) rfl (fun L wx hS hcl hrd => run_getK rfl rfl (hbox wx hS)) (fun L wx hS => hS) ?_
         simp only [Act.put, List.setIfInBounds_toArray, List.set_cons_zero, List.set_cons_succ])
      | (apply St.step_give
         · rfl
         · intro L wx hS hcl hrd
           have p3 : wx.cell? ⟨w.heap.size, 3, none⟩ = some (.int .i64 o.k.range) := (hbox wx hS).cell 3
           go_simp
           try with_reducible rfl
         · exact fun L wx hS => hS
         simp only [Act.put, List.setIfInBounds_toArray, List.set_cons_zero, List.set_cons_succ])
      | (apply St.step_into
         · rfl
         · intro wx
           go_simp
           exact ⟨rfl, rfl⟩
         · first
           | exact fun L wx hS hcl hrd => ca wx hS
           | exact fun L wx hS hcl hrd => co wx hS
           | exact fun L wx hS hcl hrd => cs wx hS
           | exact fun L wx hS hcl hrd => cf wx hS
         simp only [Act.put, List.setIfInBounds_toArray, List.set_cons_zero, List.set_cons_succ]))
    refine St.step_last ?_
    intro L wx hS _
    clear ca co cs cf hbox
    go_wp2_with fail
    go_ret
    exact ⟨rfl, hW.trans (hS.mono (by omega))⟩
  | true =>
  cases v2 with
  | false =>
    show Calls _ _ _ _ fun e w' => e = .returned (.int .i64 140) ∧ _
    go_enter Tryz.func10, Tryz.ntmps10
    go_wp2_with (refine wpList_boxK (o := o) rfl rfl rfl ?_)
    intro W0 B0 hW hz0
    have hbox : ∀ wx, Below W0.heap.size W0 wx → BoxK w.heap.size o wx := fun wx hx => B0.keep hx
    have ca : ∀ wx, Below W0.heap.size W0 wx → Calls Tryz.prog 19 #[.int .i64 o.k.range, .int .i64 1, .int .i64 1099511627776] wx fun e w' => e = .returned (.bool true) ∧ Below W0.heap.size W0 w' := fun wx hx => (c1 wx).mono fun e w' ⟨h3, h4⟩ => ⟨h3, h4 ▸ hx⟩
    have co : ∀ wx, Below W0.heap.size W0 wx → Calls Tryz.prog 20 #[kv o] wx fun e w' => e = .returned (kv q) ∧ Below W0.heap.size W0 w' := fun wx hx => (c2 wx (hW.trans (hx.mono (by omega)))).mono fun e w' ⟨h3, h4⟩ => ⟨h3, hx.trans (h4.mono hx.size)⟩
    have cs : ∀ wx, Below W0.heap.size W0 wx → Calls Tryz.prog 12 #[kv o, kv q] wx fun e w' => e = .returned (.bool false) ∧ Below W0.heap.size W0 w' := fun wx hx => (c3 wx (hW.trans (hx.mono (by omega)))).mono fun e w' ⟨h3, h4⟩ => ⟨h3, hx.trans (h4.mono hx.size)⟩
    have cf : ∀ wx, Below W0.heap.size W0 wx → Calls Tryz.prog 21 #[kv o] wx fun e w' => e = .returned (.bool v3) ∧ Below W0.heap.size W0 w' := fun wx hx => (c4 wx (hW.trans (hx.mono (by omega)))).mono fun e w' ⟨h3, h4⟩ => ⟨h3, hx.trans (h4.mono hx.size)⟩
    clear c1 c2 c3 c4 B0
    go_wp2_with fail
    refine St.wp_region_stage (fun _ wx => Below W0.heap.size W0 wx) (by kernel_rfl) (by kernel_rfl) (by kernel_rfl) (Below.refl _ _).drew ?_
    repeat (first
      | (apply St.step_past
         · rfl
         · exact fun L wx hS => hS
         simp only [Act.put, List.setIfInBounds_toArray, List.set_cons_zero, List.set_cons_succ])
      | (refine St.step_give (v := kv o) rfl (fun L wx hS hcl hrd => run_getK rfl rfl (hbox wx hS)) (fun L wx hS => hS) ?_
         simp only [Act.put, List.setIfInBounds_toArray, List.set_cons_zero, List.set_cons_succ])
      | (apply St.step_give
         · rfl
         · intro L wx hS hcl hrd
           have p3 : wx.cell? ⟨w.heap.size, 3, none⟩ = some (.int .i64 o.k.range) := (hbox wx hS).cell 3
           go_simp
           try with_reducible rfl
         · exact fun L wx hS => hS
         simp only [Act.put, List.setIfInBounds_toArray, List.set_cons_zero, List.set_cons_succ])
      | (apply St.step_into
         · rfl
         · intro wx
           go_simp
           exact ⟨rfl, rfl⟩
         · first
           | exact fun L wx hS hcl hrd => ca wx hS
           | exact fun L wx hS hcl hrd => co wx hS
           | exact fun L wx hS hcl hrd => cs wx hS
           | exact fun L wx hS hcl hrd => cf wx hS
         simp only [Act.put, List.setIfInBounds_toArray, List.set_cons_zero, List.set_cons_succ]))
    refine St.step_last ?_
    intro L wx hS _
    clear ca co cs cf hbox
    go_wp2_with fail
    go_ret
    exact ⟨rfl, hW.trans (hS.mono (by omega))⟩
  | true =>
  cases v3 with
  | false =>
    show Calls _ _ _ _ fun e w' => e = .returned (.int .i64 140) ∧ _
    go_enter Tryz.func10, Tryz.ntmps10
    go_wp2_with (refine wpList_boxK (o := o) rfl rfl rfl ?_)
    intro W0 B0 hW hz0
    have hbox : ∀ wx, Below W0.heap.size W0 wx → BoxK w.heap.size o wx := fun wx hx => B0.keep hx
    have ca : ∀ wx, Below W0.heap.size W0 wx → Calls Tryz.prog 19 #[.int .i64 o.k.range, .int .i64 1, .int .i64 1099511627776] wx fun e w' => e = .returned (.bool true) ∧ Below W0.heap.size W0 w' := fun wx hx => (c1 wx).mono fun e w' ⟨h3, h4⟩ => ⟨h3, h4 ▸ hx⟩
    have co : ∀ wx, Below W0.heap.size W0 wx → Calls Tryz.prog 20 #[kv o] wx fun e w' => e = .returned (kv q) ∧ Below W0.heap.size W0 w' := fun wx hx => (c2 wx (hW.trans (hx.mono (by omega)))).mono fun e w' ⟨h3, h4⟩ => ⟨h3, hx.trans (h4.mono hx.size)⟩
    have cs : ∀ wx, Below W0.heap.size W0 wx → Calls Tryz.prog 12 #[kv o, kv q] wx fun e w' => e = .returned (.bool true) ∧ Below W0.heap.size W0 w' := fun wx hx => (c3 wx (hW.trans (hx.mono (by omega)))).mono fun e w' ⟨h3, h4⟩ => ⟨h3, hx.trans (h4.mono hx.size)⟩
    have cf : ∀ wx, Below W0.heap.size W0 wx → Calls Tryz.prog 21 #[kv o] wx fun e w' => e = .returned (.bool false) ∧ Below W0.heap.size W0 w' := fun wx hx => (c4 wx (hW.trans (hx.mono (by omega)))).mono fun e w' ⟨h3, h4⟩ => ⟨h3, hx.trans (h4.mono hx.size)⟩
    clear c1 c2 c3 c4 B0
    go_wp2_with fail
    refine St.wp_region_stage (fun _ wx => Below W0.heap.size W0 wx) (by kernel_rfl) (by kernel_rfl) (by kernel_rfl) (Below.refl _ _).drew ?_
    repeat (first
      | (apply St.step_past
         · rfl
         · exact fun L wx hS => hS
         simp only [Act.put, List.setIfInBounds_toArray, List.set_cons_zero, List.set_cons_succ])
      | (refine St.step_give (v := kv o) rfl (fun L wx hS hcl hrd => run_getK rfl rfl (hbox wx hS)) (fun L wx hS => hS) ?_
         simp only [Act.put, List.setIfInBounds_toArray, List.set_cons_zero, List.set_cons_succ])
      | (apply St.step_give
         · rfl
         · intro L wx hS hcl hrd
           have p3 : wx.cell? ⟨w.heap.size, 3, none⟩ = some (.int .i64 o.k.range) := (hbox wx hS).cell 3
           go_simp
           try with_reducible rfl
         · exact fun L wx hS => hS
         simp only [Act.put, List.setIfInBounds_toArray, List.set_cons_zero, List.set_cons_succ])
      | (apply St.step_into
         · rfl
         · intro wx
           go_simp
           exact ⟨rfl, rfl⟩
         · first
           | exact fun L wx hS hcl hrd => ca wx hS
           | exact fun L wx hS hcl hrd => co wx hS
           | exact fun L wx hS hcl hrd => cs wx hS
           | exact fun L wx hS hcl hrd => cf wx hS
         simp only [Act.put, List.setIfInBounds_toArray, List.set_cons_zero, List.set_cons_succ]))
    refine St.step_last ?_
    intro L wx hS _
    clear ca co cs cf hbox
    go_wp2_with fail
    go_ret
    exact ⟨rfl, hW.trans (hS.mono (by omega))⟩
  | true =>
    show Calls _ _ _ _ fun e w' => e = .returned (.int .i64 0) ∧ _
    go_enter Tryz.func10, Tryz.ntmps10
    go_wp2_with (refine wpList_boxK (o := o) rfl rfl rfl ?_)
    intro W0 B0 hW hz0
    have hbox : ∀ wx, Below W0.heap.size W0 wx → BoxK w.heap.size o wx := fun wx hx => B0.keep hx
    have ca : ∀ wx, Below W0.heap.size W0 wx → Calls Tryz.prog 19 #[.int .i64 o.k.range, .int .i64 1, .int .i64 1099511627776] wx fun e w' => e = .returned (.bool true) ∧ Below W0.heap.size W0 w' := fun wx hx => (c1 wx).mono fun e w' ⟨h3, h4⟩ => ⟨h3, h4 ▸ hx⟩
    have co : ∀ wx, Below W0.heap.size W0 wx → Calls Tryz.prog 20 #[kv o] wx fun e w' => e = .returned (kv q) ∧ Below W0.heap.size W0 w' := fun wx hx => (c2 wx (hW.trans (hx.mono (by omega)))).mono fun e w' ⟨h3, h4⟩ => ⟨h3, hx.trans (h4.mono hx.size)⟩
    have cs : ∀ wx, Below W0.heap.size W0 wx → Calls Tryz.prog 12 #[kv o, kv q] wx fun e w' => e = .returned (.bool true) ∧ Below W0.heap.size W0 w' := fun wx hx => (c3 wx (hW.trans (hx.mono (by omega)))).mono fun e w' ⟨h3, h4⟩ => ⟨h3, hx.trans (h4.mono hx.size)⟩
    have cf : ∀ wx, Below W0.heap.size W0 wx → Calls Tryz.prog 21 #[kv o] wx fun e w' => e = .returned (.bool true) ∧ Below W0.heap.size W0 w' := fun wx hx => (c4 wx (hW.trans (hx.mono (by omega)))).mono fun e w' ⟨h3, h4⟩ => ⟨h3, hx.trans (h4.mono hx.size)⟩
    clear c1 c2 c3 c4 B0
    go_wp2_with fail
    refine St.wp_region_stage (fun _ wx => Below W0.heap.size W0 wx) (by kernel_rfl) (by kernel_rfl) (by kernel_rfl) (Below.refl _ _).drew ?_
    repeat (first
      | (apply St.step_past
         · rfl
         · exact fun L wx hS => hS
         simp only [Act.put, List.setIfInBounds_toArray, List.set_cons_zero, List.set_cons_succ])
      | (refine St.step_give (v := kv o) rfl (fun L wx hS hcl hrd => run_getK rfl rfl (hbox wx hS)) (fun L wx hS => hS) ?_
         simp only [Act.put, List.setIfInBounds_toArray, List.set_cons_zero, List.set_cons_succ])
      | (apply St.step_give
         · rfl
         · intro L wx hS hcl hrd
           have p3 : wx.cell? ⟨w.heap.size, 3, none⟩ = some (.int .i64 o.k.range) := (hbox wx hS).cell 3
           go_simp
           try with_reducible rfl
         · exact fun L wx hS => hS
         simp only [Act.put, List.setIfInBounds_toArray, List.set_cons_zero, List.set_cons_succ])
      | (apply St.step_into
         · rfl
         · intro wx
           go_simp
           exact ⟨rfl, rfl⟩
         · first
           | exact fun L wx hS hcl hrd => ca wx hS
           | exact fun L wx hS hcl hrd => co wx hS
           | exact fun L wx hS hcl hrd => cs wx hS
           | exact fun L wx hS hcl hrd => cf wx hS
         simp only [Act.put, List.setIfInBounds_toArray, List.set_cons_zero, List.set_cons_succ]))
    refine St.step_last ?_
    intro L wx hS _
    clear ca co cs cf hbox
    go_wp2_with fail
    go_ret
    exact ⟨rfl, hW.trans (hS.mono (by omega))⟩
theorem check_any (o : Kh) (w : World) (h : HK w w.heap.size o) (hz : SizK o.k) (hid : -9223372036854775808 ≤ o.k.id ∧ o.k.id ≤ 9223372036854775807) (hg : Good w) :
    Calls Tryz.prog 10 #[kv o] w fun e w' => e = .returned (.int .i64 (chkK o.k)) ∧ Below w.heap.size w w' := by
  have hk : ∀ w1, Below w.heap.size w w1 → HK w1 w1.heap.size o := fun w1 h1 => (h.below h1).more h1.size
  have := check_at o (ownKh o) w (idB o.k.range) (sameK o.k (ownK o.k)) (fitsK o.k) (fun w1 => among_any _ _ _ w1)
    (fun w1 hb => own_any o w1 (hk w1 hb))
    (fun w1 hb => same_any o (ownKh o) w1 (hk w1 hb) (ownKh_hk (hk w1 hb)) ⟨by have := hz.es; omega, by have := hz.ps; omega⟩ (ownK_len hz))
    (fun w1 hb => fits_any o w1 (hk w1 hb) hz hid (hg.below hb))
  rw [chkK_of rfl rfl rfl]
  exact this
end Go.Proofs.YtkpakiiijphjeaaGreatDoor.Po
