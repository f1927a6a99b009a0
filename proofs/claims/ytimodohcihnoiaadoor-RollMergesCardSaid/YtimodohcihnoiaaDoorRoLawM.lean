/-
  RollMerges, walked. Conditions: lengths at most 2^47; numbers such as a program can hold; the library's variables hold what their types allow.
-/
import Derived.Test.YtimodohcihnoiaaDoorRoGM
namespace Go.Proofs.YtimodohcihnoiaaDoor.Ro
open Go.RowKit

set_option maxHeartbeats 16000000 in
set_option maxRecDepth 100000 in
theorem merges_walk (v y : Value) (r : Lg) (l : List En) (ix t : Int) (w : World) (ha : InL w v r) (hv : ArgE w y l) (hl : l.length ≤ 140737488355328) (hix : inI ix) (hg : Good w) :
    Calls Tryd.prog 5 #[lv r v, .int .i64 ix, .int .i64 t, y] w fun e w' => e = .returned (.bool true) ∧ Below w.heap.size w w' := by
  obtain ⟨A, c, rfl⟩ := ha.arg.form
  obtain ⟨D, d, rfl⟩ := hv.form
  obtain ⟨n, hn⟩ : ∃ n, r.es.length = n := ⟨_, rfl⟩
  obtain ⟨q, hq⟩ : ∃ q, l.length = q := ⟨_, rfl⟩
  rw [hn] at ha ⊢
  rw [hq] at hv hl ⊢
  have HN := Lib.hid hn
  have HQ := Lib.hid hq
  clear hn hq
  obtain ⟨W0, hW0⟩ : ∃ W0, w.alloc (.cells #[.int .i64 r.base, .int .i64 r.bt, .slice A n c] 24) = W0 := ⟨_, rfl⟩
  have hb0 : Below w.heap.size w W0 := hW0 ▸ (by (repeat' (first | with_reducible assumption | with_reducible exact Below.refl _ _ | with_reducible refine Below.alloc ?_ ?_ _ | with_reducible refine Below.setCell ?_ ?_ _ | with_reducible refine Below.drew ?_ | omega | (simp; done) | (simp; omega))))
  have B0 : BoxL w.heap.size r (.slice A n c) W0 := hW0 ▸ BoxL.new w r (.slice A n c)
  have hbox : ∀ wx, Below W0.heap.size W0 wx → BoxL w.heap.size r (.slice A n c) wx := fun wx h => B0.keep h
  have KA : ∀ w', Below W0.heap.size W0 w' → InL w' (.slice A n c) r := fun w' h => ha.keep (hb0.trans (h.mono hb0.size))
  have KV : ∀ w', Below W0.heap.size W0 w' → ArgE w' (.slice D q d) l := fun w' h => hv.keep (hb0.trans (h.mono hb0.size))
  have KG : ∀ w', Below W0.heap.size W0 w' → Good w' := fun w' h => hg.below (hb0.trans (h.mono hb0.size))
  have cS1 := fun w' (h : Below W0.heap.size W0 w') => small_any r _ w' (KA w' h).arg.sm (KA w' h).len (KA w' h).txt
  have cI1 := fun w' (h : Below W0.heap.size W0 w') => ris_any r _ w' (KA w' h).arg.sm (KA w' h).len
  have cL := fun w' (h : Below W0.heap.size W0 w') => live_any w' (KG w' h)
  have h0 := Below.refl W0.heap.size W0
  clear ha hv B0 hg
  go_enter Tryd.func5, Tryd.ntmps5
  obtain ⟨_, ⟨z0, z1, z2⟩, y0⟩ := hbox _ h0
  go_wp2_with fail
  refine (cS1 _ h0).mono ?_
  rintro e w1 ⟨⟨x1, rfl, s1⟩, b⟩
  have h1 := h0.trans (b.mono h0.size)
  clear b z0 z1 z2 y0
  clear hW0
  cases x1 with
  | false =>
    go_wp2_with fail
    refine (cL _ h1).mono ?_
    rintro e w2 ⟨rfl, b⟩
    have h2 := h1.trans (b.mono h1.size)
    clear b
    go_wp2_with fail
    go_ret
    exact ⟨rfl, hb0.trans (h2.mono hb0.size)⟩
  | true =>
  have sa : SmallL r := by simpa using s1
  clear s1
  have hA : isL r = true ∨ isL r = false := by cases isL r <;> simp
  rcases hA.symm with hA | hA
  ·
    rw [hA] at cI1
    clear hA sa
    obtain ⟨_, ⟨z0, z1, z2⟩, y0⟩ := hbox _ h1
    go_wp2_with fail
    refine (cI1 _ h1).mono ?_
    rintro e w2 ⟨rfl, b⟩
    have h2 := h1.trans (b.mono h1.size)
    clear b z0 z1 z2 y0
    go_wp2_with fail
    refine (cL _ h2).mono ?_
    rintro e w3 ⟨rfl, b⟩
    have h3 := h2.trans (b.mono h2.size)
    clear b
    go_wp2_with fail
    go_ret
    exact ⟨rfl, hb0.trans (h3.mono hb0.size)⟩
  have en := sa.n
  have fa := FitL.of hA (by omega)
  rw [hA] at cI1
  clear hA sa cS1
  obtain ⟨_, ⟨z0, z1, z2⟩, y0⟩ := hbox _ h1
  go_wp2_with fail
  refine (cI1 _ h1).mono ?_
  rintro e w2 ⟨rfl, b⟩
  have h2 := h1.trans (b.mono h1.size)
  clear b z0 z1 z2 y0
  clear cI1
  by_cases hq60 : 60 < q
  ·
    have g1 : ((60 : Int) < (q : Int)) = True := eq_true (by omega)
    clear hq60
    go_wp2_with fail
    refine (cL _ h2).mono ?_
    rintro e w3 ⟨rfl, b⟩
    have h3 := h2.trans (b.mono h2.size)
    clear b
    go_wp2_with fail
    go_ret
    exact ⟨rfl, hb0.trans (h3.mono hb0.size)⟩
  have g1 : ((60 : Int) < (q : Int)) = False := eq_false (by omega)
  have hq1 : q ≤ 60 := by omega
  have hl1 : l.length ≤ 60 := by have := HQ.out; omega
  clear hq60 hl
  have cO := fun w' (h : Below W0.heap.size W0 w') => own_any r _ w' (KA w' h).arg (by omega)
  have cR := fun w' (h : Below W0.heap.size W0 w') => rmerge_any r _ ix t _ l w' (KA w' h).arg (KV w' h) fa (by omega) (by omega) hix
  have cM := fun s y w' (h1 : ArgE w' s r.es) (h2 : ArgE w' y l) => merge_any r s ix t y l w' h1 h2 fa (by omega) (by omega) hix
  have hml := merge_len r ix t l
  obtain ⟨m, hm⟩ : ∃ m, mergeL r ix t l = m := ⟨_, rfl⟩
  rw [hm] at cR cM hml
  obtain ⟨M, ok⟩ := m
  simp only at hml
  have hM60 : M.es.length ≤ 120 := by omega
  obtain ⟨k, hk⟩ : ∃ k, M.es.length = k := ⟨_, rfl⟩
  have HK := Lib.hid hk
  clear hm fa hml hk
  obtain ⟨_, ⟨z0, z1, z2⟩, y0⟩ := hbox _ h2
  go_wp2_with fail
  refine (cO _ h2).mono ?_
  rintro e w3 ⟨s3, rfl, o3, b⟩
  have a3 := ArgE.of_own o3
  obtain ⟨A3, c3, rfl⟩ := a3.form_n HN.out
  have h3 := h2.trans (b.mono h2.size)
  clear b o3 z0 z1 z2 y0 cO
  obtain ⟨W1, hW1⟩ : ∃ W1, w3.alloc (.cells #[.int .i64 r.base, .int .i64 r.bt, .slice A3 n c3] 24) = W1 := ⟨_, rfl⟩
  have h31 : Below w3.heap.size w3 W1 := hW1 ▸ (Below.refl _ w3).alloc (Nat.le_refl _) _
  have B1 : BoxL w3.heap.size r (.slice A3 n c3) W1 := hW1 ▸ BoxL.new w3 r (.slice A3 n c3)
  have h01 := h3.trans (h31.mono h3.size)
  have hlow : ∀ wx, Below W1.heap.size W1 wx → Below W0.heap.size W0 wx := fun wx h => h01.trans (h.mono h01.size)
  have hb1 := hb0.trans (h01.mono hb0.size)
  have hboxs : ∀ wx, Below W1.heap.size W1 wx → BoxL w.heap.size r (.slice A n c) wx ∧ BoxL w3.heap.size r (.slice A3 n c3) wx := fun wx h => ⟨hbox wx (hlow wx h), B1.keep h⟩
  have K3 : ∀ w', Below W1.heap.size W1 w' → ArgE w' (.slice A3 n c3) r.es := fun w' h => a3.keep (h31.trans (h.mono h31.size))
  clear h31 B1 a3 hbox h3
  have h10 := Below.refl W1.heap.size W1
  obtain ⟨⟨_, ⟨z0, z1, z2⟩, y0⟩, ⟨_, ⟨z3, z4, z5⟩, y1⟩⟩ := hboxs _ h10
  go_wp2_with fail
  clear z0 z1 z2 z3 z4 z5 y0 y1
  try rw [hW1]
  clear hW1
  refine St.wp_region_mixed (RX W1 l (M, ok)) (fun j x => match j with | 6 => ∃ A c, x = .tuple #[lv M (.slice A k c), .bool ok] | _ => True) (by kernel_rfl) (by kernel_rfl) (by kernel_rfl) ⟨h10.drew, fun h => (by cases h), fun h => (by cases h), fun h => (by cases h), fun h => (by cases h)⟩ ?_
  apply St.mix_give
  · rfl
  · intro L u' wx hS hcl hrd hag
    obtain ⟨⟨_, ⟨z0, z1, z2⟩, y0⟩, ⟨_, ⟨z3, z4, z5⟩, y1⟩⟩ := hboxs wx hS.low
    go_simp
    try with_reducible rfl
  · exact fun L u' wx hS => hS.plain (by decide) (by decide) (by decide) (by decide) _
  simp only [Act.put, List.setIfInBounds_toArray, List.set_cons_zero, List.set_cons_succ]
  apply St.mix_give
  · rfl
  · intro L u' wx hS hcl hrd hag
    go_simp
    try with_reducible rfl
  · exact fun L u' wx hS => hS.plain (by decide) (by decide) (by decide) (by decide) _
  simp only [Act.put, List.setIfInBounds_toArray, List.set_cons_zero, List.set_cons_succ]
  apply St.mix_give
  · rfl
  · intro L u' wx hS hcl hrd hag
    go_simp
    try with_reducible rfl
  · exact fun L u' wx hS => hS.plain (by decide) (by decide) (by decide) (by decide) _
  simp only [Act.put, List.setIfInBounds_toArray, List.set_cons_zero, List.set_cons_succ]
  refine St.mix_free (fun z => ∃ b, z = .slice (some ⟨b, 0, none⟩) 0 0) rfl ?_ ?_
  · intro L u' wx hS hcl hrd hag
    refine ⟨.slice (some ⟨wx.heap.size, 0, none⟩) 0 0, wx.alloc (.cells #[] 54), ⟨_, rfl⟩, ?_, (hS.turn (St.not_yet hcl hrd 60 11 (by kernel_rfl)) ((Below.refl _ wx).alloc (Nat.le_refl _) _)).plain (by decide) (by decide) (by decide) (by decide) _⟩
    go_simp
    try with_reducible rfl
  rintro y3 ⟨b3, rfl⟩
  simp only [Act.put, List.setIfInBounds_toArray, List.set_cons_zero, List.set_cons_succ]
  apply St.mix_give
  · rfl
  · intro L u' wx hS hcl hrd hag
    go_simp
    try with_reducible rfl
  · exact fun L u' wx hS => hS.plain (by decide) (by decide) (by decide) (by decide) _
  simp only [Act.put, List.setIfInBounds_toArray, List.set_cons_zero, List.set_cons_succ]
  refine St.mix_free (fun z => ∃ A c, z = .slice A q c) rfl ?_ ?_
  · intro L u' wx hS hcl hrd hag
    obtain ⟨v', w', k1, k2, k3⟩ := run_append_zero ⟨b3, 0, none⟩ (KV wx (hlow wx hS.low)) (by omega) 22
    obtain ⟨A', c', e'⟩ := k2.form_n HQ.out
    exact ⟨v', w', ⟨A', c', e'⟩, run_append2 rfl rfl rfl k1, hS.made (St.not_yet hcl hrd 60 11 (by kernel_rfl)) k3 k2⟩
  rintro y5 ⟨A5, c5, rfl⟩
  simp only [Act.put, List.setIfInBounds_toArray, List.set_cons_zero, List.set_cons_succ]
  refine St.mix_call (f := 32) (args := #[lv r (.slice A3 n c3), .int .i64 ix, .int .i64 t, .slice A5 q c5]) rfl ?_ ?_ ?_
  · intro wx
    go_simp
    try with_reducible rfl
  · intro L u' wx hS hcl hrd hag
    have h11 := (St.not_yet hcl hrd 60 11 (by kernel_rfl))
    have a5 := hS.app (St.before_ready hcl hrd 6 5 (by kernel_rfl)) h11
    rw [show u' 5 = .slice A5 q c5 from hag 6 5 (by kernel_rfl)] at a5
    refine (cM _ _ wx (K3 wx hS.low) a5).mono ?_
    rintro e w' ⟨s6, rfl, a6, b⟩
    obtain ⟨A6, c6, rfl⟩ := a6.form_n HK.out
    exact ⟨_, rfl, ⟨A6, c6, rfl⟩, hS.merged h11 b a6⟩
  rintro y6 ⟨A6, c6, rfl⟩
  simp only [Act.put, List.setIfInBounds_toArray, List.set_cons_zero, List.set_cons_succ]
  apply St.mix_give
  · rfl
  · intro L u' wx hS hcl hrd hag
    go_simp
    try with_reducible rfl
  · exact fun L u' wx hS => hS.plain (by decide) (by decide) (by decide) (by decide) _
  simp only [Act.put, List.setIfInBounds_toArray, List.set_cons_zero, List.set_cons_succ]
  apply St.mix_give
  · rfl
  · intro L u' wx hS hcl hrd hag
    go_simp
    try with_reducible rfl
  · exact fun L u' wx hS => hS.plain (by decide) (by decide) (by decide) (by decide) _
  simp only [Act.put, List.setIfInBounds_toArray, List.set_cons_zero, List.set_cons_succ]
  apply St.mix_give
  · rfl
  · intro L u' wx hS hcl hrd hag
    go_simp
    try with_reducible rfl
  · exact fun L u' wx hS => hS.plain (by decide) (by decide) (by decide) (by decide) _
  simp only [Act.put, List.setIfInBounds_toArray, List.set_cons_zero, List.set_cons_succ]
  refine St.mix_free (fun z => ∃ n : Nat, z = .pointer (some ⟨n, 0, none⟩)) rfl ?_ ?_
  · intro L u' wx hS hcl hrd hag
    refine ⟨_, _, ⟨wx.heap.size, rfl⟩, ?_, hS.boxed (St.not_yet hcl hrd 60 11 (by kernel_rfl))⟩
    go_simp
    try with_reducible rfl
  rintro y10 ⟨n10, rfl⟩
  simp only [Act.put, List.setIfInBounds_toArray, List.set_cons_zero, List.set_cons_succ]
  refine St.mix_skip rfl ?_ ?_
  · intro L u' wx hS hcl hrd hag
    have h10 := St.before_ready hcl hrd 11 10 (by kernel_rfl)
    have h6 := St.before_ready hcl hrd 11 6 (by kernel_rfl)
    obtain ⟨nb, q1, q2, q3⟩ := hS.box h10 hrd.1
    have e1 : u' 10 = .pointer (some ⟨n10, 0, none⟩) := hag 11 10 (by kernel_rfl)
    obtain rfl : nb = n10 := by
      have := q1.symm.trans e1
      injection this with e3
      injection e3 with e4
      injection e4
    have hst := hS.store h10 h6 hrd.1 e1 (hag 11 6 (by kernel_rfl))
    have d0 : wx.cell? ⟨nb, 0, none⟩ = some (.int .i64 0) := by simp [World.cell?, q3]
    have d1 : wx.cell? ⟨nb, 1, none⟩ = some (.int .i64 0) := by simp [World.cell?, q3]
    have d2 : wx.cell? ⟨nb, 2, none⟩ = some (.slice none 0 0) := by simp [World.cell?, q3]
    have dF : ∀ o, wx.frozen? ⟨nb, o, none⟩ = false := fun o => by simp [World.frozen?, q3]
    have hlt := (Array.getElem?_eq_some_iff.1 q3).1
    clear q3
    refine ⟨_, ?_, hst⟩
    go_simp
    try with_reducible rfl
  simp only [Act.put]
  apply St.mix_give
  · rfl
  · intro L u' wx hS hcl hrd hag
    go_simp
    try with_reducible rfl
  · exact fun L u' wx hS => hS.plain (by decide) (by decide) (by decide) (by decide) _
  simp only [Act.put, List.setIfInBounds_toArray, List.set_cons_zero, List.set_cons_succ]
  refine St.mix_last ?_
  intro L W4 hS hall
  obtain ⟨nb, s7, q1, q2, q3, q4, q5⟩ := hS.fin (hall 11 (by decide))
  have h14 := hS.low
  obtain rfl : nb = n10 := by
    have q0' : Value.pointer (some ⟨n10, 0, none⟩) = .pointer (some ⟨nb, 0, none⟩) := q1
    injection q0' with e1
    injection e1 with e2
    injection e2 with e3
    exact e3.symm
  clear hS hall q1 q2 q3 cM
  obtain ⟨A7, c7, rfl⟩ := q5.form_n HK.out
  simp only at q4 q5
  have hlow4 : ∀ wx, Below W4.heap.size W4 wx → Below W1.heap.size W1 wx := fun wx h => h14.trans (h.mono h14.size)
  obtain ⟨⟨_, ⟨z0, z1, z2⟩, y0⟩, ⟨_, ⟨z3, z4, z5⟩, y1⟩⟩ := hboxs _ h14
  go_wp2_with fail
  refine (cR _ (hlow _ h14)).mono ?_
  rintro e w5 ⟨s5, rfl, a5, b⟩
  simp only at a5
  obtain ⟨A9, c9, rfl⟩ := a5.form_n HK.out
  clear z0 z1 z2 z3 z4 z5 y0 y1 cR
  obtain ⟨W6, hW6⟩ : ∃ W6, w5.alloc (.cells #[.int .i64 M.base, .int .i64 M.bt, .slice A9 k c9] 24) = W6 := ⟨_, rfl⟩
  have h56 : Below w5.heap.size w5 W6 := hW6 ▸ (Below.refl _ w5).alloc (Nat.le_refl _) _
  have B6 : BoxL w5.heap.size M (.slice A9 k c9) W6 := hW6 ▸ BoxL.new w5 M (.slice A9 k c9)
  have h46 := b.trans (h56.mono b.size)
  have hlow6 : ∀ wx, Below W6.heap.size W6 wx → Below W4.heap.size W4 wx := fun wx h => h46.trans (h.mono h46.size)
  have hbox6 : ∀ wx, Below W6.heap.size W6 wx → BoxL w.heap.size r (.slice A n c) wx ∧ BoxL w3.heap.size r (.slice A3 n c3) wx ∧ BoxL nb M (.slice A7 k c7) wx ∧ BoxL w5.heap.size M (.slice A9 k c9) wx := fun wx h => ⟨(hboxs wx (hlow4 wx (hlow6 wx h))).1, (hboxs wx (hlow4 wx (hlow6 wx h))).2, q4.keep (hlow6 wx h), B6.keep h⟩
  have cE := fun w' (h : Below W6.heap.size W6 w') => rsame_any M M _ _ w' (q5.keep (hlow6 w' h)).sm (a5.keep (h56.trans (h.mono h56.size))).sm (by omega) (by omega)
  have cF := fun w' (h : Below W6.heap.size W6 w') => rsame_any r r _ _ w' (K3 w' (hlow4 w' (hlow6 w' h))).sm (KA w' (hlow w' (hlow4 w' (hlow6 w' h)))).arg.sm (by omega) (by omega)
  rw [show decide (M = M) = true from decide_eq_true rfl] at cE
  rw [show decide (r = r) = true from decide_eq_true rfl] at cF
  have cZ := fun w' (h : Below W6.heap.size W6 w') => cL w' (hlow w' (hlow4 w' (hlow6 w' h)))
  have hb6 : Below w.heap.size w W6 := hb1.trans ((h14.trans (h46.mono h14.size)).mono hb1.size)
  have h20 := Below.refl W6.heap.size W6
  have e5 : (ok == ok) = true := by simp
  clear cL b h56 B6 q4 q5 a5 hboxs KA KV K3

  obtain ⟨⟨_, ⟨z0, z1, z2⟩, y0⟩, ⟨_, ⟨z3, z4, z5⟩, y1⟩, ⟨_, ⟨z6, z7, z8⟩, y2⟩, ⟨_, ⟨z9, z10, z11⟩, y3⟩⟩ := hbox6 _ h20
  go_wp2_with fail
  refine (cE _ h20).mono ?_
  rintro e w21 ⟨rfl, b⟩
  have h21 := h20.trans (b.mono h20.size)
  clear b z0 z1 z2 y0 z3 z4 z5 y1 z6 z7 z8 y2 z9 z10 z11 y3
  clear hW6
  obtain ⟨⟨_, ⟨z0, z1, z2⟩, y0⟩, ⟨_, ⟨z3, z4, z5⟩, y1⟩, ⟨_, ⟨z6, z7, z8⟩, y2⟩, ⟨_, ⟨z9, z10, z11⟩, y3⟩⟩ := hbox6 _ h21
  go_wp2_with fail
  refine (cF _ h21).mono ?_
  rintro e w22 ⟨rfl, b⟩
  have h22 := h21.trans (b.mono h21.size)
  clear b z0 z1 z2 y0 z3 z4 z5 y1 z6 z7 z8 y2 z9 z10 z11 y3
  go_wp2_with fail
  refine (cZ _ h22).mono ?_
  rintro e w23 ⟨rfl, b⟩
  have h23 := h22.trans (b.mono h22.size)
  clear b
  go_wp2_with fail
  go_ret
  exact ⟨rfl, hb6.trans (h23.mono hb6.size)⟩
end Go.Proofs.YtimodohcihnoiaaDoor.Ro
