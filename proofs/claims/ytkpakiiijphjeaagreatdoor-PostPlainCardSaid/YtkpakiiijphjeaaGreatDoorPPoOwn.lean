/-
  own, the program's: a message, a packet with nothing but the fields of its kind. No condition.
-/
import Derived.Test.YtkpakiiijphjeaaGreatDoorPPoB
import Derived.Test.YtkpakiiijphjeaaGreatDoorPRegA
namespace Go.Proofs.YtkpakiiijphjeaaGreatDoor.Po
open Go.RowKit Bnd
open Go.Proofs.YtkpakiiijphjeaaGreatDoor.Od (Rep SP)
open Go.Proofs.YtkpakiiijphjeaaGreatDoor.Ro (En SE)
theorem ownW_fin (w : World) (X : Obj) (r : Wh) : BoxW (w.heap.size + 1) r ((w.alloc X).alloc (.cells (arrBoxW r) 24)) := by
  have := BoxW.new (w.alloc X) r
  have e : (w.alloc X).heap.size = w.heap.size + 1 := by simp
  rw [e] at this
  exact this
def ownS (m : Wr) (s : Value) : Value := if m.kind = 5 then s else nilS
theorem ownS_se {w : World} {N : Nat} {m : Wr} {s : Value} (h : SE w N s m.es) : SE w N (ownS m s) (ownW m).es := by
  unfold ownS ownW
  by_cases k : m.kind = 5
  · simp only [if_pos k]; exact h
  · simp only [if_neg k]; exact SE.nil _ _
structure RO (N : Nat) (w0 : World) (n1 n2 n3 : Nat) (o : Kh) (rec : (Nat → Bool) → Kh) (L : Nat → Bool) (wx : World) : Prop where
  a : BoxK n1 o wx
  b : BoxK n2 Kh.zero wx
  c : BoxK n3 (rec L) wx
  d : Below N w0 wx
theorem RO.call {N : Nat} {w0 : World} {n1 n2 n3 : Nat} {o : Kh} {rec : (Nat → Bool) → Kh} {L : Nat → Bool} {wx wy : World} (h : RO N w0 n1 n2 n3 o rec L wx) (hb : Below wx.heap.size wx wy) (hN : N ≤ wx.heap.size) : RO N w0 n1 n2 n3 o rec L wy :=
  ⟨h.a.keep hb, h.b.keep hb, h.c.keep hb, h.d.trans (hb.mono hN)⟩
set_option maxHeartbeats 4000000 in
set_option maxRecDepth 100000 in
theorem ownW_any (m : Wr) (A : Option Addr) (N c : Nat) (w : World) : Calls Tryz.prog 57 #[wv m (.slice A N c)] w fun e w' => e = .returned (wv (ownW m) (ownS m (.slice A N c))) ∧ Below w.heap.size w w' := by
  obtain ⟨mk, mf, mt, mm, mi, ml, mc, mh, mr, mes, mx⟩ := m
  unfold ownW ownS
  simp only
  by_cases h5 : mk = 5
  · subst h5
    simp only [if_true, show ((5 : Int) = 7) = False from by simp, if_false]
    go_enter Tryz.func57, Tryz.ntmps57
    go_wp2_with fail
    exact bodyPost_ret (res_BoxW Tryz.results57 rfl (ownW_fin w _ ⟨⟨5, mf, mt, mm, mi, ml, mc, mh, mr, mes, Od.E0⟩, .slice A N c⟩)) rfl ⟨rfl, (by (repeat' (first | with_reducible assumption | with_reducible exact Below.refl _ _ | with_reducible refine Below.alloc ?_ ?_ _ | with_reducible refine Below.setCell ?_ ?_ _ | with_reducible refine Below.drew ?_ | omega | (simp; done) | (simp; omega))))⟩
  simp only [if_neg h5]
  by_cases h7 : mk = 7
  · subst h7
    simp only [if_true]
    go_enter Tryz.func57, Tryz.ntmps57
    go_wp2_with fail
    exact bodyPost_ret (res_BoxW Tryz.results57 rfl (ownW_fin w _ ⟨⟨7, mf, mt, mm, mi, ml, mc, mh, mr, [], mx⟩, nilS⟩)) rfl ⟨rfl, (by (repeat' (first | with_reducible assumption | with_reducible exact Below.refl _ _ | with_reducible refine Below.alloc ?_ ?_ _ | with_reducible refine Below.setCell ?_ ?_ _ | with_reducible refine Below.drew ?_ | omega | (simp; done) | (simp; omega))))⟩
  simp only [if_neg h7]
  have g5 : (mk == 5) = false := by simpa using h5
  have e5 : (mk != 5) = true := by simpa using h5
  have g7 : (mk == 7) = false := by simpa using h7
  have e7 : (mk != 7) = true := by simpa using h7
  clear h5 h7
  go_enter Tryz.func57, Tryz.ntmps57
  go_wp2_with fail
  exact bodyPost_ret (res_BoxW Tryz.results57 rfl (ownW_fin w _ ⟨⟨mk, mf, mt, mm, mi, ml, mc, mh, mr, [], Od.E0⟩, nilS⟩)) rfl ⟨rfl, (by (repeat' (first | with_reducible assumption | with_reducible exact Below.refl _ _ | with_reducible refine Below.alloc ?_ ?_ _ | with_reducible refine Below.setCell ?_ ?_ _ | with_reducible refine Below.drew ?_ | omega | (simp; done) | (simp; omega))))⟩
set_option maxHeartbeats 8000000 in
set_option maxRecDepth 100000 in
theorem own_2 (kf kt : Int) (kr : Int) (kw : Wr) (ki kn : Int) (ko : Od.Ask) (kc kq ks kh : Int) (kp : Rep) (A : Option Addr) (n c : Nat) (B : Option Addr) (m d : Nat) (w : World) : Calls Tryz.prog 20 #[kv ⟨⟨2, kf, kt, kr, kw, ki, kn, ko, kc, kq, ks, kh, kp⟩, .slice A n c, .slice B m d⟩] w fun e w' => e = .returned (kv ⟨⟨2, kf, kt, kr, Wr.zero, ki, kn, Od.Ask.zero, 0, 0, 0, 0, Od.Rep.zero⟩, nilS, nilS⟩) ∧ Below w.heap.size w w' := by
  go_enter Tryz.func20, Tryz.ntmps20
  go_wp2_with (refine wpList_boxK (o := ⟨⟨2, kf, kt, kr, kw, ki, kn, ko, kc, kq, ks, kh, kp⟩, .slice A n c, .slice B m d⟩) rfl rfl rfl ?_)
  intro W0 B0 hb0 hz0
  go_wp2_with (refine wpList_newK rfl rfl ?_)
  intro W1 C1 hb1 hz1
  have B1 := B0.below (by omega) hb1
  have q0 : W1.cell? ⟨w.heap.size, 0, none⟩ = some (.int .i64 2) := B1.cell 0
  have q3 : W1.cell? ⟨w.heap.size, 3, none⟩ = some (.int .i64 kr) := B1.cell 3
  go_wp2_with (refine wpList_newK rfl rfl ?_)
  intro W2 D2 hb2 hz2
  have B2 := B1.below (by omega) hb2
  have C2 := C1.below (by omega) hb2
  go_wp2_with (refine wpList_setK (o := ⟨⟨2, 0, 0, kr, Wr.zero, 0, 0, Od.Ask.zero, 0, 0, 0, 0, Od.Rep.zero⟩, nilS, nilS⟩) rfl rfl rfl rfl D2 rfl rfl ?_)
  intro W3 D3 ho3 hb3 hz3
  have B3 := ho3 _ _ (by omega) B2
  have C3 := ho3 _ _ (by omega) C2
  have hW3 : Below w.heap.size w W3 := hb3 _ _ ((hb0.trans (hb1.mono (by omega))).trans (hb2.mono (by omega))) (by omega)
  clear B0 B1 B2 C1 C2 D2 ho3 hb3 hb2 hb1 hb0 q0 q3
  have q0 : W3.cell? ⟨w.heap.size, 0, none⟩ = some (.int .i64 2) := B3.cell 0
  go_wp2_with fail
  refine St.wp_region_mixed (fun L _ wx => RO w.heap.size w w.heap.size (w.heap.size + 1) (w.heap.size + 1 + 1) ⟨⟨2, kf, kt, kr, kw, ki, kn, ko, kc, kq, ks, kh, kp⟩, .slice A n c, .slice B m d⟩ (fun L : Nat → Bool => (⟨⟨2, bif L 9 then kf else 0, bif L 11 then kt else 0, kr, Wr.zero, bif L 13 then ki else 0, bif L 15 then kn else 0, Od.Ask.zero, 0, 0, 0, 0, Od.Rep.zero⟩, nilS, nilS⟩ : Kh)) L wx) (fun _ z => z = undef) (by kernel_rfl) (by kernel_rfl) (by kernel_rfl) ⟨B3.drew, C3.drew, D3.drew, hW3.drew⟩ ?_
  apply St.mix_give
  · rfl
  · intro L u' wx hS hcl hrd hag
    go_simp
    try with_reducible rfl
  · exact fun L u' wx hS => ⟨hS.a, hS.b, hS.c, hS.d⟩
  simp only [Act.put, List.setIfInBounds_toArray, List.set_cons_zero, List.set_cons_succ]
  apply St.mix_give
  · rfl
  · intro L u' wx hS hcl hrd hag
    have q1 : wx.cell? ⟨w.heap.size, 1, none⟩ = some (.int .i64 kf) := hS.a.cell 1
    go_simp
    try with_reducible rfl
  · exact fun L u' wx hS => ⟨hS.a, hS.b, hS.c, hS.d⟩
  simp only [Act.put, List.setIfInBounds_toArray, List.set_cons_zero, List.set_cons_succ]
  apply St.mix_give
  · rfl
  · intro L u' wx hS hcl hrd hag
    go_simp
    try with_reducible rfl
  · exact fun L u' wx hS => ⟨hS.a, hS.b, hS.c, hS.d⟩
  simp only [Act.put, List.setIfInBounds_toArray, List.set_cons_zero, List.set_cons_succ]
  apply St.mix_give
  · rfl
  · intro L u' wx hS hcl hrd hag
    have q2 : wx.cell? ⟨w.heap.size, 2, none⟩ = some (.int .i64 kt) := hS.a.cell 2
    go_simp
    try with_reducible rfl
  · exact fun L u' wx hS => ⟨hS.a, hS.b, hS.c, hS.d⟩
  simp only [Act.put, List.setIfInBounds_toArray, List.set_cons_zero, List.set_cons_succ]
  apply St.mix_give
  · rfl
  · intro L u' wx hS hcl hrd hag
    go_simp
    try with_reducible rfl
  · exact fun L u' wx hS => ⟨hS.a, hS.b, hS.c, hS.d⟩
  simp only [Act.put, List.setIfInBounds_toArray, List.set_cons_zero, List.set_cons_succ]
  apply St.mix_give
  · rfl
  · intro L u' wx hS hcl hrd hag
    have q15 : wx.cell? ⟨w.heap.size, 15, none⟩ = some (.int .i64 ki) := hS.a.cell 15
    go_simp
    try with_reducible rfl
  · exact fun L u' wx hS => ⟨hS.a, hS.b, hS.c, hS.d⟩
  simp only [Act.put, List.setIfInBounds_toArray, List.set_cons_zero, List.set_cons_succ]
  apply St.mix_give
  · rfl
  · intro L u' wx hS hcl hrd hag
    go_simp
    try with_reducible rfl
  · exact fun L u' wx hS => ⟨hS.a, hS.b, hS.c, hS.d⟩
  simp only [Act.put, List.setIfInBounds_toArray, List.set_cons_zero, List.set_cons_succ]
  apply St.mix_give
  · rfl
  · intro L u' wx hS hcl hrd hag
    have q16 : wx.cell? ⟨w.heap.size, 16, none⟩ = some (.int .i64 kn) := hS.a.cell 16
    go_simp
    try with_reducible rfl
  · exact fun L u' wx hS => ⟨hS.a, hS.b, hS.c, hS.d⟩
  simp only [Act.put, List.setIfInBounds_toArray, List.set_cons_zero, List.set_cons_succ]
  apply St.mix_give
  · rfl
  · intro L u' wx hS hcl hrd hag
    go_simp
    try with_reducible rfl
  · exact fun L u' wx hS => ⟨hS.a, hS.b, hS.c, hS.d⟩
  simp only [Act.put, List.setIfInBounds_toArray, List.set_cons_zero, List.set_cons_succ]
  refine St.mix_skip rfl ?_ ?_
  · intro L u' wx hS hcl hrd hag
    have d1 : wx.cell? ⟨w.heap.size + 1 + 1, 1, none⟩ = some (.int .i64 (bif L 9 then kf else 0)) := hS.c.cell 1
    have z1 : wx.frozen? ⟨w.heap.size + 1 + 1, 1, none⟩ = false := hS.c.frozen 1
    refine ⟨(World.setCell wx ⟨w.heap.size + 1 + 1, 1, none⟩ (.int .i64 kf)), ?_, ⟨(hS.a.other (a := ⟨w.heap.size + 1 + 1, 1, none⟩) (by show w.heap.size + 1 + 1 ≠ w.heap.size; omega) (.int .i64 kf)), (hS.b.other (a := ⟨w.heap.size + 1 + 1, 1, none⟩) (by show w.heap.size + 1 + 1 ≠ w.heap.size + 1; omega) (.int .i64 kf)), AtL.to ((AtL.of hS.c).cell 1 (.int .i64 kf)) ?_, (hS.d.setCell (p := ⟨w.heap.size + 1 + 1, 1, none⟩) (by show w.heap.size ≤ w.heap.size + 1 + 1; omega) (.int .i64 kf))⟩⟩
    · go_simp
      try with_reducible rfl
    · rfl
  simp only [Act.put]
  apply St.mix_give
  · rfl
  · intro L u' wx hS hcl hrd hag
    go_simp
    try with_reducible rfl
  · exact fun L u' wx hS => ⟨hS.a, hS.b, hS.c, hS.d⟩
  simp only [Act.put, List.setIfInBounds_toArray, List.set_cons_zero, List.set_cons_succ]
  refine St.mix_skip rfl ?_ ?_
  · intro L u' wx hS hcl hrd hag
    have d2 : wx.cell? ⟨w.heap.size + 1 + 1, 2, none⟩ = some (.int .i64 (bif L 11 then kt else 0)) := hS.c.cell 2
    have z2 : wx.frozen? ⟨w.heap.size + 1 + 1, 2, none⟩ = false := hS.c.frozen 2
    refine ⟨(World.setCell wx ⟨w.heap.size + 1 + 1, 2, none⟩ (.int .i64 kt)), ?_, ⟨(hS.a.other (a := ⟨w.heap.size + 1 + 1, 2, none⟩) (by show w.heap.size + 1 + 1 ≠ w.heap.size; omega) (.int .i64 kt)), (hS.b.other (a := ⟨w.heap.size + 1 + 1, 2, none⟩) (by show w.heap.size + 1 + 1 ≠ w.heap.size + 1; omega) (.int .i64 kt)), AtL.to ((AtL.of hS.c).cell 2 (.int .i64 kt)) ?_, (hS.d.setCell (p := ⟨w.heap.size + 1 + 1, 2, none⟩) (by show w.heap.size ≤ w.heap.size + 1 + 1; omega) (.int .i64 kt))⟩⟩
    · go_simp
      try with_reducible rfl
    · rfl
  simp only [Act.put]
  apply St.mix_give
  · rfl
  · intro L u' wx hS hcl hrd hag
    go_simp
    try with_reducible rfl
  · exact fun L u' wx hS => ⟨hS.a, hS.b, hS.c, hS.d⟩
  simp only [Act.put, List.setIfInBounds_toArray, List.set_cons_zero, List.set_cons_succ]
  refine St.mix_skip rfl ?_ ?_
  · intro L u' wx hS hcl hrd hag
    have d15 : wx.cell? ⟨w.heap.size + 1 + 1, 15, none⟩ = some (.int .i64 (bif L 13 then ki else 0)) := hS.c.cell 15
    have z15 : wx.frozen? ⟨w.heap.size + 1 + 1, 15, none⟩ = false := hS.c.frozen 15
    refine ⟨(World.setCell wx ⟨w.heap.size + 1 + 1, 15, none⟩ (.int .i64 ki)), ?_, ⟨(hS.a.other (a := ⟨w.heap.size + 1 + 1, 15, none⟩) (by show w.heap.size + 1 + 1 ≠ w.heap.size; omega) (.int .i64 ki)), (hS.b.other (a := ⟨w.heap.size + 1 + 1, 15, none⟩) (by show w.heap.size + 1 + 1 ≠ w.heap.size + 1; omega) (.int .i64 ki)), AtL.to ((AtL.of hS.c).cell 15 (.int .i64 ki)) ?_, (hS.d.setCell (p := ⟨w.heap.size + 1 + 1, 15, none⟩) (by show w.heap.size ≤ w.heap.size + 1 + 1; omega) (.int .i64 ki))⟩⟩
    · go_simp
      try with_reducible rfl
    · rfl
  simp only [Act.put]
  apply St.mix_give
  · rfl
  · intro L u' wx hS hcl hrd hag
    go_simp
    try with_reducible rfl
  · exact fun L u' wx hS => ⟨hS.a, hS.b, hS.c, hS.d⟩
  simp only [Act.put, List.setIfInBounds_toArray, List.set_cons_zero, List.set_cons_succ]
  refine St.mix_skip rfl ?_ ?_
  · intro L u' wx hS hcl hrd hag
    have d16 : wx.cell? ⟨w.heap.size + 1 + 1, 16, none⟩ = some (.int .i64 (bif L 15 then kn else 0)) := hS.c.cell 16
    have z16 : wx.frozen? ⟨w.heap.size + 1 + 1, 16, none⟩ = false := hS.c.frozen 16
    refine ⟨(World.setCell wx ⟨w.heap.size + 1 + 1, 16, none⟩ (.int .i64 kn)), ?_, ⟨(hS.a.other (a := ⟨w.heap.size + 1 + 1, 16, none⟩) (by show w.heap.size + 1 + 1 ≠ w.heap.size; omega) (.int .i64 kn)), (hS.b.other (a := ⟨w.heap.size + 1 + 1, 16, none⟩) (by show w.heap.size + 1 + 1 ≠ w.heap.size + 1; omega) (.int .i64 kn)), AtL.to ((AtL.of hS.c).cell 16 (.int .i64 kn)) ?_, (hS.d.setCell (p := ⟨w.heap.size + 1 + 1, 16, none⟩) (by show w.heap.size ≤ w.heap.size + 1 + 1; omega) (.int .i64 kn))⟩⟩
    · go_simp
      try with_reducible rfl
    · rfl
  simp only [Act.put]
  refine St.mix_last ?_
  intro L W4 hS hall
  have B4 := hS.a
  have C4 := hS.b
  have D4 : BoxK (w.heap.size + 1 + 1) ⟨⟨2, kf, kt, kr, Wr.zero, ki, kn, Od.Ask.zero, 0, 0, 0, 0, Od.Rep.zero⟩, nilS, nilS⟩ W4 := by
    have := hS.c
    simp only [hall 9 (by decide), hall 11 (by decide), hall 13 (by decide), hall 15 (by decide), cond_true] at this
    exact this
  have hW4 := hS.d
  clear hS hall B3 C3 D3 hW3 hz3
  go_wp2_with (refine wpList_getK rfl rfl rfl ?_)
  refine ⟨⟨⟨2, kf, kt, kr, Wr.zero, ki, kn, Od.Ask.zero, 0, 0, 0, 0, Od.Rep.zero⟩, nilS, nilS⟩, D4, ?_⟩
  go_wp2_with (refine wpList_setK (o := ⟨⟨2, kf, kt, kr, Wr.zero, ki, kn, Od.Ask.zero, 0, 0, 0, 0, Od.Rep.zero⟩, nilS, nilS⟩) rfl rfl rfl rfl C4 rfl rfl ?_)
  intro W5 C5 _ hb5 _
  go_wp2_with fail
  exact bodyPost_ret (res_BoxK Tryz.results20 rfl C5) rfl ⟨rfl, hb5 _ _ hW4 (by omega)⟩
set_option maxHeartbeats 8000000 in
set_option maxRecDepth 100000 in
theorem own_3 (kf kt : Int) (kr : Int) (kw : Wr) (ki kn : Int) (ko : Od.Ask) (kc kq ks kh : Int) (kp : Rep) (A : Option Addr) (n c : Nat) (B : Option Addr) (m d : Nat) (w : World) : Calls Tryz.prog 20 #[kv ⟨⟨3, kf, kt, kr, kw, ki, kn, ko, kc, kq, ks, kh, kp⟩, .slice A n c, .slice B m d⟩] w fun e w' => e = .returned (kv ⟨⟨3, 0, kt, kr, Wr.zero, 0, 0, ko, 0, 0, 0, 0, Od.Rep.zero⟩, nilS, nilS⟩) ∧ Below w.heap.size w w' := by
  go_enter Tryz.func20, Tryz.ntmps20
  go_wp2_with (refine wpList_boxK (o := ⟨⟨3, kf, kt, kr, kw, ki, kn, ko, kc, kq, ks, kh, kp⟩, .slice A n c, .slice B m d⟩) rfl rfl rfl ?_)
  intro W0 B0 hb0 hz0
  go_wp2_with (refine wpList_newK rfl rfl ?_)
  intro W1 C1 hb1 hz1
  have B1 := B0.below (by omega) hb1
  have q0 : W1.cell? ⟨w.heap.size, 0, none⟩ = some (.int .i64 3) := B1.cell 0
  have q3 : W1.cell? ⟨w.heap.size, 3, none⟩ = some (.int .i64 kr) := B1.cell 3
  go_wp2_with (refine wpList_newK rfl rfl ?_)
  intro W2 D2 hb2 hz2
  have B2 := B1.below (by omega) hb2
  have C2 := C1.below (by omega) hb2
  go_wp2_with (refine wpList_setK (o := ⟨⟨3, 0, 0, kr, Wr.zero, 0, 0, Od.Ask.zero, 0, 0, 0, 0, Od.Rep.zero⟩, nilS, nilS⟩) rfl rfl rfl rfl D2 rfl rfl ?_)
  intro W3 D3 ho3 hb3 hz3
  have B3 := ho3 _ _ (by omega) B2
  have C3 := ho3 _ _ (by omega) C2
  have hW3 : Below w.heap.size w W3 := hb3 _ _ ((hb0.trans (hb1.mono (by omega))).trans (hb2.mono (by omega))) (by omega)
  clear B0 B1 B2 C1 C2 D2 ho3 hb3 hb2 hb1 hb0 q0 q3
  have q0 : W3.cell? ⟨w.heap.size, 0, none⟩ = some (.int .i64 3) := B3.cell 0
  go_wp2_with fail
  refine St.wp_region_mixed (fun L _ wx => RO w.heap.size w w.heap.size (w.heap.size + 1) (w.heap.size + 1 + 1) ⟨⟨3, kf, kt, kr, kw, ki, kn, ko, kc, kq, ks, kh, kp⟩, .slice A n c, .slice B m d⟩ (fun L : Nat → Bool => (⟨⟨3, 0, bif L 5 then kt else 0, kr, Wr.zero, 0, 0, bif L 7 then ko else Od.Ask.zero, 0, 0, 0, 0, Od.Rep.zero⟩, nilS, nilS⟩ : Kh)) L wx) (fun _ z => z = undef) (by kernel_rfl) (by kernel_rfl) (by kernel_rfl) ⟨B3.drew, C3.drew, D3.drew, hW3.drew⟩ ?_
  apply St.mix_give
  · rfl
  · intro L u' wx hS hcl hrd hag
    go_simp
    try with_reducible rfl
  · exact fun L u' wx hS => ⟨hS.a, hS.b, hS.c, hS.d⟩
  simp only [Act.put, List.setIfInBounds_toArray, List.set_cons_zero, List.set_cons_succ]
  apply St.mix_give
  · rfl
  · intro L u' wx hS hcl hrd hag
    have q2 : wx.cell? ⟨w.heap.size, 2, none⟩ = some (.int .i64 kt) := hS.a.cell 2
    go_simp
    try with_reducible rfl
  · exact fun L u' wx hS => ⟨hS.a, hS.b, hS.c, hS.d⟩
  simp only [Act.put, List.setIfInBounds_toArray, List.set_cons_zero, List.set_cons_succ]
  apply St.mix_give
  · rfl
  · intro L u' wx hS hcl hrd hag
    go_simp
    try with_reducible rfl
  · exact fun L u' wx hS => ⟨hS.a, hS.b, hS.c, hS.d⟩
  simp only [Act.put, List.setIfInBounds_toArray, List.set_cons_zero, List.set_cons_succ]
  apply St.mix_give
  · rfl
  · intro L u' wx hS hcl hrd hag
    have q17 : wx.cell? ⟨w.heap.size, 17, none⟩ = some (.int .i64 ko.kind) := hS.a.cell 17
    have q18 : wx.cell? ⟨w.heap.size, 18, none⟩ = some (.int .i64 ko.client) := hS.a.cell 18
    have q19 : wx.cell? ⟨w.heap.size, 19, none⟩ = some (.int .i64 ko.seq) := hS.a.cell 19
    have q20 : wx.cell? ⟨w.heap.size, 20, none⟩ = some (.string ko.key) := hS.a.cell 20
    have q21 : wx.cell? ⟨w.heap.size, 21, none⟩ = some (.string ko.til) := hS.a.cell 21
    have q22 : wx.cell? ⟨w.heap.size, 22, none⟩ = some (.string ko.val) := hS.a.cell 22
    have q23 : wx.cell? ⟨w.heap.size, 23, none⟩ = some (.string ko.old) := hS.a.cell 23
    have q24 : wx.cell? ⟨w.heap.size, 24, none⟩ = some (.bool ko.has) := hS.a.cell 24
    have q25 : wx.cell? ⟨w.heap.size, 25, none⟩ = some (.int .i64 ko.lim) := hS.a.cell 25
    have q26 : wx.cell? ⟨w.heap.size, 26, none⟩ = some (.int .i64 ko.id) := hS.a.cell 26
    have q27 : wx.cell? ⟨w.heap.size, 27, none⟩ = some (.int .i64 ko.node) := hS.a.cell 27
    go_simp
    try with_reducible rfl
  · exact fun L u' wx hS => ⟨hS.a, hS.b, hS.c, hS.d⟩
  simp only [Act.put, List.setIfInBounds_toArray, List.set_cons_zero, List.set_cons_succ]
  apply St.mix_give
  · rfl
  · intro L u' wx hS hcl hrd hag
    go_simp
    try with_reducible rfl
  · exact fun L u' wx hS => ⟨hS.a, hS.b, hS.c, hS.d⟩
  simp only [Act.put, List.setIfInBounds_toArray, List.set_cons_zero, List.set_cons_succ]
  refine St.mix_skip rfl ?_ ?_
  · intro L u' wx hS hcl hrd hag
    have d2 : wx.cell? ⟨w.heap.size + 1 + 1, 2, none⟩ = some (.int .i64 (bif L 5 then kt else 0)) := hS.c.cell 2
    have z2 : wx.frozen? ⟨w.heap.size + 1 + 1, 2, none⟩ = false := hS.c.frozen 2
    refine ⟨(World.setCell wx ⟨w.heap.size + 1 + 1, 2, none⟩ (.int .i64 kt)), ?_, ⟨(hS.a.other (a := ⟨w.heap.size + 1 + 1, 2, none⟩) (by show w.heap.size + 1 + 1 ≠ w.heap.size; omega) (.int .i64 kt)), (hS.b.other (a := ⟨w.heap.size + 1 + 1, 2, none⟩) (by show w.heap.size + 1 + 1 ≠ w.heap.size + 1; omega) (.int .i64 kt)), AtL.to ((AtL.of hS.c).cell 2 (.int .i64 kt)) ?_, (hS.d.setCell (p := ⟨w.heap.size + 1 + 1, 2, none⟩) (by show w.heap.size ≤ w.heap.size + 1 + 1; omega) (.int .i64 kt))⟩⟩
    · go_simp
      try with_reducible rfl
    · rfl
  simp only [Act.put]
  apply St.mix_give
  · rfl
  · intro L u' wx hS hcl hrd hag
    go_simp
    try with_reducible rfl
  · exact fun L u' wx hS => ⟨hS.a, hS.b, hS.c, hS.d⟩
  simp only [Act.put, List.setIfInBounds_toArray, List.set_cons_zero, List.set_cons_succ]
  refine St.mix_skip rfl ?_ ?_
  · intro L u' wx hS hcl hrd hag
    have d17 : wx.cell? ⟨w.heap.size + 1 + 1, 17, none⟩ = some (.int .i64 (bif L 7 then ko else Od.Ask.zero).kind) := hS.c.cell 17
    have z17 : wx.frozen? ⟨w.heap.size + 1 + 1, 17, none⟩ = false := hS.c.frozen 17
    have d18 : wx.cell? ⟨w.heap.size + 1 + 1, 18, none⟩ = some (.int .i64 (bif L 7 then ko else Od.Ask.zero).client) := hS.c.cell 18
    have z18 : wx.frozen? ⟨w.heap.size + 1 + 1, 18, none⟩ = false := hS.c.frozen 18
    have d19 : wx.cell? ⟨w.heap.size + 1 + 1, 19, none⟩ = some (.int .i64 (bif L 7 then ko else Od.Ask.zero).seq) := hS.c.cell 19
    have z19 : wx.frozen? ⟨w.heap.size + 1 + 1, 19, none⟩ = false := hS.c.frozen 19
    have d20 : wx.cell? ⟨w.heap.size + 1 + 1, 20, none⟩ = some (.string (bif L 7 then ko else Od.Ask.zero).key) := hS.c.cell 20
    have z20 : wx.frozen? ⟨w.heap.size + 1 + 1, 20, none⟩ = false := hS.c.frozen 20
    have d21 : wx.cell? ⟨w.heap.size + 1 + 1, 21, none⟩ = some (.string (bif L 7 then ko else Od.Ask.zero).til) := hS.c.cell 21
    have z21 : wx.frozen? ⟨w.heap.size + 1 + 1, 21, none⟩ = false := hS.c.frozen 21
    have d22 : wx.cell? ⟨w.heap.size + 1 + 1, 22, none⟩ = some (.string (bif L 7 then ko else Od.Ask.zero).val) := hS.c.cell 22
    have z22 : wx.frozen? ⟨w.heap.size + 1 + 1, 22, none⟩ = false := hS.c.frozen 22
    have d23 : wx.cell? ⟨w.heap.size + 1 + 1, 23, none⟩ = some (.string (bif L 7 then ko else Od.Ask.zero).old) := hS.c.cell 23
    have z23 : wx.frozen? ⟨w.heap.size + 1 + 1, 23, none⟩ = false := hS.c.frozen 23
    have d24 : wx.cell? ⟨w.heap.size + 1 + 1, 24, none⟩ = some (.bool (bif L 7 then ko else Od.Ask.zero).has) := hS.c.cell 24
    have z24 : wx.frozen? ⟨w.heap.size + 1 + 1, 24, none⟩ = false := hS.c.frozen 24
    have d25 : wx.cell? ⟨w.heap.size + 1 + 1, 25, none⟩ = some (.int .i64 (bif L 7 then ko else Od.Ask.zero).lim) := hS.c.cell 25
    have z25 : wx.frozen? ⟨w.heap.size + 1 + 1, 25, none⟩ = false := hS.c.frozen 25
    have d26 : wx.cell? ⟨w.heap.size + 1 + 1, 26, none⟩ = some (.int .i64 (bif L 7 then ko else Od.Ask.zero).id) := hS.c.cell 26
    have z26 : wx.frozen? ⟨w.heap.size + 1 + 1, 26, none⟩ = false := hS.c.frozen 26
    have d27 : wx.cell? ⟨w.heap.size + 1 + 1, 27, none⟩ = some (.int .i64 (bif L 7 then ko else Od.Ask.zero).node) := hS.c.cell 27
    have z27 : wx.frozen? ⟨w.heap.size + 1 + 1, 27, none⟩ = false := hS.c.frozen 27
    refine ⟨(World.setCell (World.setCell (World.setCell (World.setCell (World.setCell (World.setCell (World.setCell (World.setCell (World.setCell (World.setCell (World.setCell wx ⟨w.heap.size + 1 + 1, 17, none⟩ (.int .i64 ko.kind)) ⟨w.heap.size + 1 + 1, 18, none⟩ (.int .i64 ko.client)) ⟨w.heap.size + 1 + 1, 19, none⟩ (.int .i64 ko.seq)) ⟨w.heap.size + 1 + 1, 20, none⟩ (.string ko.key)) ⟨w.heap.size + 1 + 1, 21, none⟩ (.string ko.til)) ⟨w.heap.size + 1 + 1, 22, none⟩ (.string ko.val)) ⟨w.heap.size + 1 + 1, 23, none⟩ (.string ko.old)) ⟨w.heap.size + 1 + 1, 24, none⟩ (.bool ko.has)) ⟨w.heap.size + 1 + 1, 25, none⟩ (.int .i64 ko.lim)) ⟨w.heap.size + 1 + 1, 26, none⟩ (.int .i64 ko.id)) ⟨w.heap.size + 1 + 1, 27, none⟩ (.int .i64 ko.node)), ?_, ⟨(((((((((((hS.a.other (a := ⟨w.heap.size + 1 + 1, 17, none⟩) (by show w.heap.size + 1 + 1 ≠ w.heap.size; omega) (.int .i64 ko.kind)).other (a := ⟨w.heap.size + 1 + 1, 18, none⟩) (by show w.heap.size + 1 + 1 ≠ w.heap.size; omega) (.int .i64 ko.client)).other (a := ⟨w.heap.size + 1 + 1, 19, none⟩) (by show w.heap.size + 1 + 1 ≠ w.heap.size; omega) (.int .i64 ko.seq)).other (a := ⟨w.heap.size + 1 + 1, 20, none⟩) (by show w.heap.size + 1 + 1 ≠ w.heap.size; omega) (.string ko.key)).other (a := ⟨w.heap.size + 1 + 1, 21, none⟩) (by show w.heap.size + 1 + 1 ≠ w.heap.size; omega) (.string ko.til)).other (a := ⟨w.heap.size + 1 + 1, 22, none⟩) (by show w.heap.size + 1 + 1 ≠ w.heap.size; omega) (.string ko.val)).other (a := ⟨w.heap.size + 1 + 1, 23, none⟩) (by show w.heap.size + 1 + 1 ≠ w.heap.size; omega) (.string ko.old)).other (a := ⟨w.heap.size + 1 + 1, 24, none⟩) (by show w.heap.size + 1 + 1 ≠ w.heap.size; omega) (.bool ko.has)).other (a := ⟨w.heap.size + 1 + 1, 25, none⟩) (by show w.heap.size + 1 + 1 ≠ w.heap.size; omega) (.int .i64 ko.lim)).other (a := ⟨w.heap.size + 1 + 1, 26, none⟩) (by show w.heap.size + 1 + 1 ≠ w.heap.size; omega) (.int .i64 ko.id)).other (a := ⟨w.heap.size + 1 + 1, 27, none⟩) (by show w.heap.size + 1 + 1 ≠ w.heap.size; omega) (.int .i64 ko.node)), (((((((((((hS.b.other (a := ⟨w.heap.size + 1 + 1, 17, none⟩) (by show w.heap.size + 1 + 1 ≠ w.heap.size + 1; omega) (.int .i64 ko.kind)).other (a := ⟨w.heap.size + 1 + 1, 18, none⟩) (by show w.heap.size + 1 + 1 ≠ w.heap.size + 1; omega) (.int .i64 ko.client)).other (a := ⟨w.heap.size + 1 + 1, 19, none⟩) (by show w.heap.size + 1 + 1 ≠ w.heap.size + 1; omega) (.int .i64 ko.seq)).other (a := ⟨w.heap.size + 1 + 1, 20, none⟩) (by show w.heap.size + 1 + 1 ≠ w.heap.size + 1; omega) (.string ko.key)).other (a := ⟨w.heap.size + 1 + 1, 21, none⟩) (by show w.heap.size + 1 + 1 ≠ w.heap.size + 1; omega) (.string ko.til)).other (a := ⟨w.heap.size + 1 + 1, 22, none⟩) (by show w.heap.size + 1 + 1 ≠ w.heap.size + 1; omega) (.string ko.val)).other (a := ⟨w.heap.size + 1 + 1, 23, none⟩) (by show w.heap.size + 1 + 1 ≠ w.heap.size + 1; omega) (.string ko.old)).other (a := ⟨w.heap.size + 1 + 1, 24, none⟩) (by show w.heap.size + 1 + 1 ≠ w.heap.size + 1; omega) (.bool ko.has)).other (a := ⟨w.heap.size + 1 + 1, 25, none⟩) (by show w.heap.size + 1 + 1 ≠ w.heap.size + 1; omega) (.int .i64 ko.lim)).other (a := ⟨w.heap.size + 1 + 1, 26, none⟩) (by show w.heap.size + 1 + 1 ≠ w.heap.size + 1; omega) (.int .i64 ko.id)).other (a := ⟨w.heap.size + 1 + 1, 27, none⟩) (by show w.heap.size + 1 + 1 ≠ w.heap.size + 1; omega) (.int .i64 ko.node)), AtL.to ((((((((((((AtL.of hS.c).cell 17 (.int .i64 ko.kind)).cell 18 (.int .i64 ko.client)).cell 19 (.int .i64 ko.seq)).cell 20 (.string ko.key)).cell 21 (.string ko.til)).cell 22 (.string ko.val)).cell 23 (.string ko.old)).cell 24 (.bool ko.has)).cell 25 (.int .i64 ko.lim)).cell 26 (.int .i64 ko.id)).cell 27 (.int .i64 ko.node)) ?_, (((((((((((hS.d.setCell (p := ⟨w.heap.size + 1 + 1, 17, none⟩) (by show w.heap.size ≤ w.heap.size + 1 + 1; omega) (.int .i64 ko.kind)).setCell (p := ⟨w.heap.size + 1 + 1, 18, none⟩) (by show w.heap.size ≤ w.heap.size + 1 + 1; omega) (.int .i64 ko.client)).setCell (p := ⟨w.heap.size + 1 + 1, 19, none⟩) (by show w.heap.size ≤ w.heap.size + 1 + 1; omega) (.int .i64 ko.seq)).setCell (p := ⟨w.heap.size + 1 + 1, 20, none⟩) (by show w.heap.size ≤ w.heap.size + 1 + 1; omega) (.string ko.key)).setCell (p := ⟨w.heap.size + 1 + 1, 21, none⟩) (by show w.heap.size ≤ w.heap.size + 1 + 1; omega) (.string ko.til)).setCell (p := ⟨w.heap.size + 1 + 1, 22, none⟩) (by show w.heap.size ≤ w.heap.size + 1 + 1; omega) (.string ko.val)).setCell (p := ⟨w.heap.size + 1 + 1, 23, none⟩) (by show w.heap.size ≤ w.heap.size + 1 + 1; omega) (.string ko.old)).setCell (p := ⟨w.heap.size + 1 + 1, 24, none⟩) (by show w.heap.size ≤ w.heap.size + 1 + 1; omega) (.bool ko.has)).setCell (p := ⟨w.heap.size + 1 + 1, 25, none⟩) (by show w.heap.size ≤ w.heap.size + 1 + 1; omega) (.int .i64 ko.lim)).setCell (p := ⟨w.heap.size + 1 + 1, 26, none⟩) (by show w.heap.size ≤ w.heap.size + 1 + 1; omega) (.int .i64 ko.id)).setCell (p := ⟨w.heap.size + 1 + 1, 27, none⟩) (by show w.heap.size ≤ w.heap.size + 1 + 1; omega) (.int .i64 ko.node))⟩⟩
    · go_simp
      try with_reducible rfl
    · rfl
  simp only [Act.put]
  refine St.mix_last ?_
  intro L W4 hS hall
  have B4 := hS.a
  have C4 := hS.b
  have D4 : BoxK (w.heap.size + 1 + 1) ⟨⟨3, 0, kt, kr, Wr.zero, 0, 0, ko, 0, 0, 0, 0, Od.Rep.zero⟩, nilS, nilS⟩ W4 := by
    have := hS.c
    simp only [hall 5 (by decide), hall 7 (by decide), cond_true] at this
    exact this
  have hW4 := hS.d
  clear hS hall B3 C3 D3 hW3 hz3
  go_wp2_with (refine wpList_getK rfl rfl rfl ?_)
  refine ⟨⟨⟨3, 0, kt, kr, Wr.zero, 0, 0, ko, 0, 0, 0, 0, Od.Rep.zero⟩, nilS, nilS⟩, D4, ?_⟩
  go_wp2_with (refine wpList_setK (o := ⟨⟨3, 0, kt, kr, Wr.zero, 0, 0, ko, 0, 0, 0, 0, Od.Rep.zero⟩, nilS, nilS⟩) rfl rfl rfl rfl C4 rfl rfl ?_)
  intro W5 C5 _ hb5 _
  go_wp2_with fail
  exact bodyPost_ret (res_BoxK Tryz.results20 rfl C5) rfl ⟨rfl, hb5 _ _ hW4 (by omega)⟩
set_option maxHeartbeats 8000000 in
set_option maxRecDepth 100000 in
theorem own_41 (kf kt : Int) (kr : Int) (kw : Wr) (ki kn : Int) (ko : Od.Ask) (kc kq ks kh : Int) (kp : Rep) (A : Option Addr) (n c : Nat) (B : Option Addr) (m d : Nat) (h : ks = 1) (w : World) : Calls Tryz.prog 20 #[kv ⟨⟨4, kf, kt, kr, kw, ki, kn, ko, kc, kq, ks, kh, kp⟩, .slice A n c, .slice B m d⟩] w fun e w' => e = .returned (kv ⟨⟨4, kf, 0, kr, Wr.zero, 0, 0, Od.Ask.zero, kc, kq, 1, 0, kp⟩, nilS, (.slice B m d)⟩) ∧ Below w.heap.size w w' := by
  subst h
  go_enter Tryz.func20, Tryz.ntmps20
  go_wp2_with (refine wpList_boxK (o := ⟨⟨4, kf, kt, kr, kw, ki, kn, ko, kc, kq, 1, kh, kp⟩, .slice A n c, .slice B m d⟩) rfl rfl rfl ?_)
  intro W0 B0 hb0 hz0
  go_wp2_with (refine wpList_newK rfl rfl ?_)
  intro W1 C1 hb1 hz1
  have B1 := B0.below (by omega) hb1
  have q0 : W1.cell? ⟨w.heap.size, 0, none⟩ = some (.int .i64 4) := B1.cell 0
  have q3 : W1.cell? ⟨w.heap.size, 3, none⟩ = some (.int .i64 kr) := B1.cell 3
  go_wp2_with (refine wpList_newK rfl rfl ?_)
  intro W2 D2 hb2 hz2
  have B2 := B1.below (by omega) hb2
  have C2 := C1.below (by omega) hb2
  go_wp2_with (refine wpList_setK (o := ⟨⟨4, 0, 0, kr, Wr.zero, 0, 0, Od.Ask.zero, 0, 0, 0, 0, Od.Rep.zero⟩, nilS, nilS⟩) rfl rfl rfl rfl D2 rfl rfl ?_)
  intro W3 D3 ho3 hb3 hz3
  have B3 := ho3 _ _ (by omega) B2
  have C3 := ho3 _ _ (by omega) C2
  have hW3 : Below w.heap.size w W3 := hb3 _ _ ((hb0.trans (hb1.mono (by omega))).trans (hb2.mono (by omega))) (by omega)
  clear B0 B1 B2 C1 C2 D2 ho3 hb3 hb2 hb1 hb0 q0 q3
  have q0 : W3.cell? ⟨w.heap.size, 0, none⟩ = some (.int .i64 4) := B3.cell 0
  go_wp2_with fail
  refine St.wp_region_mixed (fun L _ wx => RO w.heap.size w w.heap.size (w.heap.size + 1) (w.heap.size + 1 + 1) ⟨⟨4, kf, kt, kr, kw, ki, kn, ko, kc, kq, 1, kh, kp⟩, .slice A n c, .slice B m d⟩ (fun L : Nat → Bool => (⟨⟨4, bif L 9 then kf else 0, 0, kr, Wr.zero, 0, 0, Od.Ask.zero, bif L 11 then kc else 0, bif L 13 then kq else 0, bif L 15 then 1 else 0, 0, Od.Rep.zero⟩, nilS, nilS⟩ : Kh)) L wx) (fun _ z => z = undef) (by kernel_rfl) (by kernel_rfl) (by kernel_rfl) ⟨B3.drew, C3.drew, D3.drew, hW3.drew⟩ ?_
  apply St.mix_give
  · rfl
  · intro L u' wx hS hcl hrd hag
    go_simp
    try with_reducible rfl
  · exact fun L u' wx hS => ⟨hS.a, hS.b, hS.c, hS.d⟩
  simp only [Act.put, List.setIfInBounds_toArray, List.set_cons_zero, List.set_cons_succ]
  apply St.mix_give
  · rfl
  · intro L u' wx hS hcl hrd hag
    have q1 : wx.cell? ⟨w.heap.size, 1, none⟩ = some (.int .i64 kf) := hS.a.cell 1
    go_simp
    try with_reducible rfl
  · exact fun L u' wx hS => ⟨hS.a, hS.b, hS.c, hS.d⟩
  simp only [Act.put, List.setIfInBounds_toArray, List.set_cons_zero, List.set_cons_succ]
  apply St.mix_give
  · rfl
  · intro L u' wx hS hcl hrd hag
    go_simp
    try with_reducible rfl
  · exact fun L u' wx hS => ⟨hS.a, hS.b, hS.c, hS.d⟩
  simp only [Act.put, List.setIfInBounds_toArray, List.set_cons_zero, List.set_cons_succ]
  apply St.mix_give
  · rfl
  · intro L u' wx hS hcl hrd hag
    have q28 : wx.cell? ⟨w.heap.size, 28, none⟩ = some (.int .i64 kc) := hS.a.cell 28
    go_simp
    try with_reducible rfl
  · exact fun L u' wx hS => ⟨hS.a, hS.b, hS.c, hS.d⟩
  simp only [Act.put, List.setIfInBounds_toArray, List.set_cons_zero, List.set_cons_succ]
  apply St.mix_give
  · rfl
  · intro L u' wx hS hcl hrd hag
    go_simp
    try with_reducible rfl
  · exact fun L u' wx hS => ⟨hS.a, hS.b, hS.c, hS.d⟩
  simp only [Act.put, List.setIfInBounds_toArray, List.set_cons_zero, List.set_cons_succ]
  apply St.mix_give
  · rfl
  · intro L u' wx hS hcl hrd hag
    have q29 : wx.cell? ⟨w.heap.size, 29, none⟩ = some (.int .i64 kq) := hS.a.cell 29
    go_simp
    try with_reducible rfl
  · exact fun L u' wx hS => ⟨hS.a, hS.b, hS.c, hS.d⟩
  simp only [Act.put, List.setIfInBounds_toArray, List.set_cons_zero, List.set_cons_succ]
  apply St.mix_give
  · rfl
  · intro L u' wx hS hcl hrd hag
    go_simp
    try with_reducible rfl
  · exact fun L u' wx hS => ⟨hS.a, hS.b, hS.c, hS.d⟩
  simp only [Act.put, List.setIfInBounds_toArray, List.set_cons_zero, List.set_cons_succ]
  apply St.mix_give
  · rfl
  · intro L u' wx hS hcl hrd hag
    have q30 : wx.cell? ⟨w.heap.size, 30, none⟩ = some (.int .i64 1) := hS.a.cell 30
    go_simp
    try with_reducible rfl
  · exact fun L u' wx hS => ⟨hS.a, hS.b, hS.c, hS.d⟩
  simp only [Act.put, List.setIfInBounds_toArray, List.set_cons_zero, List.set_cons_succ]
  apply St.mix_give
  · rfl
  · intro L u' wx hS hcl hrd hag
    go_simp
    try with_reducible rfl
  · exact fun L u' wx hS => ⟨hS.a, hS.b, hS.c, hS.d⟩
  simp only [Act.put, List.setIfInBounds_toArray, List.set_cons_zero, List.set_cons_succ]
  refine St.mix_skip rfl ?_ ?_
  · intro L u' wx hS hcl hrd hag
    have d1 : wx.cell? ⟨w.heap.size + 1 + 1, 1, none⟩ = some (.int .i64 (bif L 9 then kf else 0)) := hS.c.cell 1
    have z1 : wx.frozen? ⟨w.heap.size + 1 + 1, 1, none⟩ = false := hS.c.frozen 1
    refine ⟨(World.setCell wx ⟨w.heap.size + 1 + 1, 1, none⟩ (.int .i64 kf)), ?_, ⟨(hS.a.other (a := ⟨w.heap.size + 1 + 1, 1, none⟩) (by show w.heap.size + 1 + 1 ≠ w.heap.size; omega) (.int .i64 kf)), (hS.b.other (a := ⟨w.heap.size + 1 + 1, 1, none⟩) (by show w.heap.size + 1 + 1 ≠ w.heap.size + 1; omega) (.int .i64 kf)), AtL.to ((AtL.of hS.c).cell 1 (.int .i64 kf)) ?_, (hS.d.setCell (p := ⟨w.heap.size + 1 + 1, 1, none⟩) (by show w.heap.size ≤ w.heap.size + 1 + 1; omega) (.int .i64 kf))⟩⟩
    · go_simp
      try with_reducible rfl
    · rfl
  simp only [Act.put]
  apply St.mix_give
  · rfl
  · intro L u' wx hS hcl hrd hag
    go_simp
    try with_reducible rfl
  · exact fun L u' wx hS => ⟨hS.a, hS.b, hS.c, hS.d⟩
  simp only [Act.put, List.setIfInBounds_toArray, List.set_cons_zero, List.set_cons_succ]
  refine St.mix_skip rfl ?_ ?_
  · intro L u' wx hS hcl hrd hag
    have d28 : wx.cell? ⟨w.heap.size + 1 + 1, 28, none⟩ = some (.int .i64 (bif L 11 then kc else 0)) := hS.c.cell 28
    have z28 : wx.frozen? ⟨w.heap.size + 1 + 1, 28, none⟩ = false := hS.c.frozen 28
    refine ⟨(World.setCell wx ⟨w.heap.size + 1 + 1, 28, none⟩ (.int .i64 kc)), ?_, ⟨(hS.a.other (a := ⟨w.heap.size + 1 + 1, 28, none⟩) (by show w.heap.size + 1 + 1 ≠ w.heap.size; omega) (.int .i64 kc)), (hS.b.other (a := ⟨w.heap.size + 1 + 1, 28, none⟩) (by show w.heap.size + 1 + 1 ≠ w.heap.size + 1; omega) (.int .i64 kc)), AtL.to ((AtL.of hS.c).cell 28 (.int .i64 kc)) ?_, (hS.d.setCell (p := ⟨w.heap.size + 1 + 1, 28, none⟩) (by show w.heap.size ≤ w.heap.size + 1 + 1; omega) (.int .i64 kc))⟩⟩
    · go_simp
      try with_reducible rfl
    · rfl
  simp only [Act.put]
  apply St.mix_give
  · rfl
  · intro L u' wx hS hcl hrd hag
    go_simp
    try with_reducible rfl
  · exact fun L u' wx hS => ⟨hS.a, hS.b, hS.c, hS.d⟩
  simp only [Act.put, List.setIfInBounds_toArray, List.set_cons_zero, List.set_cons_succ]
  refine St.mix_skip rfl ?_ ?_
  · intro L u' wx hS hcl hrd hag
    have d29 : wx.cell? ⟨w.heap.size + 1 + 1, 29, none⟩ = some (.int .i64 (bif L 13 then kq else 0)) := hS.c.cell 29
    have z29 : wx.frozen? ⟨w.heap.size + 1 + 1, 29, none⟩ = false := hS.c.frozen 29
    refine ⟨(World.setCell wx ⟨w.heap.size + 1 + 1, 29, none⟩ (.int .i64 kq)), ?_, ⟨(hS.a.other (a := ⟨w.heap.size + 1 + 1, 29, none⟩) (by show w.heap.size + 1 + 1 ≠ w.heap.size; omega) (.int .i64 kq)), (hS.b.other (a := ⟨w.heap.size + 1 + 1, 29, none⟩) (by show w.heap.size + 1 + 1 ≠ w.heap.size + 1; omega) (.int .i64 kq)), AtL.to ((AtL.of hS.c).cell 29 (.int .i64 kq)) ?_, (hS.d.setCell (p := ⟨w.heap.size + 1 + 1, 29, none⟩) (by show w.heap.size ≤ w.heap.size + 1 + 1; omega) (.int .i64 kq))⟩⟩
    · go_simp
      try with_reducible rfl
    · rfl
  simp only [Act.put]
  apply St.mix_give
  · rfl
  · intro L u' wx hS hcl hrd hag
    go_simp
    try with_reducible rfl
  · exact fun L u' wx hS => ⟨hS.a, hS.b, hS.c, hS.d⟩
  simp only [Act.put, List.setIfInBounds_toArray, List.set_cons_zero, List.set_cons_succ]
  refine St.mix_skip rfl ?_ ?_
  · intro L u' wx hS hcl hrd hag
    have d30 : wx.cell? ⟨w.heap.size + 1 + 1, 30, none⟩ = some (.int .i64 (bif L 15 then 1 else 0)) := hS.c.cell 30
    have z30 : wx.frozen? ⟨w.heap.size + 1 + 1, 30, none⟩ = false := hS.c.frozen 30
    refine ⟨(World.setCell wx ⟨w.heap.size + 1 + 1, 30, none⟩ (.int .i64 1)), ?_, ⟨(hS.a.other (a := ⟨w.heap.size + 1 + 1, 30, none⟩) (by show w.heap.size + 1 + 1 ≠ w.heap.size; omega) (.int .i64 1)), (hS.b.other (a := ⟨w.heap.size + 1 + 1, 30, none⟩) (by show w.heap.size + 1 + 1 ≠ w.heap.size + 1; omega) (.int .i64 1)), AtL.to ((AtL.of hS.c).cell 30 (.int .i64 1)) ?_, (hS.d.setCell (p := ⟨w.heap.size + 1 + 1, 30, none⟩) (by show w.heap.size ≤ w.heap.size + 1 + 1; omega) (.int .i64 1))⟩⟩
    · go_simp
      try with_reducible rfl
    · rfl
  simp only [Act.put]
  refine St.mix_last ?_
  intro L W4 hS hall
  have B4 := hS.a
  have C4 := hS.b
  have D4 : BoxK (w.heap.size + 1 + 1) ⟨⟨4, kf, 0, kr, Wr.zero, 0, 0, Od.Ask.zero, kc, kq, 1, 0, Od.Rep.zero⟩, nilS, nilS⟩ W4 := by
    have := hS.c
    simp only [hall 9 (by decide), hall 11 (by decide), hall 13 (by decide), hall 15 (by decide), cond_true] at this
    exact this
  have hW4 := hS.d
  clear hS hall B3 C3 D3 hW3 hz3
  have q30 : W4.cell? ⟨w.heap.size, 30, none⟩ = some (.int .i64 1) := B4.cell 30
  have q32 : W4.cell? ⟨w.heap.size, 32, none⟩ = some (.int .i64 kp.code) := B4.cell 32
  have d32 : W4.cell? ⟨w.heap.size + 1 + 1, 32, none⟩ = some (.int .i64 0) := D4.cell 32
  have z32 : W4.frozen? ⟨w.heap.size + 1 + 1, 32, none⟩ = false := D4.frozen 32
  have q33 : W4.cell? ⟨w.heap.size, 33, none⟩ = some (.int .i64 kp.err) := B4.cell 33
  have d33 : W4.cell? ⟨w.heap.size + 1 + 1, 33, none⟩ = some (.int .i64 0) := D4.cell 33
  have z33 : W4.frozen? ⟨w.heap.size + 1 + 1, 33, none⟩ = false := D4.frozen 33
  have q34 : W4.cell? ⟨w.heap.size, 34, none⟩ = some (.bool kp.has) := B4.cell 34
  have d34 : W4.cell? ⟨w.heap.size + 1 + 1, 34, none⟩ = some (.bool false) := D4.cell 34
  have z34 : W4.frozen? ⟨w.heap.size + 1 + 1, 34, none⟩ = false := D4.frozen 34
  have q35 : W4.cell? ⟨w.heap.size, 35, none⟩ = some (.string kp.val) := B4.cell 35
  have d35 : W4.cell? ⟨w.heap.size + 1 + 1, 35, none⟩ = some (.string Od.E0) := D4.cell 35
  have z35 : W4.frozen? ⟨w.heap.size + 1 + 1, 35, none⟩ = false := D4.frozen 35
  have q36 : W4.cell? ⟨w.heap.size, 36, none⟩ = some (.slice B m d) := B4.cell 36
  have d36 : W4.cell? ⟨w.heap.size + 1 + 1, 36, none⟩ = some (nilS) := D4.cell 36
  have z36 : W4.frozen? ⟨w.heap.size + 1 + 1, 36, none⟩ = false := D4.frozen 36
  go_wp2_with (refine wpList_getK rfl rfl rfl ?_)
  refine ⟨⟨⟨4, kf, 0, kr, Wr.zero, 0, 0, Od.Ask.zero, kc, kq, 1, 0, kp⟩, nilS, (.slice B m d)⟩, AtL.to ((((((AtL.of D4).cell 32 (.int .i64 kp.code)).cell 33 (.int .i64 kp.err)).cell 34 (.bool kp.has)).cell 35 (.string kp.val)).cell 36 (.slice B m d)) rfl, ?_⟩
  have C6 := (((((C4.other (a := ⟨w.heap.size + 1 + 1, 32, none⟩) (by show w.heap.size + 1 + 1 ≠ w.heap.size + 1; omega) (.int .i64 kp.code)).other (a := ⟨w.heap.size + 1 + 1, 33, none⟩) (by show w.heap.size + 1 + 1 ≠ w.heap.size + 1; omega) (.int .i64 kp.err)).other (a := ⟨w.heap.size + 1 + 1, 34, none⟩) (by show w.heap.size + 1 + 1 ≠ w.heap.size + 1; omega) (.bool kp.has)).other (a := ⟨w.heap.size + 1 + 1, 35, none⟩) (by show w.heap.size + 1 + 1 ≠ w.heap.size + 1; omega) (.string kp.val)).other (a := ⟨w.heap.size + 1 + 1, 36, none⟩) (by show w.heap.size + 1 + 1 ≠ w.heap.size + 1; omega) (.slice B m d))
  have hW6 := (((((hW4.setCell (p := ⟨w.heap.size + 1 + 1, 32, none⟩) (by show w.heap.size ≤ w.heap.size + 1 + 1; omega) (.int .i64 kp.code)).setCell (p := ⟨w.heap.size + 1 + 1, 33, none⟩) (by show w.heap.size ≤ w.heap.size + 1 + 1; omega) (.int .i64 kp.err)).setCell (p := ⟨w.heap.size + 1 + 1, 34, none⟩) (by show w.heap.size ≤ w.heap.size + 1 + 1; omega) (.bool kp.has)).setCell (p := ⟨w.heap.size + 1 + 1, 35, none⟩) (by show w.heap.size ≤ w.heap.size + 1 + 1; omega) (.string kp.val)).setCell (p := ⟨w.heap.size + 1 + 1, 36, none⟩) (by show w.heap.size ≤ w.heap.size + 1 + 1; omega) (.slice B m d))
  go_wp2_with (refine wpList_setK (o := ⟨⟨4, kf, 0, kr, Wr.zero, 0, 0, Od.Ask.zero, kc, kq, 1, 0, kp⟩, nilS, (.slice B m d)⟩) rfl rfl rfl rfl C6 rfl rfl ?_)
  intro W5 C5 _ hb5 _
  go_wp2_with fail
  exact bodyPost_ret (res_BoxK Tryz.results20 rfl C5) rfl ⟨rfl, hb5 _ _ hW6 (by omega)⟩
set_option maxHeartbeats 8000000 in
set_option maxRecDepth 100000 in
theorem own_42 (kf kt : Int) (kr : Int) (kw : Wr) (ki kn : Int) (ko : Od.Ask) (kc kq ks kh : Int) (kp : Rep) (A : Option Addr) (n c : Nat) (B : Option Addr) (m d : Nat) (h : ks = 2) (w : World) : Calls Tryz.prog 20 #[kv ⟨⟨4, kf, kt, kr, kw, ki, kn, ko, kc, kq, ks, kh, kp⟩, .slice A n c, .slice B m d⟩] w fun e w' => e = .returned (kv ⟨⟨4, kf, 0, kr, Wr.zero, 0, 0, Od.Ask.zero, kc, kq, 2, kh, Od.Rep.zero⟩, nilS, nilS⟩) ∧ Below w.heap.size w w' := by
  subst h
  go_enter Tryz.func20, Tryz.ntmps20
  go_wp2_with (refine wpList_boxK (o := ⟨⟨4, kf, kt, kr, kw, ki, kn, ko, kc, kq, 2, kh, kp⟩, .slice A n c, .slice B m d⟩) rfl rfl rfl ?_)
  intro W0 B0 hb0 hz0
  go_wp2_with (refine wpList_newK rfl rfl ?_)
  intro W1 C1 hb1 hz1
  have B1 := B0.below (by omega) hb1
  have q0 : W1.cell? ⟨w.heap.size, 0, none⟩ = some (.int .i64 4) := B1.cell 0
  have q3 : W1.cell? ⟨w.heap.size, 3, none⟩ = some (.int .i64 kr) := B1.cell 3
  go_wp2_with (refine wpList_newK rfl rfl ?_)
  intro W2 D2 hb2 hz2
  have B2 := B1.below (by omega) hb2
  have C2 := C1.below (by omega) hb2
  go_wp2_with (refine wpList_setK (o := ⟨⟨4, 0, 0, kr, Wr.zero, 0, 0, Od.Ask.zero, 0, 0, 0, 0, Od.Rep.zero⟩, nilS, nilS⟩) rfl rfl rfl rfl D2 rfl rfl ?_)
  intro W3 D3 ho3 hb3 hz3
  have B3 := ho3 _ _ (by omega) B2
  have C3 := ho3 _ _ (by omega) C2
  have hW3 : Below w.heap.size w W3 := hb3 _ _ ((hb0.trans (hb1.mono (by omega))).trans (hb2.mono (by omega))) (by omega)
  clear B0 B1 B2 C1 C2 D2 ho3 hb3 hb2 hb1 hb0 q0 q3
  have q0 : W3.cell? ⟨w.heap.size, 0, none⟩ = some (.int .i64 4) := B3.cell 0
  go_wp2_with fail
  refine St.wp_region_mixed (fun L _ wx => RO w.heap.size w w.heap.size (w.heap.size + 1) (w.heap.size + 1 + 1) ⟨⟨4, kf, kt, kr, kw, ki, kn, ko, kc, kq, 2, kh, kp⟩, .slice A n c, .slice B m d⟩ (fun L : Nat → Bool => (⟨⟨4, bif L 9 then kf else 0, 0, kr, Wr.zero, 0, 0, Od.Ask.zero, bif L 11 then kc else 0, bif L 13 then kq else 0, bif L 15 then 2 else 0, 0, Od.Rep.zero⟩, nilS, nilS⟩ : Kh)) L wx) (fun _ z => z = undef) (by kernel_rfl) (by kernel_rfl) (by kernel_rfl) ⟨B3.drew, C3.drew, D3.drew, hW3.drew⟩ ?_
  apply St.mix_give
  · rfl
  · intro L u' wx hS hcl hrd hag
    go_simp
    try with_reducible rfl
  · exact fun L u' wx hS => ⟨hS.a, hS.b, hS.c, hS.d⟩
  simp only [Act.put, List.setIfInBounds_toArray, List.set_cons_zero, List.set_cons_succ]
  apply St.mix_give
  · rfl
  · intro L u' wx hS hcl hrd hag
    have q1 : wx.cell? ⟨w.heap.size, 1, none⟩ = some (.int .i64 kf) := hS.a.cell 1
    go_simp
    try with_reducible rfl
  · exact fun L u' wx hS => ⟨hS.a, hS.b, hS.c, hS.d⟩
  simp only [Act.put, List.setIfInBounds_toArray, List.set_cons_zero, List.set_cons_succ]
  apply St.mix_give
  · rfl
  · intro L u' wx hS hcl hrd hag
    go_simp
    try with_reducible rfl
  · exact fun L u' wx hS => ⟨hS.a, hS.b, hS.c, hS.d⟩
  simp only [Act.put, List.setIfInBounds_toArray, List.set_cons_zero, List.set_cons_succ]
  apply St.mix_give
  · rfl
  · intro L u' wx hS hcl hrd hag
    have q28 : wx.cell? ⟨w.heap.size, 28, none⟩ = some (.int .i64 kc) := hS.a.cell 28
    go_simp
    try with_reducible rfl
  · exact fun L u' wx hS => ⟨hS.a, hS.b, hS.c, hS.d⟩
  simp only [Act.put, List.setIfInBounds_toArray, List.set_cons_zero, List.set_cons_succ]
  apply St.mix_give
  · rfl
  · intro L u' wx hS hcl hrd hag
    go_simp
    try with_reducible rfl
  · exact fun L u' wx hS => ⟨hS.a, hS.b, hS.c, hS.d⟩
  simp only [Act.put, List.setIfInBounds_toArray, List.set_cons_zero, List.set_cons_succ]
  apply St.mix_give
  · rfl
  · intro L u' wx hS hcl hrd hag
    have q29 : wx.cell? ⟨w.heap.size, 29, none⟩ = some (.int .i64 kq) := hS.a.cell 29
    go_simp
    try with_reducible rfl
  · exact fun L u' wx hS => ⟨hS.a, hS.b, hS.c, hS.d⟩
  simp only [Act.put, List.setIfInBounds_toArray, List.set_cons_zero, List.set_cons_succ]
  apply St.mix_give
  · rfl
  · intro L u' wx hS hcl hrd hag
    go_simp
    try with_reducible rfl
  · exact fun L u' wx hS => ⟨hS.a, hS.b, hS.c, hS.d⟩
  simp only [Act.put, List.setIfInBounds_toArray, List.set_cons_zero, List.set_cons_succ]
  apply St.mix_give
  · rfl
  · intro L u' wx hS hcl hrd hag
    have q30 : wx.cell? ⟨w.heap.size, 30, none⟩ = some (.int .i64 2) := hS.a.cell 30
    go_simp
    try with_reducible rfl
  · exact fun L u' wx hS => ⟨hS.a, hS.b, hS.c, hS.d⟩
  simp only [Act.put, List.setIfInBounds_toArray, List.set_cons_zero, List.set_cons_succ]
  apply St.mix_give
  · rfl
  · intro L u' wx hS hcl hrd hag
    go_simp
    try with_reducible rfl
  · exact fun L u' wx hS => ⟨hS.a, hS.b, hS.c, hS.d⟩
  simp only [Act.put, List.setIfInBounds_toArray, List.set_cons_zero, List.set_cons_succ]
  refine St.mix_skip rfl ?_ ?_
  · intro L u' wx hS hcl hrd hag
    have d1 : wx.cell? ⟨w.heap.size + 1 + 1, 1, none⟩ = some (.int .i64 (bif L 9 then kf else 0)) := hS.c.cell 1
    have z1 : wx.frozen? ⟨w.heap.size + 1 + 1, 1, none⟩ = false := hS.c.frozen 1
    refine ⟨(World.setCell wx ⟨w.heap.size + 1 + 1, 1, none⟩ (.int .i64 kf)), ?_, ⟨(hS.a.other (a := ⟨w.heap.size + 1 + 1, 1, none⟩) (by show w.heap.size + 1 + 1 ≠ w.heap.size; omega) (.int .i64 kf)), (hS.b.other (a := ⟨w.heap.size + 1 + 1, 1, none⟩) (by show w.heap.size + 1 + 1 ≠ w.heap.size + 1; omega) (.int .i64 kf)), AtL.to ((AtL.of hS.c).cell 1 (.int .i64 kf)) ?_, (hS.d.setCell (p := ⟨w.heap.size + 1 + 1, 1, none⟩) (by show w.heap.size ≤ w.heap.size + 1 + 1; omega) (.int .i64 kf))⟩⟩
    · go_simp
      try with_reducible rfl
    · rfl
  simp only [Act.put]
  apply St.mix_give
  · rfl
  · intro L u' wx hS hcl hrd hag
    go_simp
    try with_reducible rfl
  · exact fun L u' wx hS => ⟨hS.a, hS.b, hS.c, hS.d⟩
  simp only [Act.put, List.setIfInBounds_toArray, List.set_cons_zero, List.set_cons_succ]
  refine St.mix_skip rfl ?_ ?_
  · intro L u' wx hS hcl hrd hag
    have d28 : wx.cell? ⟨w.heap.size + 1 + 1, 28, none⟩ = some (.int .i64 (bif L 11 then kc else 0)) := hS.c.cell 28
    have z28 : wx.frozen? ⟨w.heap.size + 1 + 1, 28, none⟩ = false := hS.c.frozen 28
    refine ⟨(World.setCell wx ⟨w.heap.size + 1 + 1, 28, none⟩ (.int .i64 kc)), ?_, ⟨(hS.a.other (a := ⟨w.heap.size + 1 + 1, 28, none⟩) (by show w.heap.size + 1 + 1 ≠ w.heap.size; omega) (.int .i64 kc)), (hS.b.other (a := ⟨w.heap.size + 1 + 1, 28, none⟩) (by show w.heap.size + 1 + 1 ≠ w.heap.size + 1; omega) (.int .i64 kc)), AtL.to ((AtL.of hS.c).cell 28 (.int .i64 kc)) ?_, (hS.d.setCell (p := ⟨w.heap.size + 1 + 1, 28, none⟩) (by show w.heap.size ≤ w.heap.size + 1 + 1; omega) (.int .i64 kc))⟩⟩
    · go_simp
      try with_reducible rfl
    · rfl
  simp only [Act.put]
  apply St.mix_give
  · rfl
  · intro L u' wx hS hcl hrd hag
    go_simp
    try with_reducible rfl
  · exact fun L u' wx hS => ⟨hS.a, hS.b, hS.c, hS.d⟩
  simp only [Act.put, List.setIfInBounds_toArray, List.set_cons_zero, List.set_cons_succ]
  refine St.mix_skip rfl ?_ ?_
  · intro L u' wx hS hcl hrd hag
    have d29 : wx.cell? ⟨w.heap.size + 1 + 1, 29, none⟩ = some (.int .i64 (bif L 13 then kq else 0)) := hS.c.cell 29
    have z29 : wx.frozen? ⟨w.heap.size + 1 + 1, 29, none⟩ = false := hS.c.frozen 29
    refine ⟨(World.setCell wx ⟨w.heap.size + 1 + 1, 29, none⟩ (.int .i64 kq)), ?_, ⟨(hS.a.other (a := ⟨w.heap.size + 1 + 1, 29, none⟩) (by show w.heap.size + 1 + 1 ≠ w.heap.size; omega) (.int .i64 kq)), (hS.b.other (a := ⟨w.heap.size + 1 + 1, 29, none⟩) (by show w.heap.size + 1 + 1 ≠ w.heap.size + 1; omega) (.int .i64 kq)), AtL.to ((AtL.of hS.c).cell 29 (.int .i64 kq)) ?_, (hS.d.setCell (p := ⟨w.heap.size + 1 + 1, 29, none⟩) (by show w.heap.size ≤ w.heap.size + 1 + 1; omega) (.int .i64 kq))⟩⟩
    · go_simp
      try with_reducible rfl
    · rfl
  simp only [Act.put]
  apply St.mix_give
  · rfl
  · intro L u' wx hS hcl hrd hag
    go_simp
    try with_reducible rfl
  · exact fun L u' wx hS => ⟨hS.a, hS.b, hS.c, hS.d⟩
  simp only [Act.put, List.setIfInBounds_toArray, List.set_cons_zero, List.set_cons_succ]
  refine St.mix_skip rfl ?_ ?_
  · intro L u' wx hS hcl hrd hag
    have d30 : wx.cell? ⟨w.heap.size + 1 + 1, 30, none⟩ = some (.int .i64 (bif L 15 then 2 else 0)) := hS.c.cell 30
    have z30 : wx.frozen? ⟨w.heap.size + 1 + 1, 30, none⟩ = false := hS.c.frozen 30
    refine ⟨(World.setCell wx ⟨w.heap.size + 1 + 1, 30, none⟩ (.int .i64 2)), ?_, ⟨(hS.a.other (a := ⟨w.heap.size + 1 + 1, 30, none⟩) (by show w.heap.size + 1 + 1 ≠ w.heap.size; omega) (.int .i64 2)), (hS.b.other (a := ⟨w.heap.size + 1 + 1, 30, none⟩) (by show w.heap.size + 1 + 1 ≠ w.heap.size + 1; omega) (.int .i64 2)), AtL.to ((AtL.of hS.c).cell 30 (.int .i64 2)) ?_, (hS.d.setCell (p := ⟨w.heap.size + 1 + 1, 30, none⟩) (by show w.heap.size ≤ w.heap.size + 1 + 1; omega) (.int .i64 2))⟩⟩
    · go_simp
      try with_reducible rfl
    · rfl
  simp only [Act.put]
  refine St.mix_last ?_
  intro L W4 hS hall
  have B4 := hS.a
  have C4 := hS.b
  have D4 : BoxK (w.heap.size + 1 + 1) ⟨⟨4, kf, 0, kr, Wr.zero, 0, 0, Od.Ask.zero, kc, kq, 2, 0, Od.Rep.zero⟩, nilS, nilS⟩ W4 := by
    have := hS.c
    simp only [hall 9 (by decide), hall 11 (by decide), hall 13 (by decide), hall 15 (by decide), cond_true] at this
    exact this
  have hW4 := hS.d
  clear hS hall B3 C3 D3 hW3 hz3
  have q30 : W4.cell? ⟨w.heap.size, 30, none⟩ = some (.int .i64 2) := B4.cell 30
  have q31 : W4.cell? ⟨w.heap.size, 31, none⟩ = some (.int .i64 kh) := B4.cell 31
  have d31 : W4.cell? ⟨w.heap.size + 1 + 1, 31, none⟩ = some (.int .i64 0) := D4.cell 31
  have z31 : W4.frozen? ⟨w.heap.size + 1 + 1, 31, none⟩ = false := D4.frozen 31
  go_wp2_with (refine wpList_getK rfl rfl rfl ?_)
  refine ⟨⟨⟨4, kf, 0, kr, Wr.zero, 0, 0, Od.Ask.zero, kc, kq, 2, kh, Od.Rep.zero⟩, nilS, nilS⟩, AtL.to ((AtL.of D4).cell 31 (.int .i64 kh)) rfl, ?_⟩
  have C6 := (C4.other (a := ⟨w.heap.size + 1 + 1, 31, none⟩) (by show w.heap.size + 1 + 1 ≠ w.heap.size + 1; omega) (.int .i64 kh))
  have hW6 := (hW4.setCell (p := ⟨w.heap.size + 1 + 1, 31, none⟩) (by show w.heap.size ≤ w.heap.size + 1 + 1; omega) (.int .i64 kh))
  go_wp2_with (refine wpList_setK (o := ⟨⟨4, kf, 0, kr, Wr.zero, 0, 0, Od.Ask.zero, kc, kq, 2, kh, Od.Rep.zero⟩, nilS, nilS⟩) rfl rfl rfl rfl C6 rfl rfl ?_)
  intro W5 C5 _ hb5 _
  go_wp2_with fail
  exact bodyPost_ret (res_BoxK Tryz.results20 rfl C5) rfl ⟨rfl, hb5 _ _ hW6 (by omega)⟩
set_option maxHeartbeats 8000000 in
set_option maxRecDepth 100000 in
theorem own_40 (kf kt : Int) (kr : Int) (kw : Wr) (ki kn : Int) (ko : Od.Ask) (kc kq ks kh : Int) (kp : Rep) (A : Option Addr) (n c : Nat) (B : Option Addr) (m d : Nat) (g1 : (ks == 1) = false) (g2 : (ks == 2) = false) (w : World) : Calls Tryz.prog 20 #[kv ⟨⟨4, kf, kt, kr, kw, ki, kn, ko, kc, kq, ks, kh, kp⟩, .slice A n c, .slice B m d⟩] w fun e w' => e = .returned (kv ⟨⟨4, kf, 0, kr, Wr.zero, 0, 0, Od.Ask.zero, kc, kq, ks, 0, Od.Rep.zero⟩, nilS, nilS⟩) ∧ Below w.heap.size w w' := by
  go_enter Tryz.func20, Tryz.ntmps20
  go_wp2_with (refine wpList_boxK (o := ⟨⟨4, kf, kt, kr, kw, ki, kn, ko, kc, kq, ks, kh, kp⟩, .slice A n c, .slice B m d⟩) rfl rfl rfl ?_)
  intro W0 B0 hb0 hz0
  go_wp2_with (refine wpList_newK rfl rfl ?_)
  intro W1 C1 hb1 hz1
  have B1 := B0.below (by omega) hb1
  have q0 : W1.cell? ⟨w.heap.size, 0, none⟩ = some (.int .i64 4) := B1.cell 0
  have q3 : W1.cell? ⟨w.heap.size, 3, none⟩ = some (.int .i64 kr) := B1.cell 3
  go_wp2_with (refine wpList_newK rfl rfl ?_)
  intro W2 D2 hb2 hz2
  have B2 := B1.below (by omega) hb2
  have C2 := C1.below (by omega) hb2
  go_wp2_with (refine wpList_setK (o := ⟨⟨4, 0, 0, kr, Wr.zero, 0, 0, Od.Ask.zero, 0, 0, 0, 0, Od.Rep.zero⟩, nilS, nilS⟩) rfl rfl rfl rfl D2 rfl rfl ?_)
  intro W3 D3 ho3 hb3 hz3
  have B3 := ho3 _ _ (by omega) B2
  have C3 := ho3 _ _ (by omega) C2
  have hW3 : Below w.heap.size w W3 := hb3 _ _ ((hb0.trans (hb1.mono (by omega))).trans (hb2.mono (by omega))) (by omega)
  clear B0 B1 B2 C1 C2 D2 ho3 hb3 hb2 hb1 hb0 q0 q3
  have q0 : W3.cell? ⟨w.heap.size, 0, none⟩ = some (.int .i64 4) := B3.cell 0
  go_wp2_with fail
  refine St.wp_region_mixed (fun L _ wx => RO w.heap.size w w.heap.size (w.heap.size + 1) (w.heap.size + 1 + 1) ⟨⟨4, kf, kt, kr, kw, ki, kn, ko, kc, kq, ks, kh, kp⟩, .slice A n c, .slice B m d⟩ (fun L : Nat → Bool => (⟨⟨4, bif L 9 then kf else 0, 0, kr, Wr.zero, 0, 0, Od.Ask.zero, bif L 11 then kc else 0, bif L 13 then kq else 0, bif L 15 then ks else 0, 0, Od.Rep.zero⟩, nilS, nilS⟩ : Kh)) L wx) (fun _ z => z = undef) (by kernel_rfl) (by kernel_rfl) (by kernel_rfl) ⟨B3.drew, C3.drew, D3.drew, hW3.drew⟩ ?_
  apply St.mix_give
  · rfl
  · intro L u' wx hS hcl hrd hag
    go_simp
    try with_reducible rfl
  · exact fun L u' wx hS => ⟨hS.a, hS.b, hS.c, hS.d⟩
  simp only [Act.put, List.setIfInBounds_toArray, List.set_cons_zero, List.set_cons_succ]
  apply St.mix_give
  · rfl
  · intro L u' wx hS hcl hrd hag
    have q1 : wx.cell? ⟨w.heap.size, 1, none⟩ = some (.int .i64 kf) := hS.a.cell 1
    go_simp
    try with_reducible rfl
  · exact fun L u' wx hS => ⟨hS.a, hS.b, hS.c, hS.d⟩
  simp only [Act.put, List.setIfInBounds_toArray, List.set_cons_zero, List.set_cons_succ]
  apply St.mix_give
  · rfl
  · intro L u' wx hS hcl hrd hag
    go_simp
    try with_reducible rfl
  · exact fun L u' wx hS => ⟨hS.a, hS.b, hS.c, hS.d⟩
  simp only [Act.put, List.setIfInBounds_toArray, List.set_cons_zero, List.set_cons_succ]
  apply St.mix_give
  · rfl
  · intro L u' wx hS hcl hrd hag
    have q28 : wx.cell? ⟨w.heap.size, 28, none⟩ = some (.int .i64 kc) := hS.a.cell 28
    go_simp
    try with_reducible rfl
  · exact fun L u' wx hS => ⟨hS.a, hS.b, hS.c, hS.d⟩
  simp only [Act.put, List.setIfInBounds_toArray, List.set_cons_zero, List.set_cons_succ]
  apply St.mix_give
  · rfl
  · intro L u' wx hS hcl hrd hag
    go_simp
    try with_reducible rfl
  · exact fun L u' wx hS => ⟨hS.a, hS.b, hS.c, hS.d⟩
  simp only [Act.put, List.setIfInBounds_toArray, List.set_cons_zero, List.set_cons_succ]
  apply St.mix_give
  · rfl
  · intro L u' wx hS hcl hrd hag
    have q29 : wx.cell? ⟨w.heap.size, 29, none⟩ = some (.int .i64 kq) := hS.a.cell 29
    go_simp
    try with_reducible rfl
  · exact fun L u' wx hS => ⟨hS.a, hS.b, hS.c, hS.d⟩
  simp only [Act.put, List.setIfInBounds_toArray, List.set_cons_zero, List.set_cons_succ]
  apply St.mix_give
  · rfl
  · intro L u' wx hS hcl hrd hag
    go_simp
    try with_reducible rfl
  · exact fun L u' wx hS => ⟨hS.a, hS.b, hS.c, hS.d⟩
  simp only [Act.put, List.setIfInBounds_toArray, List.set_cons_zero, List.set_cons_succ]
  apply St.mix_give
  · rfl
  · intro L u' wx hS hcl hrd hag
    have q30 : wx.cell? ⟨w.heap.size, 30, none⟩ = some (.int .i64 ks) := hS.a.cell 30
    go_simp
    try with_reducible rfl
  · exact fun L u' wx hS => ⟨hS.a, hS.b, hS.c, hS.d⟩
  simp only [Act.put, List.setIfInBounds_toArray, List.set_cons_zero, List.set_cons_succ]
  apply St.mix_give
  · rfl
  · intro L u' wx hS hcl hrd hag
    go_simp
    try with_reducible rfl
  · exact fun L u' wx hS => ⟨hS.a, hS.b, hS.c, hS.d⟩
  simp only [Act.put, List.setIfInBounds_toArray, List.set_cons_zero, List.set_cons_succ]
  refine St.mix_skip rfl ?_ ?_
  · intro L u' wx hS hcl hrd hag
    have d1 : wx.cell? ⟨w.heap.size + 1 + 1, 1, none⟩ = some (.int .i64 (bif L 9 then kf else 0)) := hS.c.cell 1
    have z1 : wx.frozen? ⟨w.heap.size + 1 + 1, 1, none⟩ = false := hS.c.frozen 1
    refine ⟨(World.setCell wx ⟨w.heap.size + 1 + 1, 1, none⟩ (.int .i64 kf)), ?_, ⟨(hS.a.other (a := ⟨w.heap.size + 1 + 1, 1, none⟩) (by show w.heap.size + 1 + 1 ≠ w.heap.size; omega) (.int .i64 kf)), (hS.b.other (a := ⟨w.heap.size + 1 + 1, 1, none⟩) (by show w.heap.size + 1 + 1 ≠ w.heap.size + 1; omega) (.int .i64 kf)), AtL.to ((AtL.of hS.c).cell 1 (.int .i64 kf)) ?_, (hS.d.setCell (p := ⟨w.heap.size + 1 + 1, 1, none⟩) (by show w.heap.size ≤ w.heap.size + 1 + 1; omega) (.int .i64 kf))⟩⟩
    · go_simp
      try with_reducible rfl
    · rfl
  simp only [Act.put]
  apply St.mix_give
  · rfl
  · intro L u' wx hS hcl hrd hag
    go_simp
    try with_reducible rfl
  · exact fun L u' wx hS => ⟨hS.a, hS.b, hS.c, hS.d⟩
  simp only [Act.put, List.setIfInBounds_toArray, List.set_cons_zero, List.set_cons_succ]
  refine St.mix_skip rfl ?_ ?_
  · intro L u' wx hS hcl hrd hag
    have d28 : wx.cell? ⟨w.heap.size + 1 + 1, 28, none⟩ = some (.int .i64 (bif L 11 then kc else 0)) := hS.c.cell 28
    have z28 : wx.frozen? ⟨w.heap.size + 1 + 1, 28, none⟩ = false := hS.c.frozen 28
    refine ⟨(World.setCell wx ⟨w.heap.size + 1 + 1, 28, none⟩ (.int .i64 kc)), ?_, ⟨(hS.a.other (a := ⟨w.heap.size + 1 + 1, 28, none⟩) (by show w.heap.size + 1 + 1 ≠ w.heap.size; omega) (.int .i64 kc)), (hS.b.other (a := ⟨w.heap.size + 1 + 1, 28, none⟩) (by show w.heap.size + 1 + 1 ≠ w.heap.size + 1; omega) (.int .i64 kc)), AtL.to ((AtL.of hS.c).cell 28 (.int .i64 kc)) ?_, (hS.d.setCell (p := ⟨w.heap.size + 1 + 1, 28, none⟩) (by show w.heap.size ≤ w.heap.size + 1 + 1; omega) (.int .i64 kc))⟩⟩
    · go_simp
      try with_reducible rfl
    · rfl
  simp only [Act.put]
  apply St.mix_give
  · rfl
  · intro L u' wx hS hcl hrd hag
    go_simp
    try with_reducible rfl
  · exact fun L u' wx hS => ⟨hS.a, hS.b, hS.c, hS.d⟩
  simp only [Act.put, List.setIfInBounds_toArray, List.set_cons_zero, List.set_cons_succ]
  refine St.mix_skip rfl ?_ ?_
  · intro L u' wx hS hcl hrd hag
    have d29 : wx.cell? ⟨w.heap.size + 1 + 1, 29, none⟩ = some (.int .i64 (bif L 13 then kq else 0)) := hS.c.cell 29
    have z29 : wx.frozen? ⟨w.heap.size + 1 + 1, 29, none⟩ = false := hS.c.frozen 29
    refine ⟨(World.setCell wx ⟨w.heap.size + 1 + 1, 29, none⟩ (.int .i64 kq)), ?_, ⟨(hS.a.other (a := ⟨w.heap.size + 1 + 1, 29, none⟩) (by show w.heap.size + 1 + 1 ≠ w.heap.size; omega) (.int .i64 kq)), (hS.b.other (a := ⟨w.heap.size + 1 + 1, 29, none⟩) (by show w.heap.size + 1 + 1 ≠ w.heap.size + 1; omega) (.int .i64 kq)), AtL.to ((AtL.of hS.c).cell 29 (.int .i64 kq)) ?_, (hS.d.setCell (p := ⟨w.heap.size + 1 + 1, 29, none⟩) (by show w.heap.size ≤ w.heap.size + 1 + 1; omega) (.int .i64 kq))⟩⟩
    · go_simp
      try with_reducible rfl
    · rfl
  simp only [Act.put]
  apply St.mix_give
  · rfl
  · intro L u' wx hS hcl hrd hag
    go_simp
    try with_reducible rfl
  · exact fun L u' wx hS => ⟨hS.a, hS.b, hS.c, hS.d⟩
  simp only [Act.put, List.setIfInBounds_toArray, List.set_cons_zero, List.set_cons_succ]
  refine St.mix_skip rfl ?_ ?_
  · intro L u' wx hS hcl hrd hag
    have d30 : wx.cell? ⟨w.heap.size + 1 + 1, 30, none⟩ = some (.int .i64 (bif L 15 then ks else 0)) := hS.c.cell 30
    have z30 : wx.frozen? ⟨w.heap.size + 1 + 1, 30, none⟩ = false := hS.c.frozen 30
    refine ⟨(World.setCell wx ⟨w.heap.size + 1 + 1, 30, none⟩ (.int .i64 ks)), ?_, ⟨(hS.a.other (a := ⟨w.heap.size + 1 + 1, 30, none⟩) (by show w.heap.size + 1 + 1 ≠ w.heap.size; omega) (.int .i64 ks)), (hS.b.other (a := ⟨w.heap.size + 1 + 1, 30, none⟩) (by show w.heap.size + 1 + 1 ≠ w.heap.size + 1; omega) (.int .i64 ks)), AtL.to ((AtL.of hS.c).cell 30 (.int .i64 ks)) ?_, (hS.d.setCell (p := ⟨w.heap.size + 1 + 1, 30, none⟩) (by show w.heap.size ≤ w.heap.size + 1 + 1; omega) (.int .i64 ks))⟩⟩
    · go_simp
      try with_reducible rfl
    · rfl
  simp only [Act.put]
  refine St.mix_last ?_
  intro L W4 hS hall
  have B4 := hS.a
  have C4 := hS.b
  have D4 : BoxK (w.heap.size + 1 + 1) ⟨⟨4, kf, 0, kr, Wr.zero, 0, 0, Od.Ask.zero, kc, kq, ks, 0, Od.Rep.zero⟩, nilS, nilS⟩ W4 := by
    have := hS.c
    simp only [hall 9 (by decide), hall 11 (by decide), hall 13 (by decide), hall 15 (by decide), cond_true] at this
    exact this
  have hW4 := hS.d
  clear hS hall B3 C3 D3 hW3 hz3
  have q30 : W4.cell? ⟨w.heap.size, 30, none⟩ = some (.int .i64 ks) := B4.cell 30
  go_wp2_with (refine wpList_getK rfl rfl rfl ?_)
  refine ⟨⟨⟨4, kf, 0, kr, Wr.zero, 0, 0, Od.Ask.zero, kc, kq, ks, 0, Od.Rep.zero⟩, nilS, nilS⟩, AtL.to (AtL.of D4) rfl, ?_⟩
  have C6 := C4
  have hW6 := hW4
  go_wp2_with (refine wpList_setK (o := ⟨⟨4, kf, 0, kr, Wr.zero, 0, 0, Od.Ask.zero, kc, kq, ks, 0, Od.Rep.zero⟩, nilS, nilS⟩) rfl rfl rfl rfl C6 rfl rfl ?_)
  intro W5 C5 _ hb5 _
  go_wp2_with fail
  exact bodyPost_ret (res_BoxK Tryz.results20 rfl C5) rfl ⟨rfl, hb5 _ _ hW6 (by omega)⟩
set_option maxHeartbeats 8000000 in
set_option maxRecDepth 100000 in
theorem own_0 (kk : Int) (kf kt : Int) (kr : Int) (kw : Wr) (ki kn : Int) (ko : Od.Ask) (kc kq ks kh : Int) (kp : Rep) (A : Option Addr) (n c : Nat) (B : Option Addr) (m d : Nat) (g1 : (kk == 1) = false) (g2 : (kk == 2) = false) (g3 : (kk == 3) = false) (g4 : (kk == 4) = false) (w : World) : Calls Tryz.prog 20 #[kv ⟨⟨kk, kf, kt, kr, kw, ki, kn, ko, kc, kq, ks, kh, kp⟩, .slice A n c, .slice B m d⟩] w fun e w' => e = .returned (kv ⟨⟨kk, 0, 0, kr, Wr.zero, 0, 0, Od.Ask.zero, 0, 0, 0, 0, Od.Rep.zero⟩, nilS, nilS⟩) ∧ Below w.heap.size w w' := by
  go_enter Tryz.func20, Tryz.ntmps20
  go_wp2_with (refine wpList_boxK (o := ⟨⟨kk, kf, kt, kr, kw, ki, kn, ko, kc, kq, ks, kh, kp⟩, .slice A n c, .slice B m d⟩) rfl rfl rfl ?_)
  intro W0 B0 hb0 hz0
  go_wp2_with (refine wpList_newK rfl rfl ?_)
  intro W1 C1 hb1 hz1
  have B1 := B0.below (by omega) hb1
  have q0 : W1.cell? ⟨w.heap.size, 0, none⟩ = some (.int .i64 kk) := B1.cell 0
  have q3 : W1.cell? ⟨w.heap.size, 3, none⟩ = some (.int .i64 kr) := B1.cell 3
  go_wp2_with (refine wpList_newK rfl rfl ?_)
  intro W2 D2 hb2 hz2
  have B2 := B1.below (by omega) hb2
  have C2 := C1.below (by omega) hb2
  go_wp2_with (refine wpList_setK (o := ⟨⟨kk, 0, 0, kr, Wr.zero, 0, 0, Od.Ask.zero, 0, 0, 0, 0, Od.Rep.zero⟩, nilS, nilS⟩) rfl rfl rfl rfl D2 rfl rfl ?_)
  intro W3 D3 ho3 hb3 hz3
  have B3 := ho3 _ _ (by omega) B2
  have C3 := ho3 _ _ (by omega) C2
  have hW3 : Below w.heap.size w W3 := hb3 _ _ ((hb0.trans (hb1.mono (by omega))).trans (hb2.mono (by omega))) (by omega)
  clear B0 B1 B2 C1 C2 D2 ho3 hb3 hb2 hb1 hb0 q0 q3
  have q0 : W3.cell? ⟨w.heap.size, 0, none⟩ = some (.int .i64 kk) := B3.cell 0
  go_wp2_with (refine wpList_getK rfl rfl rfl ?_)
  have D4 := D3
  have C4 := C3
  have hW4 := hW3
  refine ⟨⟨⟨kk, 0, 0, kr, Wr.zero, 0, 0, Od.Ask.zero, 0, 0, 0, 0, Od.Rep.zero⟩, nilS, nilS⟩, D4, ?_⟩
  go_wp2_with (refine wpList_setK (o := ⟨⟨kk, 0, 0, kr, Wr.zero, 0, 0, Od.Ask.zero, 0, 0, 0, 0, Od.Rep.zero⟩, nilS, nilS⟩) rfl rfl rfl rfl C4 rfl rfl ?_)
  intro W5 C5 _ hb5 _
  go_wp2_with fail
  exact bodyPost_ret (res_BoxK Tryz.results20 rfl C5) rfl ⟨rfl, hb5 _ _ hW4 (by omega)⟩
set_option maxHeartbeats 8000000 in
set_option maxRecDepth 100000 in
theorem own_1 (kf kt : Int) (kr : Int) (kw : Wr) (ki kn : Int) (ko : Od.Ask) (kc kq ks kh : Int) (kp : Rep) (A : Option Addr) (n c : Nat) (B : Option Addr) (m d : Nat) (A1 : Option Addr) (N1 c1 : Nat) (hs : ownS kw (.slice A n c) = .slice A1 N1 c1) (w : World) : Calls Tryz.prog 20 #[kv ⟨⟨1, kf, kt, kr, kw, ki, kn, ko, kc, kq, ks, kh, kp⟩, .slice A n c, .slice B m d⟩] w fun e w' => e = .returned (kv ⟨⟨1, kf, kt, kr, (ownW kw), 0, 0, Od.Ask.zero, 0, 0, 0, 0, Od.Rep.zero⟩, (.slice A1 N1 c1), nilS⟩) ∧ Below w.heap.size w w' := by
  have cw := fun w => ownW_any kw A n c w
  rw [hs] at cw
  clear hs
  go_enter Tryz.func20, Tryz.ntmps20
  go_wp2_with (refine wpList_boxK (o := ⟨⟨1, kf, kt, kr, kw, ki, kn, ko, kc, kq, ks, kh, kp⟩, .slice A n c, .slice B m d⟩) rfl rfl rfl ?_)
  intro W0 B0 hb0 hz0
  go_wp2_with (refine wpList_newK rfl rfl ?_)
  intro W1 C1 hb1 hz1
  have B1 := B0.below (by omega) hb1
  have q0 : W1.cell? ⟨w.heap.size, 0, none⟩ = some (.int .i64 1) := B1.cell 0
  have q3 : W1.cell? ⟨w.heap.size, 3, none⟩ = some (.int .i64 kr) := B1.cell 3
  go_wp2_with (refine wpList_newK rfl rfl ?_)
  intro W2 D2 hb2 hz2
  have B2 := B1.below (by omega) hb2
  have C2 := C1.below (by omega) hb2
  go_wp2_with (refine wpList_setK (o := ⟨⟨1, 0, 0, kr, Wr.zero, 0, 0, Od.Ask.zero, 0, 0, 0, 0, Od.Rep.zero⟩, nilS, nilS⟩) rfl rfl rfl rfl D2 rfl rfl ?_)
  intro W3 D3 ho3 hb3 hz3
  have B3 := ho3 _ _ (by omega) B2
  have C3 := ho3 _ _ (by omega) C2
  have hW3 : Below w.heap.size w W3 := hb3 _ _ ((hb0.trans (hb1.mono (by omega))).trans (hb2.mono (by omega))) (by omega)
  clear B0 B1 B2 C1 C2 D2 ho3 hb3 hb2 hb1 hb0 q0 q3
  have q0 : W3.cell? ⟨w.heap.size, 0, none⟩ = some (.int .i64 1) := B3.cell 0
  go_wp2_with fail
  refine St.wp_region_mixed (fun L _ wx => RO w.heap.size w w.heap.size (w.heap.size + 1) (w.heap.size + 1 + 1) ⟨⟨1, kf, kt, kr, kw, ki, kn, ko, kc, kq, ks, kh, kp⟩, .slice A n c, .slice B m d⟩ (fun L : Nat → Bool => (⟨⟨1, bif L 8 then kf else 0, bif L 10 then kt else 0, kr, bif L 12 then ownW kw else Wr.zero, 0, 0, Od.Ask.zero, 0, 0, 0, 0, Od.Rep.zero⟩, bif L 12 then .slice A1 N1 c1 else nilS, nilS⟩ : Kh)) L wx) (fun _ z => z = wv (ownW kw) (.slice A1 N1 c1)) (by kernel_rfl) (by kernel_rfl) (by kernel_rfl) ⟨B3.drew, C3.drew, D3.drew, hW3.drew⟩ ?_
  apply St.mix_give
  · rfl
  · intro L u' wx hS hcl hrd hag
    go_simp
    try with_reducible rfl
  · exact fun L u' wx hS => ⟨hS.a, hS.b, hS.c, hS.d⟩
  simp only [Act.put, List.setIfInBounds_toArray, List.set_cons_zero, List.set_cons_succ]
  apply St.mix_give
  · rfl
  · intro L u' wx hS hcl hrd hag
    have q1 : wx.cell? ⟨w.heap.size, 1, none⟩ = some (.int .i64 kf) := hS.a.cell 1
    go_simp
    try with_reducible rfl
  · exact fun L u' wx hS => ⟨hS.a, hS.b, hS.c, hS.d⟩
  simp only [Act.put, List.setIfInBounds_toArray, List.set_cons_zero, List.set_cons_succ]
  apply St.mix_give
  · rfl
  · intro L u' wx hS hcl hrd hag
    go_simp
    try with_reducible rfl
  · exact fun L u' wx hS => ⟨hS.a, hS.b, hS.c, hS.d⟩
  simp only [Act.put, List.setIfInBounds_toArray, List.set_cons_zero, List.set_cons_succ]
  apply St.mix_give
  · rfl
  · intro L u' wx hS hcl hrd hag
    have q2 : wx.cell? ⟨w.heap.size, 2, none⟩ = some (.int .i64 kt) := hS.a.cell 2
    go_simp
    try with_reducible rfl
  · exact fun L u' wx hS => ⟨hS.a, hS.b, hS.c, hS.d⟩
  simp only [Act.put, List.setIfInBounds_toArray, List.set_cons_zero, List.set_cons_succ]
  apply St.mix_give
  · rfl
  · intro L u' wx hS hcl hrd hag
    go_simp
    try with_reducible rfl
  · exact fun L u' wx hS => ⟨hS.a, hS.b, hS.c, hS.d⟩
  simp only [Act.put, List.setIfInBounds_toArray, List.set_cons_zero, List.set_cons_succ]
  apply St.mix_give
  · rfl
  · intro L u' wx hS hcl hrd hag
    have q4 : wx.cell? ⟨w.heap.size, 4, none⟩ = some (.int .i64 kw.kind) := hS.a.cell 4
    have q5 : wx.cell? ⟨w.heap.size, 5, none⟩ = some (.int .i64 kw.frm) := hS.a.cell 5
    have q6 : wx.cell? ⟨w.heap.size, 6, none⟩ = some (.int .i64 kw.til) := hS.a.cell 6
    have q7 : wx.cell? ⟨w.heap.size, 7, none⟩ = some (.int .i64 kw.term) := hS.a.cell 7
    have q8 : wx.cell? ⟨w.heap.size, 8, none⟩ = some (.int .i64 kw.index) := hS.a.cell 8
    have q9 : wx.cell? ⟨w.heap.size, 9, none⟩ = some (.int .i64 kw.lterm) := hS.a.cell 9
    have q10 : wx.cell? ⟨w.heap.size, 10, none⟩ = some (.int .i64 kw.commit) := hS.a.cell 10
    have q11 : wx.cell? ⟨w.heap.size, 11, none⟩ = some (.int .i64 kw.hint) := hS.a.cell 11
    have q12 : wx.cell? ⟨w.heap.size, 12, none⟩ = some (.bool kw.reject) := hS.a.cell 12
    have q13 : wx.cell? ⟨w.heap.size, 13, none⟩ = some (.slice A n c) := hS.a.cell 13
    have q14 : wx.cell? ⟨w.heap.size, 14, none⟩ = some (.string kw.text) := hS.a.cell 14
    go_simp
    try with_reducible rfl
  · exact fun L u' wx hS => ⟨hS.a, hS.b, hS.c, hS.d⟩
  simp only [Act.put, List.setIfInBounds_toArray, List.set_cons_zero, List.set_cons_succ]
  refine St.mix_into (v := wv (ownW kw) (.slice A1 N1 c1)) (f := 57) (args := #[wv kw (.slice A n c)]) rfl rfl ?_ ?_ ?_
  · intro wx
    go_simp
    try with_reducible rfl
  · intro L u' wx hS hcl hrd hag
    refine (cw wx).mono ?_
    rintro e w' ⟨rfl, hb'⟩
    have hC := hS.call hb' (by have := hS.a.lt; omega)
    exact ⟨rfl, ⟨hC.a, hC.b, hC.c, hC.d⟩⟩
  simp only [Act.put, List.setIfInBounds_toArray, List.set_cons_zero, List.set_cons_succ]
  apply St.mix_give
  · rfl
  · intro L u' wx hS hcl hrd hag
    go_simp
    try with_reducible rfl
  · exact fun L u' wx hS => ⟨hS.a, hS.b, hS.c, hS.d⟩
  simp only [Act.put, List.setIfInBounds_toArray, List.set_cons_zero, List.set_cons_succ]
  refine St.mix_skip rfl ?_ ?_
  · intro L u' wx hS hcl hrd hag
    have d1 : wx.cell? ⟨w.heap.size + 1 + 1, 1, none⟩ = some (.int .i64 (bif L 8 then kf else 0)) := hS.c.cell 1
    have z1 : wx.frozen? ⟨w.heap.size + 1 + 1, 1, none⟩ = false := hS.c.frozen 1
    refine ⟨(World.setCell wx ⟨w.heap.size + 1 + 1, 1, none⟩ (.int .i64 kf)), ?_, ⟨(hS.a.other (a := ⟨w.heap.size + 1 + 1, 1, none⟩) (by show w.heap.size + 1 + 1 ≠ w.heap.size; omega) (.int .i64 kf)), (hS.b.other (a := ⟨w.heap.size + 1 + 1, 1, none⟩) (by show w.heap.size + 1 + 1 ≠ w.heap.size + 1; omega) (.int .i64 kf)), AtL.to ((AtL.of hS.c).cell 1 (.int .i64 kf)) ?_, (hS.d.setCell (p := ⟨w.heap.size + 1 + 1, 1, none⟩) (by show w.heap.size ≤ w.heap.size + 1 + 1; omega) (.int .i64 kf))⟩⟩
    · go_simp
      try with_reducible rfl
    · rfl
  simp only [Act.put]
  apply St.mix_give
  · rfl
  · intro L u' wx hS hcl hrd hag
    go_simp
    try with_reducible rfl
  · exact fun L u' wx hS => ⟨hS.a, hS.b, hS.c, hS.d⟩
  simp only [Act.put, List.setIfInBounds_toArray, List.set_cons_zero, List.set_cons_succ]
  refine St.mix_skip rfl ?_ ?_
  · intro L u' wx hS hcl hrd hag
    have d2 : wx.cell? ⟨w.heap.size + 1 + 1, 2, none⟩ = some (.int .i64 (bif L 10 then kt else 0)) := hS.c.cell 2
    have z2 : wx.frozen? ⟨w.heap.size + 1 + 1, 2, none⟩ = false := hS.c.frozen 2
    refine ⟨(World.setCell wx ⟨w.heap.size + 1 + 1, 2, none⟩ (.int .i64 kt)), ?_, ⟨(hS.a.other (a := ⟨w.heap.size + 1 + 1, 2, none⟩) (by show w.heap.size + 1 + 1 ≠ w.heap.size; omega) (.int .i64 kt)), (hS.b.other (a := ⟨w.heap.size + 1 + 1, 2, none⟩) (by show w.heap.size + 1 + 1 ≠ w.heap.size + 1; omega) (.int .i64 kt)), AtL.to ((AtL.of hS.c).cell 2 (.int .i64 kt)) ?_, (hS.d.setCell (p := ⟨w.heap.size + 1 + 1, 2, none⟩) (by show w.heap.size ≤ w.heap.size + 1 + 1; omega) (.int .i64 kt))⟩⟩
    · go_simp
      try with_reducible rfl
    · rfl
  simp only [Act.put]
  apply St.mix_give
  · rfl
  · intro L u' wx hS hcl hrd hag
    go_simp
    try with_reducible rfl
  · exact fun L u' wx hS => ⟨hS.a, hS.b, hS.c, hS.d⟩
  simp only [Act.put, List.setIfInBounds_toArray, List.set_cons_zero, List.set_cons_succ]
  refine St.mix_skip rfl ?_ ?_
  · intro L u' wx hS hcl hrd hag
    have d4 : wx.cell? ⟨w.heap.size + 1 + 1, 4, none⟩ = some (.int .i64 (bif L 12 then ownW kw else Wr.zero).kind) := hS.c.cell 4
    have z4 : wx.frozen? ⟨w.heap.size + 1 + 1, 4, none⟩ = false := hS.c.frozen 4
    have d5 : wx.cell? ⟨w.heap.size + 1 + 1, 5, none⟩ = some (.int .i64 (bif L 12 then ownW kw else Wr.zero).frm) := hS.c.cell 5
    have z5 : wx.frozen? ⟨w.heap.size + 1 + 1, 5, none⟩ = false := hS.c.frozen 5
    have d6 : wx.cell? ⟨w.heap.size + 1 + 1, 6, none⟩ = some (.int .i64 (bif L 12 then ownW kw else Wr.zero).til) := hS.c.cell 6
    have z6 : wx.frozen? ⟨w.heap.size + 1 + 1, 6, none⟩ = false := hS.c.frozen 6
    have d7 : wx.cell? ⟨w.heap.size + 1 + 1, 7, none⟩ = some (.int .i64 (bif L 12 then ownW kw else Wr.zero).term) := hS.c.cell 7
    have z7 : wx.frozen? ⟨w.heap.size + 1 + 1, 7, none⟩ = false := hS.c.frozen 7
    have d8 : wx.cell? ⟨w.heap.size + 1 + 1, 8, none⟩ = some (.int .i64 (bif L 12 then ownW kw else Wr.zero).index) := hS.c.cell 8
    have z8 : wx.frozen? ⟨w.heap.size + 1 + 1, 8, none⟩ = false := hS.c.frozen 8
    have d9 : wx.cell? ⟨w.heap.size + 1 + 1, 9, none⟩ = some (.int .i64 (bif L 12 then ownW kw else Wr.zero).lterm) := hS.c.cell 9
    have z9 : wx.frozen? ⟨w.heap.size + 1 + 1, 9, none⟩ = false := hS.c.frozen 9
    have d10 : wx.cell? ⟨w.heap.size + 1 + 1, 10, none⟩ = some (.int .i64 (bif L 12 then ownW kw else Wr.zero).commit) := hS.c.cell 10
    have z10 : wx.frozen? ⟨w.heap.size + 1 + 1, 10, none⟩ = false := hS.c.frozen 10
    have d11 : wx.cell? ⟨w.heap.size + 1 + 1, 11, none⟩ = some (.int .i64 (bif L 12 then ownW kw else Wr.zero).hint) := hS.c.cell 11
    have z11 : wx.frozen? ⟨w.heap.size + 1 + 1, 11, none⟩ = false := hS.c.frozen 11
    have d12 : wx.cell? ⟨w.heap.size + 1 + 1, 12, none⟩ = some (.bool (bif L 12 then ownW kw else Wr.zero).reject) := hS.c.cell 12
    have z12 : wx.frozen? ⟨w.heap.size + 1 + 1, 12, none⟩ = false := hS.c.frozen 12
    have d13 : wx.cell? ⟨w.heap.size + 1 + 1, 13, none⟩ = some (bif L 12 then .slice A1 N1 c1 else nilS) := hS.c.cell 13
    have z13 : wx.frozen? ⟨w.heap.size + 1 + 1, 13, none⟩ = false := hS.c.frozen 13
    have d14 : wx.cell? ⟨w.heap.size + 1 + 1, 14, none⟩ = some (.string (bif L 12 then ownW kw else Wr.zero).text) := hS.c.cell 14
    have z14 : wx.frozen? ⟨w.heap.size + 1 + 1, 14, none⟩ = false := hS.c.frozen 14
    refine ⟨(World.setCell (World.setCell (World.setCell (World.setCell (World.setCell (World.setCell (World.setCell (World.setCell (World.setCell (World.setCell (World.setCell wx ⟨w.heap.size + 1 + 1, 4, none⟩ (.int .i64 (ownW kw).kind)) ⟨w.heap.size + 1 + 1, 5, none⟩ (.int .i64 (ownW kw).frm)) ⟨w.heap.size + 1 + 1, 6, none⟩ (.int .i64 (ownW kw).til)) ⟨w.heap.size + 1 + 1, 7, none⟩ (.int .i64 (ownW kw).term)) ⟨w.heap.size + 1 + 1, 8, none⟩ (.int .i64 (ownW kw).index)) ⟨w.heap.size + 1 + 1, 9, none⟩ (.int .i64 (ownW kw).lterm)) ⟨w.heap.size + 1 + 1, 10, none⟩ (.int .i64 (ownW kw).commit)) ⟨w.heap.size + 1 + 1, 11, none⟩ (.int .i64 (ownW kw).hint)) ⟨w.heap.size + 1 + 1, 12, none⟩ (.bool (ownW kw).reject)) ⟨w.heap.size + 1 + 1, 13, none⟩ (.slice A1 N1 c1)) ⟨w.heap.size + 1 + 1, 14, none⟩ (.string (ownW kw).text)), ?_, ⟨(((((((((((hS.a.other (a := ⟨w.heap.size + 1 + 1, 4, none⟩) (by show w.heap.size + 1 + 1 ≠ w.heap.size; omega) (.int .i64 (ownW kw).kind)).other (a := ⟨w.heap.size + 1 + 1, 5, none⟩) (by show w.heap.size + 1 + 1 ≠ w.heap.size; omega) (.int .i64 (ownW kw).frm)).other (a := ⟨w.heap.size + 1 + 1, 6, none⟩) (by show w.heap.size + 1 + 1 ≠ w.heap.size; omega) (.int .i64 (ownW kw).til)).other (a := ⟨w.heap.size + 1 + 1, 7, none⟩) (by show w.heap.size + 1 + 1 ≠ w.heap.size; omega) (.int .i64 (ownW kw).term)).other (a := ⟨w.heap.size + 1 + 1, 8, none⟩) (by show w.heap.size + 1 + 1 ≠ w.heap.size; omega) (.int .i64 (ownW kw).index)).other (a := ⟨w.heap.size + 1 + 1, 9, none⟩) (by show w.heap.size + 1 + 1 ≠ w.heap.size; omega) (.int .i64 (ownW kw).lterm)).other (a := ⟨w.heap.size + 1 + 1, 10, none⟩) (by show w.heap.size + 1 + 1 ≠ w.heap.size; omega) (.int .i64 (ownW kw).commit)).other (a := ⟨w.heap.size + 1 + 1, 11, none⟩) (by show w.heap.size + 1 + 1 ≠ w.heap.size; omega) (.int .i64 (ownW kw).hint)).other (a := ⟨w.heap.size + 1 + 1, 12, none⟩) (by show w.heap.size + 1 + 1 ≠ w.heap.size; omega) (.bool (ownW kw).reject)).other (a := ⟨w.heap.size + 1 + 1, 13, none⟩) (by show w.heap.size + 1 + 1 ≠ w.heap.size; omega) (.slice A1 N1 c1)).other (a := ⟨w.heap.size + 1 + 1, 14, none⟩) (by show w.heap.size + 1 + 1 ≠ w.heap.size; omega) (.string (ownW kw).text)), (((((((((((hS.b.other (a := ⟨w.heap.size + 1 + 1, 4, none⟩) (by show w.heap.size + 1 + 1 ≠ w.heap.size + 1; omega) (.int .i64 (ownW kw).kind)).other (a := ⟨w.heap.size + 1 + 1, 5, none⟩) (by show w.heap.size + 1 + 1 ≠ w.heap.size + 1; omega) (.int .i64 (ownW kw).frm)).other (a := ⟨w.heap.size + 1 + 1, 6, none⟩) (by show w.heap.size + 1 + 1 ≠ w.heap.size + 1; omega) (.int .i64 (ownW kw).til)).other (a := ⟨w.heap.size + 1 + 1, 7, none⟩) (by show w.heap.size + 1 + 1 ≠ w.heap.size + 1; omega) (.int .i64 (ownW kw).term)).other (a := ⟨w.heap.size + 1 + 1, 8, none⟩) (by show w.heap.size + 1 + 1 ≠ w.heap.size + 1; omega) (.int .i64 (ownW kw).index)).other (a := ⟨w.heap.size + 1 + 1, 9, none⟩) (by show w.heap.size + 1 + 1 ≠ w.heap.size + 1; omega) (.int .i64 (ownW kw).lterm)).other (a := ⟨w.heap.size + 1 + 1, 10, none⟩) (by show w.heap.size + 1 + 1 ≠ w.heap.size + 1; omega) (.int .i64 (ownW kw).commit)).other (a := ⟨w.heap.size + 1 + 1, 11, none⟩) (by show w.heap.size + 1 + 1 ≠ w.heap.size + 1; omega) (.int .i64 (ownW kw).hint)).other (a := ⟨w.heap.size + 1 + 1, 12, none⟩) (by show w.heap.size + 1 + 1 ≠ w.heap.size + 1; omega) (.bool (ownW kw).reject)).other (a := ⟨w.heap.size + 1 + 1, 13, none⟩) (by show w.heap.size + 1 + 1 ≠ w.heap.size + 1; omega) (.slice A1 N1 c1)).other (a := ⟨w.heap.size + 1 + 1, 14, none⟩) (by show w.heap.size + 1 + 1 ≠ w.heap.size + 1; omega) (.string (ownW kw).text)), AtL.to ((((((((((((AtL.of hS.c).cell 4 (.int .i64 (ownW kw).kind)).cell 5 (.int .i64 (ownW kw).frm)).cell 6 (.int .i64 (ownW kw).til)).cell 7 (.int .i64 (ownW kw).term)).cell 8 (.int .i64 (ownW kw).index)).cell 9 (.int .i64 (ownW kw).lterm)).cell 10 (.int .i64 (ownW kw).commit)).cell 11 (.int .i64 (ownW kw).hint)).cell 12 (.bool (ownW kw).reject)).cell 13 (.slice A1 N1 c1)).cell 14 (.string (ownW kw).text)) ?_, (((((((((((hS.d.setCell (p := ⟨w.heap.size + 1 + 1, 4, none⟩) (by show w.heap.size ≤ w.heap.size + 1 + 1; omega) (.int .i64 (ownW kw).kind)).setCell (p := ⟨w.heap.size + 1 + 1, 5, none⟩) (by show w.heap.size ≤ w.heap.size + 1 + 1; omega) (.int .i64 (ownW kw).frm)).setCell (p := ⟨w.heap.size + 1 + 1, 6, none⟩) (by show w.heap.size ≤ w.heap.size + 1 + 1; omega) (.int .i64 (ownW kw).til)).setCell (p := ⟨w.heap.size + 1 + 1, 7, none⟩) (by show w.heap.size ≤ w.heap.size + 1 + 1; omega) (.int .i64 (ownW kw).term)).setCell (p := ⟨w.heap.size + 1 + 1, 8, none⟩) (by show w.heap.size ≤ w.heap.size + 1 + 1; omega) (.int .i64 (ownW kw).index)).setCell (p := ⟨w.heap.size + 1 + 1, 9, none⟩) (by show w.heap.size ≤ w.heap.size + 1 + 1; omega) (.int .i64 (ownW kw).lterm)).setCell (p := ⟨w.heap.size + 1 + 1, 10, none⟩) (by show w.heap.size ≤ w.heap.size + 1 + 1; omega) (.int .i64 (ownW kw).commit)).setCell (p := ⟨w.heap.size + 1 + 1, 11, none⟩) (by show w.heap.size ≤ w.heap.size + 1 + 1; omega) (.int .i64 (ownW kw).hint)).setCell (p := ⟨w.heap.size + 1 + 1, 12, none⟩) (by show w.heap.size ≤ w.heap.size + 1 + 1; omega) (.bool (ownW kw).reject)).setCell (p := ⟨w.heap.size + 1 + 1, 13, none⟩) (by show w.heap.size ≤ w.heap.size + 1 + 1; omega) (.slice A1 N1 c1)).setCell (p := ⟨w.heap.size + 1 + 1, 14, none⟩) (by show w.heap.size ≤ w.heap.size + 1 + 1; omega) (.string (ownW kw).text))⟩⟩
    · go_simp
      try with_reducible rfl
    · rfl
  simp only [Act.put]
  refine St.mix_last ?_
  intro L W4 hS hall
  have B4 := hS.a
  have C4 := hS.b
  have D4 : BoxK (w.heap.size + 1 + 1) ⟨⟨1, kf, kt, kr, (ownW kw), 0, 0, Od.Ask.zero, 0, 0, 0, 0, Od.Rep.zero⟩, .slice A1 N1 c1, nilS⟩ W4 := by
    have := hS.c
    simp only [hall 8 (by decide), hall 10 (by decide), hall 12 (by decide), cond_true] at this
    exact this
  have hW4 := hS.d
  clear hS hall B3 C3 D3 hW3 hz3
  go_wp2_with (refine wpList_getK rfl rfl rfl ?_)
  refine ⟨⟨⟨1, kf, kt, kr, (ownW kw), 0, 0, Od.Ask.zero, 0, 0, 0, 0, Od.Rep.zero⟩, .slice A1 N1 c1, nilS⟩, D4, ?_⟩
  go_wp2_with (refine wpList_setK (o := ⟨⟨1, kf, kt, kr, (ownW kw), 0, 0, Od.Ask.zero, 0, 0, 0, 0, Od.Rep.zero⟩, .slice A1 N1 c1, nilS⟩) rfl rfl rfl rfl C4 rfl rfl ?_)
  intro W5 C5 _ hb5 _
  go_wp2_with fail
  exact bodyPost_ret (res_BoxK Tryz.results20 rfl C5) rfl ⟨rfl, hb5 _ _ hW4 (by omega)⟩
def ownKh (o : Kh) : Kh := ⟨ownK o.k, if o.k.kind = 1 then ownS o.k.wire o.ws else nilS, if o.k.kind = 4 ∧ o.k.status = 1 then o.rs else nilS⟩
theorem ownKh_hk {w : World} {N : Nat} {o : Kh} (h : HK w N o) : HK w N (ownKh o) := by
  obtain ⟨h1, h2⟩ := h
  obtain ⟨⟨kk, kf, kt, kr, kw, ki, kn, ko, kc, kq, ks, kh, kp⟩, ws, rs⟩ := o
  simp only at h1 h2
  unfold ownKh ownK
  simp only
  by_cases k1 : kk = 1
  · subst k1
    simp only [if_true, show ((1 : Int) = 4) = False from by simp, false_and, if_false]
    exact ⟨ownS_se h1, SP.nil _ _⟩
  by_cases k2 : kk = 2
  · subst k2
    exact ⟨SE.nil _ _, SP.nil _ _⟩
  by_cases k3 : kk = 3
  · subst k3
    exact ⟨SE.nil _ _, SP.nil _ _⟩
  by_cases k4 : kk = 4
  · subst k4
    by_cases s1 : ks = 1
    · subst s1
      exact ⟨SE.nil _ _, h2⟩
    · simp only [show ((4 : Int) = 1) = False from by simp, show ((4 : Int) = 2) = False from by simp, show ((4 : Int) = 3) = False from by simp, if_true, if_false, s1, and_false]
      exact ⟨SE.nil _ _, SP.nil _ _⟩
  simp only [k1, k2, k3, k4, if_false, false_and]
  exact ⟨SE.nil _ _, SP.nil _ _⟩
theorem own_any (o : Kh) (w : World) (h : HK w w.heap.size o) : Calls Tryz.prog 20 #[kv o] w fun e w' => e = .returned (kv (ownKh o)) ∧ Below w.heap.size w w' := by
  obtain ⟨A, n, B, m, h1, h2⟩ := h.form
  obtain ⟨⟨kk, kf, kt, kr, kw, ki, kn, ko, kc, kq, ks, kh, kp⟩, ws, rs⟩ := o
  simp only at h1 h2
  obtain ⟨N, hN⟩ : ∃ N, kw.es.length = N := ⟨_, rfl⟩
  obtain ⟨M, hM⟩ : ∃ M, kp.ps.length = M := ⟨_, rfl⟩
  rw [hN] at h1
  rw [hM] at h2
  subst h1 h2
  unfold ownKh ownK
  simp only
  by_cases k1 : kk = 1
  · subst k1
    simp only [if_true, show ((1 : Int) = 4) = False from by simp, false_and, if_false]
    obtain ⟨A1, N1, c1, hs⟩ : ∃ A1 N1 c1, ownS kw (.slice A N n) = .slice A1 N1 c1 := by
      unfold ownS
      by_cases k : kw.kind = 5
      · rw [if_pos k]; exact ⟨_, _, _, rfl⟩
      · rw [if_neg k]; exact ⟨_, _, _, rfl⟩
    rw [hs]
    exact own_1 kf kt kr kw ki kn ko kc kq ks kh kp A N n B M m A1 N1 c1 hs w
  by_cases k2 : kk = 2
  · subst k2
    exact own_2 kf kt kr kw ki kn ko kc kq ks kh kp A N n B M m w
  by_cases k3 : kk = 3
  · subst k3
    exact own_3 kf kt kr kw ki kn ko kc kq ks kh kp A N n B M m w
  by_cases k4 : kk = 4
  · subst k4
    by_cases s1 : ks = 1
    · subst s1
      exact own_41 kf kt kr kw ki kn ko kc kq 1 kh kp A N n B M m rfl w
    · by_cases s2 : ks = 2
      · subst s2
        exact own_42 kf kt kr kw ki kn ko kc kq 2 kh kp A N n B M m rfl w
      · simp only [show ((4 : Int) = 1) = False from by simp, show ((4 : Int) = 2) = False from by simp, show ((4 : Int) = 3) = False from by simp, if_true, if_false, s1, s2, and_false]
        exact own_40 kf kt kr kw ki kn ko kc kq ks kh kp A N n B M m (by simpa using s1) (by simpa using s2) w
  simp only [k1, k2, k3, k4, if_false, false_and]
  exact own_0 kk kf kt kr kw ki kn ko kc kq ks kh kp A N n B M m (by simpa using k1) (by simpa using k2) (by simpa using k3) (by simpa using k4) w
end Go.Proofs.YtkpakiiijphjeaaGreatDoor.Po
