/-
  Parse, the program's, of orders' texts, at every text. Conditions: lengths below 2^47; the library's variables hold what their types allow.
  ParseReply, the program's, at every text. Conditions: lengths below 2^47; the library's variables hold what their types allow.
-/
import Derived.Test.YtkpakiiijphjeaaGreatDoorPOdPCA
import Derived.Test.YtkpakiiijphjeaaGreatDoorPDsPaA
import Derived.Test.YtkpakiiijphjeaaGreatDoorPRegA
import Derived.Test.YtkpakiiijphjeaaGreatDoorPOdSPA
namespace Go.Proofs.YtkpakiiijphjeaaGreatDoor.Od
open Go.RowKit Bnd
open Go.Proofs.YtkpakiiijphjeaaGreatDoor.M (numT inR tieT intT untieT)
open Ds (own_cells)
theorem ptr_inj {a b : Nat} (h : Ds.ptr a = Ds.ptr b) : a = b := by injection h with h; injection h with h; injection h
structure RA (w1 : World) (o : Ask) (L : Nat → Bool) (u : Nat → Value) (wx : World) : Prop where
  lo : Below w1.heap.size w1 wx
  n : L 41 = true → ∃ n : Nat, u 41 = Ds.ptr n ∧ w1.heap.size ≤ n ∧ n < wx.heap.size ∧ (∃ x, BoxA n x wx) ∧ (L 42 = true → BoxA n o wx)
theorem RA.call {w1 wx w' : World} {o : Ask} {L : Nat → Bool} {u : Nat → Value} {i : Nat} (h : RA w1 o L u wx) (h1 : 41 ≠ i) (h2 : 42 ≠ i) (hb : Below wx.heap.size wx w') (v : Value) : RA w1 o (St.mark L i) (St.upd u i v) w' := by
  have e1 : St.mark L i 41 = L 41 := by simp [St.mark, h1]
  have e2 : St.mark L i 42 = L 42 := by simp [St.mark, h2]
  have e3 : St.upd u i v 41 = u 41 := by simp [St.upd, h1]
  refine ⟨h.lo.trans (hb.mono h.lo.size), fun h41 => ?_⟩
  rw [e1] at h41
  obtain ⟨n, g1, g2, g3, ⟨x, g4⟩, g5⟩ := h.n h41
  exact ⟨n, by rw [e3]; exact g1, g2, Nat.lt_of_lt_of_le g3 hb.size, ⟨x, g4.keep hb⟩, fun h42 => (g5 (by rw [← e2]; exact h42)).keep hb⟩
theorem RA.free {w1 wx : World} {o : Ask} {L : Nat → Bool} {u : Nat → Value} (h : RA w1 o L u wx) (h42 : L 42 = false) : RA w1 o (St.mark L 41) (St.upd u 41 (Ds.ptr wx.heap.size)) (wx.alloc (.cells #[.int .i64 0, .int .i64 0, .int .i64 0, .string E0, .string E0, .string E0, .string E0, .bool false, .int .i64 0, .int .i64 0, .int .i64 0] 26)) := by
  refine ⟨h.lo.alloc h.lo.size _, fun _ => ⟨wx.heap.size, rfl, h.lo.size, by simp, ⟨Ask.zero, BoxA.new wx Ask.zero⟩, fun h' => ?_⟩⟩
  rw [show St.mark L 41 42 = L 42 from rfl, h42] at h'; cases h'
theorem RA.set {w1 wx : World} {o : Ask} {L : Nat → Bool} {u : Nat → Value} (h : RA w1 o L u wx) (h41 : L 41 = true) {n : Nat} (hu : u 41 = Ds.ptr n) : RA w1 o (St.mark L 42) (St.upd u 42 undef) (World.setCell (World.setCell (World.setCell (World.setCell (World.setCell (World.setCell (World.setCell (World.setCell (World.setCell (World.setCell (World.setCell wx ⟨n, 0, none⟩ (.int .i64 o.kind)) ⟨n, 1, none⟩ (.int .i64 o.client)) ⟨n, 2, none⟩ (.int .i64 o.seq)) ⟨n, 3, none⟩ (.string o.key)) ⟨n, 4, none⟩ (.string o.til)) ⟨n, 5, none⟩ (.string o.val)) ⟨n, 6, none⟩ (.string o.old)) ⟨n, 7, none⟩ (.bool o.has)) ⟨n, 8, none⟩ (.int .i64 o.lim)) ⟨n, 9, none⟩ (.int .i64 o.id)) ⟨n, 10, none⟩ (.int .i64 o.node)) := by
  obtain ⟨n', g1, g2, g3, ⟨x, g4⟩, _⟩ := h.n h41
  obtain rfl := ptr_inj (hu.symm.trans g1)
  have B := BoxA.put g4 o
  refine ⟨(((((((((((h.lo).setCell (p := ⟨n, 0, none⟩) g2 _).setCell (p := ⟨n, 1, none⟩) g2 _).setCell (p := ⟨n, 2, none⟩) g2 _).setCell (p := ⟨n, 3, none⟩) g2 _).setCell (p := ⟨n, 4, none⟩) g2 _).setCell (p := ⟨n, 5, none⟩) g2 _).setCell (p := ⟨n, 6, none⟩) g2 _).setCell (p := ⟨n, 7, none⟩) g2 _).setCell (p := ⟨n, 8, none⟩) g2 _).setCell (p := ⟨n, 9, none⟩) g2 _).setCell (p := ⟨n, 10, none⟩) g2 _, fun _ => ⟨n, hu, g2, B.1, ⟨o, B⟩, fun _ => B⟩⟩
theorem num0_in (t : Text) : inR (num0 t) := by
  unfold num0
  cases h : intT t with
  | none => exact ⟨by decide, by decide⟩
  | some n => exact (M.intT_spec h).1
theorem parseA_none {s : Text} (h : untieT s = none) : parseA s = (Ask.zero, 70) := by unfold parseA; rw [h]
theorem parseA_len {s : Text} {ss : List ByteArray} (h : untieT s = some (texts ss)) (hl : ss.length ≠ 11) : parseA s = (Ask.zero, 70) := by
  unfold parseA
  rw [h]
  have : readA (texts ss) = none := by
    unfold readA
    split
    · rename_i e
      have := congrArg List.length e
      rw [texts_length] at this
      exact absurd this hl
    · rfl
  simp only [this]
theorem parseA_some {s : Text} {x0 x1 x2 x3 x4 x5 x6 x7 x8 x9 x10 : ByteArray} (h : untieT s = some (texts [x0, x1, x2, x3, x4, x5, x6, x7, x8, x9, x10])) :
    parseA s = okA ⟨num0 x0.data.toList, num0 x1.data.toList, num0 x2.data.toList, x3, x4, x5, x6, decide (x7.data.toList = [49]), num0 x8.data.toList, num0 x9.data.toList, num0 x10.data.toList⟩ s := by
  unfold parseA
  rw [h]
  have : readA (texts [x0, x1, x2, x3, x4, x5, x6, x7, x8, x9, x10]) = some ⟨num0 x0.data.toList, num0 x1.data.toList, num0 x2.data.toList, x3, x4, x5, x6, decide (x7.data.toList = [49]), num0 x8.data.toList, num0 x9.data.toList, num0 x10.data.toList⟩ := by
    simp [texts, readA]
  simp only [this]
theorem is_one (x : ByteArray) : (x.toList == [49]) = decide (x.data.toList = [49]) := by
  rw [ByteArray.toList_eq, Bool.eq_iff_iff]
  simp
set_option maxHeartbeats 16000000 in
set_option maxRecDepth 100000 in
theorem parse_any (s : ByteArray) (w : World) (hs : s.size ≤ 140737488355328) (hg : Good w) :
    Calls Tryz.prog 48 #[.string s] w fun e w' => e = .returned (.tuple #[av (parseA s.data.toList).1, .int .i64 (parseA s.data.toList).2]) ∧ Below w.heap.size w w' := by
  have cu := fun w hg => untie_own s w hs hg
  have B0 := BoxA.new w Ask.zero
  cases hu : untieT s.data.toList with
  | none =>
    rw [parseA_none hu]
    rw [hu] at cu
    unfold UntieOwn at cu
    clear hu
    go_enter Tryz.func48, Tryz.ntmps48
    go_wp2_with fail
    refine (cu _ (hg.below (by (repeat' (first | with_reducible assumption | with_reducible exact Below.refl _ _ | with_reducible refine Below.alloc ?_ ?_ _ | with_reducible refine Below.setCell ?_ ?_ _ | with_reducible refine Below.drew ?_ | omega | (simp; done) | (simp; omega)))))).mono ?_
    rintro e w1 ⟨rfl, b1⟩
    have B1 := B0.keep b1
    have hb1 : Below w.heap.size w w1 := (show Below w.heap.size w _ from (by (repeat' (first | with_reducible assumption | with_reducible exact Below.refl _ _ | with_reducible refine Below.alloc ?_ ?_ _ | with_reducible refine Below.setCell ?_ ?_ _ | with_reducible refine Below.drew ?_ | omega | (simp; done) | (simp; omega))))).trans (b1.mono (by simp))
    obtain ⟨p_0, ⟨p_1, p_2, p_3, p_4, p_5, p_6, p_7, p_8, p_9, p_10, p_11⟩, p_12⟩ := _root_.id B1
    clear b1 cu
    go_wp2_with fail
    exact bodyPost_ret (res_BoxA_tmp Tryz.results48 rfl rfl (BoxA.put B1 Ask.zero)) rfl ⟨rfl, (by (repeat' (first | with_reducible assumption | with_reducible exact Below.refl _ _ | with_reducible refine Below.alloc ?_ ?_ _ | with_reducible refine Below.setCell ?_ ?_ _ | with_reducible refine Below.drew ?_ | omega | (simp; done) | (simp; omega))))⟩
  | some l =>
    obtain ⟨q, hq⟩ : ∃ q, parseA s.data.toList = q := ⟨_, rfl⟩
    rw [hq]
    have HQ := Lib.hid hq
    clear hq
    rw [hu] at cu
    have hus := M.untie_spec hu
    go_enter Tryz.func48, Tryz.ntmps48
    go_wp2_with fail
    refine (cu _ (hg.below (by (repeat' (first | with_reducible assumption | with_reducible exact Below.refl _ _ | with_reducible refine Below.alloc ?_ ?_ _ | with_reducible refine Below.setCell ?_ ?_ _ | with_reducible refine Below.drew ?_ | omega | (simp; done) | (simp; omega)))))).mono ?_
    rintro e w1 ⟨⟨v, ss, rfl, hss, hown⟩, b1⟩
    subst hss
    have hszs : ∀ x ∈ ss, x.size ≤ 1048576 := by
      intro x hx
      have h1 := mem_le_tie (l := texts ss) (x := x.data.toList) (List.mem_map.2 ⟨x, hx, rfl⟩)
      have h2 := hus.2.2
      rw [hus.1] at h2
      have h3 : x.data.toList.length = x.size := by simp
      omega
    have B1 := B0.keep b1
    have hb1 : Below w.heap.size w w1 := (show Below w.heap.size w _ from (by (repeat' (first | with_reducible assumption | with_reducible exact Below.refl _ _ | with_reducible refine Below.alloc ?_ ?_ _ | with_reducible refine Below.setCell ?_ ?_ _ | with_reducible refine Below.drew ?_ | omega | (simp; done) | (simp; omega))))).trans (b1.mono (by simp))
    have hz1 := hb1.size
    obtain ⟨p_0, ⟨p_1, p_2, p_3, p_4, p_5, p_6, p_7, p_8, p_9, p_10, p_11⟩, p_12⟩ := _root_.id B1
    have hg1 : Good w1 := hg.below hb1
    have HU := Lib.hid hu
    clear b1 cu hus hu
    by_cases h11 : ss.length = 11
    rotate_left
    · have HR := Lib.hid (HQ.out.symm.trans (parseA_len HU.out h11))
      obtain ⟨A, c, rfl⟩ := own_form hown
      have g1 : ((ss.length : Int) == 11) = false := by rw [beq_eq_false_iff_ne]; omega
      have g2 : ((ss.length : Int) != 11) = true := by rw [bne, g1]; rfl
      have g3 : ((ss.length : Int) = 11) = False := eq_false (by omega)
      clear h11 hown HU HQ
      go_wp2_with fail
      exact bodyPost_ret (res_BoxA_tmp Tryz.results48 rfl rfl (BoxA.put B1 Ask.zero)) rfl ⟨by rw [HR.out] <;> rfl, (by (repeat' (first | with_reducible assumption | with_reducible exact Below.refl _ _ | with_reducible refine Below.alloc ?_ ?_ _ | with_reducible refine Below.setCell ?_ ?_ _ | with_reducible refine Below.drew ?_ | omega | (simp; done) | (simp; omega))))⟩
    · obtain ⟨x0, x1, x2, x3, x4, x5, x6, x7, x8, x9, x10, rfl⟩ : ∃ x0 x1 x2 x3 x4 x5 x6 x7 x8 x9 x10, ss = [x0, x1, x2, x3, x4, x5, x6, x7, x8, x9, x10] := by
        rcases ss with _ | ⟨a0, _ | ⟨a1, _ | ⟨a2, _ | ⟨a3, _ | ⟨a4, _ | ⟨a5, _ | ⟨a6, _ | ⟨a7, _ | ⟨a8, _ | ⟨a9, _ | ⟨a10, _ | ⟨a11, _⟩⟩⟩⟩⟩⟩⟩⟩⟩⟩⟩⟩
        all_goals first | exact ⟨_, _, _, _, _, _, _, _, _, _, _, rfl⟩ | (exfalso; simp at h11)
      have HP := Lib.hid (HQ.out.symm.trans (parseA_some HU.out))
      clear HQ
      obtain ⟨g, cap, cur, rfl, hbg, hgb, hnc, hcm, hcs, htk⟩ := hown.2.resolve_left (fun h => by simp at h)
      have z0 := own_cells hown 0 (by simp)
      have z1 := own_cells hown 1 (by simp)
      have z2 := own_cells hown 2 (by simp)
      have z3 := own_cells hown 3 (by simp)
      have z4 := own_cells hown 4 (by simp)
      have z5 := own_cells hown 5 (by simp)
      have z6 := own_cells hown 6 (by simp)
      have z7 := own_cells hown 7 (by simp)
      have z8 := own_cells hown 8 (by simp)
      have z9 := own_cells hown 9 (by simp)
      have z10 := own_cells hown 10 (by simp)
      simp only [List.getElem_cons_zero, List.getElem_cons_succ] at z0 z1 z2 z3 z4 z5 z6 z7 z8 z9 z10
      have hgl : g < w1.heap.size := Lib.lt_of_cell z0
      have hx0 := hszs x0 (by simp)
      have hx1 := hszs x1 (by simp)
      have hx2 := hszs x2 (by simp)
      have hx3 := hszs x3 (by simp)
      have hx4 := hszs x4 (by simp)
      have hx5 := hszs x5 (by simp)
      have hx6 := hszs x6 (by simp)
      have hx7 := hszs x7 (by simp)
      have hx8 := hszs x8 (by simp)
      have hx9 := hszs x9 (by simp)
      have hx10 := hszs x10 (by simp)
      obtain ⟨n0, hn0⟩ : ∃ n, num0 x0.data.toList = n := ⟨_, rfl⟩
      have c0 := fun w hg => number_any x0 w (by omega) hg
      have i0 := num0_in x0.data.toList
      rw [hn0] at c0 i0
      obtain ⟨n1, hn1⟩ : ∃ n, num0 x1.data.toList = n := ⟨_, rfl⟩
      have c1 := fun w hg => number_any x1 w (by omega) hg
      have i1 := num0_in x1.data.toList
      rw [hn1] at c1 i1
      obtain ⟨n2, hn2⟩ : ∃ n, num0 x2.data.toList = n := ⟨_, rfl⟩
      have c2 := fun w hg => number_any x2 w (by omega) hg
      have i2 := num0_in x2.data.toList
      rw [hn2] at c2 i2
      obtain ⟨n8, hn8⟩ : ∃ n, num0 x8.data.toList = n := ⟨_, rfl⟩
      have c8 := fun w hg => number_any x8 w (by omega) hg
      have i8 := num0_in x8.data.toList
      rw [hn8] at c8 i8
      obtain ⟨n9, hn9⟩ : ∃ n, num0 x9.data.toList = n := ⟨_, rfl⟩
      have c9 := fun w hg => number_any x9 w (by omega) hg
      have i9 := num0_in x9.data.toList
      rw [hn9] at c9 i9
      obtain ⟨n10, hn10⟩ : ∃ n, num0 x10.data.toList = n := ⟨_, rfl⟩
      have c10 := fun w hg => number_any x10 w (by omega) hg
      have i10 := num0_in x10.data.toList
      rw [hn10] at c10 i10
      rw [hn0, hn1, hn2, hn8, hn9, hn10] at HP
      clear hn0 hn1 hn2 hn8 hn9 hn10
      rw [← is_one] at HP
      obtain ⟨o, ho⟩ : ∃ o : Ask, (⟨n0, n1, n2, x3, x4, x5, x6, x7.toList == [49], n8, n9, n10⟩ : Ask) = o := ⟨_, rfl⟩
      rw [ho] at HP
      have hkk : o.key.size ≤ 140737488355328 := by rw [← ho]; show x3.size ≤ _; omega
      have hkt : o.til.size ≤ 140737488355328 := by rw [← ho]; show x4.size ≤ _; omega
      have hkv : o.val.size ≤ 140737488355328 := by rw [← ho]; show x5.size ≤ _; omega
      have hfit : FitA o := by rw [← ho]; exact ⟨⟨i0, i1, i2, i8, i9, i10⟩, hx3, hx4, hx5, hx6⟩
      have HO := Lib.hid ho
      clear ho h11 hown hbg hgb hcs htk HU hszs hx0 hx1 hx2 hx3 hx4 hx5 hx6 hx7 hx8 hx9 hx10 i0 i1 i2 i8 i9 i10
      simp only [List.length_cons, List.length_nil] at hnc ⊢
      go_wp2_with fail
      refine St.wp_region_mixed (RA w1 o) (fun k x => x = .int .i64 (match k with | 3 => n0 | 7 => n1 | 11 => n2 | 31 => n8 | 35 => n9 | _ => n10)) (by kernel_rfl) (by kernel_rfl) (by kernel_rfl) ⟨(Below.refl _ w1).drew, fun h => (by cases h)⟩ ?_
      iterate 3
        apply St.mix_give
        · rfl
        · intro L u' wx hS hcl hrd hag
          have y0 := (hS.lo.cell (p := ⟨g, 0, none⟩) hgl).trans z0
          have y1 := (hS.lo.cell (p := ⟨g, 1, none⟩) hgl).trans z1
          have y2 := (hS.lo.cell (p := ⟨g, 2, none⟩) hgl).trans z2
          have y3 := (hS.lo.cell (p := ⟨g, 3, none⟩) hgl).trans z3
          have y4 := (hS.lo.cell (p := ⟨g, 4, none⟩) hgl).trans z4
          have y5 := (hS.lo.cell (p := ⟨g, 5, none⟩) hgl).trans z5
          have y6 := (hS.lo.cell (p := ⟨g, 6, none⟩) hgl).trans z6
          have y7 := (hS.lo.cell (p := ⟨g, 7, none⟩) hgl).trans z7
          have y8 := (hS.lo.cell (p := ⟨g, 8, none⟩) hgl).trans z8
          have y9 := (hS.lo.cell (p := ⟨g, 9, none⟩) hgl).trans z9
          have y10 := (hS.lo.cell (p := ⟨g, 10, none⟩) hgl).trans z10
          go_simp
          try with_reducible rfl
        · exact fun L u' wx hS => ⟨hS.lo, hS.n⟩
        simp only [Act.put, List.setIfInBounds_toArray, List.set_cons_zero, List.set_cons_succ]
      refine St.mix_into (v := .int .i64 n0) (f := 89) (args := #[.string x0]) rfl rfl ?_ ?_ ?_
      · intro wx
        go_simp
        try with_reducible rfl
      · intro L u' wx hS hcl hrd hag
        refine (c0 wx (hg1.below hS.lo)).mono ?_
        rintro e w' ⟨rfl, hb'⟩
        exact ⟨rfl, hS.call (by decide) (by decide) hb' _⟩
      simp only [Act.put, List.setIfInBounds_toArray, List.set_cons_zero, List.set_cons_succ]
      iterate 3
        apply St.mix_give
        · rfl
        · intro L u' wx hS hcl hrd hag
          have y0 := (hS.lo.cell (p := ⟨g, 0, none⟩) hgl).trans z0
          have y1 := (hS.lo.cell (p := ⟨g, 1, none⟩) hgl).trans z1
          have y2 := (hS.lo.cell (p := ⟨g, 2, none⟩) hgl).trans z2
          have y3 := (hS.lo.cell (p := ⟨g, 3, none⟩) hgl).trans z3
          have y4 := (hS.lo.cell (p := ⟨g, 4, none⟩) hgl).trans z4
          have y5 := (hS.lo.cell (p := ⟨g, 5, none⟩) hgl).trans z5
          have y6 := (hS.lo.cell (p := ⟨g, 6, none⟩) hgl).trans z6
          have y7 := (hS.lo.cell (p := ⟨g, 7, none⟩) hgl).trans z7
          have y8 := (hS.lo.cell (p := ⟨g, 8, none⟩) hgl).trans z8
          have y9 := (hS.lo.cell (p := ⟨g, 9, none⟩) hgl).trans z9
          have y10 := (hS.lo.cell (p := ⟨g, 10, none⟩) hgl).trans z10
          go_simp
          try with_reducible rfl
        · exact fun L u' wx hS => ⟨hS.lo, hS.n⟩
        simp only [Act.put, List.setIfInBounds_toArray, List.set_cons_zero, List.set_cons_succ]
      refine St.mix_into (v := .int .i64 n1) (f := 89) (args := #[.string x1]) rfl rfl ?_ ?_ ?_
      · intro wx
        go_simp
        try with_reducible rfl
      · intro L u' wx hS hcl hrd hag
        refine (c1 wx (hg1.below hS.lo)).mono ?_
        rintro e w' ⟨rfl, hb'⟩
        exact ⟨rfl, hS.call (by decide) (by decide) hb' _⟩
      simp only [Act.put, List.setIfInBounds_toArray, List.set_cons_zero, List.set_cons_succ]
      iterate 3
        apply St.mix_give
        · rfl
        · intro L u' wx hS hcl hrd hag
          have y0 := (hS.lo.cell (p := ⟨g, 0, none⟩) hgl).trans z0
          have y1 := (hS.lo.cell (p := ⟨g, 1, none⟩) hgl).trans z1
          have y2 := (hS.lo.cell (p := ⟨g, 2, none⟩) hgl).trans z2
          have y3 := (hS.lo.cell (p := ⟨g, 3, none⟩) hgl).trans z3
          have y4 := (hS.lo.cell (p := ⟨g, 4, none⟩) hgl).trans z4
          have y5 := (hS.lo.cell (p := ⟨g, 5, none⟩) hgl).trans z5
          have y6 := (hS.lo.cell (p := ⟨g, 6, none⟩) hgl).trans z6
          have y7 := (hS.lo.cell (p := ⟨g, 7, none⟩) hgl).trans z7
          have y8 := (hS.lo.cell (p := ⟨g, 8, none⟩) hgl).trans z8
          have y9 := (hS.lo.cell (p := ⟨g, 9, none⟩) hgl).trans z9
          have y10 := (hS.lo.cell (p := ⟨g, 10, none⟩) hgl).trans z10
          go_simp
          try with_reducible rfl
        · exact fun L u' wx hS => ⟨hS.lo, hS.n⟩
        simp only [Act.put, List.setIfInBounds_toArray, List.set_cons_zero, List.set_cons_succ]
      refine St.mix_into (v := .int .i64 n2) (f := 89) (args := #[.string x2]) rfl rfl ?_ ?_ ?_
      · intro wx
        go_simp
        try with_reducible rfl
      · intro L u' wx hS hcl hrd hag
        refine (c2 wx (hg1.below hS.lo)).mono ?_
        rintro e w' ⟨rfl, hb'⟩
        exact ⟨rfl, hS.call (by decide) (by decide) hb' _⟩
      simp only [Act.put, List.setIfInBounds_toArray, List.set_cons_zero, List.set_cons_succ]
      iterate 19
        apply St.mix_give
        · rfl
        · intro L u' wx hS hcl hrd hag
          have y0 := (hS.lo.cell (p := ⟨g, 0, none⟩) hgl).trans z0
          have y1 := (hS.lo.cell (p := ⟨g, 1, none⟩) hgl).trans z1
          have y2 := (hS.lo.cell (p := ⟨g, 2, none⟩) hgl).trans z2
          have y3 := (hS.lo.cell (p := ⟨g, 3, none⟩) hgl).trans z3
          have y4 := (hS.lo.cell (p := ⟨g, 4, none⟩) hgl).trans z4
          have y5 := (hS.lo.cell (p := ⟨g, 5, none⟩) hgl).trans z5
          have y6 := (hS.lo.cell (p := ⟨g, 6, none⟩) hgl).trans z6
          have y7 := (hS.lo.cell (p := ⟨g, 7, none⟩) hgl).trans z7
          have y8 := (hS.lo.cell (p := ⟨g, 8, none⟩) hgl).trans z8
          have y9 := (hS.lo.cell (p := ⟨g, 9, none⟩) hgl).trans z9
          have y10 := (hS.lo.cell (p := ⟨g, 10, none⟩) hgl).trans z10
          go_simp
          try with_reducible rfl
        · exact fun L u' wx hS => ⟨hS.lo, hS.n⟩
        simp only [Act.put, List.setIfInBounds_toArray, List.set_cons_zero, List.set_cons_succ]
      refine St.mix_into (v := .int .i64 n8) (f := 89) (args := #[.string x8]) rfl rfl ?_ ?_ ?_
      · intro wx
        go_simp
        try with_reducible rfl
      · intro L u' wx hS hcl hrd hag
        refine (c8 wx (hg1.below hS.lo)).mono ?_
        rintro e w' ⟨rfl, hb'⟩
        exact ⟨rfl, hS.call (by decide) (by decide) hb' _⟩
      simp only [Act.put, List.setIfInBounds_toArray, List.set_cons_zero, List.set_cons_succ]
      iterate 3
        apply St.mix_give
        · rfl
        · intro L u' wx hS hcl hrd hag
          have y0 := (hS.lo.cell (p := ⟨g, 0, none⟩) hgl).trans z0
          have y1 := (hS.lo.cell (p := ⟨g, 1, none⟩) hgl).trans z1
          have y2 := (hS.lo.cell (p := ⟨g, 2, none⟩) hgl).trans z2
          have y3 := (hS.lo.cell (p := ⟨g, 3, none⟩) hgl).trans z3
          have y4 := (hS.lo.cell (p := ⟨g, 4, none⟩) hgl).trans z4
          have y5 := (hS.lo.cell (p := ⟨g, 5, none⟩) hgl).trans z5
          have y6 := (hS.lo.cell (p := ⟨g, 6, none⟩) hgl).trans z6
          have y7 := (hS.lo.cell (p := ⟨g, 7, none⟩) hgl).trans z7
          have y8 := (hS.lo.cell (p := ⟨g, 8, none⟩) hgl).trans z8
          have y9 := (hS.lo.cell (p := ⟨g, 9, none⟩) hgl).trans z9
          have y10 := (hS.lo.cell (p := ⟨g, 10, none⟩) hgl).trans z10
          go_simp
          try with_reducible rfl
        · exact fun L u' wx hS => ⟨hS.lo, hS.n⟩
        simp only [Act.put, List.setIfInBounds_toArray, List.set_cons_zero, List.set_cons_succ]
      refine St.mix_into (v := .int .i64 n9) (f := 89) (args := #[.string x9]) rfl rfl ?_ ?_ ?_
      · intro wx
        go_simp
        try with_reducible rfl
      · intro L u' wx hS hcl hrd hag
        refine (c9 wx (hg1.below hS.lo)).mono ?_
        rintro e w' ⟨rfl, hb'⟩
        exact ⟨rfl, hS.call (by decide) (by decide) hb' _⟩
      simp only [Act.put, List.setIfInBounds_toArray, List.set_cons_zero, List.set_cons_succ]
      iterate 3
        apply St.mix_give
        · rfl
        · intro L u' wx hS hcl hrd hag
          have y0 := (hS.lo.cell (p := ⟨g, 0, none⟩) hgl).trans z0
          have y1 := (hS.lo.cell (p := ⟨g, 1, none⟩) hgl).trans z1
          have y2 := (hS.lo.cell (p := ⟨g, 2, none⟩) hgl).trans z2
          have y3 := (hS.lo.cell (p := ⟨g, 3, none⟩) hgl).trans z3
          have y4 := (hS.lo.cell (p := ⟨g, 4, none⟩) hgl).trans z4
          have y5 := (hS.lo.cell (p := ⟨g, 5, none⟩) hgl).trans z5
          have y6 := (hS.lo.cell (p := ⟨g, 6, none⟩) hgl).trans z6
          have y7 := (hS.lo.cell (p := ⟨g, 7, none⟩) hgl).trans z7
          have y8 := (hS.lo.cell (p := ⟨g, 8, none⟩) hgl).trans z8
          have y9 := (hS.lo.cell (p := ⟨g, 9, none⟩) hgl).trans z9
          have y10 := (hS.lo.cell (p := ⟨g, 10, none⟩) hgl).trans z10
          go_simp
          try with_reducible rfl
        · exact fun L u' wx hS => ⟨hS.lo, hS.n⟩
        simp only [Act.put, List.setIfInBounds_toArray, List.set_cons_zero, List.set_cons_succ]
      refine St.mix_into (v := .int .i64 n10) (f := 89) (args := #[.string x10]) rfl rfl ?_ ?_ ?_
      · intro wx
        go_simp
        try with_reducible rfl
      · intro L u' wx hS hcl hrd hag
        refine (c10 wx (hg1.below hS.lo)).mono ?_
        rintro e w' ⟨rfl, hb'⟩
        exact ⟨rfl, hS.call (by decide) (by decide) hb' _⟩
      simp only [Act.put, List.setIfInBounds_toArray, List.set_cons_zero, List.set_cons_succ]
      iterate 1
        apply St.mix_give
        · rfl
        · intro L u' wx hS hcl hrd hag
          have y0 := (hS.lo.cell (p := ⟨g, 0, none⟩) hgl).trans z0
          have y1 := (hS.lo.cell (p := ⟨g, 1, none⟩) hgl).trans z1
          have y2 := (hS.lo.cell (p := ⟨g, 2, none⟩) hgl).trans z2
          have y3 := (hS.lo.cell (p := ⟨g, 3, none⟩) hgl).trans z3
          have y4 := (hS.lo.cell (p := ⟨g, 4, none⟩) hgl).trans z4
          have y5 := (hS.lo.cell (p := ⟨g, 5, none⟩) hgl).trans z5
          have y6 := (hS.lo.cell (p := ⟨g, 6, none⟩) hgl).trans z6
          have y7 := (hS.lo.cell (p := ⟨g, 7, none⟩) hgl).trans z7
          have y8 := (hS.lo.cell (p := ⟨g, 8, none⟩) hgl).trans z8
          have y9 := (hS.lo.cell (p := ⟨g, 9, none⟩) hgl).trans z9
          have y10 := (hS.lo.cell (p := ⟨g, 10, none⟩) hgl).trans z10
          go_simp
          try with_reducible rfl
        · exact fun L u' wx hS => ⟨hS.lo, hS.n⟩
        simp only [Act.put, List.setIfInBounds_toArray, List.set_cons_zero, List.set_cons_succ]
      refine St.mix_free (fun z => ∃ n', z = Ds.ptr n') rfl ?_ ?_
      · intro L u' wx hS hcl hrd hag
        refine ⟨Ds.ptr wx.heap.size, _, ⟨_, rfl⟩, ?_, hS.free (St.not_yet hcl hrd 40 42 (by kernel_rfl))⟩
        go_simp
        try with_reducible rfl
      rintro _ ⟨nb, rfl⟩
      simp only [Act.put, List.setIfInBounds_toArray, List.set_cons_zero, List.set_cons_succ]
      refine St.mix_skip rfl ?_ ?_
      · intro L u' wx hS hcl hrd hag
        have h41 := St.before_ready hcl hrd 40 41 (by kernel_rfl)
        have hu41 : u' 41 = Ds.ptr nb := hag 40 41 (by kernel_rfl)
        refine ⟨_, ?_, hS.set h41 hu41⟩
        obtain ⟨n', g1, g2, g3, ⟨xo, g4⟩, _⟩ := hS.n h41
        obtain rfl := ptr_inj (hu41.symm.trans g1)
        obtain ⟨_, ⟨d0, d1, d2, d3, d4, d5, d6, d7, d8, d9, d10⟩, hfz⟩ := g4
        rw [← HO.out]
        clear g1
        go_simp
        try with_reducible rfl
      simp only [Act.put]
      refine St.mix_last ?_
      intro L w2 hS hall
      obtain ⟨n', g1, g2, g3, _, g5⟩ := hS.n (hall 41 (by decide))
      obtain rfl := ptr_inj (show Ds.ptr nb = Ds.ptr n' from g1)
      have B2 := g5 (hall 42 (by decide))
      have hb12 := hS.lo
      clear g1 g5 hS hall
      have A2 := B1.keep hb12
      have hb2 : Below w.heap.size w w2 := hb1.trans (hb12.mono hz1)
      have hg2 : Good w2 := hg1.below hb12
      clear c0 c1 c2 c8 c9 c10 z0 z1 z2 z3 z4 z5 z6 z7 z8 z9 z10 hb12
      clear p_0 p_1 p_2 p_3 p_4 p_5 p_6 p_7 p_8 p_9 p_10 p_11 p_12
      obtain ⟨p_0, ⟨p_1, p_2, p_3, p_4, p_5, p_6, p_7, p_8, p_9, p_10, p_11⟩, p_12⟩ := _root_.id A2
      obtain ⟨o_0, ⟨o_1, o_2, o_3, o_4, o_5, o_6, o_7, o_8, o_9, o_10, o_11⟩, o_12⟩ := _root_.id B2
      have hA := A2
      have hB := B2
      have hz2 := hb2.size
      clear A2 B2
      have ck := fun w hg => check_any o w hkk hkt hkv hg
      cases hI : isA o with
      | false =>
        rw [show chkA o = 70 by unfold chkA; rw [hI]; rfl] at ck
        have HR := Lib.hid (show q = (Ask.zero, 70) by rw [HP.out]; unfold okA; rw [hI]; exact if_neg (by simp))
        clear hI HP
        go_wp2_with fail
        refine (ck _ hg2).mono ?_
        rintro e w3 ⟨rfl, b3⟩
        have A3 := hA.keep b3
        have hb3 := hb2.trans (b3.mono hz2)
        clear p_0 p_1 p_2 p_3 p_4 p_5 p_6 p_7 p_8 p_9 p_10 p_11 p_12
        obtain ⟨p_0, ⟨p_1, p_2, p_3, p_4, p_5, p_6, p_7, p_8, p_9, p_10, p_11⟩, p_12⟩ := _root_.id A3
        clear b3
        go_wp2_with fail
        exact bodyPost_ret (res_BoxA_tmp Tryz.results48 rfl rfl (BoxA.put A3 Ask.zero)) rfl ⟨by rw [HR.out] <;> rfl, (by (repeat' (first | with_reducible assumption | with_reducible exact Below.refl _ _ | with_reducible refine Below.alloc ?_ ?_ _ | with_reducible refine Below.setCell ?_ ?_ _ | with_reducible refine Below.drew ?_ | omega | (simp; done) | (simp; omega))))⟩
      | true =>
        rw [show chkA o = 0 by unfold chkA; rw [hI]; rfl] at ck
        have cp := fun w => put_any o w hfit
        obtain ⟨P, hP⟩ : ∃ P : ByteArray, (⟨(putA o).toArray⟩ : ByteArray) = P := ⟨_, rfl⟩
        have cp2 : ∀ w, Calls Tryz.prog 35 #[av o] w fun e w' => e = .returned (.string P) ∧ Below w.heap.size w w' := fun w => by rw [← hP]; exact cp w
        clear cp
        have hPd : putA o = P.data.toList := by rw [← hP]
        by_cases hs' : P = s
        · subst hs'
          have HR := Lib.hid (show q = (o, 0) by rw [HP.out]; unfold okA; rw [hI]; exact if_pos ⟨rfl, hPd⟩)
          clear hI hP hPd HP
          go_wp2_with fail
          refine (ck _ hg2).mono ?_
          rintro e w3 ⟨rfl, b3⟩
          have A3 := hA.keep b3
          have B3 := hB.keep b3
          have hb3 := hb2.trans (b3.mono hz2)
          have hz3 := hb3.size
          clear p_0 p_1 p_2 p_3 p_4 p_5 p_6 p_7 p_8 p_9 p_10 p_11 p_12
          clear o_0 o_1 o_2 o_3 o_4 o_5 o_6 o_7 o_8 o_9 o_10 o_11 o_12
          obtain ⟨p_0, ⟨p_1, p_2, p_3, p_4, p_5, p_6, p_7, p_8, p_9, p_10, p_11⟩, p_12⟩ := _root_.id A3
          obtain ⟨o_0, ⟨o_1, o_2, o_3, o_4, o_5, o_6, o_7, o_8, o_9, o_10, o_11⟩, o_12⟩ := _root_.id B3
          clear b3
          go_wp2_with fail
          refine (cp2 _).mono ?_
          rintro e w4 ⟨rfl, b4⟩
          have A4 := A3.keep b4
          have B4 := B3.keep b4
          have hb4 := hb3.trans (b4.mono hz3)
          have hz4 := hb4.size
          clear p_0 p_1 p_2 p_3 p_4 p_5 p_6 p_7 p_8 p_9 p_10 p_11 p_12
          clear o_0 o_1 o_2 o_3 o_4 o_5 o_6 o_7 o_8 o_9 o_10 o_11 o_12
          obtain ⟨p_0, ⟨p_1, p_2, p_3, p_4, p_5, p_6, p_7, p_8, p_9, p_10, p_11⟩, p_12⟩ := _root_.id A4
          obtain ⟨o_0, ⟨o_1, o_2, o_3, o_4, o_5, o_6, o_7, o_8, o_9, o_10, o_11⟩, o_12⟩ := _root_.id B4
          clear b4
          go_wp2_with fail
          exact bodyPost_ret (res_BoxA_tmp Tryz.results48 rfl rfl (BoxA.put A4 o)) rfl ⟨by rw [HR.out] <;> rfl, (by (repeat' (first | with_reducible assumption | with_reducible exact Below.refl _ _ | with_reducible refine Below.alloc ?_ ?_ _ | with_reducible refine Below.setCell ?_ ?_ _ | with_reducible refine Below.drew ?_ | omega | (simp; done) | (simp; omega))))⟩
        · have HR := Lib.hid (show q = (Ask.zero, 70) by rw [HP.out]; unfold okA; exact if_neg (fun hh => hs' (ba_same (hPd.symm.trans hh.2))))
          have q2 : (P.toList == s.toList) = false := by rw [beq_eq_false_iff_ne]; exact fun h => hs' ((ba_iff P s).1 h)
          have q3 : (P.toList = s.toList) = False := eq_false (fun h => hs' ((ba_iff P s).1 h))
          clear hI hP hPd HP
          go_wp2_with fail
          refine (ck _ hg2).mono ?_
          rintro e w3 ⟨rfl, b3⟩
          have A3 := hA.keep b3
          have B3 := hB.keep b3
          have hb3 := hb2.trans (b3.mono hz2)
          have hz3 := hb3.size
          clear p_0 p_1 p_2 p_3 p_4 p_5 p_6 p_7 p_8 p_9 p_10 p_11 p_12
          clear o_0 o_1 o_2 o_3 o_4 o_5 o_6 o_7 o_8 o_9 o_10 o_11 o_12
          obtain ⟨p_0, ⟨p_1, p_2, p_3, p_4, p_5, p_6, p_7, p_8, p_9, p_10, p_11⟩, p_12⟩ := _root_.id A3
          obtain ⟨o_0, ⟨o_1, o_2, o_3, o_4, o_5, o_6, o_7, o_8, o_9, o_10, o_11⟩, o_12⟩ := _root_.id B3
          clear b3
          go_wp2_with fail
          refine (cp2 _).mono ?_
          rintro e w4 ⟨rfl, b4⟩
          have A4 := A3.keep b4
          have hb4 := hb3.trans (b4.mono hz3)
          have hz4 := hb4.size
          clear p_0 p_1 p_2 p_3 p_4 p_5 p_6 p_7 p_8 p_9 p_10 p_11 p_12
          clear o_0 o_1 o_2 o_3 o_4 o_5 o_6 o_7 o_8 o_9 o_10 o_11 o_12
          obtain ⟨p_0, ⟨p_1, p_2, p_3, p_4, p_5, p_6, p_7, p_8, p_9, p_10, p_11⟩, p_12⟩ := _root_.id A4
          clear b4
          go_wp2_with fail
          exact bodyPost_ret (res_BoxA_tmp Tryz.results48 rfl rfl (BoxA.put A4 Ask.zero)) rfl ⟨by rw [HR.out] <;> rfl, (by (repeat' (first | with_reducible assumption | with_reducible exact Below.refl _ _ | with_reducible refine Below.alloc ?_ ?_ _ | with_reducible refine Below.setCell ?_ ?_ _ | with_reducible refine Below.drew ?_ | omega | (simp; done) | (simp; omega))))⟩
end Go.Proofs.YtkpakiiijphjeaaGreatDoor.Od

namespace Go.Proofs.YtkpakiiijphjeaaGreatDoor.Od
open Go.RowKit Bnd
open Go.Proofs.YtkpakiiijphjeaaGreatDoor.M (numT inR tieT intT untieT)
open Ds (own_cells)
structure RR (w1 : World) (o : Rep) (L : Nat → Bool) (u : Nat → Value) (wx : World) : Prop where
  lo : Below w1.heap.size w1 wx
  p : L 17 = true → ∃ A c, u 17 = .slice A o.ps.length c ∧ (0 < o.ps.length → ∃ b f : Nat, A = some ⟨b, f, none⟩ ∧ w1.heap.size ≤ b ∧ b < wx.heap.size ∧ (L 19 = true → u 19 ≠ Ds.ptr b) ∧ ∀ i (h : i < o.ps.length), wx.cell? ⟨b, f + i * 2, none⟩ = some (.string o.ps[i].1) ∧ wx.cell? ⟨b, f + i * 2 + 1, none⟩ = some (.string o.ps[i].2))
  n : L 19 = true → ∃ n : Nat, u 19 = Ds.ptr n ∧ w1.heap.size ≤ n ∧ n < wx.heap.size ∧ (∃ x s, BoxR n x s wx) ∧ (L 20 = true → BoxR n o (u 17) wx)
  q : L 17 = true → 0 < o.ps.length → OwnP wx w1.heap.size (u 17) o.ps
theorem RR.sp {w1 wx : World} {o : Rep} {L : Nat → Bool} {u : Nat → Value} (h : RR w1 o L u wx) (h17 : L 17 = true) : SP wx wx.heap.size (u 17) o.ps := by
  obtain ⟨A, c, e, hh⟩ := h.p h17
  exact ⟨A, c, e, fun h0 => by obtain ⟨b, f, g1, g2, g3, g4, g5⟩ := hh h0; exact ⟨b, f, g1, g3, g5⟩⟩
theorem RR.call {w1 wx w' : World} {o : Rep} {L : Nat → Bool} {u : Nat → Value} {i : Nat} (h : RR w1 o L u wx) (h1 : 17 ≠ i) (h2 : 19 ≠ i) (h3 : 20 ≠ i) (hb : Below wx.heap.size wx w') (v : Value) : RR w1 o (St.mark L i) (St.upd u i v) w' := by
  have e1 : St.mark L i 17 = L 17 := by simp [St.mark, h1]
  have e2 : St.mark L i 19 = L 19 := by simp [St.mark, h2]
  have e3 : St.mark L i 20 = L 20 := by simp [St.mark, h3]
  have f1 : St.upd u i v 17 = u 17 := by simp [St.upd, h1]
  have f2 : St.upd u i v 19 = u 19 := by simp [St.upd, h2]
  refine ⟨h.lo.trans (hb.mono h.lo.size), fun h17 => ?_, fun h19 => ?_, fun h17 h0 => by rw [f1]; exact own_keep (h.q (by rw [← e1]; exact h17) h0) hb⟩
  · rw [e1] at h17
    obtain ⟨A, c, e, hh⟩ := h.p h17
    refine ⟨A, c, f1.trans e, fun h0 => ?_⟩
    obtain ⟨b, f, g1, g2, g3, g4, g5⟩ := hh h0
    refine ⟨b, f, g1, g2, Nat.lt_of_lt_of_le g3 hb.size, fun h19 => (by rw [f2]; exact g4 (by rw [← e2]; exact h19)), fun i hi => ?_⟩
    exact ⟨(hb.cell (p := ⟨b, f + i * 2, none⟩) g3).trans (g5 i hi).1, (hb.cell (p := ⟨b, f + i * 2 + 1, none⟩) g3).trans (g5 i hi).2⟩
  · rw [e2] at h19
    obtain ⟨n, g1, g2, g3, ⟨x, s, g4⟩, g5⟩ := h.n h19
    exact ⟨n, f2.trans g1, g2, Nat.lt_of_lt_of_le g3 hb.size, ⟨x, s, g4.keep hb⟩, fun h20 => by rw [f1]; exact (g5 (by rw [← e3]; exact h20)).keep hb⟩
theorem RR.pairs {w1 wx w' : World} {o : Rep} {L : Nat → Bool} {u : Nat → Value} (h : RR w1 o L u wx) {v : Value} (hown : OwnP w' wx.heap.size v o.ps) (hb : Below wx.heap.size wx w') (h20 : L 20 = false) : RR w1 o (St.mark L 17) (St.upd u 17 v) w' := by
  obtain ⟨A, c, hv, hh⟩ := SP.of_own hown
  have f1 : St.upd u 17 v 17 = v := by simp [St.upd]
  have f2 : St.upd u 17 v 19 = u 19 := by simp [St.upd]
  have e2 : St.mark L 17 19 = L 19 := rfl
  have e3 : St.mark L 17 20 = L 20 := rfl
  refine ⟨h.lo.trans (hb.mono h.lo.size), fun _ => ?_, fun h19 => ?_, fun _ _ => by rw [f1]; exact own_base hown h.lo.size⟩
  · refine ⟨A, c, f1.trans hv, fun h0 => ?_⟩
    obtain ⟨b, f, g1, g2, g3⟩ := hh h0
    have hbx : wx.heap.size ≤ b := by
      rcases hown.2 with ⟨_, h1⟩ | ⟨g, cap, cur, e, hbg, _⟩
      · omega
      · rw [hv, g1] at e
        injection e with e _ _
        injection e with e
        injection e with e _ _
        omega
    refine ⟨b, f, g1, by have := h.lo.size; omega, g2, fun h19 => ?_, g3⟩
    rw [f2]
    obtain ⟨n, k1, k2, k3, _⟩ := h.n (by rw [← e2]; exact h19)
    rw [k1]
    intro e
    have := ptr_inj e
    omega
  · rw [e2] at h19
    obtain ⟨n, g1, g2, g3, ⟨x, s, g4⟩, g5⟩ := h.n h19
    exact ⟨n, f2.trans g1, g2, Nat.lt_of_lt_of_le g3 hb.size, ⟨x, s, g4.keep hb⟩, fun h' => by rw [e3, h20] at h'; cases h'⟩
theorem RR.free {w1 wx : World} {o : Rep} {L : Nat → Bool} {u : Nat → Value} (h : RR w1 o L u wx) (h20 : L 20 = false) : RR w1 o (St.mark L 19) (St.upd u 19 (Ds.ptr wx.heap.size)) (wx.alloc (.cells #[.int .i64 0, .int .i64 0, .bool false, .string E0, .slice none 0 0] 30)) := by
  have hb := (Below.refl _ wx).alloc (Nat.le_refl _) (.cells #[.int .i64 0, .int .i64 0, .bool false, .string E0, .slice none 0 0] 30)
  have f1 : St.upd u 19 (Ds.ptr wx.heap.size) 17 = u 17 := by simp [St.upd]
  have f2 : St.upd u 19 (Ds.ptr wx.heap.size) 19 = Ds.ptr wx.heap.size := by simp [St.upd]
  refine ⟨h.lo.alloc h.lo.size _, fun h17 => ?_, fun _ => ⟨wx.heap.size, f2, h.lo.size, by simp, ⟨Rep.zero, _, BoxR.new wx Rep.zero (.slice none 0 0)⟩, fun h' => ?_⟩, fun h17 h0 => by rw [f1]; exact own_alloc (h.q h17 h0) _⟩
  · obtain ⟨A, c, e, hh⟩ := h.p h17
    refine ⟨A, c, f1.trans e, fun h0 => ?_⟩
    obtain ⟨b, f, g1, g2, g3, g4, g5⟩ := hh h0
    refine ⟨b, f, g1, g2, Nat.lt_of_lt_of_le g3 hb.size, fun _ => ?_, fun i hi => ?_⟩
    · rw [f2]; intro e; have := ptr_inj e; omega
    · exact ⟨(hb.cell (p := ⟨b, f + i * 2, none⟩) g3).trans (g5 i hi).1, (hb.cell (p := ⟨b, f + i * 2 + 1, none⟩) g3).trans (g5 i hi).2⟩
  · rw [show St.mark L 19 20 = L 20 from rfl, h20] at h'; cases h'
theorem RR.set {w1 wx : World} {o : Rep} {L : Nat → Bool} {u : Nat → Value} (h : RR w1 o L u wx) (h19 : L 19 = true) {n : Nat} (hu : u 19 = Ds.ptr n) {s : Value} (hs : u 17 = s) : RR w1 o (St.mark L 20) (St.upd u 20 undef) (World.setCell (World.setCell (World.setCell (World.setCell (World.setCell wx ⟨n, 0, none⟩ (.int .i64 o.code)) ⟨n, 1, none⟩ (.int .i64 o.err)) ⟨n, 2, none⟩ (.bool o.has)) ⟨n, 3, none⟩ (.string o.val)) ⟨n, 4, none⟩ (s)) := by
  obtain ⟨n', g1, g2, g3, ⟨x, sx, g4⟩, _⟩ := h.n h19
  obtain rfl := ptr_inj (hu.symm.trans g1)
  have B := BoxR.put g4 o s
  have f1 : St.upd u 20 undef 17 = u 17 := by simp [St.upd]
  have f2 : St.upd u 20 undef 19 = u 19 := by simp [St.upd]
  refine ⟨(((((h.lo).setCell (p := ⟨n, 0, none⟩) g2 _).setCell (p := ⟨n, 1, none⟩) g2 _).setCell (p := ⟨n, 2, none⟩) g2 _).setCell (p := ⟨n, 3, none⟩) g2 _).setCell (p := ⟨n, 4, none⟩) g2 _, fun h17 => ?_, fun _ => ⟨n, f2.trans hu, g2, B.1, ⟨o, s, B⟩, fun _ => by rw [f1, hs]; exact B⟩, fun h17 h0 => ?_⟩
  rotate_left
  · rw [f1]
    obtain ⟨A, c, e, hh⟩ := h.p h17
    obtain ⟨b, f, k1, k2, k3, k4, k5⟩ := hh h0
    have hne : b ≠ n := fun e => k4 h19 (by rw [hu, e])
    have hnb : (u 17).ownBlock ≠ some n := by
      rw [e, k1]
      intro e'
      exact hne (by simpa [Value.ownBlock] using e')
    exact ownsRow_setCell_other (ownsRow_setCell_other (ownsRow_setCell_other (ownsRow_setCell_other (ownsRow_setCell_other (h.q h17 h0) (a := ⟨n, 0, none⟩) hnb _) (a := ⟨n, 1, none⟩) hnb _) (a := ⟨n, 2, none⟩) hnb _) (a := ⟨n, 3, none⟩) hnb _) (a := ⟨n, 4, none⟩) hnb _
  obtain ⟨A, c, e, hh⟩ := h.p h17
  refine ⟨A, c, f1.trans e, fun h0 => ?_⟩
  obtain ⟨b, f, k1, k2, k3, k4, k5⟩ := hh h0
  have hne : b ≠ n := fun e => k4 h19 (by rw [hu, e])
  have hfar : ∀ q i (v : Value) (w : World), (w.setCell ⟨n, i, none⟩ v).cell? ⟨b, q, none⟩ = w.cell? ⟨b, q, none⟩ := fun q i v w => World.cell?_setCell_far w _ _ v (fun e => hne e.symm)
  refine ⟨b, f, k1, k2, by simpa using k3, fun _ => by rw [f2]; exact k4 h19, fun i hi => ?_⟩
  exact ⟨by rw [hfar, hfar, hfar, hfar, hfar]; exact (k5 i hi).1, by rw [hfar, hfar, hfar, hfar, hfar]; exact (k5 i hi).2⟩
theorem SP.box {w : World} {v : Value} {ps : List Pr} {n : Nat} (h : SP w w.heap.size v ps) (hn : ∀ b f k c, v = .slice (some ⟨b, f, none⟩) k c → 0 < ps.length → b ≠ n) (i : Nat) (u : Value) : SP (w.setCell ⟨n, i, none⟩ u) (w.setCell ⟨n, i, none⟩ u).heap.size v ps := by
  obtain ⟨A, c, e, hh⟩ := h
  refine ⟨A, c, e, fun h0 => ?_⟩
  obtain ⟨b, f, g1, g2, g3⟩ := hh h0
  have hne : b ≠ n := hn b f _ _ (by rw [e, g1]) h0
  have hfar : ∀ q, (w.setCell ⟨n, i, none⟩ u).cell? ⟨b, q, none⟩ = w.cell? ⟨b, q, none⟩ := fun q => World.cell?_setCell_far w _ _ u (fun e => hne e.symm)
  exact ⟨b, f, g1, by simpa using g2, fun i hi => ⟨by rw [hfar]; exact (g3 i hi).1, by rw [hfar]; exact (g3 i hi).2⟩⟩
theorem parseR_none {s : Text} (h : untieT s = none) : parseR s = (Rep.zero, 70) := by unfold parseR; rw [h]
theorem parseR_len {s : Text} {ss : List ByteArray} (h : untieT s = some (texts ss)) (hl : ss.length < 4) : parseR s = (Rep.zero, 70) := by
  unfold parseR
  rw [h]
  have : readR (texts ss) = none := by
    unfold readR
    split
    · rename_i e
      have := congrArg List.length e
      rw [texts_length] at this
      simp only [List.length_cons] at this
      omega
    · rfl
  simp only [this]
theorem parseR_some {s : Text} {x0 x1 x2 x3 : ByteArray} {tl : List ByteArray} (h : untieT s = some (texts (x0 :: x1 :: x2 :: x3 :: tl))) :
    parseR s = okR ⟨num0 x0.data.toList, num0 x1.data.toList, decide (x2.data.toList = [49]), x3, twosS tl⟩ s := by
  unfold parseR
  rw [h]
  have : readR (texts (x0 :: x1 :: x2 :: x3 :: tl)) = some ⟨num0 x0.data.toList, num0 x1.data.toList, decide (x2.data.toList = [49]), x3, twosS tl⟩ := by
    show readR (x0.data.toList :: x1.data.toList :: x2.data.toList :: x3.data.toList :: texts tl) = _
    rw [readR, twosS_texts]
  simp only [this]
theorem twosS_mem : ∀ {l : List ByteArray} {p : Pr}, p ∈ twosS l → p.1 ∈ l ∧ p.2 ∈ l
  | [], p, h => by simp [twosS] at h
  | [_], p, h => by simp [twosS] at h
  | a :: b :: l, p, h => by
    rw [twosS, List.mem_cons] at h
    rcases h with rfl | h
    · simp
    · have := twosS_mem h
      exact ⟨by simp [this.1], by simp [this.2]⟩
def GaveF (w : World) (q : Rep × Int) (e : Ending) (w' : World) : Prop := ∃ s, e = .returned (.tuple #[rv q.1 s, .int .i64 q.2]) ∧ SP w' w'.heap.size s q.1.ps ∧ Below w.heap.size w w' ∧ (0 < q.1.ps.length → OwnP w' w.heap.size s q.1.ps)
set_option maxHeartbeats 16000000 in
set_option maxRecDepth 100000 in
theorem parseR_fresh (s : ByteArray) (w : World) (hs : s.size ≤ 140737488355328) (hg : Good w) :
    Calls Tryz.prog 49 #[.string s] w fun e w' => GaveF w (parseR s.data.toList) e w' := by
  have cu := fun w hg => untie_own s w hs hg
  have B0 := BoxR.new w Rep.zero (.slice none 0 0)
  cases hu : untieT s.data.toList with
  | none =>
    rw [parseR_none hu]
    rw [hu] at cu
    unfold UntieOwn at cu
    clear hu
    go_enter Tryz.func49, Tryz.ntmps49
    go_wp2_with fail
    refine (cu _ (hg.below (by (repeat' (first | with_reducible assumption | with_reducible exact Below.refl _ _ | with_reducible refine Below.alloc ?_ ?_ _ | with_reducible refine Below.setCell ?_ ?_ _ | with_reducible refine Below.drew ?_ | omega | (simp; done) | (simp; omega)))))).mono ?_
    rintro e w1 ⟨rfl, b1⟩
    have B1 := B0.keep b1
    have hb1 : Below w.heap.size w w1 := (show Below w.heap.size w _ from (by (repeat' (first | with_reducible assumption | with_reducible exact Below.refl _ _ | with_reducible refine Below.alloc ?_ ?_ _ | with_reducible refine Below.setCell ?_ ?_ _ | with_reducible refine Below.drew ?_ | omega | (simp; done) | (simp; omega))))).trans (b1.mono (by simp))
    obtain ⟨p_0, ⟨p_1, p_2, p_3, p_4, p_5⟩, p_6⟩ := _root_.id B1
    clear b1 cu
    go_wp2_with fail
    exact bodyPost_ret (res_BoxR_tmp Tryz.results49 rfl rfl (BoxR.put B1 Rep.zero (.slice none 0 0))) rfl ⟨.slice none 0 0, rfl, SP.nil _ _, (by (repeat' (first | with_reducible assumption | with_reducible exact Below.refl _ _ | with_reducible refine Below.alloc ?_ ?_ _ | with_reducible refine Below.setCell ?_ ?_ _ | with_reducible refine Below.drew ?_ | omega | (simp; done) | (simp; omega)))), fun h0 => absurd h0 (by simp)⟩
  | some l =>
    obtain ⟨q, hq⟩ : ∃ q, parseR s.data.toList = q := ⟨_, rfl⟩
    rw [hq]
    have HQ := Lib.hid hq
    clear hq
    rw [hu] at cu
    have hus := M.untie_spec hu
    go_enter Tryz.func49, Tryz.ntmps49
    go_wp2_with fail
    refine (cu _ (hg.below (by (repeat' (first | with_reducible assumption | with_reducible exact Below.refl _ _ | with_reducible refine Below.alloc ?_ ?_ _ | with_reducible refine Below.setCell ?_ ?_ _ | with_reducible refine Below.drew ?_ | omega | (simp; done) | (simp; omega)))))).mono ?_
    rintro e w1 ⟨⟨v, ss, rfl, hss, hown⟩, b1⟩
    subst hss
    have hszs : ∀ x ∈ ss, x.size ≤ 1048576 := by
      intro x hx
      have h1 := mem_le_tie (l := texts ss) (x := x.data.toList) (List.mem_map.2 ⟨x, hx, rfl⟩)
      have h2 := hus.2.2
      rw [hus.1] at h2
      have h3 : x.data.toList.length = x.size := by simp
      omega
    have hln : ss.length ≤ 4096 := by have := hus.2.1; rwa [texts_length] at this
    have B1 := B0.keep b1
    have hb1 : Below w.heap.size w w1 := (show Below w.heap.size w _ from (by (repeat' (first | with_reducible assumption | with_reducible exact Below.refl _ _ | with_reducible refine Below.alloc ?_ ?_ _ | with_reducible refine Below.setCell ?_ ?_ _ | with_reducible refine Below.drew ?_ | omega | (simp; done) | (simp; omega))))).trans (b1.mono (by simp))
    have hz1 := hb1.size
    obtain ⟨p_0, ⟨p_1, p_2, p_3, p_4, p_5⟩, p_6⟩ := _root_.id B1
    have hg1 : Good w1 := hg.below hb1
    have HU := Lib.hid hu
    clear b1 cu hus hu
    by_cases h4 : ss.length < 4
    · have HR := Lib.hid (HQ.out.symm.trans (parseR_len HU.out h4))
      obtain ⟨A, c, rfl⟩ := own_form hown
      have g1 : ((ss.length : Int) < 4) = True := eq_true (by omega)
      clear h4 hown HU HQ
      go_wp2_with fail
      exact bodyPost_ret (res_BoxR_tmp Tryz.results49 rfl rfl (BoxR.put B1 Rep.zero (.slice none 0 0))) rfl ⟨.slice none 0 0, by rw [HR.out] <;> rfl, by rw [HR.out]; exact SP.nil _ _, (by (repeat' (first | with_reducible assumption | with_reducible exact Below.refl _ _ | with_reducible refine Below.alloc ?_ ?_ _ | with_reducible refine Below.setCell ?_ ?_ _ | with_reducible refine Below.drew ?_ | omega | (simp; done) | (simp; omega)))), by rw [HR.out]; exact fun h0 => absurd h0 (by simp)⟩
    · obtain ⟨x0, x1, x2, x3, tl, rfl⟩ : ∃ x0 x1 x2 x3 tl, ss = x0 :: x1 :: x2 :: x3 :: tl := by
        rcases ss with _ | ⟨a, _ | ⟨f, _ | ⟨t, _ | ⟨g, tl⟩⟩⟩⟩
        all_goals first | exact ⟨_, _, _, _, _, rfl⟩ | (exfalso; simp at h4)
      have HP := Lib.hid (HQ.out.symm.trans (parseR_some HU.out))
      clear HQ
      obtain ⟨g, cap, cur, rfl, hbg, hgb, hnc, hcm, hcs, htk⟩ := hown.2.resolve_left (fun h => by simp at h)
      have z0 := own_cells hown 0 (by simp)
      have z1 := own_cells hown 1 (by simp)
      have z2 := own_cells hown 2 (by simp)
      have z3 := own_cells hown 3 (by simp)
      have zt : ∀ i (h : i < tl.length), w1.cell? ⟨g, i + 4, none⟩ = some (.string tl[i]) := fun i h => own_cells hown (i + 4) (by simp; omega)
      simp only [List.getElem_cons_zero, List.getElem_cons_succ] at z0 z1 z2 z3
      have hgl : g < w1.heap.size := Lib.lt_of_cell z0
      obtain ⟨t, ht⟩ : ∃ t, t = tl.length := ⟨_, rfl⟩
      have hlen : (x0 :: x1 :: x2 :: x3 :: tl).length = t + 4 := by simp [ht]
      rw [hlen] at hnc
      rw [hlen]
      have ht2 : t + 4 ≤ 4096 := by omega
      have HT := Lib.hid ht
      have hx0 := hszs x0 (by simp)
      have hx1 := hszs x1 (by simp)
      have hx3 := hszs x3 (by simp)
      have hxt : ∀ x ∈ tl, x.size ≤ 1048576 := fun x hx => hszs x (by simp [hx])
      have hSLt : ∀ (A : Option Addr) (cc : Nat), (0 < t → A = some ⟨g, 4, none⟩) → ∀ wx, Below w1.heap.size w1 wx → SL wx wx.heap.size (.slice A t cc) tl := by
        intro A cc hA wx hx
        refine ⟨A, cc, by rw [HT.out], fun h0 => ⟨⟨g, 4, none⟩, hA (by rw [HT.out]; exact h0), Nat.lt_of_lt_of_le hgl hx.size, fun i hi => ?_⟩⟩
        rw [Addr.add_lit, show 4 + i = i + 4 by omega]
        exact (hx.cell (p := ⟨g, i + 4, none⟩) hgl).trans (zt i hi)
      have cm0 := fun A cc hA wx hx => pairs_own (.slice A t cc) tl wx (hSLt A cc hA wx hx) (by have := HT.out; omega)
      have hpm : ∀ p ∈ twosS tl, p.1.size ≤ 1048576 ∧ p.2.size ≤ 1048576 := fun p hp => ⟨hxt _ (twosS_mem hp).1, hxt _ (twosS_mem hp).2⟩
      have hpn : (twosS tl).length ≤ 2048 := by rw [twosS_length]; have := HT.out; omega
      obtain ⟨n0, hn0⟩ : ∃ n, num0 x0.data.toList = n := ⟨_, rfl⟩
      have c0 := fun w hg => number_any x0 w (by omega) hg
      have i0 := num0_in x0.data.toList
      rw [hn0] at c0 i0
      obtain ⟨n1, hn1⟩ : ∃ n, num0 x1.data.toList = n := ⟨_, rfl⟩
      have c1 := fun w hg => number_any x1 w (by omega) hg
      have i1 := num0_in x1.data.toList
      rw [hn1] at c1 i1
      rw [hn0, hn1] at HP
      rw [← is_one] at HP
      obtain ⟨o, ho⟩ : ∃ o : Rep, (⟨n0, n1, x2.toList == [49], x3, twosS tl⟩ : Rep) = o := ⟨_, rfl⟩
      rw [ho] at HP
      have hps : twosS tl = o.ps := by rw [← ho]
      rw [hps] at hpm hpn
      have cm : ∀ (A : Option Addr) (cc : Nat), (0 < t → A = some ⟨g, 4, none⟩) → ∀ wx, Below w1.heap.size w1 wx → Calls Tryz.prog 90 #[.slice A t cc] wx fun e w' => ∃ s, e = .returned s ∧ OwnP w' wx.heap.size s o.ps ∧ Below wx.heap.size wx w' := by
        intro A cc hA wx hx
        have := cm0 A cc hA wx hx
        rw [hps] at this
        exact this
      have hvl : o.val.size ≤ 1048576 := by rw [← ho]; exact hx3
      have hfit : isR o = true → FitR o := by
        intro hI
        refine ⟨by rw [← ho]; exact i0, by rw [← ho]; exact i1, hvl, ?_, hpm⟩
        unfold isR at hI
        simp only [Bool.and_eq_true, decide_eq_true_eq] at hI
        omega
      have hpsz : ∀ p ∈ o.ps, p.1.size ≤ 140737488355328 ∧ p.2.size ≤ 140737488355328 := fun p hp => by have := hpm p hp; omega
      have HO := Lib.hid ho
      clear hn0 hn1 ho hps cm0 hSLt zt hown hbg hgb hcs htk HU hszs hx0 hx1 hx3 hxt i0 i1 hlen h4 hln ht hpm
      have hc4 : (cap = 4 ∧ t = 0) ∨ ¬ cap = 4 := by
        by_cases h : cap = 4
        · exact .inl ⟨h, by omega⟩
        · exact .inr h
      have g1 : ((t : Int) + 4 < 4) = False := eq_false (by omega)
      have i0 : ((0 : Int) < (t : Int) + 4) = True := eq_true (by omega)
      have i1 : ((1 : Int) < (t : Int) + 4) = True := eq_true (by omega)
      have i2 : ((2 : Int) < (t : Int) + 4) = True := eq_true (by omega)
      have i3 : ((3 : Int) < (t : Int) + 4) = True := eq_true (by omega)
      have e1 : ((4 : Int) ≤ (t : Int) + 4) = True := eq_true (by omega)
      rcases hc4 with ⟨rfl, rfl⟩ | hc4
      · go_wp2_with fail
        refine St.wp_region_mixed (RR w1 o) (fun k x => match k with | 3 => x = .int .i64 n0 | 7 => x = .int .i64 n1 | _ => ∃ A c, x = .slice A o.ps.length c) (by kernel_rfl) (by kernel_rfl) (by kernel_rfl) ⟨(Below.refl _ w1).drew, fun h => (by cases h), fun h => (by cases h), fun h => (by cases h)⟩ ?_
        iterate 3
          apply St.mix_give
          · rfl
          · intro L u' wx hS hcl hrd hag
            have y0 := (hS.lo.cell (p := ⟨g, 0, none⟩) hgl).trans z0
            have y1 := (hS.lo.cell (p := ⟨g, 1, none⟩) hgl).trans z1
            have y2 := (hS.lo.cell (p := ⟨g, 2, none⟩) hgl).trans z2
            have y3 := (hS.lo.cell (p := ⟨g, 3, none⟩) hgl).trans z3
            go_simp
            try with_reducible rfl
          · exact fun L u' wx hS => ⟨hS.lo, hS.p, hS.n, hS.q⟩
          simp only [Act.put, List.setIfInBounds_toArray, List.set_cons_zero, List.set_cons_succ]
        refine St.mix_into (v := .int .i64 n0) (f := 89) (args := #[.string x0]) rfl rfl ?_ ?_ ?_
        · intro wx
          go_simp
          try with_reducible rfl
        · intro L u' wx hS hcl hrd hag
          refine (c0 wx (hg1.below hS.lo)).mono ?_
          rintro e w' ⟨rfl, hb'⟩
          exact ⟨rfl, hS.call (by decide) (by decide) (by decide) hb' _⟩
        simp only [Act.put, List.setIfInBounds_toArray, List.set_cons_zero, List.set_cons_succ]
        iterate 3
          apply St.mix_give
          · rfl
          · intro L u' wx hS hcl hrd hag
            have y0 := (hS.lo.cell (p := ⟨g, 0, none⟩) hgl).trans z0
            have y1 := (hS.lo.cell (p := ⟨g, 1, none⟩) hgl).trans z1
            have y2 := (hS.lo.cell (p := ⟨g, 2, none⟩) hgl).trans z2
            have y3 := (hS.lo.cell (p := ⟨g, 3, none⟩) hgl).trans z3
            go_simp
            try with_reducible rfl
          · exact fun L u' wx hS => ⟨hS.lo, hS.p, hS.n, hS.q⟩
          simp only [Act.put, List.setIfInBounds_toArray, List.set_cons_zero, List.set_cons_succ]
        refine St.mix_into (v := .int .i64 n1) (f := 89) (args := #[.string x1]) rfl rfl ?_ ?_ ?_
        · intro wx
          go_simp
          try with_reducible rfl
        · intro L u' wx hS hcl hrd hag
          refine (c1 wx (hg1.below hS.lo)).mono ?_
          rintro e w' ⟨rfl, hb'⟩
          exact ⟨rfl, hS.call (by decide) (by decide) (by decide) hb' _⟩
        simp only [Act.put, List.setIfInBounds_toArray, List.set_cons_zero, List.set_cons_succ]
        iterate 9
          apply St.mix_give
          · rfl
          · intro L u' wx hS hcl hrd hag
            have y0 := (hS.lo.cell (p := ⟨g, 0, none⟩) hgl).trans z0
            have y1 := (hS.lo.cell (p := ⟨g, 1, none⟩) hgl).trans z1
            have y2 := (hS.lo.cell (p := ⟨g, 2, none⟩) hgl).trans z2
            have y3 := (hS.lo.cell (p := ⟨g, 3, none⟩) hgl).trans z3
            go_simp
            try with_reducible rfl
          · exact fun L u' wx hS => ⟨hS.lo, hS.p, hS.n, hS.q⟩
          simp only [Act.put, List.setIfInBounds_toArray, List.set_cons_zero, List.set_cons_succ]
        refine St.mix_call (f := 90) (args := #[.slice (some ⟨g, 0, none⟩) 0 0]) rfl ?_ ?_ ?_
        · intro wx
          go_simp
          try with_reducible rfl
        · intro L u' wx hS hcl hrd hag
          refine (cm _ _ (by intro h; first | rfl | (exfalso; omega)) wx hS.lo).mono ?_
          rintro e w' ⟨s', rfl, hown, hb'⟩
          obtain ⟨A', c', hv'⟩ := (SP.of_own hown).form
          exact ⟨s', rfl, ⟨A', c', hv'⟩, hS.pairs hown hb' (St.not_yet hcl hrd 40 20 (by kernel_rfl))⟩
        rintro x17 ⟨A9, c9, rfl⟩
        simp only [Act.put, List.setIfInBounds_toArray, List.set_cons_zero, List.set_cons_succ]
        iterate 1
          apply St.mix_give
          · rfl
          · intro L u' wx hS hcl hrd hag
            have y0 := (hS.lo.cell (p := ⟨g, 0, none⟩) hgl).trans z0
            have y1 := (hS.lo.cell (p := ⟨g, 1, none⟩) hgl).trans z1
            have y2 := (hS.lo.cell (p := ⟨g, 2, none⟩) hgl).trans z2
            have y3 := (hS.lo.cell (p := ⟨g, 3, none⟩) hgl).trans z3
            go_simp
            try with_reducible rfl
          · exact fun L u' wx hS => ⟨hS.lo, hS.p, hS.n, hS.q⟩
          simp only [Act.put, List.setIfInBounds_toArray, List.set_cons_zero, List.set_cons_succ]
        refine St.mix_free (fun z => ∃ n', z = Ds.ptr n') rfl ?_ ?_
        · intro L u' wx hS hcl hrd hag
          refine ⟨Ds.ptr wx.heap.size, _, ⟨_, rfl⟩, ?_, hS.free (St.not_yet hcl hrd 40 20 (by kernel_rfl))⟩
          go_simp
          try with_reducible rfl
        rintro _ ⟨nb, rfl⟩
        simp only [Act.put, List.setIfInBounds_toArray, List.set_cons_zero, List.set_cons_succ]
        refine St.mix_skip rfl ?_ ?_
        · intro L u' wx hS hcl hrd hag
          have h19 := St.before_ready hcl hrd 40 19 (by kernel_rfl)
          have hu19 : u' 19 = Ds.ptr nb := hag 40 19 (by kernel_rfl)
          have hu17 : u' 17 = .slice A9 o.ps.length c9 := hag 40 17 (by kernel_rfl)
          refine ⟨_, ?_, hS.set h19 hu19 hu17⟩
          obtain ⟨n', g1, g2, g3, ⟨xo, so, g4⟩, _⟩ := hS.n h19
          obtain rfl := ptr_inj (hu19.symm.trans g1)
          obtain ⟨_, ⟨d0, d1, d2, d3, d4⟩, hfz⟩ := g4
          rw [← HO.out]
          clear g1
          go_simp
          try with_reducible rfl
        simp only [Act.put]
        refine St.mix_last ?_
        intro L w2 hS hall
        obtain ⟨n', g1, g2, g3, _, g5⟩ := hS.n (hall 19 (by decide))
        obtain rfl := ptr_inj (show Ds.ptr nb = Ds.ptr n' from g1)
        have B2 : BoxR nb o (.slice A9 o.ps.length c9) w2 := g5 (hall 20 (by decide))
        have P2 : SP w2 w2.heap.size (.slice A9 o.ps.length c9) o.ps := hS.sp (hall 17 (by decide))
        have hb12 := hS.lo
        have F2 : ∀ b f k c, (Value.slice A9 o.ps.length c9) = .slice (some ⟨b, f, none⟩) k c → 0 < o.ps.length → b ≠ w.heap.size := by
          intro b f k c e h0
          obtain ⟨A', c', e1, hh⟩ := hS.p (hall 17 (by decide))
          obtain ⟨b', f', k1, k2, _⟩ := hh h0
          have e1 : (Value.slice A9 o.ps.length c9) = .slice A' o.ps.length c' := e1
          have e2 := e1.symm.trans e
          rw [k1] at e2
          injection e2 with e2 _ _
          injection e2 with e2
          injection e2 with e2 _ _
          have := B1.1
          omega
        have O2 : Hid (0 < o.ps.length → OwnP w2 w1.heap.size (.slice A9 o.ps.length c9) o.ps) := Lib.hid (fun h0 => hS.q (hall 17 (by decide)) h0)
        have HLW : Hid (w.heap.size < w1.heap.size) := Lib.hid B1.1
        clear g1 g5 hS hall
        have A2 := B1.keep hb12
        have hb2 : Below w.heap.size w w2 := hb1.trans (hb12.mono hz1)
        have hg2 : Good w2 := hg1.below hb12
        clear c0 c1 z0 z1 z2 z3 hb12 cm
        clear p_0 p_1 p_2 p_3 p_4 p_5 p_6
        obtain ⟨p_0, ⟨p_1, p_2, p_3, p_4, p_5⟩, p_6⟩ := _root_.id A2
        obtain ⟨o_0, ⟨o_1, o_2, o_3, o_4, o_5⟩, o_6⟩ := _root_.id B2
        have hA := A2
        have hB := B2
        have hz2 := hb2.size
        clear A2 B2
        have ck := fun w (hp : SP w w.heap.size (.slice A9 o.ps.length c9) o.ps) => checkR_any o (.slice A9 o.ps.length c9) w hp (by omega) (by omega) hpsz
        cases hI : isR o with
        | false =>
          rw [show chkR o = 70 by unfold chkR; rw [hI]; rfl] at ck
          have HR := Lib.hid (show q = (Rep.zero, 70) by rw [HP.out]; unfold okR; rw [hI]; exact if_neg (by simp))
          clear hI HP
          go_wp2_with fail
          refine (ck _ P2).mono ?_
          rintro e w3 ⟨rfl, b3⟩
          have A3 := hA.keep b3
          have hb3 := hb2.trans (b3.mono hz2)
          clear p_0 p_1 p_2 p_3 p_4 p_5 p_6
          obtain ⟨p_0, ⟨p_1, p_2, p_3, p_4, p_5⟩, p_6⟩ := _root_.id A3
          clear b3
          go_wp2_with fail
          exact bodyPost_ret (res_BoxR_tmp Tryz.results49 rfl rfl (BoxR.put A3 Rep.zero (.slice none 0 0))) rfl ⟨.slice none 0 0, by rw [HR.out] <;> rfl, by rw [HR.out]; exact SP.nil _ _, (by (repeat' (first | with_reducible assumption | with_reducible exact Below.refl _ _ | with_reducible refine Below.alloc ?_ ?_ _ | with_reducible refine Below.setCell ?_ ?_ _ | with_reducible refine Below.drew ?_ | omega | (simp; done) | (simp; omega)))), by rw [HR.out]; exact fun h0 => absurd h0 (by simp)⟩
        | true =>
          rw [show chkR o = 0 by unfold chkR; rw [hI]; rfl] at ck
          have cp := fun w (hp : SP w w.heap.size (.slice A9 o.ps.length c9) o.ps) => putR_any o (.slice A9 o.ps.length c9) w hp (hfit hI)
          obtain ⟨P, hP⟩ : ∃ P : ByteArray, (⟨(putR o).toArray⟩ : ByteArray) = P := ⟨_, rfl⟩
          have cp2 : ∀ w, SP w w.heap.size (.slice A9 o.ps.length c9) o.ps → Calls Tryz.prog 36 #[rv o (.slice A9 o.ps.length c9)] w fun e w' => e = .returned (.string P) ∧ Below w.heap.size w w' := fun w hp => by rw [← hP]; exact cp w hp
          clear cp
          have hPd : putR o = P.data.toList := by rw [← hP]
          by_cases hs' : P = s
          · subst hs'
            have HR := Lib.hid (show q = (o, 0) by rw [HP.out]; unfold okR; rw [hI]; exact if_pos ⟨rfl, hPd⟩)
            clear hI hP hPd HP
            go_wp2_with fail
            refine (ck _ P2).mono ?_
            rintro e w3 ⟨rfl, b3⟩
            have A3 := hA.keep b3
            have B3 := hB.keep b3
            have P3 := (P2.below b3).more b3.size
            have O3 := Lib.hid (fun h0 => own_keep (O2.out h0) b3)
            have hb3 := hb2.trans (b3.mono hz2)
            have hz3 := hb3.size
            clear p_0 p_1 p_2 p_3 p_4 p_5 p_6
            clear o_0 o_1 o_2 o_3 o_4 o_5 o_6
            obtain ⟨p_0, ⟨p_1, p_2, p_3, p_4, p_5⟩, p_6⟩ := _root_.id A3
            obtain ⟨o_0, ⟨o_1, o_2, o_3, o_4, o_5⟩, o_6⟩ := _root_.id B3
            clear b3
            go_wp2_with fail
            refine (cp2 _ P3).mono ?_
            rintro e w4 ⟨rfl, b4⟩
            have A4 := A3.keep b4
            have B4 := B3.keep b4
            have P4 := (P3.below b4).more b4.size
            have O4 := Lib.hid (fun h0 => own_keep (O3.out h0) b4)
            have hb4 := hb3.trans (b4.mono hz3)
            have hz4 := hb4.size
            clear p_0 p_1 p_2 p_3 p_4 p_5 p_6
            clear o_0 o_1 o_2 o_3 o_4 o_5 o_6
            obtain ⟨p_0, ⟨p_1, p_2, p_3, p_4, p_5⟩, p_6⟩ := _root_.id A4
            obtain ⟨o_0, ⟨o_1, o_2, o_3, o_4, o_5⟩, o_6⟩ := _root_.id B4
            clear b4
            go_wp2_with fail
            exact bodyPost_ret (res_BoxR_tmp Tryz.results49 rfl rfl (BoxR.put A4 o (.slice A9 o.ps.length c9))) rfl ⟨.slice A9 o.ps.length c9, by rw [HR.out] <;> rfl, by rw [HR.out]; exact ((((P4.box F2 0 _).box F2 1 _).box F2 2 _).box F2 3 _).box F2 4 _, (by (repeat' (first | with_reducible assumption | with_reducible exact Below.refl _ _ | with_reducible refine Below.alloc ?_ ?_ _ | with_reducible refine Below.setCell ?_ ?_ _ | with_reducible refine Below.drew ?_ | omega | (simp; done) | (simp; omega)))), by rw [HR.out]; exact fun h0 => own_base (own_set (own_set (own_set (own_set (own_set (O4.out h0) (a := ⟨w.heap.size, 0, none⟩) HLW.out _) (a := ⟨w.heap.size, 1, none⟩) HLW.out _) (a := ⟨w.heap.size, 2, none⟩) HLW.out _) (a := ⟨w.heap.size, 3, none⟩) HLW.out _) (a := ⟨w.heap.size, 4, none⟩) HLW.out _) (Nat.le_of_lt HLW.out)⟩
          · have HR := Lib.hid (show q = (Rep.zero, 70) by rw [HP.out]; unfold okR; exact if_neg (fun hh => hs' (ba_same (hPd.symm.trans hh.2))))
            have q2 : (P.toList == s.toList) = false := by rw [beq_eq_false_iff_ne]; exact fun h => hs' ((ba_iff P s).1 h)
            have q3 : (P.toList = s.toList) = False := eq_false (fun h => hs' ((ba_iff P s).1 h))
            clear hI hP hPd HP
            go_wp2_with fail
            refine (ck _ P2).mono ?_
            rintro e w3 ⟨rfl, b3⟩
            have A3 := hA.keep b3
            have B3 := hB.keep b3
            have P3 := (P2.below b3).more b3.size
            have hb3 := hb2.trans (b3.mono hz2)
            have hz3 := hb3.size
            clear p_0 p_1 p_2 p_3 p_4 p_5 p_6
            clear o_0 o_1 o_2 o_3 o_4 o_5 o_6
            obtain ⟨p_0, ⟨p_1, p_2, p_3, p_4, p_5⟩, p_6⟩ := _root_.id A3
            obtain ⟨o_0, ⟨o_1, o_2, o_3, o_4, o_5⟩, o_6⟩ := _root_.id B3
            clear b3
            go_wp2_with fail
            refine (cp2 _ P3).mono ?_
            rintro e w4 ⟨rfl, b4⟩
            have A4 := A3.keep b4
            have hb4 := hb3.trans (b4.mono hz3)
            have hz4 := hb4.size
            clear p_0 p_1 p_2 p_3 p_4 p_5 p_6
            clear o_0 o_1 o_2 o_3 o_4 o_5 o_6
            obtain ⟨p_0, ⟨p_1, p_2, p_3, p_4, p_5⟩, p_6⟩ := _root_.id A4
            clear b4
            go_wp2_with fail
            exact bodyPost_ret (res_BoxR_tmp Tryz.results49 rfl rfl (BoxR.put A4 Rep.zero (.slice none 0 0))) rfl ⟨.slice none 0 0, by rw [HR.out] <;> rfl, by rw [HR.out]; exact SP.nil _ _, (by (repeat' (first | with_reducible assumption | with_reducible exact Below.refl _ _ | with_reducible refine Below.alloc ?_ ?_ _ | with_reducible refine Below.setCell ?_ ?_ _ | with_reducible refine Below.drew ?_ | omega | (simp; done) | (simp; omega)))), by rw [HR.out]; exact fun h0 => absurd h0 (by simp)⟩
      · go_wp2_with fail
        refine St.wp_region_mixed (RR w1 o) (fun k x => match k with | 3 => x = .int .i64 n0 | 7 => x = .int .i64 n1 | _ => ∃ A c, x = .slice A o.ps.length c) (by kernel_rfl) (by kernel_rfl) (by kernel_rfl) ⟨(Below.refl _ w1).drew, fun h => (by cases h), fun h => (by cases h), fun h => (by cases h)⟩ ?_
        iterate 3
          apply St.mix_give
          · rfl
          · intro L u' wx hS hcl hrd hag
            have y0 := (hS.lo.cell (p := ⟨g, 0, none⟩) hgl).trans z0
            have y1 := (hS.lo.cell (p := ⟨g, 1, none⟩) hgl).trans z1
            have y2 := (hS.lo.cell (p := ⟨g, 2, none⟩) hgl).trans z2
            have y3 := (hS.lo.cell (p := ⟨g, 3, none⟩) hgl).trans z3
            go_simp
            try with_reducible rfl
          · exact fun L u' wx hS => ⟨hS.lo, hS.p, hS.n, hS.q⟩
          simp only [Act.put, List.setIfInBounds_toArray, List.set_cons_zero, List.set_cons_succ]
        refine St.mix_into (v := .int .i64 n0) (f := 89) (args := #[.string x0]) rfl rfl ?_ ?_ ?_
        · intro wx
          go_simp
          try with_reducible rfl
        · intro L u' wx hS hcl hrd hag
          refine (c0 wx (hg1.below hS.lo)).mono ?_
          rintro e w' ⟨rfl, hb'⟩
          exact ⟨rfl, hS.call (by decide) (by decide) (by decide) hb' _⟩
        simp only [Act.put, List.setIfInBounds_toArray, List.set_cons_zero, List.set_cons_succ]
        iterate 3
          apply St.mix_give
          · rfl
          · intro L u' wx hS hcl hrd hag
            have y0 := (hS.lo.cell (p := ⟨g, 0, none⟩) hgl).trans z0
            have y1 := (hS.lo.cell (p := ⟨g, 1, none⟩) hgl).trans z1
            have y2 := (hS.lo.cell (p := ⟨g, 2, none⟩) hgl).trans z2
            have y3 := (hS.lo.cell (p := ⟨g, 3, none⟩) hgl).trans z3
            go_simp
            try with_reducible rfl
          · exact fun L u' wx hS => ⟨hS.lo, hS.p, hS.n, hS.q⟩
          simp only [Act.put, List.setIfInBounds_toArray, List.set_cons_zero, List.set_cons_succ]
        refine St.mix_into (v := .int .i64 n1) (f := 89) (args := #[.string x1]) rfl rfl ?_ ?_ ?_
        · intro wx
          go_simp
          try with_reducible rfl
        · intro L u' wx hS hcl hrd hag
          refine (c1 wx (hg1.below hS.lo)).mono ?_
          rintro e w' ⟨rfl, hb'⟩
          exact ⟨rfl, hS.call (by decide) (by decide) (by decide) hb' _⟩
        simp only [Act.put, List.setIfInBounds_toArray, List.set_cons_zero, List.set_cons_succ]
        iterate 9
          apply St.mix_give
          · rfl
          · intro L u' wx hS hcl hrd hag
            have y0 := (hS.lo.cell (p := ⟨g, 0, none⟩) hgl).trans z0
            have y1 := (hS.lo.cell (p := ⟨g, 1, none⟩) hgl).trans z1
            have y2 := (hS.lo.cell (p := ⟨g, 2, none⟩) hgl).trans z2
            have y3 := (hS.lo.cell (p := ⟨g, 3, none⟩) hgl).trans z3
            go_simp
            try with_reducible rfl
          · exact fun L u' wx hS => ⟨hS.lo, hS.p, hS.n, hS.q⟩
          simp only [Act.put, List.setIfInBounds_toArray, List.set_cons_zero, List.set_cons_succ]
        refine St.mix_call (f := 90) (args := #[.slice (some ⟨g, 4, none⟩) t (cap - 4)]) rfl ?_ ?_ ?_
        · intro wx
          go_simp
          try with_reducible rfl
        · intro L u' wx hS hcl hrd hag
          refine (cm _ _ (by intro h; first | rfl | (exfalso; omega)) wx hS.lo).mono ?_
          rintro e w' ⟨s', rfl, hown, hb'⟩
          obtain ⟨A', c', hv'⟩ := (SP.of_own hown).form
          exact ⟨s', rfl, ⟨A', c', hv'⟩, hS.pairs hown hb' (St.not_yet hcl hrd 40 20 (by kernel_rfl))⟩
        rintro x17 ⟨A9, c9, rfl⟩
        simp only [Act.put, List.setIfInBounds_toArray, List.set_cons_zero, List.set_cons_succ]
        iterate 1
          apply St.mix_give
          · rfl
          · intro L u' wx hS hcl hrd hag
            have y0 := (hS.lo.cell (p := ⟨g, 0, none⟩) hgl).trans z0
            have y1 := (hS.lo.cell (p := ⟨g, 1, none⟩) hgl).trans z1
            have y2 := (hS.lo.cell (p := ⟨g, 2, none⟩) hgl).trans z2
            have y3 := (hS.lo.cell (p := ⟨g, 3, none⟩) hgl).trans z3
            go_simp
            try with_reducible rfl
          · exact fun L u' wx hS => ⟨hS.lo, hS.p, hS.n, hS.q⟩
          simp only [Act.put, List.setIfInBounds_toArray, List.set_cons_zero, List.set_cons_succ]
        refine St.mix_free (fun z => ∃ n', z = Ds.ptr n') rfl ?_ ?_
        · intro L u' wx hS hcl hrd hag
          refine ⟨Ds.ptr wx.heap.size, _, ⟨_, rfl⟩, ?_, hS.free (St.not_yet hcl hrd 40 20 (by kernel_rfl))⟩
          go_simp
          try with_reducible rfl
        rintro _ ⟨nb, rfl⟩
        simp only [Act.put, List.setIfInBounds_toArray, List.set_cons_zero, List.set_cons_succ]
        refine St.mix_skip rfl ?_ ?_
        · intro L u' wx hS hcl hrd hag
          have h19 := St.before_ready hcl hrd 40 19 (by kernel_rfl)
          have hu19 : u' 19 = Ds.ptr nb := hag 40 19 (by kernel_rfl)
          have hu17 : u' 17 = .slice A9 o.ps.length c9 := hag 40 17 (by kernel_rfl)
          refine ⟨_, ?_, hS.set h19 hu19 hu17⟩
          obtain ⟨n', g1, g2, g3, ⟨xo, so, g4⟩, _⟩ := hS.n h19
          obtain rfl := ptr_inj (hu19.symm.trans g1)
          obtain ⟨_, ⟨d0, d1, d2, d3, d4⟩, hfz⟩ := g4
          rw [← HO.out]
          clear g1
          go_simp
          try with_reducible rfl
        simp only [Act.put]
        refine St.mix_last ?_
        intro L w2 hS hall
        obtain ⟨n', g1, g2, g3, _, g5⟩ := hS.n (hall 19 (by decide))
        obtain rfl := ptr_inj (show Ds.ptr nb = Ds.ptr n' from g1)
        have B2 : BoxR nb o (.slice A9 o.ps.length c9) w2 := g5 (hall 20 (by decide))
        have P2 : SP w2 w2.heap.size (.slice A9 o.ps.length c9) o.ps := hS.sp (hall 17 (by decide))
        have hb12 := hS.lo
        have F2 : ∀ b f k c, (Value.slice A9 o.ps.length c9) = .slice (some ⟨b, f, none⟩) k c → 0 < o.ps.length → b ≠ w.heap.size := by
          intro b f k c e h0
          obtain ⟨A', c', e1, hh⟩ := hS.p (hall 17 (by decide))
          obtain ⟨b', f', k1, k2, _⟩ := hh h0
          have e1 : (Value.slice A9 o.ps.length c9) = .slice A' o.ps.length c' := e1
          have e2 := e1.symm.trans e
          rw [k1] at e2
          injection e2 with e2 _ _
          injection e2 with e2
          injection e2 with e2 _ _
          have := B1.1
          omega
        have O2 : Hid (0 < o.ps.length → OwnP w2 w1.heap.size (.slice A9 o.ps.length c9) o.ps) := Lib.hid (fun h0 => hS.q (hall 17 (by decide)) h0)
        have HLW : Hid (w.heap.size < w1.heap.size) := Lib.hid B1.1
        clear g1 g5 hS hall
        have A2 := B1.keep hb12
        have hb2 : Below w.heap.size w w2 := hb1.trans (hb12.mono hz1)
        have hg2 : Good w2 := hg1.below hb12
        clear c0 c1 z0 z1 z2 z3 hb12 cm
        clear p_0 p_1 p_2 p_3 p_4 p_5 p_6
        obtain ⟨p_0, ⟨p_1, p_2, p_3, p_4, p_5⟩, p_6⟩ := _root_.id A2
        obtain ⟨o_0, ⟨o_1, o_2, o_3, o_4, o_5⟩, o_6⟩ := _root_.id B2
        have hA := A2
        have hB := B2
        have hz2 := hb2.size
        clear A2 B2
        have ck := fun w (hp : SP w w.heap.size (.slice A9 o.ps.length c9) o.ps) => checkR_any o (.slice A9 o.ps.length c9) w hp (by omega) (by omega) hpsz
        cases hI : isR o with
        | false =>
          rw [show chkR o = 70 by unfold chkR; rw [hI]; rfl] at ck
          have HR := Lib.hid (show q = (Rep.zero, 70) by rw [HP.out]; unfold okR; rw [hI]; exact if_neg (by simp))
          clear hI HP
          go_wp2_with fail
          refine (ck _ P2).mono ?_
          rintro e w3 ⟨rfl, b3⟩
          have A3 := hA.keep b3
          have hb3 := hb2.trans (b3.mono hz2)
          clear p_0 p_1 p_2 p_3 p_4 p_5 p_6
          obtain ⟨p_0, ⟨p_1, p_2, p_3, p_4, p_5⟩, p_6⟩ := _root_.id A3
          clear b3
          go_wp2_with fail
          exact bodyPost_ret (res_BoxR_tmp Tryz.results49 rfl rfl (BoxR.put A3 Rep.zero (.slice none 0 0))) rfl ⟨.slice none 0 0, by rw [HR.out] <;> rfl, by rw [HR.out]; exact SP.nil _ _, (by (repeat' (first | with_reducible assumption | with_reducible exact Below.refl _ _ | with_reducible refine Below.alloc ?_ ?_ _ | with_reducible refine Below.setCell ?_ ?_ _ | with_reducible refine Below.drew ?_ | omega | (simp; done) | (simp; omega)))), by rw [HR.out]; exact fun h0 => absurd h0 (by simp)⟩
        | true =>
          rw [show chkR o = 0 by unfold chkR; rw [hI]; rfl] at ck
          have cp := fun w (hp : SP w w.heap.size (.slice A9 o.ps.length c9) o.ps) => putR_any o (.slice A9 o.ps.length c9) w hp (hfit hI)
          obtain ⟨P, hP⟩ : ∃ P : ByteArray, (⟨(putR o).toArray⟩ : ByteArray) = P := ⟨_, rfl⟩
          have cp2 : ∀ w, SP w w.heap.size (.slice A9 o.ps.length c9) o.ps → Calls Tryz.prog 36 #[rv o (.slice A9 o.ps.length c9)] w fun e w' => e = .returned (.string P) ∧ Below w.heap.size w w' := fun w hp => by rw [← hP]; exact cp w hp
          clear cp
          have hPd : putR o = P.data.toList := by rw [← hP]
          by_cases hs' : P = s
          · subst hs'
            have HR := Lib.hid (show q = (o, 0) by rw [HP.out]; unfold okR; rw [hI]; exact if_pos ⟨rfl, hPd⟩)
            clear hI hP hPd HP
            go_wp2_with fail
            refine (ck _ P2).mono ?_
            rintro e w3 ⟨rfl, b3⟩
            have A3 := hA.keep b3
            have B3 := hB.keep b3
            have P3 := (P2.below b3).more b3.size
            have O3 := Lib.hid (fun h0 => own_keep (O2.out h0) b3)
            have hb3 := hb2.trans (b3.mono hz2)
            have hz3 := hb3.size
            clear p_0 p_1 p_2 p_3 p_4 p_5 p_6
            clear o_0 o_1 o_2 o_3 o_4 o_5 o_6
            obtain ⟨p_0, ⟨p_1, p_2, p_3, p_4, p_5⟩, p_6⟩ := _root_.id A3
            obtain ⟨o_0, ⟨o_1, o_2, o_3, o_4, o_5⟩, o_6⟩ := _root_.id B3
            clear b3
            go_wp2_with fail
            refine (cp2 _ P3).mono ?_
            rintro e w4 ⟨rfl, b4⟩
            have A4 := A3.keep b4
            have B4 := B3.keep b4
            have P4 := (P3.below b4).more b4.size
            have O4 := Lib.hid (fun h0 => own_keep (O3.out h0) b4)
            have hb4 := hb3.trans (b4.mono hz3)
            have hz4 := hb4.size
            clear p_0 p_1 p_2 p_3 p_4 p_5 p_6
            clear o_0 o_1 o_2 o_3 o_4 o_5 o_6
            obtain ⟨p_0, ⟨p_1, p_2, p_3, p_4, p_5⟩, p_6⟩ := _root_.id A4
            obtain ⟨o_0, ⟨o_1, o_2, o_3, o_4, o_5⟩, o_6⟩ := _root_.id B4
            clear b4
            go_wp2_with fail
            exact bodyPost_ret (res_BoxR_tmp Tryz.results49 rfl rfl (BoxR.put A4 o (.slice A9 o.ps.length c9))) rfl ⟨.slice A9 o.ps.length c9, by rw [HR.out] <;> rfl, by rw [HR.out]; exact ((((P4.box F2 0 _).box F2 1 _).box F2 2 _).box F2 3 _).box F2 4 _, (by (repeat' (first | with_reducible assumption | with_reducible exact Below.refl _ _ | with_reducible refine Below.alloc ?_ ?_ _ | with_reducible refine Below.setCell ?_ ?_ _ | with_reducible refine Below.drew ?_ | omega | (simp; done) | (simp; omega)))), by rw [HR.out]; exact fun h0 => own_base (own_set (own_set (own_set (own_set (own_set (O4.out h0) (a := ⟨w.heap.size, 0, none⟩) HLW.out _) (a := ⟨w.heap.size, 1, none⟩) HLW.out _) (a := ⟨w.heap.size, 2, none⟩) HLW.out _) (a := ⟨w.heap.size, 3, none⟩) HLW.out _) (a := ⟨w.heap.size, 4, none⟩) HLW.out _) (Nat.le_of_lt HLW.out)⟩
          · have HR := Lib.hid (show q = (Rep.zero, 70) by rw [HP.out]; unfold okR; exact if_neg (fun hh => hs' (ba_same (hPd.symm.trans hh.2))))
            have q2 : (P.toList == s.toList) = false := by rw [beq_eq_false_iff_ne]; exact fun h => hs' ((ba_iff P s).1 h)
            have q3 : (P.toList = s.toList) = False := eq_false (fun h => hs' ((ba_iff P s).1 h))
            clear hI hP hPd HP
            go_wp2_with fail
            refine (ck _ P2).mono ?_
            rintro e w3 ⟨rfl, b3⟩
            have A3 := hA.keep b3
            have B3 := hB.keep b3
            have P3 := (P2.below b3).more b3.size
            have hb3 := hb2.trans (b3.mono hz2)
            have hz3 := hb3.size
            clear p_0 p_1 p_2 p_3 p_4 p_5 p_6
            clear o_0 o_1 o_2 o_3 o_4 o_5 o_6
            obtain ⟨p_0, ⟨p_1, p_2, p_3, p_4, p_5⟩, p_6⟩ := _root_.id A3
            obtain ⟨o_0, ⟨o_1, o_2, o_3, o_4, o_5⟩, o_6⟩ := _root_.id B3
            clear b3
            go_wp2_with fail
            refine (cp2 _ P3).mono ?_
            rintro e w4 ⟨rfl, b4⟩
            have A4 := A3.keep b4
            have hb4 := hb3.trans (b4.mono hz3)
            have hz4 := hb4.size
            clear p_0 p_1 p_2 p_3 p_4 p_5 p_6
            clear o_0 o_1 o_2 o_3 o_4 o_5 o_6
            obtain ⟨p_0, ⟨p_1, p_2, p_3, p_4, p_5⟩, p_6⟩ := _root_.id A4
            clear b4
            go_wp2_with fail
            exact bodyPost_ret (res_BoxR_tmp Tryz.results49 rfl rfl (BoxR.put A4 Rep.zero (.slice none 0 0))) rfl ⟨.slice none 0 0, by rw [HR.out] <;> rfl, by rw [HR.out]; exact SP.nil _ _, (by (repeat' (first | with_reducible assumption | with_reducible exact Below.refl _ _ | with_reducible refine Below.alloc ?_ ?_ _ | with_reducible refine Below.setCell ?_ ?_ _ | with_reducible refine Below.drew ?_ | omega | (simp; done) | (simp; omega)))), by rw [HR.out]; exact fun h0 => absurd h0 (by simp)⟩
end Go.Proofs.YtkpakiiijphjeaaGreatDoor.Od
