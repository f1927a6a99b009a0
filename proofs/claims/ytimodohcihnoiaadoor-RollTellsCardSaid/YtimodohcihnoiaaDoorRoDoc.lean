/-
  The document's Is, Entries, Same; the law's small, own, num. Condition: at most 2^47 entries.
-/
import Derived.Test.YtimodohcihnoiaaDoorRoLast
import Derived.BigQuiet
namespace Go.Proofs.YtimodohcihnoiaaDoor.Ro
open Go.RowKit

theorem ba_iff (a b : ByteArray) : a.toList = b.toList ↔ a = b := ⟨fun h => by
  rw [ByteArray.toList_eq, ByteArray.toList_eq] at h
  obtain ⟨⟨x⟩⟩ := a
  obtain ⟨⟨y⟩⟩ := b
  have h : x = y := h
  rw [h], fun h => by rw [h]⟩
theorem int_yes {x y : Int} (h : x = y) : (x == y) = true ∧ (x != y) = false ∧ (x = y) = True := by subst h; simp
theorem int_no {x y : Int} (h : ¬ x = y) : (x == y) = false ∧ (x != y) = true ∧ (x = y) = False := ⟨by simpa using h, by simpa using h, eq_false h⟩
theorem num_any (n : Int) (w : World) : Calls Tryd.prog 12 #[.int .i64 n] w fun e w' => e = .returned (.int .i64 n) ∧ w = w' := by
  go_enter Tryd.func12, Tryd.ntmps12
  go_wp2_with fail
  go_ret
  exact ⟨rfl, rfl⟩

set_option maxHeartbeats 4000000 in
set_option maxRecDepth 100000 in
theorem entries_any (va vb : Value) (xs ys : List En) (w : World) (ha : SE w w.heap.size va xs) (hb : SE w w.heap.size vb ys) (hx : xs.length ≤ 1000000000) (hy : ys.length ≤ 1000000000) :
    Calls Tryd.prog 23 #[va, vb] w fun e w' => e = .returned (.bool (decide (xs = ys))) ∧ Below w.heap.size w w' := by
  obtain ⟨A, c, rfl⟩ := ha.form
  obtain ⟨D, d, rfl⟩ := hb.form
  by_cases hl : xs.length = ys.length
  · obtain ⟨n, hn⟩ : ∃ n, n = xs.length := ⟨_, rfl⟩
    have hny : n = ys.length := by omega
    have HX := Lib.hid hn
    have HY := Lib.hid hny
    have hn1 : n ≤ 1000000000 := by omega
    rw [← hn] at ha ⊢
    rw [← hny] at hb ⊢
    clear hl hn hny hx hy
    go_enter Tryd.func23, Tryd.ntmps23
    go_wp2_with fail
    go_loopw [5] (fun vi wr => ∃ (k : Nat), k ≤ n ∧ vi = .int .i64 (k : Int) ∧ Hid (xs.take k = ys.take k) ∧ Below w.heap.size w wr) (fun vi _ => n - (intOf vi).toNat)
    case atStart => exact ⟨0, by omega, rfl, rfl, Below.refl _ w⟩
    case round =>
      obtain ⟨k, hk, rfl, heq, hbw⟩ := hrel
      by_cases hlt : k < n
      · have hkx : k < xs.length := by rw [← HX.out]; exact hlt
        have hky : k < ys.length := by rw [← HY.out]; exact hlt
        obtain ⟨b1, o1, rfl, hadb, hc1, hc2⟩ := (ha.below hbw).at_ hkx
        obtain ⟨b2, o2, rfl, hbdb, hd1, hd2⟩ := (hb.below hbw).at_ hky
        obtain ⟨⟨x1, x2⟩, hx⟩ : ∃ x, xs[k] = x := ⟨_, rfl⟩
        obtain ⟨⟨y1, y2⟩, hy⟩ : ∃ y, ys[k] = y := ⟨_, rfl⟩
        rw [hx] at hc1 hc2
        rw [hy] at hd1 hd2
        have hk0 : (0 : Int) ≤ (k : Int) := by omega
        have hk1 : (k : Int) < (n : Int) := by omega
        have EX := Lib.hid hx
        have EY := Lib.hid hy
        clear hx hy
        by_cases hxy : ((x1, x2) : En) = (y1, y2)
        · have HXY := Lib.hid hxy
          injection hxy with q1 q2
          subst q1 q2
          go_wp2_with fail
          go_quiet (fail)
          go_wp2_with fail
          go_roundw
          case rel =>
            refine ⟨k + 1, by omega, by go_num, ?_, below_drewN hbw _⟩
            show xs.take (k + 1) = ys.take (k + 1)
            rw [List.take_succ_eq_append_getElem hkx, List.take_succ_eq_append_getElem hky, heq.out, EX.out, EY.out]
          case measure => simp [intOf]; omega
        · have hor : ((x1 == y1) = false) ∨ (x1 = y1 ∧ (x2.toList == y2.toList) = false) := by
            by_cases q : x1 = y1
            · refine .inr ⟨q, ?_⟩
              rw [beq_eq_false_iff_ne]
              intro h
              exact hxy (by rw [q, (ba_iff x2 y2).1 h])
            · exact .inl (by simpa using q)
          have hres : decide (xs = ys) = false := by
            simp
            rintro rfl
            exact hxy (by rw [← EX.out, EY.out])
          have HR := Lib.hid hres
          clear hxy hres
          rcases hor with q1 | ⟨rfl, q2⟩
          all_goals
            go_wp2_with fail
            go_quiet (fail)
            go_wp2_with fail
            go_ret
            exact ⟨by rw [HR.out]; rfl, below_drewN hbw _⟩
      · obtain rfl : k = n := by omega
        have hres : decide (xs = ys) = true := by
          have h := heq.out
          have e1 := HX.out
          have e2 := HY.out
          rw [List.take_of_length_le (by omega), List.take_of_length_le (by omega)] at h
          simpa using h
        have HR := Lib.hid hres
        clear hres heq
        go_wp2_with fail
        go_ret
        exact ⟨by rw [HR.out]; rfl, hbw⟩
  · have hres : decide (xs = ys) = false := by
      simp
      rintro rfl
      exact hl rfl
    have HR := Lib.hid hres
    have hq : ((xs.length : Int) != (ys.length : Int)) = true := by
      have : (xs.length : Int) ≠ (ys.length : Int) := by omega
      simpa using this
    have hq2 : (xs.length != ys.length) = true := by simpa using hl
    clear hres hl
    go_enter Tryd.func23, Tryd.ntmps23
    go_wp2_with fail
    go_ret
    exact ⟨by rw [HR.out]; rfl, Below.refl _ w⟩

theorem same_no {a b : Lg} (h : ¬ a = b) : decide (a = b) = false := decide_eq_false h
theorem same_es {a b : Lg} (h1 : a.base = b.base) (h2 : a.bt = b.bt) : decide (a = b) = decide (a.es = b.es) := by
  obtain ⟨a1, a2, a3⟩ := a
  obtain ⟨b1, b2, b3⟩ := b
  simp only at h1 h2
  subst h1 h2
  simp
set_option maxHeartbeats 4000000 in
theorem rsame_any (a b : Lg) (sa sb : Value) (w : World) (ha : SE w w.heap.size sa a.es) (hb : SE w w.heap.size sb b.es) (hx : a.es.length ≤ 1000000000) (hy : b.es.length ≤ 1000000000) :
    Calls Tryd.prog 18 #[lv a sa, lv b sb] w fun e w' => e = .returned (.bool (decide (a = b))) ∧ Below w.heap.size w w' := by
  obtain ⟨A, c, rfl⟩ := ha.form
  obtain ⟨D, d, rfl⟩ := hb.form
  have cc := fun w ha hb => entries_any (.slice A a.es.length c) (.slice D b.es.length d) a.es b.es w ha hb hx hy
  have ka : ∀ w1, Below w.heap.size w w1 → SE w1 w1.heap.size (.slice A a.es.length c) a.es := fun w1 h => (ha.below h).more h.size
  have kb : ∀ w1, Below w.heap.size w w1 → SE w1 w1.heap.size (.slice D b.es.length d) b.es := fun w1 h => (hb.below h).more h.size
  by_cases h1 : a.base = b.base
  rotate_left
  · obtain ⟨n0, m0, l0⟩ := int_no h1
    rw [same_no (fun e => h1 (by rw [e]))]
    clear h1
    go_enter Tryd.func18, Tryd.ntmps18
    go_wp2_with fail
    go_ret
    exact ⟨rfl, (by (repeat' (first | with_reducible assumption | with_reducible exact Below.refl _ _ | with_reducible refine Below.alloc ?_ ?_ _ | with_reducible refine Below.setCell ?_ ?_ _ | with_reducible refine Below.drew ?_ | omega | (simp; done) | (simp; omega))))⟩
  obtain ⟨n0, m0, l0⟩ := int_yes h1
  by_cases h2 : a.bt = b.bt
  rotate_left
  · obtain ⟨n1, m1, l1⟩ := int_no h2
    rw [same_no (fun e => h2 (by rw [e]))]
    clear h1 h2
    go_enter Tryd.func18, Tryd.ntmps18
    go_wp2_with fail
    go_ret
    exact ⟨rfl, (by (repeat' (first | with_reducible assumption | with_reducible exact Below.refl _ _ | with_reducible refine Below.alloc ?_ ?_ _ | with_reducible refine Below.setCell ?_ ?_ _ | with_reducible refine Below.drew ?_ | omega | (simp; done) | (simp; omega))))⟩
  obtain ⟨n1, m1, l1⟩ := int_yes h2
  rw [same_es h1 h2]
  clear h1 h2
  go_enter Tryd.func18, Tryd.ntmps18
  go_wp2_with fail
  refine (cc _ (ka _ (by (repeat' (first | with_reducible assumption | with_reducible exact Below.refl _ _ | with_reducible refine Below.alloc ?_ ?_ _ | with_reducible refine Below.setCell ?_ ?_ _ | with_reducible refine Below.drew ?_ | omega | (simp; done) | (simp; omega))))) (kb _ (by (repeat' (first | with_reducible assumption | with_reducible exact Below.refl _ _ | with_reducible refine Below.alloc ?_ ?_ _ | with_reducible refine Below.setCell ?_ ?_ _ | with_reducible refine Below.drew ?_ | omega | (simp; done) | (simp; omega)))))).mono ?_
  rintro e w1 ⟨rfl, b1⟩
  have hb1 : Below w.heap.size w w1 := (show Below w.heap.size w _ from (by (repeat' (first | with_reducible assumption | with_reducible exact Below.refl _ _ | with_reducible refine Below.alloc ?_ ?_ _ | with_reducible refine Below.setCell ?_ ?_ _ | with_reducible refine Below.drew ?_ | omega | (simp; done) | (simp; omega))))).trans (b1.mono (by simp; omega))
  clear b1
  go_wp2_with fail
  go_ret
  exact ⟨rfl, hb1⟩

/-! ### the law's small -/
def sumE (l : List En) : Nat := (l.map fun e => e.2.size).sum
theorem sumE_take {l : List En} {k : Nat} (h : k < l.length) : sumE (l.take (k + 1)) = sumE (l.take k) + (l[k]).2.size := by
  unfold sumE; rw [List.take_succ_eq_append_getElem h, List.map_append, List.sum_append]; simp only [List.map_cons, List.map_nil, List.sum_cons, List.sum_nil, Nat.add_zero]
theorem sumE_mem {l : List En} {e : En} (h : e ∈ l) : e.2.size ≤ sumE l := by
  induction l with
  | nil => cases h
  | cons x l ih =>
    rcases List.mem_cons.1 h with rfl | h
    · simp [sumE]
    · have := ih h
      simp only [sumE, List.map_cons, List.sum_cons] at this ⊢
      omega
structure SmallL (r : Lg) : Prop where
  n : r.es.length ≤ 60
  sum : sumE r.es ≤ 10000
/-- what small answers -/
def SmallOut (r : Lg) (e : Ending) : Prop := ∃ x, e = .returned (.bool x) ∧ (x = true → SmallL r)
theorem SmallOut.no (r : Lg) : SmallOut r (.returned (.bool false)) := ⟨false, rfl, fun h => by cases h⟩
set_option maxHeartbeats 8000000 in
set_option maxRecDepth 100000 in
theorem small_any (r : Lg) (s : Value) (w : World) (hs : SE w w.heap.size s r.es) (hl : r.es.length ≤ 140737488355328) (hf : ∀ e ∈ r.es, e.2.size ≤ 140737488355328) :
    Calls Tryd.prog 8 #[lv r s] w fun e w' => SmallOut r e ∧ Below w.heap.size w w' := by
  obtain ⟨A, c, rfl⟩ := hs.form
  obtain ⟨base, bt, es⟩ := r
  simp only at hs hl hf ⊢
  obtain ⟨N, hN⟩ : ∃ N, es.length = N := ⟨_, rfl⟩
  have HN := Lib.hid hN
  have B0 := BoxL.new w ⟨base, bt, es⟩ (.slice A N c)
  obtain ⟨W0, hW0⟩ : ∃ W0, w.alloc (.cells #[.int .i64 base, .int .i64 bt, .slice A N c] 24) = W0 := ⟨_, rfl⟩
  have hb0 : Below w.heap.size w W0 := by rw [← hW0]; exact (Below.refl _ w).alloc (Nat.le_refl _) _
  rw [hW0] at B0
  have HV := Lib.hid ((hs.below hb0).more hb0.size)
  rw [hN] at hl ⊢
  clear hN hs
  go_enter Tryd.func8, Tryd.ntmps8
  go_wp2_with fail
  try rw [hW0]
  clear hW0
  go_loopw [3, 4] (fun v3 v4 wr => ∃ (i S : Nat), i ≤ N ∧ i ≤ 61 ∧ v4 = .int .i64 (i : Int) ∧ v3 = .int .i64 (S : Int) ∧ Hid (S ≤ 900000000000000) ∧ Hid (S = sumE (es.take i)) ∧ wr = W0) (fun _ v4 _ => N - (intOf v4).toNat)
  case atStart => exact ⟨0, 0, Nat.zero_le _, by omega, rfl, rfl, Lib.hid (by omega), Lib.hid (by simp [sumE]), rfl⟩
  case round =>
    obtain ⟨i, S, hi, hi2, rfl, rfl, HS9, HSM, rfl⟩ := hrel
    obtain ⟨p_0, ⟨p_1, p_2, p_3⟩, p_4⟩ := _root_.id B0
    have g0 : ((i : Int) < (N : Int)) = (i < N) := by simp
    by_cases hlt : i < N
    rotate_left
    · obtain rfl : i = N := by omega
      have g1 : ((i : Int) < (i : Int)) = False := eq_false (by omega)
      clear g0
      by_cases h1 : i ≤ 60
      rotate_left
      · have g2 : ((i : Int) ≤ 60) = False := eq_false (by omega)
        clear h1
        go_wp2_with fail
        go_ret
        exact ⟨SmallOut.no _, hb0⟩
      have g2 : ((i : Int) ≤ 60) = True := eq_true (by omega)
      by_cases h2 : S ≤ 10000
      rotate_left
      · have g3 : ((S : Int) ≤ 10000) = False := eq_false (by omega)
        clear h1 h2
        go_wp2_with fail
        go_ret
        exact ⟨SmallOut.no _, hb0⟩
      have g3 : ((S : Int) ≤ 10000) = True := eq_true (by omega)
      have HF : Hid (SmallL ⟨base, bt, es⟩) := Lib.hid ⟨by simp only; have := HN.out; omega, by
        simp only
        have := HSM.out
        rw [List.take_of_length_le (by have := HN.out; omega)] at this
        omega⟩
      clear h1 h2
      go_wp2_with fail
      go_ret
      exact ⟨⟨true, rfl, fun _ => HF.out⟩, hb0⟩
    · have g1 : ((i : Int) < (N : Int)) = True := eq_true (by omega)
      clear g0
      by_cases h1 : i ≤ 60
      rotate_left
      · have g2 : ((i : Int) ≤ 60) = False := eq_false (by omega)
        have g3 : ((N : Int) ≤ 60) = False := eq_false (by omega)
        clear h1
        go_wp2_with fail
        go_ret
        exact ⟨SmallOut.no _, hb0⟩
      have g2 : ((i : Int) ≤ 60) = True := eq_true (by omega)
      by_cases h2 : S ≤ 10000
      rotate_left
      · have g3 : ((S : Int) ≤ 10000) = False := eq_false (by omega)
        clear h2
        by_cases h3 : N ≤ 60
        · have g4 : ((N : Int) ≤ 60) = True := eq_true (by omega)
          go_wp2_with fail
          go_ret
          exact ⟨SmallOut.no _, hb0⟩
        · have g4 : ((N : Int) ≤ 60) = False := eq_false (by omega)
          go_wp2_with fail
          go_ret
          exact ⟨SmallOut.no _, hb0⟩
      have g3 : ((S : Int) ≤ 10000) = True := eq_true (by omega)
      have hix : i < es.length := by rw [HN.out]; exact hlt
      have hv1 := HV.out
      rw [HN.out] at hv1
      obtain ⟨b, o, rfl, hb, q0, q1⟩ := hv1.at_ hix
      have hfx := hf _ (List.getElem_mem hix)
      have hsm := sumE_take hix
      obtain ⟨⟨x, y⟩, hx⟩ : ∃ x, es[i] = x := ⟨_, rfl⟩
      rw [hx] at q0 q1 hfx hsm
      simp only at q0 q1 hfx hsm
      have k0 : (0 ≤ (i : Int)) = True := eq_true (by omega)
      obtain ⟨S1, hS1⟩ : ∃ S1 : Nat, S1 = S + y.size := ⟨_, rfl⟩
      have j1 : IntKind.i64.wrap ((S : Int) + (y.size : Int)) = (S1 : Int) := by rw [IntKind.wrap_i64] <;> omega
      have HS2 : Hid (S1 ≤ 900000000000000) := Lib.hid (by omega)
      have HSM2 : Hid (S1 = sumE (es.take (i + 1))) := Lib.hid (by have := HSM.out; omega)
      clear hv1 hx hix hfx hsm hS1 h2 HS9 HSM
      go_wp2_with fail
      go_roundw
      case rel => exact ⟨i + 1, S1, by omega, by omega, by go_num, rfl, HS2, HSM2, by trivial⟩
      case measure => simp [intOf]; omega

set_option maxHeartbeats 4000000 in
set_option maxRecDepth 100000 in
theorem ris_any (r : Lg) (s : Value) (w : World) (hs : SE w w.heap.size s r.es) (hl : r.es.length ≤ 140737488355328) :
    Calls Tryd.prog 14 #[lv r s] w fun e w' => e = .returned (.bool (isL r)) ∧ Below w.heap.size w w' := by
  obtain ⟨A, c, rfl⟩ := hs.form
  obtain ⟨base, bt, es⟩ := r
  simp only at hs hl ⊢
  obtain ⟨N, hN⟩ : ∃ N, es.length = N := ⟨_, rfl⟩
  have HN := Lib.hid hN
  have B0 := BoxL.new w ⟨base, bt, es⟩ (.slice A N c)
  obtain ⟨W0, hW0⟩ : ∃ W0, w.alloc (.cells #[.int .i64 base, .int .i64 bt, .slice A N c] 24) = W0 := ⟨_, rfl⟩
  have hb0 : Below w.heap.size w W0 := by rw [← hW0]; exact (Below.refl _ w).alloc (Nat.le_refl _) _
  obtain ⟨q, hq⟩ : ∃ q, isL ⟨base, bt, es⟩ = q := ⟨_, rfl⟩
  rw [hq]
  by_cases h1 : base < 0
  · have hr : q = false := by rw [← hq]; unfold isL isIx; simp [Int.not_le.2 h1]
    subst hr
    rw [hN]
    have g1 : (base < 0) = True := eq_true h1
    clear h1 hq hN hs hW0
    go_enter Tryd.func14, Tryd.ntmps14
    obtain ⟨p_0, ⟨p_1, p_2, p_3⟩, p_4⟩ := _root_.id B0
    go_wp2_with fail
    go_ret
    exact ⟨rfl, (by (repeat' (first | with_reducible assumption | with_reducible exact Below.refl _ _ | with_reducible refine Below.alloc ?_ ?_ _ | with_reducible refine Below.setCell ?_ ?_ _ | with_reducible refine Below.drew ?_ | omega | (simp; done) | (simp; omega))))⟩
  have g1 : (base < 0) = False := eq_false h1
  by_cases h2 : 1099511627776 < base
  · have hr : q = false := by rw [← hq]; unfold isL isIx; simp [Int.not_le.2 h2]
    subst hr
    rw [hN]
    have g2 : (1099511627776 < base) = True := eq_true h2
    have g2' : (base > 1099511627776) = True := eq_true h2
    clear h1 h2 hq hN hs hW0
    go_enter Tryd.func14, Tryd.ntmps14
    obtain ⟨p_0, ⟨p_1, p_2, p_3⟩, p_4⟩ := _root_.id B0
    go_wp2_with fail
    go_ret
    exact ⟨rfl, (by (repeat' (first | with_reducible assumption | with_reducible exact Below.refl _ _ | with_reducible refine Below.alloc ?_ ?_ _ | with_reducible refine Below.setCell ?_ ?_ _ | with_reducible refine Below.drew ?_ | omega | (simp; done) | (simp; omega))))⟩
  have g2 : (1099511627776 < base) = False := eq_false h2
  by_cases h3 : bt < 0
  · have hr : q = false := by rw [← hq]; unfold isL isIx; simp [Int.not_le.2 h3]
    subst hr
    rw [hN]
    have g3 : (bt < 0) = True := eq_true h3
    clear h1 h2 h3 hq hN hs hW0
    go_enter Tryd.func14, Tryd.ntmps14
    obtain ⟨p_0, ⟨p_1, p_2, p_3⟩, p_4⟩ := _root_.id B0
    go_wp2_with fail
    go_ret
    exact ⟨rfl, (by (repeat' (first | with_reducible assumption | with_reducible exact Below.refl _ _ | with_reducible refine Below.alloc ?_ ?_ _ | with_reducible refine Below.setCell ?_ ?_ _ | with_reducible refine Below.drew ?_ | omega | (simp; done) | (simp; omega))))⟩
  have g3 : (bt < 0) = False := eq_false h3
  by_cases h4 : 1099511627776 < bt
  · have hr : q = false := by rw [← hq]; unfold isL isIx; simp [Int.not_le.2 h4]
    subst hr
    rw [hN]
    have g4 : (1099511627776 < bt) = True := eq_true h4
    have g4' : (bt > 1099511627776) = True := eq_true h4
    clear h1 h2 h3 h4 hq hN hs hW0
    go_enter Tryd.func14, Tryd.ntmps14
    obtain ⟨p_0, ⟨p_1, p_2, p_3⟩, p_4⟩ := _root_.id B0
    go_wp2_with fail
    go_ret
    exact ⟨rfl, (by (repeat' (first | with_reducible assumption | with_reducible exact Below.refl _ _ | with_reducible refine Below.alloc ?_ ?_ _ | with_reducible refine Below.setCell ?_ ?_ _ | with_reducible refine Below.drew ?_ | omega | (simp; done) | (simp; omega))))⟩
  have g4 : (1099511627776 < bt) = False := eq_false h4
  have j1 : IntKind.i64.wrap (1099511627776 - base) = 1099511627776 - base := by rw [IntKind.wrap_i64] <;> omega
  by_cases h5 : 1099511627776 - base < (N : Int)
  · have hr : q = false := by rw [← hq]; unfold isL; simp only [hN]; rw [decide_eq_false (by omega : ¬ ((N : Int) ≤ 1099511627776 - base))]; simp
    subst hr
    rw [hN]
    have g5 : (1099511627776 - base < (N : Int)) = True := eq_true h5
    clear h1 h2 h3 h4 h5 hq hN hs hW0
    go_enter Tryd.func14, Tryd.ntmps14
    obtain ⟨p_0, ⟨p_1, p_2, p_3⟩, p_4⟩ := _root_.id B0
    go_wp2_with fail
    go_ret
    exact ⟨rfl, (by (repeat' (first | with_reducible assumption | with_reducible exact Below.refl _ _ | with_reducible refine Below.alloc ?_ ?_ _ | with_reducible refine Below.setCell ?_ ?_ _ | with_reducible refine Below.drew ?_ | omega | (simp; done) | (simp; omega))))⟩
  have g5 : (1099511627776 - base < (N : Int)) = False := eq_false h5
  have hr : q = riseE bt es := by
    rw [← hq]; unfold isL isIx
    simp only [hN]
    rw [decide_eq_true (by omega : 0 ≤ base), decide_eq_true (by omega : base ≤ 1099511627776), decide_eq_true (by omega : 0 ≤ bt), decide_eq_true (by omega : bt ≤ 1099511627776), decide_eq_true (by omega : (N : Int) ≤ 1099511627776 - base)]
    rfl
  have HQ := Lib.hid hr
  have hs0 := (hs.below hb0).more hb0.size
  have HV := Lib.hid hs0
  rw [hN] at hl ⊢
  clear hN hr hq hs hs0 h1 h2 h3 h4 h5
  rw [hW0] at B0
  go_enter Tryd.func14, Tryd.ntmps14
  obtain ⟨p_0, ⟨p_1, p_2, p_3⟩, p_4⟩ := _root_.id B0
  go_wp2_with fail
  clear p_0 p_1 p_2 p_3 p_4
  try rw [hW0]
  clear hW0
  go_loopw [3, 4] (fun v3 v4 wr => ∃ (k : Nat) (t : Int), k ≤ N ∧ v4 = .int .i64 (k : Int) ∧ v3 = .int .i64 t ∧ Hid (riseE t (es.drop k) = q) ∧ wr = W0) (fun _ v4 _ => N - (intOf v4).toNat)
  case atStart => exact ⟨0, bt, Nat.zero_le _, rfl, rfl, Lib.hid (by simpa using HQ.out.symm), rfl⟩
  case round =>
    obtain ⟨k, t, hk, rfl, rfl, HG, rfl⟩ := hrel
    obtain ⟨p_0, ⟨p_1, p_2, p_3⟩, p_4⟩ := _root_.id B0
    by_cases hlt : k < N
    rotate_left
    · obtain rfl : k = N := by omega
      have hg := HG.out
      rw [List.drop_of_length_le (by have := HN.out; omega), riseE] at hg
      subst hg
      go_wp2_with fail
      go_ret
      exact ⟨rfl, hb0⟩
    · have hkx : k < es.length := by rw [HN.out]; exact hlt
      have hv1 := HV.out
      rw [HN.out] at hv1
      obtain ⟨b, o, rfl, hb, q0, q1⟩ := hv1.at_ hkx
      have hg := HG.out
      rw [riseE_drop hkx] at hg
      obtain ⟨⟨x, y⟩, hx⟩ : ∃ x, es[k] = x := ⟨_, rfl⟩
      rw [hx] at q0 q1 hg
      simp only at q0 q1 hg
      have k0 : (0 ≤ (k : Int)) = True := eq_true (by omega)
      have k1 : ((k : Int) < (N : Int)) = True := eq_true (by omega)
      clear hv1 hx hkx
      by_cases h1 : x < t
      · have g1 : (x < t) = True := eq_true h1
        rw [decide_eq_false (by omega : ¬ t ≤ x)] at hg
        simp only [Bool.false_and] at hg
        have HG2 := Lib.hid hg
        clear hg h1 HG
        go_wp2_with fail
        go_ret
        exact ⟨by rw [← HG2.out]; rfl, hb0⟩
      · have g1 : (x < t) = False := eq_false h1
        rw [decide_eq_true (by omega : t ≤ x), Bool.true_and] at hg
        by_cases h2 : x ≤ 1099511627776
        · have g2 : (1099511627776 < x) = False := eq_false (by omega)
          rw [decide_eq_true h2, Bool.true_and] at hg
          have HG2 := Lib.hid hg
          clear hg h1 h2 HG
          go_wp2_with fail
          go_roundw
          case rel => exact ⟨k + 1, x, by omega, by go_num, rfl, HG2, by trivial⟩
          case measure => simp [intOf]; omega
        · have g2 : (1099511627776 < x) = True := eq_true (by omega)
          rw [decide_eq_false h2] at hg
          simp only [Bool.false_and] at hg
          have HG2 := Lib.hid hg
          clear hg h1 h2 HG
          go_wp2_with fail
          go_ret
          exact ⟨by rw [← HG2.out]; rfl, hb0⟩
end Go.Proofs.YtimodohcihnoiaaDoor.Ro
