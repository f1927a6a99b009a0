/-
  Same: the library's Equal at pairs, Same of replies, the program's and the document's. Condition: at most 10^9 pairs.
-/
import Derived.Test.YticikmkehobblaaDoorOdReply
import Derived.Test.YticikmkehobblaaDoorDsSame
namespace Go.Proofs.YticikmkehobblaaDoor.Od
open Go.RowKit Bnd
open Ds (int_yes int_no)
attribute [local go_sem ↓] Go.wp_at_zero Go.wp_at_succ

set_option maxHeartbeats 2000000 in
set_option maxRecDepth 100000 in
theorem pairs_any (a b : Value) (xs ys : List Pr) (w : World) (ha : SP w w.heap.size a xs) (hb : SP w w.heap.size b ys) (hx : xs.length ≤ 1000000000) (hy : ys.length ≤ 1000000000) :
    Calls Tryd.prog 30 #[a, b] w fun e w' => e = .returned (.bool (decide (xs = ys))) ∧ Below w.heap.size w w' := by
  obtain ⟨A, c, rfl⟩ := ha.form
  obtain ⟨D, d, rfl⟩ := hb.form
  by_cases hl : xs.length = ys.length
  · obtain ⟨n, hn⟩ : ∃ n, n = xs.length := ⟨_, rfl⟩
    have hny : n = ys.length := by omega
    have HX := Lib.hid hn
    have HY := Lib.hid hny
    have hn1 : n ≤ 1000000000 := by omega
    rw [← hn] at ha ⊢
    rw [← hny] at hb ⊢
    clear hl hn hny hx hy
    go_enter Tryd.func30, Tryd.ntmps30
    go_wp2_with fail
    go_loopw [5] (fun vi wr => ∃ (k : Nat), k ≤ n ∧ vi = .int .i64 (k : Int) ∧ Hid (xs.take k = ys.take k) ∧ Below w.heap.size w wr) (fun vi _ => n - (intOf vi).toNat)
    case atStart => exact ⟨0, by omega, rfl, rfl, Below.refl _ w⟩
    case round =>
      obtain ⟨k, hk, rfl, heq, hbw⟩ := hrel
      by_cases hlt : k < n
      · have hkx : k < xs.length := by rw [← HX.out]; exact hlt
        have hky : k < ys.length := by rw [← HY.out]; exact hlt
        obtain ⟨b1, o1, rfl, hadb, hc1, hc2⟩ := (ha.below hbw).at_ hkx
        obtain ⟨b2, o2, rfl, hbdb, hd1, hd2⟩ := (hb.below hbw).at_ hky
        obtain ⟨⟨x1, x2⟩, hx⟩ : ∃ x, xs[k] = x := ⟨_, rfl⟩
        obtain ⟨⟨y1, y2⟩, hy⟩ : ∃ y, ys[k] = y := ⟨_, rfl⟩
        rw [hx] at hc1 hc2
        rw [hy] at hd1 hd2
        have hk0 : (0 : Int) ≤ (k : Int) := by omega
        have hk1 : (k : Int) < (n : Int) := by omega
        have EX := Lib.hid hx
        have EY := Lib.hid hy
        clear hx hy
        by_cases hxy : ((x1, x2) : Pr) = (y1, y2)
        · have HXY := Lib.hid hxy
          injection hxy with q1 q2
          subst q1 q2
          go_wp2_with fail
          go_quiet (fail)
          go_wp2_with fail
          go_roundw
          case rel =>
            refine ⟨k + 1, by omega, by go_num, ?_, below_drewN hbw _⟩
            show xs.take (k + 1) = ys.take (k + 1)
            rw [List.take_succ_eq_append_getElem hkx, List.take_succ_eq_append_getElem hky, heq.out, EX.out, EY.out]
          case measure => simp [intOf]; omega
        · have hor : ((x1.toList == y1.toList) = false) ∨ (x1 = y1 ∧ (x2.toList == y2.toList) = false) := by
            by_cases q : x1 = y1
            · refine .inr ⟨q, ?_⟩
              rw [beq_eq_false_iff_ne]
              intro h
              exact hxy (by rw [q, (ba_iff x2 y2).1 h])
            · exact .inl (by rw [beq_eq_false_iff_ne]; exact fun h => q ((ba_iff x1 y1).1 h))
          have hres : decide (xs = ys) = false := by
            simp
            rintro rfl
            exact hxy (by rw [← EX.out, EY.out])
          have HR := Lib.hid hres
          clear hxy hres
          rcases hor with q1 | ⟨rfl, q2⟩
          all_goals
            go_wp2_with fail
            go_quiet (fail)
            go_wp2_with fail
            go_ret
            exact ⟨by rw [HR.out]; rfl, below_drewN hbw _⟩
      · obtain rfl : k = n := by omega
        have hres : decide (xs = ys) = true := by
          have h := heq.out
          have e1 := HX.out
          have e2 := HY.out
          rw [List.take_of_length_le (by omega), List.take_of_length_le (by omega)] at h
          simpa using h
        have HR := Lib.hid hres
        clear hres heq
        go_wp2_with fail
        go_ret
        exact ⟨by rw [HR.out]; rfl, hbw⟩
  · have hres : decide (xs = ys) = false := by
      simp
      rintro rfl
      exact hl rfl
    have HR := Lib.hid hres
    have hq : ((xs.length : Int) != (ys.length : Int)) = true := by
      have : (xs.length : Int) ≠ (ys.length : Int) := by omega
      simpa using this
    have hq2 : (xs.length != ys.length) = true := by simpa using hl
    clear hres hl
    go_enter Tryd.func30, Tryd.ntmps30
    go_wp2_with fail
    go_ret
    exact ⟨by rw [HR.out]; rfl, Below.refl _ w⟩


theorem sameR_no {a b : Rep} (h : ¬ a = b) : sameR a b = false := by
  cases hs : sameR a b with
  | false => rfl
  | true => exact absurd ((sameR_iff a b).1 hs) h
theorem sameR_ps {a b : Rep} (h1 : a.code = b.code) (h2 : a.err = b.err) (h3 : a.has = b.has) (h4 : a.val = b.val) : sameR a b = decide (a.ps = b.ps) := by
  unfold sameR; simp [h1, h2, h3, h4]
theorem bool_no {x y : Bool} (h : ¬ x = y) : (x == y) = false ∧ (x != y) = true ∧ (x = y) = False := ⟨by simpa using h, by simpa using h, eq_false h⟩
theorem bool_yes {x y : Bool} (h : x = y) : (x == y) = true ∧ (x != y) = false ∧ (x = y) = True := by subst h; simp
set_option maxHeartbeats 4000000 in
theorem rsameR_any (a b : Rep) (sa sb : Value) (w : World) (ha : SP w w.heap.size sa a.ps) (hb : SP w w.heap.size sb b.ps) (hx : a.ps.length ≤ 1000000000) (hy : b.ps.length ≤ 1000000000) :
    Calls Tryd.prog 18 #[rv a sa, rv b sb] w fun e w' => e = .returned (.bool (sameR a b)) ∧ Below w.heap.size w w' := by
  obtain ⟨A, c, rfl⟩ := ha.form
  obtain ⟨D, d, rfl⟩ := hb.form
  have cc := fun w ha hb => pairs_any (.slice A a.ps.length c) (.slice D b.ps.length d) a.ps b.ps w ha hb hx hy
  have ka : ∀ w1, Below w.heap.size w w1 → SP w1 w1.heap.size (.slice A a.ps.length c) a.ps := fun w1 h => (ha.below h).more h.size
  have kb : ∀ w1, Below w.heap.size w w1 → SP w1 w1.heap.size (.slice D b.ps.length d) b.ps := fun w1 h => (hb.below h).more h.size
  by_cases h1 : a.code = b.code
  rotate_left
  · obtain ⟨n0, m0, l0⟩ := int_no h1
    rw [sameR_no (fun e => h1 (by rw [e]))]
    clear h1
    go_enter Tryd.func18, Tryd.ntmps18
    go_wp2_with fail
    go_ret
    exact ⟨rfl, (by (repeat' (first | with_reducible assumption | with_reducible exact Below.refl _ _ | with_reducible refine Below.alloc ?_ ?_ _ | with_reducible refine Below.setCell ?_ ?_ _ | with_reducible refine Below.drew ?_ | omega | (simp; done) | (simp; omega))))⟩
  obtain ⟨n0, m0, l0⟩ := int_yes h1
  by_cases h2 : a.err = b.err
  rotate_left
  · obtain ⟨n1, m1, l1⟩ := int_no h2
    rw [sameR_no (fun e => h2 (by rw [e]))]
    clear h1 h2
    go_enter Tryd.func18, Tryd.ntmps18
    go_wp2_with fail
    go_ret
    exact ⟨rfl, (by (repeat' (first | with_reducible assumption | with_reducible exact Below.refl _ _ | with_reducible refine Below.alloc ?_ ?_ _ | with_reducible refine Below.setCell ?_ ?_ _ | with_reducible refine Below.drew ?_ | omega | (simp; done) | (simp; omega))))⟩
  obtain ⟨n1, m1, l1⟩ := int_yes h2
  by_cases h3 : a.has = b.has
  rotate_left
  · obtain ⟨n2, m2, l2⟩ := bool_no h3
    rw [sameR_no (fun e => h3 (by rw [e]))]
    clear h1 h2 h3
    go_enter Tryd.func18, Tryd.ntmps18
    go_wp2_with fail
    go_ret
    exact ⟨rfl, (by (repeat' (first | with_reducible assumption | with_reducible exact Below.refl _ _ | with_reducible refine Below.alloc ?_ ?_ _ | with_reducible refine Below.setCell ?_ ?_ _ | with_reducible refine Below.drew ?_ | omega | (simp; done) | (simp; omega))))⟩
  obtain ⟨n2, m2, l2⟩ := bool_yes h3
  by_cases h4 : a.val = b.val
  rotate_left
  · have n3 := bytes_beq_no h4
    have m3 : (a.val.toList != b.val.toList) = true := by rw [bne, n3]; rfl
    rw [sameR_no (fun e => h4 (by rw [e]))]
    clear h1 h2 h3 h4
    go_enter Tryd.func18, Tryd.ntmps18
    go_wp2_with fail
    go_ret
    exact ⟨rfl, (by (repeat' (first | with_reducible assumption | with_reducible exact Below.refl _ _ | with_reducible refine Below.alloc ?_ ?_ _ | with_reducible refine Below.setCell ?_ ?_ _ | with_reducible refine Below.drew ?_ | omega | (simp; done) | (simp; omega))))⟩
  have n3 := bytes_beq_yes h4
  rw [sameR_ps h1 h2 h3 h4]
  clear h1 h2 h3 h4
  go_enter Tryd.func18, Tryd.ntmps18
  go_wp2_with fail
  refine (cc _ (ka _ (by (repeat' (first | with_reducible assumption | with_reducible exact Below.refl _ _ | with_reducible refine Below.alloc ?_ ?_ _ | with_reducible refine Below.setCell ?_ ?_ _ | with_reducible refine Below.drew ?_ | omega | (simp; done) | (simp; omega))))) (kb _ (by (repeat' (first | with_reducible assumption | with_reducible exact Below.refl _ _ | with_reducible refine Below.alloc ?_ ?_ _ | with_reducible refine Below.setCell ?_ ?_ _ | with_reducible refine Below.drew ?_ | omega | (simp; done) | (simp; omega)))))).mono ?_
  rintro e w1 ⟨rfl, b1⟩
  have hb1 : Below w.heap.size w w1 := (show Below w.heap.size w _ from (by (repeat' (first | with_reducible assumption | with_reducible exact Below.refl _ _ | with_reducible refine Below.alloc ?_ ?_ _ | with_reducible refine Below.setCell ?_ ?_ _ | with_reducible refine Below.drew ?_ | omega | (simp; done) | (simp; omega))))).trans (b1.mono (by simp; omega))
  clear b1
  go_wp2_with fail
  go_ret
  exact ⟨rfl, hb1⟩
end Go.Proofs.YticikmkehobblaaDoor.Od

