/-
  Same: the library's Equal at pairs, Same of replies, the program's and the document's. Condition: at most 10^9 pairs.
  PutReply, the program's: a reply's text. Conditions: its texts at most 2^20 bytes; its numbers such as a program can hold; at most 2,000 pairs.
  pairs, the program's: texts, two by two. Condition: at most 5,000 texts.
-/
import Derived.Test.YtkpakiiijphjeaaGreatDoorPOdPCA
import Derived.Test.YtkpakiiijphjeaaGreatDoorPDsSMA
namespace Go.Proofs.YtkpakiiijphjeaaGreatDoor.Od
open Go.RowKit Bnd
open Ds (int_yes int_no)
attribute [local go_sem ↓] Go.wp_at_zero Go.wp_at_succ
set_option maxHeartbeats 2000000 in
set_option maxRecDepth 100000 in
theorem equalP_any (a b : Value) (xs ys : List Pr) (w : World) (ha : SP w w.heap.size a xs) (hb : SP w w.heap.size b ys) (hx : xs.length ≤ 1000000000) (hy : ys.length ≤ 1000000000) :
    Calls Tryz.prog 71 #[a, b] w fun e w' => e = .returned (.bool (decide (xs = ys))) ∧ Below w.heap.size w w' := by
  obtain ⟨A, c, rfl⟩ := ha.form
  obtain ⟨D, d, rfl⟩ := hb.form
  by_cases hl : xs.length = ys.length
  · obtain ⟨n, hn⟩ : ∃ n, n = xs.length := ⟨_, rfl⟩
    have hny : n = ys.length := by omega
    have HX := Lib.hid hn
    have HY := Lib.hid hny
    have hn1 : n ≤ 1000000000 := by omega
    rw [← hn] at ha ⊢
    rw [← hny] at hb ⊢
    clear hl hn hny hx hy
    go_enter Tryz.func71, Tryz.ntmps71
    go_wp2_with fail
    go_loopw [13] (fun vi wr => ∃ (k : Nat), k ≤ n ∧ vi = .int .i64 (k : Int) ∧ Hid (xs.take k = ys.take k) ∧ Below w.heap.size w wr) (fun vi _ => n - (intOf vi).toNat)
    case atStart => exact ⟨0, by omega, rfl, rfl, Below.refl _ w⟩
    case round =>
      obtain ⟨k, hk, rfl, heq, hbw⟩ := hrel
      by_cases hlt : k < n
      · have hkx : k < xs.length := by rw [← HX.out]; exact hlt
        have hky : k < ys.length := by rw [← HY.out]; exact hlt
        obtain ⟨b1, o1, rfl, hadb, hc1, hc2⟩ := (ha.below hbw).at_ hkx
        obtain ⟨b2, o2, rfl, hbdb, hd1, hd2⟩ := (hb.below hbw).at_ hky
        obtain ⟨⟨x1, x2⟩, hx⟩ : ∃ x, xs[k] = x := ⟨_, rfl⟩
        obtain ⟨⟨y1, y2⟩, hy⟩ : ∃ y, ys[k] = y := ⟨_, rfl⟩
        rw [hx] at hc1 hc2
        rw [hy] at hd1 hd2
        have hk0 : (0 : Int) ≤ (k : Int) := by omega
        have hk1 : (k : Int) < (n : Int) := by omega
        have EX := Lib.hid hx
        have EY := Lib.hid hy
        clear hx hy
        by_cases hxy : ((x1, x2) : Pr) = (y1, y2)
        · have HXY := Lib.hid hxy
          injection hxy with q1 q2
          subst q1 q2
          go_wp2_with fail
          go_quiet (fail)
          go_wp2_with fail
          go_roundw
          case rel =>
            refine ⟨k + 1, by omega, by go_num, ?_, below_drewN hbw _⟩
            show xs.take (k + 1) = ys.take (k + 1)
            rw [List.take_succ_eq_append_getElem hkx, List.take_succ_eq_append_getElem hky, heq.out, EX.out, EY.out]
          case measure => simp [intOf]; omega
        · have hor : ((x1.toList == y1.toList) = false) ∨ (x1 = y1 ∧ (x2.toList == y2.toList) = false) := by
            by_cases q : x1 = y1
            · refine .inr ⟨q, ?_⟩
              rw [beq_eq_false_iff_ne]
              intro h
              exact hxy (by rw [q, (ba_iff x2 y2).1 h])
            · exact .inl (by rw [beq_eq_false_iff_ne]; exact fun h => q ((ba_iff x1 y1).1 h))
          have hres : decide (xs = ys) = false := by
            simp
            rintro rfl
            exact hxy (by rw [← EX.out, EY.out])
          have HR := Lib.hid hres
          clear hxy hres
          rcases hor with q1 | ⟨rfl, q2⟩
          all_goals
            go_wp2_with fail
            go_quiet (fail)
            go_wp2_with fail
            go_ret
            exact ⟨by rw [HR.out]; rfl, below_drewN hbw _⟩
      · obtain rfl : k = n := by omega
        have hres : decide (xs = ys) = true := by
          have h := heq.out
          have e1 := HX.out
          have e2 := HY.out
          rw [List.take_of_length_le (by omega), List.take_of_length_le (by omega)] at h
          simpa using h
        have HR := Lib.hid hres
        clear hres heq
        go_wp2_with fail
        go_ret
        exact ⟨by rw [HR.out]; rfl, hbw⟩
  · have hres : decide (xs = ys) = false := by
      simp
      rintro rfl
      exact hl rfl
    have HR := Lib.hid hres
    have hq : ((xs.length : Int) != (ys.length : Int)) = true := by
      have : (xs.length : Int) ≠ (ys.length : Int) := by omega
      simpa using this
    have hq2 : (xs.length != ys.length) = true := by simpa using hl
    clear hres hl
    go_enter Tryz.func71, Tryz.ntmps71
    go_wp2_with fail
    go_ret
    exact ⟨by rw [HR.out]; rfl, Below.refl _ w⟩
set_option maxHeartbeats 2000000 in
set_option maxRecDepth 100000 in
theorem pairs_any (a b : Value) (xs ys : List Pr) (w : World) (ha : SP w w.heap.size a xs) (hb : SP w w.heap.size b ys) (hx : xs.length ≤ 1000000000) (hy : ys.length ≤ 1000000000) :
    Calls Tryz.prog 69 #[a, b] w fun e w' => e = .returned (.bool (decide (xs = ys))) ∧ Below w.heap.size w w' := by
  obtain ⟨A, c, rfl⟩ := ha.form
  obtain ⟨D, d, rfl⟩ := hb.form
  by_cases hl : xs.length = ys.length
  · obtain ⟨n, hn⟩ : ∃ n, n = xs.length := ⟨_, rfl⟩
    have hny : n = ys.length := by omega
    have HX := Lib.hid hn
    have HY := Lib.hid hny
    have hn1 : n ≤ 1000000000 := by omega
    rw [← hn] at ha ⊢
    rw [← hny] at hb ⊢
    clear hl hn hny hx hy
    go_enter Tryz.func69, Tryz.ntmps69
    go_wp2_with fail
    go_loopw [5] (fun vi wr => ∃ (k : Nat), k ≤ n ∧ vi = .int .i64 (k : Int) ∧ Hid (xs.take k = ys.take k) ∧ Below w.heap.size w wr) (fun vi _ => n - (intOf vi).toNat)
    case atStart => exact ⟨0, by omega, rfl, rfl, Below.refl _ w⟩
    case round =>
      obtain ⟨k, hk, rfl, heq, hbw⟩ := hrel
      by_cases hlt : k < n
      · have hkx : k < xs.length := by rw [← HX.out]; exact hlt
        have hky : k < ys.length := by rw [← HY.out]; exact hlt
        obtain ⟨b1, o1, rfl, hadb, hc1, hc2⟩ := (ha.below hbw).at_ hkx
        obtain ⟨b2, o2, rfl, hbdb, hd1, hd2⟩ := (hb.below hbw).at_ hky
        obtain ⟨⟨x1, x2⟩, hx⟩ : ∃ x, xs[k] = x := ⟨_, rfl⟩
        obtain ⟨⟨y1, y2⟩, hy⟩ : ∃ y, ys[k] = y := ⟨_, rfl⟩
        rw [hx] at hc1 hc2
        rw [hy] at hd1 hd2
        have hk0 : (0 : Int) ≤ (k : Int) := by omega
        have hk1 : (k : Int) < (n : Int) := by omega
        have EX := Lib.hid hx
        have EY := Lib.hid hy
        clear hx hy
        by_cases hxy : ((x1, x2) : Pr) = (y1, y2)
        · have HXY := Lib.hid hxy
          injection hxy with q1 q2
          subst q1 q2
          go_wp2_with fail
          go_quiet (fail)
          go_wp2_with fail
          go_roundw
          case rel =>
            refine ⟨k + 1, by omega, by go_num, ?_, below_drewN hbw _⟩
            show xs.take (k + 1) = ys.take (k + 1)
            rw [List.take_succ_eq_append_getElem hkx, List.take_succ_eq_append_getElem hky, heq.out, EX.out, EY.out]
          case measure => simp [intOf]; omega
        · have hor : ((x1.toList == y1.toList) = false) ∨ (x1 = y1 ∧ (x2.toList == y2.toList) = false) := by
            by_cases q : x1 = y1
            · refine .inr ⟨q, ?_⟩
              rw [beq_eq_false_iff_ne]
              intro h
              exact hxy (by rw [q, (ba_iff x2 y2).1 h])
            · exact .inl (by rw [beq_eq_false_iff_ne]; exact fun h => q ((ba_iff x1 y1).1 h))
          have hres : decide (xs = ys) = false := by
            simp
            rintro rfl
            exact hxy (by rw [← EX.out, EY.out])
          have HR := Lib.hid hres
          clear hxy hres
          rcases hor with q1 | ⟨rfl, q2⟩
          all_goals
            go_wp2_with fail
            go_quiet (fail)
            go_wp2_with fail
            go_ret
            exact ⟨by rw [HR.out]; rfl, below_drewN hbw _⟩
      · obtain rfl : k = n := by omega
        have hres : decide (xs = ys) = true := by
          have h := heq.out
          have e1 := HX.out
          have e2 := HY.out
          rw [List.take_of_length_le (by omega), List.take_of_length_le (by omega)] at h
          simpa using h
        have HR := Lib.hid hres
        clear hres heq
        go_wp2_with fail
        go_ret
        exact ⟨by rw [HR.out]; rfl, hbw⟩
  · have hres : decide (xs = ys) = false := by
      simp
      rintro rfl
      exact hl rfl
    have HR := Lib.hid hres
    have hq : ((xs.length : Int) != (ys.length : Int)) = true := by
      have : (xs.length : Int) ≠ (ys.length : Int) := by omega
      simpa using this
    have hq2 : (xs.length != ys.length) = true := by simpa using hl
    clear hres hl
    go_enter Tryz.func69, Tryz.ntmps69
    go_wp2_with fail
    go_ret
    exact ⟨by rw [HR.out]; rfl, Below.refl _ w⟩
theorem sameR_no {a b : Rep} (h : ¬ a = b) : sameR a b = false := by
  cases hs : sameR a b with
  | false => rfl
  | true => exact absurd ((sameR_iff a b).1 hs) h
theorem sameR_ps {a b : Rep} (h1 : a.code = b.code) (h2 : a.err = b.err) (h3 : a.has = b.has) (h4 : a.val = b.val) : sameR a b = decide (a.ps = b.ps) := by
  unfold sameR; simp [h1, h2, h3, h4]
theorem bool_no {x y : Bool} (h : ¬ x = y) : (x == y) = false ∧ (x != y) = true ∧ (x = y) = False := ⟨by simpa using h, by simpa using h, eq_false h⟩
theorem bool_yes {x y : Bool} (h : x = y) : (x == y) = true ∧ (x != y) = false ∧ (x = y) = True := by subst h; simp
set_option maxHeartbeats 4000000 in
theorem sameR_any (a b : Rep) (sa sb : Value) (w : World) (ha : SP w w.heap.size sa a.ps) (hb : SP w w.heap.size sb b.ps) (hx : a.ps.length ≤ 1000000000) (hy : b.ps.length ≤ 1000000000) :
    Calls Tryz.prog 29 #[rv a sa, rv b sb] w fun e w' => e = .returned (.bool (sameR a b)) ∧ Below w.heap.size w w' := by
  obtain ⟨A, c, rfl⟩ := ha.form
  obtain ⟨D, d, rfl⟩ := hb.form
  have cc := fun w ha hb => equalP_any (.slice A a.ps.length c) (.slice D b.ps.length d) a.ps b.ps w ha hb hx hy
  have ka : ∀ w1, Below w.heap.size w w1 → SP w1 w1.heap.size (.slice A a.ps.length c) a.ps := fun w1 h => (ha.below h).more h.size
  have kb : ∀ w1, Below w.heap.size w w1 → SP w1 w1.heap.size (.slice D b.ps.length d) b.ps := fun w1 h => (hb.below h).more h.size
  by_cases h1 : a.code = b.code
  rotate_left
  · obtain ⟨n0, m0, l0⟩ := int_no h1
    rw [sameR_no (fun e => h1 (by rw [e]))]
    clear h1
    go_enter Tryz.func29, Tryz.ntmps29
    go_wp2_with fail
    go_ret
    exact ⟨rfl, (by (repeat' (first | with_reducible assumption | with_reducible exact Below.refl _ _ | with_reducible refine Below.alloc ?_ ?_ _ | with_reducible refine Below.setCell ?_ ?_ _ | with_reducible refine Below.drew ?_ | omega | (simp; done) | (simp; omega))))⟩
  obtain ⟨n0, m0, l0⟩ := int_yes h1
  by_cases h2 : a.err = b.err
  rotate_left
  · obtain ⟨n1, m1, l1⟩ := int_no h2
    rw [sameR_no (fun e => h2 (by rw [e]))]
    clear h1 h2
    go_enter Tryz.func29, Tryz.ntmps29
    go_wp2_with fail
    go_ret
    exact ⟨rfl, (by (repeat' (first | with_reducible assumption | with_reducible exact Below.refl _ _ | with_reducible refine Below.alloc ?_ ?_ _ | with_reducible refine Below.setCell ?_ ?_ _ | with_reducible refine Below.drew ?_ | omega | (simp; done) | (simp; omega))))⟩
  obtain ⟨n1, m1, l1⟩ := int_yes h2
  by_cases h3 : a.has = b.has
  rotate_left
  · obtain ⟨n2, m2, l2⟩ := bool_no h3
    rw [sameR_no (fun e => h3 (by rw [e]))]
    clear h1 h2 h3
    go_enter Tryz.func29, Tryz.ntmps29
    go_wp2_with fail
    go_ret
    exact ⟨rfl, (by (repeat' (first | with_reducible assumption | with_reducible exact Below.refl _ _ | with_reducible refine Below.alloc ?_ ?_ _ | with_reducible refine Below.setCell ?_ ?_ _ | with_reducible refine Below.drew ?_ | omega | (simp; done) | (simp; omega))))⟩
  obtain ⟨n2, m2, l2⟩ := bool_yes h3
  by_cases h4 : a.val = b.val
  rotate_left
  · have n3 := bytes_beq_no h4
    have m3 : (a.val.toList != b.val.toList) = true := by rw [bne, n3]; rfl
    rw [sameR_no (fun e => h4 (by rw [e]))]
    clear h1 h2 h3 h4
    go_enter Tryz.func29, Tryz.ntmps29
    go_wp2_with fail
    go_ret
    exact ⟨rfl, (by (repeat' (first | with_reducible assumption | with_reducible exact Below.refl _ _ | with_reducible refine Below.alloc ?_ ?_ _ | with_reducible refine Below.setCell ?_ ?_ _ | with_reducible refine Below.drew ?_ | omega | (simp; done) | (simp; omega))))⟩
  have n3 := bytes_beq_yes h4
  rw [sameR_ps h1 h2 h3 h4]
  clear h1 h2 h3 h4
  go_enter Tryz.func29, Tryz.ntmps29
  go_wp2_with fail
  refine (cc _ (ka _ (by (repeat' (first | with_reducible assumption | with_reducible exact Below.refl _ _ | with_reducible refine Below.alloc ?_ ?_ _ | with_reducible refine Below.setCell ?_ ?_ _ | with_reducible refine Below.drew ?_ | omega | (simp; done) | (simp; omega))))) (kb _ (by (repeat' (first | with_reducible assumption | with_reducible exact Below.refl _ _ | with_reducible refine Below.alloc ?_ ?_ _ | with_reducible refine Below.setCell ?_ ?_ _ | with_reducible refine Below.drew ?_ | omega | (simp; done) | (simp; omega)))))).mono ?_
  rintro e w1 ⟨rfl, b1⟩
  have hb1 : Below w.heap.size w w1 := (show Below w.heap.size w _ from (by (repeat' (first | with_reducible assumption | with_reducible exact Below.refl _ _ | with_reducible refine Below.alloc ?_ ?_ _ | with_reducible refine Below.setCell ?_ ?_ _ | with_reducible refine Below.drew ?_ | omega | (simp; done) | (simp; omega))))).trans (b1.mono (by simp; omega))
  clear b1
  go_wp2_with fail
  go_ret
  exact ⟨rfl, hb1⟩
set_option maxHeartbeats 4000000 in
theorem rsameR_any (a b : Rep) (sa sb : Value) (w : World) (ha : SP w w.heap.size sa a.ps) (hb : SP w w.heap.size sb b.ps) (hx : a.ps.length ≤ 1000000000) (hy : b.ps.length ≤ 1000000000) :
    Calls Tryz.prog 27 #[rv a sa, rv b sb] w fun e w' => e = .returned (.bool (sameR a b)) ∧ Below w.heap.size w w' := by
  obtain ⟨A, c, rfl⟩ := ha.form
  obtain ⟨D, d, rfl⟩ := hb.form
  have cc := fun w ha hb => pairs_any (.slice A a.ps.length c) (.slice D b.ps.length d) a.ps b.ps w ha hb hx hy
  have ka : ∀ w1, Below w.heap.size w w1 → SP w1 w1.heap.size (.slice A a.ps.length c) a.ps := fun w1 h => (ha.below h).more h.size
  have kb : ∀ w1, Below w.heap.size w w1 → SP w1 w1.heap.size (.slice D b.ps.length d) b.ps := fun w1 h => (hb.below h).more h.size
  by_cases h1 : a.code = b.code
  rotate_left
  · obtain ⟨n0, m0, l0⟩ := int_no h1
    rw [sameR_no (fun e => h1 (by rw [e]))]
    clear h1
    go_enter Tryz.func27, Tryz.ntmps27
    go_wp2_with fail
    go_ret
    exact ⟨rfl, (by (repeat' (first | with_reducible assumption | with_reducible exact Below.refl _ _ | with_reducible refine Below.alloc ?_ ?_ _ | with_reducible refine Below.setCell ?_ ?_ _ | with_reducible refine Below.drew ?_ | omega | (simp; done) | (simp; omega))))⟩
  obtain ⟨n0, m0, l0⟩ := int_yes h1
  by_cases h2 : a.err = b.err
  rotate_left
  · obtain ⟨n1, m1, l1⟩ := int_no h2
    rw [sameR_no (fun e => h2 (by rw [e]))]
    clear h1 h2
    go_enter Tryz.func27, Tryz.ntmps27
    go_wp2_with fail
    go_ret
    exact ⟨rfl, (by (repeat' (first | with_reducible assumption | with_reducible exact Below.refl _ _ | with_reducible refine Below.alloc ?_ ?_ _ | with_reducible refine Below.setCell ?_ ?_ _ | with_reducible refine Below.drew ?_ | omega | (simp; done) | (simp; omega))))⟩
  obtain ⟨n1, m1, l1⟩ := int_yes h2
  by_cases h3 : a.has = b.has
  rotate_left
  · obtain ⟨n2, m2, l2⟩ := bool_no h3
    rw [sameR_no (fun e => h3 (by rw [e]))]
    clear h1 h2 h3
    go_enter Tryz.func27, Tryz.ntmps27
    go_wp2_with fail
    go_ret
    exact ⟨rfl, (by (repeat' (first | with_reducible assumption | with_reducible exact Below.refl _ _ | with_reducible refine Below.alloc ?_ ?_ _ | with_reducible refine Below.setCell ?_ ?_ _ | with_reducible refine Below.drew ?_ | omega | (simp; done) | (simp; omega))))⟩
  obtain ⟨n2, m2, l2⟩ := bool_yes h3
  by_cases h4 : a.val = b.val
  rotate_left
  · have n3 := bytes_beq_no h4
    have m3 : (a.val.toList != b.val.toList) = true := by rw [bne, n3]; rfl
    rw [sameR_no (fun e => h4 (by rw [e]))]
    clear h1 h2 h3 h4
    go_enter Tryz.func27, Tryz.ntmps27
    go_wp2_with fail
    go_ret
    exact ⟨rfl, (by (repeat' (first | with_reducible assumption | with_reducible exact Below.refl _ _ | with_reducible refine Below.alloc ?_ ?_ _ | with_reducible refine Below.setCell ?_ ?_ _ | with_reducible refine Below.drew ?_ | omega | (simp; done) | (simp; omega))))⟩
  have n3 := bytes_beq_yes h4
  rw [sameR_ps h1 h2 h3 h4]
  clear h1 h2 h3 h4
  go_enter Tryz.func27, Tryz.ntmps27
  go_wp2_with fail
  refine (cc _ (ka _ (by (repeat' (first | with_reducible assumption | with_reducible exact Below.refl _ _ | with_reducible refine Below.alloc ?_ ?_ _ | with_reducible refine Below.setCell ?_ ?_ _ | with_reducible refine Below.drew ?_ | omega | (simp; done) | (simp; omega))))) (kb _ (by (repeat' (first | with_reducible assumption | with_reducible exact Below.refl _ _ | with_reducible refine Below.alloc ?_ ?_ _ | with_reducible refine Below.setCell ?_ ?_ _ | with_reducible refine Below.drew ?_ | omega | (simp; done) | (simp; omega)))))).mono ?_
  rintro e w1 ⟨rfl, b1⟩
  have hb1 : Below w.heap.size w w1 := (show Below w.heap.size w _ from (by (repeat' (first | with_reducible assumption | with_reducible exact Below.refl _ _ | with_reducible refine Below.alloc ?_ ?_ _ | with_reducible refine Below.setCell ?_ ?_ _ | with_reducible refine Below.drew ?_ | omega | (simp; done) | (simp; omega))))).trans (b1.mono (by simp; omega))
  clear b1
  go_wp2_with fail
  go_ret
  exact ⟨rfl, hb1⟩
end Go.Proofs.YtkpakiiijphjeaaGreatDoor.Od

namespace Go.Proofs.YtkpakiiijphjeaaGreatDoor.Od
open Go.RowKit Bnd
open Go.Proofs.YtkpakiiijphjeaaGreatDoor.M (tieT numT inR)
open Ds (nb nb_size own_new)
def headR (r : Rep) : List ByteArray := [nb r.code, nb r.err, tb r.has, r.val]
def strR (r : Rep) : List ByteArray := headR r ++ pairsS r.ps
theorem texts_pairs : ∀ l : List Pr, texts (pairsS l) = pairsT l
  | [] => rfl
  | p :: l => by
    show p.1.data.toList :: p.2.data.toList :: texts (pairsS l) = _
    rw [texts_pairs l]; rfl
theorem texts_strR (r : Rep) : texts (strR r) = strandsR r := by
  unfold strR strandsR
  rw [show texts (headR r ++ pairsS r.ps) = texts (headR r) ++ texts (pairsS r.ps) from List.map_append .., texts_pairs]
  simp [headR, texts]
structure FitR (r : Rep) : Prop where
  code : inR r.code
  err : inR r.err
  val : r.val.size ≤ 1048576
  n : r.ps.length ≤ 2000
  ps : ∀ p ∈ r.ps, p.1.size ≤ 1048576 ∧ p.2.size ≤ 1048576
theorem few_strR {r : Rep} (h : FitR r) : Few (strR r) := by
  refine ⟨by unfold strR; rw [List.length_append, pairsS_length]; have := h.n; simp [headR]; omega, fun s hs => ?_⟩
  have a1 := nb_size h.code
  have a2 := nb_size h.err
  have a3 := tb_size r.has
  have a4 := h.val
  unfold strR at hs
  rcases List.mem_append.1 hs with hs | hs
  · simp only [headR, List.mem_cons, List.not_mem_nil, or_false] at hs
    rcases hs with rfl | rfl | rfl | rfl <;> omega
  · unfold pairsS at hs
    obtain ⟨l, hl, hs⟩ := List.mem_flatten.1 hs
    obtain ⟨p, hp, rfl⟩ := List.mem_map.1 hl
    have := h.ps p hp
    simp only [List.mem_cons, List.not_mem_nil, or_false] at hs
    rcases hs with rfl | rfl <;> omega
theorem pairsS_take {P : List Pr} {k : Nat} (h : k < P.length) : pairsS (P.take (k + 1)) = pairsS (P.take k) ++ [P[k].1, P[k].2] := by
  rw [List.take_succ_eq_append_getElem h, pairsS_snoc]
theorem wpList_append_two {w : World} {ops : Array Oper} {rest : List Oper} {o : Oper} {a : Act} {Q : Exit → Act → World → Prop} (hgd : o.guard = none) (s x : Operand)
    (ho : o.op = .call { callee := .builtin .append, args := #[s, x], argTypes := #[70, 70] }) (base : Nat) (v : Value) (xs : List ByteArray) (hs : a.eval s = v)
    (hown : w.ownsRow base 9 1 v xs.length (xs.map Value.string)) (hbase : base ≤ w.heap.size) (p q : ByteArray) (b : Nat) (hx : a.eval x = .slice (some ⟨b, 0, none⟩) 2 2) (c0 : w.cell? ⟨b, 0, none⟩ = some (.string p)) (c1 : w.cell? ⟨b, 1, none⟩ = some (.string q)) (hlen : xs.length ≤ 1000000)
    (h : ∀ v' w', w'.ownsRow base 9 1 v' (xs ++ [p, q]).length ((xs ++ [p, q]).map Value.string) → Below base w w' → wpList Tryz.prog ops Q rest (a.put o.dst v') w') : wpList Tryz.prog ops Q (o :: rest) a w := by
  obtain ⟨i0, hi, hz0, hz1, hz2⟩ := info_parts infoStr
  refine wpList_append_own w hgd s x 70 ho base 9 i0 (.string ⟨#[]⟩) 1 16 Tryz.underlying70 hi hz0 hz1 hz2 rfl (by decide) v xs.length (xs.map Value.string) hs hown ⟨b, 0, none⟩ 2 2 [.string p, .string q] hx rfl ?_ ?_ (by unfold maxLen; omega) (by omega) hbase ?_
  · intro j u hj
    match j, hj with
    | 0, hj => simp at hj; subst hj; exact c0
    | 1, hj => simp at hj; subst hj; exact c1
    | j + 2, hj => simp at hj
  · intro u hu; simp at hu; rcases hu with rfl | rfl <;> rfl
  · intro v' w' h2 h3 _
    exact h v' w' (by simpa using h2) ((Below.refl _ w).grown h3 hbase (fun k hk => (hown.lt k hk).1))
set_option maxHeartbeats 8000000 in
set_option maxRecDepth 100000 in
theorem putR_any (r : Rep) (s : Value) (w : World) (hs : SP w w.heap.size s r.ps) (h : FitR r) : Calls Tryz.prog 36 #[rv r s] w fun e w' => e = .returned (str (putR r)) ∧ Below w.heap.size w w' := by
  obtain ⟨A, c, rfl⟩ := hs.form
  have hfew := few_strR h
  have HT := Lib.hid (texts_strR r)
  have c1 : ∀ n w, inR n → Calls Tryz.prog 33 #[.int .i64 n] w fun e w' => e = .returned (.string (nb n)) ∧ Below w.heap.size w w' := fun n w h => (num_any n w h)
  obtain ⟨ps, hps⟩ : ∃ ps, r.ps = ps := ⟨_, rfl⟩
  obtain ⟨W1, hW1⟩ : ∃ W1, w.alloc (.cells #[.int .i64 r.code, .int .i64 r.err, .bool r.has, .string r.val, .slice A ps.length c] 30) = W1 := ⟨_, rfl⟩
  rw [hps] at hs ⊢
  have B0 : BoxR w.heap.size r (.slice A ps.length c) W1 := hW1 ▸ BoxR.new w r (.slice A ps.length c)
  have hz1 : W1.heap.size = w.heap.size + 1 := by rw [← hW1]; simp
  have hbw1 : Below w.heap.size w W1 := by rw [← hW1]; exact (Below.refl _ w).alloc (Nat.le_refl _) _
  have hs1 : SP W1 w.heap.size (.slice A ps.length c) ps := hs.below hbw1
  have call : ∀ n wx, inR n → Below W1.heap.size W1 wx → Calls Tryz.prog 33 #[.int .i64 n] wx fun e w' => e = .returned (.string (nb n)) ∧ Below W1.heap.size W1 w' := by
    intro n wx hn hx
    refine (c1 n wx hn).mono ?_
    rintro e w' ⟨rfl, b⟩
    exact ⟨rfl, hx.trans (b.mono hx.size)⟩
  have call2 : ∀ wx, Below W1.heap.size W1 wx → Calls Tryz.prog 79 #[.bool r.has] wx fun e w' => e = .returned (.string (tb r.has)) ∧ Below W1.heap.size W1 w' := by
    intro wx hx
    refine (truth_any r.has wx).mono ?_
    rintro e w' ⟨rfl, rfl⟩
    exact ⟨rfl, hx⟩
  have hI1 := h.code
  have hI2 := h.err
  have hln : ps.length ≤ 2000 := hps ▸ h.n
  have hbox : ∀ wx, Below W1.heap.size W1 wx → BoxR w.heap.size r (.slice A ps.length c) wx := fun wx hx => BoxR.kept (N := W1.heap.size) B0 (by omega) hx
  have HPS := Lib.hid hps
  have hz1' := hbw1.size
  clear hps hz1
  go_enter Tryz.func36, Tryz.ntmps36
  go_wp2
  try rw [hW1]
  refine St.wp_region_tail 11 (fun _ wx => Below W1.heap.size W1 wx) (by kernel_rfl) (by kernel_rfl) (by kernel_rfl) (by kernel_rfl) (by decide) (Below.refl _ _).drew ?_
  simp only [List.take, List.drop]
  repeat (first
    | (apply St.step_give
       · rfl
       · intro L wx hS hcl hrd
         obtain ⟨_, ⟨d0, d1, d2, d3, d4⟩, _⟩ := hbox wx hS
         go_simp
         try with_reducible rfl
       · exact fun L wx hS => hS
       simp only [Act.put, List.setIfInBounds_toArray, List.set_cons_zero, List.set_cons_succ])
    | (apply St.step_into
       · rfl
       · intro wx
         go_simp
         exact ⟨rfl, rfl⟩
       · first
         | exact fun L wx hS hcl hrd => call2 wx hS
         | exact fun L wx hS hcl hrd => call _ wx (by first | exact hI1 | exact hI2) hS
       simp only [Act.put, List.setIfInBounds_toArray, List.set_cons_zero, List.set_cons_succ]))
  refine St.step_last ?_
  intro L wx hS _
  clear hI1 hI2 call call2
  have B1 := hbox wx hS
  have hz : W1.heap.size ≤ wx.heap.size := hS.size
  have hown0 := own_new wx W1.heap.size (headR r) hz (by simp [headR])
  have HO := Lib.hid hown0
  have hS1 := hS.alloc hz (.cells #[.string (nb r.code), .string (nb r.err), .string (tb r.has), .string r.val] 9)
  clear hown0 hW1
  obtain ⟨p_0, ⟨p_1, p_2, p_3, p_4, p_5⟩, p_6⟩ := _root_.id B1
  go_wp2_with fail
  clear p_0 p_1 p_2 p_3 p_4 p_5 p_6
  go_loopw [3, 5, 21] (fun v3 _ vi wr => ∃ k, k ≤ ps.length ∧ vi = .int .i64 (k : Int) ∧ wr.ownsRow W1.heap.size 9 1 v3 (headR r ++ pairsS (ps.take k)).length ((headR r ++ pairsS (ps.take k)).map Value.string) ∧ Below W1.heap.size W1 wr) (fun _ _ vi _ => ps.length - (intOf vi).toNat)
  case atStart => exact ⟨0, by omega, rfl, by rw [show headR r ++ pairsS (ps.take 0) = headR r by simp [pairsS]]; exact HO.out, hS1⟩
  case round =>
    clear HO hS hS1 B1 hz
    obtain ⟨k, hk, rfl, hown, hbw⟩ := hrel
    have hz := hbw.size
    by_cases hlt : k < ps.length
    · obtain ⟨b, o, rfl, hb, hc1, hc2⟩ := (hs1.below (hbw.mono (by omega))).at_ hlt
      have hbz : b < wr.heap.size := by omega
      have htk := pairsS_take hlt
      obtain ⟨⟨x, y⟩, hm⟩ : ∃ m, ps[k] = m := ⟨_, rfl⟩
      rw [hm] at hc1 hc2 htk
      clear hm
      obtain ⟨xs, hxs⟩ : ∃ xs, headR r ++ pairsS (ps.take k) = xs := ⟨_, rfl⟩
      have hxl : xs.length ≤ 10000 := by rw [← hxs, List.length_append, pairsS_length, List.length_take]; simp [headR]; omega
      rw [hxs] at hown
      have HN := Lib.hid (show headR r ++ pairsS (ps.take (k + 1)) = xs ++ [x, y] by rw [htk, ← List.append_assoc, hxs])
      obtain ⟨A3, c3, rfl⟩ := own_form hown
      have HO := Lib.hid hown
      have hk0 : (0 : Int) ≤ (k : Int) := by omega
      have hk1 : (k : Int) < (ps.length : Int) := by omega
      clear htk hxs hown
      obtain ⟨W2, hW2⟩ : ∃ W2, (wr.alloc (.cells #[.string x, .string y] 53)).alloc (.cells #[.string x, .string y] 9) = W2 := ⟨_, rfl⟩
      have hz2 : W2.heap.size = wr.heap.size + 2 := by rw [← hW2]; simp
      have hb2 : Below wr.heap.size wr W2 := by rw [← hW2]; exact ((Below.refl _ wr).alloc (Nat.le_refl _) _).alloc (by simp) _
      have x0 : W2.cell? ⟨wr.heap.size + 1, 0, none⟩ = some (.string x) := by rw [← hW2]; simp
      have x1 : W2.cell? ⟨wr.heap.size + 1, 1, none⟩ = some (.string y) := by rw [← hW2]; simp
      have O2 := Lib.hid (own_below HO.out hb2)
      have H2 := Lib.hid hW2
      clear hW2 HO
      go_wp2_with (at_builtin; rw [H2.out]; refine wpList_append_two rfl _ _ rfl W1.heap.size _ xs rfl O2.out (by omega) x y (wr.heap.size + 1) rfl x0 x1 (by omega) ?_)
      intro v' w2 O3 b3
      have b4 := (hbw.trans (hb2.mono hz)).trans b3
      have H3 := Lib.hid O3
      clear O3 b3 O2 x0 x1
      go_wp2_with fail
      go_roundw
      case rel => exact ⟨k + 1, by omega, by go_num, by rw [HN.out]; simpa using H3.out, b4⟩
      case measure => simp [intOf]; omega
    · obtain rfl : k = ps.length := by omega
      rw [List.take_length] at hown
      obtain ⟨ts, hts⟩ : ∃ ts, headR r ++ pairsS ps = ts := ⟨_, rfl⟩
      have hstr : strR r = ts := by rw [← hts]; unfold strR; rw [HPS.out]
      rw [hts] at hown
      rw [hstr] at hfew HT
      obtain ⟨A3, c3, rfl⟩ := own_form hown
      have ct := tie_any _ ts wr (SL.of_own hown) hfew
      rw [HT.out] at ct
      clear hown hts hfew hstr
      go_wp2_with fail
      refine ct.mono ?_
      rintro e w1 ⟨rfl, b1⟩
      go_wp2_with fail
      go_ret
      exact ⟨rfl, hbw1.trans ((hbw.trans (b1.mono hz)).mono (by omega))⟩
end Go.Proofs.YtkpakiiijphjeaaGreatDoor.Od

namespace Go.Proofs.YtkpakiiijphjeaaGreatDoor.Od
open Go.RowKit Bnd
open Ds (run_append2)
def twosS : List ByteArray → List Pr
  | a :: b :: l => (a, b) :: twosS l
  | _ => []
theorem twosS_texts : ∀ l : List ByteArray, twosT (texts l) = twosS l
  | [] => rfl
  | [_] => rfl
  | a :: b :: l => by
    show (_, _) :: twosT (texts l) = _
    rw [twosS_texts l, ba_data, ba_data]; rfl
theorem twosS_take : ∀ (k : Nat) (l : List ByteArray) (h : k * 2 + 1 < l.length), twosS (l.take ((k + 1) * 2)) = twosS (l.take (k * 2)) ++ [(l[k * 2], l[k * 2 + 1])]
  | 0, a :: b :: l, _ => by simp [twosS]
  | k + 1, a :: b :: l, h => by
    have e1 : (k + 1 + 1) * 2 = (k + 1) * 2 + 1 + 1 := by omega
    have e2 : (k + 1) * 2 = k * 2 + 1 + 1 := by omega
    have := twosS_take k l (by simp at h; omega)
    rw [e1, List.take_succ_cons, List.take_succ_cons, twosS, this]
    simp only [e2, List.take_succ_cons, twosS, List.cons_append, List.getElem_cons_succ]
  | _, [], h => by simp at h
  | 0, [_], h => by simp at h
  | k + 1, [_], h => by simp at h
theorem twosS_all : ∀ (l : List ByteArray), twosS (l.take (l.length / 2 * 2)) = twosS l
  | [] => rfl
  | [_] => by simp [twosS]
  | a :: b :: l => by
    have e : (a :: b :: l).length / 2 * 2 = l.length / 2 * 2 + 1 + 1 := by simp only [List.length_cons]; omega
    rw [e, List.take_succ_cons, List.take_succ_cons, twosS, twosS, twosS_all l]
theorem twosS_length : ∀ (l : List ByteArray), (twosS l).length = l.length / 2
  | [] => rfl
  | [_] => by simp [twosS]
  | a :: b :: l => by
    rw [twosS, List.length_cons, twosS_length l]; simp only [List.length_cons]; omega
structure RT (N : Nat) (W : World) (xs : List Pr) (m : Pr) (L : Nat → Bool) (u : Nat → Value) (wx : World) : Prop where
  w0 : L 11 = false → wx = W.drew
  w11 : L 11 = true → L 12 = false → wx = W.drew.alloc (.cells #[.string m.1, .string m.2] 53)
  wa : L 12 = true → Below N W wx ∧ OwnP wx N (u 12) (xs ++ [m])
set_option maxHeartbeats 8000000 in
set_option maxRecDepth 100000 in
theorem pairs_own (v : Value) (ss : List ByteArray) (w : World) (hv : SL w w.heap.size v ss) (hl : ss.length ≤ 5000) :
    Calls Tryz.prog 90 #[v] w fun e w' => ∃ s, e = .returned s ∧ OwnP w' w.heap.size s (twosS ss) ∧ Below w.heap.size w w' := by
  obtain ⟨A, c, rfl⟩ := hv.form
  obtain ⟨n, hn⟩ : ∃ n, n = ss.length := ⟨_, rfl⟩
  have HX := Lib.hid hn
  rw [← hn] at hv hl ⊢
  clear hn
  obtain ⟨q, hq⟩ : ∃ q : Nat, q = n / 2 := ⟨_, rfl⟩
  have e2 : ((n : Int) / 2) = (q : Int) := by omega
  have HQ := Lib.hid hq
  have hqn : q ≤ 5000 := by omega
  clear hq
  go_enter Tryz.func90, Tryz.ntmps90
  go_wp2_with fail
  clear e2
  go_loopw [3, 4, 5, 9] (fun v3 _ _ vi wr => ∃ k : Nat, k ≤ q ∧ vi = .int .i64 (k : Int) ∧ OwnP wr w.heap.size v3 (twosS (ss.take (k * 2))) ∧ Below w.heap.size w wr) (fun _ _ _ vi _ => q - (intOf vi).toNat)
  case atStart => exact ⟨0, Nat.zero_le _, rfl, by rw [show twosS (ss.take (0 * 2)) = [] from rfl]; exact own_nil _ _, Below.refl _ w⟩
  case round =>
    obtain ⟨k, hk, rfl, hown, hbw⟩ := hrel
    have hz := hbw.size
    by_cases hlt : k < q
    · have hk2 : k * 2 + 1 < ss.length := by have := HQ.out; have := HX.out; omega
      have htk := twosS_take k ss hk2
      obtain ⟨m, hm⟩ : ∃ m : Nat, m = k * 2 := ⟨_, rfl⟩
      obtain ⟨m1, hm1⟩ : ∃ m1 : Nat, m1 = m + 1 := ⟨_, rfl⟩
      have hmx : m < ss.length := by omega
      have hmy : m1 < ss.length := by omega
      obtain ⟨ad, rfl, hadb, hc1⟩ := (hv.below hbw).at_ hmx
      obtain ⟨ad', had', _, hc2⟩ := (hv.below hbw).at_ hmy
      obtain rfl : ad = ad' := Option.some.inj had'
      obtain ⟨x, hx⟩ : ∃ x, ss[m] = x := ⟨_, rfl⟩
      obtain ⟨y, hy⟩ : ∃ y, ss[m1] = y := ⟨_, rfl⟩
      rw [hx] at hc1
      rw [hy] at hc2
      have htk2 : twosS (ss.take ((k + 1) * 2)) = twosS (ss.take (k * 2)) ++ [(x, y)] := by
        rw [htk, ← hx, ← hy]
        subst hm hm1
        rfl
      obtain ⟨xs, hxs⟩ : ∃ xs, twosS (ss.take (k * 2)) = xs := ⟨_, rfl⟩
      have hlen : xs.length ≤ 5000 := by rw [← hxs, twosS_length, List.length_take]; have := HX.out; omega
      rw [hxs] at hown htk2
      have HN := Lib.hid htk2
      have HO := Lib.hid hown
      obtain ⟨A7, c7, rfl⟩ := (SP.of_own hown).form
      have hmn : m < n := by have := HX.out; omega
      have hmn1 : m1 < n := by have := HX.out; omega
      have hab : ad.block < wr.heap.size := by omega
      have hkq : (k : Int) < (q : Int) := by omega
      have j0 : IntKind.i64.wrap ((k : Int) * 2) = (m : Int) := by rw [IntKind.wrap_i64] <;> omega
      have j1 : IntKind.i64.wrap ((m : Int) + 1) = (m1 : Int) := by rw [IntKind.wrap_i64] <;> omega
      have j2 : ((m : Int) < (n : Int)) = True := eq_true (by omega)
      have j3 : ((m1 : Int) < (n : Int)) = True := eq_true (by omega)
      have j4 : (0 ≤ (m : Int)) = True := eq_true (by omega)
      have j5 : (0 ≤ (m1 : Int)) = True := eq_true (by omega)
      have HM := Lib.hid hm
      have HM1 := Lib.hid hm1
      clear htk htk2 hxs hx hy had' hown hm hm1 hk2 hmx hmy
      go_wp2_with fail
      refine St.wp_region_mixed (RT w.heap.size wr xs (x, y)) (fun _ _ => False) (by kernel_rfl) (by kernel_rfl) (by kernel_rfl) ⟨fun _ => rfl, fun h => (by cases h), fun h => (by cases h)⟩ ?_
      have hO' := HO.out
      obtain ⟨i0, hi, hz0', hz1', hz2⟩ := info_parts infoP
      have cells : ∀ L u wx, RT w.heap.size wr xs (x, y) L u wx → L 12 = false → wx.cell? (ad.add m) = some (.string x) ∧ wx.cell? (ad.add m1) = some (.string y) := by
        intro L u wx hS h12
        cases h11 : L 11 with
        | false => rw [hS.w0 h11]; exact ⟨hc1, hc2⟩
        | true =>
          rw [hS.w11 h11 h12]
          exact ⟨(World.cell?_alloc_lt wr.drew _ (ad.add m) (show _ < wr.heap.size by unfold Addr.add; split <;> exact hab)).trans hc1, (World.cell?_alloc_lt wr.drew _ (ad.add m1) (show _ < wr.heap.size by unfold Addr.add; split <;> exact hab)).trans hc2⟩
      iterate 11
        (apply St.mix_give
         · rfl
         · intro L u' wx hS hcl hrd hag
           have h12 := St.not_yet hcl hrd 40 12 (by kernel_rfl)
           obtain ⟨f1, f2⟩ := cells _ _ _ hS h12
           go_simp
           try with_reducible rfl
         · exact fun L u' wx hS => ⟨hS.w0, hS.w11, hS.wa⟩
         simp only [Act.put, List.setIfInBounds_toArray, List.set_cons_zero, List.set_cons_succ])
      refine St.mix_free (fun z => z = .slice (some ⟨wr.heap.size, 0, none⟩) 1 1) rfl ?_ ?_
      · intro L u' wx hS hcl hrd hag
        have h12 := St.not_yet hcl hrd 40 12 (by kernel_rfl)
        obtain rfl := hS.w0 hrd.1
        refine ⟨_, _, rfl, ?_, ⟨fun h => (by simp [St.mark] at h), fun _ _ => rfl, fun h => (by rw [show St.mark L 11 12 = L 12 from rfl, h12] at h; cases h)⟩⟩
        go_simp
        try with_reducible rfl
      rintro _ rfl
      simp only [Act.put, List.setIfInBounds_toArray, List.set_cons_zero, List.set_cons_succ]
      refine St.mix_free (fun z => ∃ A c, z = .slice A (xs.length + 1) c) rfl ?_ ?_
      · intro L u' wx hS hcl hrd hag
        have h11 := St.before_ready hcl hrd 40 11 (by kernel_rfl)
        obtain rfl := hS.w11 h11 hrd.1
        obtain ⟨v', w', k1, k2, k3, _⟩ := run_append_own (P := Tryz.prog) (w := wr.drew.alloc (.cells #[.string x, .string y] 53)) w.heap.size 28 28 53 i0 (.agg #[.string E0, .string E0]) 2 32 Tryz.underlying28 hi hz0' hz1' hz2 rfl (by decide)
          (.slice A7 xs.length c7) xs.length (pcells xs) (hO'.alloc (w := wr.drew) _) ⟨wr.heap.size, 0, none⟩ 1 1 [.string x, .string y] rfl
          (fun j z hz => by
            match j with
            | 0 => simp at hz; subst hz; exact World.cell?_alloc_new wr.drew _ _ 0
            | 1 => simp at hz; subst hz; exact World.cell?_alloc_new wr.drew _ _ 1
            | j + 2 => simp at hz) (fun z hz => by simp at hz; rcases hz with rfl | rfl <;> rfl) (by unfold maxLen; omega) (by omega) (by simp; omega)
        have k2' : OwnP w' w.heap.size v' (xs ++ [(x, y)]) := by
          show w'.ownsRow _ _ _ _ _ _
          rw [List.length_append, pcells_append]
          exact k2
        have hbe : Below w.heap.size wr w' := (((Below.refl _ wr).drew).alloc hz _).trans ((Below.refl _ _).grown k3 (by simp; omega) (fun q hq => ((hO'.alloc (w := wr.drew) (.cells #[.string x, .string y] 53)).lt q hq).1))
        refine ⟨v', w', ?_, run_append2 rfl rfl rfl k1, ⟨fun h => (by rw [show St.mark L 12 11 = L 11 from rfl, h11] at h; cases h), fun _ h => (by simp [St.mark] at h), fun _ => ⟨hbe, k2'⟩⟩⟩
        obtain ⟨A', c', hv'⟩ := (SP.of_own k2').form
        rw [List.length_append] at hv'
        exact ⟨A', c', hv'⟩
      rintro y9 ⟨A9, c9, rfl⟩
      simp only [Act.put, List.setIfInBounds_toArray, List.set_cons_zero, List.set_cons_succ]
      iterate 1
        (apply St.mix_give
         · rfl
         · intro L u' wx hS hcl hrd hag
           go_simp
           try with_reducible rfl
         · exact fun L u' wx hS => ⟨hS.w0, hS.w11, hS.wa⟩
         simp only [Act.put, List.setIfInBounds_toArray, List.set_cons_zero, List.set_cons_succ])
      refine St.mix_last ?_
      intro L wx hS hall
      obtain ⟨hb8, k8⟩ := hS.wa (hall 12 (by decide))
      have O8 : OwnP wx w.heap.size (.slice A9 (xs.length + 1) c9) (xs ++ [(x, y)]) := k8
      have HO8 := Lib.hid O8
      clear hS hall k8 O8 cells hO'
      go_wp2_with fail
      go_roundw
      case rel => exact ⟨k + 1, by omega, by go_num, by rw [HN.out]; exact HO8.out, hbw.trans hb8⟩
      case measure => simp [intOf]; omega
    · obtain rfl : k = q := by omega
      have hall : twosS (ss.take (k * 2)) = twosS ss := by rw [HQ.out, HX.out]; exact twosS_all ss
      rw [hall] at hown
      have HO := Lib.hid hown
      obtain ⟨A7, c7, rfl⟩ := (SP.of_own hown).form
      clear hall hown
      go_wp2_with fail
      go_ret
      exact ⟨_, rfl, HO.out, hbw⟩
end Go.Proofs.YtkpakiiijphjeaaGreatDoor.Od
