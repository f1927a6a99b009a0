/-
  Same: slices.Equal at members, Same; the document's Members and Same. Condition: at most 2^40 members.
-/
import Derived.Test.YticikmkehobblaaGreatDoorDsFind
import Derived.Test.YticikmkehobblaaGreatDoorTieA
namespace Go.Proofs.YticikmkehobblaaGreatDoor.Ds
open Go.RowKit Bnd
attribute [local go_sem ↓] Go.wp_at_zero Go.wp_at_succ

theorem memEq_yes {x y : Mem} (h : x = y) : (x.1 == y.1) = true ∧ (x.2 == y.2) = true := by rw [h]; simp
set_option maxHeartbeats 2000000 in
set_option maxRecDepth 100000 in
theorem members_any (a b : Value) (xs ys : List Mem) (w : World) (ha : SM w w.heap.size a xs) (hb : SM w w.heap.size b ys) (hx : xs.length ≤ 1000000000) (hy : ys.length ≤ 1000000000) :
    Calls Tryz.prog 132 #[a, b] w fun e w' => e = .returned (.bool (decide (xs = ys))) ∧ Below w.heap.size w w' := by
  obtain ⟨A, c, rfl⟩ := ha.form
  obtain ⟨D, d, rfl⟩ := hb.form
  by_cases hl : xs.length = ys.length
  · obtain ⟨n, hn⟩ : ∃ n, n = xs.length := ⟨_, rfl⟩
    have hny : n = ys.length := by omega
    have HX := Lib.hid hn
    have HY := Lib.hid hny
    have hn1 : n ≤ 1000000000 := by omega
    rw [← hn] at ha ⊢
    rw [← hny] at hb ⊢
    clear hl hn hny hx hy
    go_enter Tryz.func132, Tryz.ntmps132
    go_wp2_with fail
    go_loopw [5] (fun vi wr => ∃ (k : Nat), k ≤ n ∧ vi = .int .i64 (k : Int) ∧ Hid (xs.take k = ys.take k) ∧ Below w.heap.size w wr) (fun vi _ => n - (intOf vi).toNat)
    case atStart => exact ⟨0, by omega, rfl, rfl, Below.refl _ w⟩
    case round =>
      obtain ⟨k, hk, rfl, heq, hbw⟩ := hrel
      by_cases hlt : k < n
      · have hkx : k < xs.length := by rw [← HX.out]; exact hlt
        have hky : k < ys.length := by rw [← HY.out]; exact hlt
        obtain ⟨b1, o1, rfl, hadb, hc1, hc2⟩ := (ha.below hbw).at_ hkx
        obtain ⟨b2, o2, rfl, hbdb, hd1, hd2⟩ := (hb.below hbw).at_ hky
        obtain ⟨⟨x1, x2⟩, hx⟩ : ∃ x, xs[k] = x := ⟨_, rfl⟩
        obtain ⟨⟨y1, y2⟩, hy⟩ : ∃ y, ys[k] = y := ⟨_, rfl⟩
        rw [hx] at hc1 hc2
        rw [hy] at hd1 hd2
        have hk0 : (0 : Int) ≤ (k : Int) := by omega
        have hk1 : (k : Int) < (n : Int) := by omega
        have EX := Lib.hid hx
        have EY := Lib.hid hy
        clear hx hy
        by_cases hxy : ((x1, x2) : Mem) = (y1, y2)
        · have HXY := Lib.hid hxy
          injection hxy with q1 q2
          subst q1 q2
          go_wp2_with fail
          go_quiet (fail)
          go_wp2_with fail
          go_roundw
          case rel =>
            refine ⟨k + 1, by omega, by go_num, ?_, below_drewN hbw _⟩
            show xs.take (k + 1) = ys.take (k + 1)
            rw [List.take_succ_eq_append_getElem hkx, List.take_succ_eq_append_getElem hky, heq.out, EX.out, EY.out]
          case measure => simp [intOf]; omega
        · have hor : ((x1 == y1) = false) ∨ (x1 = y1 ∧ (x2 == y2) = false) := by
            by_cases q : x1 = y1
            · refine .inr ⟨q, ?_⟩
              simp only [beq_eq_false_iff_ne]
              rintro rfl
              exact hxy (by rw [q])
            · exact .inl (by simpa using q)
          have hres : decide (xs = ys) = false := by
            simp
            rintro rfl
            exact hxy (by rw [← EX.out, EY.out])
          have HR := Lib.hid hres
          clear hxy hres
          rcases hor with q1 | ⟨rfl, q2⟩
          all_goals
            go_wp2_with fail
            go_quiet (fail)
            go_wp2_with fail
            go_ret
            exact ⟨by rw [HR.out]; rfl, below_drewN hbw _⟩
      · obtain rfl : k = n := by omega
        have hres : decide (xs = ys) = true := by
          have h := heq.out
          have e1 := HX.out
          have e2 := HY.out
          rw [List.take_of_length_le (by omega), List.take_of_length_le (by omega)] at h
          simpa using h
        have HR := Lib.hid hres
        clear hres heq
        go_wp2_with fail
        go_ret
        exact ⟨by rw [HR.out]; rfl, hbw⟩
  · have hres : decide (xs = ys) = false := by
      simp
      rintro rfl
      exact hl rfl
    have HR := Lib.hid hres
    have hq : ((xs.length : Int) != (ys.length : Int)) = true := by
      have : (xs.length : Int) ≠ (ys.length : Int) := by omega
      simpa using this
    have hq2 : (xs.length != ys.length) = true := by simpa using hl
    clear hres hl
    go_enter Tryz.func132, Tryz.ntmps132
    go_wp2_with fail
    go_ret
    exact ⟨by rw [HR.out]; rfl, Below.refl _ w⟩

theorem int_yes {x y : Int} (h : x = y) : (x == y) = true ∧ (x != y) = false ∧ (x = y) = True := by subst h; simp
theorem int_no {x y : Int} (h : ¬ x = y) : (x == y) = false ∧ (x != y) = true ∧ (x = y) = False := ⟨by simpa using h, by simpa using h, eq_false h⟩
theorem sameD_no {a b : De} (h : ¬ a = b) : sameD a b = false := by
  cases hs : sameD a b with
  | false => rfl
  | true => exact absurd ((sameD_iff a b).1 hs) h
theorem sameD_ms {a b : De} (h1 : a.id = b.id) (h2 : a.f = b.f) (h3 : a.t = b.t) (h4 : a.gen = b.gen) (h5 : a.next = b.next) : sameD a b = decide (a.ms = b.ms) := by
  unfold sameD; simp [h1, h2, h3, h4, h5]

set_option maxHeartbeats 4000000 in
theorem rsame_any (a b : De) (sa sb : Value) (w : World) (ha : SM w w.heap.size sa a.ms) (hb : SM w w.heap.size sb b.ms) (hx : a.ms.length ≤ 1000000000) (hy : b.ms.length ≤ 1000000000) :
    Calls Tryz.prog 81 #[dv a sa, dv b sb] w fun e w' => e = .returned (.bool (sameD a b)) ∧ Below w.heap.size w w' := by
  obtain ⟨A, c, rfl⟩ := ha.form
  obtain ⟨D, d, rfl⟩ := hb.form
  have cc := fun w ha hb => members_any (.slice A a.ms.length c) (.slice D b.ms.length d) a.ms b.ms w ha hb hx hy
  have ka : ∀ w1, Below w.heap.size w w1 → SM w1 w1.heap.size (.slice A a.ms.length c) a.ms := fun w1 h => (ha.below h).more h.size
  have kb : ∀ w1, Below w.heap.size w w1 → SM w1 w1.heap.size (.slice D b.ms.length d) b.ms := fun w1 h => (hb.below h).more h.size
  by_cases h1 : a.id = b.id
  · obtain ⟨n0, m0, l0⟩ := int_yes h1
    by_cases h2 : a.f = b.f
    · have n1 := bytes_beq_yes h2
      by_cases h3 : a.t = b.t
      · have n2 := bytes_beq_yes h3
        by_cases h4 : a.gen = b.gen
        · obtain ⟨n3, m3, l3⟩ := int_yes h4
          by_cases h5 : a.next = b.next
          · obtain ⟨n4, m4, l4⟩ := int_yes h5
            rw [sameD_ms h1 h2 h3 h4 h5]
            clear h1 h2 h3 h4 h5
            go_enter Tryz.func81, Tryz.ntmps81
            go_wp2_with fail
            refine (cc _ (ka _ (by (repeat' (first | with_reducible assumption | with_reducible exact Below.refl _ _ | with_reducible refine Below.alloc ?_ ?_ _ | with_reducible refine Below.setCell ?_ ?_ _ | with_reducible refine Below.drew ?_ | omega | (simp; done) | (simp; omega))))) (kb _ (by (repeat' (first | with_reducible assumption | with_reducible exact Below.refl _ _ | with_reducible refine Below.alloc ?_ ?_ _ | with_reducible refine Below.setCell ?_ ?_ _ | with_reducible refine Below.drew ?_ | omega | (simp; done) | (simp; omega)))))).mono ?_
            rintro e w1 ⟨rfl, b1⟩
            have hb1 : Below w.heap.size w w1 := (show Below w.heap.size w _ from (by (repeat' (first | with_reducible assumption | with_reducible exact Below.refl _ _ | with_reducible refine Below.alloc ?_ ?_ _ | with_reducible refine Below.setCell ?_ ?_ _ | with_reducible refine Below.drew ?_ | omega | (simp; done) | (simp; omega))))).trans (b1.mono (by simp; omega))
            clear b1
            go_wp2_with fail
            go_ret
            exact ⟨rfl, hb1⟩
          · obtain ⟨n4, m4, l4⟩ := int_no h5
            rw [sameD_no (fun e => h5 (by rw [e]))]
            clear h1 h2 h3 h4 h5
            go_enter Tryz.func81, Tryz.ntmps81
            go_wp2_with fail
            go_ret
            exact ⟨rfl, (by (repeat' (first | with_reducible assumption | with_reducible exact Below.refl _ _ | with_reducible refine Below.alloc ?_ ?_ _ | with_reducible refine Below.setCell ?_ ?_ _ | with_reducible refine Below.drew ?_ | omega | (simp; done) | (simp; omega))))⟩
        · obtain ⟨n3, m3, l3⟩ := int_no h4
          rw [sameD_no (fun e => h4 (by rw [e]))]
          clear h1 h2 h3 h4
          go_enter Tryz.func81, Tryz.ntmps81
          go_wp2_with fail
          go_ret
          exact ⟨rfl, (by (repeat' (first | with_reducible assumption | with_reducible exact Below.refl _ _ | with_reducible refine Below.alloc ?_ ?_ _ | with_reducible refine Below.setCell ?_ ?_ _ | with_reducible refine Below.drew ?_ | omega | (simp; done) | (simp; omega))))⟩
      · have n2 := bytes_beq_no h3
        rw [sameD_no (fun e => h3 (by rw [e]))]
        clear h1 h2 h3
        go_enter Tryz.func81, Tryz.ntmps81
        go_wp2_with fail
        go_ret
        exact ⟨rfl, (by (repeat' (first | with_reducible assumption | with_reducible exact Below.refl _ _ | with_reducible refine Below.alloc ?_ ?_ _ | with_reducible refine Below.setCell ?_ ?_ _ | with_reducible refine Below.drew ?_ | omega | (simp; done) | (simp; omega))))⟩
    · have n1 := bytes_beq_no h2
      rw [sameD_no (fun e => h2 (by rw [e]))]
      clear h1 h2
      go_enter Tryz.func81, Tryz.ntmps81
      go_wp2_with fail
      go_ret
      exact ⟨rfl, (by (repeat' (first | with_reducible assumption | with_reducible exact Below.refl _ _ | with_reducible refine Below.alloc ?_ ?_ _ | with_reducible refine Below.setCell ?_ ?_ _ | with_reducible refine Below.drew ?_ | omega | (simp; done) | (simp; omega))))⟩
  · obtain ⟨n0, m0, l0⟩ := int_no h1
    rw [sameD_no (fun e => h1 (by rw [e]))]
    clear h1
    go_enter Tryz.func81, Tryz.ntmps81
    go_wp2_with fail
    go_ret
    exact ⟨rfl, (by (repeat' (first | with_reducible assumption | with_reducible exact Below.refl _ _ | with_reducible refine Below.alloc ?_ ?_ _ | with_reducible refine Below.setCell ?_ ?_ _ | with_reducible refine Below.drew ?_ | omega | (simp; done) | (simp; omega))))⟩
end Go.Proofs.YticikmkehobblaaGreatDoor.Ds
