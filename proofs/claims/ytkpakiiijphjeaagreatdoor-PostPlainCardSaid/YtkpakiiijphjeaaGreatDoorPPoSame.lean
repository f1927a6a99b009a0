/-
  Same: the library's Equal at entries, Same of messages and of packets, the program's and the document's. Condition: at most 10^9 pairs, and entries.
-/
import Derived.Test.YtkpakiiijphjeaaGreatDoorPPoB
import Derived.Test.YtkpakiiijphjeaaGreatDoorPOdSPA
import Derived.Test.YtkpakiiijphjeaaGreatDoorPOdPCA
import Derived.Test.YtkpakiiijphjeaaGreatDoorPRoA
namespace Go.Proofs.YtkpakiiijphjeaaGreatDoor.Po
open Go.RowKit Bnd
open Ds (int_yes int_no)
open Ro (ba_iff)
open Od (bool_no bool_yes sameA sameA_iff sameR SP)
open Ro (En SE)
attribute [local go_sem ↓] Go.wp_at_zero Go.wp_at_succ
set_option maxHeartbeats 2000000 in
set_option maxRecDepth 100000 in
theorem equalE_any (a b : Value) (xs ys : List En) (w : World) (ha : SE w w.heap.size a xs) (hb : SE w w.heap.size b ys) (hx : xs.length ≤ 1000000000) (hy : ys.length ≤ 1000000000) :
    Calls Tryz.prog 70 #[a, b] w fun e w' => e = .returned (.bool (decide (xs = ys))) ∧ Below w.heap.size w w' := by
  obtain ⟨A, c, rfl⟩ := ha.form
  obtain ⟨D, d, rfl⟩ := hb.form
  by_cases hl : xs.length = ys.length
  · obtain ⟨n, hn⟩ : ∃ n, n = xs.length := ⟨_, rfl⟩
    have hny : n = ys.length := by omega
    have HX := Lib.hid hn
    have HY := Lib.hid hny
    have hn1 : n ≤ 1000000000 := by omega
    rw [← hn] at ha ⊢
    rw [← hny] at hb ⊢
    clear hl hn hny hx hy
    go_enter Tryz.func70, Tryz.ntmps70
    go_wp2_with fail
    go_loopw [13] (fun vi wr => ∃ (k : Nat), k ≤ n ∧ vi = .int .i64 (k : Int) ∧ Hid (xs.take k = ys.take k) ∧ Below w.heap.size w wr) (fun vi _ => n - (intOf vi).toNat)
    case atStart => exact ⟨0, by omega, rfl, rfl, Below.refl _ w⟩
    case round =>
      obtain ⟨k, hk, rfl, heq, hbw⟩ := hrel
      by_cases hlt : k < n
      · have hkx : k < xs.length := by rw [← HX.out]; exact hlt
        have hky : k < ys.length := by rw [← HY.out]; exact hlt
        obtain ⟨b1, o1, rfl, hadb, hc1, hc2⟩ := (ha.below hbw).at_ hkx
        obtain ⟨b2, o2, rfl, hbdb, hd1, hd2⟩ := (hb.below hbw).at_ hky
        obtain ⟨⟨x1, x2⟩, hx⟩ : ∃ x, xs[k] = x := ⟨_, rfl⟩
        obtain ⟨⟨y1, y2⟩, hy⟩ : ∃ y, ys[k] = y := ⟨_, rfl⟩
        rw [hx] at hc1 hc2
        rw [hy] at hd1 hd2
        have hk0 : (0 : Int) ≤ (k : Int) := by omega
        have hk1 : (k : Int) < (n : Int) := by omega
        have EX := Lib.hid hx
        have EY := Lib.hid hy
        clear hx hy
        by_cases hxy : ((x1, x2) : En) = (y1, y2)
        · have HXY := Lib.hid hxy
          injection hxy with q1 q2
          subst q1 q2
          go_wp2_with fail
          go_quiet (fail)
          go_wp2_with fail
          go_roundw
          case rel =>
            refine ⟨k + 1, by omega, by go_num, ?_, below_drewN hbw _⟩
            show xs.take (k + 1) = ys.take (k + 1)
            rw [List.take_succ_eq_append_getElem hkx, List.take_succ_eq_append_getElem hky, heq.out, EX.out, EY.out]
          case measure => simp [intOf]; omega
        · have hor : ((x1 == y1) = false) ∨ (x1 = y1 ∧ (x2.toList == y2.toList) = false) := by
            by_cases q : x1 = y1
            · refine .inr ⟨q, ?_⟩
              rw [beq_eq_false_iff_ne]
              intro h
              exact hxy (by rw [q, (ba_iff x2 y2).1 h])
            · exact .inl (by simpa using q)
          have hres : decide (xs = ys) = false := by
            simp
            rintro rfl
            exact hxy (by rw [← EX.out, EY.out])
          have HR := Lib.hid hres
          clear hxy hres
          rcases hor with q1 | ⟨rfl, q2⟩
          all_goals
            go_wp2_with fail
            go_quiet (fail)
            go_wp2_with fail
            go_ret
            exact ⟨by rw [HR.out]; rfl, below_drewN hbw _⟩
      · obtain rfl : k = n := by omega
        have hres : decide (xs = ys) = true := by
          have h := heq.out
          have e1 := HX.out
          have e2 := HY.out
          rw [List.take_of_length_le (by omega), List.take_of_length_le (by omega)] at h
          simpa using h
        have HR := Lib.hid hres
        clear hres heq
        go_wp2_with fail
        go_ret
        exact ⟨by rw [HR.out]; rfl, hbw⟩
  · have hres : decide (xs = ys) = false := by
      simp
      rintro rfl
      exact hl rfl
    have HR := Lib.hid hres
    have hq : ((xs.length : Int) != (ys.length : Int)) = true := by
      have : (xs.length : Int) ≠ (ys.length : Int) := by omega
      simpa using this
    have hq2 : (xs.length != ys.length) = true := by simpa using hl
    clear hres hl
    go_enter Tryz.func70, Tryz.ntmps70
    go_wp2_with fail
    go_ret
    exact ⟨by rw [HR.out]; rfl, Below.refl _ w⟩
theorem sameW_no {a b : Wr} (h : ¬ a = b) : sameW a b = false := by
  cases hs : sameW a b with
  | false => rfl
  | true => exact absurd ((sameW_iff a b).1 hs) h
theorem sameK_no {a b : Pk} (h : ¬ a = b) : sameK a b = false := by
  cases hs : sameK a b with
  | false => rfl
  | true => exact absurd ((sameK_iff a b).1 hs) h
theorem sameW_text {a b : Wr} (h1 : a.kind = b.kind) (h2 : a.frm = b.frm) (h3 : a.til = b.til) (h4 : a.term = b.term) (h5 : a.index = b.index) (h6 : a.lterm = b.lterm) (h7 : a.commit = b.commit) (h8 : a.hint = b.hint) (h9 : a.reject = b.reject) (h10 : a.es = b.es) : sameW a b = (a.text.toList == b.text.toList) := by
  rw [Bool.eq_iff_iff]
  unfold sameW
  simp [h1, h2, h3, h4, h5, h6, h7, h8, h9, h10, ba_iff]
theorem sameK_rep {a b : Pk} (h0 : a.kind = b.kind) (h1 : a.frm = b.frm) (h2 : a.til = b.til) (h3 : a.range = b.range) (hw : sameW a.wire b.wire = true) (h4 : a.id = b.id) (h5 : a.next = b.next) (h6 : sameA a.ord b.ord = true) (h7 : a.client = b.client) (h8 : a.seq = b.seq) (h9 : a.status = b.status) (h10 : a.hint = b.hint) : sameK a b = sameR a.rep b.rep := by
  unfold sameK
  simp [h0, h1, h2, h3, hw, h4, h5, h6, h7, h8, h9, h10]
structure LenK (p : Pk) : Prop where
  es : p.wire.es.length ≤ 1000000000
  ps : p.rep.ps.length ≤ 1000000000
end Go.Proofs.YtkpakiiijphjeaaGreatDoor.Po
