/-
  The document's Same, at every two lists of strings, and the law's num and small. Condition: at most 2^40 strings.
-/
import Derived.Test.YtglkapamkigdhaaDoorTieW
namespace Go.Proofs.YtglkapamkigdhaaDoor
open Go.RowKit M
attribute [local go_sem ↓] Go.wp_at_zero Go.wp_at_succ

theorem bytes_beq_yes {x y : ByteArray} (h : x = y) : (x.toList == y.toList) = true := by rw [h]; simp
theorem bytes_beq_no {x y : ByteArray} (h : x ≠ y) : (x.toList == y.toList) = false := by
  rw [ByteArray.toList_eq, ByteArray.toList_eq]
  have : x.data.toList ≠ y.data.toList := fun e => h (bytes_ext e)
  simpa using this

set_option maxHeartbeats 2000000 in
set_option maxRecDepth 100000 in
theorem same_any (a b : Value) (xs ys : List ByteArray) (w : World) (ha : SL w w.heap.size a xs) (hb : SL w w.heap.size b ys) (hx : xs.length ≤ 1000000000) (hy : ys.length ≤ 1000000000) :
    Calls Tryd.prog 17 #[a, b] w fun e w' => e = .returned (.bool (decide (xs = ys))) ∧ Below w.heap.size w w' := by
  obtain ⟨A, c, rfl⟩ := ha.form
  obtain ⟨D, d, rfl⟩ := hb.form
  by_cases hl : xs.length = ys.length
  · obtain ⟨n, hn⟩ : ∃ n, n = xs.length := ⟨_, rfl⟩
    have hny : n = ys.length := by omega
    have HX := Lib.hid hn
    have HY := Lib.hid hny
    have hn1 : n ≤ 1000000000 := by omega
    rw [← hn] at ha ⊢
    rw [← hny] at hb ⊢
    clear hl hn hny hx hy
    go_enter Tryd.func17, Tryd.ntmps17
    go_wp2_with fail
    go_loopw [5] (fun vi wr => ∃ (k : Nat), k ≤ n ∧ vi = .int .i64 (k : Int) ∧ Hid (xs.take k = ys.take k) ∧ Below w.heap.size w wr) (fun vi _ => n - (intOf vi).toNat)
    case atStart => exact ⟨0, by omega, rfl, rfl, Below.refl _ w⟩
    case round =>
      obtain ⟨k, hk, rfl, heq, hbw⟩ := hrel
      by_cases hlt : k < n
      · have hkx : k < xs.length := by rw [← HX.out]; exact hlt
        have hky : k < ys.length := by rw [← HY.out]; exact hlt
        obtain ⟨ad, rfl, hadb, hcx⟩ := (ha.below hbw).at_ hkx
        obtain ⟨bd, rfl, hbdb, hcy⟩ := (hb.below hbw).at_ hky
        obtain ⟨x, hx⟩ : ∃ x, xs[k] = x := ⟨_, rfl⟩
        obtain ⟨y, hy⟩ : ∃ y, ys[k] = y := ⟨_, rfl⟩
        rw [hx] at hcx
        rw [hy] at hcy
        have hk0 : (0 : Int) ≤ (k : Int) := by omega
        have hk1 : (k : Int) < (n : Int) := by omega
        have EX := Lib.hid hx
        have EY := Lib.hid hy
        clear hx hy
        by_cases hxy : x = y
        · have hq := bytes_beq_yes hxy
          have HXY := Lib.hid hxy
          clear hxy
          go_wp2_with fail
          go_quiet (fail)
          go_wp2_with fail
          go_roundw
          case rel =>
            refine ⟨k + 1, by omega, by go_num, ?_, below_drewN hbw _⟩
            show xs.take (k + 1) = ys.take (k + 1)
            rw [List.take_succ_eq_append_getElem hkx, List.take_succ_eq_append_getElem hky, heq.out, EX.out, EY.out, HXY.out]
          case measure => simp [intOf]; omega
        · have hq := bytes_beq_no hxy
          have hres : decide (xs = ys) = false := by
            simp
            rintro rfl
            exact hxy (by rw [← EX.out, EY.out])
          have HR := Lib.hid hres
          clear hxy hres
          go_wp2_with fail
          go_quiet (fail)
          go_wp2_with fail
          go_ret
          exact ⟨by rw [HR.out]; rfl, below_drewN hbw _⟩
      · obtain rfl : k = n := by omega
        have hres : decide (xs = ys) = true := by
          have h := heq.out
          have e1 := HX.out
          have e2 := HY.out
          rw [List.take_of_length_le (by omega), List.take_of_length_le (by omega)] at h
          simpa using h
        have HR := Lib.hid hres
        clear hres heq
        go_wp2_with fail
        go_ret
        exact ⟨by rw [HR.out]; rfl, hbw⟩
  · have hres : decide (xs = ys) = false := by
      simp
      rintro rfl
      exact hl rfl
    have HR := Lib.hid hres
    have hq : ((xs.length : Int) != (ys.length : Int)) = true := by
      have : (xs.length : Int) ≠ (ys.length : Int) := by omega
      simpa using this
    have hq2 : (xs.length != ys.length) = true := by simpa using hl
    clear hres hl
    go_enter Tryd.func17, Tryd.ntmps17
    go_wp2_with fail
    go_ret
    exact ⟨by rw [HR.out]; rfl, Below.refl _ w⟩

theorem ret_bool {a b : Bool} (h : a = b) : Ending.returned (.bool a) = .returned (.bool b) := by rw [h]
def total (ss : List ByteArray) : Nat := (ss.map ByteArray.size).sum
def smallB (ss : List ByteArray) : Bool := decide (ss.length ≤ 100 ∧ total ss ≤ 20000)
theorem total_succ (ss : List ByteArray) (k : Nat) (hk : k < ss.length) : total (ss.take (k + 1)) = total (ss.take k) + ss[k].size := by
  unfold total; rw [List.take_succ_eq_append_getElem hk, List.map_append, List.sum_append]; simp
theorem total_take (ss : List ByteArray) (k : Nat) : total (ss.take k) ≤ total ss := by
  have h : total ss = total (ss.take k) + total (ss.drop k) := by
    unfold total; rw [← List.sum_append, ← List.map_append, List.take_append_drop]
  omega

end Go.Proofs.YtglkapamkigdhaaDoor
