/-
  The document's Same, at every two lists of strings, and the law's num and small. Condition: at most 2^40 strings.
-/
import Derived.Test.YtimodohcihnoiaaDoorTieW
namespace Go.Proofs.YtimodohcihnoiaaDoor
open Go.RowKit M
attribute [local go_sem ↓] Go.wp_at_zero Go.wp_at_succ

theorem bytes_beq_yes {x y : ByteArray} (h : x = y) : (x.toList == y.toList) = true := by rw [h]; simp
theorem bytes_beq_no {x y : ByteArray} (h : x ≠ y) : (x.toList == y.toList) = false := by
  rw [ByteArray.toList_eq, ByteArray.toList_eq]
  have : x.data.toList ≠ y.data.toList := fun e => h (bytes_ext e)
  simpa using this

theorem ret_bool {a b : Bool} (h : a = b) : Ending.returned (.bool a) = .returned (.bool b) := by rw [h]
def total (ss : List ByteArray) : Nat := (ss.map ByteArray.size).sum
def smallB (ss : List ByteArray) : Bool := decide (ss.length ≤ 100 ∧ total ss ≤ 20000)
theorem total_succ (ss : List ByteArray) (k : Nat) (hk : k < ss.length) : total (ss.take (k + 1)) = total (ss.take k) + ss[k].size := by
  unfold total; rw [List.take_succ_eq_append_getElem hk, List.map_append, List.sum_append]; simp
theorem total_take (ss : List ByteArray) (k : Nat) : total (ss.take k) ≤ total ss := by
  have h : total ss = total (ss.take k) + total (ss.drop k) := by
    unfold total; rw [← List.sum_append, ← List.map_append, List.take_append_drop]
  omega

end Go.Proofs.YtimodohcihnoiaaDoor
