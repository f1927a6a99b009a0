/-
  knot.Open and the document's answer to it, at every text. Condition: lengths below 2^47.
-/
import Derived.Test.YtimodohcihnoiaaDoorSeal
import Derived.RegionTactic
import Derived.ChangeAlike
import Derived.Deep.RegionHeld3
import Derived.Deep.DrawnRows
import Derived.Deep.QuietTactic
import Derived.BigQuiet
namespace Go.Proofs.YtimodohcihnoiaaDoor
open Go.RowKit M
attribute [local go_sem ↓] Go.wp_at_zero Go.wp_at_succ

theorem below_of_drew {B : Nat} {w w1 : World} (h : Below B w.drew w1) : Below B w w1 := ⟨h.os, h.tape, h.output, h.size, h.block⟩

/-- what both hand back -/
def openR : Option Text → Value
  | some x => .tuple #[str x, .int .i64 0]
  | none => .tuple #[str [], .int .i64 11]

theorem open_short (s : ByteArray) (h : s.size < 8) : openT s.data.toList = none := by
  unfold openT; rw [if_neg]; rintro ⟨h1, _⟩; simp at h1; omega
theorem open_eq (s p : ByteArray) (h : sealT p.data.toList = s.data.toList) : openT s.data.toList = some p.data.toList := by
  rw [← h]; exact open_seal _
theorem open_ne (s p : ByteArray) (hp : p.data.toList = s.data.toList.take (s.size - 8)) (h : sealT p.data.toList ≠ s.data.toList) : openT s.data.toList = none := by
  unfold openT; rw [if_neg]; rintro ⟨_, h2⟩
  rw [show s.data.toList.length = s.size by simp, ← hp] at h2
  exact h h2
theorem beq_yes {l : Text} {s : ByteArray} (h : l = s.data.toList) : (l == s.toList) = true := by rw [ByteArray.toList_eq, h]; simp
theorem beq_no {l : Text} {s : ByteArray} (h : l ≠ s.data.toList) : (l == s.toList) = false := by rw [ByteArray.toList_eq]; simpa using h

end Go.Proofs.YtimodohcihnoiaaDoor
