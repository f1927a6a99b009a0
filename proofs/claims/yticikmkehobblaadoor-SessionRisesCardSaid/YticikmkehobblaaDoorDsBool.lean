/-
  Whether a descriptor may be: the program's answers (isId, isNode, mayBe, Check, checked). Condition: lengths at most 2^47.
-/
import Derived.Test.YticikmkehobblaaDoorDsRows
namespace Go.Proofs.YticikmkehobblaaDoor.Ds
open Go.RowKit Bnd
open Go.Proofs.YticikmkehobblaaDoor.O (Bd isB keyB hasB nextB)

theorem mayGo_no {next last : Int} {tk : List Int} {m : Mem} {l : List Mem} (h : ¬ (nodeB m.1 = true ∧ ¬ m.1 ∈ tk ∧ last < m.2 ∧ m.2 < next)) : mayGo next last tk (m :: l) = false := by
  rw [mayGo, if_neg h]
theorem mayGo_on {next last : Int} {tk : List Int} {m : Mem} {l : List Mem} (h : nodeB m.1 = true ∧ ¬ m.1 ∈ tk ∧ last < m.2 ∧ m.2 < next) : mayGo next last tk (m :: l) = mayGo next m.2 (m.1 :: tk) l := by
  rw [mayGo, if_pos h]

/-- what Check answers -/
def chkD (d : De) : Int := if isD d = true then 0 else 60

end Go.Proofs.YticikmkehobblaaDoor.Ds
