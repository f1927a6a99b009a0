/-
  What MemberSame's row says of the program, cell by cell. No condition.
-/
import Derived.Test.YthcmnkmfhgoddaaGreatDoorRows
import Derived.JoinedCond
import Derived.KernelRfl
namespace Go.Proofs.YthcmnkmfhgoddaaGreatDoor.Mb
theorem both5 {a b : Bool} (h : a = true) (k : b = true) : (a && b) = true := by
  subst h k
  rfl
set_option maxHeartbeats 0 in
theorem closed5 : joinedFacts Tryz.pinned.checked.prog 5 Tryz.f5 (OpenSpec.ofChange Rows.memberSameSpec).bare Rows.memberSameRow = true := by
  unfold joinedFacts
  repeat' with_reducible refine both5 ?_ ?_
  all_goals (as_aux_lemma => kernel_rfl)
end Go.Proofs.YthcmnkmfhgoddaaGreatDoor.Mb
