/-
  What PostPlain's row says of the program, cell by cell. No condition.
-/
import Derived.Test.YtkpakiiijphjeaaGreatDoorRows
import Derived.JoinedCond
import Derived.KernelRfl
namespace Go.Proofs.YtkpakiiijphjeaaGreatDoor.Mb
theorem both6 {a b : Bool} (h : a = true) (k : b = true) : (a && b) = true := by
  subst h k
  rfl
set_option maxHeartbeats 0 in
theorem closed6 : joinedFacts Tryz.pinned.checked.prog 6 Tryz.f6 (OpenSpec.ofChange Rows.postPlainSpec).bare Rows.postPlainRow = true := by
  unfold joinedFacts
  repeat' with_reducible refine both6 ?_ ?_
  all_goals (as_aux_lemma => kernel_rfl)
end Go.Proofs.YtkpakiiijphjeaaGreatDoor.Mb
