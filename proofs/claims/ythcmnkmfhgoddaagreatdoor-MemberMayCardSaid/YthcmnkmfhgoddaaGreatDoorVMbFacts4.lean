/-
 What MemberMay's row says of the program,cell by cell. No condition.
-/
import Derived.Test.YthcmnkmfhgoddaaGreatDoorRows
import Derived.JoinedCond
import Derived.KernelRfl
namespace Go.Proofs.YthcmnkmfhgoddaaGreatDoor.Mb
theorem both4 {a b : Bool} (h : a = true) (k : b = true) : (a && b) = true:=by
 subst h k
 rfl
set_option maxHeartbeats 0 in
theorem closed4 : joinedFacts Tryz.pinned.checked.prog 4 Tryz.f4 (OpenSpec.ofChange Rows.memberMaySpec).bare Rows.memberMayRow = true:=by
 unfold joinedFacts
 repeat' with_reducible refine both4 ?_ ?_
 all_goals (as_aux_lemma => kernel_rfl)
end Go.Proofs.YthcmnkmfhgoddaaGreatDoor.Mb
