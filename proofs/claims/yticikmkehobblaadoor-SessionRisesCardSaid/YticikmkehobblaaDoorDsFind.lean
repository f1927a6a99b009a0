/-
  Who is where: On, Has, of the program and of the document; Quorum. Condition: at most 2^47 members.
-/
import Derived.Test.YticikmkehobblaaDoorDsBool
namespace Go.Proofs.YticikmkehobblaaDoor.Ds
open Go.RowKit Bnd

/-- what On and Has answer -/
def optV (o : Option Mem) : Value := match o with
  | some m => .tuple #[mv m, .bool true]
  | none => .tuple #[mv (0, 0), .bool false]
theorem onM_yes {n : Int} {m : Mem} {l : List Mem} (h : m.1 = n) : onM n (m :: l) = some m := by rw [onM, if_pos h]
theorem onM_no {n : Int} {m : Mem} {l : List Mem} (h : m.1 ≠ n) : onM n (m :: l) = onM n l := by rw [onM, if_neg h]
theorem hasM_yes {n : Int} {m : Mem} {l : List Mem} (h : m.2 = n) : hasM n (m :: l) = some m := by rw [hasM, if_pos h]
theorem hasM_no {n : Int} {m : Mem} {l : List Mem} (h : m.2 ≠ n) : hasM n (m :: l) = hasM n l := by rw [hasM, if_neg h]
theorem drop_cons {l : List Mem} {k : Nat} (h : k < l.length) : l.drop k = l[k] :: l.drop (k + 1) := List.drop_eq_getElem_cons h

end Go.Proofs.YticikmkehobblaaDoor.Ds
