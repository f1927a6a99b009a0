/-
  own, the program's: an order with nothing but the fields of its kind. No condition.
  Whether an order may be, the program's answers: fitsKey, fits. Conditions: lengths at most 2^47; the library's variables hold what their types allow.
-/
import Derived.Test.YthcmnkmfhgoddaaGreatDoorKOdA
import Derived.Test.YthcmnkmfhgoddaaGreatDoorKDsPaA
namespace Go.Proofs.YthcmnkmfhgoddaaGreatDoor.Od
open Go.RowKit Bnd
end Go.Proofs.YthcmnkmfhgoddaaGreatDoor.Od

namespace Go.Proofs.YthcmnkmfhgoddaaGreatDoor.Od
open Go.RowKit Bnd
open Go.Proofs.YthcmnkmfhgoddaaGreatDoor.O (Bd isB keyB)
open Go.Proofs.YthcmnkmfhgoddaaGreatDoor.Bnd (levelT chk keyE)
end Go.Proofs.YthcmnkmfhgoddaaGreatDoor.Od
