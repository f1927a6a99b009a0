
/-
  own, the program's: an order with nothing but the fields of its kind. No condition.
  Whether an order may be, the program's answers: fitsKey, fits. Conditions: lengths at most 2^47; the library's variables hold what their types allow.
-/
import Derived.Test.YtoomkdofoceiaaaGreatDoorOdA
import Derived.Test.YtoomkdofoceiaaaGreatDoorDsPaA
namespace Go.Proofs.YtoomkdofoceiaaaGreatDoor.Od
open Go.RowKit Bnd
end Go.Proofs.YtoomkdofoceiaaaGreatDoor.Od
namespace Go.Proofs.YtoomkdofoceiaaaGreatDoor.Od
open Go.RowKit Bnd
open Go.Proofs.YtoomkdofoceiaaaGreatDoor.O (Bd isB keyB)
open Go.Proofs.YtoomkdofoceiaaaGreatDoor.Bnd (levelT chk keyE)
end Go.Proofs.YtoomkdofoceiaaaGreatDoor.Od
