
/-
  own, the program's: an order with nothing but the fields of its kind. No condition.
  Whether an order may be, the program's answers: fitsKey, fits. Conditions: lengths at most 2^47; the library's variables hold what their types allow.
-/
import Derived.Test.YtpedalilamloaaaGreatDoorOdA
import Derived.Test.YtpedalilamloaaaGreatDoorDsPaA
namespace Go.Proofs.YtpedalilamloaaaGreatDoor.Od
open Go.RowKit Bnd

end Go.Proofs.YtpedalilamloaaaGreatDoor.Od

namespace Go.Proofs.YtpedalilamloaaaGreatDoor.Od
open Go.RowKit Bnd
open Go.Proofs.YtpedalilamloaaaGreatDoor.O (Bd isB keyB)
open Go.Proofs.YtpedalilamloaaaGreatDoor.Bnd (levelT chk keyE)

end Go.Proofs.YtpedalilamloaaaGreatDoor.Od
