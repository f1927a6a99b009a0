/-
  The document's Same at lists that are the same; the law's own num and own. Conditions: sessions without pairs, at most a million (own: any pairs).
  The document's small answers on plots: Get, Has, ints, Same (of like plots). Conditions: lengths at most 2^30.
-/
import Derived.Test.YtlcobgpgggegdaaGreatDoorSsMRA
import Derived.Test.YtlcobgpgggegdaaGreatDoorOdSPA
import Derived.Test.YtlcobgpgggegdaaGreatDoorRegA
import Derived.Test.YtlcobgpgggegdaaGreatDoorDpBGA
import Derived.Test.YtlcobgpgggegdaaGreatDoorDsSMA
import Derived.BigQuiet
namespace Go.Proofs.YtlcobgpgggegdaaGreatDoor.Ss
open Go.RowKit Bnd
open Go.Proofs.YtlcobgpgggegdaaGreatDoor.Od (Rep SP ArgP OwnP rv BoxR)

end Go.Proofs.YtlcobgpgggegdaaGreatDoor.Ss

namespace Go.Proofs.YtlcobgpgggegdaaGreatDoor.Dp
open Go.RowKit Bnd
open Go.Proofs.YtlcobgpgggegdaaGreatDoor.O (Bd isB keyB hasB nextB lt)
open Go.Proofs.YtlcobgpgggegdaaGreatDoor.Ds (De SM dv sameD)
open Go.Proofs.YtlcobgpgggegdaaGreatDoor.Ss (Ses Zs ses SZ PZ NoP)
open Go.Proofs.YtlcobgpgggegdaaGreatDoor.Od (Pr SP)
open Go.Proofs.YtlcobgpgggegdaaGreatDoor.Sf (kl Up getP)

/-- lengths such as Same needs -/
structure FewP (o : Ph) : Prop where
  ms : o.d.ms.length ≤ 1000000
  ps : o.ps.length ≤ 1000000
  zs : o.zs.length ≤ 1000000
  ea : o.ea.length ≤ 1000000

end Go.Proofs.YtlcobgpgggegdaaGreatDoor.Dp
