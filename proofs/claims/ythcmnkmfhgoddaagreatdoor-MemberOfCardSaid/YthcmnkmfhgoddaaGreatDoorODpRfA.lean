/-
  The document's Same at lists that are the same; the law's own num and own. Conditions: sessions without pairs, at most a million (own: any pairs).
  The document's small answers on plots: Get, Has, ints, Same (of like plots). Conditions: lengths at most 2^30.
-/
import Derived.Test.YthcmnkmfhgoddaaGreatDoorOSsMRA
import Derived.Test.YthcmnkmfhgoddaaGreatDoorOOdSPA
import Derived.Test.YthcmnkmfhgoddaaGreatDoorORegA
import Derived.Test.YthcmnkmfhgoddaaGreatDoorODpBGA
import Derived.Test.YthcmnkmfhgoddaaGreatDoorODsSMA
import Derived.BigQuiet
namespace Go.Proofs.YthcmnkmfhgoddaaGreatDoor.Ss
open Go.RowKit Bnd
open Go.Proofs.YthcmnkmfhgoddaaGreatDoor.Od (Rep SP ArgP OwnP rv BoxR)
end Go.Proofs.YthcmnkmfhgoddaaGreatDoor.Ss

namespace Go.Proofs.YthcmnkmfhgoddaaGreatDoor.Dp
open Go.RowKit Bnd
open Go.Proofs.YthcmnkmfhgoddaaGreatDoor.O (Bd isB keyB hasB lt)
open Go.Proofs.YthcmnkmfhgoddaaGreatDoor.Ds (De SM dv sameD)
open Go.Proofs.YthcmnkmfhgoddaaGreatDoor.Ss (Ses Zs ses SZ PZ NoP)
open Go.Proofs.YthcmnkmfhgoddaaGreatDoor.Od (Pr SP)
open Go.Proofs.YthcmnkmfhgoddaaGreatDoor.Sf (kl Up getP)
end Go.Proofs.YthcmnkmfhgoddaaGreatDoor.Dp
