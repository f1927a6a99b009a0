/-
 Logs of entries,reckoned without a program: which may be,the last one,terms,parts,what comes of a merge,texts there and back. No condition.
-/
import Derived.Test.YthcmnkmfhgoddaaGreatDoorVOrdA
namespace Go.Proofs.YthcmnkmfhgoddaaGreatDoor.Ro
open Go.Proofs.YthcmnkmfhgoddaaGreatDoor.M (tieT tieT_cons tieT_nil untieT untie_some untie_spec numT intT inR intT_some intT_spec numT_length)
abbrev En:=Int × ByteArray
structure Lg where
 base : Int
 bt : Int
 es : List En
 deriving DecidableEq
def Lg.zero : Lg:=⟨0,0,[]⟩
end Go.Proofs.YthcmnkmfhgoddaaGreatDoor.Ro
