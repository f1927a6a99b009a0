/-
  Whether a plot may be,the program's: areEaten,arePairs,Check. Conditions: lengths at most 2^47.
  Where a key stands in a plot's pairs (sort.Search at place's closure),and Get,the program's. Conditions: rising keys; lengths at most 2^47.
-/
import Derived.Test.YthcmnkmfhgoddaaGreatDoorVDpMA
import Derived.Test.YthcmnkmfhgoddaaGreatDoorVSsBoA
namespace Go.Proofs.YthcmnkmfhgoddaaGreatDoor.Dp
open Go.RowKit Bnd
open Go.Proofs.YthcmnkmfhgoddaaGreatDoor.O (Bd isB keyB hasB lt lt_tri lt_irrefl lt_asymm)
open Go.Proofs.YthcmnkmfhgoddaaGreatDoor.Ds (De SM isD chkD dv)
open Go.Proofs.YthcmnkmfhgoddaaGreatDoor.Ss (Ses Zs ses SZ PZ NoP isS chkS)
open Go.Proofs.YthcmnkmfhgoddaaGreatDoor.Od (Pr SP amongB)
theorem HP.open {w : World} {N : Nat} {o : Ph} (h : HP w N o) : ∃ (d : De) (ps : List Pr) (zs : List Zs) (fr : Bool) (ea : List Int) (al : Int) (A B C D : Option Addr) (a b c e : Nat),o = ⟨d,.slice A d.ms.length a,ps,.slice B ps.length b,zs,.slice C zs.length c,fr,ea,.slice D ea.length e,al⟩:=by
 obtain ⟨A,a,B,b,C,c,D,e,h1,h2,h3,h4⟩:=h.form
 obtain ⟨d,sm,ps,sp,zs,sz,fr,ea,se,al⟩:=o
 simp only at h1 h2 h3 h4
 subst h1 h2 h3 h4
 exact ⟨d,ps,zs,fr,ea,al,A,B,C,D,a,b,c,e,rfl⟩
end Go.Proofs.YthcmnkmfhgoddaaGreatDoor.Dp

namespace Go.Proofs.YthcmnkmfhgoddaaGreatDoor.Dp
open Go.RowKit Bnd
open Go.Proofs.YthcmnkmfhgoddaaGreatDoor.O (Bd isB keyB hasB lt lt_tri lt_irrefl lt_asymm)
open Go.Proofs.YthcmnkmfhgoddaaGreatDoor.Ds (De SM)
open Go.Proofs.YthcmnkmfhgoddaaGreatDoor.Ss (Ses Zs ses SZ PZ NoP)
open Go.Proofs.YthcmnkmfhgoddaaGreatDoor.Od (Pr SP)
open Go.Proofs.YthcmnkmfhgoddaaGreatDoor.Sf (kl Up getP)
def gotV (o : Option ByteArray) : Value:=match o with
 | some v => .tuple #[.string v,.bool true]
 | none => .tuple #[.string Od.E0,.bool false]
end Go.Proofs.YthcmnkmfhgoddaaGreatDoor.Dp
