/-
 The directory's keys: Level, Meta, Search, the program's and the document's. Condition: lengths at most 2^47 - 100.
-/
import Derived.Test.YthcmnkmfhgoddaaGreatDoorKBndA
import Derived.Test.YthcmnkmfhgoddaaGreatDoorKShelf
import Derived.LoopTactic
import Derived.Outline
namespace Go.Proofs.YthcmnkmfhgoddaaGreatDoor.Bnd
open Go.RowKit O
def levelT : Text -> Int
 | [] => 3
 | c :: _ => if c.toNat = 0 then 3 else if c.toNat <= 2 then (c.toNat : Int) else 0
end Go.Proofs.YthcmnkmfhgoddaaGreatDoor.Bnd
