
/-
  The directory's keys: Level, Meta, Search, the program's and the document's. Condition: lengths at most 2^47 - 100.
-/
import Derived.Test.YtoomkdofoceiaaaGreatDoorBndA
import Derived.Test.YtoomkdofoceiaaaGreatDoorShelf
import Derived.LoopTactic
import Derived.Outline
namespace Go.Proofs.YtoomkdofoceiaaaGreatDoor.Bnd
open Go.RowKit O
def levelT : Text → Int
  | [] => 3
  | c :: _ => if c.toNat = 0 then 3 else if c.toNat ≤ 2 then (c.toNat : Int) else 0
def lvB (n : Int) : Bool := decide (1 ≤ n) && decide (n ≤ 2)
def metaS (n : Int) (t : Text) : Text := if n = 1 then metaT 1 t else if n = 2 then metaT 2 t else []
end Go.Proofs.YtoomkdofoceiaaaGreatDoor.Bnd
