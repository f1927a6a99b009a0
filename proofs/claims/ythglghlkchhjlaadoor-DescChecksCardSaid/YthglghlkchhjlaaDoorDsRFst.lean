/-
  The document's First. Condition: at most 1000 nodes.
-/
import Derived.Test.YthglghlkchhjlaaDoorDsRight
import Derived.Test.YthglghlkchhjlaaDoorDsPut
import Derived.Test.YthglghlkchhjlaaDoorDsJoin
import Derived.Test.YthglghlkchhjlaaDoorRegA
namespace Go.Proofs.YthglghlkchhjlaaDoor.Ds
open Go.RowKit Bnd

/-- the first range, as the document's grows -/
def rfirstK (ns : List Int) (k : Nat) : De := ⟨1, ⟨#[]⟩, ⟨#[]⟩, 1, numbered 1 (ns.take k), (ns.length : Int) + 1⟩

/-- one member is put behind the others, whichever operation comes first -/
structure RF (N n : Nat) (W : World) (v : Value) (xs : List Mem) (m : Mem) (L : Nat → Bool) (u : Nat → Value) (wx : World) : Prop where
  w0 : L 9 = false → wx = W.drew
  w9 : L 9 = true → L 10 = false → wx = W.drew.alloc (.cells #[.int .i64 m.1, .int .i64 m.2] 30)
  wa : L 10 = true → L 12 = false → Below N W wx ∧ OwnM wx N (u 10) (xs ++ [m])
  wz : L 12 = true → ∃ w', (Below N W w' ∧ OwnM w' N (u 10) (xs ++ [m])) ∧ wx = w'.setCell ⟨n, 4, none⟩ (u 10)

end Go.Proofs.YthglghlkchhjlaaDoor.Ds
