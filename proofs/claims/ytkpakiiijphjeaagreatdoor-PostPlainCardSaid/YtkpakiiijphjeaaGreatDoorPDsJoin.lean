/-
  Merge and Add, the program's. Condition: at most 1000 members, lengths at most 2^47.
-/
import Derived.Test.YtkpakiiijphjeaaGreatDoorPDsSMA
namespace Go.Proofs.YtkpakiiijphjeaaGreatDoor.Ds
open Go.RowKit Bnd
open Go.Proofs.YtkpakiiijphjeaaGreatDoor.O (Bd isB keyB)
theorem BoxD.lt {n : Nat} {d : De} {s : Value} {w1 : World} (h : BoxD n d s w1) : n < w1.heap.size := h.1
def Gave (w : World) (p : De × Int) (e : Ending) (w' : World) : Prop := ∃ s', e = .returned (.tuple #[dv p.1 s', .int .i64 p.2]) ∧ ArgM w' s' p.1.ms ∧ Below w.heap.size w w'
theorem Gave.zero {w w' : World} {n : Int} (h : Below w.heap.size w w') : Gave w (De.zero, n) (.returned (.tuple #[dv De.zero (.slice none 0 0), .int .i64 n])) w' := ⟨_, rfl, .nil, h⟩
end Go.Proofs.YtkpakiiijphjeaaGreatDoor.Ds
