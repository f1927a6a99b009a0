/-
 Merge and Add,the program's. Condition: at most 1000 members,lengths at most 2^47.
-/
import Derived.Test.YthcmnkmfhgoddaaGreatDoorVDsSMA
namespace Go.Proofs.YthcmnkmfhgoddaaGreatDoor.Ds
open Go.RowKit Bnd
open Go.Proofs.YthcmnkmfhgoddaaGreatDoor.O (Bd isB keyB hasB)
theorem chkD_yes {d : De} (h : isD d = true) : chkD d = 0:=if_pos h
theorem chkD_no {d : De} (h : isD d = false) : chkD d = 60:=by unfold chkD; rw [if_neg (by simp [h])]
theorem BoxD.lt {n : Nat} {d : De} {s : Value} {w1 : World} (h : BoxD n d s w1) : n < w1.heap.size:=h.1
def Gave (w : World) (p : De × Int) (e : Ending) (w' : World) : Prop:=∃ s',e = .returned (.tuple #[dv p.1 s',.int .i64 p.2]) /\ ArgM w' s' p.1.ms /\ Below w.heap.size w w'
theorem Gave.zero {w w' : World} {n : Int} (h : Below w.heap.size w w') : Gave w (De.zero,n) (.returned (.tuple #[dv De.zero (.slice none 0 0),.int .i64 n])) w':=⟨_,rfl,.nil,h⟩
theorem isD_gen {d : De} (h : isD d = true) : 1 <= d.gen /\ d.gen <= 1099511627776:=(idB_iff _).1 ((isD_iff d).1 h).2.1
theorem isD_next {d : De} (h : isD d = true) : 1 <= d.next /\ d.next <= 1099511627776:=(idB_iff _).1 ((isD_iff d).1 h).2.2.1
end Go.Proofs.YthcmnkmfhgoddaaGreatDoor.Ds
