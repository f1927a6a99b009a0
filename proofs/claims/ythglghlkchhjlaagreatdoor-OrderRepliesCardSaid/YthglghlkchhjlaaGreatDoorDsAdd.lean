/-
  Add, the program's. Condition: at most 1000 members, lengths at most 2^47.
-/
import Derived.Test.YthglghlkchhjlaaGreatDoorDsJoin
namespace Go.Proofs.YthglghlkchhjlaaGreatDoor.Ds
open Go.RowKit Bnd
open Go.Proofs.YthglghlkchhjlaaGreatDoor.O (Bd isB keyB hasB nextB)

theorem boxes2 {w w1 : World} (l : De) (sl : Value)
    (b1 : Below ((w.alloc (.cells #[.int .i64 l.id, .string l.f, .string l.t, .int .i64 l.gen, sl, .int .i64 l.next] 70)).alloc (.cells #[.int .i64 0, .string ⟨#[]⟩, .string ⟨#[]⟩, .int .i64 0, .slice none 0 0, .int .i64 0] 70)).heap.size
      ((w.alloc (.cells #[.int .i64 l.id, .string l.f, .string l.t, .int .i64 l.gen, sl, .int .i64 l.next] 70)).alloc (.cells #[.int .i64 0, .string ⟨#[]⟩, .string ⟨#[]⟩, .int .i64 0, .slice none 0 0, .int .i64 0] 70)) w1) :
    BoxD w.heap.size l sl w1 ∧ BoxD (w.heap.size + 1) De.zero (.slice none 0 0) w1 ∧ Below w.heap.size w w1 := by
  have B2 := (BoxD.zero (w.alloc (.cells #[.int .i64 l.id, .string l.f, .string l.t, .int .i64 l.gen, sl, .int .i64 l.next] 70))).keep b1
  rw [World.size_alloc] at B2
  exact ⟨((BoxD.new w l sl).alloc _).keep b1, B2, (show Below w.heap.size w _ from (by (repeat' (first | with_reducible assumption | with_reducible exact Below.refl _ _ | with_reducible refine Below.alloc ?_ ?_ _ | with_reducible refine Below.setCell ?_ ?_ _ | with_reducible refine Below.drew ?_ | omega | (simp; done) | (simp; omega))))).trans (b1.mono (by simp; omega))⟩

theorem arg_one_at (w : World) (p : Mem) (k : Nat) (h : w.heap.size = k) : ArgM (w.alloc (.cells #[.int .i64 p.1, .int .i64 p.2] 104)) (.slice (some ⟨k, 0, none⟩) 1 1) [p] := by
  subst h; exact arg_one w p

end Go.Proofs.YthglghlkchhjlaaGreatDoor.Ds
