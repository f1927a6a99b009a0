/-
  A box with a descriptor, and its members. No condition.
-/
import Derived.Test.YthglghlkchhjlaaDoorDsJoin
namespace Go.Proofs.YthglghlkchhjlaaDoor.Ds
open Go.RowKit Bnd

/-- a box with a descriptor, and its members -/
def Held (n : Nat) (x : De) (s : Value) (w : World) : Prop := BoxD n x s w ∧ ArgM w s x.ms
theorem Held.keep {n : Nat} {x : De} {s : Value} {w w' : World} (h : Held n x s w) (hb : Below w.heap.size w w') : Held n x s w' := ⟨h.1.keep hb, h.2.keep hb⟩
theorem Held.new (w : World) (x : De) (s : Value) (h : ArgM w s x.ms) : Held w.heap.size x s (w.alloc (.cells #[.int .i64 x.id, .string x.f, .string x.t, .int .i64 x.gen, s, .int .i64 x.next] 26)) :=
  ⟨BoxD.new w x s, h.keep ((Below.refl _ w).alloc (Nat.le_refl _) _)⟩

theorem gave_form {w w' : World} {p : De × Int} {e : Ending} (h : Gave w p e w') : ∃ A c, e = .returned (.tuple #[dv p.1 (.slice A p.1.ms.length c), .int .i64 p.2]) ∧ ArgM w' (.slice A p.1.ms.length c) p.1.ms ∧ Below w.heap.size w w' := by
  obtain ⟨s, h1, h2, h3⟩ := h
  obtain ⟨A, c, rfl⟩ := h2.form
  exact ⟨A, c, h1, h2, h3⟩
end Go.Proofs.YthglghlkchhjlaaDoor.Ds
