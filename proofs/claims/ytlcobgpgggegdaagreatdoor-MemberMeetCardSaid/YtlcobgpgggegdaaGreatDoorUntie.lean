
/-
  knot.Untie and the document's Untie, at every text. Condition: lengths below 2^47; the library's variables hold what their types allow.
-/
import Derived.Test.YtlcobgpgggegdaaGreatDoorTieA
namespace Go.Proofs.YtlcobgpgggegdaaGreatDoor
open Go.RowKit M

/-- what both hand back: the texts in a slice that lies in what the call made, or none -/
def UntieOut (o : Option (List Text)) (e : Ending) (w' : World) : Prop :=
  match o with
  | some l => ∃ v ss, e = .returned (.tuple #[v, .int .i64 0]) ∧ texts ss = l ∧ SL w' w'.heap.size v ss
  | none => e = .returned (.tuple #[.slice none 0 0, .int .i64 10])

theorem texts_length (ss : List ByteArray) : (texts ss).length = ss.length := by simp [texts]
theorem texts_snoc (ss : List ByteArray) (x : ByteArray) : texts (ss ++ [x]) = texts ss ++ [x.data.toList] := by simp [texts]
theorem own_below {w w' : World} {base : Nat} {v : Value} {n : Nat} {xs : List Value} (h : w.ownsRow base 9 1 v n xs) (hb : Below w.heap.size w w') : w'.ownsRow base 9 1 v n xs :=
  h.kept (row := none) ⟨hb.os, hb.tape, hb.output, hb.size, fun k hk _ => hb.block k hk⟩ (Classical.em _)
theorem own_form {w : World} {base : Nat} {v : Value} {ss : List ByteArray} (h : w.ownsRow base 9 1 v ss.length (ss.map Value.string)) : ∃ A c, v = .slice A ss.length c := (SL.of_own h).form
theorem first_is (t : ByteArray) {x r : Text} (h : firstT t.data.toList = some (x, r)) : ∃ X R : ByteArray, firstR t (firstT t.data.toList) = .tuple #[.string X, .string R, .int .i64 0] ∧ X.data.toList = x ∧ R.data.toList = r :=
  ⟨⟨x.toArray⟩, ⟨r.toArray⟩, by rw [h]; rfl, rfl, rfl⟩

end Go.Proofs.YtlcobgpgggegdaaGreatDoor
