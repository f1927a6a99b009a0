/-
  Merge and Add, the program's. Condition: at most 1000 members, lengths at most 2^47.
-/
import Derived.Test.YthglghlkchhjlaaGreatDoorDsMake
namespace Go.Proofs.YthglghlkchhjlaaGreatDoor.Ds
open Go.RowKit Bnd
open Go.Proofs.YthglghlkchhjlaaGreatDoor.O (Bd isB keyB hasB nextB)

theorem chkD_yes {d : De} (h : isD d = true) : chkD d = 0 := if_pos h
theorem chkD_no {d : De} (h : isD d = false) : chkD d = 60 := by unfold chkD; rw [if_neg (by simp [h])]
/-- its bounds are written anew -/
theorem BoxD.set12 {n : Nat} {d : De} {s : Value} {w1 : World} (h : BoxD n d s w1) (f t : ByteArray) : BoxD n { d with f := f, t := t } s ((w1.setCell ⟨n, 1, none⟩ (.string f)).setCell ⟨n, 2, none⟩ (.string t)) := by
  obtain ⟨h0, ⟨h1, h2, h3, h4, h5, h6⟩, hf⟩ := h
  refine ⟨by simpa using h0, ⟨?_, ?_, ?_, ?_, ?_, ?_⟩, fun o => by simp [World.frozen?_setCell, hf]⟩
  all_goals simp [go_sem, h1, h2, h3, h4, h5, h6]
theorem BoxD.lt {n : Nat} {d : De} {s : Value} {w1 : World} (h : BoxD n d s w1) : n < w1.heap.size := h.1
theorem boxes3 {w w1 : World} (l : De) (sl : Value) (r : De) (sr : Value)
    (b1 : Below (((w.alloc (.cells #[.int .i64 l.id, .string l.f, .string l.t, .int .i64 l.gen, sl, .int .i64 l.next] 70)).alloc (.cells #[.int .i64 r.id, .string r.f, .string r.t, .int .i64 r.gen, sr, .int .i64 r.next] 70)).alloc (.cells #[.int .i64 0, .string ⟨#[]⟩, .string ⟨#[]⟩, .int .i64 0, .slice none 0 0, .int .i64 0] 70)).heap.size
      (((w.alloc (.cells #[.int .i64 l.id, .string l.f, .string l.t, .int .i64 l.gen, sl, .int .i64 l.next] 70)).alloc (.cells #[.int .i64 r.id, .string r.f, .string r.t, .int .i64 r.gen, sr, .int .i64 r.next] 70)).alloc (.cells #[.int .i64 0, .string ⟨#[]⟩, .string ⟨#[]⟩, .int .i64 0, .slice none 0 0, .int .i64 0] 70)) w1) :
    BoxD w.heap.size l sl w1 ∧ BoxD (w.heap.size + 1) r sr w1 ∧ BoxD (w.heap.size + 2) De.zero (.slice none 0 0) w1 ∧ Below w.heap.size w w1 := by
  have B1 := ((BoxD.new (w.alloc (.cells #[.int .i64 l.id, .string l.f, .string l.t, .int .i64 l.gen, sl, .int .i64 l.next] 70)) r sr).alloc (.cells #[.int .i64 0, .string ⟨#[]⟩, .string ⟨#[]⟩, .int .i64 0, .slice none 0 0, .int .i64 0] 70)).keep b1
  have B2 := (BoxD.zero ((w.alloc (.cells #[.int .i64 l.id, .string l.f, .string l.t, .int .i64 l.gen, sl, .int .i64 l.next] 70)).alloc (.cells #[.int .i64 r.id, .string r.f, .string r.t, .int .i64 r.gen, sr, .int .i64 r.next] 70))).keep b1
  rw [World.size_alloc] at B1
  rw [World.size_alloc, World.size_alloc] at B2
  refine ⟨(((BoxD.new w l sl).alloc _).alloc _).keep b1, B1, B2, (show Below w.heap.size w _ from (by (repeat' (first | with_reducible assumption | with_reducible exact Below.refl _ _ | with_reducible refine Below.alloc ?_ ?_ _ | with_reducible refine Below.setCell ?_ ?_ _ | with_reducible refine Below.drew ?_ | omega | (simp; done) | (simp; omega))))).trans (b1.mono (by simp; omega))⟩

/-- what a call answers: a descriptor, and a number -/
def Gave (w : World) (p : De × Int) (e : Ending) (w' : World) : Prop := ∃ s', e = .returned (.tuple #[dv p.1 s', .int .i64 p.2]) ∧ ArgM w' s' p.1.ms ∧ Below w.heap.size w w'
theorem Gave.zero {w w' : World} {n : Int} (h : Below w.heap.size w w') : Gave w (De.zero, n) (.returned (.tuple #[dv De.zero (.slice none 0 0), .int .i64 n])) w' := ⟨_, rfl, .nil, h⟩
theorem isD_gen {d : De} (h : isD d = true) : 1 ≤ d.gen ∧ d.gen ≤ 1099511627776 := (idB_iff _).1 ((isD_iff d).1 h).2.1
theorem isD_next {d : De} (h : isD d = true) : 1 ≤ d.next ∧ d.next ≤ 1099511627776 := (idB_iff _).1 ((isD_iff d).1 h).2.2.1

end Go.Proofs.YthglghlkchhjlaaGreatDoor.Ds
