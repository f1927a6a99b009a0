/-
  Slices of strings, as lists of texts; and a builder carried over whatever leaves every old block as it stood. No condition.
-/
import Derived.Test.YtimodohcihnoiaaDoorRFirst
import Derived.Laws.OwnMore
import Derived.Maps.AppendAt
namespace Go.Proofs.YtimodohcihnoiaaDoor
open Go.RowKit M

theorem add_block (a : Addr) (n : Nat) : (a.add n).block = a.block := by unfold Addr.add; split <;> rfl

/-- In the world w the slice value v holds the strings ss; its cells lie below block B. -/
def SL (w : World) (B : Nat) (v : Value) (ss : List ByteArray) : Prop :=
  ∃ (A : Option Addr) (c : Nat), v = .slice A ss.length c ∧ (0 < ss.length → ∃ ad : Addr, A = some ad ∧ ad.block < B ∧ ∀ i (h : i < ss.length), w.cell? (ad.add i) = some (.string ss[i]))

theorem SL.nil (w : World) (B : Nat) : SL w B (.slice none 0 0) [] := ⟨none, 0, rfl, fun h => absurd h (by simp)⟩
theorem SL.keep {w w' : World} {B : Nat} {v : Value} {ss : List ByteArray} (h : SL w B v ss) (hk : ∀ p : Addr, p.block < B → w'.cell? p = w.cell? p) : SL w' B v ss := by
  obtain ⟨A, c, hv, h⟩ := h
  refine ⟨A, c, hv, fun h0 => ?_⟩
  obtain ⟨ad, e, hb, hc⟩ := h h0
  exact ⟨ad, e, hb, fun i hi => by rw [hk _ (by rw [add_block]; exact hb)]; exact hc i hi⟩
theorem SL.below {w w' : World} {B : Nat} {v : Value} {ss : List ByteArray} (h : SL w B v ss) (hb : Below B w w') : SL w' B v ss := h.keep fun _ hp => hb.cell hp
theorem SL.more {w : World} {B B' : Nat} {v : Value} {ss : List ByteArray} (h : SL w B v ss) (hB : B ≤ B') : SL w B' v ss := by
  obtain ⟨A, c, hv, h⟩ := h
  refine ⟨A, c, hv, fun h0 => ?_⟩
  obtain ⟨ad, e, hb, hc⟩ := h h0
  exact ⟨ad, e, by omega, hc⟩
theorem SL.at_ {w : World} {B k : Nat} {A : Option Addr} {n c : Nat} {ss : List ByteArray} (h : SL w B (.slice A n c) ss) (hk : k < ss.length) :
    ∃ ad : Addr, A = some ad ∧ ad.block < B ∧ w.cell? (ad.add k) = some (.string ss[k]) := by
  obtain ⟨A', c', hv, h⟩ := h
  injection hv with h1 h2 h3
  subst h1
  obtain ⟨ad, e, hb, hc⟩ := h (by omega)
  exact ⟨ad, e, hb, hc k hk⟩
theorem SL.form {w : World} {B : Nat} {v : Value} {ss : List ByteArray} (h : SL w B v ss) : ∃ A c, v = .slice A ss.length c := by
  obtain ⟨A, c, hv, _⟩ := h; exact ⟨A, c, hv⟩
/-- a row of the call's own -/
theorem SL.of_own {w : World} {base : Nat} {v : Value} {ss : List ByteArray} (h : w.ownsRow base 9 1 v ss.length (ss.map Value.string)) : SL w w.heap.size v ss := by
  rcases h.2 with ⟨rfl, h0⟩ | ⟨g, cap, cur, rfl, _, hh, _⟩
  · have : ss = [] := List.length_eq_zero_iff.1 h0
    subst this
    exact SL.nil w _
  · refine ⟨_, _, rfl, fun h0 => ⟨⟨g, 0, none⟩, rfl, ?_, fun i hi => ?_⟩⟩
    · exact (Array.getElem?_eq_some_iff.1 hh).1
    · exact h.cells (g := g) rfl i _ (by simp [hi])

theorem builder_below {B b : Nat} {l : List UInt8} {w w' : World} (h : IsB B b l w) (hb : Below w.heap.size w w') : IsB B b l w' := by
  have go : ∀ {p : Value}, Lib.BuilderAtF 88 5 B b p (Lib.byteCells l) w → Lib.BuilderAtF 88 5 B b p (Lib.byteCells l) w' := by
    rintro p ⟨hB, v, hbk, hown, hne⟩
    have hlt : b < w.heap.size := (Array.getElem?_eq_some_iff.1 hbk).1
    exact ⟨hB, v, (hb.block b hlt).trans hbk, hown.kept (row := none) ⟨hb.os, hb.tape, hb.output, hb.size, fun k hk _ => hb.block k hk⟩ (Classical.em _), hne⟩
  rcases h with h | h
  · exact .inl (go h)
  · exact .inr (go h)

end Go.Proofs.YtimodohcihnoiaaDoor
