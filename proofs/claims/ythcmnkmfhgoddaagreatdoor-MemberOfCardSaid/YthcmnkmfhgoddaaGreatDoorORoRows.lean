/-
  Slices of entries, as a walk finds them; rolls as values; append onto a row of entries that the call owns, and onto one that has no room. No condition.
-/
import Derived.Test.YthcmnkmfhgoddaaGreatDoorORoM
import Derived.Test.YthcmnkmfhgoddaaGreatDoorODsPNA
import Derived.Laws.OwnMore
import Derived.Maps.AppendAt
import Derived.Deep.RegionHeld
import Derived.Deep.Upon
import Derived.ArgAppend
namespace Go.Proofs.YthcmnkmfhgoddaaGreatDoor.Ro
open Go.RowKit
abbrev E0 : ByteArray := ⟨#[]⟩
def SE (w : World) (N : Nat) (v : Value) (ms : List En) : Prop :=
  ∃ (A : Option Addr) (c : Nat), v = .slice A ms.length c ∧ (0 < ms.length → ∃ b o : Nat, A = some ⟨b, o, none⟩ ∧ b < N ∧ ∀ i (h : i < ms.length), w.cell? ⟨b, o + i * 2, none⟩ = some (.int .i64 ms[i].1) ∧ w.cell? ⟨b, o + i * 2 + 1, none⟩ = some (.string ms[i].2))
theorem SE.nil (w : World) (N : Nat) : SE w N (.slice none 0 0) [] := ⟨none, 0, rfl, fun h => absurd h (by simp)⟩
theorem SE.keep {w w' : World} {N : Nat} {v : Value} {ms : List En} (h : SE w N v ms) (hk : ∀ p : Addr, p.block < N → w'.cell? p = w.cell? p) : SE w' N v ms := by
  obtain ⟨A, c, hv, h⟩ := h
  refine ⟨A, c, hv, fun h0 => ?_⟩
  obtain ⟨b, o, e, hb, hc⟩ := h h0
  exact ⟨b, o, e, hb, fun i hi => by rw [hk ⟨b, o + i * 2, none⟩ hb, hk ⟨b, o + i * 2 + 1, none⟩ hb]; exact hc i hi⟩
theorem SE.below {w w' : World} {N : Nat} {v : Value} {ms : List En} (h : SE w N v ms) (hb : Below N w w') : SE w' N v ms := h.keep fun _ hp => hb.cell hp
theorem SE.more {w : World} {N N' : Nat} {v : Value} {ms : List En} (h : SE w N v ms) (hB : N ≤ N') : SE w N' v ms := by
  obtain ⟨A, c, hv, h⟩ := h
  refine ⟨A, c, hv, fun h0 => ?_⟩
  obtain ⟨b, o, e, hb, hc⟩ := h h0
  exact ⟨b, o, e, by omega, hc⟩
theorem SE.at_ {w : World} {N k : Nat} {A : Option Addr} {n c : Nat} {ms : List En} (h : SE w N (.slice A n c) ms) (hk : k < ms.length) :
    ∃ b o : Nat, A = some ⟨b, o, none⟩ ∧ b < N ∧ w.cell? ⟨b, o + k * 2, none⟩ = some (.int .i64 ms[k].1) ∧ w.cell? ⟨b, o + k * 2 + 1, none⟩ = some (.string ms[k].2) := by
  obtain ⟨A', c', hv, h⟩ := h
  injection hv with h1 h2 h3
  subst h1
  obtain ⟨b, o, e, hb, hc⟩ := h (by omega)
  exact ⟨b, o, e, hb, hc k hk⟩
theorem SE.form {w : World} {N : Nat} {v : Value} {ms : List En} (h : SE w N v ms) : ∃ A c, v = .slice A ms.length c := by
  obtain ⟨A, c, hv, _⟩ := h; exact ⟨A, c, hv⟩
def ecells : List En → List Value
  | [] => []
  | p :: l => .int .i64 p.1 :: .string p.2 :: ecells l
theorem ecells_length : ∀ l : List En, (ecells l).length = l.length * 2
  | [] => rfl
  | p :: l => by simp [ecells, ecells_length l]; omega
theorem ecells_get : ∀ (l : List En) (i : Nat) (h : i < l.length), (ecells l)[i * 2]? = some (.int .i64 l[i].1) ∧ (ecells l)[i * 2 + 1]? = some (.string l[i].2)
  | p :: l, 0, _ => ⟨rfl, rfl⟩
  | p :: l, i + 1, h => by
    have := ecells_get l i (by simpa using h)
    have e : (i + 1) * 2 = i * 2 + 1 + 1 := by omega
    rw [e]
    exact this
theorem ecells_at {l : List En} {j : Nat} {u : Value} (h : (ecells l)[j]? = some u) : ∃ i, ∃ hi : i < l.length, (j = i * 2 ∧ u = .int .i64 l[i].1) ∨ (j = i * 2 + 1 ∧ u = .string l[i].2) := by
  have hj : j < (ecells l).length := (List.getElem?_eq_some_iff.1 h).1
  rw [ecells_length] at hj
  have hi : j / 2 < l.length := by omega
  obtain ⟨g1, g2⟩ := ecells_get l (j / 2) hi
  refine ⟨j / 2, hi, ?_⟩
  rcases Nat.mod_two_eq_zero_or_one j with h0 | h0
  · have e : j / 2 * 2 = j := by omega
    rw [e, h] at g1
    exact .inl ⟨e.symm, Option.some.inj g1⟩
  · have e : j / 2 * 2 + 1 = j := by omega
    rw [e, h] at g2
    exact .inr ⟨e.symm, Option.some.inj g2⟩
abbrev OwnE (w : World) (base : Nat) (v : Value) (ms : List En) : Prop := w.ownsRow base 47 2 v ms.length (ecells ms)
theorem SE.of_own {w : World} {base : Nat} {v : Value} {ms : List En} (h : OwnE w base v ms) : SE w w.heap.size v ms := by
  rcases h.2 with ⟨rfl, h0⟩ | ⟨g, cap, cur, rfl, _, hh, _⟩
  · have : ms = [] := List.length_eq_zero_iff.1 h0
    subst this
    exact SE.nil w _
  · refine ⟨_, _, rfl, fun h0 => ⟨g, 0, rfl, ?_, fun i hi => ?_⟩⟩
    · exact (Array.getElem?_eq_some_iff.1 hh).1
    · obtain ⟨g1, g2⟩ := ecells_get ms i hi
      have e1 := h.cells (g := g) rfl (i * 2) _ g1
      have e2 := h.cells (g := g) rfl (i * 2 + 1) _ g2
      rw [Addr.add_lit] at e1 e2
      exact ⟨e1, e2⟩
inductive ArgE (w : World) : Value → List En → Prop
  | nil : ArgE w (.slice none 0 0) []
  | some (b o : Nat) (c : Nat) (ms : List En) (hc : ms.length ≤ c) (h : SE w w.heap.size (.slice (some ⟨b, o, none⟩) ms.length c) ms) : ArgE w (.slice (some ⟨b, o, none⟩) ms.length c) ms
  | empty (a : Addr) (c : Nat) : ArgE w (.slice (some a) 0 c) []
theorem ArgE.sm {w : World} {v : Value} {ms : List En} (h : ArgE w v ms) : SE w w.heap.size v ms := by
  cases h with
  | nil => exact SE.nil _ _
  | some b o c ms hc h => exact h
  | empty a c => exact ⟨_, _, rfl, fun h => absurd h (by simp)⟩
theorem ArgE.keep {w w' : World} {v : Value} {ms : List En} (h : ArgE w v ms) (hb : Below w.heap.size w w') : ArgE w' v ms := by
  cases h with
  | nil => exact .nil
  | some b o c ms hc h => exact .some b o c ms hc ((h.below hb).more hb.size)
  | empty a c => exact .empty a c
theorem ArgE.form {w : World} {v : Value} {ms : List En} (h : ArgE w v ms) : ∃ A c, v = .slice A ms.length c := h.sm.form
theorem ArgE.of_own {w : World} {base : Nat} {v : Value} {ms : List En} (h : OwnE w base v ms) : ArgE w v ms := by
  have hs := SE.of_own h
  rcases h.2 with ⟨rfl, h0⟩ | ⟨g, cap, cur, rfl, _, _, hn, _⟩
  · have : ms = [] := List.length_eq_zero_iff.1 h0
    subst this
    exact .nil
  · exact .some _ _ _ _ hn hs
theorem news_of {w : World} {ad : Addr} {c : Nat} {ms : List En} (h : SE w w.heap.size (.slice (some ad) ms.length c) ms) : ∀ j u, (ecells ms)[j]? = some u → w.cell? (ad.add j) = some u := by
  intro j u hj
  obtain ⟨i, hi, hu⟩ := ecells_at hj
  obtain ⟨b, o, e, _, h1, h2⟩ := h.at_ hi
  obtain rfl := Option.some.inj e
  rw [Addr.add_lit]
  rcases hu with ⟨rfl, rfl⟩ | ⟨rfl, rfl⟩
  · exact h1
  · exact h2
theorem infoE : (Tryz.prog.info? 47).map (fun i => (i.zero, i.size, i.bytes)) = some (some (.agg #[.int .i64 0, .string E0]), 2, 24) := by kernel_rfl
def Off (n : Nat) (v : Value) : Prop := ∀ b o k c, v = .slice (some ⟨b, o, none⟩) k c → 0 < k → b ≠ n
def New (B : Nat) (v : Value) : Prop := ∀ b o k c, v = .slice (some ⟨b, o, none⟩) k c → 0 < k → B ≤ b
theorem New.off {B n : Nat} {v : Value} (h : New B v) (hn : n < B) : Off n v := fun b o k c e hk => by have := h b o k c e hk; omega
theorem New.more {B B' : Nat} {v : Value} (h : New B v) (hn : B' ≤ B) : New B' v := fun b o k c e hk => Nat.le_trans hn (h b o k c e hk)
theorem New.of_own {w : World} {base : Nat} {v : Value} {ms : List En} (h : OwnE w base v ms) : New base v := fun b o k c e hk => by
  rcases h.2 with ⟨e1, _⟩ | ⟨g, cap, cur, e1, hb, _⟩
  · rw [e1] at e; cases e
  · rw [e1] at e
    injection e with e2
    injection e2 with e3
    injection e3 with e4
    omega
theorem SE.off {w : World} {N n : Nat} {v : Value} {ms : List En} (h : SE w N v ms) (hn : N ≤ n) : Off n v := fun b o k c e hk => by
  obtain ⟨A, c', e1, h1⟩ := h
  rw [e1] at e
  injection e with e2 e3 e4
  obtain ⟨b', o', e5, hb, _⟩ := h1 (by omega)
  rw [e2] at e5
  injection e5 with e6
  injection e6 with e7
  omega
theorem ArgE.set {w : World} {v : Value} {ms : List En} (h : ArgE w v ms) {n i : Nat} (ho : Off n v) (u : Value) : ArgE (w.setCell ⟨n, i, none⟩ u) v ms := by
  cases h with
  | nil => exact .nil
  | empty a c => exact .empty a c
  | some b o c ms hc h =>
    refine .some b o c ms hc ?_
    obtain ⟨A, c', e, h1⟩ := h
    injection e with e1 e2 e3
    subst e1 e3
    refine ⟨_, _, rfl, fun h0 => ?_⟩
    obtain ⟨b', o', e', hb, hq⟩ := h1 h0
    cases e'
    have hne : b ≠ n := ho b o _ c rfl h0
    refine ⟨b, o, rfl, by simpa using hb, fun i hi => ?_⟩
    rw [World.cell?_setCell_far w _ _ u (Ne.symm hne), World.cell?_setCell_far w _ _ u (Ne.symm hne)]
    exact hq i hi
def BoxL (n : Nat) (r : Lg) (s : Value) (w' : World) : Prop := n < w'.heap.size ∧ (w'.cell? ⟨n, 0, none⟩ = some (.int .i64 r.base) ∧ w'.cell? ⟨n, 1, none⟩ = some (.int .i64 r.bt) ∧ w'.cell? ⟨n, 2, none⟩ = some s) ∧ ∀ o, w'.frozen? ⟨n, o, none⟩ = false
theorem BoxL.keep {n : Nat} {r : Lg} {s : Value} {w1 w2 : World} (h : BoxL n r s w1) (hb : Below w1.heap.size w1 w2) : BoxL n r s w2 := by
  obtain ⟨h0, ⟨h1, h2, h3⟩, hf⟩ := h
  have hc : ∀ o, w2.cell? ⟨n, o, none⟩ = w1.cell? ⟨n, o, none⟩ := fun o => hb.cell (p := ⟨n, o, none⟩) h0
  refine ⟨Nat.lt_of_lt_of_le h0 hb.size, ⟨?_, ?_, ?_⟩, fun o => (hb.frozen (p := ⟨n, o, none⟩) h0).trans (hf o)⟩
  all_goals rw [hc]; assumption
theorem BoxL.kept {N n : Nat} {r : Lg} {s : Value} {w1 w2 : World} (h : BoxL n r s w1) (hn : n < N) (hb : Below N w1 w2) : BoxL n r s w2 := by
  obtain ⟨h0, ⟨h1, h2, h3⟩, hf⟩ := h
  have hc : ∀ o, w2.cell? ⟨n, o, none⟩ = w1.cell? ⟨n, o, none⟩ := fun o => hb.cell (p := ⟨n, o, none⟩) hn
  refine ⟨Nat.lt_of_lt_of_le h0 hb.size, ⟨?_, ?_, ?_⟩, fun o => (hb.frozen (p := ⟨n, o, none⟩) hn).trans (hf o)⟩
  all_goals rw [hc]; assumption
theorem BoxL.alloc {n : Nat} {r : Lg} {s : Value} {w1 : World} (h : BoxL n r s w1) (o : Obj) : BoxL n r s (w1.alloc o) :=
  h.keep ((Below.refl _ w1).alloc (Nat.le_refl _) o)
theorem BoxL.drew {n : Nat} {r : Lg} {s : Value} {w1 : World} (h : BoxL n r s w1) : BoxL n r s w1.drew := h
theorem BoxL.other {n : Nat} {r : Lg} {s : Value} {w1 : World} (h : BoxL n r s w1) {a : Addr} (ha : a.block ≠ n) (u : Value) : BoxL n r s (w1.setCell a u) := by
  obtain ⟨h0, ⟨h1, h2, h3⟩, hf⟩ := h
  have hc : ∀ o, (w1.setCell a u).cell? ⟨n, o, none⟩ = w1.cell? ⟨n, o, none⟩ := fun o => World.cell?_setCell_far w1 a _ u ha
  refine ⟨by simpa using h0, ⟨?_, ?_, ?_⟩, fun o => by rw [World.frozen?_setCell]; exact hf o⟩
  all_goals rw [hc]; assumption
theorem BoxL.put {n : Nat} {r0 : Lg} {s0 : Value} {w1 : World} (h : BoxL n r0 s0 w1) (r : Lg) (s : Value) :
    BoxL n r s (((w1.setCell ⟨n, 0, none⟩ (.int .i64 r.base)).setCell ⟨n, 1, none⟩ (.int .i64 r.bt)).setCell ⟨n, 2, none⟩ s) := by
  obtain ⟨h0, ⟨h1, h2, h3⟩, hf⟩ := h
  refine ⟨by simpa using h0, ⟨?_, ?_, ?_⟩, fun o => by simp [World.frozen?_setCell, hf]⟩
  all_goals simp [go_sem, h1, h2, h3]
end Go.Proofs.YthcmnkmfhgoddaaGreatDoor.Ro
