/-
  Slices of members, as lists of pairs of numbers; descriptors as values; append onto a row of members that the call owns. No condition.
-/
import Derived.Test.YticikmkehobblaaDoorDsA
import Derived.Test.YticikmkehobblaaDoorBndA
import Derived.Laws.OwnMore
import Derived.Maps.AppendAt
import Derived.Deep.RegionHeld
namespace Go.Proofs.YticikmkehobblaaDoor.Ds
open Go.RowKit
open Go.Proofs.YticikmkehobblaaDoor.O (Bd isB keyB hasB nextB)

abbrev mv (m : Mem) : Value := .agg #[.int .i64 m.1, .int .i64 m.2]
/-- a descriptor whose members are the slice s -/
abbrev dv (d : De) (s : Value) : Value := .agg #[.int .i64 d.id, .string d.f, .string d.t, .int .i64 d.gen, s, .int .i64 d.next]

/-- In the world w the slice value v holds the members ms; its cells lie below block N. -/
def SM (w : World) (N : Nat) (v : Value) (ms : List Mem) : Prop :=
  ∃ (A : Option Addr) (c : Nat), v = .slice A ms.length c ∧ (0 < ms.length → ∃ b o : Nat, A = some ⟨b, o, none⟩ ∧ b < N ∧ ∀ i (h : i < ms.length), w.cell? ⟨b, o + i * 2, none⟩ = some (.int .i64 ms[i].1) ∧ w.cell? ⟨b, o + i * 2 + 1, none⟩ = some (.int .i64 ms[i].2))

theorem SM.nil (w : World) (N : Nat) : SM w N (.slice none 0 0) [] := ⟨none, 0, rfl, fun h => absurd h (by simp)⟩
theorem SM.keep {w w' : World} {N : Nat} {v : Value} {ms : List Mem} (h : SM w N v ms) (hk : ∀ p : Addr, p.block < N → w'.cell? p = w.cell? p) : SM w' N v ms := by
  obtain ⟨A, c, hv, h⟩ := h
  refine ⟨A, c, hv, fun h0 => ?_⟩
  obtain ⟨b, o, e, hb, hc⟩ := h h0
  exact ⟨b, o, e, hb, fun i hi => by rw [hk ⟨b, o + i * 2, none⟩ hb, hk ⟨b, o + i * 2 + 1, none⟩ hb]; exact hc i hi⟩
theorem SM.below {w w' : World} {N : Nat} {v : Value} {ms : List Mem} (h : SM w N v ms) (hb : Below N w w') : SM w' N v ms := h.keep fun _ hp => hb.cell hp
theorem SM.more {w : World} {N N' : Nat} {v : Value} {ms : List Mem} (h : SM w N v ms) (hB : N ≤ N') : SM w N' v ms := by
  obtain ⟨A, c, hv, h⟩ := h
  refine ⟨A, c, hv, fun h0 => ?_⟩
  obtain ⟨b, o, e, hb, hc⟩ := h h0
  exact ⟨b, o, e, by omega, hc⟩
theorem SM.at_ {w : World} {N k : Nat} {A : Option Addr} {n c : Nat} {ms : List Mem} (h : SM w N (.slice A n c) ms) (hk : k < ms.length) :
    ∃ b o : Nat, A = some ⟨b, o, none⟩ ∧ b < N ∧ w.cell? ⟨b, o + k * 2, none⟩ = some (.int .i64 ms[k].1) ∧ w.cell? ⟨b, o + k * 2 + 1, none⟩ = some (.int .i64 ms[k].2) := by
  obtain ⟨A', c', hv, h⟩ := h
  injection hv with h1 h2 h3
  subst h1
  obtain ⟨b, o, e, hb, hc⟩ := h (by omega)
  exact ⟨b, o, e, hb, hc k hk⟩
theorem SM.form {w : World} {N : Nat} {v : Value} {ms : List Mem} (h : SM w N v ms) : ∃ A c, v = .slice A ms.length c := by
  obtain ⟨A, c, hv, _⟩ := h; exact ⟨A, c, hv⟩

def mcells : List Mem → List Value
  | [] => []
  | p :: l => .int .i64 p.1 :: .int .i64 p.2 :: mcells l
theorem mcells_length : ∀ l : List Mem, (mcells l).length = l.length * 2
  | [] => rfl
  | p :: l => by simp [mcells, mcells_length l]; omega
theorem mcells_append : ∀ a b : List Mem, mcells (a ++ b) = mcells a ++ mcells b
  | [], _ => rfl
  | p :: a, b => by simp [mcells, mcells_append a b]
theorem mcells_get : ∀ (l : List Mem) (i : Nat) (h : i < l.length), (mcells l)[i * 2]? = some (.int .i64 l[i].1) ∧ (mcells l)[i * 2 + 1]? = some (.int .i64 l[i].2)
  | p :: l, 0, _ => ⟨rfl, rfl⟩
  | p :: l, i + 1, h => by
    have := mcells_get l i (by simpa using h)
    have e : (i + 1) * 2 = i * 2 + 1 + 1 := by omega
    rw [e]
    exact this
theorem mcells_one : ∀ (l : List Mem), ∀ u ∈ mcells l, u.oneCell' = true
  | p :: l, u, h => by
    simp only [mcells, List.mem_cons] at h
    rcases h with rfl | rfl | h
    · rfl
    · rfl
    · exact mcells_one l u h
/-- every place of the cells -/
theorem mcells_at {l : List Mem} {j : Nat} {u : Value} (h : (mcells l)[j]? = some u) : ∃ i, ∃ hi : i < l.length, (j = i * 2 ∧ u = .int .i64 l[i].1) ∨ (j = i * 2 + 1 ∧ u = .int .i64 l[i].2) := by
  have hj : j < (mcells l).length := (List.getElem?_eq_some_iff.1 h).1
  rw [mcells_length] at hj
  have hi : j / 2 < l.length := by omega
  obtain ⟨g1, g2⟩ := mcells_get l (j / 2) hi
  refine ⟨j / 2, hi, ?_⟩
  rcases Nat.mod_two_eq_zero_or_one j with h0 | h0
  · have e : j / 2 * 2 = j := by omega
    rw [e, h] at g1
    exact .inl ⟨e.symm, Option.some.inj g1⟩
  · have e : j / 2 * 2 + 1 = j := by omega
    rw [e, h] at g2
    exact .inr ⟨e.symm, Option.some.inj g2⟩

/-- how a list of members comes in -/
inductive ArgM (w : World) : Value → List Mem → Prop
  | nil : ArgM w (.slice none 0 0) []
  | some (b o : Nat) (c : Nat) (ms : List Mem) (h : SM w w.heap.size (.slice (some ⟨b, o, none⟩) ms.length c) ms) : ArgM w (.slice (some ⟨b, o, none⟩) ms.length c) ms
  | empty (a : Addr) (c : Nat) : ArgM w (.slice (some a) 0 c) []
theorem ArgM.sm {w : World} {v : Value} {ms : List Mem} (h : ArgM w v ms) : SM w w.heap.size v ms := by
  cases h with
  | nil => exact SM.nil _ _
  | some b o c ms h => exact h
  | empty a c => exact ⟨_, _, rfl, fun h => absurd h (by simp)⟩
theorem ArgM.keep {w w' : World} {v : Value} {ms : List Mem} (h : ArgM w v ms) (hb : Below w.heap.size w w') : ArgM w' v ms := by
  cases h with
  | nil => exact .nil
  | some b o c ms h => exact .some b o c ms ((h.below hb).more hb.size)
  | empty a c => exact .empty a c
theorem ArgM.form {w : World} {v : Value} {ms : List Mem} (h : ArgM w v ms) : ∃ A c, v = .slice A ms.length c := h.sm.form
/-- the cells that an append reads -/
theorem news_of {w : World} {ad : Addr} {c : Nat} {ms : List Mem} (h : SM w w.heap.size (.slice (some ad) ms.length c) ms) : ∀ j u, (mcells ms)[j]? = some u → w.cell? (ad.add j) = some u := by
  intro j u hj
  obtain ⟨i, hi, hu⟩ := mcells_at hj
  obtain ⟨b, o, e, _, h1, h2⟩ := h.at_ hi
  obtain rfl := Option.some.inj e
  rw [Addr.add_lit]
  rcases hu with ⟨rfl, rfl⟩ | ⟨rfl, rfl⟩
  · exact h1
  · exact h2

/-- block n of w' is a box with the descriptor d, its members the slice s -/
def BoxD (n : Nat) (d : De) (s : Value) (w' : World) : Prop := n < w'.heap.size ∧ (w'.cell? ⟨n, 0, none⟩ = some (.int .i64 d.id) ∧ w'.cell? ⟨n, 1, none⟩ = some (.string d.f) ∧ w'.cell? ⟨n, 2, none⟩ = some (.string d.t) ∧ w'.cell? ⟨n, 3, none⟩ = some (.int .i64 d.gen) ∧ w'.cell? ⟨n, 4, none⟩ = some s ∧ w'.cell? ⟨n, 5, none⟩ = some (.int .i64 d.next)) ∧ ∀ o, w'.frozen? ⟨n, o, none⟩ = false
theorem BoxD.keep {n : Nat} {d : De} {s : Value} {w1 w2 : World} (h : BoxD n d s w1) (hb : Below w1.heap.size w1 w2) : BoxD n d s w2 := by
  obtain ⟨h0, ⟨h1, h2, h3, h4, h5, h6⟩, hf⟩ := h
  have hc : ∀ o, w2.cell? ⟨n, o, none⟩ = w1.cell? ⟨n, o, none⟩ := fun o => hb.cell (p := ⟨n, o, none⟩) h0
  refine ⟨Nat.lt_of_lt_of_le h0 hb.size, ⟨?_, ?_, ?_, ?_, ?_, ?_⟩, fun o => (hb.frozen (p := ⟨n, o, none⟩) h0).trans (hf o)⟩
  all_goals rw [hc]; assumption
theorem BoxD.alloc {n : Nat} {d : De} {s : Value} {w1 : World} (h : BoxD n d s w1) (o : Obj) : BoxD n d s (w1.alloc o) :=
  h.keep ((Below.refl _ w1).alloc (Nat.le_refl _) o)
theorem BoxD.drew {n : Nat} {d : De} {s : Value} {w1 : World} (h : BoxD n d s w1) : BoxD n d s w1.drew := h
theorem BoxD.other {n : Nat} {d : De} {s : Value} {w1 : World} (h : BoxD n d s w1) {a : Addr} (ha : a.block ≠ n) (u : Value) : BoxD n d s (w1.setCell a u) := by
  obtain ⟨h0, ⟨h1, h2, h3, h4, h5, h6⟩, hf⟩ := h
  have hc : ∀ o, (w1.setCell a u).cell? ⟨n, o, none⟩ = w1.cell? ⟨n, o, none⟩ := fun o => World.cell?_setCell_far w1 a _ u ha
  refine ⟨by simpa using h0, ⟨?_, ?_, ?_, ?_, ?_, ?_⟩, fun o => by rw [World.frozen?_setCell]; exact hf o⟩
  all_goals rw [hc]; assumption
/-- all six cells are written -/
theorem BoxD.put {n : Nat} {d0 : De} {s0 : Value} {w1 : World} (h : BoxD n d0 s0 w1) (d : De) (s : Value) :
    BoxD n d s ((((((w1.setCell ⟨n, 0, none⟩ (.int .i64 d.id)).setCell ⟨n, 1, none⟩ (.string d.f)).setCell ⟨n, 2, none⟩ (.string d.t)).setCell ⟨n, 3, none⟩ (.int .i64 d.gen)).setCell ⟨n, 4, none⟩ s).setCell ⟨n, 5, none⟩ (.int .i64 d.next)) := by
  obtain ⟨h0, ⟨h1, h2, h3, h4, h5, h6⟩, hf⟩ := h
  refine ⟨by simpa using h0, ⟨?_, ?_, ?_, ?_, ?_, ?_⟩, fun o => by simp [World.frozen?_setCell, hf]⟩
  all_goals simp [go_sem, h1, h2, h3, h4, h5, h6]
theorem BoxD.load {n : Nat} {d : De} {s : Value} {w1 : World} (h : BoxD n d s w1) : Sem.run Tryd.prog (loadCellsFrom ⟨n, 0, none⟩ 0 6 #[]) w1 = .ok #[.int .i64 d.id, .string d.f, .string d.t, .int .i64 d.gen, s, .int .i64 d.next] w1 := by
  obtain ⟨h0, ⟨h1, h2, h3, h4, h5, h6⟩, hf⟩ := h
  simp [loadCellsFrom, go_sem, h1, h2, h3, h4, h5, h6]
/-- what is asked of a descriptor that comes in -/
structure Fit (d : De) : Prop where
  f : d.f.size ≤ 140737488355328
  t : d.t.size ≤ 140737488355328
  n : d.ms.length ≤ 1000
  r : InR d

end Go.Proofs.YticikmkehobblaaDoor.Ds
