/-
  Descriptors that are made: slices.Clone at members, raised, checked, First. Condition: at most 1000 members, lengths at most 2^47.
-/
import Derived.Test.YticikmkehobblaaDoorDsFind
import Derived.Lib.SliceRun
import Derived.RegionTactic
import Derived.Deep.RegionLaw
namespace Go.Proofs.YticikmkehobblaaDoor.Ds
open Go.RowKit Bnd

/-- what checked answers -/
def okV (d : De) (s : Value) : Value := if isD d = true then .tuple #[dv d s, .int .i64 0] else .tuple #[dv De.zero (.slice none 0 0), .int .i64 60]
theorem okV_spec (d : De) (s : Value) : ∃ s', okV d s = .tuple #[dv (okD d).1 s', .int .i64 (okD d).2] ∧ ∀ w, ArgM w s d.ms → ArgM w s' (okD d).1.ms := by
  unfold okV okD
  by_cases hd : isD d = true
  · rw [if_pos hd, if_pos hd]; exact ⟨s, rfl, fun _ h => h⟩
  · rw [if_neg hd, if_neg hd]; exact ⟨_, rfl, fun _ _ => .nil⟩

/-- In the world w the slice value v holds these numbers; its cells lie below block N. -/
def SI (w : World) (N : Nat) (v : Value) (ns : List Int) : Prop :=
  ∃ (A : Option Addr) (c : Nat), v = .slice A ns.length c ∧ (0 < ns.length → ∃ b o : Nat, A = some ⟨b, o, none⟩ ∧ b < N ∧ ∀ i (h : i < ns.length), w.cell? ⟨b, o + i, none⟩ = some (.int .i64 ns[i]))
theorem SI.form {w : World} {N : Nat} {v : Value} {ns : List Int} (h : SI w N v ns) : ∃ A c, v = .slice A ns.length c := by
  obtain ⟨A, c, hv, _⟩ := h; exact ⟨A, c, hv⟩
theorem SI.below {w w' : World} {N : Nat} {v : Value} {ns : List Int} (h : SI w N v ns) (hb : Below N w w') : SI w' N v ns := by
  obtain ⟨A, c, hv, h⟩ := h
  refine ⟨A, c, hv, fun h0 => ?_⟩
  obtain ⟨b, o, e, hlt, hc⟩ := h h0
  exact ⟨b, o, e, hlt, fun i hi => by rw [hb.cell (p := ⟨b, o + i, none⟩) hlt]; exact hc i hi⟩
theorem SI.more {w : World} {N N' : Nat} {v : Value} {ns : List Int} (h : SI w N v ns) (hB : N ≤ N') : SI w N' v ns := by
  obtain ⟨A, c, hv, h⟩ := h
  refine ⟨A, c, hv, fun h0 => ?_⟩
  obtain ⟨b, o, e, hb, hc⟩ := h h0
  exact ⟨b, o, e, by omega, hc⟩
theorem SI.at_ {w : World} {N k : Nat} {A : Option Addr} {n c : Nat} {ns : List Int} (h : SI w N (.slice A n c) ns) (hk : k < ns.length) :
    ∃ b o : Nat, A = some ⟨b, o, none⟩ ∧ b < N ∧ w.cell? ⟨b, o + k, none⟩ = some (.int .i64 ns[k]) := by
  obtain ⟨A', c', hv, h⟩ := h
  injection hv with h1 h2 h3
  subst h1
  obtain ⟨b, o, e, hb, hc⟩ := h (by omega)
  exact ⟨b, o, e, hb, hc k hk⟩
theorem BoxD.kept {n N : Nat} {d : De} {s : Value} {w1 w2 : World} (h : BoxD n d s w1) (hn : n < N) (hb : Below N w1 w2) : BoxD n d s w2 := by
  obtain ⟨h0, ⟨h1, h2, h3, h4, h5, h6⟩, hf⟩ := h
  have hc : ∀ o, w2.cell? ⟨n, o, none⟩ = w1.cell? ⟨n, o, none⟩ := fun o => hb.cell (p := ⟨n, o, none⟩) hn
  refine ⟨Nat.lt_of_lt_of_le h0 hb.size, ⟨?_, ?_, ?_, ?_, ?_, ?_⟩, fun o => (hb.frozen (p := ⟨n, o, none⟩) hn).trans (hf o)⟩
  all_goals rw [hc]; assumption
/-- two cells are written: the members, and the next number -/
theorem BoxD.set45 {n : Nat} {d : De} {s : Value} {w1 : World} (h : BoxD n d s w1) (s' : Value) (x : Int) : BoxD n { d with next := x } s' ((w1.setCell ⟨n, 4, none⟩ s').setCell ⟨n, 5, none⟩ (.int .i64 x)) := by
  obtain ⟨h0, ⟨h1, h2, h3, h4, h5, h6⟩, hf⟩ := h
  refine ⟨by simpa using h0, ⟨?_, ?_, ?_, ?_, ?_, ?_⟩, fun o => by simp [World.frozen?_setCell, hf]⟩
  all_goals simp [go_sem, h1, h2, h3, h4, h5, h6]
theorem BoxD.of {n : Nat} {d d' : De} {s : Value} {w1 : World} (h : BoxD n d s w1) (h1 : d.id = d'.id) (h2 : d.f = d'.f) (h3 : d.t = d'.t) (h4 : d.gen = d'.gen) (h5 : d.next = d'.next) : BoxD n d' s w1 := by
  unfold BoxD at *
  rw [← h1, ← h2, ← h3, ← h4, ← h5]
  exact h
theorem numbered_snoc (ns : List Int) (k : Nat) (hk : k < ns.length) : numbered 1 (ns.take (k + 1)) = numbered 1 (ns.take k) ++ [(ns[k], (k : Int) + 1)] := by
  rw [List.take_succ_eq_append_getElem hk, numbered_append]
  have e : (1 : Int) + ((ns.take k).length : Int) = (k : Int) + 1 := by simp; omega
  rw [e]
  rfl

/-- the first range, as it grows -/
def firstK (ns : List Int) (k : Nat) : De := ⟨1, ⟨#[]⟩, ⟨#[]⟩, 1, numbered 1 (ns.take k), (k : Int) + 1⟩

end Go.Proofs.YticikmkehobblaaDoor.Ds
