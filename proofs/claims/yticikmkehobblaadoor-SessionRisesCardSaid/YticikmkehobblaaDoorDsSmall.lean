/-
  The law's own small and own: what is asked of a descriptor that comes in. Condition: lengths at most 2^47.
-/
import Derived.Test.YticikmkehobblaaDoorDsLive
namespace Go.Proofs.YticikmkehobblaaDoor.Ds
open Go.RowKit Bnd
open Go.Proofs.YticikmkehobblaaDoor.M (numT inR tieT intT untieT)

/-- what is known of a descriptor that comes in -/
structure Lim (d : De) : Prop where
  f : d.f.size ≤ 140737488355328
  t : d.t.size ≤ 140737488355328
  n : d.ms.length ≤ 140737488355328
  r : InR d
def smallD (d : De) : Bool := decide (d.ms.length ≤ 30 ∧ d.f.size ≤ 2000 ∧ d.t.size ≤ 2000)
theorem small_iff {d : De} : smallD d = true ↔ d.ms.length ≤ 30 ∧ d.f.size ≤ 2000 ∧ d.t.size ≤ 2000 := by simp [smallD]
theorem Lim.fit {d : De} (h : Lim d) (hs : smallD d = true) : Fit d := ⟨h.f, h.t, by have := (small_iff.1 hs).1; omega, h.r⟩

/-- the same descriptor, with a row of its own -/
def OwnD (w : World) (d : De) (e : Ending) (w' : World) : Prop := ∃ s', e = .returned (dv d s') ∧ ArgM w' s' d.ms ∧ Below w.heap.size w w'
end Go.Proofs.YticikmkehobblaaDoor.Ds
