
/-
  What the document says follows, of sessions, reckoned without a program: noted and merged, no client's number becomes less. No condition.
-/
import Derived.Test.YtlcobgpgggegdaaGreatDoorSsMRA
namespace Go.Proofs.YtlcobgpgggegdaaGreatDoor.Ss
open Go.Proofs.YtlcobgpgggegdaaGreatDoor.Od (Rep isR)

/-! ### noted -/
theorem one_is {s : Ses} : isS [s] = fitsB s := by
  unfold isS
  have e : riseB 0 [s] = fitsB s := by
    rw [Bool.eq_iff_iff, rise_cons]
    constructor
    · rintro ⟨_, h, _⟩; exact h
    · intro h; exact ⟨by have := fits_client h; omega, h, rfl⟩
  rw [e]
  rfl
theorem ask_none {l : List Ses} {c q : Int} (h : findS c l = none) : askS l c q = (Od.Rep.zero, false) := by unfold askS; rw [h]
theorem ask_some {l : List Ses} {c q : Int} {s : Ses} (h : findS c l = some s) : askS l c q = if s.seq < q then (Od.Rep.zero, false) else if s.seq = q then (s.rep, true) else (⟨3, 0, false, Od.E0, []⟩, true) := by unfold askS; rw [h]
end Go.Proofs.YtlcobgpgggegdaaGreatDoor.Ss
