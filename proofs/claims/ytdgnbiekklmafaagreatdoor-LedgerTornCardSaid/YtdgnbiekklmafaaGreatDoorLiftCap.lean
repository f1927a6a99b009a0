/-
  A list that comes in has room for what it holds. No condition.
-/
import Derived.Test.YtdgnbiekklmafaaGreatDoorLift2
namespace Go.Proofs.YtdgnbiekklmafaaGreatDoor
open Go.ChangeShapes Go.WideShapes Go.ChangeAt Go.RowKit

theorem cap_of {H : Type} {enc : TypeId × Value → H} {W : World} {a0 : Option Addr} {n0 c0 : Nat} {d : DataW H} {ps : List MemPlace}
    (h : DataW.Trod enc Tryz.prog W 0 (fun _ => true) true 33 (.slice a0 n0 c0) d ps) : ∀ A n c, Value.slice a0 n0 c0 = .slice A n c → n ≤ c := by
  intro A n c he
  injection he with h1 h2 h3
  subst h2 h3
  obtain ⟨fuel, hf⟩ := h
  rcases open_strings Tryz.underlying33 Tryz.underlying9 cells9 hf with ⟨hcs, _⟩ | ⟨a, len, cap, ss, hcs, _, hl, _, _, _, _, _⟩
  · simp [Value.cells] at hcs
    omega
  · simp [Value.cells] at hcs
    obtain ⟨_, rfl, rfl⟩ := hcs
    exact hl

end Go.Proofs.YtdgnbiekklmafaaGreatDoor
