/-
  A slice from a place on, whether there is room behind it or not. No condition.
-/
import Derived.Test.YtimodohcihnoiaaDoorRoRCm
namespace Go.Proofs.YtimodohcihnoiaaDoor.Ro
open Go.RowKit

theorem slice_low (A : Option Addr) (N c K : Nat) (h : K ≤ N) (hc : N ≤ c) : ∃ A2, (∀ w : World, (Instr.slice 22 (.slice A N c) (some (.int .i64 (K : Int))) none none).run Tryd.prog w = .ok (.slice A2 (N - K) (c - K)) w) ∧
    (∀ (w : World) (es : List En), ArgE w (.slice A N c) es → ArgE w (.slice A2 (N - K) (c - K)) (es.drop K)) := by
  refine ⟨if c = K then A else A.map (fun a => a.add (K * 2)), fun w => ?_, fun w es ha => ?_⟩
  · have k1 : ((K : Int) ≤ (N : Int)) = True := eq_true (by omega)
    have k2 : (0 ≤ (K : Int)) = True := eq_true (by omega)
    simp [go_sem, Tryd.underlying22, Tryd.sizeOf54, k1, k2]
  · obtain ⟨_, _, e, hr⟩ := ha.room
    injection e with e1 e2 e3
    by_cases hck : c = K
    · rw [if_pos hck, List.drop_of_length_le (by omega), show N - K = 0 by omega, show c - K = 0 by omega]
      cases A with
      | none => exact .nil
      | some ad => exact .empty ad 0
    · rw [if_neg hck]
      cases A with
      | none =>
        obtain ⟨rfl, rfl⟩ := ha.none_zero
        omega
      | some ad =>
        by_cases h0 : N - K = 0
        · rw [h0, List.drop_of_length_le (by omega)]
          exact .empty _ _
        · obtain ⟨b, o, e5, _⟩ := ha.sm.at_ (k := 0) (by omega)
          obtain rfl := Option.some.inj e5
          have := argE_behind ha h
          simpa [Addr.add_lit] using this
end Go.Proofs.YtimodohcihnoiaaDoor.Ro
