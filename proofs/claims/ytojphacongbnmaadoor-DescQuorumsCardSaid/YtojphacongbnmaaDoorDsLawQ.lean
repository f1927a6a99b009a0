/-
  The law DescQuorums, walked: it answers true, at every number of 64 bits. Condition: the library's variables hold what their types allow.
-/
import Derived.Test.YtojphacongbnmaaDoorDsLive
namespace Go.Proofs.YtojphacongbnmaaDoor.Ds
open Go.RowKit Bnd

set_option maxHeartbeats 4000000 in
theorem walk_quorums (n : Int) (w : World) (hn : -9223372036854775808 ≤ n ∧ n ≤ 9223372036854775807) (hg : Good w) : Calls Tryd.prog 8 #[.int .i64 n] w fun e w' => e = .returned (.bool true) ∧ Below w.heap.size w w' := by
  by_cases h1 : n < 1
  · go_enter Tryd.func8, Tryd.ntmps8
    go_wp2_with fail
    refine (live_any _ hg).mono ?_
    rintro e w1 ⟨rfl, b1⟩
    go_wp2_with fail
    go_ret
    exact ⟨rfl, b1⟩
  · by_cases h2 : 1000000 < n
    · go_enter Tryd.func8, Tryd.ntmps8
      go_wp2_with fail
      refine (live_any _ hg).mono ?_
      rintro e w1 ⟨rfl, b1⟩
      go_wp2_with fail
      go_ret
      exact ⟨rfl, b1⟩
    · obtain ⟨q1, q2, q3, q4, q5⟩ := quorums (n := n) (by omega)
      have c1 := fun w => quorum_any n w (by omega) (by omega)
      have c2 := fun w => quorum_any (n + 1) w (by omega) (by omega)
      obtain ⟨Q, hQ⟩ : ∃ Q, n / 2 + 1 = Q := ⟨_, rfl⟩
      obtain ⟨P, hP⟩ : ∃ P, (n + 1) / 2 + 1 = P := ⟨_, rfl⟩
      rw [hQ] at c1 q1 q2 q3 q4 q5
      rw [hP] at c2 q5
      have hPn : P ≤ 1000002 := by omega
      have hP0 : 0 ≤ P := by omega
      have e1 : (1 ≤ Q) = True := eq_true q1
      have e2 : (Q ≤ n) = True := eq_true q2
      have e3 : (n < 2 * Q) = True := eq_true q3
      have e4 : (2 * (Q - 1) ≤ n) = True := eq_true q4
      have e5 : (n + 1 < Q + P) = True := eq_true q5
      clear hQ hP
      go_enter Tryd.func8, Tryd.ntmps8
      go_wp2_with fail
      refine (c1 _).mono ?_
      rintro e w' ⟨rfl, rfl⟩
      go_wp2_with fail
      refine (c2 _).mono ?_
      rintro e w' ⟨rfl, rfl⟩
      go_wp2_with fail
      refine (live_any _ hg).mono ?_
      rintro e w1 ⟨rfl, b1⟩
      go_wp2_with fail
      go_ret
      exact ⟨rfl, b1⟩
end Go.Proofs.YtojphacongbnmaaDoor.Ds
