/-
  The law BoundPairs, walked: it answers true, at every argument. Condition: lengths at most 2^47.
-/
import Derived.Test.YtbjgpcfimpmjiaaLawPairs1
namespace Go.Proofs.Ytbjgpcfimpmjiaa
open Go.RowKit O

theorem chk_sum (a b : Bd) : (0 ≤ chk a ∧ chk a ≤ 20) ∧ (0 ≤ chk b ∧ chk b ≤ 20) ∧ (chk a + chk b == 0) = (isB a && isB b) := by
  unfold chk
  cases isB a <;> cases isB b <;> decide

set_option maxHeartbeats 4000000 in
theorem walk_pairs (f t g u k : ByteArray) (w : World) (hf : f.size ≤ 140737488355328) (ht : t.size ≤ 140737488355328) (hg : g.size ≤ 140737488355328) (hu : u.size ≤ 140737488355328) (hk : k.size ≤ 140737488355328) :
    Calls Try.prog 10 #[bd f t, bd g u, .string k] w fun e w' => e = .returned (.bool true) ∧ Below w.heap.size w w' := by
  have hst : ∀ w1 w2, S2 w f t g u w1 → Below w1.heap.size w1 w2 → S2 w f t g u w2 := fun _ _ h hb => h.keep hb
  have cs1 := keptS hst fun w => small_any f t w hf ht
  have cs2 := keptS hst fun w => small_any g u w hg hu
  have cL := keptS hst fun w => live_any w
  have s0 := S2.start w f t g u
  cases h1 : smallB f t with
  | false =>
    rw [h1] at cs1
    clear h1
    go_enter Try.func10, Try.ntmps10
    go_wp2_with fail
    refine (cs1 _ s0).mono ?_
    rintro e w1 ⟨rfl, s1⟩
    go_wp2_with fail
    refine (cL _ s1).mono ?_
    rintro e w2 ⟨rfl, s2⟩
    go_wp2_with fail
    go_ret
    exact ⟨rfl, s2.1⟩
  | true =>
    rw [h1] at cs1
    cases h2 : smallB g u with
    | false =>
      rw [h2] at cs2
      clear h1 h2
      go_enter Try.func10, Try.ntmps10
      go_wp2_with fail
      refine (cs1 _ s0).mono ?_
      rintro e w1 ⟨rfl, s1⟩
      obtain ⟨_, ⟨_, e0, e1⟩, _, e2, e3⟩ := id s1
      go_wp2_with fail
      refine (cs2 _ s1).mono ?_
      rintro e w2 ⟨rfl, s2⟩
      go_wp2_with fail
      refine (cL _ s2).mono ?_
      rintro e w3 ⟨rfl, s3⟩
      go_wp2_with fail
      go_ret
      exact ⟨rfl, s3.1⟩
    | true =>
      rw [h2] at cs2
      by_cases h3 : 2000 < k.size
      · clear h1 h2
        go_enter Try.func10, Try.ntmps10
        go_wp2_with fail
        refine (cs1 _ s0).mono ?_
        rintro e w1 ⟨rfl, s1⟩
        obtain ⟨_, ⟨_, e0, e1⟩, _, e2, e3⟩ := id s1
        go_wp2_with fail
        refine (cs2 _ s1).mono ?_
        rintro e w2 ⟨rfl, s2⟩
        clear e0 e1 e2 e3
        go_wp2_with fail
        refine (cL _ s2).mono ?_
        rintro e w3 ⟨rfl, s3⟩
        go_wp2_with fail
        go_ret
        exact ⟨rfl, s3.1⟩
      · clear cs1 cs2 cL s0 hst
        obtain ⟨⟨q1, q2⟩, ⟨q3, q4⟩, hq⟩ := chk_sum (B f t) (B g u)
        have hw : IntKind.i64.wrap (chk (B f t) + chk (B g u)) = chk (B f t) + chk (B g u) := IntWalk.i64_in _ (by omega)
        have hq1 : (chk (B f t) == 0) = isB (B f t) := by unfold chk; cases isB (B f t) <;> rfl
        have c1 := fun w => inside_any f t g u w hf ht hg hu
        have c2 := fun w => inside_any g u f t w hg hu hf ht
        have c3 := fun w => inside_any f t f t w hf ht hf ht
        have c4 := fun w => meet_any f t g u w hf ht hg hu
        have c5 := fun w => meet_any g u f t w hg hu hf ht
        have c6 := fun w => has_any f t k w
        have c7 := fun w => has_any g u k w
        have c8 := fun w => check_any f t w hf ht
        have c9 := fun w => check_any g u w hg hu
        rw [inside_self] at c3
        rw [meet_comm (B g u)] at c5
        cases i1 : insideB (B f t) (B g u) with
        | true =>
          have i0 := (insideB_iff _ _).1 i1
          have m1 := inside_meet i1
          rw [i0.1, i0.2.1] at hq
          rw [i0.1] at hq1 c3
          rw [m1] at c4 c5
          rw [i1] at c1
          cases i2 : insideB (B g u) (B f t) with
          | false =>
            rw [i2] at c2
            cases a1 : hasB (B f t) k.toList with
            | false =>
              rw [a1] at c6
              exact pairs_A f t g u k _ _ _ w h1 h2 h3 hf ht hg hu hw hq hq1 c1 c2 c3 c4 c5 c6 c7 c8 c9
            | true =>
              rw [a1] at c6
              rw [inside_has i1 a1] at c7
              exact pairs_C f t g u k _ _ w h1 h2 h3 hf ht hg hu hw hq hq1 c1 c2 c3 c4 c5 c6 c7 c8 c9
          | true =>
            rw [i2] at c2
            have he := inside_both i1 i2
            obtain rfl : f = g := bytes_ext (congrArg Bd.f he)
            obtain rfl : t = u := bytes_ext (congrArg Bd.t he)
            cases a1 : hasB (B f t) k.toList with
            | false =>
              rw [a1] at c6 c7
              exact pairs_B f t k _ _ w h1 h2 h3 hf ht hf ht hw hq hq1 c1 c2 c3 c4 c5 c6 c7 c8 c9
            | true =>
              rw [a1] at c6 c7
              exact pairs_D f t k _ w h1 h2 h3 hf ht hf ht hw hq hq1 c1 c2 c3 c4 c5 c6 c7 c8 c9
        | false =>
          rw [i1] at c1
          cases m0 : isB (B f t) && isB (B g u) with
          | false =>
            rw [m0] at hq
            have m1 : meetB (B f t) (B g u) = false := by unfold meetB; rw [m0]; rfl
            rw [m1] at c4 c5
            exact pairs_H f t g u k _ _ _ _ _ _ w h1 h2 h3 hf ht hg hu hw hq hq1 c1 c2 c3 c4 c5 c6 c7 c8 c9
          | true =>
            rw [m0] at hq
            rw [Bool.and_eq_true] at m0
            rw [m0.1] at hq1 c3
            cases a1 : hasB (B f t) k.toList with
            | false =>
              rw [a1] at c6
              exact pairs_E f t g u k _ _ _ _ _ w h1 h2 h3 hf ht hg hu hw hq hq1 c1 c2 c3 c4 c5 c6 c7 c8 c9
            | true =>
              rw [a1] at c6
              cases a2 : hasB (B g u) k.toList with
              | false =>
                rw [a2] at c7
                exact pairs_F f t g u k _ _ _ _ w h1 h2 h3 hf ht hg hu hw hq hq1 c1 c2 c3 c4 c5 c6 c7 c8 c9
              | true =>
                rw [a2] at c7
                rw [both_meet m0.1 m0.2 a1 a2] at c4 c5
                exact pairs_G f t g u k _ _ _ w h1 h2 h3 hf ht hg hu hw hq hq1 c1 c2 c3 c4 c5 c6 c7 c8 c9

end Go.Proofs.Ytbjgpcfimpmjiaa
