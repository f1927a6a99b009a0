/-
  The law BoundChecks, walked: it answers true, at every argument. Condition: lengths at most 2^47.
-/
import Derived.Test.YtbjgpcfimpmjiaaBoxes
namespace Go.Proofs.Ytbjgpcfimpmjiaa
open Go.RowKit O

set_option maxHeartbeats 4000000 in
theorem walk_checks (f t g u k : ByteArray) (w : World) (hf : f.size ≤ 140737488355328) (ht : t.size ≤ 140737488355328) (hg : g.size ≤ 140737488355328) (hu : u.size ≤ 140737488355328) (hk : k.size ≤ 140737488355328) :
    Calls Try.prog 3 #[bd f t, bd g u, .string k] w fun e w' => e = .returned (.bool true) ∧ Below w.heap.size w w' := by
  have hst : ∀ w1 w2, S2 w f t g u w1 → Below w1.heap.size w1 w2 → S2 w f t g u w2 := fun _ _ h hb => h.keep hb
  have cs1 := keptS hst fun w => small_any f t w hf ht
  have cs2 := keptS hst fun w => small_any g u w hg hu
  have cL := keptS hst fun w => live_any w
  have s0 := S2.start w f t g u
  cases h1 : smallB f t with
  | false =>
    rw [h1] at cs1
    clear h1
    go_enter Try.func3, Try.ntmps3
    go_wp2_with fail
    refine (cs1 _ s0).mono ?_
    rintro e w1 ⟨rfl, s1⟩
    go_wp2_with fail
    refine (cL _ s1).mono ?_
    rintro e w2 ⟨rfl, s2⟩
    go_wp2_with fail
    go_ret
    exact ⟨rfl, s2.1⟩
  | true =>
    rw [h1] at cs1
    cases h2 : smallB g u with
    | false =>
      rw [h2] at cs2
      clear h1 h2
      go_enter Try.func3, Try.ntmps3
      go_wp2_with fail
      refine (cs1 _ s0).mono ?_
      rintro e w1 ⟨rfl, s1⟩
      obtain ⟨_, ⟨_, e0, e1⟩, _, e2, e3⟩ := id s1
      go_wp2_with fail
      refine (cs2 _ s1).mono ?_
      rintro e w2 ⟨rfl, s2⟩
      go_wp2_with fail
      refine (cL _ s2).mono ?_
      rintro e w3 ⟨rfl, s3⟩
      go_wp2_with fail
      go_ret
      exact ⟨rfl, s3.1⟩
    | true =>
      rw [h2] at cs2
      by_cases h3 : 2000 < k.size
      · clear h1 h2
        go_enter Try.func3, Try.ntmps3
        go_wp2_with fail
        refine (cs1 _ s0).mono ?_
        rintro e w1 ⟨rfl, s1⟩
        obtain ⟨_, ⟨_, e0, e1⟩, _, e2, e3⟩ := id s1
        go_wp2_with fail
        refine (cs2 _ s1).mono ?_
        rintro e w2 ⟨rfl, s2⟩
        clear e0 e1 e2 e3
        go_wp2_with fail
        refine (cL _ s2).mono ?_
        rintro e w3 ⟨rfl, s3⟩
        go_wp2_with fail
        go_ret
        exact ⟨rfl, s3.1⟩
      · obtain ⟨n1, hn1, hq1⟩ := key_num k.toList
        obtain ⟨n2, hn2, hq2⟩ := chk_num (B f t)
        have ck := keptS hst (quiet fun w => key_any k w hk)
        have crk := keptS hst (quiet fun w => rkey_any k w hk)
        have cc := keptS hst fun w => check_any f t w hf ht
        have crc := keptS hst fun w => ris_any f t w hf ht
        have ch := keptS hst fun w => has_any f t k w
        have crh := keptS hst fun w => rhas_any f t k w
        have cm := keptS hst fun w => meet_any f t g u w hf ht hg hu
        have crm := keptS hst fun w => rmeet_any f t g u w hf ht hg hu
        have ci := keptS hst fun w => inside_any f t g u w hf ht hg hu
        have cri := keptS hst fun w => rinside_any f t g u w hf ht hg hu
        have cn := fun n => keptS hst (quiet fun w => num_any n w)
        rw [hn1] at ck
        rw [hn2] at cc
        generalize keyB k.toList = K at *
        generalize isB (B f t) = I at *
        generalize hasB (B f t) k.toList = H at *
        generalize meetB (B f t) (B g u) = M at *
        generalize insideB (B f t) (B g u) = J at *
        clear h1 h2 hn1 hn2
        go_enter Try.func3, Try.ntmps3
        go_wp2_with fail
        refine (cs1 _ s0).mono ?_
        rintro e w1 ⟨rfl, s1⟩
        obtain ⟨_, ⟨_, e0, e1⟩, _, e2, e3⟩ := id s1
        go_wp2_with fail
        refine (cs2 _ s1).mono ?_
        rintro e w2 ⟨rfl, s2⟩
        clear e0 e1 e2 e3
        go_wp2_with fail
        refine St.wp_region_steady (S2 w f t g u) (by kernel_rfl) (by kernel_rfl) (by kernel_rfl) s2.drew ?_
        repeat (first
          | (apply St.step_past
             · rfl
             simp only [Act.put, List.setIfInBounds_toArray, List.set_cons_zero, List.set_cons_succ])
          | (apply St.step_give
             · rfl
             · intro w hSw
               obtain ⟨_, ⟨_, e0, e1⟩, _, e2, e3⟩ := hSw
               go_simp
               try with_reducible rfl
             simp only [Act.put, List.setIfInBounds_toArray, List.set_cons_zero, List.set_cons_succ])
          | (apply St.step_into
             · rfl
             · intro w hSw
               go_simp
               exact ⟨rfl, rfl⟩
             · with_reducible first | exact ck | exact crk | exact cc | exact crc | exact ch | exact crh | exact cn _
             simp only [Act.put, List.setIfInBounds_toArray, List.set_cons_zero, List.set_cons_succ]))
        refine St.step_last ?_
        intro w3 s3
        go_wp2_with fail
        refine St.wp_region_steady (S2 w f t g u) (by kernel_rfl) (by kernel_rfl) (by kernel_rfl) s3.drew ?_
        repeat (first
          | (apply St.step_past
             · rfl
             simp only [Act.put, List.setIfInBounds_toArray, List.set_cons_zero, List.set_cons_succ])
          | (apply St.step_give
             · rfl
             · intro w hSw
               obtain ⟨_, ⟨_, e0, e1⟩, _, e2, e3⟩ := hSw
               go_simp
               try with_reducible rfl
             simp only [Act.put, List.setIfInBounds_toArray, List.set_cons_zero, List.set_cons_succ])
          | (apply St.step_into
             · rfl
             · intro w hSw
               go_simp
               exact ⟨rfl, rfl⟩
             · with_reducible first | exact cm | exact crm | exact ci | exact cri | exact cL
             simp only [Act.put, List.setIfInBounds_toArray, List.set_cons_zero, List.set_cons_succ]))
        refine St.step_last ?_
        intro w4 s4
        go_wp2_with fail
        go_ret
        exact ⟨rfl, s4.1⟩

end Go.Proofs.Ytbjgpcfimpmjiaa
