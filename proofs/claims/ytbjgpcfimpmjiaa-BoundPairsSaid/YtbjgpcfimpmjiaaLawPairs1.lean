/-
  The law BoundPairs, walked, case by case. Condition: lengths at most 2^47.
-/
import Derived.Test.YtbjgpcfimpmjiaaBoxes
import Derived.IntWalk
namespace Go.Proofs.Ytbjgpcfimpmjiaa
open Go.RowKit O

set_option maxHeartbeats 8000000 in
theorem pairs_A (f t g u s : ByteArray) (nA nB : Int) (HB : Bool) (w : World) (h1 : smallB f t = true) (h2 : smallB g u = true) (h3 : ¬ 2000 < s.size)
    (hf : f.size ≤ 140737488355328) (ht : t.size ≤ 140737488355328) (hg : g.size ≤ 140737488355328) (hu : u.size ≤ 140737488355328) (hw : IntKind.i64.wrap (nA + nB) = nA + nB) (hq : (nA + nB == 0) = true) (hq1 : (nA == 0) = true)
    (c1 : ∀ w, Calls Try.prog 22 #[bd f t, bd g u] w fun e w' => e = .returned (.bool true) ∧ Below w.heap.size w w')
    (c2 : ∀ w, Calls Try.prog 22 #[bd g u, bd f t] w fun e w' => e = .returned (.bool false) ∧ Below w.heap.size w w')
    (c3 : ∀ w, Calls Try.prog 22 #[bd f t, bd f t] w fun e w' => e = .returned (.bool true) ∧ Below w.heap.size w w')
    (c4 : ∀ w, Calls Try.prog 20 #[bd f t, bd g u] w fun e w' => e = .returned (.bool true) ∧ Below w.heap.size w w')
    (c5 : ∀ w, Calls Try.prog 20 #[bd g u, bd f t] w fun e w' => e = .returned (.bool true) ∧ Below w.heap.size w w')
    (c6 : ∀ w, Calls Try.prog 18 #[bd f t, .string s] w fun e w' => e = .returned (.bool false) ∧ Below w.heap.size w w')
    (c7 : ∀ w, Calls Try.prog 18 #[bd g u, .string s] w fun e w' => e = .returned (.bool HB) ∧ Below w.heap.size w w')
    (c8 : ∀ w, Calls Try.prog 16 #[bd f t] w fun e w' => e = .returned (.int .i64 nA) ∧ Below w.heap.size w w')
    (c9 : ∀ w, Calls Try.prog 16 #[bd g u] w fun e w' => e = .returned (.int .i64 nB) ∧ Below w.heap.size w w') :
    Calls Try.prog 10 #[bd f t, bd g u, .string s] w fun e w' => e = .returned (.bool true) ∧ Below w.heap.size w w' := by
  have hst : ∀ w1 w2, S2 w f t g u w1 → Below w1.heap.size w1 w2 → S2 w f t g u w2 := fun _ _ h hb => h.keep hb
  have cs1 := keptS hst fun w => small_any f t w hf ht
  have cs2 := keptS hst fun w => small_any g u w hg hu
  rw [h1] at cs1
  rw [h2] at cs2
  have cL := keptS hst fun w => live_any w
  have d1 := keptS hst c1
  have d2 := keptS hst c2
  have d3 := keptS hst c3
  have d4 := keptS hst c4
  have d5 := keptS hst c5
  have d6 := keptS hst c6
  have d7 := keptS hst c7
  have d8 := keptS hst c8
  have d9 := keptS hst c9
  have dn := fun n => keptS hst (quiet fun w => num_any n w)
  have s0 := S2.start w f t g u
  clear h1 h2 c1 c2 c3 c4 c5 c6 c7 c8 c9 hst
  go_enter Try.func10, Try.ntmps10
  go_wp2_with fail
  refine (cs1 _ s0).mono ?_
  rintro e w1 ⟨rfl, s1⟩
  obtain ⟨_, ⟨_, e0, e1⟩, _, e2, e3⟩ := id s1
  go_wp2_with fail
  refine (cs2 _ s1).mono ?_
  rintro e w2 ⟨rfl, s2⟩
  clear e0 e1 e2 e3 s0 s1 cs1 cs2
  go_wp2_with fail
  refine St.wp_region_steady (S2 w f t g u) (by kernel_rfl) (by kernel_rfl) (by kernel_rfl) s2.drew ?_
  repeat (first
    | (apply St.step_past
       · rfl
       simp only [Act.put, List.setIfInBounds_toArray, List.set_cons_zero, List.set_cons_succ])
    | (apply St.step_give
       · rfl
       · intro w hSw
         obtain ⟨_, ⟨_, e0, e1⟩, _, e2, e3⟩ := hSw
         go_simp
         try with_reducible rfl
       simp only [Act.put, List.setIfInBounds_toArray, List.set_cons_zero, List.set_cons_succ])
    | (apply St.step_into
       · rfl
       · intro w hSw
         go_simp
         exact ⟨rfl, rfl⟩
       · with_reducible first | exact d1 | exact d2
       simp only [Act.put, List.setIfInBounds_toArray, List.set_cons_zero, List.set_cons_succ]))
  refine St.step_last ?_
  intro w3 s3
  clear s2
  go_wp2_with fail
  refine St.wp_region_steady (S2 w f t g u) (by kernel_rfl) (by kernel_rfl) (by kernel_rfl) s3.drew ?_
  repeat (first
    | (apply St.step_past
       · rfl
       simp only [Act.put, List.setIfInBounds_toArray, List.set_cons_zero, List.set_cons_succ])
    | (apply St.step_give
       · rfl
       · intro w hSw
         obtain ⟨_, ⟨_, e0, e1⟩, _, e2, e3⟩ := hSw
         go_simp
         try with_reducible rfl
       simp only [Act.put, List.setIfInBounds_toArray, List.set_cons_zero, List.set_cons_succ])
    | (apply St.step_into
       · rfl
       · intro w hSw
         go_simp
         exact ⟨rfl, rfl⟩
       · with_reducible first | exact d4 | exact d5 | exact d6 | exact d7
       simp only [Act.put, List.setIfInBounds_toArray, List.set_cons_zero, List.set_cons_succ]))
  refine St.step_last ?_
  intro w4 s4
  clear s3
  go_wp2_with fail
  refine St.wp_region_steady (S2 w f t g u) (by kernel_rfl) (by kernel_rfl) (by kernel_rfl) s4.drew ?_
  repeat (first
    | (apply St.step_past
       · rfl
       simp only [Act.put, List.setIfInBounds_toArray, List.set_cons_zero, List.set_cons_succ])
    | (apply St.step_give
       · rfl
       · intro w hSw
         obtain ⟨_, ⟨_, e0, e1⟩, _, e2, e3⟩ := hSw
         go_simp
         try with_reducible rfl
       simp only [Act.put, List.setIfInBounds_toArray, List.set_cons_zero, List.set_cons_succ])
    | (apply St.step_into
       · rfl
       · intro w hSw
         go_simp
         exact ⟨rfl, rfl⟩
       · with_reducible first | exact d8 | exact d9 | exact dn _
       simp only [Act.put, List.setIfInBounds_toArray, List.set_cons_zero, List.set_cons_succ]))
  refine St.step_last ?_
  intro w5 s5
  clear s4
  obtain ⟨_, ⟨_, e0, e1⟩, _, e2, e3⟩ := id s5
  go_wp2_with fail
  refine (d6 _ s5).mono ?_
  rintro e w6 ⟨rfl, s6⟩
  clear e0 e1 e2 e3 s5
  go_wp2_with fail
  refine St.wp_region_steady (S2 w f t g u) (by kernel_rfl) (by kernel_rfl) (by kernel_rfl) s6.drew ?_
  repeat (first
    | (apply St.step_past
       · rfl
       simp only [Act.put, List.setIfInBounds_toArray, List.set_cons_zero, List.set_cons_succ])
    | (apply St.step_give
       · rfl
       · intro w hSw
         obtain ⟨_, ⟨_, e0, e1⟩, _, e2, e3⟩ := hSw
         go_simp
         try with_reducible rfl
       simp only [Act.put, List.setIfInBounds_toArray, List.set_cons_zero, List.set_cons_succ])
    | (apply St.step_into
       · rfl
       · intro w hSw
         go_simp
         exact ⟨rfl, rfl⟩
       · with_reducible first | exact d3 | exact d8 | exact dn _ | exact cL
       simp only [Act.put, List.setIfInBounds_toArray, List.set_cons_zero, List.set_cons_succ]))
  refine St.step_last ?_
  intro w9 s9
  go_wp2_with fail
  go_ret
  exact ⟨rfl, s9.1⟩

set_option maxHeartbeats 8000000 in
theorem pairs_B (f t s : ByteArray) (nA : Int) (HB : Bool) (w : World) (h1 : smallB f t = true) (h2 : smallB f t = true) (h3 : ¬ 2000 < s.size)
    (hf : f.size ≤ 140737488355328) (ht : t.size ≤ 140737488355328) (hg : f.size ≤ 140737488355328) (hu : t.size ≤ 140737488355328) (hw : IntKind.i64.wrap (nA + nA) = nA + nA) (hq : (nA + nA == 0) = true) (hq1 : (nA == 0) = true)
    (c1 : ∀ w, Calls Try.prog 22 #[bd f t, bd f t] w fun e w' => e = .returned (.bool true) ∧ Below w.heap.size w w')
    (c2 : ∀ w, Calls Try.prog 22 #[bd f t, bd f t] w fun e w' => e = .returned (.bool true) ∧ Below w.heap.size w w')
    (c3 : ∀ w, Calls Try.prog 22 #[bd f t, bd f t] w fun e w' => e = .returned (.bool true) ∧ Below w.heap.size w w')
    (c4 : ∀ w, Calls Try.prog 20 #[bd f t, bd f t] w fun e w' => e = .returned (.bool true) ∧ Below w.heap.size w w')
    (c5 : ∀ w, Calls Try.prog 20 #[bd f t, bd f t] w fun e w' => e = .returned (.bool true) ∧ Below w.heap.size w w')
    (c6 : ∀ w, Calls Try.prog 18 #[bd f t, .string s] w fun e w' => e = .returned (.bool false) ∧ Below w.heap.size w w')
    (c7 : ∀ w, Calls Try.prog 18 #[bd f t, .string s] w fun e w' => e = .returned (.bool HB) ∧ Below w.heap.size w w')
    (c8 : ∀ w, Calls Try.prog 16 #[bd f t] w fun e w' => e = .returned (.int .i64 nA) ∧ Below w.heap.size w w')
    (c9 : ∀ w, Calls Try.prog 16 #[bd f t] w fun e w' => e = .returned (.int .i64 nA) ∧ Below w.heap.size w w') :
    Calls Try.prog 10 #[bd f t, bd f t, .string s] w fun e w' => e = .returned (.bool true) ∧ Below w.heap.size w w' := by
  have hst : ∀ w1 w2, S2 w f t f t w1 → Below w1.heap.size w1 w2 → S2 w f t f t w2 := fun _ _ h hb => h.keep hb
  have cs1 := keptS hst fun w => small_any f t w hf ht
  have cs2 := keptS hst fun w => small_any f t w hg hu
  rw [h1] at cs1
  rw [h2] at cs2
  have cL := keptS hst fun w => live_any w
  have d1 := keptS hst c1
  have d2 := keptS hst c2
  have d3 := keptS hst c3
  have d4 := keptS hst c4
  have d5 := keptS hst c5
  have d6 := keptS hst c6
  have d7 := keptS hst c7
  have d8 := keptS hst c8
  have d9 := keptS hst c9
  have dn := fun n => keptS hst (quiet fun w => num_any n w)
  have s0 := S2.start w f t f t
  clear h1 h2 c1 c2 c3 c4 c5 c6 c7 c8 c9 hst
  go_enter Try.func10, Try.ntmps10
  go_wp2_with fail
  refine (cs1 _ s0).mono ?_
  rintro e w1 ⟨rfl, s1⟩
  obtain ⟨_, ⟨_, e0, e1⟩, _, e2, e3⟩ := id s1
  go_wp2_with fail
  refine (cs2 _ s1).mono ?_
  rintro e w2 ⟨rfl, s2⟩
  clear e0 e1 e2 e3 s0 s1 cs1 cs2
  go_wp2_with fail
  refine St.wp_region_steady (S2 w f t f t) (by kernel_rfl) (by kernel_rfl) (by kernel_rfl) s2.drew ?_
  repeat (first
    | (apply St.step_past
       · rfl
       simp only [Act.put, List.setIfInBounds_toArray, List.set_cons_zero, List.set_cons_succ])
    | (apply St.step_give
       · rfl
       · intro w hSw
         obtain ⟨_, ⟨_, e0, e1⟩, _, e2, e3⟩ := hSw
         go_simp
         try with_reducible rfl
       simp only [Act.put, List.setIfInBounds_toArray, List.set_cons_zero, List.set_cons_succ])
    | (apply St.step_into
       · rfl
       · intro w hSw
         go_simp
         exact ⟨rfl, rfl⟩
       · with_reducible first | exact d1 | exact d2
       simp only [Act.put, List.setIfInBounds_toArray, List.set_cons_zero, List.set_cons_succ]))
  refine St.step_last ?_
  intro w3 s3
  clear s2
  go_wp2_with fail
  refine St.wp_region_steady (S2 w f t f t) (by kernel_rfl) (by kernel_rfl) (by kernel_rfl) s3.drew ?_
  repeat (first
    | (apply St.step_past
       · rfl
       simp only [Act.put, List.setIfInBounds_toArray, List.set_cons_zero, List.set_cons_succ])
    | (apply St.step_give
       · rfl
       · intro w hSw
         obtain ⟨_, ⟨_, e0, e1⟩, _, e2, e3⟩ := hSw
         go_simp
         try with_reducible rfl
       simp only [Act.put, List.setIfInBounds_toArray, List.set_cons_zero, List.set_cons_succ])
    | (apply St.step_into
       · rfl
       · intro w hSw
         go_simp
         exact ⟨rfl, rfl⟩
       · with_reducible first | exact d4 | exact d5 | exact d6 | exact d7
       simp only [Act.put, List.setIfInBounds_toArray, List.set_cons_zero, List.set_cons_succ]))
  refine St.step_last ?_
  intro w4 s4
  clear s3
  go_wp2_with fail
  refine St.wp_region_steady (S2 w f t f t) (by kernel_rfl) (by kernel_rfl) (by kernel_rfl) s4.drew ?_
  repeat (first
    | (apply St.step_past
       · rfl
       simp only [Act.put, List.setIfInBounds_toArray, List.set_cons_zero, List.set_cons_succ])
    | (apply St.step_give
       · rfl
       · intro w hSw
         obtain ⟨_, ⟨_, e0, e1⟩, _, e2, e3⟩ := hSw
         go_simp
         try with_reducible rfl
       simp only [Act.put, List.setIfInBounds_toArray, List.set_cons_zero, List.set_cons_succ])
    | (apply St.step_into
       · rfl
       · intro w hSw
         go_simp
         exact ⟨rfl, rfl⟩
       · with_reducible first | exact d8 | exact d9 | exact dn _
       simp only [Act.put, List.setIfInBounds_toArray, List.set_cons_zero, List.set_cons_succ]))
  refine St.step_last ?_
  intro w5 s5
  clear s4
  obtain ⟨_, ⟨_, e0, e1⟩, _, e2, e3⟩ := id s5
  go_wp2_with fail
  refine (d6 _ s5).mono ?_
  rintro e w6 ⟨rfl, s6⟩
  clear e0 e1 e2 e3 s5
  go_wp2_with fail
  refine St.wp_region_steady (S2 w f t f t) (by kernel_rfl) (by kernel_rfl) (by kernel_rfl) s6.drew ?_
  repeat (first
    | (apply St.step_past
       · rfl
       simp only [Act.put, List.setIfInBounds_toArray, List.set_cons_zero, List.set_cons_succ])
    | (apply St.step_give
       · rfl
       · intro w hSw
         obtain ⟨_, ⟨_, e0, e1⟩, _, e2, e3⟩ := hSw
         go_simp
         try with_reducible rfl
       simp only [Act.put, List.setIfInBounds_toArray, List.set_cons_zero, List.set_cons_succ])
    | (apply St.step_into
       · rfl
       · intro w hSw
         go_simp
         exact ⟨rfl, rfl⟩
       · with_reducible first | exact d3 | exact d8 | exact dn _ | exact cL
       simp only [Act.put, List.setIfInBounds_toArray, List.set_cons_zero, List.set_cons_succ]))
  refine St.step_last ?_
  intro w9 s9
  go_wp2_with fail
  go_ret
  exact ⟨rfl, s9.1⟩

set_option maxHeartbeats 8000000 in
theorem pairs_C (f t g u s : ByteArray) (nA nB : Int) (w : World) (h1 : smallB f t = true) (h2 : smallB g u = true) (h3 : ¬ 2000 < s.size)
    (hf : f.size ≤ 140737488355328) (ht : t.size ≤ 140737488355328) (hg : g.size ≤ 140737488355328) (hu : u.size ≤ 140737488355328) (hw : IntKind.i64.wrap (nA + nB) = nA + nB) (hq : (nA + nB == 0) = true) (hq1 : (nA == 0) = true)
    (c1 : ∀ w, Calls Try.prog 22 #[bd f t, bd g u] w fun e w' => e = .returned (.bool true) ∧ Below w.heap.size w w')
    (c2 : ∀ w, Calls Try.prog 22 #[bd g u, bd f t] w fun e w' => e = .returned (.bool false) ∧ Below w.heap.size w w')
    (c3 : ∀ w, Calls Try.prog 22 #[bd f t, bd f t] w fun e w' => e = .returned (.bool true) ∧ Below w.heap.size w w')
    (c4 : ∀ w, Calls Try.prog 20 #[bd f t, bd g u] w fun e w' => e = .returned (.bool true) ∧ Below w.heap.size w w')
    (c5 : ∀ w, Calls Try.prog 20 #[bd g u, bd f t] w fun e w' => e = .returned (.bool true) ∧ Below w.heap.size w w')
    (c6 : ∀ w, Calls Try.prog 18 #[bd f t, .string s] w fun e w' => e = .returned (.bool true) ∧ Below w.heap.size w w')
    (c7 : ∀ w, Calls Try.prog 18 #[bd g u, .string s] w fun e w' => e = .returned (.bool true) ∧ Below w.heap.size w w')
    (c8 : ∀ w, Calls Try.prog 16 #[bd f t] w fun e w' => e = .returned (.int .i64 nA) ∧ Below w.heap.size w w')
    (c9 : ∀ w, Calls Try.prog 16 #[bd g u] w fun e w' => e = .returned (.int .i64 nB) ∧ Below w.heap.size w w') :
    Calls Try.prog 10 #[bd f t, bd g u, .string s] w fun e w' => e = .returned (.bool true) ∧ Below w.heap.size w w' := by
  have hst : ∀ w1 w2, S2 w f t g u w1 → Below w1.heap.size w1 w2 → S2 w f t g u w2 := fun _ _ h hb => h.keep hb
  have cs1 := keptS hst fun w => small_any f t w hf ht
  have cs2 := keptS hst fun w => small_any g u w hg hu
  rw [h1] at cs1
  rw [h2] at cs2
  have cL := keptS hst fun w => live_any w
  have d1 := keptS hst c1
  have d2 := keptS hst c2
  have d3 := keptS hst c3
  have d4 := keptS hst c4
  have d5 := keptS hst c5
  have d6 := keptS hst c6
  have d7 := keptS hst c7
  have d8 := keptS hst c8
  have d9 := keptS hst c9
  have dn := fun n => keptS hst (quiet fun w => num_any n w)
  have s0 := S2.start w f t g u
  clear h1 h2 c1 c2 c3 c4 c5 c6 c7 c8 c9 hst
  go_enter Try.func10, Try.ntmps10
  go_wp2_with fail
  refine (cs1 _ s0).mono ?_
  rintro e w1 ⟨rfl, s1⟩
  obtain ⟨_, ⟨_, e0, e1⟩, _, e2, e3⟩ := id s1
  go_wp2_with fail
  refine (cs2 _ s1).mono ?_
  rintro e w2 ⟨rfl, s2⟩
  clear e0 e1 e2 e3 s0 s1 cs1 cs2
  go_wp2_with fail
  refine St.wp_region_steady (S2 w f t g u) (by kernel_rfl) (by kernel_rfl) (by kernel_rfl) s2.drew ?_
  repeat (first
    | (apply St.step_past
       · rfl
       simp only [Act.put, List.setIfInBounds_toArray, List.set_cons_zero, List.set_cons_succ])
    | (apply St.step_give
       · rfl
       · intro w hSw
         obtain ⟨_, ⟨_, e0, e1⟩, _, e2, e3⟩ := hSw
         go_simp
         try with_reducible rfl
       simp only [Act.put, List.setIfInBounds_toArray, List.set_cons_zero, List.set_cons_succ])
    | (apply St.step_into
       · rfl
       · intro w hSw
         go_simp
         exact ⟨rfl, rfl⟩
       · with_reducible first | exact d1 | exact d2
       simp only [Act.put, List.setIfInBounds_toArray, List.set_cons_zero, List.set_cons_succ]))
  refine St.step_last ?_
  intro w3 s3
  clear s2
  go_wp2_with fail
  refine St.wp_region_steady (S2 w f t g u) (by kernel_rfl) (by kernel_rfl) (by kernel_rfl) s3.drew ?_
  repeat (first
    | (apply St.step_past
       · rfl
       simp only [Act.put, List.setIfInBounds_toArray, List.set_cons_zero, List.set_cons_succ])
    | (apply St.step_give
       · rfl
       · intro w hSw
         obtain ⟨_, ⟨_, e0, e1⟩, _, e2, e3⟩ := hSw
         go_simp
         try with_reducible rfl
       simp only [Act.put, List.setIfInBounds_toArray, List.set_cons_zero, List.set_cons_succ])
    | (apply St.step_into
       · rfl
       · intro w hSw
         go_simp
         exact ⟨rfl, rfl⟩
       · with_reducible first | exact d4 | exact d5 | exact d6 | exact d7
       simp only [Act.put, List.setIfInBounds_toArray, List.set_cons_zero, List.set_cons_succ]))
  refine St.step_last ?_
  intro w4 s4
  clear s3
  go_wp2_with fail
  refine St.wp_region_steady (S2 w f t g u) (by kernel_rfl) (by kernel_rfl) (by kernel_rfl) s4.drew ?_
  repeat (first
    | (apply St.step_past
       · rfl
       simp only [Act.put, List.setIfInBounds_toArray, List.set_cons_zero, List.set_cons_succ])
    | (apply St.step_give
       · rfl
       · intro w hSw
         obtain ⟨_, ⟨_, e0, e1⟩, _, e2, e3⟩ := hSw
         go_simp
         try with_reducible rfl
       simp only [Act.put, List.setIfInBounds_toArray, List.set_cons_zero, List.set_cons_succ])
    | (apply St.step_into
       · rfl
       · intro w hSw
         go_simp
         exact ⟨rfl, rfl⟩
       · with_reducible first | exact d8 | exact d9 | exact dn _
       simp only [Act.put, List.setIfInBounds_toArray, List.set_cons_zero, List.set_cons_succ]))
  refine St.step_last ?_
  intro w5 s5
  clear s4
  obtain ⟨_, ⟨_, e0, e1⟩, _, e2, e3⟩ := id s5
  go_wp2_with fail
  refine (d6 _ s5).mono ?_
  rintro e w6 ⟨rfl, s6⟩
  clear e0 e1 e2 e3 s5
  obtain ⟨_, ⟨_, e0, e1⟩, _, e2, e3⟩ := id s6
  go_wp2_with fail
  refine (d7 _ s6).mono ?_
  rintro e w7 ⟨rfl, s7⟩
  clear e0 e1 e2 e3 s6
  obtain ⟨_, ⟨_, e0, e1⟩, _, e2, e3⟩ := id s7
  go_wp2_with fail
  refine (d4 _ s7).mono ?_
  rintro e w8 ⟨rfl, s8⟩
  clear e0 e1 e2 e3 s7
  go_wp2_with fail
  refine St.wp_region_steady (S2 w f t g u) (by kernel_rfl) (by kernel_rfl) (by kernel_rfl) s8.drew ?_
  repeat (first
    | (apply St.step_past
       · rfl
       simp only [Act.put, List.setIfInBounds_toArray, List.set_cons_zero, List.set_cons_succ])
    | (apply St.step_give
       · rfl
       · intro w hSw
         obtain ⟨_, ⟨_, e0, e1⟩, _, e2, e3⟩ := hSw
         go_simp
         try with_reducible rfl
       simp only [Act.put, List.setIfInBounds_toArray, List.set_cons_zero, List.set_cons_succ])
    | (apply St.step_into
       · rfl
       · intro w hSw
         go_simp
         exact ⟨rfl, rfl⟩
       · with_reducible first | exact d3 | exact d8 | exact dn _ | exact cL
       simp only [Act.put, List.setIfInBounds_toArray, List.set_cons_zero, List.set_cons_succ]))
  refine St.step_last ?_
  intro w9 s9
  go_wp2_with fail
  go_ret
  exact ⟨rfl, s9.1⟩

set_option maxHeartbeats 8000000 in
theorem pairs_D (f t s : ByteArray) (nA : Int) (w : World) (h1 : smallB f t = true) (h2 : smallB f t = true) (h3 : ¬ 2000 < s.size)
    (hf : f.size ≤ 140737488355328) (ht : t.size ≤ 140737488355328) (hg : f.size ≤ 140737488355328) (hu : t.size ≤ 140737488355328) (hw : IntKind.i64.wrap (nA + nA) = nA + nA) (hq : (nA + nA == 0) = true) (hq1 : (nA == 0) = true)
    (c1 : ∀ w, Calls Try.prog 22 #[bd f t, bd f t] w fun e w' => e = .returned (.bool true) ∧ Below w.heap.size w w')
    (c2 : ∀ w, Calls Try.prog 22 #[bd f t, bd f t] w fun e w' => e = .returned (.bool true) ∧ Below w.heap.size w w')
    (c3 : ∀ w, Calls Try.prog 22 #[bd f t, bd f t] w fun e w' => e = .returned (.bool true) ∧ Below w.heap.size w w')
    (c4 : ∀ w, Calls Try.prog 20 #[bd f t, bd f t] w fun e w' => e = .returned (.bool true) ∧ Below w.heap.size w w')
    (c5 : ∀ w, Calls Try.prog 20 #[bd f t, bd f t] w fun e w' => e = .returned (.bool true) ∧ Below w.heap.size w w')
    (c6 : ∀ w, Calls Try.prog 18 #[bd f t, .string s] w fun e w' => e = .returned (.bool true) ∧ Below w.heap.size w w')
    (c7 : ∀ w, Calls Try.prog 18 #[bd f t, .string s] w fun e w' => e = .returned (.bool true) ∧ Below w.heap.size w w')
    (c8 : ∀ w, Calls Try.prog 16 #[bd f t] w fun e w' => e = .returned (.int .i64 nA) ∧ Below w.heap.size w w')
    (c9 : ∀ w, Calls Try.prog 16 #[bd f t] w fun e w' => e = .returned (.int .i64 nA) ∧ Below w.heap.size w w') :
    Calls Try.prog 10 #[bd f t, bd f t, .string s] w fun e w' => e = .returned (.bool true) ∧ Below w.heap.size w w' := by
  have hst : ∀ w1 w2, S2 w f t f t w1 → Below w1.heap.size w1 w2 → S2 w f t f t w2 := fun _ _ h hb => h.keep hb
  have cs1 := keptS hst fun w => small_any f t w hf ht
  have cs2 := keptS hst fun w => small_any f t w hg hu
  rw [h1] at cs1
  rw [h2] at cs2
  have cL := keptS hst fun w => live_any w
  have d1 := keptS hst c1
  have d2 := keptS hst c2
  have d3 := keptS hst c3
  have d4 := keptS hst c4
  have d5 := keptS hst c5
  have d6 := keptS hst c6
  have d7 := keptS hst c7
  have d8 := keptS hst c8
  have d9 := keptS hst c9
  have dn := fun n => keptS hst (quiet fun w => num_any n w)
  have s0 := S2.start w f t f t
  clear h1 h2 c1 c2 c3 c4 c5 c6 c7 c8 c9 hst
  go_enter Try.func10, Try.ntmps10
  go_wp2_with fail
  refine (cs1 _ s0).mono ?_
  rintro e w1 ⟨rfl, s1⟩
  obtain ⟨_, ⟨_, e0, e1⟩, _, e2, e3⟩ := id s1
  go_wp2_with fail
  refine (cs2 _ s1).mono ?_
  rintro e w2 ⟨rfl, s2⟩
  clear e0 e1 e2 e3 s0 s1 cs1 cs2
  go_wp2_with fail
  refine St.wp_region_steady (S2 w f t f t) (by kernel_rfl) (by kernel_rfl) (by kernel_rfl) s2.drew ?_
  repeat (first
    | (apply St.step_past
       · rfl
       simp only [Act.put, List.setIfInBounds_toArray, List.set_cons_zero, List.set_cons_succ])
    | (apply St.step_give
       · rfl
       · intro w hSw
         obtain ⟨_, ⟨_, e0, e1⟩, _, e2, e3⟩ := hSw
         go_simp
         try with_reducible rfl
       simp only [Act.put, List.setIfInBounds_toArray, List.set_cons_zero, List.set_cons_succ])
    | (apply St.step_into
       · rfl
       · intro w hSw
         go_simp
         exact ⟨rfl, rfl⟩
       · with_reducible first | exact d1 | exact d2
       simp only [Act.put, List.setIfInBounds_toArray, List.set_cons_zero, List.set_cons_succ]))
  refine St.step_last ?_
  intro w3 s3
  clear s2
  go_wp2_with fail
  refine St.wp_region_steady (S2 w f t f t) (by kernel_rfl) (by kernel_rfl) (by kernel_rfl) s3.drew ?_
  repeat (first
    | (apply St.step_past
       · rfl
       simp only [Act.put, List.setIfInBounds_toArray, List.set_cons_zero, List.set_cons_succ])
    | (apply St.step_give
       · rfl
       · intro w hSw
         obtain ⟨_, ⟨_, e0, e1⟩, _, e2, e3⟩ := hSw
         go_simp
         try with_reducible rfl
       simp only [Act.put, List.setIfInBounds_toArray, List.set_cons_zero, List.set_cons_succ])
    | (apply St.step_into
       · rfl
       · intro w hSw
         go_simp
         exact ⟨rfl, rfl⟩
       · with_reducible first | exact d4 | exact d5 | exact d6 | exact d7
       simp only [Act.put, List.setIfInBounds_toArray, List.set_cons_zero, List.set_cons_succ]))
  refine St.step_last ?_
  intro w4 s4
  clear s3
  go_wp2_with fail
  refine St.wp_region_steady (S2 w f t f t) (by kernel_rfl) (by kernel_rfl) (by kernel_rfl) s4.drew ?_
  repeat (first
    | (apply St.step_past
       · rfl
       simp only [Act.put, List.setIfInBounds_toArray, List.set_cons_zero, List.set_cons_succ])
    | (apply St.step_give
       · rfl
       · intro w hSw
         obtain ⟨_, ⟨_, e0, e1⟩, _, e2, e3⟩ := hSw
         go_simp
         try with_reducible rfl
       simp only [Act.put, List.setIfInBounds_toArray, List.set_cons_zero, List.set_cons_succ])
    | (apply St.step_into
       · rfl
       · intro w hSw
         go_simp
         exact ⟨rfl, rfl⟩
       · with_reducible first | exact d8 | exact d9 | exact dn _
       simp only [Act.put, List.setIfInBounds_toArray, List.set_cons_zero, List.set_cons_succ]))
  refine St.step_last ?_
  intro w5 s5
  clear s4
  obtain ⟨_, ⟨_, e0, e1⟩, _, e2, e3⟩ := id s5
  go_wp2_with fail
  refine (d6 _ s5).mono ?_
  rintro e w6 ⟨rfl, s6⟩
  clear e0 e1 e2 e3 s5
  obtain ⟨_, ⟨_, e0, e1⟩, _, e2, e3⟩ := id s6
  go_wp2_with fail
  refine (d7 _ s6).mono ?_
  rintro e w7 ⟨rfl, s7⟩
  clear e0 e1 e2 e3 s6
  obtain ⟨_, ⟨_, e0, e1⟩, _, e2, e3⟩ := id s7
  go_wp2_with fail
  refine (d4 _ s7).mono ?_
  rintro e w8 ⟨rfl, s8⟩
  clear e0 e1 e2 e3 s7
  go_wp2_with fail
  refine St.wp_region_steady (S2 w f t f t) (by kernel_rfl) (by kernel_rfl) (by kernel_rfl) s8.drew ?_
  repeat (first
    | (apply St.step_past
       · rfl
       simp only [Act.put, List.setIfInBounds_toArray, List.set_cons_zero, List.set_cons_succ])
    | (apply St.step_give
       · rfl
       · intro w hSw
         obtain ⟨_, ⟨_, e0, e1⟩, _, e2, e3⟩ := hSw
         go_simp
         try with_reducible rfl
       simp only [Act.put, List.setIfInBounds_toArray, List.set_cons_zero, List.set_cons_succ])
    | (apply St.step_into
       · rfl
       · intro w hSw
         go_simp
         exact ⟨rfl, rfl⟩
       · with_reducible first | exact d3 | exact d8 | exact dn _ | exact cL
       simp only [Act.put, List.setIfInBounds_toArray, List.set_cons_zero, List.set_cons_succ]))
  refine St.step_last ?_
  intro w9 s9
  go_wp2_with fail
  go_ret
  exact ⟨rfl, s9.1⟩

set_option maxHeartbeats 8000000 in
theorem pairs_E (f t g u s : ByteArray) (nA nB : Int) (OUT M HB : Bool) (w : World) (h1 : smallB f t = true) (h2 : smallB g u = true) (h3 : ¬ 2000 < s.size)
    (hf : f.size ≤ 140737488355328) (ht : t.size ≤ 140737488355328) (hg : g.size ≤ 140737488355328) (hu : u.size ≤ 140737488355328) (hw : IntKind.i64.wrap (nA + nB) = nA + nB) (hq : (nA + nB == 0) = true) (hq1 : (nA == 0) = true)
    (c1 : ∀ w, Calls Try.prog 22 #[bd f t, bd g u] w fun e w' => e = .returned (.bool false) ∧ Below w.heap.size w w')
    (c2 : ∀ w, Calls Try.prog 22 #[bd g u, bd f t] w fun e w' => e = .returned (.bool OUT) ∧ Below w.heap.size w w')
    (c3 : ∀ w, Calls Try.prog 22 #[bd f t, bd f t] w fun e w' => e = .returned (.bool true) ∧ Below w.heap.size w w')
    (c4 : ∀ w, Calls Try.prog 20 #[bd f t, bd g u] w fun e w' => e = .returned (.bool M) ∧ Below w.heap.size w w')
    (c5 : ∀ w, Calls Try.prog 20 #[bd g u, bd f t] w fun e w' => e = .returned (.bool M) ∧ Below w.heap.size w w')
    (c6 : ∀ w, Calls Try.prog 18 #[bd f t, .string s] w fun e w' => e = .returned (.bool false) ∧ Below w.heap.size w w')
    (c7 : ∀ w, Calls Try.prog 18 #[bd g u, .string s] w fun e w' => e = .returned (.bool HB) ∧ Below w.heap.size w w')
    (c8 : ∀ w, Calls Try.prog 16 #[bd f t] w fun e w' => e = .returned (.int .i64 nA) ∧ Below w.heap.size w w')
    (c9 : ∀ w, Calls Try.prog 16 #[bd g u] w fun e w' => e = .returned (.int .i64 nB) ∧ Below w.heap.size w w') :
    Calls Try.prog 10 #[bd f t, bd g u, .string s] w fun e w' => e = .returned (.bool true) ∧ Below w.heap.size w w' := by
  have hst : ∀ w1 w2, S2 w f t g u w1 → Below w1.heap.size w1 w2 → S2 w f t g u w2 := fun _ _ h hb => h.keep hb
  have cs1 := keptS hst fun w => small_any f t w hf ht
  have cs2 := keptS hst fun w => small_any g u w hg hu
  rw [h1] at cs1
  rw [h2] at cs2
  have cL := keptS hst fun w => live_any w
  have d1 := keptS hst c1
  have d2 := keptS hst c2
  have d3 := keptS hst c3
  have d4 := keptS hst c4
  have d5 := keptS hst c5
  have d6 := keptS hst c6
  have d7 := keptS hst c7
  have d8 := keptS hst c8
  have d9 := keptS hst c9
  have dn := fun n => keptS hst (quiet fun w => num_any n w)
  have s0 := S2.start w f t g u
  clear h1 h2 c1 c2 c3 c4 c5 c6 c7 c8 c9 hst
  go_enter Try.func10, Try.ntmps10
  go_wp2_with fail
  refine (cs1 _ s0).mono ?_
  rintro e w1 ⟨rfl, s1⟩
  obtain ⟨_, ⟨_, e0, e1⟩, _, e2, e3⟩ := id s1
  go_wp2_with fail
  refine (cs2 _ s1).mono ?_
  rintro e w2 ⟨rfl, s2⟩
  clear e0 e1 e2 e3 s0 s1 cs1 cs2
  go_wp2_with fail
  refine St.wp_region_steady (S2 w f t g u) (by kernel_rfl) (by kernel_rfl) (by kernel_rfl) s2.drew ?_
  repeat (first
    | (apply St.step_past
       · rfl
       simp only [Act.put, List.setIfInBounds_toArray, List.set_cons_zero, List.set_cons_succ])
    | (apply St.step_give
       · rfl
       · intro w hSw
         obtain ⟨_, ⟨_, e0, e1⟩, _, e2, e3⟩ := hSw
         go_simp
         try with_reducible rfl
       simp only [Act.put, List.setIfInBounds_toArray, List.set_cons_zero, List.set_cons_succ])
    | (apply St.step_into
       · rfl
       · intro w hSw
         go_simp
         exact ⟨rfl, rfl⟩
       · with_reducible first | exact d1 | exact d2
       simp only [Act.put, List.setIfInBounds_toArray, List.set_cons_zero, List.set_cons_succ]))
  refine St.step_last ?_
  intro w3 s3
  clear s2
  go_wp2_with fail
  refine St.wp_region_steady (S2 w f t g u) (by kernel_rfl) (by kernel_rfl) (by kernel_rfl) s3.drew ?_
  repeat (first
    | (apply St.step_past
       · rfl
       simp only [Act.put, List.setIfInBounds_toArray, List.set_cons_zero, List.set_cons_succ])
    | (apply St.step_give
       · rfl
       · intro w hSw
         obtain ⟨_, ⟨_, e0, e1⟩, _, e2, e3⟩ := hSw
         go_simp
         try with_reducible rfl
       simp only [Act.put, List.setIfInBounds_toArray, List.set_cons_zero, List.set_cons_succ])
    | (apply St.step_into
       · rfl
       · intro w hSw
         go_simp
         exact ⟨rfl, rfl⟩
       · with_reducible first | exact d4 | exact d5 | exact d6 | exact d7
       simp only [Act.put, List.setIfInBounds_toArray, List.set_cons_zero, List.set_cons_succ]))
  refine St.step_last ?_
  intro w4 s4
  clear s3
  go_wp2_with fail
  refine St.wp_region_steady (S2 w f t g u) (by kernel_rfl) (by kernel_rfl) (by kernel_rfl) s4.drew ?_
  repeat (first
    | (apply St.step_past
       · rfl
       simp only [Act.put, List.setIfInBounds_toArray, List.set_cons_zero, List.set_cons_succ])
    | (apply St.step_give
       · rfl
       · intro w hSw
         obtain ⟨_, ⟨_, e0, e1⟩, _, e2, e3⟩ := hSw
         go_simp
         try with_reducible rfl
       simp only [Act.put, List.setIfInBounds_toArray, List.set_cons_zero, List.set_cons_succ])
    | (apply St.step_into
       · rfl
       · intro w hSw
         go_simp
         exact ⟨rfl, rfl⟩
       · with_reducible first | exact d8 | exact d9 | exact dn _
       simp only [Act.put, List.setIfInBounds_toArray, List.set_cons_zero, List.set_cons_succ]))
  refine St.step_last ?_
  intro w5 s5
  clear s4
  obtain ⟨_, ⟨_, e0, e1⟩, _, e2, e3⟩ := id s5
  go_wp2_with fail
  refine (d6 _ s5).mono ?_
  rintro e w6 ⟨rfl, s6⟩
  clear e0 e1 e2 e3 s5
  go_wp2_with fail
  refine St.wp_region_steady (S2 w f t g u) (by kernel_rfl) (by kernel_rfl) (by kernel_rfl) s6.drew ?_
  repeat (first
    | (apply St.step_past
       · rfl
       simp only [Act.put, List.setIfInBounds_toArray, List.set_cons_zero, List.set_cons_succ])
    | (apply St.step_give
       · rfl
       · intro w hSw
         obtain ⟨_, ⟨_, e0, e1⟩, _, e2, e3⟩ := hSw
         go_simp
         try with_reducible rfl
       simp only [Act.put, List.setIfInBounds_toArray, List.set_cons_zero, List.set_cons_succ])
    | (apply St.step_into
       · rfl
       · intro w hSw
         go_simp
         exact ⟨rfl, rfl⟩
       · with_reducible first | exact d3 | exact d8 | exact dn _ | exact cL
       simp only [Act.put, List.setIfInBounds_toArray, List.set_cons_zero, List.set_cons_succ]))
  refine St.step_last ?_
  intro w9 s9
  go_wp2_with fail
  go_ret
  exact ⟨rfl, s9.1⟩

set_option maxHeartbeats 8000000 in
theorem pairs_F (f t g u s : ByteArray) (nA nB : Int) (OUT M : Bool) (w : World) (h1 : smallB f t = true) (h2 : smallB g u = true) (h3 : ¬ 2000 < s.size)
    (hf : f.size ≤ 140737488355328) (ht : t.size ≤ 140737488355328) (hg : g.size ≤ 140737488355328) (hu : u.size ≤ 140737488355328) (hw : IntKind.i64.wrap (nA + nB) = nA + nB) (hq : (nA + nB == 0) = true) (hq1 : (nA == 0) = true)
    (c1 : ∀ w, Calls Try.prog 22 #[bd f t, bd g u] w fun e w' => e = .returned (.bool false) ∧ Below w.heap.size w w')
    (c2 : ∀ w, Calls Try.prog 22 #[bd g u, bd f t] w fun e w' => e = .returned (.bool OUT) ∧ Below w.heap.size w w')
    (c3 : ∀ w, Calls Try.prog 22 #[bd f t, bd f t] w fun e w' => e = .returned (.bool true) ∧ Below w.heap.size w w')
    (c4 : ∀ w, Calls Try.prog 20 #[bd f t, bd g u] w fun e w' => e = .returned (.bool M) ∧ Below w.heap.size w w')
    (c5 : ∀ w, Calls Try.prog 20 #[bd g u, bd f t] w fun e w' => e = .returned (.bool M) ∧ Below w.heap.size w w')
    (c6 : ∀ w, Calls Try.prog 18 #[bd f t, .string s] w fun e w' => e = .returned (.bool true) ∧ Below w.heap.size w w')
    (c7 : ∀ w, Calls Try.prog 18 #[bd g u, .string s] w fun e w' => e = .returned (.bool false) ∧ Below w.heap.size w w')
    (c8 : ∀ w, Calls Try.prog 16 #[bd f t] w fun e w' => e = .returned (.int .i64 nA) ∧ Below w.heap.size w w')
    (c9 : ∀ w, Calls Try.prog 16 #[bd g u] w fun e w' => e = .returned (.int .i64 nB) ∧ Below w.heap.size w w') :
    Calls Try.prog 10 #[bd f t, bd g u, .string s] w fun e w' => e = .returned (.bool true) ∧ Below w.heap.size w w' := by
  have hst : ∀ w1 w2, S2 w f t g u w1 → Below w1.heap.size w1 w2 → S2 w f t g u w2 := fun _ _ h hb => h.keep hb
  have cs1 := keptS hst fun w => small_any f t w hf ht
  have cs2 := keptS hst fun w => small_any g u w hg hu
  rw [h1] at cs1
  rw [h2] at cs2
  have cL := keptS hst fun w => live_any w
  have d1 := keptS hst c1
  have d2 := keptS hst c2
  have d3 := keptS hst c3
  have d4 := keptS hst c4
  have d5 := keptS hst c5
  have d6 := keptS hst c6
  have d7 := keptS hst c7
  have d8 := keptS hst c8
  have d9 := keptS hst c9
  have dn := fun n => keptS hst (quiet fun w => num_any n w)
  have s0 := S2.start w f t g u
  clear h1 h2 c1 c2 c3 c4 c5 c6 c7 c8 c9 hst
  go_enter Try.func10, Try.ntmps10
  go_wp2_with fail
  refine (cs1 _ s0).mono ?_
  rintro e w1 ⟨rfl, s1⟩
  obtain ⟨_, ⟨_, e0, e1⟩, _, e2, e3⟩ := id s1
  go_wp2_with fail
  refine (cs2 _ s1).mono ?_
  rintro e w2 ⟨rfl, s2⟩
  clear e0 e1 e2 e3 s0 s1 cs1 cs2
  go_wp2_with fail
  refine St.wp_region_steady (S2 w f t g u) (by kernel_rfl) (by kernel_rfl) (by kernel_rfl) s2.drew ?_
  repeat (first
    | (apply St.step_past
       · rfl
       simp only [Act.put, List.setIfInBounds_toArray, List.set_cons_zero, List.set_cons_succ])
    | (apply St.step_give
       · rfl
       · intro w hSw
         obtain ⟨_, ⟨_, e0, e1⟩, _, e2, e3⟩ := hSw
         go_simp
         try with_reducible rfl
       simp only [Act.put, List.setIfInBounds_toArray, List.set_cons_zero, List.set_cons_succ])
    | (apply St.step_into
       · rfl
       · intro w hSw
         go_simp
         exact ⟨rfl, rfl⟩
       · with_reducible first | exact d1 | exact d2
       simp only [Act.put, List.setIfInBounds_toArray, List.set_cons_zero, List.set_cons_succ]))
  refine St.step_last ?_
  intro w3 s3
  clear s2
  go_wp2_with fail
  refine St.wp_region_steady (S2 w f t g u) (by kernel_rfl) (by kernel_rfl) (by kernel_rfl) s3.drew ?_
  repeat (first
    | (apply St.step_past
       · rfl
       simp only [Act.put, List.setIfInBounds_toArray, List.set_cons_zero, List.set_cons_succ])
    | (apply St.step_give
       · rfl
       · intro w hSw
         obtain ⟨_, ⟨_, e0, e1⟩, _, e2, e3⟩ := hSw
         go_simp
         try with_reducible rfl
       simp only [Act.put, List.setIfInBounds_toArray, List.set_cons_zero, List.set_cons_succ])
    | (apply St.step_into
       · rfl
       · intro w hSw
         go_simp
         exact ⟨rfl, rfl⟩
       · with_reducible first | exact d4 | exact d5 | exact d6 | exact d7
       simp only [Act.put, List.setIfInBounds_toArray, List.set_cons_zero, List.set_cons_succ]))
  refine St.step_last ?_
  intro w4 s4
  clear s3
  go_wp2_with fail
  refine St.wp_region_steady (S2 w f t g u) (by kernel_rfl) (by kernel_rfl) (by kernel_rfl) s4.drew ?_
  repeat (first
    | (apply St.step_past
       · rfl
       simp only [Act.put, List.setIfInBounds_toArray, List.set_cons_zero, List.set_cons_succ])
    | (apply St.step_give
       · rfl
       · intro w hSw
         obtain ⟨_, ⟨_, e0, e1⟩, _, e2, e3⟩ := hSw
         go_simp
         try with_reducible rfl
       simp only [Act.put, List.setIfInBounds_toArray, List.set_cons_zero, List.set_cons_succ])
    | (apply St.step_into
       · rfl
       · intro w hSw
         go_simp
         exact ⟨rfl, rfl⟩
       · with_reducible first | exact d8 | exact d9 | exact dn _
       simp only [Act.put, List.setIfInBounds_toArray, List.set_cons_zero, List.set_cons_succ]))
  refine St.step_last ?_
  intro w5 s5
  clear s4
  obtain ⟨_, ⟨_, e0, e1⟩, _, e2, e3⟩ := id s5
  go_wp2_with fail
  refine (d6 _ s5).mono ?_
  rintro e w6 ⟨rfl, s6⟩
  clear e0 e1 e2 e3 s5
  obtain ⟨_, ⟨_, e0, e1⟩, _, e2, e3⟩ := id s6
  go_wp2_with fail
  refine (d7 _ s6).mono ?_
  rintro e w7 ⟨rfl, s7⟩
  clear e0 e1 e2 e3 s6
  go_wp2_with fail
  refine St.wp_region_steady (S2 w f t g u) (by kernel_rfl) (by kernel_rfl) (by kernel_rfl) s7.drew ?_
  repeat (first
    | (apply St.step_past
       · rfl
       simp only [Act.put, List.setIfInBounds_toArray, List.set_cons_zero, List.set_cons_succ])
    | (apply St.step_give
       · rfl
       · intro w hSw
         obtain ⟨_, ⟨_, e0, e1⟩, _, e2, e3⟩ := hSw
         go_simp
         try with_reducible rfl
       simp only [Act.put, List.setIfInBounds_toArray, List.set_cons_zero, List.set_cons_succ])
    | (apply St.step_into
       · rfl
       · intro w hSw
         go_simp
         exact ⟨rfl, rfl⟩
       · with_reducible first | exact d3 | exact d8 | exact dn _ | exact cL
       simp only [Act.put, List.setIfInBounds_toArray, List.set_cons_zero, List.set_cons_succ]))
  refine St.step_last ?_
  intro w9 s9
  go_wp2_with fail
  go_ret
  exact ⟨rfl, s9.1⟩

set_option maxHeartbeats 8000000 in
theorem pairs_G (f t g u s : ByteArray) (nA nB : Int) (OUT : Bool) (w : World) (h1 : smallB f t = true) (h2 : smallB g u = true) (h3 : ¬ 2000 < s.size)
    (hf : f.size ≤ 140737488355328) (ht : t.size ≤ 140737488355328) (hg : g.size ≤ 140737488355328) (hu : u.size ≤ 140737488355328) (hw : IntKind.i64.wrap (nA + nB) = nA + nB) (hq : (nA + nB == 0) = true) (hq1 : (nA == 0) = true)
    (c1 : ∀ w, Calls Try.prog 22 #[bd f t, bd g u] w fun e w' => e = .returned (.bool false) ∧ Below w.heap.size w w')
    (c2 : ∀ w, Calls Try.prog 22 #[bd g u, bd f t] w fun e w' => e = .returned (.bool OUT) ∧ Below w.heap.size w w')
    (c3 : ∀ w, Calls Try.prog 22 #[bd f t, bd f t] w fun e w' => e = .returned (.bool true) ∧ Below w.heap.size w w')
    (c4 : ∀ w, Calls Try.prog 20 #[bd f t, bd g u] w fun e w' => e = .returned (.bool true) ∧ Below w.heap.size w w')
    (c5 : ∀ w, Calls Try.prog 20 #[bd g u, bd f t] w fun e w' => e = .returned (.bool true) ∧ Below w.heap.size w w')
    (c6 : ∀ w, Calls Try.prog 18 #[bd f t, .string s] w fun e w' => e = .returned (.bool true) ∧ Below w.heap.size w w')
    (c7 : ∀ w, Calls Try.prog 18 #[bd g u, .string s] w fun e w' => e = .returned (.bool true) ∧ Below w.heap.size w w')
    (c8 : ∀ w, Calls Try.prog 16 #[bd f t] w fun e w' => e = .returned (.int .i64 nA) ∧ Below w.heap.size w w')
    (c9 : ∀ w, Calls Try.prog 16 #[bd g u] w fun e w' => e = .returned (.int .i64 nB) ∧ Below w.heap.size w w') :
    Calls Try.prog 10 #[bd f t, bd g u, .string s] w fun e w' => e = .returned (.bool true) ∧ Below w.heap.size w w' := by
  have hst : ∀ w1 w2, S2 w f t g u w1 → Below w1.heap.size w1 w2 → S2 w f t g u w2 := fun _ _ h hb => h.keep hb
  have cs1 := keptS hst fun w => small_any f t w hf ht
  have cs2 := keptS hst fun w => small_any g u w hg hu
  rw [h1] at cs1
  rw [h2] at cs2
  have cL := keptS hst fun w => live_any w
  have d1 := keptS hst c1
  have d2 := keptS hst c2
  have d3 := keptS hst c3
  have d4 := keptS hst c4
  have d5 := keptS hst c5
  have d6 := keptS hst c6
  have d7 := keptS hst c7
  have d8 := keptS hst c8
  have d9 := keptS hst c9
  have dn := fun n => keptS hst (quiet fun w => num_any n w)
  have s0 := S2.start w f t g u
  clear h1 h2 c1 c2 c3 c4 c5 c6 c7 c8 c9 hst
  go_enter Try.func10, Try.ntmps10
  go_wp2_with fail
  refine (cs1 _ s0).mono ?_
  rintro e w1 ⟨rfl, s1⟩
  obtain ⟨_, ⟨_, e0, e1⟩, _, e2, e3⟩ := id s1
  go_wp2_with fail
  refine (cs2 _ s1).mono ?_
  rintro e w2 ⟨rfl, s2⟩
  clear e0 e1 e2 e3 s0 s1 cs1 cs2
  go_wp2_with fail
  refine St.wp_region_steady (S2 w f t g u) (by kernel_rfl) (by kernel_rfl) (by kernel_rfl) s2.drew ?_
  repeat (first
    | (apply St.step_past
       · rfl
       simp only [Act.put, List.setIfInBounds_toArray, List.set_cons_zero, List.set_cons_succ])
    | (apply St.step_give
       · rfl
       · intro w hSw
         obtain ⟨_, ⟨_, e0, e1⟩, _, e2, e3⟩ := hSw
         go_simp
         try with_reducible rfl
       simp only [Act.put, List.setIfInBounds_toArray, List.set_cons_zero, List.set_cons_succ])
    | (apply St.step_into
       · rfl
       · intro w hSw
         go_simp
         exact ⟨rfl, rfl⟩
       · with_reducible first | exact d1 | exact d2
       simp only [Act.put, List.setIfInBounds_toArray, List.set_cons_zero, List.set_cons_succ]))
  refine St.step_last ?_
  intro w3 s3
  clear s2
  go_wp2_with fail
  refine St.wp_region_steady (S2 w f t g u) (by kernel_rfl) (by kernel_rfl) (by kernel_rfl) s3.drew ?_
  repeat (first
    | (apply St.step_past
       · rfl
       simp only [Act.put, List.setIfInBounds_toArray, List.set_cons_zero, List.set_cons_succ])
    | (apply St.step_give
       · rfl
       · intro w hSw
         obtain ⟨_, ⟨_, e0, e1⟩, _, e2, e3⟩ := hSw
         go_simp
         try with_reducible rfl
       simp only [Act.put, List.setIfInBounds_toArray, List.set_cons_zero, List.set_cons_succ])
    | (apply St.step_into
       · rfl
       · intro w hSw
         go_simp
         exact ⟨rfl, rfl⟩
       · with_reducible first | exact d4 | exact d5 | exact d6 | exact d7
       simp only [Act.put, List.setIfInBounds_toArray, List.set_cons_zero, List.set_cons_succ]))
  refine St.step_last ?_
  intro w4 s4
  clear s3
  go_wp2_with fail
  refine St.wp_region_steady (S2 w f t g u) (by kernel_rfl) (by kernel_rfl) (by kernel_rfl) s4.drew ?_
  repeat (first
    | (apply St.step_past
       · rfl
       simp only [Act.put, List.setIfInBounds_toArray, List.set_cons_zero, List.set_cons_succ])
    | (apply St.step_give
       · rfl
       · intro w hSw
         obtain ⟨_, ⟨_, e0, e1⟩, _, e2, e3⟩ := hSw
         go_simp
         try with_reducible rfl
       simp only [Act.put, List.setIfInBounds_toArray, List.set_cons_zero, List.set_cons_succ])
    | (apply St.step_into
       · rfl
       · intro w hSw
         go_simp
         exact ⟨rfl, rfl⟩
       · with_reducible first | exact d8 | exact d9 | exact dn _
       simp only [Act.put, List.setIfInBounds_toArray, List.set_cons_zero, List.set_cons_succ]))
  refine St.step_last ?_
  intro w5 s5
  clear s4
  obtain ⟨_, ⟨_, e0, e1⟩, _, e2, e3⟩ := id s5
  go_wp2_with fail
  refine (d6 _ s5).mono ?_
  rintro e w6 ⟨rfl, s6⟩
  clear e0 e1 e2 e3 s5
  obtain ⟨_, ⟨_, e0, e1⟩, _, e2, e3⟩ := id s6
  go_wp2_with fail
  refine (d7 _ s6).mono ?_
  rintro e w7 ⟨rfl, s7⟩
  clear e0 e1 e2 e3 s6
  obtain ⟨_, ⟨_, e0, e1⟩, _, e2, e3⟩ := id s7
  go_wp2_with fail
  refine (d4 _ s7).mono ?_
  rintro e w8 ⟨rfl, s8⟩
  clear e0 e1 e2 e3 s7
  go_wp2_with fail
  refine St.wp_region_steady (S2 w f t g u) (by kernel_rfl) (by kernel_rfl) (by kernel_rfl) s8.drew ?_
  repeat (first
    | (apply St.step_past
       · rfl
       simp only [Act.put, List.setIfInBounds_toArray, List.set_cons_zero, List.set_cons_succ])
    | (apply St.step_give
       · rfl
       · intro w hSw
         obtain ⟨_, ⟨_, e0, e1⟩, _, e2, e3⟩ := hSw
         go_simp
         try with_reducible rfl
       simp only [Act.put, List.setIfInBounds_toArray, List.set_cons_zero, List.set_cons_succ])
    | (apply St.step_into
       · rfl
       · intro w hSw
         go_simp
         exact ⟨rfl, rfl⟩
       · with_reducible first | exact d3 | exact d8 | exact dn _ | exact cL
       simp only [Act.put, List.setIfInBounds_toArray, List.set_cons_zero, List.set_cons_succ]))
  refine St.step_last ?_
  intro w9 s9
  go_wp2_with fail
  go_ret
  exact ⟨rfl, s9.1⟩

set_option maxHeartbeats 8000000 in
theorem pairs_H (f t g u s : ByteArray) (nA nB : Int) (OUT HA HB IA : Bool) (w : World) (h1 : smallB f t = true) (h2 : smallB g u = true) (h3 : ¬ 2000 < s.size)
    (hf : f.size ≤ 140737488355328) (ht : t.size ≤ 140737488355328) (hg : g.size ≤ 140737488355328) (hu : u.size ≤ 140737488355328) (hw : IntKind.i64.wrap (nA + nB) = nA + nB) (hq : (nA + nB == 0) = false) (hq1 : (nA == 0) = IA)
    (c1 : ∀ w, Calls Try.prog 22 #[bd f t, bd g u] w fun e w' => e = .returned (.bool false) ∧ Below w.heap.size w w')
    (c2 : ∀ w, Calls Try.prog 22 #[bd g u, bd f t] w fun e w' => e = .returned (.bool OUT) ∧ Below w.heap.size w w')
    (c3 : ∀ w, Calls Try.prog 22 #[bd f t, bd f t] w fun e w' => e = .returned (.bool IA) ∧ Below w.heap.size w w')
    (c4 : ∀ w, Calls Try.prog 20 #[bd f t, bd g u] w fun e w' => e = .returned (.bool false) ∧ Below w.heap.size w w')
    (c5 : ∀ w, Calls Try.prog 20 #[bd g u, bd f t] w fun e w' => e = .returned (.bool false) ∧ Below w.heap.size w w')
    (c6 : ∀ w, Calls Try.prog 18 #[bd f t, .string s] w fun e w' => e = .returned (.bool HA) ∧ Below w.heap.size w w')
    (c7 : ∀ w, Calls Try.prog 18 #[bd g u, .string s] w fun e w' => e = .returned (.bool HB) ∧ Below w.heap.size w w')
    (c8 : ∀ w, Calls Try.prog 16 #[bd f t] w fun e w' => e = .returned (.int .i64 nA) ∧ Below w.heap.size w w')
    (c9 : ∀ w, Calls Try.prog 16 #[bd g u] w fun e w' => e = .returned (.int .i64 nB) ∧ Below w.heap.size w w') :
    Calls Try.prog 10 #[bd f t, bd g u, .string s] w fun e w' => e = .returned (.bool true) ∧ Below w.heap.size w w' := by
  have hst : ∀ w1 w2, S2 w f t g u w1 → Below w1.heap.size w1 w2 → S2 w f t g u w2 := fun _ _ h hb => h.keep hb
  have cs1 := keptS hst fun w => small_any f t w hf ht
  have cs2 := keptS hst fun w => small_any g u w hg hu
  rw [h1] at cs1
  rw [h2] at cs2
  have cL := keptS hst fun w => live_any w
  have d1 := keptS hst c1
  have d2 := keptS hst c2
  have d3 := keptS hst c3
  have d4 := keptS hst c4
  have d5 := keptS hst c5
  have d6 := keptS hst c6
  have d7 := keptS hst c7
  have d8 := keptS hst c8
  have d9 := keptS hst c9
  have dn := fun n => keptS hst (quiet fun w => num_any n w)
  have s0 := S2.start w f t g u
  clear h1 h2 c1 c2 c3 c4 c5 c6 c7 c8 c9 hst
  go_enter Try.func10, Try.ntmps10
  go_wp2_with fail
  refine (cs1 _ s0).mono ?_
  rintro e w1 ⟨rfl, s1⟩
  obtain ⟨_, ⟨_, e0, e1⟩, _, e2, e3⟩ := id s1
  go_wp2_with fail
  refine (cs2 _ s1).mono ?_
  rintro e w2 ⟨rfl, s2⟩
  clear e0 e1 e2 e3 s0 s1 cs1 cs2
  go_wp2_with fail
  refine St.wp_region_steady (S2 w f t g u) (by kernel_rfl) (by kernel_rfl) (by kernel_rfl) s2.drew ?_
  repeat (first
    | (apply St.step_past
       · rfl
       simp only [Act.put, List.setIfInBounds_toArray, List.set_cons_zero, List.set_cons_succ])
    | (apply St.step_give
       · rfl
       · intro w hSw
         obtain ⟨_, ⟨_, e0, e1⟩, _, e2, e3⟩ := hSw
         go_simp
         try with_reducible rfl
       simp only [Act.put, List.setIfInBounds_toArray, List.set_cons_zero, List.set_cons_succ])
    | (apply St.step_into
       · rfl
       · intro w hSw
         go_simp
         exact ⟨rfl, rfl⟩
       · with_reducible first | exact d1 | exact d2
       simp only [Act.put, List.setIfInBounds_toArray, List.set_cons_zero, List.set_cons_succ]))
  refine St.step_last ?_
  intro w3 s3
  clear s2
  go_wp2_with fail
  refine St.wp_region_steady (S2 w f t g u) (by kernel_rfl) (by kernel_rfl) (by kernel_rfl) s3.drew ?_
  repeat (first
    | (apply St.step_past
       · rfl
       simp only [Act.put, List.setIfInBounds_toArray, List.set_cons_zero, List.set_cons_succ])
    | (apply St.step_give
       · rfl
       · intro w hSw
         obtain ⟨_, ⟨_, e0, e1⟩, _, e2, e3⟩ := hSw
         go_simp
         try with_reducible rfl
       simp only [Act.put, List.setIfInBounds_toArray, List.set_cons_zero, List.set_cons_succ])
    | (apply St.step_into
       · rfl
       · intro w hSw
         go_simp
         exact ⟨rfl, rfl⟩
       · with_reducible first | exact d4 | exact d5 | exact d6 | exact d7
       simp only [Act.put, List.setIfInBounds_toArray, List.set_cons_zero, List.set_cons_succ]))
  refine St.step_last ?_
  intro w4 s4
  clear s3
  go_wp2_with fail
  refine St.wp_region_steady (S2 w f t g u) (by kernel_rfl) (by kernel_rfl) (by kernel_rfl) s4.drew ?_
  repeat (first
    | (apply St.step_past
       · rfl
       simp only [Act.put, List.setIfInBounds_toArray, List.set_cons_zero, List.set_cons_succ])
    | (apply St.step_give
       · rfl
       · intro w hSw
         obtain ⟨_, ⟨_, e0, e1⟩, _, e2, e3⟩ := hSw
         go_simp
         try with_reducible rfl
       simp only [Act.put, List.setIfInBounds_toArray, List.set_cons_zero, List.set_cons_succ])
    | (apply St.step_into
       · rfl
       · intro w hSw
         go_simp
         exact ⟨rfl, rfl⟩
       · with_reducible first | exact d8 | exact d9 | exact dn _
       simp only [Act.put, List.setIfInBounds_toArray, List.set_cons_zero, List.set_cons_succ]))
  refine St.step_last ?_
  intro w5 s5
  clear s4
  obtain ⟨_, ⟨_, e0, e1⟩, _, e2, e3⟩ := id s5
  go_wp2_with fail
  refine (d4 _ s5).mono ?_
  rintro e w6 ⟨rfl, s6⟩
  clear e0 e1 e2 e3 s5
  go_wp2_with fail
  refine St.wp_region_steady (S2 w f t g u) (by kernel_rfl) (by kernel_rfl) (by kernel_rfl) s6.drew ?_
  repeat (first
    | (apply St.step_past
       · rfl
       simp only [Act.put, List.setIfInBounds_toArray, List.set_cons_zero, List.set_cons_succ])
    | (apply St.step_give
       · rfl
       · intro w hSw
         obtain ⟨_, ⟨_, e0, e1⟩, _, e2, e3⟩ := hSw
         go_simp
         try with_reducible rfl
       simp only [Act.put, List.setIfInBounds_toArray, List.set_cons_zero, List.set_cons_succ])
    | (apply St.step_into
       · rfl
       · intro w hSw
         go_simp
         exact ⟨rfl, rfl⟩
       · with_reducible first | exact d3 | exact d8 | exact dn _ | exact cL
       simp only [Act.put, List.setIfInBounds_toArray, List.set_cons_zero, List.set_cons_succ]))
  refine St.step_last ?_
  intro w9 s9
  go_wp2_with fail
  go_ret
  exact ⟨rfl, s9.1⟩

end Go.Proofs.Ytbjgpcfimpmjiaa
