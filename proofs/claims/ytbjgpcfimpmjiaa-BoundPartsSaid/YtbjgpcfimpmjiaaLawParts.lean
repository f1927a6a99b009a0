/-
  The law BoundParts, walked: it answers true, at every argument. Condition: lengths at most 2^47.
-/
import Derived.Test.YtbjgpcfimpmjiaaBoxes
namespace Go.Proofs.Ytbjgpcfimpmjiaa
open Go.RowKit O

theorem cutB_of {b : Bd} {k : Text} (h : cutsB b k = true) : cutB b k = some (⟨b.f, k⟩, ⟨k, b.t⟩) := by
  unfold cutB; exact if_pos h

set_option maxHeartbeats 8000000 in
theorem walk_parts (f t k s : ByteArray) (w : World) (hf : f.size ≤ 140737488355328) (ht : t.size ≤ 140737488355328) (hk : k.size ≤ 140737488355328) (hs : s.size ≤ 140737488355328) :
    Calls Try.prog 7 #[bd f t, .string k, .string s] w fun e w' => e = .returned (.bool true) ∧ Below w.heap.size w w' := by
  have hst : ∀ w1 w2, S1 w f t w1 → Below w1.heap.size w1 w2 → S1 w f t w2 := fun _ _ h hb => h.keep hb
  have cs1 := keptS hst fun w => small_any f t w hf ht
  have cL := keptS hst fun w => live_any w
  have s0 := S1.start w f t
  cases h1 : smallB f t with
  | false =>
    rw [h1] at cs1
    clear h1
    go_enter Try.func7, Try.ntmps7
    go_wp2_with fail
    refine (cs1 _ s0).mono ?_
    rintro e w1 ⟨rfl, s1⟩
    go_wp2_with fail
    refine (cL _ s1).mono ?_
    rintro e w2 ⟨rfl, s2⟩
    go_wp2_with fail
    go_ret
    exact ⟨rfl, s2.1⟩
  | true =>
    rw [h1] at cs1
    by_cases h2 : 2000 < k.size
    · clear h1
      go_enter Try.func7, Try.ntmps7
      go_wp2_with fail
      refine (cs1 _ s0).mono ?_
      rintro e w1 ⟨rfl, s1⟩
      go_wp2_with fail
      refine (cL _ s1).mono ?_
      rintro e w2 ⟨rfl, s2⟩
      go_wp2_with fail
      go_ret
      exact ⟨rfl, s2.1⟩
    · by_cases h3 : 2000 < s.size
      · clear h1
        go_enter Try.func7, Try.ntmps7
        go_wp2_with fail
        refine (cs1 _ s0).mono ?_
        rintro e w1 ⟨rfl, s1⟩
        go_wp2_with fail
        refine (cL _ s1).mono ?_
        rintro e w2 ⟨rfl, s2⟩
        go_wp2_with fail
        go_ret
        exact ⟨rfl, s2.1⟩
      · have c1 := fun w => cut_any f t k w hf ht hk
        cases hc : cutsB (B f t) k.toList with
        | false =>
          rw [show cutV f t k = .tuple #[bd E0 E0, bd E0 E0, .int .i64 20] by unfold cutV; rw [hc]; rfl] at c1
          clear h1 hc
          go_enter Try.func7, Try.ntmps7
          go_wp2_with fail
          refine (cs1 _ s0).mono ?_
          rintro e w1 ⟨rfl, s1⟩
          obtain ⟨_, _, e0, e1⟩ := id s1
          go_wp2_with fail
          refine (c1 _).mono ?_
          rintro e w2 ⟨rfl, b2⟩
          have s2 := s1.keep b2
          clear e0 e1 s1 b2
          have s2' := (s2.alloc (.cells #[.string E0, .string E0] 23)).alloc (.cells #[.string E0, .string E0] 23)
          go_wp2_with fail
          refine (num_any _ _).mono ?_
          rintro e w' ⟨rfl, rfl⟩
          go_wp2_with fail
          refine (num_any _ _).mono ?_
          rintro e w' ⟨rfl, rfl⟩
          go_wp2_with fail
          refine (cL _ s2').mono ?_
          rintro e w3 ⟨rfl, s3⟩
          go_wp2_with fail
          go_ret
          exact ⟨rfl, s3.1⟩
        | true =>
          rw [show cutV f t k = .tuple #[bd f k, bd k t, .int .i64 0] by unfold cutV; rw [hc]; rfl] at c1
          obtain ⟨p1, p2, p3, p4, p5, p6, p7, p8⟩ := parts (cutB_of hc)
          have c2 := fun w => join_any f k k t w hf hk hk ht
          rw [show joinV f k k t = .tuple #[bd f t, .int .i64 0] by unfold joinV; rw [show nextB (B f k) (B k t) = true from p7]; rfl] at c2
          have hst7 : ∀ w2 w3 a b : World, (fun w' => S1 w f t w' ∧ Box w2.heap.size f k w' ∧ Box (w2.heap.size + 1) k t w' ∧ Box w3.heap.size f t w') a → Below a.heap.size a b → (fun w' => S1 w f t w' ∧ Box w2.heap.size f k w' ∧ Box (w2.heap.size + 1) k t w' ∧ Box w3.heap.size f t w') b := fun _ _ _ _ h hb => ⟨h.1.keep hb, h.2.1.keep hb, h.2.2.1.keep hb, h.2.2.2.keep hb⟩
          have d1 := fun w2 w3 n => keptS (hst7 w2 w3) (quiet fun w => num_any n w)
          have d2 := fun w2 w3 => keptS (hst7 w2 w3) fun w => check_yes f k w hf hk p2
          have d3 := fun w2 w3 => keptS (hst7 w2 w3) fun w => check_yes k t w hk ht p3
          have m1 := fun w => meet_any f k k t w hf hk hk ht
          rw [show meetB (B f k) (B k t) = false from p4] at m1
          have m2 := fun w => inside_any f k f t w hf hk hf ht
          rw [show insideB (B f k) (B f t) = true from p5] at m2
          have m3 := fun w => inside_any k t f t w hk ht hf ht
          rw [show insideB (B k t) (B f t) = true from p6] at m3
          have m4 := fun w => next_any f k k t w hf hk hk ht
          rw [show nextB (B f k) (B k t) = true from p7] at m4
          have m5 := fun w => has_any f t s w
          have m6 := fun w => has_any f k s w
          have m7 := fun w => has_any k t s w
          rw [show hasB (B f t) s.toList = (hasB (B f k) s.toList != hasB (B k t) s.toList) from p8 s.toList] at m5
          generalize hasB (B f k) s.toList = H1 at *
          generalize hasB (B k t) s.toList = H2 at *
          have d4 := fun w2 w3 => keptS (hst7 w2 w3) m1
          have d5 := fun w2 w3 => keptS (hst7 w2 w3) m2
          have d6 := fun w2 w3 => keptS (hst7 w2 w3) m3
          have d7 := fun w2 w3 => keptS (hst7 w2 w3) m4
          have d8 := fun w2 w3 => keptS (hst7 w2 w3) m5
          have d9 := fun w2 w3 => keptS (hst7 w2 w3) m6
          have d10 := fun w2 w3 => keptS (hst7 w2 w3) m7
          have d11 := fun w2 w3 => keptS (hst7 w2 w3) fun w => live_any w
          clear h1 hc p1 p2 p3 p4 p5 p6 p7 p8 hst7 m1 m2 m3 m4 m5 m6 m7
          go_enter Try.func7, Try.ntmps7
          go_wp2_with fail
          refine (cs1 _ s0).mono ?_
          rintro e w1 ⟨rfl, s1⟩
          obtain ⟨_, _, e0, e1⟩ := id s1
          go_wp2_with fail
          refine (c1 _).mono ?_
          rintro e w2 ⟨rfl, b2⟩
          have s2 := s1.keep b2
          clear e0 e1 s1 b2
          have s2' := (s2.alloc (.cells #[.string f, .string k] 23)).alloc (.cells #[.string k, .string t] 23)
          have B2 := Box.new2 w2 f k k t
          go_wp2_with fail
          refine (num_any _ _).mono ?_
          rintro e w' ⟨rfl, rfl⟩
          go_wp2_with fail
          refine (c2 _).mono ?_
          rintro e w3 ⟨rfl, b3⟩
          have hS3 : (fun w' => S1 w f t w' ∧ Box w2.heap.size f k w' ∧ Box (w2.heap.size + 1) k t w' ∧ Box w3.heap.size f t w') (w3.alloc (.cells #[.string f, .string t] 23)).drew :=
            ⟨((s2'.keep b3).alloc _).drew, ((B2.1.keep b3).alloc _).drew, ((B2.2.keep b3).alloc _).drew, (Box.new w3 f t).drew⟩
          clear s2 s2' B2 b3 cs1 cL c1 c2
          go_wp2_with fail
          refine St.wp_region_steady (fun w' => S1 w f t w' ∧ Box w2.heap.size f k w' ∧ Box (w2.heap.size + 1) k t w' ∧ Box w3.heap.size f t w') (by kernel_rfl) (by kernel_rfl) (by kernel_rfl) hS3 ?_
          repeat (first
            | (apply St.step_past
               · rfl
               simp only [Act.put, List.setIfInBounds_toArray, List.set_cons_zero, List.set_cons_succ])
            | (apply St.step_give
               · rfl
               · intro w hSw
                 obtain ⟨⟨_, _, e0, e1⟩, ⟨_, i0, i1⟩, ⟨_, i2, i3⟩, ⟨_, i4, i5⟩⟩ := hSw
                 go_simp
                 try with_reducible rfl
               simp only [Act.put, List.setIfInBounds_toArray, List.set_cons_zero, List.set_cons_succ])
            | (apply St.step_into
               · rfl
               · intro w hSw
                 go_simp
                 exact ⟨rfl, rfl⟩
               · with_reducible first | exact d2 w2 w3 | exact d3 w2 w3 | exact d4 w2 w3 | exact d5 w2 w3 | exact d6 w2 w3 | exact d7 w2 w3 | exact d1 w2 w3 _
               simp only [Act.put, List.setIfInBounds_toArray, List.set_cons_zero, List.set_cons_succ]))
          refine St.step_last ?_
          intro w4 s4
          go_wp2_with fail
          clear d1 d2 d3 d4 d5 d6 d7
          cases H1 <;> cases H2
          all_goals
            refine St.wp_region_steady (fun w' => S1 w f t w' ∧ Box w2.heap.size f k w' ∧ Box (w2.heap.size + 1) k t w' ∧ Box w3.heap.size f t w') (by kernel_rfl) (by kernel_rfl) (by kernel_rfl) ⟨s4.1.drew, s4.2.1.drew, s4.2.2.1.drew, s4.2.2.2.drew⟩ ?_
            repeat (first
              | (apply St.step_past
                 · rfl
                 simp only [Act.put, List.setIfInBounds_toArray, List.set_cons_zero, List.set_cons_succ])
              | (apply St.step_give
                 · rfl
                 · intro w hSw
                   obtain ⟨⟨_, _, e0, e1⟩, ⟨_, i0, i1⟩, ⟨_, i2, i3⟩, ⟨_, i4, i5⟩⟩ := hSw
                   go_simp
                   try with_reducible rfl
                 simp only [Act.put, List.setIfInBounds_toArray, List.set_cons_zero, List.set_cons_succ])
              | (apply St.step_into
                 · rfl
                 · intro w hSw
                   go_simp
                   exact ⟨rfl, rfl⟩
                 · with_reducible first | exact d8 w2 w3 | exact d9 w2 w3 | exact d10 w2 w3 | exact d11 w2 w3
                 simp only [Act.put, List.setIfInBounds_toArray, List.set_cons_zero, List.set_cons_succ]))
            refine St.step_last ?_
            intro w5 s5
            go_wp2_with fail
            go_ret
            exact ⟨rfl, s5.1.1⟩

end Go.Proofs.Ytbjgpcfimpmjiaa
