/-
  The law BoundCuts, walked: it answers true, at every argument. Condition: lengths at most 2^47.
-/
import Derived.Test.YtbjgpcfimpmjiaaBoxes
namespace Go.Proofs.Ytbjgpcfimpmjiaa
open Go.RowKit O

set_option maxHeartbeats 8000000 in
theorem walk_cuts (f t g u k : ByteArray) (w : World) (hf : f.size ≤ 140737488355328) (ht : t.size ≤ 140737488355328) (hg : g.size ≤ 140737488355328) (hu : u.size ≤ 140737488355328) (hk : k.size ≤ 140737488355328) :
    Calls Try.prog 4 #[bd f t, bd g u, .string k] w fun e w' => e = .returned (.bool true) ∧ Below w.heap.size w w' := by
  have hst : ∀ w1 w2, S2 w f t g u w1 → Below w1.heap.size w1 w2 → S2 w f t g u w2 := fun _ _ h hb => h.keep hb
  have cs1 := keptS hst fun w => small_any f t w hf ht
  have cs2 := keptS hst fun w => small_any g u w hg hu
  have cL := keptS hst fun w => live_any w
  have s0 := S2.start w f t g u
  cases h1 : smallB f t with
  | false =>
    rw [h1] at cs1
    clear h1
    go_enter Try.func4, Try.ntmps4
    go_wp2_with fail
    refine (cs1 _ s0).mono ?_
    rintro e w1 ⟨rfl, s1⟩
    go_wp2_with fail
    refine (cL _ s1).mono ?_
    rintro e w2 ⟨rfl, s2⟩
    go_wp2_with fail
    go_ret
    exact ⟨rfl, s2.1⟩
  | true =>
    rw [h1] at cs1
    cases h2 : smallB g u with
    | false =>
      rw [h2] at cs2
      clear h1 h2
      go_enter Try.func4, Try.ntmps4
      go_wp2_with fail
      refine (cs1 _ s0).mono ?_
      rintro e w1 ⟨rfl, s1⟩
      obtain ⟨_, ⟨_, e0, e1⟩, _, e2, e3⟩ := id s1
      go_wp2_with fail
      refine (cs2 _ s1).mono ?_
      rintro e w2 ⟨rfl, s2⟩
      go_wp2_with fail
      refine (cL _ s2).mono ?_
      rintro e w3 ⟨rfl, s3⟩
      go_wp2_with fail
      go_ret
      exact ⟨rfl, s3.1⟩
    | true =>
      rw [h2] at cs2
      by_cases h3 : 2000 < k.size
      · clear h1 h2
        go_enter Try.func4, Try.ntmps4
        go_wp2_with fail
        refine (cs1 _ s0).mono ?_
        rintro e w1 ⟨rfl, s1⟩
        obtain ⟨_, ⟨_, e0, e1⟩, _, e2, e3⟩ := id s1
        go_wp2_with fail
        refine (cs2 _ s1).mono ?_
        rintro e w2 ⟨rfl, s2⟩
        clear e0 e1 e2 e3
        go_wp2_with fail
        refine (cL _ s2).mono ?_
        rintro e w3 ⟨rfl, s3⟩
        go_wp2_with fail
        go_ret
        exact ⟨rfl, s3.1⟩
      · obtain ⟨x1, x2, y1, y2, n, hcv⟩ := cutV_form f t k
        obtain ⟨z1, z2, m, hjv⟩ := joinV_form f t g u
        have c1 := fun w => cut_any f t k w hf ht hk
        have c2 := fun w => rcut_any f t k w hf ht hk
        have c3 := fun w => join_any f t g u w hf ht hg hu
        have c4 := fun w => rjoin_any f t g u w hf ht hg hu
        rw [hcv] at c1 c2
        rw [hjv] at c3 c4
        clear h1 h2 hcv hjv
        go_enter Try.func4, Try.ntmps4
        go_wp2_with fail
        refine (cs1 _ s0).mono ?_
        rintro e w1 ⟨rfl, s1⟩
        obtain ⟨_, ⟨_, e0, e1⟩, _, e2, e3⟩ := id s1
        go_wp2_with fail
        refine (cs2 _ s1).mono ?_
        rintro e w2 ⟨rfl, s2⟩
        clear e0 e1 e2 e3
        obtain ⟨_, ⟨_, e0, e1⟩, _, e2, e3⟩ := id s2
        go_wp2_with fail
        refine (c1 _).mono ?_
        rintro e w3 ⟨rfl, b3⟩
        have s3 := s2.keep b3
        clear e0 e1 e2 e3
        have s3' := (s3.alloc (.cells #[.string x1, .string x2] 23)).alloc (.cells #[.string y1, .string y2] 23)
        have B3 := Box.new2 w3 x1 x2 y1 y2
        obtain ⟨_, ⟨_, e0, e1⟩, ⟨_, e2, e3⟩⟩ := id s3
        obtain ⟨p0, p1⟩ : w.heap.size < w3.heap.size ∧ w.heap.size + 1 < w3.heap.size := ⟨s3.2.1.1, s3.2.2.1⟩
        go_wp2_with fail
        refine (c2 _).mono ?_
        rintro e w4 ⟨rfl, b4⟩
        have s4 := s3'.keep b4
        have B4 : Box w3.heap.size x1 x2 w4 ∧ Box (w3.heap.size + 1) y1 y2 w4 := ⟨B3.1.keep b4, B3.2.keep b4⟩
        clear e0 e1 e2 e3 s3 s3' B3 p0 p1 b4
        have s4' := (s4.alloc (.cells #[.string x1, .string x2] 23)).alloc (.cells #[.string y1, .string y2] 23)
        have C4 := Box.new2 w4 x1 x2 y1 y2
        have B4' : Box w3.heap.size x1 x2 ((w4.alloc (.cells #[.string x1, .string x2] 23)).alloc (.cells #[.string y1, .string y2] 23)) ∧ Box (w3.heap.size + 1) y1 y2 ((w4.alloc (.cells #[.string x1, .string x2] 23)).alloc (.cells #[.string y1, .string y2] 23)) := ⟨(B4.1.alloc _).alloc _, (B4.2.alloc _).alloc _⟩
        obtain ⟨_, ⟨_, e0, e1⟩, ⟨_, e2, e3⟩⟩ := id s4
        obtain ⟨p0, p1⟩ : w.heap.size < w4.heap.size ∧ w.heap.size + 1 < w4.heap.size := ⟨s4.2.1.1, s4.2.2.1⟩
        go_wp2_with fail
        refine (c3 _).mono ?_
        rintro e w5 ⟨rfl, b5⟩
        have s5 := s4'.keep b5
        have B5 : Box w3.heap.size x1 x2 w5 ∧ Box (w3.heap.size + 1) y1 y2 w5 ∧ Box w4.heap.size x1 x2 w5 ∧ Box (w4.heap.size + 1) y1 y2 w5 := ⟨B4'.1.keep b5, B4'.2.keep b5, C4.1.keep b5, C4.2.keep b5⟩
        clear e0 e1 e2 e3 s4 s4' B4 B4' C4 p0 p1 b5
        have s5' := s5.alloc (.cells #[.string z1, .string z2] 23)
        have C5 := Box.new w5 z1 z2
        obtain ⟨_, ⟨_, e0, e1⟩, ⟨_, e2, e3⟩⟩ := id s5
        obtain ⟨p0, p1⟩ : w.heap.size < w5.heap.size ∧ w.heap.size + 1 < w5.heap.size := ⟨s5.2.1.1, s5.2.2.1⟩
        go_wp2_with fail
        refine (c4 _).mono ?_
        rintro e w6 ⟨rfl, b6⟩
        have s6 := s5'.keep b6
        have B6 : Box w3.heap.size x1 x2 w6 ∧ Box (w3.heap.size + 1) y1 y2 w6 ∧ Box w4.heap.size x1 x2 w6 ∧ Box (w4.heap.size + 1) y1 y2 w6 ∧ Box w5.heap.size z1 z2 w6 :=
          ⟨(B5.1.alloc _).keep b6, (B5.2.1.alloc _).keep b6, (B5.2.2.1.alloc _).keep b6, (B5.2.2.2.alloc _).keep b6, C5.keep b6⟩
        clear e0 e1 e2 e3 s5 s5' B5 C5 p0 p1 b6
        have hS7 : (fun w' => S2 w f t g u w' ∧ Box w3.heap.size x1 x2 w' ∧ Box (w3.heap.size + 1) y1 y2 w' ∧ Box w4.heap.size x1 x2 w' ∧ Box (w4.heap.size + 1) y1 y2 w' ∧ Box w5.heap.size z1 z2 w' ∧ Box w6.heap.size z1 z2 w') (w6.alloc (.cells #[.string z1, .string z2] 23)).drew :=
          ⟨(s6.alloc _).drew, (B6.1.alloc _).drew, (B6.2.1.alloc _).drew, (B6.2.2.1.alloc _).drew, (B6.2.2.2.1.alloc _).drew, (B6.2.2.2.2.alloc _).drew, (Box.new w6 z1 z2).drew⟩
        have hst7 : ∀ a b : World, (fun w' => S2 w f t g u w' ∧ Box w3.heap.size x1 x2 w' ∧ Box (w3.heap.size + 1) y1 y2 w' ∧ Box w4.heap.size x1 x2 w' ∧ Box (w4.heap.size + 1) y1 y2 w' ∧ Box w5.heap.size z1 z2 w' ∧ Box w6.heap.size z1 z2 w') a → Below a.heap.size a b → (fun w' => S2 w f t g u w' ∧ Box w3.heap.size x1 x2 w' ∧ Box (w3.heap.size + 1) y1 y2 w' ∧ Box w4.heap.size x1 x2 w' ∧ Box (w4.heap.size + 1) y1 y2 w' ∧ Box w5.heap.size z1 z2 w' ∧ Box w6.heap.size z1 z2 w') b := fun _ _ h hb => ⟨h.1.keep hb, h.2.1.keep hb, h.2.2.1.keep hb, h.2.2.2.1.keep hb, h.2.2.2.2.1.keep hb, h.2.2.2.2.2.1.keep hb, h.2.2.2.2.2.2.keep hb⟩
        have d1 := fun n => keptS hst7 (quiet fun w => num_any n w)
        have d2 := keptS hst7 fun w => next_any f t g u w hf ht hg hu
        have d3 := keptS hst7 fun w => rnext_any f t g u w hf ht hg hu
        have d4 := keptS hst7 fun w => live_any w
        clear s6 B6 hst7 hst cs1 cs2 cL c1 c2 c3 c4
        generalize nextB (B f t) (B g u) = Q at *
        go_wp2_with fail
        refine St.wp_region_steady (fun w' => S2 w f t g u w' ∧ Box w3.heap.size x1 x2 w' ∧ Box (w3.heap.size + 1) y1 y2 w' ∧ Box w4.heap.size x1 x2 w' ∧ Box (w4.heap.size + 1) y1 y2 w' ∧ Box w5.heap.size z1 z2 w' ∧ Box w6.heap.size z1 z2 w') (by kernel_rfl) (by kernel_rfl) (by kernel_rfl) hS7 ?_
        repeat (first
          | (apply St.step_past
             · rfl
             simp only [Act.put, List.setIfInBounds_toArray, List.set_cons_zero, List.set_cons_succ])
          | (apply St.step_give
             · rfl
             · intro w hSw
               obtain ⟨⟨_, ⟨_, e0, e1⟩, _, e2, e3⟩, ⟨_, i0, i1⟩, ⟨_, i2, i3⟩, ⟨_, i4, i5⟩, ⟨_, i6, i7⟩, ⟨_, i8, i9⟩, ⟨_, j0, j1⟩⟩ := hSw
               go_simp
               try with_reducible rfl
             simp only [Act.put, List.setIfInBounds_toArray, List.set_cons_zero, List.set_cons_succ])
          | (apply St.step_into
             · rfl
             · intro w hSw
               go_simp
               exact ⟨rfl, rfl⟩
             · with_reducible first | exact d2 | exact d3 | exact d4 | exact d1 _
             simp only [Act.put, List.setIfInBounds_toArray, List.set_cons_zero, List.set_cons_succ]))
        refine St.step_last ?_
        intro w7 s7
        go_wp2_with fail
        go_ret
        exact ⟨rfl, s7.1.1⟩

end Go.Proofs.Ytbjgpcfimpmjiaa
