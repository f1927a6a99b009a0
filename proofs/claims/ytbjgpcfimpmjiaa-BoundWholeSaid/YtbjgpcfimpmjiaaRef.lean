/-
  The document's answers on keys and bounds: Key, Is, Has, Meet, Inside, Next; the laws' own small and num. Condition: lengths at most 2^47.
-/
import Derived.Test.YtbjgpcfimpmjiaaPair
namespace Go.Proofs.Ytbjgpcfimpmjiaa
open Go.RowKit O

theorem num_any (n : Int) (w : World) : Calls Try.prog 13 #[.int .i64 n] w fun e w' => e = .returned (.int .i64 n) ∧ w = w' := by
  go_enter Try.func13, Try.ntmps13
  go_wp2_with fail
  go_ret
  exact ⟨rfl, rfl⟩

/-- what the laws ask of a bound -/
def smallB (f t : ByteArray) : Bool := decide (f.size ≤ 2000) && decide (t.size ≤ 2000)

set_option maxHeartbeats 400000 in
theorem small_any (f t : ByteArray) (w : World) (hf : f.size ≤ 140737488355328) (ht : t.size ≤ 140737488355328) :
    Calls Try.prog 11 #[bd f t] w fun e w' => e = .returned (.bool (smallB f t)) ∧ Below w.heap.size w w' := by
  by_cases h1 : f.size ≤ 2000
  · by_cases h2 : t.size ≤ 2000
    · have hr : smallB f t = true := by simp [smallB, h1, h2]
      rw [hr]; clear hr
      go_enter Try.func11, Try.ntmps11
      go_wp2_with fail
      go_ret
      exact ⟨ret_bool (by simp; omega), (Below.refl _ _).alloc (Nat.le_refl _) _⟩
    · have hr : smallB f t = false := by simp [smallB, h2]
      rw [hr]; clear hr
      go_enter Try.func11, Try.ntmps11
      go_wp2_with fail
      go_ret
      exact ⟨ret_bool (by simp; omega), (Below.refl _ _).alloc (Nat.le_refl _) _⟩
  · have hr : smallB f t = false := by simp [smallB, h1]
    rw [hr]; clear hr
    go_enter Try.func11, Try.ntmps11
    go_wp2_with fail
    go_ret
    exact ⟨rfl, (Below.refl _ _).alloc (Nat.le_refl _) _⟩

set_option maxHeartbeats 400000 in
theorem rkey_any (k : ByteArray) (w : World) (hk : k.size ≤ 140737488355328) : Calls Try.prog 15 #[.string k] w fun e w' => e = .returned (.bool (keyB k.toList)) ∧ w = w' := by
  have hr : keyB k.toList = (decide (1 ≤ k.size) && decide (k.size ≤ 32)) := by simp [keyB, size_toList]
  rw [hr]; clear hr
  by_cases h1 : 1 ≤ k.size
  · go_enter Try.func15, Try.ntmps15
    go_wp2_with fail
    go_ret
    exact ⟨ret_bool (by rw [Bool.eq_iff_iff]; simp; omega), rfl⟩
  · go_enter Try.func15, Try.ntmps15
    go_wp2_with fail
    go_ret
    exact ⟨ret_bool (by simp), rfl⟩

set_option maxHeartbeats 400000 in
theorem ris_any (f t : ByteArray) (w : World) (hf : f.size ≤ 140737488355328) (ht : t.size ≤ 140737488355328) :
    Calls Try.prog 17 #[bd f t] w fun e w' => e = .returned (.bool (isB (B f t))) ∧ Below w.heap.size w w' := by
  rw [isB_parts]
  by_cases h1 : f.size ≤ 33
  · by_cases h2 : t.size ≤ 33
    · by_cases h3 : t.toList = []
      · obtain rfl := empty_of h3
        clear h3
        go_enter Try.func17, Try.ntmps17
        go_wp2_with fail
        go_ret
        exact ⟨ret_bool (by simp [h1, belowB]; exact h2), (Below.refl _ _).alloc (Nat.le_refl _) _⟩
      · have n3 := isEmpty_no h3
        have H3 := Lib.hid h3
        have e3 : (f.toList == t.toList) = true → lt f.toList t.toList = false := by
          intro h; rw [beq_iff_eq] at h; rw [h, lt_irrefl]
        have E3 := Lib.hid e3
        clear h3 e3
        go_enter Try.func17, Try.ntmps17
        go_wp2_with fail
        go_ret
        refine ⟨ret_bool ?_, (Below.refl _ _).alloc (Nat.le_refl _) _⟩
        simp only [h1, h2, decide_true, Bool.true_and, belowB, H3.out, decide_false, Bool.false_or]
        rcases lt_tri f.toList t.toList with h | h | h
        · rw [h]; simp [lt_asymm h]; rintro e; rw [e, lt_irrefl] at h; cases h
        · rw [h, lt_irrefl]; simp
        · rw [lt_asymm h]; simp [h]
    · go_enter Try.func17, Try.ntmps17
      go_wp2_with fail
      go_ret
      exact ⟨ret_bool (by simp), (Below.refl _ _).alloc (Nat.le_refl _) _⟩
  · go_enter Try.func17, Try.ntmps17
    go_wp2_with fail
    go_ret
    exact ⟨ret_bool (by simp), (Below.refl _ _).alloc (Nat.le_refl _) _⟩

set_option maxHeartbeats 400000 in
theorem rhas_any (f t k : ByteArray) (w : World) :
    Calls Try.prog 19 #[bd f t, .string k] w fun e w' => e = .returned (.bool (hasB (B f t) k.toList)) ∧ Below w.heap.size w w' := by
  rw [hasB_parts]
  cases h1 : lt k.toList f.toList with
  | true =>
    go_enter Try.func19, Try.ntmps19
    go_wp2_with fail
    go_ret
    exact ⟨rfl, (Below.refl _ _).alloc (Nat.le_refl _) _⟩
  | false =>
    by_cases h3 : t.toList = []
    · obtain rfl := empty_of h3
      clear h3
      go_enter Try.func19, Try.ntmps19
      go_wp2_with fail
      go_ret
      exact ⟨ret_bool (by simp [belowB]), (Below.refl _ _).alloc (Nat.le_refl _) _⟩
    · have n3 := isEmpty_no h3
      have H3 := Lib.hid h3
      clear h3
      go_enter Try.func19, Try.ntmps19
      go_wp2_with fail
      go_ret
      exact ⟨ret_bool (by simp [belowB, H3.out]), (Below.refl _ _).alloc (Nat.le_refl _) _⟩

section
variable (f t g u : ByteArray) (w : World) (hf : f.size ≤ 140737488355328) (ht : t.size ≤ 140737488355328) (hg : g.size ≤ 140737488355328) (hu : u.size ≤ 140737488355328)
include hf ht hg hu

set_option maxHeartbeats 1000000 in
theorem rmeet_any : Calls Try.prog 21 #[bd f t, bd g u] w fun e w' => e = .returned (.bool (meetB (B f t) (B g u))) ∧ Below w.heap.size w w' := by
  show Calls Try.prog 21 #[bd f t, bd g u] w fun e w' => e = .returned (.bool (isB (B f t) && isB (B g u) && (hasB (B f t) g.toList || hasB (B g u) f.toList))) ∧ Below w.heap.size w w'
  have c1 := fun w => ris_any f t w hf ht
  have c2 := fun w => ris_any g u w hg hu
  have c3 := fun w => rhas_any f t g w
  have c4 := fun w => rhas_any g u f w
  cases h0 : isB (B f t) with
  | false =>
    rw [h0] at c1
    clear h0
    go_enter Try.func21, Try.ntmps21
    go_wp2_with fail
    refine (c1 _).mono ?_
    rintro e w1 ⟨rfl, b1⟩
    go_wp2_with fail
    go_ret
    exact ⟨rfl, two_boxes w w1 _ _ b1⟩
  | true =>
    rw [h0] at c1
    clear h0
    cases h1 : isB (B g u) with
    | false =>
      rw [h1] at c2
      clear h1
      go_enter Try.func21, Try.ntmps21
      go_wp2_with fail
      refine (c1 _).mono ?_
      rintro e w1 ⟨rfl, b1⟩
      obtain ⟨hc, hfz⟩ := bcell b1
      go_wp2_with fail
      refine (c2 _).mono ?_
      rintro e w2 ⟨rfl, b2'⟩
      have b2 := b1.trans (b2'.mono b1.size)
      go_wp2_with fail
      go_ret
      exact ⟨rfl, two_boxes w w2 _ _ b2⟩
    | true =>
      rw [h1] at c2
      clear h1
      cases h2 : hasB (B f t) g.toList with
      | true =>
        rw [h2] at c3
        clear h2
        go_enter Try.func21, Try.ntmps21
        go_wp2_with fail
        refine (c1 _).mono ?_
        rintro e w1 ⟨rfl, b1⟩
        obtain ⟨hc, hfz⟩ := bcell b1
        go_wp2_with fail
        refine (c2 _).mono ?_
        rintro e w2 ⟨rfl, b2'⟩
        have b2 := b1.trans (b2'.mono b1.size)
        obtain ⟨hc2, hfz2⟩ := bcell b2
        clear hc hfz
        go_wp2_with fail
        refine (c3 _).mono ?_
        rintro e w3 ⟨rfl, b3'⟩
        have b3 := b2.trans (b3'.mono b2.size)
        go_wp2_with fail
        go_ret
        exact ⟨rfl, two_boxes w w3 _ _ b3⟩
      | false =>
        rw [h2] at c3
        clear h2
        go_enter Try.func21, Try.ntmps21
        go_wp2_with fail
        refine (c1 _).mono ?_
        rintro e w1 ⟨rfl, b1⟩
        obtain ⟨hc, hfz⟩ := bcell b1
        go_wp2_with fail
        refine (c2 _).mono ?_
        rintro e w2 ⟨rfl, b2'⟩
        have b2 := b1.trans (b2'.mono b1.size)
        obtain ⟨hc2, hfz2⟩ := bcell b2
        clear hc hfz
        go_wp2_with fail
        refine (c3 _).mono ?_
        rintro e w3 ⟨rfl, b3'⟩
        have b3 := b2.trans (b3'.mono b2.size)
        obtain ⟨hc3, hfz3⟩ := bcell b3
        clear hc2 hfz2
        go_wp2_with fail
        refine (c4 _).mono ?_
        rintro e w4 ⟨rfl, b4'⟩
        have b4 := b3.trans (b4'.mono b3.size)
        go_wp2_with fail
        go_ret
        exact ⟨rfl, two_boxes w w4 _ _ b4⟩

set_option maxHeartbeats 1000000 in
theorem rinside_any : Calls Try.prog 23 #[bd f t, bd g u] w fun e w' => e = .returned (.bool (insideB (B f t) (B g u))) ∧ Below w.heap.size w w' := by
  rw [inside_alt]
  show Calls Try.prog 23 #[bd f t, bd g u] w fun e w' => e = .returned (.bool (isB (B f t) && isB (B g u) && !lt f.toList g.toList && (decide (u.toList = []) || (!decide (t.toList = []) && (lt t.toList u.toList || decide (t.toList = u.toList)))))) ∧ Below w.heap.size w w'
  have c1 := fun w => ris_any f t w hf ht
  have c2 := fun w => ris_any g u w hg hu
  cases h0 : isB (B f t) with
  | false =>
    rw [h0] at c1
    clear h0
    go_enter Try.func23, Try.ntmps23
    go_wp2_with fail
    refine (c1 _).mono ?_
    rintro e w1 ⟨rfl, b1⟩
    go_wp2_with fail
    go_ret
    exact ⟨rfl, two_boxes w w1 _ _ b1⟩
  | true =>
    rw [h0] at c1
    clear h0
    cases h1 : isB (B g u) with
    | false =>
      rw [h1] at c2
      clear h1
      go_enter Try.func23, Try.ntmps23
      go_wp2_with fail
      refine (c1 _).mono ?_
      rintro e w1 ⟨rfl, b1⟩
      obtain ⟨hc, hfz⟩ := bcell b1
      go_wp2_with fail
      refine (c2 _).mono ?_
      rintro e w2 ⟨rfl, b2'⟩
      have b2 := b1.trans (b2'.mono b1.size)
      go_wp2_with fail
      go_ret
      exact ⟨rfl, two_boxes w w2 _ _ b2⟩
    | true =>
      rw [h1] at c2
      clear h1
      cases h2 : lt f.toList g.toList with
      | true =>
        go_enter Try.func23, Try.ntmps23
        go_wp2_with fail
        refine (c1 _).mono ?_
        rintro e w1 ⟨rfl, b1⟩
        obtain ⟨hc, hfz⟩ := bcell b1
        go_wp2_with fail
        refine (c2 _).mono ?_
        rintro e w2 ⟨rfl, b2'⟩
        have b2 := b1.trans (b2'.mono b1.size)
        obtain ⟨hc2, hfz2⟩ := bcell b2
        clear hc hfz
        go_wp2_with fail
        go_ret
        exact ⟨rfl, two_boxes w w2 _ _ b2⟩
      | false =>
        by_cases h3 : u.toList = []
        · obtain rfl := empty_of h3
          clear h3
          go_enter Try.func23, Try.ntmps23
          go_wp2_with fail
          refine (c1 _).mono ?_
          rintro e w1 ⟨rfl, b1⟩
          obtain ⟨hc, hfz⟩ := bcell b1
          go_wp2_with fail
          refine (c2 _).mono ?_
          rintro e w2 ⟨rfl, b2'⟩
          have b2 := b1.trans (b2'.mono b1.size)
          obtain ⟨hc2, hfz2⟩ := bcell b2
          clear hc hfz
          go_wp2_with fail
          go_ret
          exact ⟨ret_bool (by simp), two_boxes w w2 _ _ b2⟩
        · have n3 := isEmpty_no h3
          have H3 := Lib.hid h3
          clear h3
          by_cases h4 : t.toList = []
          · obtain rfl := empty_of h4
            clear h4
            go_enter Try.func23, Try.ntmps23
            go_wp2_with fail
            refine (c1 _).mono ?_
            rintro e w1 ⟨rfl, b1⟩
            obtain ⟨hc, hfz⟩ := bcell b1
            go_wp2_with fail
            refine (c2 _).mono ?_
            rintro e w2 ⟨rfl, b2'⟩
            have b2 := b1.trans (b2'.mono b1.size)
            obtain ⟨hc2, hfz2⟩ := bcell b2
            clear hc hfz
            go_wp2_with fail
            go_ret
            exact ⟨ret_bool (by simp [H3.out]), two_boxes w w2 _ _ b2⟩
          · have n4 := isEmpty_no h4
            have H4 := Lib.hid h4
            clear h4
            go_enter Try.func23, Try.ntmps23
            go_wp2_with fail
            refine (c1 _).mono ?_
            rintro e w1 ⟨rfl, b1⟩
            obtain ⟨hc, hfz⟩ := bcell b1
            go_wp2_with fail
            refine (c2 _).mono ?_
            rintro e w2 ⟨rfl, b2'⟩
            have b2 := b1.trans (b2'.mono b1.size)
            obtain ⟨hc2, hfz2⟩ := bcell b2
            clear hc hfz
            go_wp2_with fail
            go_ret
            exact ⟨ret_bool (by rw [Bool.eq_iff_iff]; simp [H3.out, H4.out]), two_boxes w w2 _ _ b2⟩

set_option maxHeartbeats 1000000 in
theorem rnext_any : Calls Try.prog 29 #[bd f t, bd g u] w fun e w' => e = .returned (.bool (nextB (B f t) (B g u))) ∧ Below w.heap.size w w' := by
  show Calls Try.prog 29 #[bd f t, bd g u] w fun e w' => e = .returned (.bool (isB (B f t) && isB (B g u) && !decide (t.toList = []) && decide (t.toList = g.toList))) ∧ Below w.heap.size w w'
  have c1 := fun w => ris_any f t w hf ht
  have c2 := fun w => ris_any g u w hg hu
  cases h0 : isB (B f t) with
  | false =>
    rw [h0] at c1
    clear h0
    go_enter Try.func29, Try.ntmps29
    go_wp2_with fail
    refine (c1 _).mono ?_
    rintro e w1 ⟨rfl, b1⟩
    go_wp2_with fail
    go_ret
    exact ⟨rfl, two_boxes w w1 _ _ b1⟩
  | true =>
    rw [h0] at c1
    clear h0
    cases h1 : isB (B g u) with
    | false =>
      rw [h1] at c2
      clear h1
      go_enter Try.func29, Try.ntmps29
      go_wp2_with fail
      refine (c1 _).mono ?_
      rintro e w1 ⟨rfl, b1⟩
      obtain ⟨hc, hfz⟩ := bcell b1
      go_wp2_with fail
      refine (c2 _).mono ?_
      rintro e w2 ⟨rfl, b2'⟩
      have b2 := b1.trans (b2'.mono b1.size)
      go_wp2_with fail
      go_ret
      exact ⟨rfl, two_boxes w w2 _ _ b2⟩
    | true =>
      rw [h1] at c2
      clear h1
      by_cases h4 : t.toList = []
      · obtain rfl := empty_of h4
        clear h4
        go_enter Try.func29, Try.ntmps29
        go_wp2_with fail
        refine (c1 _).mono ?_
        rintro e w1 ⟨rfl, b1⟩
        obtain ⟨hc, hfz⟩ := bcell b1
        go_wp2_with fail
        refine (c2 _).mono ?_
        rintro e w2 ⟨rfl, b2'⟩
        have b2 := b1.trans (b2'.mono b1.size)
        obtain ⟨hc2, hfz2⟩ := bcell b2
        clear hc hfz
        go_wp2_with fail
        go_ret
        exact ⟨ret_bool (by simp), two_boxes w w2 _ _ b2⟩
      · have n4 := isEmpty_no h4
        have H4 := Lib.hid h4
        clear h4
        go_enter Try.func29, Try.ntmps29
        go_wp2_with fail
        refine (c1 _).mono ?_
        rintro e w1 ⟨rfl, b1⟩
        obtain ⟨hc, hfz⟩ := bcell b1
        go_wp2_with fail
        refine (c2 _).mono ?_
        rintro e w2 ⟨rfl, b2'⟩
        have b2 := b1.trans (b2'.mono b1.size)
        obtain ⟨hc2, hfz2⟩ := bcell b2
        clear hc hfz
        go_wp2_with fail
        go_ret
        exact ⟨ret_bool (by rw [Bool.eq_iff_iff]; simp [H4.out]), two_boxes w w2 _ _ b2⟩

end

end Go.Proofs.Ytbjgpcfimpmjiaa
