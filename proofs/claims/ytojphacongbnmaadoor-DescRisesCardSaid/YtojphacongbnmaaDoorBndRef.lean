/-
  The document's answers on keys and bounds: Key, Is, Has, Meet, Inside, Next; the laws' own small and num. Condition: lengths at most 2^47.
-/
import Derived.Test.YtojphacongbnmaaDoorBndPair
namespace Go.Proofs.YtojphacongbnmaaDoor.Bnd
open Go.RowKit O

/-- what the laws ask of a bound -/
def smallB (f t : ByteArray) : Bool := decide (f.size ≤ 2000) && decide (t.size ≤ 2000)

set_option maxHeartbeats 400000 in
theorem rkey_any (k : ByteArray) (w : World) (hk : k.size ≤ 140737488355328) : Calls Tryd.prog 76 #[.string k] w fun e w' => e = .returned (.bool (keyB k.toList)) ∧ w = w' := by
  have hr : keyB k.toList = (decide (1 ≤ k.size) && decide (k.size ≤ 32)) := by simp [keyB, size_toList]
  rw [hr]; clear hr
  by_cases h1 : 1 ≤ k.size
  · go_enter Tryd.func76, Tryd.ntmps76
    go_wp2_with fail
    go_ret
    exact ⟨ret_bool (by rw [Bool.eq_iff_iff]; simp; omega), rfl⟩
  · go_enter Tryd.func76, Tryd.ntmps76
    go_wp2_with fail
    go_ret
    exact ⟨ret_bool (by simp), rfl⟩

set_option maxHeartbeats 400000 in
theorem ris_any (f t : ByteArray) (w : World) (hf : f.size ≤ 140737488355328) (ht : t.size ≤ 140737488355328) :
    Calls Tryd.prog 49 #[bd f t] w fun e w' => e = .returned (.bool (isB (B f t))) ∧ Below w.heap.size w w' := by
  rw [isB_parts]
  by_cases h1 : f.size ≤ 33
  · by_cases h2 : t.size ≤ 33
    · by_cases h3 : t.toList = []
      · obtain rfl := empty_of h3
        clear h3
        go_enter Tryd.func49, Tryd.ntmps49
        go_wp2_with fail
        go_ret
        exact ⟨ret_bool (by simp [h1, belowB]; exact h2), (Below.refl _ _).alloc (Nat.le_refl _) _⟩
      · have n3 := isEmpty_no h3
        have H3 := Lib.hid h3
        have e3 : (f.toList == t.toList) = true → lt f.toList t.toList = false := by
          intro h; rw [beq_iff_eq] at h; rw [h, lt_irrefl]
        have E3 := Lib.hid e3
        clear h3 e3
        go_enter Tryd.func49, Tryd.ntmps49
        go_wp2_with fail
        go_ret
        refine ⟨ret_bool ?_, (Below.refl _ _).alloc (Nat.le_refl _) _⟩
        simp only [h1, h2, decide_true, Bool.true_and, belowB, H3.out, decide_false, Bool.false_or]
        rcases lt_tri f.toList t.toList with h | h | h
        · rw [h]; simp [lt_asymm h]; rintro e; rw [e, lt_irrefl] at h; cases h
        · rw [h, lt_irrefl]; simp
        · rw [lt_asymm h]; simp [h]
    · go_enter Tryd.func49, Tryd.ntmps49
      go_wp2_with fail
      go_ret
      exact ⟨ret_bool (by simp), (Below.refl _ _).alloc (Nat.le_refl _) _⟩
  · go_enter Tryd.func49, Tryd.ntmps49
    go_wp2_with fail
    go_ret
    exact ⟨ret_bool (by simp), (Below.refl _ _).alloc (Nat.le_refl _) _⟩

set_option maxHeartbeats 400000 in
theorem rhas_any (f t k : ByteArray) (w : World) :
    Calls Tryd.prog 77 #[bd f t, .string k] w fun e w' => e = .returned (.bool (hasB (B f t) k.toList)) ∧ Below w.heap.size w w' := by
  rw [hasB_parts]
  cases h1 : lt k.toList f.toList with
  | true =>
    go_enter Tryd.func77, Tryd.ntmps77
    go_wp2_with fail
    go_ret
    exact ⟨rfl, (Below.refl _ _).alloc (Nat.le_refl _) _⟩
  | false =>
    by_cases h3 : t.toList = []
    · obtain rfl := empty_of h3
      clear h3
      go_enter Tryd.func77, Tryd.ntmps77
      go_wp2_with fail
      go_ret
      exact ⟨ret_bool (by simp [belowB]), (Below.refl _ _).alloc (Nat.le_refl _) _⟩
    · have n3 := isEmpty_no h3
      have H3 := Lib.hid h3
      clear h3
      go_enter Tryd.func77, Tryd.ntmps77
      go_wp2_with fail
      go_ret
      exact ⟨ret_bool (by simp [belowB, H3.out]), (Below.refl _ _).alloc (Nat.le_refl _) _⟩

section
variable (f t g u : ByteArray) (w : World) (hf : f.size ≤ 140737488355328) (ht : t.size ≤ 140737488355328) (hg : g.size ≤ 140737488355328) (hu : u.size ≤ 140737488355328)
include hf ht hg hu

set_option maxHeartbeats 1000000 in
theorem rnext_any : Calls Tryd.prog 79 #[bd f t, bd g u] w fun e w' => e = .returned (.bool (nextB (B f t) (B g u))) ∧ Below w.heap.size w w' := by
  show Calls Tryd.prog 79 #[bd f t, bd g u] w fun e w' => e = .returned (.bool (isB (B f t) && isB (B g u) && !decide (t.toList = []) && decide (t.toList = g.toList))) ∧ Below w.heap.size w w'
  have c1 := fun w => ris_any f t w hf ht
  have c2 := fun w => ris_any g u w hg hu
  cases h0 : isB (B f t) with
  | false =>
    rw [h0] at c1
    clear h0
    go_enter Tryd.func79, Tryd.ntmps79
    go_wp2_with fail
    refine (c1 _).mono ?_
    rintro e w1 ⟨rfl, b1⟩
    go_wp2_with fail
    go_ret
    exact ⟨rfl, two_boxes w w1 _ _ b1⟩
  | true =>
    rw [h0] at c1
    clear h0
    cases h1 : isB (B g u) with
    | false =>
      rw [h1] at c2
      clear h1
      go_enter Tryd.func79, Tryd.ntmps79
      go_wp2_with fail
      refine (c1 _).mono ?_
      rintro e w1 ⟨rfl, b1⟩
      obtain ⟨hc, hfz⟩ := bcell b1
      go_wp2_with fail
      refine (c2 _).mono ?_
      rintro e w2 ⟨rfl, b2'⟩
      have b2 := b1.trans (b2'.mono b1.size)
      go_wp2_with fail
      go_ret
      exact ⟨rfl, two_boxes w w2 _ _ b2⟩
    | true =>
      rw [h1] at c2
      clear h1
      by_cases h4 : t.toList = []
      · obtain rfl := empty_of h4
        clear h4
        go_enter Tryd.func79, Tryd.ntmps79
        go_wp2_with fail
        refine (c1 _).mono ?_
        rintro e w1 ⟨rfl, b1⟩
        obtain ⟨hc, hfz⟩ := bcell b1
        go_wp2_with fail
        refine (c2 _).mono ?_
        rintro e w2 ⟨rfl, b2'⟩
        have b2 := b1.trans (b2'.mono b1.size)
        obtain ⟨hc2, hfz2⟩ := bcell b2
        clear hc hfz
        go_wp2_with fail
        go_ret
        exact ⟨ret_bool (by simp), two_boxes w w2 _ _ b2⟩
      · have n4 := isEmpty_no h4
        have H4 := Lib.hid h4
        clear h4
        go_enter Tryd.func79, Tryd.ntmps79
        go_wp2_with fail
        refine (c1 _).mono ?_
        rintro e w1 ⟨rfl, b1⟩
        obtain ⟨hc, hfz⟩ := bcell b1
        go_wp2_with fail
        refine (c2 _).mono ?_
        rintro e w2 ⟨rfl, b2'⟩
        have b2 := b1.trans (b2'.mono b1.size)
        obtain ⟨hc2, hfz2⟩ := bcell b2
        clear hc hfz
        go_wp2_with fail
        go_ret
        exact ⟨ret_bool (by rw [Bool.eq_iff_iff]; simp [H4.out]), two_boxes w w2 _ _ b2⟩

end

end Go.Proofs.YtojphacongbnmaaDoor.Bnd
