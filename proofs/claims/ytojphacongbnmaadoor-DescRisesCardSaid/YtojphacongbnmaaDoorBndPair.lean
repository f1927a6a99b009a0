/-
  The program's answers on two bounds: Meet, Inside, Next. Condition: lengths at most 2^47.
-/
import Derived.Test.YtojphacongbnmaaDoorBndBool
namespace Go.Proofs.YtojphacongbnmaaDoor.Bnd
open Go.RowKit O

theorem meet_alt (a b : Bd) : meetB a b = (isB a && isB b && belowB a.f b.t && belowB b.f a.t) := by
  cases ha : isB a
  · simp [meetB, ha]
  cases hb : isB b
  · simp [meetB, ha, hb]
  have h1 := has_self ha
  have h2 := has_self hb
  simp only [meetB, ha, hb, Bool.true_and]
  simp only [hasB, lt_irrefl, Bool.not_false, Bool.true_and] at h1 h2
  have e1 : hasB a b.f = (!lt b.f a.f && belowB b.f a.t) := rfl
  have e2 : hasB b a.f = (!lt a.f b.f && belowB a.f b.t) := rfl
  have g1 : belowB a.f a.t = true := h1
  have g2 : belowB b.f b.t = true := h2
  rw [e1, e2]
  have mono : ∀ {x y z : Text}, lt x y = true → belowB y z = true → belowB x z = true := by
    intro x y z h k
    unfold belowB at *
    simp only [Bool.or_eq_true, decide_eq_true_eq] at *
    rcases k with k | k
    · exact .inl k
    · exact .inr (lt_trans h k)
  rcases lt_tri a.f b.f with h | h | h
  · rw [lt_asymm h, h, mono h g2]; simp
  · rw [h, lt_irrefl, ← h, g1, h, g2]; simp
  · rw [lt_asymm h, h, mono h g1]; simp

theorem inside_alt (a b : Bd) : insideB a b = (isB a && isB b && !lt a.f b.f && (decide (b.t = []) || (!decide (a.t = []) && (lt a.t b.t || decide (a.t = b.t))))) := by
  have : (!lt b.t a.t) = (lt a.t b.t || decide (a.t = b.t)) := by
    rcases lt_tri a.t b.t with h | h | h
    · rw [lt_asymm h, h]; rfl
    · rw [h, lt_irrefl]; simp
    · rw [lt_asymm h, h]
      have : ¬ a.t = b.t := by rintro e; rw [e, lt_irrefl] at h; cases h
      simp [this]
  unfold insideB
  rw [this]

/-- The world with the two boxes. -/
theorem two_boxes (w w1 : World) (o o' : Obj) (b : Below ((w.alloc o).alloc o').heap.size ((w.alloc o).alloc o') w1) : Below w.heap.size w w1 :=
  (((Below.refl _ w).alloc (Nat.le_refl _) o).alloc (by simp) o').trans (b.mono (by simp; omega))

variable (f t g u : ByteArray) (w : World) (hf : f.size ≤ 140737488355328) (ht : t.size ≤ 140737488355328) (hg : g.size ≤ 140737488355328) (hu : u.size ≤ 140737488355328)
include hf ht hg hu

set_option maxHeartbeats 1000000 in
theorem next_any : Calls Tryd.prog 78 #[bd f t, bd g u] w fun e w' => e = .returned (.bool (nextB (B f t) (B g u))) ∧ Below w.heap.size w w' := by
  have cb := fun w => both_any f t g u w hf ht hg hu
  show Calls Tryd.prog 78 #[bd f t, bd g u] w fun e w' => e = .returned (.bool (isB (B f t) && isB (B g u) && !decide (t.toList = []) && decide (t.toList = g.toList))) ∧ Below w.heap.size w w'
  cases h0 : isB (B f t) && isB (B g u) with
  | false =>
    rw [h0] at cb
    clear h0
    go_enter Tryd.func78, Tryd.ntmps78
    go_wp2_with fail
    refine (cb _).mono ?_
    rintro e w1 ⟨rfl, b1⟩
    go_wp2_with fail
    go_ret
    exact ⟨rfl, two_boxes w w1 _ _ b1⟩
  | true =>
    rw [h0] at cb
    clear h0
    by_cases h3 : t.toList = []
    · obtain rfl := empty_of h3
      clear h3
      go_enter Tryd.func78, Tryd.ntmps78
      go_wp2_with fail
      refine (cb _).mono ?_
      rintro e w1 ⟨rfl, b1⟩
      obtain ⟨hc, hfz⟩ := bcell b1
      go_wp2_with fail
      go_ret
      exact ⟨ret_bool (by simp), two_boxes w w1 _ _ b1⟩
    · have n3 := isEmpty_no h3
      have H3 := Lib.hid h3
      clear h3
      go_enter Tryd.func78, Tryd.ntmps78
      go_wp2_with fail
      refine (cb _).mono ?_
      rintro e w1 ⟨rfl, b1⟩
      obtain ⟨hc, hfz⟩ := bcell b1
      go_wp2_with fail
      go_ret
      exact ⟨ret_bool (by rw [Bool.eq_iff_iff]; simp [H3.out]; exact eq_comm), two_boxes w w1 _ _ b1⟩

end Go.Proofs.YtojphacongbnmaaDoor.Bnd
