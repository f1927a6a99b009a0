/-
  What the laws on logs reckon with: compacted logs, which log is not behind which. No condition.
-/
import Derived.Test.YtimodohcihnoiaaDoorRoM
namespace Go.Proofs.YtimodohcihnoiaaDoor.Ro

theorem comp_cases (r : Lg) (to : Int) : (∃ k, ∃ h : k < r.es.length, to = r.base + 1 + k ∧ compL r to = ⟨to, (r.es[k]).1, r.es.drop (k + 1)⟩) ∨ ((to ≤ r.base ∨ r.base + r.es.length < to) ∧ compL r to = r) := by
  unfold compL
  cases h : placeL r to with
  | none => exact .inr ⟨placeL_no h, rfl⟩
  | some k =>
    obtain ⟨h1, h2⟩ := placeL_some h
    refine .inl ⟨k, h1, h2, ?_⟩
    simp only
    rw [List.getD_eq_getElem?_getD, List.getElem?_eq_getElem h1]; rfl
theorem lastT_drop {r : Lg} {k : Nat} (h : k < r.es.length) (b : Int) : lastT ⟨b, (r.es[k]).1, r.es.drop (k + 1)⟩ = lastT r := by
  by_cases h1 : k + 1 = r.es.length
  · rw [lastT_nil (r := ⟨b, (r.es[k]).1, r.es.drop (k + 1)⟩) (by simp; omega), lastT_at h h1]
  · rw [lastT_at (r := ⟨b, (r.es[k]).1, r.es.drop (k + 1)⟩) (n := r.es.length - (k + 1) - 1) (by simp; omega) (by simp; omega), lastT_at (r := r) (n := r.es.length - 1) (by omega) (by omega)]
    simp only [List.getElem_drop]
    congr 2
    omega
theorem comp_last (r : Lg) (to : Int) : lastI (compL r to) = lastI r ∧ lastT (compL r to) = lastT r := by
  rcases comp_cases r to with ⟨k, h, e, e2⟩ | ⟨_, e2⟩
  · rw [e2]
    refine ⟨?_, lastT_drop h to⟩
    unfold lastI
    simp only [List.length_drop]
    omega
  · rw [e2]; exact ⟨rfl, rfl⟩
theorem riseE_from : ∀ {es : List En} {t : Int} {k : Nat} (_ : riseE t es = true) (h : k < es.length), riseE (es[k]).1 (es.drop (k + 1)) = true
  | e :: es, t, 0, h, _ => ((riseE_cons t e es).1 h).2.2
  | e :: es, t, k + 1, h, hk => by
    have h3 := ((riseE_cons t e es).1 h).2.2
    exact riseE_from (k := k) h3 (by simpa using hk)
theorem comp_is {r : Lg} (h : isL r = true) (to : Int) : isL (compL r to) = true := by
  rcases comp_cases r to with ⟨k, hk, e, e2⟩ | ⟨_, e2⟩
  · rw [e2]
    obtain ⟨h1, h2, h3, h4⟩ := (isL_iff r).1 h
    have hm := riseE_mem h4 (r.es[k]) (List.getElem_mem hk)
    refine (isL_iff _).2 ⟨?_, ?_, ?_, riseE_from h4 hk⟩
    · simp only; omega
    · simp only; omega
    · simp only [List.length_drop]; omega
  · rw [e2]; exact h
theorem comp_base (r : Lg) (to : Int) : r.base ≤ (compL r to).base ∧ (compL r to).base ≤ max to r.base := by
  rcases comp_cases r to with ⟨k, _, e, e2⟩ | ⟨_, e2⟩
  · rw [e2]; simp only; omega
  · rw [e2]; omega
theorem comp_term (r : Lg) (to i : Int) : ((compL r to).base ≤ i → termL (compL r to) i = termL r i) ∧ (i < (compL r to).base → termL (compL r to) i = none) := by
  refine ⟨fun h => ?_, fun h => termL_out (.inl h)⟩
  rcases comp_cases r to with ⟨k, hk, e, e2⟩ | ⟨_, e2⟩
  · rw [e2] at h ⊢
    simp only at h
    rcases Int.lt_or_eq_of_le h with h1 | h1
    · by_cases h2 : i ≤ r.base + r.es.length
      · obtain ⟨j, hj⟩ : ∃ j : Nat, i = to + 1 + j := ⟨(i - to - 1).toNat, by omega⟩
        have hjl : j < (r.es.drop (k + 1)).length := by simp; omega
        have a1 := termL_at (r := ⟨to, (r.es[k]).1, r.es.drop (k + 1)⟩) hjl
        have a2 := termL_at (r := r) (k := k + 1 + j) (by omega)
        simp only at a1
        rw [← hj] at a1
        rw [show r.base + 1 + ((k + 1 + j : Nat) : Int) = i by omega] at a2
        rw [a1, a2, List.getElem_drop]
      · rw [termL_out (r := r) (.inr (by omega)), termL_out (r := ⟨to, (r.es[k]).1, r.es.drop (k + 1)⟩) (.inr (by simp; omega))]
    · subst h1
      have a2 := termL_at (r := r) hk
      rw [← e] at a2
      rw [a2]
      exact termL_base ⟨to, (r.es[k]).1, r.es.drop (k + 1)⟩
  · rw [e2]
theorem comp_out {r : Lg} {to : Int} (h : to < r.base ∨ lastI r < to) : compL r to = r := by
  rcases comp_cases r to with ⟨k, hk, e, e2⟩ | ⟨_, e2⟩
  · unfold lastI at h; omega
  · exact e2
theorem comp_in {r : Lg} {to : Int} (h : r.base ≤ to) (h2 : to ≤ lastI r) (hl : r.es.length ≤ 1000) : sliceL r (to + 1) 1000 = (compL r to).es ∧ (compL r to).base = to := by
  unfold sliceL
  rcases comp_cases r to with ⟨k, hk, e, e2⟩ | ⟨hx, e2⟩
  · rw [e2]
    refine ⟨?_, rfl⟩
    simp only
    rw [show (to + 1 - r.base - 1).toNat = k + 1 by omega]
    exact List.take_of_length_le (by simp; omega)
  · unfold lastI at h2
    rw [e2]
    have e3 : to = r.base := by omega
    subst e3
    refine ⟨?_, rfl⟩
    rw [show (r.base + 1 - r.base - 1).toNat = 0 by omega, List.drop_zero]
    exact List.take_of_length_le (by omega)

theorem newer_or (a b : Lg) : (newerL (lastT a) (lastI a) b || newerL (lastT b) (lastI b) a) = true := by
  unfold newerL
  simp only [Bool.or_eq_true, Bool.and_eq_true, decide_eq_true_eq]
  omega
theorem newer_and (a b : Lg) : (newerL (lastT a) (lastI a) b = true ∧ newerL (lastT b) (lastI b) a = true) ↔ (lastI a = lastI b ∧ lastT a = lastT b) := by
  unfold newerL
  simp only [Bool.or_eq_true, Bool.and_eq_true, decide_eq_true_eq]
  omega
end Go.Proofs.YtimodohcihnoiaaDoor.Ro
