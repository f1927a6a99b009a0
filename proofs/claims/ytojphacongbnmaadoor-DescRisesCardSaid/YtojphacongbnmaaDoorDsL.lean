/-
  What the document says follows, of descriptors, reckoned without a program: what only rises, what comes back. No condition.
-/
import Derived.Test.YtojphacongbnmaaDoorDsM
namespace Go.Proofs.YtojphacongbnmaaDoor.Ds
open Go.Proofs.YtojphacongbnmaaDoor.O (Bd isB keyB hasB nextB)

theorem okD_cases (d : De) : (isD d = true ∧ okD d = (d, 0)) ∨ okD d = (De.zero, 60) := by
  by_cases h : isD d = true
  · exact .inl ⟨h, okD_is h⟩
  · exact .inr (okD_no h)

/-- what a change leaves as it was, and what it may not bring back -/
structure Rise (d x : De) : Prop where
  may : isD x = true
  gen : x.gen = d.gen + 1
  next : d.next ≤ x.next
  ms : ∀ m ∈ x.ms, hasM m.2 d.ms = some m ∨ (hasM m.2 d.ms = none ∧ d.next ≤ m.2)

theorem isD_parts {d : De} (h : isD d = true) : (∀ m ∈ d.ms, nodeB m.1 = true ∧ 0 < m.2 ∧ m.2 < d.next) ∧ d.ms.Pairwise (fun a b => a.2 < b.2) ∧ (d.ms.map (·.1)).Nodup := by
  obtain ⟨h1, h2, h3⟩ := (mayGo_iff _ _ _ _).1 ((isD_iff d).1 h).2.2.2.2.2
  exact ⟨fun m hm => ⟨(h1 m hm).1, (h1 m hm).2.2.1, (h1 m hm).2.2.2⟩, h2, h3⟩
theorem kept {d : De} (h : isD d = true) {m : Mem} (hm : m ∈ d.ms) : hasM m.2 d.ms = some m := hasM_mem (isD_parts h).2.1 hm

theorem add_rise {d x : De} {n : Int} (hd : isD d = true) (h : addD d n = (x, 0)) : Rise d x ∧ nodeB n = true ∧ onM n d.ms = none ∧ x = { d with ms := d.ms ++ [(n, d.next)], next := d.next + 1, gen := d.gen + 1 } := by
  unfold addD at h
  rw [if_pos hd] at h
  by_cases h1 : nodeB n = true
  · rw [if_pos h1] at h
    by_cases h2 : (onM n d.ms).isSome = true
    · rw [if_pos h2] at h; have := (Prod.ext_iff.1 h).2; simp at this
    · rw [if_neg h2] at h
      by_cases h3 : d.ms.length = 5
      · rw [if_pos h3] at h; have := (Prod.ext_iff.1 h).2; simp at this
      · rw [if_neg h3] at h
        obtain ⟨g1, rfl⟩ := okD_spec h
        refine ⟨⟨g1, rfl, by simp only; omega, ?_⟩, h1, by simpa using h2, rfl⟩
        intro m hm
        rcases List.mem_append.1 hm with hm | hm
        · exact .inl (kept hd hm)
        · rw [List.mem_singleton] at hm
          subst hm
          refine .inr ⟨?_, by simp only; omega⟩
          rw [hasM_none]
          intro m hm
          have := ((isD_parts hd).1 m hm).2.2
          simp only
          omega
  · rw [if_neg h1] at h; have := (Prod.ext_iff.1 h).2; simp at this
theorem remove_rise {d x : De} {i : Int} (hd : isD d = true) (h : removeD d i = (x, 0)) : Rise d x := by
  unfold removeD at h
  rw [if_pos hd] at h
  by_cases h1 : (hasM i d.ms).isSome = true
  · rw [if_pos h1] at h
    by_cases h3 : d.ms.length = 1
    · rw [if_pos h3] at h; have := (Prod.ext_iff.1 h).2; simp at this
    · rw [if_neg h3] at h
      obtain ⟨g1, rfl⟩ := okD_spec h
      refine ⟨g1, rfl, by simp only; omega, ?_⟩
      intro m hm
      exact .inl (kept hd (List.mem_filter.1 hm).1)
  · rw [if_neg h1] at h; have := (Prod.ext_iff.1 h).2; simp at this
theorem split_spec {d x y : De} {k : ByteArray} {n : Int} (h : splitD d k n = (x, y, 0)) : isD d = true ∧ cutsB d.b k.toList = true ∧ d.id < n ∧ isD x = true ∧ isD y = true ∧ x = { d with t := k, gen := d.gen + 1 } ∧ y = { d with f := k, gen := d.gen + 1, id := n } := by
  unfold splitD at h
  by_cases hd : isD d = true
  · rw [if_pos hd] at h
    by_cases h1 : cutsB d.b k.toList = true
    · rw [if_pos h1] at h
      by_cases h2 : n ≤ d.id
      · rw [if_pos h2] at h; have := (Prod.ext_iff.1 (Prod.ext_iff.1 h).2).2; simp at this
      · rw [if_neg h2] at h
        by_cases h3 : isD { d with t := k, gen := d.gen + 1 } = true ∧ isD { d with f := k, gen := d.gen + 1, id := n } = true
        · rw [if_pos h3] at h
          have e1 := (Prod.ext_iff.1 h).1
          have e2 := (Prod.ext_iff.1 (Prod.ext_iff.1 h).2).1
          simp only at e1 e2
          subst e1 e2
          exact ⟨hd, h1, by omega, h3.1, h3.2, rfl, rfl⟩
        · rw [if_neg h3] at h; have := (Prod.ext_iff.1 (Prod.ext_iff.1 h).2).2; simp at this
    · rw [if_neg h1] at h; have := (Prod.ext_iff.1 (Prod.ext_iff.1 h).2).2; simp at this
  · rw [if_neg hd] at h; have := (Prod.ext_iff.1 (Prod.ext_iff.1 h).2).2; simp at this
theorem split_rise {d x y : De} {k : ByteArray} {n : Int} (h : splitD d k n = (x, y, 0)) : Rise d x ∧ Rise d y := by
  obtain ⟨hd, _, _, h1, h2, rfl, rfl⟩ := split_spec h
  exact ⟨⟨h1, rfl, Int.le_refl _, fun m hm => .inl (kept hd hm)⟩, ⟨h2, rfl, Int.le_refl _, fun m hm => .inl (kept hd hm)⟩⟩

/-- who is added, and removed, leaves the members as they were -/
theorem onM_snoc {n : Int} {l : List Mem} {m : Mem} (h : onM n l = none) (e : m.1 = n) : onM n (l ++ [m]) = some m := by
  induction l with
  | nil => simp [onM, e]
  | cons x l ih =>
    rw [onM] at h
    by_cases hx : x.1 = n
    · rw [if_pos hx] at h; simp at h
    · rw [if_neg hx] at h
      rw [List.cons_append, onM, if_neg hx]
      exact ih h
theorem add_back {d x : De} {n : Int} (hd : isD d = true) (h : addD d n = (x, 0)) : onM n x.ms = some (n, d.next) ∧
    (removeD x d.next = (De.zero, 60) ∨ removeD x d.next = (De.zero, 7) ∨ removeD x d.next = (De.zero, 2) ∨ ∃ y : De, removeD x d.next = (y, 0) ∧ y.ms = d.ms) := by
  obtain ⟨hr, h1, h2, rfl⟩ := add_rise hd h
  refine ⟨onM_snoc h2 rfl, ?_⟩
  unfold removeD
  rw [if_pos hr.may]
  by_cases g1 : (hasM d.next (d.ms ++ [(n, d.next)])).isSome = true
  · rw [if_pos g1]
    by_cases g2 : (d.ms ++ [(n, d.next)]).length = 1
    · rw [if_pos g2]; exact .inr (.inr (.inl rfl))
    · rw [if_neg g2]
      rcases okD_cases { d with ms := dropM d.next (d.ms ++ [(n, d.next)]), next := d.next + 1, gen := d.gen + 1 + 1 } with ⟨_, e⟩ | e
      · refine .inr (.inr (.inr ⟨_, e, ?_⟩))
        show dropM d.next (d.ms ++ [(n, d.next)]) = d.ms
        unfold dropM
        rw [List.filter_append, List.filter_eq_self.2]
        · simp
        · intro m hm
          have := ((isD_parts hd).1 m hm).2.2
          simp only [decide_eq_true_eq]
          omega
      · exact .inl e
  · rw [if_neg g1]; exact .inr (.inl rfl)

theorem cutsB_next {b : Bd} {k : List UInt8} (h : cutsB b k = true) (h1 : isB ⟨b.f, k⟩ = true) (h2 : isB ⟨k, b.t⟩ = true) : nextB ⟨b.f, k⟩ ⟨k, b.t⟩ = true := by
  unfold cutsB at h
  simp only [Bool.and_eq_true] at h
  obtain ⟨⟨⟨_, hk⟩, _⟩, _⟩ := h
  rw [Go.Proofs.YtojphacongbnmaaDoor.O.nextB_iff]
  refine ⟨h1, h2, ?_, rfl⟩
  rintro rfl
  simp [keyB] at hk
/-- what was split, and merged, has the keys that it had -/
theorem split_back {d x y : De} {k : ByteArray} {n : Int} (h : splitD d k n = (x, y, 0)) :
    mergeD x y = (De.zero, 60) ∨ mergeD x y = ({ d with gen := d.gen + 1 + 1 }, 0) := by
  obtain ⟨hd, hc, hn, h1, h2, rfl, rfl⟩ := split_spec h
  unfold mergeD
  rw [if_pos ⟨h1, h2⟩]
  have hx := ((isD_iff _).1 h1).2.2.2.1
  have hy := ((isD_iff _).1 h2).2.2.2.1
  have hnx : nextB ({ d with t := k, gen := d.gen + 1 } : De).b ({ d with f := k, gen := d.gen + 1, id := n } : De).b = true := cutsB_next hc hx hy
  rw [if_pos hnx, if_neg (by simp only; omega)]
  have e : max (d.gen + 1) (d.gen + 1) = d.gen + 1 := by omega
  simp only [e]
  rcases okD_cases { d with gen := d.gen + 1 + 1 } with ⟨_, e⟩ | e
  · exact .inr e
  · exact .inl e

/-! ### quorums -/
theorem quorums {n : Int} (h1 : 1 ≤ n) : 1 ≤ n / 2 + 1 ∧ n / 2 + 1 ≤ n ∧ n < 2 * (n / 2 + 1) ∧ 2 * (n / 2 + 1 - 1) ≤ n ∧ n + 1 < n / 2 + 1 + ((n + 1) / 2 + 1) := by omega

end Go.Proofs.YtojphacongbnmaaDoor.Ds
