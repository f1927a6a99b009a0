/-
  THE PLAIN MATHEMATICS OF READING A TAPE PAGE BY PAGE, of no program: the page of any kind at the front, and how a loop comes to what the tape tells. No condition.
-/
import Derived.Test.YtglkapamkigdhaaDoorPages
namespace Go.Proofs.YtglkapamkigdhaaDoor.M

/-- the page at the front, of whatever kind: its kind, its number, its text, what stands behind it -/
noncomputable def anyT (s : Text) : Option (Text × Int × Text × Text) :=
  match firstT s with
  | none => none
  | some (x, r) => match openT x with
    | none => none
    | some y => match untieT y with
      | some [k, m, t] => match intT m with
        | some n => if t.length ≤ 524288 then some (k, n, t, r) else none
        | none => none
      | _ => none
theorem any_first {s : Text} (h : firstT s = none) : anyT s = none := by unfold anyT; rw [h]
theorem any_open {s x r : Text} (h : firstT s = some (x, r)) (ho : openT x = none) : anyT s = none := by unfold anyT; rw [h]; simp only; rw [ho]
theorem any_untie {s x r y : Text} (h : firstT s = some (x, r)) (ho : openT x = some y) (hu : untieT y = none) : anyT s = none := by unfold anyT; rw [h]; simp only; rw [ho]; simp only; rw [hu]
theorem any_len {s x r y : Text} {l : List Text} (h : firstT s = some (x, r)) (ho : openT x = some y) (hu : untieT y = some l) (hl : l.length ≠ 3) : anyT s = none := by
  unfold anyT; rw [h]; simp only; rw [ho]; simp only; rw [hu]
  match l, hl with
  | [], _ => rfl
  | [_], _ => rfl
  | [_, _], _ => rfl
  | [_, _, _], h => exact absurd rfl h
  | _ :: _ :: _ :: _ :: _, _ => rfl
theorem any_int {s x r y k m t : Text} (h : firstT s = some (x, r)) (ho : openT x = some y) (hu : untieT y = some [k, m, t]) (hi : intT m = none) : anyT s = none := by
  unfold anyT; rw [h]; simp only; rw [ho]; simp only; rw [hu]; simp only; rw [hi]
theorem any_long {s x r y k m t : Text} (h : firstT s = some (x, r)) (ho : openT x = some y) (hu : untieT y = some [k, m, t]) (ht : ¬ t.length ≤ 524288) : anyT s = none := by
  unfold anyT; rw [h]; simp only; rw [ho]; simp only; rw [hu]; simp only
  cases intT m with
  | none => rfl
  | some n => simp only; rw [if_neg ht]
theorem any_good {s x r y k m t : Text} {n : Int} (h : firstT s = some (x, r)) (ho : openT x = some y) (hu : untieT y = some [k, m, t]) (hi : intT m = some n) (ht : t.length ≤ 524288) : anyT s = some (k, n, t, r) := by
  unfold anyT; rw [h]; simp only; rw [ho]; simp only; rw [hu]; simp only; rw [hi]; simp only; rw [if_pos ht]
/-- what is read of a kind is what stands there, if it is of that kind -/
theorem read_any (kind s : Text) (hk : kind.length ≤ 4) : readT kind s = match anyT s with
    | some (k, n, t, r) => if k = kind then some (n, t, r) else none
    | none => none := by
  cases h : firstT s with
  | none => rw [any_first h, read_first h hk]
  | some p =>
    obtain ⟨x, r⟩ := p
    cases ho : openT x with
    | none => rw [any_open h ho, read_open h ho hk]
    | some y =>
      cases hu : untieT y with
      | none => rw [any_untie h ho hu, read_untie h ho hu hk]
      | some l =>
        by_cases hl : l.length = 3
        · match l, hl with
          | [k, m, t], _ =>
            cases hi : intT m with
            | none =>
              rw [any_int h ho hu hi]
              exact read_list h ho hu hk fun n t' e hn ht => by
                simp only [List.cons.injEq, and_true] at e
                rw [e.2.1, intT_some hn rfl] at hi
                cases hi
            | some n =>
              by_cases ht : t.length ≤ 524288
              · rw [any_good h ho hu hi ht]
                simp only
                by_cases hkk : k = kind
                · rw [if_pos hkk]
                  rw [hkk] at hu
                  exact read_good h ho hu hi ht
                · rw [if_neg hkk]
                  exact read_list h ho hu hk fun n t' e hn ht => by
                    simp only [List.cons.injEq, and_true] at e
                    exact hkk e.1
              · rw [any_long h ho hu ht]
                exact read_list h ho hu hk fun n t' e hn ht' => by
                  simp only [List.cons.injEq, and_true] at e
                  exact ht (by rw [e.2.2]; exact ht')
        · rw [any_len h ho hu hl]
          exact read_list h ho hu hk fun n t' e _ _ => hl (by rw [e]; rfl)
theorem any_less {s k t r : Text} {n : Int} (h : anyT s = some (k, n, t, r)) : r.length < s.length ∧ (∃ p, s = p ++ r) ∧ inR n ∧ t.length ≤ 524288 := by
  unfold anyT at h
  split at h
  · cases h
  rename_i x r' hf
  split at h
  · cases h
  split at h
  · split at h
    · rename_i hi
      split at h
      · rename_i ht
        simp only [Option.some.injEq, Prod.mk.injEq] at h
        obtain ⟨rfl, rfl, rfl, rfl⟩ := h
        obtain ⟨e, _⟩ := first_spec hf
        have h2 := List.length_pos_iff.2 (strand_ne x)
        have h3 : s.length = (strand x).length + r'.length := by rw [e, List.length_append]
        exact ⟨by omega, ⟨_, e⟩, (intT_spec hi).1, ht⟩
      · cases h
    · cases h
  · cases h

theorem drop_back {s r : Text} (h : ∃ p, s = p ++ r) : s.drop (s.length - r.length) = r := by
  obtain ⟨p, rfl⟩ := h
  rw [List.length_append, Nat.add_sub_cancel, List.drop_left]
/-! ### page by page -/
/-- a tape as it is told: 0: it has no epoch -/
noncomputable def tellT (s : Text) : Int × Text × List Text × Nat := (scanT s).getD (0, [], [], 0)
/-- what a loop knows that has read the base (n, b) and the records l, and stands at the text r -/
structure At (s : Text) (n : Int) (b : Text) (l : List Text) (r : Text) : Prop where
  tell : tellT s = (n, b, l ++ (recsT l.length r).1, s.length - (recsT l.length r).2.length)
  n1 : 1 ≤ n
  n2 : n ≤ 4611686018427387904
  less : r.length < s.length
  count : l.length + r.length ≤ s.length
  back : ∃ p, s = p ++ r
theorem tell_none {s : Text} (h : ∀ n b r, readT kBase s = some (n, b, r) → ¬ (1 ≤ n ∧ n ≤ 4611686018427387904)) : tellT s = (0, [], [], 0) := by
  unfold tellT scanT
  split
  · rename_i n b r h1
    rw [if_neg (h n b r h1)]; rfl
  · rfl
theorem At.start {s : Text} {n : Int} {b r : Text} (h : anyT s = some (kBase, n, b, r)) (h1 : 1 ≤ n) (h2 : n ≤ 4611686018427387904) : At s n b [] r := by
  have hr : readT kBase s = some (n, b, r) := by rw [read_any _ _ (by decide), h]; simp
  obtain ⟨q1, q2, _⟩ := any_less h
  refine ⟨?_, h1, h2, q1, by simp; omega, q2⟩
  unfold tellT scanT
  rw [hr]
  simp only
  rw [if_pos ⟨h1, h2⟩]
  rfl
theorem At.step {s : Text} {n : Int} {b : Text} {l : List Text} {r x r' : Text} (h : At s n b l r) (ha : anyT r = some (kRec, (l.length : Int) + 1, x, r')) : At s n b (l ++ [x]) r' := by
  have hr : readT kRec r = some ((l.length : Int) + 1, x, r') := by rw [read_any _ _ (by decide), ha]; simp
  obtain ⟨q1, q2, _⟩ := any_less ha
  have hless := h.less
  have hcount := h.count
  refine ⟨?_, h.n1, h.n2, by omega, by rw [List.length_append]; simp; omega, ?_⟩
  · rw [h.tell, recs_step hr]
    simp only [List.length_append, List.length_cons, List.length_nil, Nat.zero_add, List.append_assoc, List.singleton_append]
  · obtain ⟨p, e⟩ := h.back
    obtain ⟨q, e2⟩ := q2
    exact ⟨p ++ q, by rw [e, e2, List.append_assoc]⟩
theorem At.stop {s : Text} {n : Int} {b : Text} {l : List Text} {r : Text} (h : At s n b l r) (ha : ∀ x r', anyT r ≠ some (kRec, (l.length : Int) + 1, x, r')) : tellT s = (n, b, l, s.length - r.length) := by
  have hr : ∀ x r', readT kRec r ≠ some ((l.length : Int) + 1, x, r') := by
    intro x r' e
    rw [read_any _ _ (by decide)] at e
    split at e
    · rename_i k m t q hq
      split at e
      · rename_i hk
        simp only [Option.some.injEq, Prod.mk.injEq] at e
        obtain ⟨rfl, rfl, rfl⟩ := e
        exact ha _ _ (by rw [hq, hk])
      · cases e
    · cases e
  rw [h.tell, recs_stop hr]
  simp
theorem tell_base {s k t r : Text} {n : Int} (h : anyT s = some (k, n, t, r)) (hk : k ≠ kBase ∨ n < 1 ∨ 4611686018427387904 < n) : tellT s = (0, [], [], 0) :=
  tell_none fun n' b r' e => by
    rw [read_any _ _ (by decide), h] at e
    simp only at e
    split at e
    · rename_i he
      simp only [Option.some.injEq, Prod.mk.injEq] at e
      rcases hk with hk | hk | hk
      · exact absurd he hk
      · omega
      · omega
    · cases e
theorem tell_empty {s : Text} (h : anyT s = none) : tellT s = (0, [], [], 0) :=
  tell_none fun n' b r' e => by
    rw [read_any _ _ (by decide), h] at e
    cases e
/-- what a tape tells is no more than what stands there -/
theorem recs_len : ∀ (f n : Nat) (s : Text), s.length ≤ f → (recsT n s).1.length + (recsT n s).2.length ≤ s.length
  | 0, n, s, h => by
    obtain rfl : s = [] := List.length_eq_zero_iff.1 (by omega)
    rw [recs_stop (fun x r e => by rw [read_nil] at e; cases e)]; simp
  | f + 1, n, s, h => by
    rcases hq : readT kRec s with _ | ⟨m, x, r⟩
    · rw [recs_stop (fun x r e => by rw [hq] at e; cases e)]; simp
    · by_cases hm : m = (n : Int) + 1
      · subst hm
        have hl := read_less hq
        have := recs_len f (n + 1) r (by omega)
        rw [recs_step hq]
        simp only [List.length_cons]; omega
      · rw [recs_stop (fun x r e => by rw [hq] at e; injection e with e; injection e with e _; exact hm e)]; simp
theorem tell_len (s : Text) : (tellT s).2.2.1.length ≤ s.length ∧ (tellT s).2.2.2 ≤ s.length ∧ 0 ≤ (tellT s).1 ∧ (tellT s).1 ≤ 4611686018427387904 := by
  unfold tellT scanT
  split
  · rename_i n b r h
    split
    · rename_i hn
      have h1 := recs_len _ 0 r (Nat.le_refl _)
      have h2 := read_less h
      simp only [Option.getD_some]
      refine ⟨by omega, by omega, by omega, by omega⟩
    · simp
  · simp

end Go.Proofs.YtglkapamkigdhaaDoor.M
