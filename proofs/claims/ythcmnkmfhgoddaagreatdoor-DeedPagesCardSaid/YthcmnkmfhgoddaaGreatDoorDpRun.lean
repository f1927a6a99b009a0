/-
  A scan is a run: those that stand one behind the other from a place on. Reckoned without a program. No condition.
-/
import Derived.Test.YthcmnkmfhgoddaaGreatDoorDpTA
namespace Go.Proofs.YthcmnkmfhgoddaaGreatDoor.Dp
open Go.Proofs.YthcmnkmfhgoddaaGreatDoor.O (Bd hasB lt)
open Go.Proofs.YthcmnkmfhgoddaaGreatDoor.Od (Pr E0)
open Go.Proofs.YthcmnkmfhgoddaaGreatDoor.Sf (kl Up scanP between)
theorem run_spec {α : Type} (p : α → Bool) : ∀ L : List α, ∃ m, m ≤ L.length ∧ L.takeWhile p = L.take m ∧ (∀ i (h : i < L.length), i < m → p L[i] = true) ∧ (∀ h : m < L.length, p L[m] = false)
  | [] => ⟨0, Nat.le_refl _, rfl, fun i h => by simp at h, fun h => by simp at h⟩
  | a :: L => by
    cases ha : p a with
    | false =>
      refine ⟨0, Nat.zero_le _, ?_, fun i h h0 => by omega, fun _ => ha⟩
      rw [List.takeWhile_cons, ha]; rfl
    | true =>
      obtain ⟨m, h1, h2, h3, h4⟩ := run_spec p L
      refine ⟨m + 1, Nat.succ_le_succ h1, ?_, fun i h hi => ?_, fun h => ?_⟩
      · rw [List.takeWhile_cons, ha, h2]; rfl
      · cases i with
        | zero => exact ha
        | succ i => exact h3 i (Nat.lt_of_succ_lt_succ h) (Nat.lt_of_succ_lt_succ hi)
      · exact h4 (Nat.lt_of_succ_lt_succ h)
theorem filter_run (p : Pr → Bool) (hp : ∀ a b : Pr, kl a.1 b.1 = true → p b = true → p a = true) : ∀ {L : List Pr}, Up L → L.filter p = L.takeWhile p
  | [], _ => rfl
  | a :: L, hu => by
    have h := List.pairwise_cons.1 hu
    rw [List.filter_cons, List.takeWhile_cons]
    cases ha : p a with
    | true => simp only [if_true]; rw [filter_run p hp h.2]
    | false =>
      simp only [Bool.false_eq_true, if_false]
      rw [List.filter_eq_nil_iff]
      intro b hb hpb
      rw [hp a b (h.1 b hb) hpb] at ha
      cases ha
theorem between_has (f t : ByteArray) (q : Pr) : between f t q = hasB (Bnd.B f t) q.1.toList := by
  have h : between f t q = true ↔ hasB (Bnd.B f t) q.1.toList = true := by
    rw [O.hasB_iff]
    unfold between
    simp only [Bool.and_eq_true, Bool.or_eq_true, Bool.not_eq_true', decide_eq_true_eq]
    exact Iff.rfl
  cases hb : between f t q with
  | true => exact (h.1 hb).symm
  | false =>
    cases hc : hasB (Bnd.B f t) q.1.toList with
    | false => rfl
    | true => rw [h.2 hc] at hb; cases hb
theorem scan_run {P : List Pr} (hu : Up P) (f t : ByteArray) : ∃ m, placeP P f + m ≤ P.length ∧ scanP P f t = (P.drop (placeP P f)).take m ∧ (∀ i (h : placeP P f + i < P.length), i < m → hasB (Bnd.B f t) P[placeP P f + i].1.toList = true) ∧ (∀ h : placeP P f + m < P.length, hasB (Bnd.B f t) P[placeP P f + m].1.toList = false) := by
  have hpl := place_le P f
  have hud : Up (P.drop (placeP P f)) := List.Pairwise.sublist (List.drop_sublist _ _) hu
  have e1 : scanP P f t = (P.drop (placeP P f)).filter (between f t) := by
    have e2 : P.filter (between f t) = ((P.take (placeP P f)) ++ P.drop (placeP P f)).filter (between f t) := by rw [List.take_append_drop]
    unfold scanP
    rw [e2, List.filter_append]
    have e3 : (P.take (placeP P f)).filter (between f t) = [] := by
      rw [List.filter_eq_nil_iff]
      intro q hq hb
      obtain ⟨i, hi, rfl⟩ := List.getElem_of_mem hq
      rw [List.length_take] at hi
      rw [List.getElem_take] at hb
      have hk := place_low hu f i (by omega) (by omega)
      unfold between at hb
      rw [hk] at hb
      simp at hb
    rw [e3, List.nil_append]
  have e4 : (P.drop (placeP P f)).filter (between f t) = (P.drop (placeP P f)).filter (fun q => decide (t.toList = []) || kl q.1 t) := by
    apply List.filter_congr
    intro q hq
    obtain ⟨i, hi, rfl⟩ := List.getElem_of_mem hq
    rw [List.length_drop] at hi
    rw [List.getElem_drop]
    have hk := place_high hu f (placeP P f + i) (by omega) (by omega)
    unfold between
    rw [hk]
    rfl
  have e5 := filter_run (fun q => decide (t.toList = []) || kl q.1 t) (fun a b hab hb => by
    simp only [Bool.or_eq_true, decide_eq_true_eq] at hb ⊢
    rcases hb with hb | hb
    · exact .inl hb
    · exact .inr (Sf.kl_trans hab hb)) hud
  obtain ⟨m, h1, h2, h3, h4⟩ := run_spec (fun q : Pr => decide (t.toList = []) || kl q.1 t) (P.drop (placeP P f))
  rw [List.length_drop] at h1
  have hb : ∀ i (h : placeP P f + i < P.length), hasB (Bnd.B f t) P[placeP P f + i].1.toList = (decide (t.toList = []) || kl P[placeP P f + i].1 t) := fun i h => by
    rw [← between_has]
    have hk := place_high hu f (placeP P f + i) h (by omega)
    unfold between
    rw [hk]
    rfl
  refine ⟨m, by omega, by rw [e1, e4, e5, h2], fun i h hi => ?_, fun h => ?_⟩
  · rw [hb i h]
    have := h3 i (by rw [List.length_drop]; omega) hi
    rw [List.getElem_drop] at this
    exact this
  · rw [hb m h]
    have := h4 (by rw [List.length_drop]; omega)
    rw [List.getElem_drop] at this
    exact this
end Go.Proofs.YthcmnkmfhgoddaaGreatDoor.Dp
