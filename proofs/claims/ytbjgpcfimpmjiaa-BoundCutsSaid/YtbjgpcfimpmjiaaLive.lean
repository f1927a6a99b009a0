/-
  The laws' own check that the program is alive: it answers true. No condition.
-/
import Derived.Test.YtbjgpcfimpmjiaaRWhole
namespace Go.Proofs.Ytbjgpcfimpmjiaa
open Go.RowKit O

theorem c_cut (w : World) : Calls Try.prog 24 #[bd ⟨#[97]⟩ ⟨#[109]⟩, .string ⟨#[102]⟩] w fun e w' => e = .returned (.tuple #[bd ⟨#[97]⟩ ⟨#[102]⟩, bd ⟨#[102]⟩ ⟨#[109]⟩, .int .i64 0]) ∧ Below w.heap.size w w' := by
  have h := cut_any ⟨#[97]⟩ ⟨#[109]⟩ ⟨#[102]⟩ w (by decide) (by decide) (by decide)
  rw [show cutV ⟨#[97]⟩ ⟨#[109]⟩ ⟨#[102]⟩ = .tuple #[bd ⟨#[97]⟩ ⟨#[102]⟩, bd ⟨#[102]⟩ ⟨#[109]⟩, .int .i64 0] by
    unfold cutV
    rw [if_pos]
    decide +kernel] at h
  exact h
theorem c_cut2 (w : World) : Calls Try.prog 24 #[bd ⟨#[97]⟩ ⟨#[102]⟩, .string ⟨#[122]⟩] w fun e w' => e = .returned (.tuple #[bd E0 E0, bd E0 E0, .int .i64 20]) ∧ Below w.heap.size w w' := by
  have h := cut_any ⟨#[97]⟩ ⟨#[102]⟩ ⟨#[122]⟩ w (by decide) (by decide) (by decide)
  rw [show cutV ⟨#[97]⟩ ⟨#[102]⟩ ⟨#[122]⟩ = .tuple #[bd E0 E0, bd E0 E0, .int .i64 20] by
    unfold cutV
    rw [if_neg]
    decide +kernel] at h
  exact h
theorem c_join (w : World) : Calls Try.prog 26 #[bd ⟨#[97]⟩ ⟨#[102]⟩, bd ⟨#[102]⟩ ⟨#[109]⟩] w fun e w' => e = .returned (.tuple #[bd ⟨#[97]⟩ ⟨#[109]⟩, .int .i64 0]) ∧ Below w.heap.size w w' := by
  have h := join_any ⟨#[97]⟩ ⟨#[102]⟩ ⟨#[102]⟩ ⟨#[109]⟩ w (by decide) (by decide) (by decide) (by decide)
  rw [show joinV ⟨#[97]⟩ ⟨#[102]⟩ ⟨#[102]⟩ ⟨#[109]⟩ = .tuple #[bd ⟨#[97]⟩ ⟨#[109]⟩, .int .i64 0] by
    unfold joinV
    rw [if_pos]
    decide +kernel] at h
  exact h
theorem c_meta (w : World) : Calls Try.prog 34 #[.int .i64 2, .string ⟨#[109]⟩] w fun e w' => e = .returned (.string ⟨#[2, 109]⟩) ∧ Below w.heap.size w w' := by
  have h := meta2 ⟨#[109]⟩ w (by decide)
  rw [show ba (metaT 2 (⟨#[109]⟩ : ByteArray).toList) = ⟨#[2, 109]⟩ by rw [ByteArray.toList_eq]; rfl] at h
  exact h
theorem c_search (w : World) : Calls Try.prog 36 #[.int .i64 2, .string ⟨#[109]⟩] w fun e w' => e = .returned (bd ⟨#[2, 109, 0]⟩ ⟨#[3]⟩) ∧ Below w.heap.size w w' := by
  have h := search2 ⟨#[109]⟩ w (by decide)
  rw [show ba (searchB 2 (⟨#[109]⟩ : ByteArray).toList).f = ⟨#[2, 109, 0]⟩ by rw [ByteArray.toList_eq]; rfl, show ba (searchB 2 (⟨#[109]⟩ : ByteArray).toList).t = ⟨#[3]⟩ by rw [ByteArray.toList_eq]; rfl] at h
  exact h
theorem c_level (w : World) : Calls Try.prog 32 #[.string ⟨#[109]⟩] w fun e w' => e = .returned (.int .i64 0) ∧ w = w' := by
  have h := level_any ⟨#[109]⟩ w (by decide)
  rw [show levelT (⟨#[109]⟩ : ByteArray).toList = 0 by rw [ByteArray.toList_eq]; decide] at h
  exact h

theorem c_whole (w : World) : Calls Try.prog 30 #[.slice (some ⟨w.heap.size, 0, none⟩) 2 2] (w.alloc (.cells #[.string ⟨#[]⟩, .string ⟨#[98]⟩, .string ⟨#[98]⟩, .string ⟨#[]⟩] 23)) fun e w' => e = .returned (.bool true) ∧ Below w.heap.size w w' := by
  have hv : SB (w.alloc (.cells #[.string ⟨#[]⟩, .string ⟨#[98]⟩, .string ⟨#[98]⟩, .string ⟨#[]⟩] 23)) (w.alloc (.cells #[.string ⟨#[]⟩, .string ⟨#[98]⟩, .string ⟨#[98]⟩, .string ⟨#[]⟩] 23)).heap.size (.slice (some ⟨w.heap.size, 0, none⟩) 2 2) [(⟨#[]⟩, ⟨#[98]⟩), (⟨#[98]⟩, ⟨#[]⟩)] := by
    refine ⟨_, _, rfl, fun _ => ⟨w.heap.size, 0, rfl, by simp, fun i hi => ?_⟩⟩
    match i, hi with
    | 0, _ => exact ⟨by simp, by simp⟩
    | 1, _ => exact ⟨by simp, by simp⟩
  have h := whole_any _ _ _ hv (by decide) (by intro p hp; simp at hp; rcases hp with rfl | rfl <;> decide)
  rw [show wholeB (bds [(⟨#[]⟩, ⟨#[98]⟩), (⟨#[98]⟩, ⟨#[]⟩)]) = true by decide +kernel] at h
  exact h.mono fun e w' ⟨h1, h2⟩ => ⟨h1, ((Below.refl _ w).alloc (Nat.le_refl _) _).trans (h2.mono (by simp))⟩

/-- one more box -/
theorem box_more {N : Nat} {w w1 : World} (h : Below N w w1) (o : Obj) (hN : N ≤ w.heap.size) : Below N w (w1.alloc o) := h.alloc (Nat.le_trans hN h.size) o

set_option maxHeartbeats 2000000 in
theorem live_any (w : World) : Calls Try.prog 12 #[] w fun e w' => e = .returned (.bool true) ∧ Below w.heap.size w w' := by
  go_enter Try.func12, Try.ntmps12
  go_wp2_with fail
  refine (c_cut _).mono ?_
  rintro e w1 ⟨rfl, b1⟩
  go_wp2_with fail
  refine (c_join _).mono ?_
  rintro e w2 ⟨rfl, b2'⟩
  obtain ⟨hc2, hf2⟩ := bcell b2'
  have z1 := b1.size
  have b2 := (box_more (box_more b1 (.cells #[.string ⟨#[97]⟩, .string ⟨#[102]⟩] 23) (Nat.le_refl _)) (.cells #[.string ⟨#[102]⟩, .string ⟨#[109]⟩] 23) (Nat.le_refl _)).trans (b2'.mono (by simp; omega))
  have z2 : w1.heap.size + 1 < w2.heap.size := by have := b2'.size; simp at this; omega
  have z2' : w1.heap.size < w2.heap.size := by omega
  have e20 : w2.cell? ⟨w1.heap.size, 0, none⟩ = some (.string ⟨#[97]⟩) := by rw [hc2 _ _ (by simp; omega)]; simp [go_sem]
  have e21 : w2.cell? ⟨w1.heap.size, 1, none⟩ = some (.string ⟨#[102]⟩) := by rw [hc2 _ _ (by simp; omega)]; simp [go_sem]
  clear hc2 hf2 b2' b1
  go_wp2_with fail
  refine (c_cut2 _).mono ?_
  rintro e w3 ⟨rfl, b3'⟩
  obtain ⟨hc3, hf3⟩ := bcell b3'
  have b3 := (box_more b2 (.cells #[.string ⟨#[97]⟩, .string ⟨#[109]⟩] 23) (Nat.le_refl _)).trans (b3'.mono (by simp; omega))
  have z3 : w2.heap.size < w3.heap.size := by have := b3'.size; simp at this; omega
  have z30 : w1.heap.size < w3.heap.size := by omega
  have z31 : w1.heap.size + 1 < w3.heap.size := by omega
  have f30 : w3.cell? ⟨w1.heap.size, 0, none⟩ = some (.string ⟨#[97]⟩) := by rw [hc3 _ _ (by simp; omega)]; simp [go_sem, e20, z2']
  have f31 : w3.cell? ⟨w1.heap.size, 1, none⟩ = some (.string ⟨#[102]⟩) := by rw [hc3 _ _ (by simp; omega)]; simp [go_sem, e21, z2']
  have g30 : w3.cell? ⟨w2.heap.size, 0, none⟩ = some (.string ⟨#[97]⟩) := by rw [hc3 _ _ (by simp)]; simp [go_sem]
  have g31 : w3.cell? ⟨w2.heap.size, 1, none⟩ = some (.string ⟨#[109]⟩) := by rw [hc3 _ _ (by simp)]; simp [go_sem]
  clear hc3 hf3 b3' b2 e20 e21
  go_wp2_with fail
  refine (num_any _ _).mono ?_
  rintro e w' ⟨rfl, rfl⟩
  go_wp2_with fail
  refine (num_any _ _).mono ?_
  rintro e w' ⟨rfl, rfl⟩
  go_wp2_with fail
  refine (num_any _ _).mono ?_
  rintro e w' ⟨rfl, rfl⟩
  go_wp2_with fail
  refine (c_meta _).mono ?_
  rintro e w4 ⟨rfl, b4'⟩
  have b4 := (box_more (box_more b3 (.cells #[.string E0, .string E0] 23) (Nat.le_refl _)) (.cells #[.string E0, .string E0] 23) (Nat.le_refl _)).trans (b4'.mono (by simp; have := b3.size; omega))
  clear b3 b4' f30 f31 g30 g31
  go_wp2_with fail
  refine (c_search _).mono ?_
  rintro e w5 ⟨rfl, b5'⟩
  have b5 := b4.trans (b5'.mono b4.size)
  go_wp2_with fail
  refine (c_level _).mono ?_
  rintro e w' ⟨rfl, rfl⟩
  go_wp2_with fail
  refine (c_whole _).mono ?_
  rintro e w6 ⟨rfl, b6'⟩
  have b6 := b5.trans (b6'.mono b5.size)
  go_wp2_with fail
  go_ret
  exact ⟨rfl, b6⟩

end Go.Proofs.Ytbjgpcfimpmjiaa
