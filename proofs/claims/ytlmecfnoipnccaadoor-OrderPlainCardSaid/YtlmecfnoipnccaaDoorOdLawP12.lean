/-
  OrderPlain of one kind, walked. Condition: the library's variables hold what their types allow.
-/
import Derived.Test.YtlmecfnoipnccaaDoorOdLawK
namespace Go.Proofs.YtlmecfnoipnccaaDoor.Od
open Go.RowKit Bnd
open Go.Proofs.YtlmecfnoipnccaaDoor.O (keyB)

set_option maxHeartbeats 16000000 in
set_option maxRecDepth 100000 in
theorem plain_12 (c s i : Int) (w : World) (hg : Good w) : Calls Tryd.prog 9 #[.int .i64 12, .int .i64 c, .int .i64 s, .int .i64 i] w fun e w' => e = .returned (.bool true) ∧ Below w.heap.size w w' := by
  have hlive := fun wx (hb : Below w.heap.size w wx) => live_any wx (hg.below hb)
  have ck : ∀ wx, Below w.heap.size w wx → Calls Tryd.prog 44 #[av ⟨12, c, s, ⟨#[107]⟩, E0, E0, E0, false, 0, 0, 0⟩] wx fun e w' => e = .returned (.int .i64 (if (seqB c && seqB s) = true then 0 else 70)) ∧ Below wx.heap.size wx w' := by
    intro wx hb
    have := check_any ⟨12, c, s, ⟨#[107]⟩, E0, E0, E0, false, 0, 0, 0⟩ wx (show ByteArray.size ⟨#[107]⟩ ≤ 140737488355328 by decide) (show ByteArray.size E0 ≤ 140737488355328 by decide) (show ByteArray.size E0 ≤ 140737488355328 by decide) (hg.below hb)
    rw [plain_is (same_no (by intro h; injection h with h; omega)) ((sameA_iff _ _).2 rfl) (by simp [fitsA, fitsKeyA, keyB, ByteArray.toList_eq])] at this
    exact this
  have d1 : ∀ wx, Below w.heap.size w wx → Calls Tryd.prog 44 #[av ⟨12, c, s, ⟨#[107]⟩, kA, E0, E0, false, 0, 0, 0⟩] wx fun e w' => e = .returned (.int .i64 70) ∧ Below wx.heap.size wx w' := by
    intro wx hb
    have := check_any ⟨12, c, s, ⟨#[107]⟩, kA, E0, E0, false, 0, 0, 0⟩ wx (show ByteArray.size ⟨#[107]⟩ ≤ 140737488355328 by decide) (show ByteArray.size kA ≤ 140737488355328 by decide) (show ByteArray.size E0 ≤ 140737488355328 by decide) (hg.below hb)
    rw [plain_no (by intro h; injection h with h; omega) (by intro h; exact absurd (show (kA : ByteArray) = E0 from congrArg Ask.til h) (by decide))] at this
    exact this
  have d2 : ∀ wx, Below w.heap.size w wx → Calls Tryd.prog 44 #[av ⟨12, c, s, ⟨#[107]⟩, E0, kA, E0, false, 0, 0, 0⟩] wx fun e w' => e = .returned (.int .i64 70) ∧ Below wx.heap.size wx w' := by
    intro wx hb
    have := check_any ⟨12, c, s, ⟨#[107]⟩, E0, kA, E0, false, 0, 0, 0⟩ wx (show ByteArray.size ⟨#[107]⟩ ≤ 140737488355328 by decide) (show ByteArray.size E0 ≤ 140737488355328 by decide) (show ByteArray.size kA ≤ 140737488355328 by decide) (hg.below hb)
    rw [plain_no (by intro h; injection h with h; omega) (by intro h; exact absurd (show (kA : ByteArray) = E0 from congrArg Ask.val h) (by decide))] at this
    exact this
  have d3 : ∀ wx, Below w.heap.size w wx → Calls Tryd.prog 44 #[av ⟨12, c, s, ⟨#[107]⟩, E0, E0, kA, false, 0, 0, 0⟩] wx fun e w' => e = .returned (.int .i64 70) ∧ Below wx.heap.size wx w' := by
    intro wx hb
    have := check_any ⟨12, c, s, ⟨#[107]⟩, E0, E0, kA, false, 0, 0, 0⟩ wx (show ByteArray.size ⟨#[107]⟩ ≤ 140737488355328 by decide) (show ByteArray.size E0 ≤ 140737488355328 by decide) (show ByteArray.size E0 ≤ 140737488355328 by decide) (hg.below hb)
    rw [plain_no (by intro h; injection h with h; omega) (by intro h; exact absurd (show (kA : ByteArray) = E0 from congrArg Ask.old h) (by decide))] at this
    exact this
  have d4 : ∀ wx, Below w.heap.size w wx → Calls Tryd.prog 44 #[av ⟨12, c, s, ⟨#[107]⟩, E0, E0, E0, true, 0, 0, 0⟩] wx fun e w' => e = .returned (.int .i64 70) ∧ Below wx.heap.size wx w' := by
    intro wx hb
    have := check_any ⟨12, c, s, ⟨#[107]⟩, E0, E0, E0, true, 0, 0, 0⟩ wx (show ByteArray.size ⟨#[107]⟩ ≤ 140737488355328 by decide) (show ByteArray.size E0 ≤ 140737488355328 by decide) (show ByteArray.size E0 ≤ 140737488355328 by decide) (hg.below hb)
    rw [plain_no (by intro h; injection h with h; omega) (by intro h; exact absurd (show (true : Bool) = false from congrArg Ask.has h) (by decide))] at this
    exact this
  have d5 : ∀ wx, Below w.heap.size w wx → Calls Tryd.prog 44 #[av ⟨12, c, s, ⟨#[107]⟩, E0, E0, E0, false, 1, 0, 0⟩] wx fun e w' => e = .returned (.int .i64 70) ∧ Below wx.heap.size wx w' := by
    intro wx hb
    have := check_any ⟨12, c, s, ⟨#[107]⟩, E0, E0, E0, false, 1, 0, 0⟩ wx (show ByteArray.size ⟨#[107]⟩ ≤ 140737488355328 by decide) (show ByteArray.size E0 ≤ 140737488355328 by decide) (show ByteArray.size E0 ≤ 140737488355328 by decide) (hg.below hb)
    rw [plain_no (by intro h; injection h with h; omega) (by intro h; exact absurd (show (1 : Int) = 0 from congrArg Ask.lim h) (by decide))] at this
    exact this
  have d6 : ∀ wx, Below w.heap.size w wx → Calls Tryd.prog 44 #[av ⟨12, c, s, ⟨#[107]⟩, E0, E0, E0, false, 0, 1, 0⟩] wx fun e w' => e = .returned (.int .i64 70) ∧ Below wx.heap.size wx w' := by
    intro wx hb
    have := check_any ⟨12, c, s, ⟨#[107]⟩, E0, E0, E0, false, 0, 1, 0⟩ wx (show ByteArray.size ⟨#[107]⟩ ≤ 140737488355328 by decide) (show ByteArray.size E0 ≤ 140737488355328 by decide) (show ByteArray.size E0 ≤ 140737488355328 by decide) (hg.below hb)
    rw [plain_no (by intro h; injection h with h; omega) (by intro h; exact absurd (show (1 : Int) = 0 from congrArg Ask.id h) (by decide))] at this
    exact this
  have d7 : ∀ wx, Below w.heap.size w wx → Calls Tryd.prog 44 #[av ⟨12, c, s, ⟨#[107]⟩, E0, E0, E0, false, 0, 0, 1⟩] wx fun e w' => e = .returned (.int .i64 70) ∧ Below wx.heap.size wx w' := by
    intro wx hb
    have := check_any ⟨12, c, s, ⟨#[107]⟩, E0, E0, E0, false, 0, 0, 1⟩ wx (show ByteArray.size ⟨#[107]⟩ ≤ 140737488355328 by decide) (show ByteArray.size E0 ≤ 140737488355328 by decide) (show ByteArray.size E0 ≤ 140737488355328 by decide) (hg.below hb)
    rw [plain_no (by intro h; injection h with h; omega) (by intro h; exact absurd (show (1 : Int) = 0 from congrArg Ask.node h) (by decide))] at this
    exact this
  have hw : i = 0 ∨ i = 1 ∨ i = 2 ∨ i = 3 ∨ i = 4 ∨ i = 5 ∨ i = 6 ∨ i = 7 ∨ Hid ((i == 0) = false ∧ (i == 1) = false ∧ (i == 2) = false ∧ (i == 3) = false ∧ (i == 4) = false ∧ (i == 5) = false ∧ (i == 6) = false ∧ (i == 7) = false) := by
    by_cases h : 0 ≤ i ∧ i ≤ 7
    · omega
    · have : Hid ((i == 0) = false ∧ (i == 1) = false ∧ (i == 2) = false ∧ (i == 3) = false ∧ (i == 4) = false ∧ (i == 5) = false ∧ (i == 6) = false ∧ (i == 7) = false) := Lib.hid (by simp only [beq_eq_false_iff_ne]; omega)
      exact .inr (.inr (.inr (.inr (.inr (.inr (.inr (.inr this)))))))
  have HW := Lib.hid hw
  clear hw
  have hc : (c < 1) ∨ (¬ c < 1 ∧ ¬ c ≤ 1099511627776) ∨ (¬ c < 1 ∧ c ≤ 1099511627776 ∧ s < 1) ∨ (¬ c < 1 ∧ c ≤ 1099511627776 ∧ ¬ s < 1 ∧ ¬ s ≤ 1099511627776) ∨ (¬ c < 1 ∧ c ≤ 1099511627776 ∧ ¬ s < 1 ∧ s ≤ 1099511627776) := by omega
  rcases hc with hx | ⟨hx, hy⟩ | ⟨hx, hy, hz⟩ | ⟨hx, hy, hz, hv⟩ | ⟨hx, hy, hz, hv⟩
  · have e1 : (seqB c && seqB s) = false := by unfold seqB amongB; rw [← Bool.not_eq_true]; simp only [Bool.and_eq_true, decide_eq_true_eq]; omega
    have f1 : (c ≥ 1) = False := eq_false (by omega)
    clear hx
    rw [e1] at ck
    simp only [Bool.false_eq_true, if_false] at ck
    clear e1
    go_enter Tryd.func9, Tryd.ntmps9
    go_wp2_with fail
    refine (ck _ (by (repeat' (first | with_reducible assumption | with_reducible exact Below.refl _ _ | with_reducible refine Below.alloc ?_ ?_ _ | with_reducible refine Below.setCell ?_ ?_ _ | with_reducible refine Below.drew ?_ | omega | (simp; done) | (simp; omega))))).mono ?_
    rintro e w1 ⟨rfl, b1⟩
    have B1 := (BoxA.new w ⟨12, c, s, ⟨#[107]⟩, E0, E0, E0, false, 0, 0, 0⟩).keep b1
    have hb1 : Below w.heap.size w w1 := (show Below w.heap.size w _ from (by (repeat' (first | with_reducible assumption | with_reducible exact Below.refl _ _ | with_reducible refine Below.alloc ?_ ?_ _ | with_reducible refine Below.setCell ?_ ?_ _ | with_reducible refine Below.drew ?_ | omega | (simp; done) | (simp; omega))))).trans (b1.mono (by simp))
    have hz1 := hb1.size
    have hs1 := B1.1
    clear b1 ck
    obtain ⟨p_0, ⟨p_1, p_2, p_3, p_4, p_5, p_6, p_7, p_8, p_9, p_10, p_11⟩, p_12⟩ := _root_.id B1
    go_wp2_with fail
    refine (num_any _ _).mono ?_
    rintro e w' ⟨rfl, rfl⟩
    rcases HW.out with rfl | rfl | rfl | rfl | rfl | rfl | rfl | rfl | hn
    · clear HW
      go_wp2_with fail
      refine (hlive _ (by (repeat' (first | with_reducible assumption | with_reducible exact Below.refl _ _ | with_reducible refine Below.alloc ?_ ?_ _ | with_reducible refine Below.setCell ?_ ?_ _ | with_reducible refine Below.drew ?_ | omega | (simp; done) | (simp; omega))))).mono ?_
      rintro e w9 ⟨rfl, b9⟩
      have hb9 : Below w.heap.size w w9 := (show Below w.heap.size w _ from (by (repeat' (first | with_reducible assumption | with_reducible exact Below.refl _ _ | with_reducible refine Below.alloc ?_ ?_ _ | with_reducible refine Below.setCell ?_ ?_ _ | with_reducible refine Below.drew ?_ | omega | (simp; done) | (simp; omega))))).trans (b9.mono (by first | omega | (simp; omega)))
      clear b9
      go_wp2_with fail
      go_ret
      exact ⟨rfl, hb9⟩
    · clear HW
      go_wp2_with fail
      refine (d1 _ (by (repeat' (first | with_reducible assumption | with_reducible exact Below.refl _ _ | with_reducible refine Below.alloc ?_ ?_ _ | with_reducible refine Below.setCell ?_ ?_ _ | with_reducible refine Below.drew ?_ | omega | (simp; done) | (simp; omega))))).mono ?_
      rintro e w2 ⟨rfl, b2⟩
      have hb2 : Below w.heap.size w w2 := (show Below w.heap.size w _ from (by (repeat' (first | with_reducible assumption | with_reducible exact Below.refl _ _ | with_reducible refine Below.alloc ?_ ?_ _ | with_reducible refine Below.setCell ?_ ?_ _ | with_reducible refine Below.drew ?_ | omega | (simp; done) | (simp; omega))))).trans (b2.mono (by first | omega | (simp; omega)))
      have hz2 := hb2.size
      clear b2
      go_wp2_with fail
      refine (num_any _ _).mono ?_
      rintro e w' ⟨rfl, rfl⟩
      go_wp2_with fail
      refine (hlive _ (by (repeat' (first | with_reducible assumption | with_reducible exact Below.refl _ _ | with_reducible refine Below.alloc ?_ ?_ _ | with_reducible refine Below.setCell ?_ ?_ _ | with_reducible refine Below.drew ?_ | omega | (simp; done) | (simp; omega))))).mono ?_
      rintro e w9 ⟨rfl, b9⟩
      have hb9 : Below w.heap.size w w9 := (show Below w.heap.size w _ from (by (repeat' (first | with_reducible assumption | with_reducible exact Below.refl _ _ | with_reducible refine Below.alloc ?_ ?_ _ | with_reducible refine Below.setCell ?_ ?_ _ | with_reducible refine Below.drew ?_ | omega | (simp; done) | (simp; omega))))).trans (b9.mono (by first | omega | (simp; omega)))
      clear b9
      go_wp2_with fail
      go_ret
      exact ⟨rfl, hb9⟩
    · clear HW
      go_wp2_with fail
      refine (d2 _ (by (repeat' (first | with_reducible assumption | with_reducible exact Below.refl _ _ | with_reducible refine Below.alloc ?_ ?_ _ | with_reducible refine Below.setCell ?_ ?_ _ | with_reducible refine Below.drew ?_ | omega | (simp; done) | (simp; omega))))).mono ?_
      rintro e w2 ⟨rfl, b2⟩
      have hb2 : Below w.heap.size w w2 := (show Below w.heap.size w _ from (by (repeat' (first | with_reducible assumption | with_reducible exact Below.refl _ _ | with_reducible refine Below.alloc ?_ ?_ _ | with_reducible refine Below.setCell ?_ ?_ _ | with_reducible refine Below.drew ?_ | omega | (simp; done) | (simp; omega))))).trans (b2.mono (by first | omega | (simp; omega)))
      have hz2 := hb2.size
      clear b2
      go_wp2_with fail
      refine (num_any _ _).mono ?_
      rintro e w' ⟨rfl, rfl⟩
      go_wp2_with fail
      refine (hlive _ (by (repeat' (first | with_reducible assumption | with_reducible exact Below.refl _ _ | with_reducible refine Below.alloc ?_ ?_ _ | with_reducible refine Below.setCell ?_ ?_ _ | with_reducible refine Below.drew ?_ | omega | (simp; done) | (simp; omega))))).mono ?_
      rintro e w9 ⟨rfl, b9⟩
      have hb9 : Below w.heap.size w w9 := (show Below w.heap.size w _ from (by (repeat' (first | with_reducible assumption | with_reducible exact Below.refl _ _ | with_reducible refine Below.alloc ?_ ?_ _ | with_reducible refine Below.setCell ?_ ?_ _ | with_reducible refine Below.drew ?_ | omega | (simp; done) | (simp; omega))))).trans (b9.mono (by first | omega | (simp; omega)))
      clear b9
      go_wp2_with fail
      go_ret
      exact ⟨rfl, hb9⟩
    · clear HW
      go_wp2_with fail
      refine (d3 _ (by (repeat' (first | with_reducible assumption | with_reducible exact Below.refl _ _ | with_reducible refine Below.alloc ?_ ?_ _ | with_reducible refine Below.setCell ?_ ?_ _ | with_reducible refine Below.drew ?_ | omega | (simp; done) | (simp; omega))))).mono ?_
      rintro e w2 ⟨rfl, b2⟩
      have hb2 : Below w.heap.size w w2 := (show Below w.heap.size w _ from (by (repeat' (first | with_reducible assumption | with_reducible exact Below.refl _ _ | with_reducible refine Below.alloc ?_ ?_ _ | with_reducible refine Below.setCell ?_ ?_ _ | with_reducible refine Below.drew ?_ | omega | (simp; done) | (simp; omega))))).trans (b2.mono (by first | omega | (simp; omega)))
      have hz2 := hb2.size
      clear b2
      go_wp2_with fail
      refine (num_any _ _).mono ?_
      rintro e w' ⟨rfl, rfl⟩
      go_wp2_with fail
      refine (hlive _ (by (repeat' (first | with_reducible assumption | with_reducible exact Below.refl _ _ | with_reducible refine Below.alloc ?_ ?_ _ | with_reducible refine Below.setCell ?_ ?_ _ | with_reducible refine Below.drew ?_ | omega | (simp; done) | (simp; omega))))).mono ?_
      rintro e w9 ⟨rfl, b9⟩
      have hb9 : Below w.heap.size w w9 := (show Below w.heap.size w _ from (by (repeat' (first | with_reducible assumption | with_reducible exact Below.refl _ _ | with_reducible refine Below.alloc ?_ ?_ _ | with_reducible refine Below.setCell ?_ ?_ _ | with_reducible refine Below.drew ?_ | omega | (simp; done) | (simp; omega))))).trans (b9.mono (by first | omega | (simp; omega)))
      clear b9
      go_wp2_with fail
      go_ret
      exact ⟨rfl, hb9⟩
    · clear HW
      go_wp2_with fail
      refine (d4 _ (by (repeat' (first | with_reducible assumption | with_reducible exact Below.refl _ _ | with_reducible refine Below.alloc ?_ ?_ _ | with_reducible refine Below.setCell ?_ ?_ _ | with_reducible refine Below.drew ?_ | omega | (simp; done) | (simp; omega))))).mono ?_
      rintro e w2 ⟨rfl, b2⟩
      have hb2 : Below w.heap.size w w2 := (show Below w.heap.size w _ from (by (repeat' (first | with_reducible assumption | with_reducible exact Below.refl _ _ | with_reducible refine Below.alloc ?_ ?_ _ | with_reducible refine Below.setCell ?_ ?_ _ | with_reducible refine Below.drew ?_ | omega | (simp; done) | (simp; omega))))).trans (b2.mono (by first | omega | (simp; omega)))
      have hz2 := hb2.size
      clear b2
      go_wp2_with fail
      refine (num_any _ _).mono ?_
      rintro e w' ⟨rfl, rfl⟩
      go_wp2_with fail
      refine (hlive _ (by (repeat' (first | with_reducible assumption | with_reducible exact Below.refl _ _ | with_reducible refine Below.alloc ?_ ?_ _ | with_reducible refine Below.setCell ?_ ?_ _ | with_reducible refine Below.drew ?_ | omega | (simp; done) | (simp; omega))))).mono ?_
      rintro e w9 ⟨rfl, b9⟩
      have hb9 : Below w.heap.size w w9 := (show Below w.heap.size w _ from (by (repeat' (first | with_reducible assumption | with_reducible exact Below.refl _ _ | with_reducible refine Below.alloc ?_ ?_ _ | with_reducible refine Below.setCell ?_ ?_ _ | with_reducible refine Below.drew ?_ | omega | (simp; done) | (simp; omega))))).trans (b9.mono (by first | omega | (simp; omega)))
      clear b9
      go_wp2_with fail
      go_ret
      exact ⟨rfl, hb9⟩
    · clear HW
      go_wp2_with fail
      refine (d5 _ (by (repeat' (first | with_reducible assumption | with_reducible exact Below.refl _ _ | with_reducible refine Below.alloc ?_ ?_ _ | with_reducible refine Below.setCell ?_ ?_ _ | with_reducible refine Below.drew ?_ | omega | (simp; done) | (simp; omega))))).mono ?_
      rintro e w2 ⟨rfl, b2⟩
      have hb2 : Below w.heap.size w w2 := (show Below w.heap.size w _ from (by (repeat' (first | with_reducible assumption | with_reducible exact Below.refl _ _ | with_reducible refine Below.alloc ?_ ?_ _ | with_reducible refine Below.setCell ?_ ?_ _ | with_reducible refine Below.drew ?_ | omega | (simp; done) | (simp; omega))))).trans (b2.mono (by first | omega | (simp; omega)))
      have hz2 := hb2.size
      clear b2
      go_wp2_with fail
      refine (num_any _ _).mono ?_
      rintro e w' ⟨rfl, rfl⟩
      go_wp2_with fail
      refine (hlive _ (by (repeat' (first | with_reducible assumption | with_reducible exact Below.refl _ _ | with_reducible refine Below.alloc ?_ ?_ _ | with_reducible refine Below.setCell ?_ ?_ _ | with_reducible refine Below.drew ?_ | omega | (simp; done) | (simp; omega))))).mono ?_
      rintro e w9 ⟨rfl, b9⟩
      have hb9 : Below w.heap.size w w9 := (show Below w.heap.size w _ from (by (repeat' (first | with_reducible assumption | with_reducible exact Below.refl _ _ | with_reducible refine Below.alloc ?_ ?_ _ | with_reducible refine Below.setCell ?_ ?_ _ | with_reducible refine Below.drew ?_ | omega | (simp; done) | (simp; omega))))).trans (b9.mono (by first | omega | (simp; omega)))
      clear b9
      go_wp2_with fail
      go_ret
      exact ⟨rfl, hb9⟩
    · clear HW
      go_wp2_with fail
      refine (d6 _ (by (repeat' (first | with_reducible assumption | with_reducible exact Below.refl _ _ | with_reducible refine Below.alloc ?_ ?_ _ | with_reducible refine Below.setCell ?_ ?_ _ | with_reducible refine Below.drew ?_ | omega | (simp; done) | (simp; omega))))).mono ?_
      rintro e w2 ⟨rfl, b2⟩
      have hb2 : Below w.heap.size w w2 := (show Below w.heap.size w _ from (by (repeat' (first | with_reducible assumption | with_reducible exact Below.refl _ _ | with_reducible refine Below.alloc ?_ ?_ _ | with_reducible refine Below.setCell ?_ ?_ _ | with_reducible refine Below.drew ?_ | omega | (simp; done) | (simp; omega))))).trans (b2.mono (by first | omega | (simp; omega)))
      have hz2 := hb2.size
      clear b2
      go_wp2_with fail
      refine (num_any _ _).mono ?_
      rintro e w' ⟨rfl, rfl⟩
      go_wp2_with fail
      refine (hlive _ (by (repeat' (first | with_reducible assumption | with_reducible exact Below.refl _ _ | with_reducible refine Below.alloc ?_ ?_ _ | with_reducible refine Below.setCell ?_ ?_ _ | with_reducible refine Below.drew ?_ | omega | (simp; done) | (simp; omega))))).mono ?_
      rintro e w9 ⟨rfl, b9⟩
      have hb9 : Below w.heap.size w w9 := (show Below w.heap.size w _ from (by (repeat' (first | with_reducible assumption | with_reducible exact Below.refl _ _ | with_reducible refine Below.alloc ?_ ?_ _ | with_reducible refine Below.setCell ?_ ?_ _ | with_reducible refine Below.drew ?_ | omega | (simp; done) | (simp; omega))))).trans (b9.mono (by first | omega | (simp; omega)))
      clear b9
      go_wp2_with fail
      go_ret
      exact ⟨rfl, hb9⟩
    · clear HW
      go_wp2_with fail
      refine (d7 _ (by (repeat' (first | with_reducible assumption | with_reducible exact Below.refl _ _ | with_reducible refine Below.alloc ?_ ?_ _ | with_reducible refine Below.setCell ?_ ?_ _ | with_reducible refine Below.drew ?_ | omega | (simp; done) | (simp; omega))))).mono ?_
      rintro e w2 ⟨rfl, b2⟩
      have hb2 : Below w.heap.size w w2 := (show Below w.heap.size w _ from (by (repeat' (first | with_reducible assumption | with_reducible exact Below.refl _ _ | with_reducible refine Below.alloc ?_ ?_ _ | with_reducible refine Below.setCell ?_ ?_ _ | with_reducible refine Below.drew ?_ | omega | (simp; done) | (simp; omega))))).trans (b2.mono (by first | omega | (simp; omega)))
      have hz2 := hb2.size
      clear b2
      go_wp2_with fail
      refine (num_any _ _).mono ?_
      rintro e w' ⟨rfl, rfl⟩
      go_wp2_with fail
      refine (hlive _ (by (repeat' (first | with_reducible assumption | with_reducible exact Below.refl _ _ | with_reducible refine Below.alloc ?_ ?_ _ | with_reducible refine Below.setCell ?_ ?_ _ | with_reducible refine Below.drew ?_ | omega | (simp; done) | (simp; omega))))).mono ?_
      rintro e w9 ⟨rfl, b9⟩
      have hb9 : Below w.heap.size w w9 := (show Below w.heap.size w _ from (by (repeat' (first | with_reducible assumption | with_reducible exact Below.refl _ _ | with_reducible refine Below.alloc ?_ ?_ _ | with_reducible refine Below.setCell ?_ ?_ _ | with_reducible refine Below.drew ?_ | omega | (simp; done) | (simp; omega))))).trans (b9.mono (by first | omega | (simp; omega)))
      clear b9
      go_wp2_with fail
      go_ret
      exact ⟨rfl, hb9⟩
    · clear HW
      obtain ⟨k0, k1, k2, k3, k4, k5, k6, k7⟩ := hn.out
      clear hn
      go_wp2_with fail
      refine (hlive _ (by (repeat' (first | with_reducible assumption | with_reducible exact Below.refl _ _ | with_reducible refine Below.alloc ?_ ?_ _ | with_reducible refine Below.setCell ?_ ?_ _ | with_reducible refine Below.drew ?_ | omega | (simp; done) | (simp; omega))))).mono ?_
      rintro e w9 ⟨rfl, b9⟩
      have hb9 : Below w.heap.size w w9 := (show Below w.heap.size w _ from (by (repeat' (first | with_reducible assumption | with_reducible exact Below.refl _ _ | with_reducible refine Below.alloc ?_ ?_ _ | with_reducible refine Below.setCell ?_ ?_ _ | with_reducible refine Below.drew ?_ | omega | (simp; done) | (simp; omega))))).trans (b9.mono (by first | omega | (simp; omega)))
      clear b9
      go_wp2_with fail
      go_ret
      exact ⟨rfl, hb9⟩
  · have e1 : (seqB c && seqB s) = false := by unfold seqB amongB; rw [← Bool.not_eq_true]; simp only [Bool.and_eq_true, decide_eq_true_eq]; omega
    have f1 : (c ≥ 1) = True := eq_true (by omega)
    have f2 : (c ≤ 1099511627776) = False := eq_false hy
    clear hx hy
    rw [e1] at ck
    simp only [Bool.false_eq_true, if_false] at ck
    clear e1
    go_enter Tryd.func9, Tryd.ntmps9
    go_wp2_with fail
    refine (ck _ (by (repeat' (first | with_reducible assumption | with_reducible exact Below.refl _ _ | with_reducible refine Below.alloc ?_ ?_ _ | with_reducible refine Below.setCell ?_ ?_ _ | with_reducible refine Below.drew ?_ | omega | (simp; done) | (simp; omega))))).mono ?_
    rintro e w1 ⟨rfl, b1⟩
    have B1 := (BoxA.new w ⟨12, c, s, ⟨#[107]⟩, E0, E0, E0, false, 0, 0, 0⟩).keep b1
    have hb1 : Below w.heap.size w w1 := (show Below w.heap.size w _ from (by (repeat' (first | with_reducible assumption | with_reducible exact Below.refl _ _ | with_reducible refine Below.alloc ?_ ?_ _ | with_reducible refine Below.setCell ?_ ?_ _ | with_reducible refine Below.drew ?_ | omega | (simp; done) | (simp; omega))))).trans (b1.mono (by simp))
    have hz1 := hb1.size
    have hs1 := B1.1
    clear b1 ck
    obtain ⟨p_0, ⟨p_1, p_2, p_3, p_4, p_5, p_6, p_7, p_8, p_9, p_10, p_11⟩, p_12⟩ := _root_.id B1
    go_wp2_with fail
    refine (num_any _ _).mono ?_
    rintro e w' ⟨rfl, rfl⟩
    rcases HW.out with rfl | rfl | rfl | rfl | rfl | rfl | rfl | rfl | hn
    · clear HW
      go_wp2_with fail
      refine (hlive _ (by (repeat' (first | with_reducible assumption | with_reducible exact Below.refl _ _ | with_reducible refine Below.alloc ?_ ?_ _ | with_reducible refine Below.setCell ?_ ?_ _ | with_reducible refine Below.drew ?_ | omega | (simp; done) | (simp; omega))))).mono ?_
      rintro e w9 ⟨rfl, b9⟩
      have hb9 : Below w.heap.size w w9 := (show Below w.heap.size w _ from (by (repeat' (first | with_reducible assumption | with_reducible exact Below.refl _ _ | with_reducible refine Below.alloc ?_ ?_ _ | with_reducible refine Below.setCell ?_ ?_ _ | with_reducible refine Below.drew ?_ | omega | (simp; done) | (simp; omega))))).trans (b9.mono (by first | omega | (simp; omega)))
      clear b9
      go_wp2_with fail
      go_ret
      exact ⟨rfl, hb9⟩
    · clear HW
      go_wp2_with fail
      refine (d1 _ (by (repeat' (first | with_reducible assumption | with_reducible exact Below.refl _ _ | with_reducible refine Below.alloc ?_ ?_ _ | with_reducible refine Below.setCell ?_ ?_ _ | with_reducible refine Below.drew ?_ | omega | (simp; done) | (simp; omega))))).mono ?_
      rintro e w2 ⟨rfl, b2⟩
      have hb2 : Below w.heap.size w w2 := (show Below w.heap.size w _ from (by (repeat' (first | with_reducible assumption | with_reducible exact Below.refl _ _ | with_reducible refine Below.alloc ?_ ?_ _ | with_reducible refine Below.setCell ?_ ?_ _ | with_reducible refine Below.drew ?_ | omega | (simp; done) | (simp; omega))))).trans (b2.mono (by first | omega | (simp; omega)))
      have hz2 := hb2.size
      clear b2
      go_wp2_with fail
      refine (num_any _ _).mono ?_
      rintro e w' ⟨rfl, rfl⟩
      go_wp2_with fail
      refine (hlive _ (by (repeat' (first | with_reducible assumption | with_reducible exact Below.refl _ _ | with_reducible refine Below.alloc ?_ ?_ _ | with_reducible refine Below.setCell ?_ ?_ _ | with_reducible refine Below.drew ?_ | omega | (simp; done) | (simp; omega))))).mono ?_
      rintro e w9 ⟨rfl, b9⟩
      have hb9 : Below w.heap.size w w9 := (show Below w.heap.size w _ from (by (repeat' (first | with_reducible assumption | with_reducible exact Below.refl _ _ | with_reducible refine Below.alloc ?_ ?_ _ | with_reducible refine Below.setCell ?_ ?_ _ | with_reducible refine Below.drew ?_ | omega | (simp; done) | (simp; omega))))).trans (b9.mono (by first | omega | (simp; omega)))
      clear b9
      go_wp2_with fail
      go_ret
      exact ⟨rfl, hb9⟩
    · clear HW
      go_wp2_with fail
      refine (d2 _ (by (repeat' (first | with_reducible assumption | with_reducible exact Below.refl _ _ | with_reducible refine Below.alloc ?_ ?_ _ | with_reducible refine Below.setCell ?_ ?_ _ | with_reducible refine Below.drew ?_ | omega | (simp; done) | (simp; omega))))).mono ?_
      rintro e w2 ⟨rfl, b2⟩
      have hb2 : Below w.heap.size w w2 := (show Below w.heap.size w _ from (by (repeat' (first | with_reducible assumption | with_reducible exact Below.refl _ _ | with_reducible refine Below.alloc ?_ ?_ _ | with_reducible refine Below.setCell ?_ ?_ _ | with_reducible refine Below.drew ?_ | omega | (simp; done) | (simp; omega))))).trans (b2.mono (by first | omega | (simp; omega)))
      have hz2 := hb2.size
      clear b2
      go_wp2_with fail
      refine (num_any _ _).mono ?_
      rintro e w' ⟨rfl, rfl⟩
      go_wp2_with fail
      refine (hlive _ (by (repeat' (first | with_reducible assumption | with_reducible exact Below.refl _ _ | with_reducible refine Below.alloc ?_ ?_ _ | with_reducible refine Below.setCell ?_ ?_ _ | with_reducible refine Below.drew ?_ | omega | (simp; done) | (simp; omega))))).mono ?_
      rintro e w9 ⟨rfl, b9⟩
      have hb9 : Below w.heap.size w w9 := (show Below w.heap.size w _ from (by (repeat' (first | with_reducible assumption | with_reducible exact Below.refl _ _ | with_reducible refine Below.alloc ?_ ?_ _ | with_reducible refine Below.setCell ?_ ?_ _ | with_reducible refine Below.drew ?_ | omega | (simp; done) | (simp; omega))))).trans (b9.mono (by first | omega | (simp; omega)))
      clear b9
      go_wp2_with fail
      go_ret
      exact ⟨rfl, hb9⟩
    · clear HW
      go_wp2_with fail
      refine (d3 _ (by (repeat' (first | with_reducible assumption | with_reducible exact Below.refl _ _ | with_reducible refine Below.alloc ?_ ?_ _ | with_reducible refine Below.setCell ?_ ?_ _ | with_reducible refine Below.drew ?_ | omega | (simp; done) | (simp; omega))))).mono ?_
      rintro e w2 ⟨rfl, b2⟩
      have hb2 : Below w.heap.size w w2 := (show Below w.heap.size w _ from (by (repeat' (first | with_reducible assumption | with_reducible exact Below.refl _ _ | with_reducible refine Below.alloc ?_ ?_ _ | with_reducible refine Below.setCell ?_ ?_ _ | with_reducible refine Below.drew ?_ | omega | (simp; done) | (simp; omega))))).trans (b2.mono (by first | omega | (simp; omega)))
      have hz2 := hb2.size
      clear b2
      go_wp2_with fail
      refine (num_any _ _).mono ?_
      rintro e w' ⟨rfl, rfl⟩
      go_wp2_with fail
      refine (hlive _ (by (repeat' (first | with_reducible assumption | with_reducible exact Below.refl _ _ | with_reducible refine Below.alloc ?_ ?_ _ | with_reducible refine Below.setCell ?_ ?_ _ | with_reducible refine Below.drew ?_ | omega | (simp; done) | (simp; omega))))).mono ?_
      rintro e w9 ⟨rfl, b9⟩
      have hb9 : Below w.heap.size w w9 := (show Below w.heap.size w _ from (by (repeat' (first | with_reducible assumption | with_reducible exact Below.refl _ _ | with_reducible refine Below.alloc ?_ ?_ _ | with_reducible refine Below.setCell ?_ ?_ _ | with_reducible refine Below.drew ?_ | omega | (simp; done) | (simp; omega))))).trans (b9.mono (by first | omega | (simp; omega)))
      clear b9
      go_wp2_with fail
      go_ret
      exact ⟨rfl, hb9⟩
    · clear HW
      go_wp2_with fail
      refine (d4 _ (by (repeat' (first | with_reducible assumption | with_reducible exact Below.refl _ _ | with_reducible refine Below.alloc ?_ ?_ _ | with_reducible refine Below.setCell ?_ ?_ _ | with_reducible refine Below.drew ?_ | omega | (simp; done) | (simp; omega))))).mono ?_
      rintro e w2 ⟨rfl, b2⟩
      have hb2 : Below w.heap.size w w2 := (show Below w.heap.size w _ from (by (repeat' (first | with_reducible assumption | with_reducible exact Below.refl _ _ | with_reducible refine Below.alloc ?_ ?_ _ | with_reducible refine Below.setCell ?_ ?_ _ | with_reducible refine Below.drew ?_ | omega | (simp; done) | (simp; omega))))).trans (b2.mono (by first | omega | (simp; omega)))
      have hz2 := hb2.size
      clear b2
      go_wp2_with fail
      refine (num_any _ _).mono ?_
      rintro e w' ⟨rfl, rfl⟩
      go_wp2_with fail
      refine (hlive _ (by (repeat' (first | with_reducible assumption | with_reducible exact Below.refl _ _ | with_reducible refine Below.alloc ?_ ?_ _ | with_reducible refine Below.setCell ?_ ?_ _ | with_reducible refine Below.drew ?_ | omega | (simp; done) | (simp; omega))))).mono ?_
      rintro e w9 ⟨rfl, b9⟩
      have hb9 : Below w.heap.size w w9 := (show Below w.heap.size w _ from (by (repeat' (first | with_reducible assumption | with_reducible exact Below.refl _ _ | with_reducible refine Below.alloc ?_ ?_ _ | with_reducible refine Below.setCell ?_ ?_ _ | with_reducible refine Below.drew ?_ | omega | (simp; done) | (simp; omega))))).trans (b9.mono (by first | omega | (simp; omega)))
      clear b9
      go_wp2_with fail
      go_ret
      exact ⟨rfl, hb9⟩
    · clear HW
      go_wp2_with fail
      refine (d5 _ (by (repeat' (first | with_reducible assumption | with_reducible exact Below.refl _ _ | with_reducible refine Below.alloc ?_ ?_ _ | with_reducible refine Below.setCell ?_ ?_ _ | with_reducible refine Below.drew ?_ | omega | (simp; done) | (simp; omega))))).mono ?_
      rintro e w2 ⟨rfl, b2⟩
      have hb2 : Below w.heap.size w w2 := (show Below w.heap.size w _ from (by (repeat' (first | with_reducible assumption | with_reducible exact Below.refl _ _ | with_reducible refine Below.alloc ?_ ?_ _ | with_reducible refine Below.setCell ?_ ?_ _ | with_reducible refine Below.drew ?_ | omega | (simp; done) | (simp; omega))))).trans (b2.mono (by first | omega | (simp; omega)))
      have hz2 := hb2.size
      clear b2
      go_wp2_with fail
      refine (num_any _ _).mono ?_
      rintro e w' ⟨rfl, rfl⟩
      go_wp2_with fail
      refine (hlive _ (by (repeat' (first | with_reducible assumption | with_reducible exact Below.refl _ _ | with_reducible refine Below.alloc ?_ ?_ _ | with_reducible refine Below.setCell ?_ ?_ _ | with_reducible refine Below.drew ?_ | omega | (simp; done) | (simp; omega))))).mono ?_
      rintro e w9 ⟨rfl, b9⟩
      have hb9 : Below w.heap.size w w9 := (show Below w.heap.size w _ from (by (repeat' (first | with_reducible assumption | with_reducible exact Below.refl _ _ | with_reducible refine Below.alloc ?_ ?_ _ | with_reducible refine Below.setCell ?_ ?_ _ | with_reducible refine Below.drew ?_ | omega | (simp; done) | (simp; omega))))).trans (b9.mono (by first | omega | (simp; omega)))
      clear b9
      go_wp2_with fail
      go_ret
      exact ⟨rfl, hb9⟩
    · clear HW
      go_wp2_with fail
      refine (d6 _ (by (repeat' (first | with_reducible assumption | with_reducible exact Below.refl _ _ | with_reducible refine Below.alloc ?_ ?_ _ | with_reducible refine Below.setCell ?_ ?_ _ | with_reducible refine Below.drew ?_ | omega | (simp; done) | (simp; omega))))).mono ?_
      rintro e w2 ⟨rfl, b2⟩
      have hb2 : Below w.heap.size w w2 := (show Below w.heap.size w _ from (by (repeat' (first | with_reducible assumption | with_reducible exact Below.refl _ _ | with_reducible refine Below.alloc ?_ ?_ _ | with_reducible refine Below.setCell ?_ ?_ _ | with_reducible refine Below.drew ?_ | omega | (simp; done) | (simp; omega))))).trans (b2.mono (by first | omega | (simp; omega)))
      have hz2 := hb2.size
      clear b2
      go_wp2_with fail
      refine (num_any _ _).mono ?_
      rintro e w' ⟨rfl, rfl⟩
      go_wp2_with fail
      refine (hlive _ (by (repeat' (first | with_reducible assumption | with_reducible exact Below.refl _ _ | with_reducible refine Below.alloc ?_ ?_ _ | with_reducible refine Below.setCell ?_ ?_ _ | with_reducible refine Below.drew ?_ | omega | (simp; done) | (simp; omega))))).mono ?_
      rintro e w9 ⟨rfl, b9⟩
      have hb9 : Below w.heap.size w w9 := (show Below w.heap.size w _ from (by (repeat' (first | with_reducible assumption | with_reducible exact Below.refl _ _ | with_reducible refine Below.alloc ?_ ?_ _ | with_reducible refine Below.setCell ?_ ?_ _ | with_reducible refine Below.drew ?_ | omega | (simp; done) | (simp; omega))))).trans (b9.mono (by first | omega | (simp; omega)))
      clear b9
      go_wp2_with fail
      go_ret
      exact ⟨rfl, hb9⟩
    · clear HW
      go_wp2_with fail
      refine (d7 _ (by (repeat' (first | with_reducible assumption | with_reducible exact Below.refl _ _ | with_reducible refine Below.alloc ?_ ?_ _ | with_reducible refine Below.setCell ?_ ?_ _ | with_reducible refine Below.drew ?_ | omega | (simp; done) | (simp; omega))))).mono ?_
      rintro e w2 ⟨rfl, b2⟩
      have hb2 : Below w.heap.size w w2 := (show Below w.heap.size w _ from (by (repeat' (first | with_reducible assumption | with_reducible exact Below.refl _ _ | with_reducible refine Below.alloc ?_ ?_ _ | with_reducible refine Below.setCell ?_ ?_ _ | with_reducible refine Below.drew ?_ | omega | (simp; done) | (simp; omega))))).trans (b2.mono (by first | omega | (simp; omega)))
      have hz2 := hb2.size
      clear b2
      go_wp2_with fail
      refine (num_any _ _).mono ?_
      rintro e w' ⟨rfl, rfl⟩
      go_wp2_with fail
      refine (hlive _ (by (repeat' (first | with_reducible assumption | with_reducible exact Below.refl _ _ | with_reducible refine Below.alloc ?_ ?_ _ | with_reducible refine Below.setCell ?_ ?_ _ | with_reducible refine Below.drew ?_ | omega | (simp; done) | (simp; omega))))).mono ?_
      rintro e w9 ⟨rfl, b9⟩
      have hb9 : Below w.heap.size w w9 := (show Below w.heap.size w _ from (by (repeat' (first | with_reducible assumption | with_reducible exact Below.refl _ _ | with_reducible refine Below.alloc ?_ ?_ _ | with_reducible refine Below.setCell ?_ ?_ _ | with_reducible refine Below.drew ?_ | omega | (simp; done) | (simp; omega))))).trans (b9.mono (by first | omega | (simp; omega)))
      clear b9
      go_wp2_with fail
      go_ret
      exact ⟨rfl, hb9⟩
    · clear HW
      obtain ⟨k0, k1, k2, k3, k4, k5, k6, k7⟩ := hn.out
      clear hn
      go_wp2_with fail
      refine (hlive _ (by (repeat' (first | with_reducible assumption | with_reducible exact Below.refl _ _ | with_reducible refine Below.alloc ?_ ?_ _ | with_reducible refine Below.setCell ?_ ?_ _ | with_reducible refine Below.drew ?_ | omega | (simp; done) | (simp; omega))))).mono ?_
      rintro e w9 ⟨rfl, b9⟩
      have hb9 : Below w.heap.size w w9 := (show Below w.heap.size w _ from (by (repeat' (first | with_reducible assumption | with_reducible exact Below.refl _ _ | with_reducible refine Below.alloc ?_ ?_ _ | with_reducible refine Below.setCell ?_ ?_ _ | with_reducible refine Below.drew ?_ | omega | (simp; done) | (simp; omega))))).trans (b9.mono (by first | omega | (simp; omega)))
      clear b9
      go_wp2_with fail
      go_ret
      exact ⟨rfl, hb9⟩
  · have e1 : (seqB c && seqB s) = false := by unfold seqB amongB; rw [← Bool.not_eq_true]; simp only [Bool.and_eq_true, decide_eq_true_eq]; omega
    have f1 : (c ≥ 1) = True := eq_true (by omega)
    have f2 : (c ≤ 1099511627776) = True := eq_true hy
    have f3 : (s ≥ 1) = False := eq_false (by omega)
    clear hx hy hz
    rw [e1] at ck
    simp only [Bool.false_eq_true, if_false] at ck
    clear e1
    go_enter Tryd.func9, Tryd.ntmps9
    go_wp2_with fail
    refine (ck _ (by (repeat' (first | with_reducible assumption | with_reducible exact Below.refl _ _ | with_reducible refine Below.alloc ?_ ?_ _ | with_reducible refine Below.setCell ?_ ?_ _ | with_reducible refine Below.drew ?_ | omega | (simp; done) | (simp; omega))))).mono ?_
    rintro e w1 ⟨rfl, b1⟩
    have B1 := (BoxA.new w ⟨12, c, s, ⟨#[107]⟩, E0, E0, E0, false, 0, 0, 0⟩).keep b1
    have hb1 : Below w.heap.size w w1 := (show Below w.heap.size w _ from (by (repeat' (first | with_reducible assumption | with_reducible exact Below.refl _ _ | with_reducible refine Below.alloc ?_ ?_ _ | with_reducible refine Below.setCell ?_ ?_ _ | with_reducible refine Below.drew ?_ | omega | (simp; done) | (simp; omega))))).trans (b1.mono (by simp))
    have hz1 := hb1.size
    have hs1 := B1.1
    clear b1 ck
    obtain ⟨p_0, ⟨p_1, p_2, p_3, p_4, p_5, p_6, p_7, p_8, p_9, p_10, p_11⟩, p_12⟩ := _root_.id B1
    go_wp2_with fail
    refine (num_any _ _).mono ?_
    rintro e w' ⟨rfl, rfl⟩
    rcases HW.out with rfl | rfl | rfl | rfl | rfl | rfl | rfl | rfl | hn
    · clear HW
      go_wp2_with fail
      refine (hlive _ (by (repeat' (first | with_reducible assumption | with_reducible exact Below.refl _ _ | with_reducible refine Below.alloc ?_ ?_ _ | with_reducible refine Below.setCell ?_ ?_ _ | with_reducible refine Below.drew ?_ | omega | (simp; done) | (simp; omega))))).mono ?_
      rintro e w9 ⟨rfl, b9⟩
      have hb9 : Below w.heap.size w w9 := (show Below w.heap.size w _ from (by (repeat' (first | with_reducible assumption | with_reducible exact Below.refl _ _ | with_reducible refine Below.alloc ?_ ?_ _ | with_reducible refine Below.setCell ?_ ?_ _ | with_reducible refine Below.drew ?_ | omega | (simp; done) | (simp; omega))))).trans (b9.mono (by first | omega | (simp; omega)))
      clear b9
      go_wp2_with fail
      go_ret
      exact ⟨rfl, hb9⟩
    · clear HW
      go_wp2_with fail
      refine (d1 _ (by (repeat' (first | with_reducible assumption | with_reducible exact Below.refl _ _ | with_reducible refine Below.alloc ?_ ?_ _ | with_reducible refine Below.setCell ?_ ?_ _ | with_reducible refine Below.drew ?_ | omega | (simp; done) | (simp; omega))))).mono ?_
      rintro e w2 ⟨rfl, b2⟩
      have hb2 : Below w.heap.size w w2 := (show Below w.heap.size w _ from (by (repeat' (first | with_reducible assumption | with_reducible exact Below.refl _ _ | with_reducible refine Below.alloc ?_ ?_ _ | with_reducible refine Below.setCell ?_ ?_ _ | with_reducible refine Below.drew ?_ | omega | (simp; done) | (simp; omega))))).trans (b2.mono (by first | omega | (simp; omega)))
      have hz2 := hb2.size
      clear b2
      go_wp2_with fail
      refine (num_any _ _).mono ?_
      rintro e w' ⟨rfl, rfl⟩
      go_wp2_with fail
      refine (hlive _ (by (repeat' (first | with_reducible assumption | with_reducible exact Below.refl _ _ | with_reducible refine Below.alloc ?_ ?_ _ | with_reducible refine Below.setCell ?_ ?_ _ | with_reducible refine Below.drew ?_ | omega | (simp; done) | (simp; omega))))).mono ?_
      rintro e w9 ⟨rfl, b9⟩
      have hb9 : Below w.heap.size w w9 := (show Below w.heap.size w _ from (by (repeat' (first | with_reducible assumption | with_reducible exact Below.refl _ _ | with_reducible refine Below.alloc ?_ ?_ _ | with_reducible refine Below.setCell ?_ ?_ _ | with_reducible refine Below.drew ?_ | omega | (simp; done) | (simp; omega))))).trans (b9.mono (by first | omega | (simp; omega)))
      clear b9
      go_wp2_with fail
      go_ret
      exact ⟨rfl, hb9⟩
    · clear HW
      go_wp2_with fail
      refine (d2 _ (by (repeat' (first | with_reducible assumption | with_reducible exact Below.refl _ _ | with_reducible refine Below.alloc ?_ ?_ _ | with_reducible refine Below.setCell ?_ ?_ _ | with_reducible refine Below.drew ?_ | omega | (simp; done) | (simp; omega))))).mono ?_
      rintro e w2 ⟨rfl, b2⟩
      have hb2 : Below w.heap.size w w2 := (show Below w.heap.size w _ from (by (repeat' (first | with_reducible assumption | with_reducible exact Below.refl _ _ | with_reducible refine Below.alloc ?_ ?_ _ | with_reducible refine Below.setCell ?_ ?_ _ | with_reducible refine Below.drew ?_ | omega | (simp; done) | (simp; omega))))).trans (b2.mono (by first | omega | (simp; omega)))
      have hz2 := hb2.size
      clear b2
      go_wp2_with fail
      refine (num_any _ _).mono ?_
      rintro e w' ⟨rfl, rfl⟩
      go_wp2_with fail
      refine (hlive _ (by (repeat' (first | with_reducible assumption | with_reducible exact Below.refl _ _ | with_reducible refine Below.alloc ?_ ?_ _ | with_reducible refine Below.setCell ?_ ?_ _ | with_reducible refine Below.drew ?_ | omega | (simp; done) | (simp; omega))))).mono ?_
      rintro e w9 ⟨rfl, b9⟩
      have hb9 : Below w.heap.size w w9 := (show Below w.heap.size w _ from (by (repeat' (first | with_reducible assumption | with_reducible exact Below.refl _ _ | with_reducible refine Below.alloc ?_ ?_ _ | with_reducible refine Below.setCell ?_ ?_ _ | with_reducible refine Below.drew ?_ | omega | (simp; done) | (simp; omega))))).trans (b9.mono (by first | omega | (simp; omega)))
      clear b9
      go_wp2_with fail
      go_ret
      exact ⟨rfl, hb9⟩
    · clear HW
      go_wp2_with fail
      refine (d3 _ (by (repeat' (first | with_reducible assumption | with_reducible exact Below.refl _ _ | with_reducible refine Below.alloc ?_ ?_ _ | with_reducible refine Below.setCell ?_ ?_ _ | with_reducible refine Below.drew ?_ | omega | (simp; done) | (simp; omega))))).mono ?_
      rintro e w2 ⟨rfl, b2⟩
      have hb2 : Below w.heap.size w w2 := (show Below w.heap.size w _ from (by (repeat' (first | with_reducible assumption | with_reducible exact Below.refl _ _ | with_reducible refine Below.alloc ?_ ?_ _ | with_reducible refine Below.setCell ?_ ?_ _ | with_reducible refine Below.drew ?_ | omega | (simp; done) | (simp; omega))))).trans (b2.mono (by first | omega | (simp; omega)))
      have hz2 := hb2.size
      clear b2
      go_wp2_with fail
      refine (num_any _ _).mono ?_
      rintro e w' ⟨rfl, rfl⟩
      go_wp2_with fail
      refine (hlive _ (by (repeat' (first | with_reducible assumption | with_reducible exact Below.refl _ _ | with_reducible refine Below.alloc ?_ ?_ _ | with_reducible refine Below.setCell ?_ ?_ _ | with_reducible refine Below.drew ?_ | omega | (simp; done) | (simp; omega))))).mono ?_
      rintro e w9 ⟨rfl, b9⟩
      have hb9 : Below w.heap.size w w9 := (show Below w.heap.size w _ from (by (repeat' (first | with_reducible assumption | with_reducible exact Below.refl _ _ | with_reducible refine Below.alloc ?_ ?_ _ | with_reducible refine Below.setCell ?_ ?_ _ | with_reducible refine Below.drew ?_ | omega | (simp; done) | (simp; omega))))).trans (b9.mono (by first | omega | (simp; omega)))
      clear b9
      go_wp2_with fail
      go_ret
      exact ⟨rfl, hb9⟩
    · clear HW
      go_wp2_with fail
      refine (d4 _ (by (repeat' (first | with_reducible assumption | with_reducible exact Below.refl _ _ | with_reducible refine Below.alloc ?_ ?_ _ | with_reducible refine Below.setCell ?_ ?_ _ | with_reducible refine Below.drew ?_ | omega | (simp; done) | (simp; omega))))).mono ?_
      rintro e w2 ⟨rfl, b2⟩
      have hb2 : Below w.heap.size w w2 := (show Below w.heap.size w _ from (by (repeat' (first | with_reducible assumption | with_reducible exact Below.refl _ _ | with_reducible refine Below.alloc ?_ ?_ _ | with_reducible refine Below.setCell ?_ ?_ _ | with_reducible refine Below.drew ?_ | omega | (simp; done) | (simp; omega))))).trans (b2.mono (by first | omega | (simp; omega)))
      have hz2 := hb2.size
      clear b2
      go_wp2_with fail
      refine (num_any _ _).mono ?_
      rintro e w' ⟨rfl, rfl⟩
      go_wp2_with fail
      refine (hlive _ (by (repeat' (first | with_reducible assumption | with_reducible exact Below.refl _ _ | with_reducible refine Below.alloc ?_ ?_ _ | with_reducible refine Below.setCell ?_ ?_ _ | with_reducible refine Below.drew ?_ | omega | (simp; done) | (simp; omega))))).mono ?_
      rintro e w9 ⟨rfl, b9⟩
      have hb9 : Below w.heap.size w w9 := (show Below w.heap.size w _ from (by (repeat' (first | with_reducible assumption | with_reducible exact Below.refl _ _ | with_reducible refine Below.alloc ?_ ?_ _ | with_reducible refine Below.setCell ?_ ?_ _ | with_reducible refine Below.drew ?_ | omega | (simp; done) | (simp; omega))))).trans (b9.mono (by first | omega | (simp; omega)))
      clear b9
      go_wp2_with fail
      go_ret
      exact ⟨rfl, hb9⟩
    · clear HW
      go_wp2_with fail
      refine (d5 _ (by (repeat' (first | with_reducible assumption | with_reducible exact Below.refl _ _ | with_reducible refine Below.alloc ?_ ?_ _ | with_reducible refine Below.setCell ?_ ?_ _ | with_reducible refine Below.drew ?_ | omega | (simp; done) | (simp; omega))))).mono ?_
      rintro e w2 ⟨rfl, b2⟩
      have hb2 : Below w.heap.size w w2 := (show Below w.heap.size w _ from (by (repeat' (first | with_reducible assumption | with_reducible exact Below.refl _ _ | with_reducible refine Below.alloc ?_ ?_ _ | with_reducible refine Below.setCell ?_ ?_ _ | with_reducible refine Below.drew ?_ | omega | (simp; done) | (simp; omega))))).trans (b2.mono (by first | omega | (simp; omega)))
      have hz2 := hb2.size
      clear b2
      go_wp2_with fail
      refine (num_any _ _).mono ?_
      rintro e w' ⟨rfl, rfl⟩
      go_wp2_with fail
      refine (hlive _ (by (repeat' (first | with_reducible assumption | with_reducible exact Below.refl _ _ | with_reducible refine Below.alloc ?_ ?_ _ | with_reducible refine Below.setCell ?_ ?_ _ | with_reducible refine Below.drew ?_ | omega | (simp; done) | (simp; omega))))).mono ?_
      rintro e w9 ⟨rfl, b9⟩
      have hb9 : Below w.heap.size w w9 := (show Below w.heap.size w _ from (by (repeat' (first | with_reducible assumption | with_reducible exact Below.refl _ _ | with_reducible refine Below.alloc ?_ ?_ _ | with_reducible refine Below.setCell ?_ ?_ _ | with_reducible refine Below.drew ?_ | omega | (simp; done) | (simp; omega))))).trans (b9.mono (by first | omega | (simp; omega)))
      clear b9
      go_wp2_with fail
      go_ret
      exact ⟨rfl, hb9⟩
    · clear HW
      go_wp2_with fail
      refine (d6 _ (by (repeat' (first | with_reducible assumption | with_reducible exact Below.refl _ _ | with_reducible refine Below.alloc ?_ ?_ _ | with_reducible refine Below.setCell ?_ ?_ _ | with_reducible refine Below.drew ?_ | omega | (simp; done) | (simp; omega))))).mono ?_
      rintro e w2 ⟨rfl, b2⟩
      have hb2 : Below w.heap.size w w2 := (show Below w.heap.size w _ from (by (repeat' (first | with_reducible assumption | with_reducible exact Below.refl _ _ | with_reducible refine Below.alloc ?_ ?_ _ | with_reducible refine Below.setCell ?_ ?_ _ | with_reducible refine Below.drew ?_ | omega | (simp; done) | (simp; omega))))).trans (b2.mono (by first | omega | (simp; omega)))
      have hz2 := hb2.size
      clear b2
      go_wp2_with fail
      refine (num_any _ _).mono ?_
      rintro e w' ⟨rfl, rfl⟩
      go_wp2_with fail
      refine (hlive _ (by (repeat' (first | with_reducible assumption | with_reducible exact Below.refl _ _ | with_reducible refine Below.alloc ?_ ?_ _ | with_reducible refine Below.setCell ?_ ?_ _ | with_reducible refine Below.drew ?_ | omega | (simp; done) | (simp; omega))))).mono ?_
      rintro e w9 ⟨rfl, b9⟩
      have hb9 : Below w.heap.size w w9 := (show Below w.heap.size w _ from (by (repeat' (first | with_reducible assumption | with_reducible exact Below.refl _ _ | with_reducible refine Below.alloc ?_ ?_ _ | with_reducible refine Below.setCell ?_ ?_ _ | with_reducible refine Below.drew ?_ | omega | (simp; done) | (simp; omega))))).trans (b9.mono (by first | omega | (simp; omega)))
      clear b9
      go_wp2_with fail
      go_ret
      exact ⟨rfl, hb9⟩
    · clear HW
      go_wp2_with fail
      refine (d7 _ (by (repeat' (first | with_reducible assumption | with_reducible exact Below.refl _ _ | with_reducible refine Below.alloc ?_ ?_ _ | with_reducible refine Below.setCell ?_ ?_ _ | with_reducible refine Below.drew ?_ | omega | (simp; done) | (simp; omega))))).mono ?_
      rintro e w2 ⟨rfl, b2⟩
      have hb2 : Below w.heap.size w w2 := (show Below w.heap.size w _ from (by (repeat' (first | with_reducible assumption | with_reducible exact Below.refl _ _ | with_reducible refine Below.alloc ?_ ?_ _ | with_reducible refine Below.setCell ?_ ?_ _ | with_reducible refine Below.drew ?_ | omega | (simp; done) | (simp; omega))))).trans (b2.mono (by first | omega | (simp; omega)))
      have hz2 := hb2.size
      clear b2
      go_wp2_with fail
      refine (num_any _ _).mono ?_
      rintro e w' ⟨rfl, rfl⟩
      go_wp2_with fail
      refine (hlive _ (by (repeat' (first | with_reducible assumption | with_reducible exact Below.refl _ _ | with_reducible refine Below.alloc ?_ ?_ _ | with_reducible refine Below.setCell ?_ ?_ _ | with_reducible refine Below.drew ?_ | omega | (simp; done) | (simp; omega))))).mono ?_
      rintro e w9 ⟨rfl, b9⟩
      have hb9 : Below w.heap.size w w9 := (show Below w.heap.size w _ from (by (repeat' (first | with_reducible assumption | with_reducible exact Below.refl _ _ | with_reducible refine Below.alloc ?_ ?_ _ | with_reducible refine Below.setCell ?_ ?_ _ | with_reducible refine Below.drew ?_ | omega | (simp; done) | (simp; omega))))).trans (b9.mono (by first | omega | (simp; omega)))
      clear b9
      go_wp2_with fail
      go_ret
      exact ⟨rfl, hb9⟩
    · clear HW
      obtain ⟨k0, k1, k2, k3, k4, k5, k6, k7⟩ := hn.out
      clear hn
      go_wp2_with fail
      refine (hlive _ (by (repeat' (first | with_reducible assumption | with_reducible exact Below.refl _ _ | with_reducible refine Below.alloc ?_ ?_ _ | with_reducible refine Below.setCell ?_ ?_ _ | with_reducible refine Below.drew ?_ | omega | (simp; done) | (simp; omega))))).mono ?_
      rintro e w9 ⟨rfl, b9⟩
      have hb9 : Below w.heap.size w w9 := (show Below w.heap.size w _ from (by (repeat' (first | with_reducible assumption | with_reducible exact Below.refl _ _ | with_reducible refine Below.alloc ?_ ?_ _ | with_reducible refine Below.setCell ?_ ?_ _ | with_reducible refine Below.drew ?_ | omega | (simp; done) | (simp; omega))))).trans (b9.mono (by first | omega | (simp; omega)))
      clear b9
      go_wp2_with fail
      go_ret
      exact ⟨rfl, hb9⟩
  · have e1 : (seqB c && seqB s) = false := by unfold seqB amongB; rw [← Bool.not_eq_true]; simp only [Bool.and_eq_true, decide_eq_true_eq]; omega
    have f1 : (c ≥ 1) = True := eq_true (by omega)
    have f2 : (c ≤ 1099511627776) = True := eq_true hy
    have f3 : (s ≥ 1) = True := eq_true (by omega)
    have f4 : (s ≤ 1099511627776) = False := eq_false hv
    clear hx hy hz hv
    rw [e1] at ck
    simp only [Bool.false_eq_true, if_false] at ck
    clear e1
    go_enter Tryd.func9, Tryd.ntmps9
    go_wp2_with fail
    refine (ck _ (by (repeat' (first | with_reducible assumption | with_reducible exact Below.refl _ _ | with_reducible refine Below.alloc ?_ ?_ _ | with_reducible refine Below.setCell ?_ ?_ _ | with_reducible refine Below.drew ?_ | omega | (simp; done) | (simp; omega))))).mono ?_
    rintro e w1 ⟨rfl, b1⟩
    have B1 := (BoxA.new w ⟨12, c, s, ⟨#[107]⟩, E0, E0, E0, false, 0, 0, 0⟩).keep b1
    have hb1 : Below w.heap.size w w1 := (show Below w.heap.size w _ from (by (repeat' (first | with_reducible assumption | with_reducible exact Below.refl _ _ | with_reducible refine Below.alloc ?_ ?_ _ | with_reducible refine Below.setCell ?_ ?_ _ | with_reducible refine Below.drew ?_ | omega | (simp; done) | (simp; omega))))).trans (b1.mono (by simp))
    have hz1 := hb1.size
    have hs1 := B1.1
    clear b1 ck
    obtain ⟨p_0, ⟨p_1, p_2, p_3, p_4, p_5, p_6, p_7, p_8, p_9, p_10, p_11⟩, p_12⟩ := _root_.id B1
    go_wp2_with fail
    refine (num_any _ _).mono ?_
    rintro e w' ⟨rfl, rfl⟩
    rcases HW.out with rfl | rfl | rfl | rfl | rfl | rfl | rfl | rfl | hn
    · clear HW
      go_wp2_with fail
      refine (hlive _ (by (repeat' (first | with_reducible assumption | with_reducible exact Below.refl _ _ | with_reducible refine Below.alloc ?_ ?_ _ | with_reducible refine Below.setCell ?_ ?_ _ | with_reducible refine Below.drew ?_ | omega | (simp; done) | (simp; omega))))).mono ?_
      rintro e w9 ⟨rfl, b9⟩
      have hb9 : Below w.heap.size w w9 := (show Below w.heap.size w _ from (by (repeat' (first | with_reducible assumption | with_reducible exact Below.refl _ _ | with_reducible refine Below.alloc ?_ ?_ _ | with_reducible refine Below.setCell ?_ ?_ _ | with_reducible refine Below.drew ?_ | omega | (simp; done) | (simp; omega))))).trans (b9.mono (by first | omega | (simp; omega)))
      clear b9
      go_wp2_with fail
      go_ret
      exact ⟨rfl, hb9⟩
    · clear HW
      go_wp2_with fail
      refine (d1 _ (by (repeat' (first | with_reducible assumption | with_reducible exact Below.refl _ _ | with_reducible refine Below.alloc ?_ ?_ _ | with_reducible refine Below.setCell ?_ ?_ _ | with_reducible refine Below.drew ?_ | omega | (simp; done) | (simp; omega))))).mono ?_
      rintro e w2 ⟨rfl, b2⟩
      have hb2 : Below w.heap.size w w2 := (show Below w.heap.size w _ from (by (repeat' (first | with_reducible assumption | with_reducible exact Below.refl _ _ | with_reducible refine Below.alloc ?_ ?_ _ | with_reducible refine Below.setCell ?_ ?_ _ | with_reducible refine Below.drew ?_ | omega | (simp; done) | (simp; omega))))).trans (b2.mono (by first | omega | (simp; omega)))
      have hz2 := hb2.size
      clear b2
      go_wp2_with fail
      refine (num_any _ _).mono ?_
      rintro e w' ⟨rfl, rfl⟩
      go_wp2_with fail
      refine (hlive _ (by (repeat' (first | with_reducible assumption | with_reducible exact Below.refl _ _ | with_reducible refine Below.alloc ?_ ?_ _ | with_reducible refine Below.setCell ?_ ?_ _ | with_reducible refine Below.drew ?_ | omega | (simp; done) | (simp; omega))))).mono ?_
      rintro e w9 ⟨rfl, b9⟩
      have hb9 : Below w.heap.size w w9 := (show Below w.heap.size w _ from (by (repeat' (first | with_reducible assumption | with_reducible exact Below.refl _ _ | with_reducible refine Below.alloc ?_ ?_ _ | with_reducible refine Below.setCell ?_ ?_ _ | with_reducible refine Below.drew ?_ | omega | (simp; done) | (simp; omega))))).trans (b9.mono (by first | omega | (simp; omega)))
      clear b9
      go_wp2_with fail
      go_ret
      exact ⟨rfl, hb9⟩
    · clear HW
      go_wp2_with fail
      refine (d2 _ (by (repeat' (first | with_reducible assumption | with_reducible exact Below.refl _ _ | with_reducible refine Below.alloc ?_ ?_ _ | with_reducible refine Below.setCell ?_ ?_ _ | with_reducible refine Below.drew ?_ | omega | (simp; done) | (simp; omega))))).mono ?_
      rintro e w2 ⟨rfl, b2⟩
      have hb2 : Below w.heap.size w w2 := (show Below w.heap.size w _ from (by (repeat' (first | with_reducible assumption | with_reducible exact Below.refl _ _ | with_reducible refine Below.alloc ?_ ?_ _ | with_reducible refine Below.setCell ?_ ?_ _ | with_reducible refine Below.drew ?_ | omega | (simp; done) | (simp; omega))))).trans (b2.mono (by first | omega | (simp; omega)))
      have hz2 := hb2.size
      clear b2
      go_wp2_with fail
      refine (num_any _ _).mono ?_
      rintro e w' ⟨rfl, rfl⟩
      go_wp2_with fail
      refine (hlive _ (by (repeat' (first | with_reducible assumption | with_reducible exact Below.refl _ _ | with_reducible refine Below.alloc ?_ ?_ _ | with_reducible refine Below.setCell ?_ ?_ _ | with_reducible refine Below.drew ?_ | omega | (simp; done) | (simp; omega))))).mono ?_
      rintro e w9 ⟨rfl, b9⟩
      have hb9 : Below w.heap.size w w9 := (show Below w.heap.size w _ from (by (repeat' (first | with_reducible assumption | with_reducible exact Below.refl _ _ | with_reducible refine Below.alloc ?_ ?_ _ | with_reducible refine Below.setCell ?_ ?_ _ | with_reducible refine Below.drew ?_ | omega | (simp; done) | (simp; omega))))).trans (b9.mono (by first | omega | (simp; omega)))
      clear b9
      go_wp2_with fail
      go_ret
      exact ⟨rfl, hb9⟩
    · clear HW
      go_wp2_with fail
      refine (d3 _ (by (repeat' (first | with_reducible assumption | with_reducible exact Below.refl _ _ | with_reducible refine Below.alloc ?_ ?_ _ | with_reducible refine Below.setCell ?_ ?_ _ | with_reducible refine Below.drew ?_ | omega | (simp; done) | (simp; omega))))).mono ?_
      rintro e w2 ⟨rfl, b2⟩
      have hb2 : Below w.heap.size w w2 := (show Below w.heap.size w _ from (by (repeat' (first | with_reducible assumption | with_reducible exact Below.refl _ _ | with_reducible refine Below.alloc ?_ ?_ _ | with_reducible refine Below.setCell ?_ ?_ _ | with_reducible refine Below.drew ?_ | omega | (simp; done) | (simp; omega))))).trans (b2.mono (by first | omega | (simp; omega)))
      have hz2 := hb2.size
      clear b2
      go_wp2_with fail
      refine (num_any _ _).mono ?_
      rintro e w' ⟨rfl, rfl⟩
      go_wp2_with fail
      refine (hlive _ (by (repeat' (first | with_reducible assumption | with_reducible exact Below.refl _ _ | with_reducible refine Below.alloc ?_ ?_ _ | with_reducible refine Below.setCell ?_ ?_ _ | with_reducible refine Below.drew ?_ | omega | (simp; done) | (simp; omega))))).mono ?_
      rintro e w9 ⟨rfl, b9⟩
      have hb9 : Below w.heap.size w w9 := (show Below w.heap.size w _ from (by (repeat' (first | with_reducible assumption | with_reducible exact Below.refl _ _ | with_reducible refine Below.alloc ?_ ?_ _ | with_reducible refine Below.setCell ?_ ?_ _ | with_reducible refine Below.drew ?_ | omega | (simp; done) | (simp; omega))))).trans (b9.mono (by first | omega | (simp; omega)))
      clear b9
      go_wp2_with fail
      go_ret
      exact ⟨rfl, hb9⟩
    · clear HW
      go_wp2_with fail
      refine (d4 _ (by (repeat' (first | with_reducible assumption | with_reducible exact Below.refl _ _ | with_reducible refine Below.alloc ?_ ?_ _ | with_reducible refine Below.setCell ?_ ?_ _ | with_reducible refine Below.drew ?_ | omega | (simp; done) | (simp; omega))))).mono ?_
      rintro e w2 ⟨rfl, b2⟩
      have hb2 : Below w.heap.size w w2 := (show Below w.heap.size w _ from (by (repeat' (first | with_reducible assumption | with_reducible exact Below.refl _ _ | with_reducible refine Below.alloc ?_ ?_ _ | with_reducible refine Below.setCell ?_ ?_ _ | with_reducible refine Below.drew ?_ | omega | (simp; done) | (simp; omega))))).trans (b2.mono (by first | omega | (simp; omega)))
      have hz2 := hb2.size
      clear b2
      go_wp2_with fail
      refine (num_any _ _).mono ?_
      rintro e w' ⟨rfl, rfl⟩
      go_wp2_with fail
      refine (hlive _ (by (repeat' (first | with_reducible assumption | with_reducible exact Below.refl _ _ | with_reducible refine Below.alloc ?_ ?_ _ | with_reducible refine Below.setCell ?_ ?_ _ | with_reducible refine Below.drew ?_ | omega | (simp; done) | (simp; omega))))).mono ?_
      rintro e w9 ⟨rfl, b9⟩
      have hb9 : Below w.heap.size w w9 := (show Below w.heap.size w _ from (by (repeat' (first | with_reducible assumption | with_reducible exact Below.refl _ _ | with_reducible refine Below.alloc ?_ ?_ _ | with_reducible refine Below.setCell ?_ ?_ _ | with_reducible refine Below.drew ?_ | omega | (simp; done) | (simp; omega))))).trans (b9.mono (by first | omega | (simp; omega)))
      clear b9
      go_wp2_with fail
      go_ret
      exact ⟨rfl, hb9⟩
    · clear HW
      go_wp2_with fail
      refine (d5 _ (by (repeat' (first | with_reducible assumption | with_reducible exact Below.refl _ _ | with_reducible refine Below.alloc ?_ ?_ _ | with_reducible refine Below.setCell ?_ ?_ _ | with_reducible refine Below.drew ?_ | omega | (simp; done) | (simp; omega))))).mono ?_
      rintro e w2 ⟨rfl, b2⟩
      have hb2 : Below w.heap.size w w2 := (show Below w.heap.size w _ from (by (repeat' (first | with_reducible assumption | with_reducible exact Below.refl _ _ | with_reducible refine Below.alloc ?_ ?_ _ | with_reducible refine Below.setCell ?_ ?_ _ | with_reducible refine Below.drew ?_ | omega | (simp; done) | (simp; omega))))).trans (b2.mono (by first | omega | (simp; omega)))
      have hz2 := hb2.size
      clear b2
      go_wp2_with fail
      refine (num_any _ _).mono ?_
      rintro e w' ⟨rfl, rfl⟩
      go_wp2_with fail
      refine (hlive _ (by (repeat' (first | with_reducible assumption | with_reducible exact Below.refl _ _ | with_reducible refine Below.alloc ?_ ?_ _ | with_reducible refine Below.setCell ?_ ?_ _ | with_reducible refine Below.drew ?_ | omega | (simp; done) | (simp; omega))))).mono ?_
      rintro e w9 ⟨rfl, b9⟩
      have hb9 : Below w.heap.size w w9 := (show Below w.heap.size w _ from (by (repeat' (first | with_reducible assumption | with_reducible exact Below.refl _ _ | with_reducible refine Below.alloc ?_ ?_ _ | with_reducible refine Below.setCell ?_ ?_ _ | with_reducible refine Below.drew ?_ | omega | (simp; done) | (simp; omega))))).trans (b9.mono (by first | omega | (simp; omega)))
      clear b9
      go_wp2_with fail
      go_ret
      exact ⟨rfl, hb9⟩
    · clear HW
      go_wp2_with fail
      refine (d6 _ (by (repeat' (first | with_reducible assumption | with_reducible exact Below.refl _ _ | with_reducible refine Below.alloc ?_ ?_ _ | with_reducible refine Below.setCell ?_ ?_ _ | with_reducible refine Below.drew ?_ | omega | (simp; done) | (simp; omega))))).mono ?_
      rintro e w2 ⟨rfl, b2⟩
      have hb2 : Below w.heap.size w w2 := (show Below w.heap.size w _ from (by (repeat' (first | with_reducible assumption | with_reducible exact Below.refl _ _ | with_reducible refine Below.alloc ?_ ?_ _ | with_reducible refine Below.setCell ?_ ?_ _ | with_reducible refine Below.drew ?_ | omega | (simp; done) | (simp; omega))))).trans (b2.mono (by first | omega | (simp; omega)))
      have hz2 := hb2.size
      clear b2
      go_wp2_with fail
      refine (num_any _ _).mono ?_
      rintro e w' ⟨rfl, rfl⟩
      go_wp2_with fail
      refine (hlive _ (by (repeat' (first | with_reducible assumption | with_reducible exact Below.refl _ _ | with_reducible refine Below.alloc ?_ ?_ _ | with_reducible refine Below.setCell ?_ ?_ _ | with_reducible refine Below.drew ?_ | omega | (simp; done) | (simp; omega))))).mono ?_
      rintro e w9 ⟨rfl, b9⟩
      have hb9 : Below w.heap.size w w9 := (show Below w.heap.size w _ from (by (repeat' (first | with_reducible assumption | with_reducible exact Below.refl _ _ | with_reducible refine Below.alloc ?_ ?_ _ | with_reducible refine Below.setCell ?_ ?_ _ | with_reducible refine Below.drew ?_ | omega | (simp; done) | (simp; omega))))).trans (b9.mono (by first | omega | (simp; omega)))
      clear b9
      go_wp2_with fail
      go_ret
      exact ⟨rfl, hb9⟩
    · clear HW
      go_wp2_with fail
      refine (d7 _ (by (repeat' (first | with_reducible assumption | with_reducible exact Below.refl _ _ | with_reducible refine Below.alloc ?_ ?_ _ | with_reducible refine Below.setCell ?_ ?_ _ | with_reducible refine Below.drew ?_ | omega | (simp; done) | (simp; omega))))).mono ?_
      rintro e w2 ⟨rfl, b2⟩
      have hb2 : Below w.heap.size w w2 := (show Below w.heap.size w _ from (by (repeat' (first | with_reducible assumption | with_reducible exact Below.refl _ _ | with_reducible refine Below.alloc ?_ ?_ _ | with_reducible refine Below.setCell ?_ ?_ _ | with_reducible refine Below.drew ?_ | omega | (simp; done) | (simp; omega))))).trans (b2.mono (by first | omega | (simp; omega)))
      have hz2 := hb2.size
      clear b2
      go_wp2_with fail
      refine (num_any _ _).mono ?_
      rintro e w' ⟨rfl, rfl⟩
      go_wp2_with fail
      refine (hlive _ (by (repeat' (first | with_reducible assumption | with_reducible exact Below.refl _ _ | with_reducible refine Below.alloc ?_ ?_ _ | with_reducible refine Below.setCell ?_ ?_ _ | with_reducible refine Below.drew ?_ | omega | (simp; done) | (simp; omega))))).mono ?_
      rintro e w9 ⟨rfl, b9⟩
      have hb9 : Below w.heap.size w w9 := (show Below w.heap.size w _ from (by (repeat' (first | with_reducible assumption | with_reducible exact Below.refl _ _ | with_reducible refine Below.alloc ?_ ?_ _ | with_reducible refine Below.setCell ?_ ?_ _ | with_reducible refine Below.drew ?_ | omega | (simp; done) | (simp; omega))))).trans (b9.mono (by first | omega | (simp; omega)))
      clear b9
      go_wp2_with fail
      go_ret
      exact ⟨rfl, hb9⟩
    · clear HW
      obtain ⟨k0, k1, k2, k3, k4, k5, k6, k7⟩ := hn.out
      clear hn
      go_wp2_with fail
      refine (hlive _ (by (repeat' (first | with_reducible assumption | with_reducible exact Below.refl _ _ | with_reducible refine Below.alloc ?_ ?_ _ | with_reducible refine Below.setCell ?_ ?_ _ | with_reducible refine Below.drew ?_ | omega | (simp; done) | (simp; omega))))).mono ?_
      rintro e w9 ⟨rfl, b9⟩
      have hb9 : Below w.heap.size w w9 := (show Below w.heap.size w _ from (by (repeat' (first | with_reducible assumption | with_reducible exact Below.refl _ _ | with_reducible refine Below.alloc ?_ ?_ _ | with_reducible refine Below.setCell ?_ ?_ _ | with_reducible refine Below.drew ?_ | omega | (simp; done) | (simp; omega))))).trans (b9.mono (by first | omega | (simp; omega)))
      clear b9
      go_wp2_with fail
      go_ret
      exact ⟨rfl, hb9⟩
  · have e1 : (seqB c && seqB s) = true := by unfold seqB amongB; simp only [Bool.and_eq_true, decide_eq_true_eq]; omega
    have f1 : (c ≥ 1) = True := eq_true (by omega)
    have f2 : (c ≤ 1099511627776) = True := eq_true hy
    have f3 : (s ≥ 1) = True := eq_true (by omega)
    have f4 : (s ≤ 1099511627776) = True := eq_true hv
    clear hx hy hz hv
    rw [e1] at ck
    simp only [if_true] at ck
    clear e1
    go_enter Tryd.func9, Tryd.ntmps9
    go_wp2_with fail
    refine (ck _ (by (repeat' (first | with_reducible assumption | with_reducible exact Below.refl _ _ | with_reducible refine Below.alloc ?_ ?_ _ | with_reducible refine Below.setCell ?_ ?_ _ | with_reducible refine Below.drew ?_ | omega | (simp; done) | (simp; omega))))).mono ?_
    rintro e w1 ⟨rfl, b1⟩
    have B1 := (BoxA.new w ⟨12, c, s, ⟨#[107]⟩, E0, E0, E0, false, 0, 0, 0⟩).keep b1
    have hb1 : Below w.heap.size w w1 := (show Below w.heap.size w _ from (by (repeat' (first | with_reducible assumption | with_reducible exact Below.refl _ _ | with_reducible refine Below.alloc ?_ ?_ _ | with_reducible refine Below.setCell ?_ ?_ _ | with_reducible refine Below.drew ?_ | omega | (simp; done) | (simp; omega))))).trans (b1.mono (by simp))
    have hz1 := hb1.size
    have hs1 := B1.1
    clear b1 ck
    obtain ⟨p_0, ⟨p_1, p_2, p_3, p_4, p_5, p_6, p_7, p_8, p_9, p_10, p_11⟩, p_12⟩ := _root_.id B1
    go_wp2_with fail
    refine (num_any _ _).mono ?_
    rintro e w' ⟨rfl, rfl⟩
    rcases HW.out with rfl | rfl | rfl | rfl | rfl | rfl | rfl | rfl | hn
    · clear HW
      go_wp2_with fail
      refine (hlive _ (by (repeat' (first | with_reducible assumption | with_reducible exact Below.refl _ _ | with_reducible refine Below.alloc ?_ ?_ _ | with_reducible refine Below.setCell ?_ ?_ _ | with_reducible refine Below.drew ?_ | omega | (simp; done) | (simp; omega))))).mono ?_
      rintro e w9 ⟨rfl, b9⟩
      have hb9 : Below w.heap.size w w9 := (show Below w.heap.size w _ from (by (repeat' (first | with_reducible assumption | with_reducible exact Below.refl _ _ | with_reducible refine Below.alloc ?_ ?_ _ | with_reducible refine Below.setCell ?_ ?_ _ | with_reducible refine Below.drew ?_ | omega | (simp; done) | (simp; omega))))).trans (b9.mono (by first | omega | (simp; omega)))
      clear b9
      go_wp2_with fail
      go_ret
      exact ⟨rfl, hb9⟩
    · clear HW
      go_wp2_with fail
      refine (d1 _ (by (repeat' (first | with_reducible assumption | with_reducible exact Below.refl _ _ | with_reducible refine Below.alloc ?_ ?_ _ | with_reducible refine Below.setCell ?_ ?_ _ | with_reducible refine Below.drew ?_ | omega | (simp; done) | (simp; omega))))).mono ?_
      rintro e w2 ⟨rfl, b2⟩
      have hb2 : Below w.heap.size w w2 := (show Below w.heap.size w _ from (by (repeat' (first | with_reducible assumption | with_reducible exact Below.refl _ _ | with_reducible refine Below.alloc ?_ ?_ _ | with_reducible refine Below.setCell ?_ ?_ _ | with_reducible refine Below.drew ?_ | omega | (simp; done) | (simp; omega))))).trans (b2.mono (by first | omega | (simp; omega)))
      have hz2 := hb2.size
      clear b2
      go_wp2_with fail
      refine (num_any _ _).mono ?_
      rintro e w' ⟨rfl, rfl⟩
      go_wp2_with fail
      refine (hlive _ (by (repeat' (first | with_reducible assumption | with_reducible exact Below.refl _ _ | with_reducible refine Below.alloc ?_ ?_ _ | with_reducible refine Below.setCell ?_ ?_ _ | with_reducible refine Below.drew ?_ | omega | (simp; done) | (simp; omega))))).mono ?_
      rintro e w9 ⟨rfl, b9⟩
      have hb9 : Below w.heap.size w w9 := (show Below w.heap.size w _ from (by (repeat' (first | with_reducible assumption | with_reducible exact Below.refl _ _ | with_reducible refine Below.alloc ?_ ?_ _ | with_reducible refine Below.setCell ?_ ?_ _ | with_reducible refine Below.drew ?_ | omega | (simp; done) | (simp; omega))))).trans (b9.mono (by first | omega | (simp; omega)))
      clear b9
      go_wp2_with fail
      go_ret
      exact ⟨rfl, hb9⟩
    · clear HW
      go_wp2_with fail
      refine (d2 _ (by (repeat' (first | with_reducible assumption | with_reducible exact Below.refl _ _ | with_reducible refine Below.alloc ?_ ?_ _ | with_reducible refine Below.setCell ?_ ?_ _ | with_reducible refine Below.drew ?_ | omega | (simp; done) | (simp; omega))))).mono ?_
      rintro e w2 ⟨rfl, b2⟩
      have hb2 : Below w.heap.size w w2 := (show Below w.heap.size w _ from (by (repeat' (first | with_reducible assumption | with_reducible exact Below.refl _ _ | with_reducible refine Below.alloc ?_ ?_ _ | with_reducible refine Below.setCell ?_ ?_ _ | with_reducible refine Below.drew ?_ | omega | (simp; done) | (simp; omega))))).trans (b2.mono (by first | omega | (simp; omega)))
      have hz2 := hb2.size
      clear b2
      go_wp2_with fail
      refine (num_any _ _).mono ?_
      rintro e w' ⟨rfl, rfl⟩
      go_wp2_with fail
      refine (hlive _ (by (repeat' (first | with_reducible assumption | with_reducible exact Below.refl _ _ | with_reducible refine Below.alloc ?_ ?_ _ | with_reducible refine Below.setCell ?_ ?_ _ | with_reducible refine Below.drew ?_ | omega | (simp; done) | (simp; omega))))).mono ?_
      rintro e w9 ⟨rfl, b9⟩
      have hb9 : Below w.heap.size w w9 := (show Below w.heap.size w _ from (by (repeat' (first | with_reducible assumption | with_reducible exact Below.refl _ _ | with_reducible refine Below.alloc ?_ ?_ _ | with_reducible refine Below.setCell ?_ ?_ _ | with_reducible refine Below.drew ?_ | omega | (simp; done) | (simp; omega))))).trans (b9.mono (by first | omega | (simp; omega)))
      clear b9
      go_wp2_with fail
      go_ret
      exact ⟨rfl, hb9⟩
    · clear HW
      go_wp2_with fail
      refine (d3 _ (by (repeat' (first | with_reducible assumption | with_reducible exact Below.refl _ _ | with_reducible refine Below.alloc ?_ ?_ _ | with_reducible refine Below.setCell ?_ ?_ _ | with_reducible refine Below.drew ?_ | omega | (simp; done) | (simp; omega))))).mono ?_
      rintro e w2 ⟨rfl, b2⟩
      have hb2 : Below w.heap.size w w2 := (show Below w.heap.size w _ from (by (repeat' (first | with_reducible assumption | with_reducible exact Below.refl _ _ | with_reducible refine Below.alloc ?_ ?_ _ | with_reducible refine Below.setCell ?_ ?_ _ | with_reducible refine Below.drew ?_ | omega | (simp; done) | (simp; omega))))).trans (b2.mono (by first | omega | (simp; omega)))
      have hz2 := hb2.size
      clear b2
      go_wp2_with fail
      refine (num_any _ _).mono ?_
      rintro e w' ⟨rfl, rfl⟩
      go_wp2_with fail
      refine (hlive _ (by (repeat' (first | with_reducible assumption | with_reducible exact Below.refl _ _ | with_reducible refine Below.alloc ?_ ?_ _ | with_reducible refine Below.setCell ?_ ?_ _ | with_reducible refine Below.drew ?_ | omega | (simp; done) | (simp; omega))))).mono ?_
      rintro e w9 ⟨rfl, b9⟩
      have hb9 : Below w.heap.size w w9 := (show Below w.heap.size w _ from (by (repeat' (first | with_reducible assumption | with_reducible exact Below.refl _ _ | with_reducible refine Below.alloc ?_ ?_ _ | with_reducible refine Below.setCell ?_ ?_ _ | with_reducible refine Below.drew ?_ | omega | (simp; done) | (simp; omega))))).trans (b9.mono (by first | omega | (simp; omega)))
      clear b9
      go_wp2_with fail
      go_ret
      exact ⟨rfl, hb9⟩
    · clear HW
      go_wp2_with fail
      refine (d4 _ (by (repeat' (first | with_reducible assumption | with_reducible exact Below.refl _ _ | with_reducible refine Below.alloc ?_ ?_ _ | with_reducible refine Below.setCell ?_ ?_ _ | with_reducible refine Below.drew ?_ | omega | (simp; done) | (simp; omega))))).mono ?_
      rintro e w2 ⟨rfl, b2⟩
      have hb2 : Below w.heap.size w w2 := (show Below w.heap.size w _ from (by (repeat' (first | with_reducible assumption | with_reducible exact Below.refl _ _ | with_reducible refine Below.alloc ?_ ?_ _ | with_reducible refine Below.setCell ?_ ?_ _ | with_reducible refine Below.drew ?_ | omega | (simp; done) | (simp; omega))))).trans (b2.mono (by first | omega | (simp; omega)))
      have hz2 := hb2.size
      clear b2
      go_wp2_with fail
      refine (num_any _ _).mono ?_
      rintro e w' ⟨rfl, rfl⟩
      go_wp2_with fail
      refine (hlive _ (by (repeat' (first | with_reducible assumption | with_reducible exact Below.refl _ _ | with_reducible refine Below.alloc ?_ ?_ _ | with_reducible refine Below.setCell ?_ ?_ _ | with_reducible refine Below.drew ?_ | omega | (simp; done) | (simp; omega))))).mono ?_
      rintro e w9 ⟨rfl, b9⟩
      have hb9 : Below w.heap.size w w9 := (show Below w.heap.size w _ from (by (repeat' (first | with_reducible assumption | with_reducible exact Below.refl _ _ | with_reducible refine Below.alloc ?_ ?_ _ | with_reducible refine Below.setCell ?_ ?_ _ | with_reducible refine Below.drew ?_ | omega | (simp; done) | (simp; omega))))).trans (b9.mono (by first | omega | (simp; omega)))
      clear b9
      go_wp2_with fail
      go_ret
      exact ⟨rfl, hb9⟩
    · clear HW
      go_wp2_with fail
      refine (d5 _ (by (repeat' (first | with_reducible assumption | with_reducible exact Below.refl _ _ | with_reducible refine Below.alloc ?_ ?_ _ | with_reducible refine Below.setCell ?_ ?_ _ | with_reducible refine Below.drew ?_ | omega | (simp; done) | (simp; omega))))).mono ?_
      rintro e w2 ⟨rfl, b2⟩
      have hb2 : Below w.heap.size w w2 := (show Below w.heap.size w _ from (by (repeat' (first | with_reducible assumption | with_reducible exact Below.refl _ _ | with_reducible refine Below.alloc ?_ ?_ _ | with_reducible refine Below.setCell ?_ ?_ _ | with_reducible refine Below.drew ?_ | omega | (simp; done) | (simp; omega))))).trans (b2.mono (by first | omega | (simp; omega)))
      have hz2 := hb2.size
      clear b2
      go_wp2_with fail
      refine (num_any _ _).mono ?_
      rintro e w' ⟨rfl, rfl⟩
      go_wp2_with fail
      refine (hlive _ (by (repeat' (first | with_reducible assumption | with_reducible exact Below.refl _ _ | with_reducible refine Below.alloc ?_ ?_ _ | with_reducible refine Below.setCell ?_ ?_ _ | with_reducible refine Below.drew ?_ | omega | (simp; done) | (simp; omega))))).mono ?_
      rintro e w9 ⟨rfl, b9⟩
      have hb9 : Below w.heap.size w w9 := (show Below w.heap.size w _ from (by (repeat' (first | with_reducible assumption | with_reducible exact Below.refl _ _ | with_reducible refine Below.alloc ?_ ?_ _ | with_reducible refine Below.setCell ?_ ?_ _ | with_reducible refine Below.drew ?_ | omega | (simp; done) | (simp; omega))))).trans (b9.mono (by first | omega | (simp; omega)))
      clear b9
      go_wp2_with fail
      go_ret
      exact ⟨rfl, hb9⟩
    · clear HW
      go_wp2_with fail
      refine (d6 _ (by (repeat' (first | with_reducible assumption | with_reducible exact Below.refl _ _ | with_reducible refine Below.alloc ?_ ?_ _ | with_reducible refine Below.setCell ?_ ?_ _ | with_reducible refine Below.drew ?_ | omega | (simp; done) | (simp; omega))))).mono ?_
      rintro e w2 ⟨rfl, b2⟩
      have hb2 : Below w.heap.size w w2 := (show Below w.heap.size w _ from (by (repeat' (first | with_reducible assumption | with_reducible exact Below.refl _ _ | with_reducible refine Below.alloc ?_ ?_ _ | with_reducible refine Below.setCell ?_ ?_ _ | with_reducible refine Below.drew ?_ | omega | (simp; done) | (simp; omega))))).trans (b2.mono (by first | omega | (simp; omega)))
      have hz2 := hb2.size
      clear b2
      go_wp2_with fail
      refine (num_any _ _).mono ?_
      rintro e w' ⟨rfl, rfl⟩
      go_wp2_with fail
      refine (hlive _ (by (repeat' (first | with_reducible assumption | with_reducible exact Below.refl _ _ | with_reducible refine Below.alloc ?_ ?_ _ | with_reducible refine Below.setCell ?_ ?_ _ | with_reducible refine Below.drew ?_ | omega | (simp; done) | (simp; omega))))).mono ?_
      rintro e w9 ⟨rfl, b9⟩
      have hb9 : Below w.heap.size w w9 := (show Below w.heap.size w _ from (by (repeat' (first | with_reducible assumption | with_reducible exact Below.refl _ _ | with_reducible refine Below.alloc ?_ ?_ _ | with_reducible refine Below.setCell ?_ ?_ _ | with_reducible refine Below.drew ?_ | omega | (simp; done) | (simp; omega))))).trans (b9.mono (by first | omega | (simp; omega)))
      clear b9
      go_wp2_with fail
      go_ret
      exact ⟨rfl, hb9⟩
    · clear HW
      go_wp2_with fail
      refine (d7 _ (by (repeat' (first | with_reducible assumption | with_reducible exact Below.refl _ _ | with_reducible refine Below.alloc ?_ ?_ _ | with_reducible refine Below.setCell ?_ ?_ _ | with_reducible refine Below.drew ?_ | omega | (simp; done) | (simp; omega))))).mono ?_
      rintro e w2 ⟨rfl, b2⟩
      have hb2 : Below w.heap.size w w2 := (show Below w.heap.size w _ from (by (repeat' (first | with_reducible assumption | with_reducible exact Below.refl _ _ | with_reducible refine Below.alloc ?_ ?_ _ | with_reducible refine Below.setCell ?_ ?_ _ | with_reducible refine Below.drew ?_ | omega | (simp; done) | (simp; omega))))).trans (b2.mono (by first | omega | (simp; omega)))
      have hz2 := hb2.size
      clear b2
      go_wp2_with fail
      refine (num_any _ _).mono ?_
      rintro e w' ⟨rfl, rfl⟩
      go_wp2_with fail
      refine (hlive _ (by (repeat' (first | with_reducible assumption | with_reducible exact Below.refl _ _ | with_reducible refine Below.alloc ?_ ?_ _ | with_reducible refine Below.setCell ?_ ?_ _ | with_reducible refine Below.drew ?_ | omega | (simp; done) | (simp; omega))))).mono ?_
      rintro e w9 ⟨rfl, b9⟩
      have hb9 : Below w.heap.size w w9 := (show Below w.heap.size w _ from (by (repeat' (first | with_reducible assumption | with_reducible exact Below.refl _ _ | with_reducible refine Below.alloc ?_ ?_ _ | with_reducible refine Below.setCell ?_ ?_ _ | with_reducible refine Below.drew ?_ | omega | (simp; done) | (simp; omega))))).trans (b9.mono (by first | omega | (simp; omega)))
      clear b9
      go_wp2_with fail
      go_ret
      exact ⟨rfl, hb9⟩
    · clear HW
      obtain ⟨k0, k1, k2, k3, k4, k5, k6, k7⟩ := hn.out
      clear hn
      go_wp2_with fail
      refine (hlive _ (by (repeat' (first | with_reducible assumption | with_reducible exact Below.refl _ _ | with_reducible refine Below.alloc ?_ ?_ _ | with_reducible refine Below.setCell ?_ ?_ _ | with_reducible refine Below.drew ?_ | omega | (simp; done) | (simp; omega))))).mono ?_
      rintro e w9 ⟨rfl, b9⟩
      have hb9 : Below w.heap.size w w9 := (show Below w.heap.size w _ from (by (repeat' (first | with_reducible assumption | with_reducible exact Below.refl _ _ | with_reducible refine Below.alloc ?_ ?_ _ | with_reducible refine Below.setCell ?_ ?_ _ | with_reducible refine Below.drew ?_ | omega | (simp; done) | (simp; omega))))).trans (b9.mono (by first | omega | (simp; omega)))
      clear b9
      go_wp2_with fail
      go_ret
      exact ⟨rfl, hb9⟩
end Go.Proofs.YtlmecfnoipnccaaDoor.Od
