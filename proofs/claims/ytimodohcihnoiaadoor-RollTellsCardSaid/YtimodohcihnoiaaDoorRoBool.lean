/-
  Whether a roll may be: the program's isIndex, isTerm, Check; the document's Is. Condition: at most 2^47 entries.
-/
import Derived.Test.YtimodohcihnoiaaDoorRoRows
namespace Go.Proofs.YtimodohcihnoiaaDoor.Ro
open Go.RowKit

theorem ret_b {a b : Bool} (h : a = b) : Ending.returned (.bool a) = .returned (.bool b) := by rw [h]
theorem isIndex_any (n : Int) (w : World) : Calls Tryd.prog 40 #[.int .i64 n] w fun e w' => e = .returned (.bool (isIx n)) ∧ w = w' := by
  by_cases h1 : 0 ≤ n
  · have g1 : ((0 : Int) ≤ n) = True := eq_true h1
    go_enter Tryd.func40, Tryd.ntmps40
    go_wp2_with fail
    go_ret
    exact ⟨ret_b (by unfold isIx; simp [h1]), rfl⟩
  · have g1 : ((0 : Int) ≤ n) = False := eq_false h1
    rw [show isIx n = false by unfold isIx; simp [h1]]
    go_enter Tryd.func40, Tryd.ntmps40
    go_wp2_with fail
    go_ret
    exact ⟨rfl, rfl⟩
theorem isTerm_any (n : Int) (w : World) : Calls Tryd.prog 41 #[.int .i64 n] w fun e w' => e = .returned (.bool (isIx n)) ∧ w = w' := by
  by_cases h1 : 0 ≤ n
  · have g1 : ((0 : Int) ≤ n) = True := eq_true h1
    go_enter Tryd.func41, Tryd.ntmps41
    go_wp2_with fail
    go_ret
    exact ⟨ret_b (by unfold isIx; simp [h1]), rfl⟩
  · have g1 : ((0 : Int) ≤ n) = False := eq_false h1
    rw [show isIx n = false by unfold isIx; simp [h1]]
    go_enter Tryd.func41, Tryd.ntmps41
    go_wp2_with fail
    go_ret
    exact ⟨rfl, rfl⟩

/-- the terms from the k-th entry on rise from t -/
theorem riseE_drop {es : List En} {k : Nat} (h : k < es.length) (t : Int) : riseE t (es.drop k) = (decide (t ≤ es[k].1) && decide (es[k].1 ≤ 1099511627776) && riseE es[k].1 (es.drop (k + 1))) := by
  rw [List.drop_eq_getElem_cons h, riseE]
theorem isIx_lo {n : Int} (h : isIx n = true) : 0 ≤ n := ((isIx_iff n).1 h).1

set_option maxHeartbeats 4000000 in
set_option maxRecDepth 100000 in
theorem check_any (r : Lg) (s : Value) (w : World) (hs : SE w w.heap.size s r.es) (hl : r.es.length ≤ 140737488355328) :
    Calls Tryd.prog 13 #[lv r s] w fun e w' => e = .returned (.int .i64 (chkL r)) ∧ Below w.heap.size w w' := by
  obtain ⟨A, c, rfl⟩ := hs.form
  have HV := Lib.hid hs
  obtain ⟨base, bt, es⟩ := r
  simp only at HV hl ⊢
  obtain ⟨N, hN⟩ : ∃ N, es.length = N := ⟨_, rfl⟩
  have HN := Lib.hid hN
  have c1 := fun w => isIndex_any base w
  have c2 := fun w => isTerm_any bt w
  have B0 := BoxL.new w ⟨base, bt, es⟩ (.slice A N c)
  rw [hN] at hl ⊢
  obtain ⟨q, hq⟩ : ∃ q, chkL ⟨base, bt, es⟩ = q := ⟨_, rfl⟩
  rw [hq]
  clear hs
  cases h1 : isIx base with
  | false =>
    have hr : q = 110 := by rw [← hq]; unfold chkL isL; simp [h1]
    subst hr
    rw [h1] at c1
    clear h1 hq hN
    go_enter Tryd.func13, Tryd.ntmps13
    go_wp2_with fail
    refine (c1 _).mono ?_
    rintro e w1 ⟨rfl, rfl⟩
    go_wp2_with fail
    go_ret
    exact ⟨rfl, (by (repeat' (first | with_reducible assumption | with_reducible exact Below.refl _ _ | with_reducible refine Below.alloc ?_ ?_ _ | with_reducible refine Below.setCell ?_ ?_ _ | with_reducible refine Below.drew ?_ | omega | (simp; done) | (simp; omega))))⟩
  | true =>
  rw [h1] at c1
  cases h2 : isIx bt with
  | false =>
    have hr : q = 110 := by rw [← hq]; unfold chkL isL; simp [h2]
    subst hr
    rw [h2] at c2
    clear h1 h2 hq hN
    go_enter Tryd.func13, Tryd.ntmps13
    go_wp2_with fail
    refine (c1 _).mono ?_
    rintro e w1 ⟨rfl, rfl⟩
    go_wp2_with fail
    refine (c2 _).mono ?_
    rintro e w1 ⟨rfl, rfl⟩
    go_wp2_with fail
    go_ret
    exact ⟨rfl, (by (repeat' (first | with_reducible assumption | with_reducible exact Below.refl _ _ | with_reducible refine Below.alloc ?_ ?_ _ | with_reducible refine Below.setCell ?_ ?_ _ | with_reducible refine Below.drew ?_ | omega | (simp; done) | (simp; omega))))⟩
  | true =>
  rw [h2] at c2
  have hb := (isIx_iff base).1 h1
  have hbt := (isIx_iff bt).1 h2
  have j1 : IntKind.i64.wrap (1099511627776 - base) = 1099511627776 - base := by rw [IntKind.wrap_i64] <;> omega
  by_cases h3 : (N : Int) ≤ 1099511627776 - base
  rotate_left
  · have hr : q = 110 := by rw [← hq]; unfold chkL isL; simp only [hN]; simp [h3]
    subst hr
    have g3 : (1099511627776 - base < (N : Int)) = True := eq_true (by omega)
    clear h1 h2 h3 hq hN hb hbt
    go_enter Tryd.func13, Tryd.ntmps13
    go_wp2_with fail
    refine (c1 _).mono ?_
    rintro e w1 ⟨rfl, rfl⟩
    go_wp2_with fail
    refine (c2 _).mono ?_
    rintro e w1 ⟨rfl, rfl⟩
    go_wp2_with fail
    go_ret
    exact ⟨rfl, (by (repeat' (first | with_reducible assumption | with_reducible exact Below.refl _ _ | with_reducible refine Below.alloc ?_ ?_ _ | with_reducible refine Below.setCell ?_ ?_ _ | with_reducible refine Below.drew ?_ | omega | (simp; done) | (simp; omega))))⟩
  have g3 : (1099511627776 - base < (N : Int)) = False := eq_false (by omega)
  have hr : q = if riseE bt es then 0 else 110 := by rw [← hq]; unfold chkL isL; simp only [hN, h1, h2, decide_eq_true h3, Bool.true_and]
  have HQ := Lib.hid hr
  clear h1 h2 h3 hq hN hr
  have hbt0 : 0 ≤ bt := hbt.1
  have hb0 : 0 ≤ base := hb.1
  have hb1 : base ≤ 1099511627776 := hb.2
  have HB := Lib.hid hbt0
  clear hb hbt hbt0 hb0 hb1
  go_enter Tryd.func13, Tryd.ntmps13
  go_wp2_with fail
  refine (c1 _).mono ?_
  rintro e w1 ⟨rfl, rfl⟩
  go_wp2_with fail
  refine (c2 _).mono ?_
  rintro e w1 ⟨rfl, rfl⟩
  go_wp2_with fail
  have B1 : Hid (BoxL w.heap.size ⟨base, bt, es⟩ (.slice A N c) (w.alloc (.cells #[.int .i64 base, .int .i64 bt, .slice A N c] 24))) := Lib.hid B0
  obtain ⟨W0, hW0⟩ : ∃ W0, w.alloc (.cells #[.int .i64 base, .int .i64 bt, .slice A N c] 24) = W0 := ⟨_, rfl⟩
  rw [hW0] at B1
  try rw [hW0]
  have hb0 : Below w.heap.size w W0 := by rw [← hW0]; exact (Below.refl _ w).alloc (Nat.le_refl _) _
  have hz0 : w.heap.size < W0.heap.size := B1.out.1
  have HV0 := Lib.hid ((HV.out.below hb0).more hb0.size)
  clear hW0 B0 HV
  go_loopw [3, 5, 30] (fun v3 _ vi wr => ∃ (k : Nat) (t : Int), k ≤ N ∧ vi = .int .i64 (k : Int) ∧ v3 = .int .i64 t ∧ Hid (0 ≤ t) ∧ Hid (q = if riseE t (es.drop k) then 0 else 110) ∧ Below W0.heap.size W0 wr) (fun _ _ vi _ => N - (intOf vi).toNat)
  case atStart => exact ⟨0, bt, Nat.zero_le _, rfl, rfl, HB, Lib.hid (by simpa using HQ.out), Below.refl _ _⟩
  case round =>
    obtain ⟨k, t, hk, rfl, rfl, HT, HG, hbw⟩ := hrel
    have hz := hbw.size
    have hbx : Below w.heap.size w wr := hb0.trans (hbw.mono (by omega))
    by_cases hlt : k < N
    rotate_left
    · obtain rfl : k = N := by omega
      have hg := HG.out
      rw [List.drop_of_length_le (by have := HN.out; omega), riseE, if_pos rfl] at hg
      subst hg
      clear HG
      go_wp2_with fail
      go_ret
      exact ⟨rfl, hbx⟩
    · have hkx : k < es.length := by rw [HN.out]; exact hlt
      have hv1 := HV0.out.below hbw
      rw [HN.out] at hv1
      obtain ⟨b, o, rfl, hb, q0, q1⟩ := hv1.at_ hkx
      have hg := HG.out
      rw [riseE_drop hkx] at hg
      obtain ⟨⟨x, y⟩, hx⟩ : ∃ x, es[k] = x := ⟨_, rfl⟩
      rw [hx] at q0 q1 hg
      simp only at q0 q1 hg
      have ht := HT.out
      have k0 : (0 ≤ (k : Int)) = True := eq_true (by omega)
      have k1 : ((k : Int) < (N : Int)) = True := eq_true (by omega)
      have hk1 : (k : Int) < (N : Int) := by omega
      have hbz : b < wr.heap.size := by omega
      have ct := fun w => isTerm_any x w
      clear hv1 hx hkx
      by_cases h1 : x < t
      · have g1 : (x < t) = True := eq_true h1
        rw [decide_eq_false (by omega : ¬ t ≤ x)] at hg
        simp only [Bool.false_and] at hg
        have HG2 := Lib.hid hg
        clear hg h1 ht HG
        go_wp2_with fail
        go_ret
        exact ⟨by rw [HG2.out]; rfl, (by (repeat' (first | with_reducible assumption | with_reducible exact Below.refl _ _ | with_reducible refine Below.alloc ?_ ?_ _ | with_reducible refine Below.setCell ?_ ?_ _ | with_reducible refine Below.drew ?_ | omega | (simp; done) | (simp; omega))))⟩
      · have g1 : (x < t) = False := eq_false h1
        rw [decide_eq_true (by omega : t ≤ x), Bool.true_and] at hg
        by_cases h2 : x ≤ 1099511627776
        · rw [show isIx x = true from (isIx_iff x).2 ⟨by omega, h2⟩] at ct
          rw [decide_eq_true h2, Bool.true_and] at hg
          have HG2 := Lib.hid hg
          have HT2 : Hid (0 ≤ x) := Lib.hid (by omega)
          clear hg h1 h2 ht HG
          go_wp2_with fail
          refine (ct _).mono ?_
          rintro e w1 ⟨rfl, rfl⟩
          go_wp2_with fail
          go_roundw
          case rel => exact ⟨k + 1, x, by omega, by go_num, rfl, HT2, HG2, (by (repeat' (first | with_reducible assumption | with_reducible exact Below.refl _ _ | with_reducible refine Below.alloc ?_ ?_ _ | with_reducible refine Below.setCell ?_ ?_ _ | with_reducible refine Below.drew ?_ | omega | (simp; done) | (simp; omega))))⟩
          case measure => simp [intOf]; omega
        · rw [show isIx x = false by unfold isIx; simp [h2]] at ct
          rw [decide_eq_false h2] at hg
          simp only [Bool.false_and] at hg
          have HG2 := Lib.hid hg
          clear hg h1 h2 ht HG
          go_wp2_with fail
          refine (ct _).mono ?_
          rintro e w1 ⟨rfl, rfl⟩
          go_wp2_with fail
          go_ret
          exact ⟨by rw [HG2.out]; rfl, (by (repeat' (first | with_reducible assumption | with_reducible exact Below.refl _ _ | with_reducible refine Below.alloc ?_ ?_ _ | with_reducible refine Below.setCell ?_ ?_ _ | with_reducible refine Below.drew ?_ | omega | (simp; done) | (simp; omega))))⟩
end Go.Proofs.YtimodohcihnoiaaDoor.Ro
