/-
  The law's own light: whether a reply is small enough to be asked. Conditions: lengths at most 2^47.
-/
import Derived.Test.YthglghlkchhjlaaGreatDoorOdLift
namespace Go.Proofs.YthglghlkchhjlaaGreatDoor.Od
open Go.RowKit Bnd
attribute [local go_sem ↓] Go.wp_at_zero Go.wp_at_succ

def lightR (r : Rep) : Bool := decide (r.ps.length ≤ 200 ∧ sumP r.ps ≤ 20000 ∧ r.val.size ≤ 131072)
theorem LimR.fit {r : Rep} (h : LimR r) (hs : lightR r = true) : FitR r := by
  unfold lightR at hs
  simp only [decide_eq_true_eq] at hs
  refine ⟨h.code, h.err, by omega, by omega, fun p hp => ?_⟩
  have := sumP_mem hp
  omega
theorem putR_short {r : Rep} (h : FitR r) (hs : lightR r = true) : (putR r).length ≤ 200000 := by
  have := putR_length h
  unfold lightR at hs
  simp only [decide_eq_true_eq] at hs
  omega
theorem light_no {r : Rep} {k : Nat} (h : 20000 < sumP (r.ps.take k)) : lightR r = false := by
  unfold lightR
  have := sumP_le r.ps k
  simp only [decide_eq_false_iff_not]
  omega
theorem light_val {r : Rep} {v : Nat} (h1 : r.ps.length ≤ 200) (h2 : sumP r.ps ≤ 20000) (hv : r.val.size = v) : lightR r = decide (v ≤ 131072) := by
  unfold lightR; rw [hv]; simp [h1, h2]
theorem light_many {r : Rep} (h : 200 < r.ps.length) : lightR r = false := by
  unfold lightR
  simp only [decide_eq_false_iff_not]
  omega

set_option maxHeartbeats 8000000 in
set_option maxRecDepth 100000 in
theorem light_any (r : Rep) (s : Value) (w : World) (hs : SP w w.heap.size s r.ps) (lr : LimR r) :
    Calls Tryz.prog 16 #[rv r s] w fun e w' => e = .returned (.bool (lightR r)) ∧ Below w.heap.size w w' := by
  obtain ⟨A, c, rfl⟩ := hs.form
  obtain ⟨R, hR⟩ : ∃ R, lightR r = R := ⟨_, rfl⟩
  rw [hR]
  obtain ⟨ps, hps⟩ : ∃ ps, r.ps = ps := ⟨_, rfl⟩
  have hl := lr.n
  have hsz := lr.ps
  have hv := lr.val
  rw [hps] at hs hl hsz ⊢
  have HP := Lib.hid hps
  have HR := Lib.hid hR
  clear hps hR lr
  obtain ⟨W0, hW0⟩ : ∃ W0, w.alloc (.cells #[.int .i64 r.code, .int .i64 r.err, .bool r.has, .string r.val, .slice A ps.length c] 37) = W0 := ⟨_, rfl⟩
  have B0 : BoxR w.heap.size r (.slice A ps.length c) W0 := hW0 ▸ BoxR.new w r (.slice A ps.length c)
  have hb0 : Below w.heap.size w W0 := by rw [← hW0]; exact (Below.refl _ w).alloc (Nat.le_refl _) _
  have hbs : ∀ k, w.heap.size ≤ (W0.drewN k).heap.size := fun k => hb0.size
  obtain ⟨p_0, ⟨p_1, p_2, p_3, p_4, p_5⟩, p_6⟩ := _root_.id B0
  go_enter Tryz.func16, Tryz.ntmps16
  go_wp2_with fail
  clear hW0
  clear p_0 p_1 p_2 p_3 p_4 p_5 p_6
  go_loopw [3, 4] (fun v3 v4 wr => ∃ k : Nat, k ≤ ps.length ∧ k ≤ 201 ∧ v4 = .int .i64 (k : Int) ∧ v3 = .int .i64 (sumP (ps.take k) : Int) ∧ Hid (sumP (ps.take k) ≤ 300000000000000) ∧ BoxR w.heap.size r (.slice A ps.length c) wr ∧ Below w.heap.size w wr) (fun _ v4 _ => ps.length - (intOf v4).toNat)
  case atStart => exact ⟨0, Nat.zero_le _, by omega, rfl, by simp [sumP], Lib.hid (by simp [sumP]), B0, hb0⟩
  case round =>
    obtain ⟨k, hk, hk2, rfl, rfl, HB, B1, hbw⟩ := hrel
    have hz := hbw.size
    obtain ⟨p_0, ⟨p_1, p_2, p_3, p_4, p_5⟩, p_6⟩ := _root_.id B1
    by_cases hlt : k < ps.length
    rotate_left
    · obtain rfl : k = ps.length := by omega
      obtain ⟨S, hS⟩ : ∃ S, sumP (ps.take ps.length) = S := ⟨_, rfl⟩
      have hS2 : sumP r.ps = S := by rw [← hS, HP.out, List.take_length]
      rw [hS]
      have hlr : r.ps.length = ps.length := by rw [HP.out]
      have g0 : ((ps.length : Int) < (ps.length : Int)) = False := eq_false (by omega)
      by_cases h1 : ps.length ≤ 200
      rotate_left
      · have hR2 : R = false := by rw [← HR.out]; exact light_many (by omega)
        subst hR2
        have g1 : ((ps.length : Int) ≤ 200) = False := eq_false (by omega)
        clear hS hS2 HB HR h1 hlr
        go_wp2_with fail
        go_ret
        exact ⟨rfl, (by (repeat' (first | with_reducible assumption | with_reducible exact Below.refl _ _ | with_reducible refine Below.alloc ?_ ?_ _ | with_reducible refine Below.setCell ?_ ?_ _ | with_reducible refine Below.drew ?_ | omega | (simp; done) | (simp; omega))))⟩
      have g1 : ((ps.length : Int) ≤ 200) = True := eq_true (by omega)
      by_cases h2 : S ≤ 20000
      rotate_left
      · have hR2 : R = false := by rw [← HR.out]; exact light_no (k := r.ps.length) (by rw [List.take_length]; omega)
        subst hR2
        have g2 : ((S : Int) ≤ 20000) = False := eq_false (by omega)
        clear hS hS2 HB HR h1 h2 hlr
        go_wp2_with fail
        go_ret
        exact ⟨rfl, (by (repeat' (first | with_reducible assumption | with_reducible exact Below.refl _ _ | with_reducible refine Below.alloc ?_ ?_ _ | with_reducible refine Below.setCell ?_ ?_ _ | with_reducible refine Below.drew ?_ | omega | (simp; done) | (simp; omega))))⟩
      have g2 : ((S : Int) ≤ 20000) = True := eq_true (by omega)
      have hR2 : R = decide (r.val.size ≤ 131072) := by rw [← HR.out]; exact light_val (by omega) (by omega) rfl
      have g3 : ((r.val.size : Int) ≤ 131072) = (r.val.size ≤ 131072) := by simp; omega
      clear hS hS2 HB HR h1 h2 hlr
      go_wp2_with fail
      go_ret
      exact ⟨ret_bool (by rw [hR2]), (by (repeat' (first | with_reducible assumption | with_reducible exact Below.refl _ _ | with_reducible refine Below.alloc ?_ ?_ _ | with_reducible refine Below.setCell ?_ ?_ _ | with_reducible refine Below.drew ?_ | omega | (simp; done) | (simp; omega))))⟩
    · obtain ⟨b, o, rfl, hb, hc1, hc2⟩ := (hs.below hbw).at_ hlt
      have hbz : b < wr.heap.size := by omega
      have hp := hsz _ (List.getElem_mem hlt)
      have hst := sumP_take hlt
      have hlr : r.ps.length = ps.length := by rw [HP.out]
      obtain ⟨⟨x, y⟩, hm⟩ : ∃ m, ps[k] = m := ⟨_, rfl⟩
      rw [hm] at hc1 hc2 hp hst
      obtain ⟨S, hS⟩ : ∃ S, sumP (ps.take k) = S := ⟨_, rfl⟩
      have hS2 : 20000 < S → R = false := fun h => by rw [← HR.out]; exact light_no (k := k) (by rw [HP.out, hS]; exact h)
      rw [hS] at hst HB ⊢
      have g0 : ((k : Int) < (ps.length : Int)) = True := eq_true (by omega)
      by_cases h1 : k ≤ 200
      rotate_left
      · have hR2 : R = false := by rw [← HR.out]; exact light_many (by omega)
        subst hR2
        have g1 : ((k : Int) ≤ 200) = False := eq_false (by omega)
        have g2 : ((ps.length : Int) ≤ 200) = False := eq_false (by omega)
        clear hS hS2 HB HR h1 hlr hm hst hp
        go_wp2_with fail
        go_ret
        exact ⟨rfl, (by (repeat' (first | with_reducible assumption | with_reducible exact Below.refl _ _ | with_reducible refine Below.alloc ?_ ?_ _ | with_reducible refine Below.setCell ?_ ?_ _ | with_reducible refine Below.drew ?_ | omega | (simp; done) | (simp; omega))))⟩
      have g1 : ((k : Int) ≤ 200) = True := eq_true (by omega)
      by_cases h2 : S ≤ 20000
      rotate_left
      · have hR2 := hS2 (by omega)
        subst hR2
        have g2 : ((S : Int) ≤ 20000) = False := eq_false (by omega)
        clear hS hS2 HB h1 h2 hlr hm hst hp
        by_cases h3 : ps.length ≤ 200
        · have g3 : ((ps.length : Int) ≤ 200) = True := eq_true (by omega)
          go_wp2_with fail
          go_ret
          exact ⟨rfl, (by (repeat' (first | with_reducible assumption | with_reducible exact Below.refl _ _ | with_reducible refine Below.alloc ?_ ?_ _ | with_reducible refine Below.setCell ?_ ?_ _ | with_reducible refine Below.drew ?_ | omega | (simp; done) | (simp; omega))))⟩
        · have g3 : ((ps.length : Int) ≤ 200) = False := eq_false (by omega)
          go_wp2_with fail
          go_ret
          exact ⟨rfl, (by (repeat' (first | with_reducible assumption | with_reducible exact Below.refl _ _ | with_reducible refine Below.alloc ?_ ?_ _ | with_reducible refine Below.setCell ?_ ?_ _ | with_reducible refine Below.drew ?_ | omega | (simp; done) | (simp; omega))))⟩
      have g2 : ((S : Int) ≤ 20000) = True := eq_true (by omega)
      obtain ⟨m1, hm1⟩ : ∃ m1 : Nat, m1 = S + x.size := ⟨_, rfl⟩
      obtain ⟨m2, hm2⟩ : ∃ m2 : Nat, m2 = m1 + y.size := ⟨_, rfl⟩
      have hst2 : sumP (ps.take (k + 1)) = m2 := by rw [hst]; simp only; omega
      have j1 : IntKind.i64.wrap ((S : Int) + (x.size : Int)) = (m1 : Int) := by rw [IntKind.wrap_i64] <;> omega
      have j2 : IntKind.i64.wrap ((m1 : Int) + (y.size : Int)) = (m2 : Int) := by rw [IntKind.wrap_i64] <;> omega
      have HM := Lib.hid (show m2 ≤ 300000000000000 by omega)
      have HS := Lib.hid hst2
      have hk0 : (0 ≤ (k : Int)) = True := eq_true (by omega)
      clear hS hS2 HB h2 hlr hm hst hp hm1 hm2 hst2
      go_wp2_with fail
      go_quiet (fail)
      go_wp2_with fail
      go_roundw
      case rel => exact ⟨k + 1, by omega, by omega, by go_num, by rw [HS.out], by rw [HS.out]; exact HM, B1.keep (below_drewN (Below.refl _ _) _), below_drewN hbw _⟩
      case measure => simp [intOf]; omega
end Go.Proofs.YthglghlkchhjlaaGreatDoor.Od
