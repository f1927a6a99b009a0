/-
  The document's Slice. Conditions: bases from 0 to 2^40, at most 100,000 entries; numbers such as a program can hold.
-/
import Derived.Test.YtimodohcihnoiaaDoorRoOwn
namespace Go.Proofs.YtimodohcihnoiaaDoor.Ro
open Go.RowKit

/-- what has been taken of the first i -/
def outAt (es : List En) (q L i : Nat) : List En := ((es.take i).drop q).take L
theorem outAt_in {es : List En} {q L i : Nat} (h : i < es.length) (hq : q ≤ i) (hl : (outAt es q L i).length < L) : outAt es q L (i + 1) = outAt es q L i ++ [es[i]] := by
  unfold outAt at *
  have h1 : ((es.take i).drop q).length < L := by
    rw [List.length_take] at hl
    omega
  rw [List.take_succ_eq_append_getElem h, List.drop_append_of_le_length (by simp; omega), List.take_of_length_le (l := (es.take i).drop q) (by omega), List.take_of_length_le (by rw [List.length_append]; simp only [List.length_cons, List.length_nil]; omega)]
theorem outAt_out {es : List En} {q L i : Nat} (hq : i < q) : outAt es q L (i + 1) = outAt es q L i := by
  unfold outAt
  rw [List.drop_of_length_le (l := es.take (i + 1)) (by simp; omega), List.drop_of_length_le (l := es.take i) (by simp; omega)]
theorem outAt_full {es : List En} {q L i : Nat} (h : L ≤ (outAt es q L i).length) : outAt es q L i = (es.drop q).take L := by
  unfold outAt at *
  rw [List.length_take] at h
  have h1 : L ≤ ((es.take i).drop q).length := by omega
  rw [List.drop_take, List.take_take]
  congr 1
  rw [List.drop_take, List.length_take] at h1
  omega
theorem outAt_all {es : List En} {q L i : Nat} (h : es.length ≤ i) : outAt es q L i = (es.drop q).take L := by
  unfold outAt
  rw [List.take_of_length_le h]
theorem outAt_le (es : List En) (q L i : Nat) : (outAt es q L i).length ≤ es.length := by
  unfold outAt
  simp only [List.length_take, List.length_drop]
  omega

set_option maxHeartbeats 8000000 in
set_option maxRecDepth 100000 in
theorem rslice_any (r : Lg) (s : Value) (f lim : Int) (w : World) (hs : SE w w.heap.size s r.es) (ft : FitL r) (hn : r.es.length ≤ 100000) (hf : inI f) (hl : inI lim) :
    Calls Tryd.prog 25 #[lv r s, .int .i64 f, .int .i64 lim] w fun e w' => GaveE w (sliceL r f lim) e w' := by
  obtain ⟨A, c, rfl⟩ := hs.form
  obtain ⟨f1, f2⟩ := hf
  obtain ⟨l1, l2⟩ := hl
  have b0 := ft.b0
  have b1 := ft.b1
  clear ft
  obtain ⟨base, bt, es⟩ := r
  simp only at b0 b1 hn hs ⊢
  obtain ⟨q, hq⟩ : ∃ q, (f - base - 1).toNat = q := ⟨_, rfl⟩
  obtain ⟨L, hL⟩ : ∃ L, lim.toNat = L := ⟨_, rfl⟩
  obtain ⟨R, hR⟩ : ∃ R, (es.drop q).take L = R := ⟨_, rfl⟩
  have hsl : sliceL ⟨base, bt, es⟩ f lim = R := by unfold sliceL; simp only [hq, hL, hR]
  rw [hsl]
  obtain ⟨N, hN⟩ : ∃ N, es.length = N := ⟨_, rfl⟩
  have HN := Lib.hid hN
  have HR := Lib.hid hR
  have HL := Lib.hid hL
  have HQ := Lib.hid hq
  obtain ⟨W0, hW0⟩ : ∃ W0, w.alloc (.cells #[.int .i64 base, .int .i64 bt, .slice A N c] 24) = W0 := ⟨_, rfl⟩
  have B0 : BoxL w.heap.size ⟨base, bt, es⟩ (.slice A N c) W0 := hW0 ▸ BoxL.new w ⟨base, bt, es⟩ (.slice A N c)
  have hb0 : Below w.heap.size w W0 := by rw [← hW0]; exact (Below.refl _ w).alloc (Nat.le_refl _) _
  have HV := Lib.hid ((hs.below hb0).more hb0.size)
  have j0 : IntKind.i64.wrap (base + 1) = base + 1 := by rw [IntKind.wrap_i64] <;> omega
  rw [hN] at hn ⊢
  clear hs hN hR hL hq hsl
  go_enter Tryd.func25, Tryd.ntmps25
  obtain ⟨p_0, ⟨p_1, p_2, p_3⟩, p_4⟩ := _root_.id B0
  go_wp2_with fail
  clear p_0 p_1 p_2 p_3 p_4
  try rw [hW0]
  clear hW0
  go_loopw [7, 8] (fun v7 v8 wr => ∃ i : Nat, i ≤ N ∧ v8 = .int .i64 (i : Int) ∧ OwnE wr W0.heap.size v7 (outAt es q L i) ∧ Below W0.heap.size W0 wr) (fun _ v8 _ => N - (intOf v8).toNat)
  case atStart => exact ⟨0, Nat.zero_le _, rfl, by rw [show outAt es q L 0 = [] by simp [outAt]]; exact own_nil _ _, Below.refl _ _⟩
  case round =>
    obtain ⟨i, hi, rfl, ho, hbw⟩ := hrel
    have hz := hbw.size
    have C0 := B0.keep hbw
    have hbx : Below w.heap.size w wr := hb0.trans (hbw.mono (by have := B0.1; omega))
    obtain ⟨A7, c7, rfl, _⟩ := own_room ho
    obtain ⟨K, hK⟩ : ∃ K, (outAt es q L i).length = K := ⟨_, rfl⟩
    rw [hK] at ho ⊢
    have HK := Lib.hid hK
    have hKN : K ≤ N := by have := outAt_le es q L i; have := HN.out; omega
    by_cases hlt : i < N
    rotate_left
    · obtain rfl : i = N := by omega
      have hfin := outAt_all (es := es) (q := q) (L := L) (i := i) (by have := HN.out; omega)
      rw [HR.out] at hfin
      rw [hfin] at ho
      have HO := Lib.hid ho
      have g1 : ((i : Int) < (i : Int)) = False := eq_false (by omega)
      clear ho hK hfin hlt HK
      obtain ⟨p_0, ⟨p_1, p_2, p_3⟩, p_4⟩ := _root_.id C0
      go_wp2_with fail
      go_ret
      exact ⟨_, rfl, own_base HO.out hb0.size, hbx⟩
    have g1 : ((i : Int) < (N : Int)) = True := eq_true (by omega)
    by_cases hKl : (K : Int) < lim
    rotate_left
    · have g2 : ((K : Int) < lim) = False := eq_false hKl
      have hfin := outAt_full (es := es) (q := q) (L := L) (i := i) (by rw [hK]; have := HL.out; omega)
      rw [HR.out] at hfin
      rw [hfin] at ho
      have HO := Lib.hid ho
      clear ho hK hfin hlt hKl HK
      obtain ⟨p_0, ⟨p_1, p_2, p_3⟩, p_4⟩ := _root_.id C0
      go_wp2_with fail
      go_ret
      exact ⟨_, rfl, own_base HO.out hb0.size, hbx⟩
    have g2 : ((K : Int) < lim) = True := eq_true hKl
    have hix : i < es.length := by rw [HN.out]; exact hlt
    have j1 : IntKind.i64.wrap (base + 1 + (i : Int)) = base + 1 + (i : Int) := by rw [IntKind.wrap_i64] <;> omega
    by_cases hqi : q ≤ i
    · have g3 : (f ≤ base + 1 + (i : Int)) = True := eq_true (by have := HQ.out; omega)
      have hnx := outAt_in hix hqi (L := L) (by rw [hK]; have := HL.out; omega)
      have hv1 := HV.out.below hbw
      rw [HN.out] at hv1
      obtain ⟨b, o, rfl, hb, q0, q1⟩ := hv1.at_ hix
      obtain ⟨⟨x, y⟩, hx⟩ : ∃ x, es[i] = x := ⟨_, rfl⟩
      rw [hx] at q0 q1 hnx
      simp only at q0 q1
      have k0 : (0 ≤ (i : Int)) = True := eq_true (by omega)
      have k1 : (i : Int) < (N : Int) := by omega
      obtain ⟨os, hos⟩ : ∃ os, outAt es q L i = os := ⟨_, rfl⟩
      rw [hos] at ho hnx hK
      have HNX := Lib.hid hnx
      have HOK := Lib.hid hK
      clear hv1 hx hK hnx hos hlt hKl hqi HK
      obtain ⟨p_0, ⟨p_1, p_2, p_3⟩, p_4⟩ := _root_.id C0
      go_wp2_with (at_builtin; refine wpList_append_es rfl _ _ rfl W0.heap.size (.slice A7 K c7) os rfl (own_alloc ho _) (by simp; omega) _ [(x, y)] rfl (arg_one wr (x, y)) (by have := HOK.out; simp; omega) ?_)
      intro v' w2 ho2 b2 _
      have hb2 := (hbw.alloc hz _).trans b2
      have HO2 := Lib.hid ho2
      clear ho2 b2
      go_wp2_with fail
      go_roundw
      case rel => exact ⟨i + 1, by omega, by go_num, by rw [HNX.out]; exact HO2.out, hb2⟩
      case measure => simp [intOf]; omega
    · have g3 : (f ≤ base + 1 + (i : Int)) = False := eq_false (by have := HQ.out; omega)
      have hnx := outAt_out (es := es) (q := q) (L := L) (i := i) (by omega)
      rw [← hnx] at ho
      have k1 : (i : Int) < (N : Int) := by omega
      have HO := Lib.hid ho
      clear ho hK hnx hlt hKl hqi HK hix
      obtain ⟨p_0, ⟨p_1, p_2, p_3⟩, p_4⟩ := _root_.id C0
      go_wp2_with fail
      go_roundw
      case rel => exact ⟨i + 1, by omega, by go_num, HO.out, hbw⟩
      case measure => simp [intOf]; omega

set_option maxHeartbeats 4000000 in
set_option maxRecDepth 100000 in
theorem alike_any (va vb : Value) (xs ys : List En) (w : World) (ha : SE w w.heap.size va xs) (hb : SE w w.heap.size vb ys) (hx : xs.length ≤ 1000000) :
    Calls Tryd.prog 49 #[va, vb] w fun e w' => e = .returned (.int .i64 (alikeE xs ys : Nat)) ∧ Below w.heap.size w w' := by
  obtain ⟨A, c, rfl⟩ := ha.form
  obtain ⟨D, d, rfl⟩ := hb.form
  obtain ⟨r, hr⟩ : ∃ r, alikeE xs ys = r := ⟨_, rfl⟩
  rw [hr]
  obtain ⟨N, hN⟩ : ∃ N, xs.length = N := ⟨_, rfl⟩
  obtain ⟨M, hM⟩ : ∃ M, ys.length = M := ⟨_, rfl⟩
  have HN := Lib.hid hN
  have HM := Lib.hid hM
  have HA := Lib.hid ha
  have HB := Lib.hid hb
  have HR := Lib.hid hr
  rw [hN] at hx ⊢
  rw [hM]
  clear hN hM ha hb hr
  go_enter Tryd.func49, Tryd.ntmps49
  go_wp2_with fail
  go_loopw [5] (fun v5 wr => ∃ k : Nat, k ≤ N ∧ k ≤ M ∧ v5 = .int .i64 (k : Int) ∧ Hid (k + alikeE (xs.drop k) (ys.drop k) = r) ∧ Below w.heap.size w wr) (fun v5 _ => N - (intOf v5).toNat)
  case atStart => exact ⟨0, Nat.zero_le _, Nat.zero_le _, rfl, Lib.hid (by simpa using HR.out), Below.refl _ _⟩
  case round =>
    obtain ⟨k, hk, hk2, rfl, HG, hbw⟩ := hrel
    by_cases hlt : k < N
    rotate_left
    · have g1 : ((k : Int) < (N : Int)) = False := eq_false (by omega)
      have hg := HG.out
      rw [List.drop_of_length_le (l := xs) (by have := HN.out; omega)] at hg
      have hr : k = r := by rw [← hg]; cases ys.drop k <;> simp [alikeE]
      subst hr
      clear hg HG hlt
      go_wp2_with fail
      go_quiet (fail)
      go_wp2_with fail
      go_ret
      exact ⟨rfl, below_drewN hbw _⟩
    have g1 : ((k : Int) < (N : Int)) = True := eq_true (by omega)
    by_cases hlt2 : k < M
    rotate_left
    · have g2 : ((k : Int) < (M : Int)) = False := eq_false (by omega)
      have hg := HG.out
      rw [List.drop_of_length_le (l := ys) (by have := HM.out; omega)] at hg
      have hr : k = r := by rw [← hg]; cases xs.drop k <;> simp [alikeE]
      subst hr
      clear hg HG hlt hlt2
      go_wp2_with fail
      go_quiet (fail)
      go_wp2_with fail
      go_ret
      exact ⟨rfl, below_drewN hbw _⟩
    have g2 : ((k : Int) < (M : Int)) = True := eq_true (by omega)
    have hkx : k < xs.length := by rw [HN.out]; exact hlt
    have hky : k < ys.length := by rw [HM.out]; exact hlt2
    have hv1 := HA.out.below hbw
    have hv2 := HB.out.below hbw
    rw [HN.out] at hv1
    rw [HM.out] at hv2
    obtain ⟨b1, o1, rfl, hb1, q0, q1⟩ := hv1.at_ hkx
    obtain ⟨b2, o2, rfl, hb2, r0, r1⟩ := hv2.at_ hky
    have hg := HG.out
    rw [List.drop_eq_getElem_cons hkx, List.drop_eq_getElem_cons hky, alikeE] at hg
    obtain ⟨⟨x1, x2⟩, hx⟩ : ∃ x, xs[k] = x := ⟨_, rfl⟩
    obtain ⟨⟨y1, y2⟩, hy⟩ : ∃ y, ys[k] = y := ⟨_, rfl⟩
    rw [hx] at q0 q1 hg
    rw [hy] at r0 r1 hg
    simp only at q0 q1 r0 r1 hg
    have hk0 : (0 : Int) ≤ (k : Int) := by omega
    have hk1 : (k : Int) < (N : Int) := by omega
    have hk3 : (k : Int) < (M : Int) := by omega
    have hz := hbw.size
    have hbz1 : b1 < wr.heap.size := by omega
    have hbz2 : b2 < wr.heap.size := by omega
    clear hv1 hv2 hx hy hkx hky
    by_cases h1 : x1 = y1
    · rw [if_pos h1] at hg
      subst h1
      have n0 : (x1 == x1) = true := by simp
      have HG2 : Hid (k + 1 + alikeE (xs.drop (k + 1)) (ys.drop (k + 1)) = r) := Lib.hid (by omega)
      clear hg HG
      go_wp2_with fail
      go_quiet (fail)
      go_wp2_with fail
      go_roundw
      case rel => exact ⟨k + 1, by omega, by omega, by go_num, HG2, below_drewN hbw _⟩
      case measure => simp [intOf]; omega
    · rw [if_neg h1] at hg
      obtain ⟨n0, m0, l0⟩ := int_no h1
      have hr : k = r := by omega
      subst hr
      clear hg HG h1
      go_wp2_with fail
      go_quiet (fail)
      go_wp2_with fail
      go_ret
      exact ⟨rfl, below_drewN hbw _⟩
end Go.Proofs.YtimodohcihnoiaaDoor.Ro
