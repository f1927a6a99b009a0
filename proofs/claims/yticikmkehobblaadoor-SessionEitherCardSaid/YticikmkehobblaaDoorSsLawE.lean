/-
  SessionEither, walked. Conditions: lengths at most 2^47; the library's variables hold what their types allow.
-/
import Derived.Test.YticikmkehobblaaDoorSsLMA
import Derived.BigQuiet
namespace Go.Proofs.YticikmkehobblaaDoor.Ss
open Go.RowKit Bnd
open Go.Proofs.YticikmkehobblaaDoor.Od (Rep SP ArgP OwnP rv BoxR)

/-- no two of these have one client and one Seq -/
def Apart (zs : List Zs) (l : List Ses) (i : Nat) : Prop := ∀ j (h : j < zs.length), j < i → ∀ x, findS zs[j].1.client l = some x → x.seq ≠ zs[j].1.seq
theorem apart_all {za : List Zs} {l : List Ses} (h : Apart za l za.length) (hl : isS l = true) : ∀ x ∈ ses za, ∀ y ∈ l, x.client = y.client → x.seq ≠ y.seq := by
  intro x hx y hy hc e
  obtain ⟨z, hz, rfl⟩ := List.mem_map.1 hx
  obtain ⟨j, hj, rfl⟩ := List.getElem_of_mem hz
  have hf := findS_mem ((isS_iff _).1 hl).2 hy
  rw [← hc] at hf
  exact h j hj hj y hf e.symm

set_option maxHeartbeats 16000000 in
set_option maxRecDepth 100000 in
theorem either_walk (va vb : Value) (za zb : List Zs) (cut : Int) (w : World) (ha : InZ w va za) (hb : InZ w vb zb) (hg : Good w) :
    Calls Tryd.prog 6 #[va, vb, .int .i64 cut] w fun e w' => e = .returned (.bool true) ∧ Below w.heap.size w w' := by
  obtain ⟨A, ca, rfl⟩ := ha.arg.form
  obtain ⟨D, cb, rfl⟩ := hb.arg.form
  obtain ⟨na, hna⟩ : ∃ n, za.length = n := ⟨_, rfl⟩
  obtain ⟨nb, hnb⟩ : ∃ n, zb.length = n := ⟨_, rfl⟩
  rw [hna] at ha ⊢
  rw [hnb] at hb ⊢
  have HNA := Lib.hid hna
  have HNB := Lib.hid hnb
  clear hna hnb
  have KA : ∀ w', Below w.heap.size w w' → InZ w' (.slice A na ca) za := fun w' h => ha.keep h
  have KB : ∀ w', Below w.heap.size w w' → InZ w' (.slice D nb cb) zb := fun w' h => hb.keep h
  have hnaN : na ≤ 140737488355328 := by have := ha.len; have := HNA.out; omega
  have cS1 := fun w' (h : Below w.heap.size w w') => small_any _ za w' (KA w' h).arg.sz (KA w' h).pz (KA w' h).fit (KA w' h).len
  have cS2 := fun w' (h : Below w.heap.size w w') => small_any _ zb w' (KB w' h).arg.sz (KB w' h).pz (KB w' h).fit (KB w' h).len
  have cC1 := fun w' (h : Below w.heap.size w w') => check_any _ za w' (KA w' h).arg.sz (KA w' h).pz (KA w' h).fit (KA w' h).len
  have cC2 := fun w' (h : Below w.heap.size w w') => check_any _ zb w' (KB w' h).arg.sz (KB w' h).pz (KB w' h).fit (KB w' h).len
  have cL := fun w' (h : Below w.heap.size w w') => live_any w' (hg.below h)
  clear ha hb
  go_enter Tryd.func6, Tryd.ntmps6
  go_wp2_with fail
  refine (cS1 _ (Below.refl _ _)).mono ?_
  rintro e w1 ⟨⟨r1, rfl, _⟩, b1⟩
  cases r1 with
  | false =>
    go_wp2_with fail
    refine (cL _ b1).mono ?_
    rintro e w99 ⟨rfl, b99⟩
    have hbz := (b1).trans (b99.mono (b1).size)
    clear b99
    go_wp2_with fail
    go_ret
    exact ⟨rfl, hbz⟩
  | true =>
  go_wp2_with fail
  refine (cS2 _ b1).mono ?_
  rintro e w2 ⟨⟨r2, rfl, _⟩, b2⟩
  have hb2 := b1.trans (b2.mono b1.size)
  clear b2
  cases r2 with
  | false =>
    go_wp2_with fail
    refine (cL _ hb2).mono ?_
    rintro e w99 ⟨rfl, b99⟩
    have hbz := (hb2).trans (b99.mono (hb2).size)
    clear b99
    go_wp2_with fail
    go_ret
    exact ⟨rfl, hbz⟩
  | true =>
  have hA : isS (ses za) = true ∨ isS (ses za) = false := by cases isS (ses za) <;> simp
  have hB : isS (ses zb) = true ∨ isS (ses zb) = false := by cases isS (ses zb) <;> simp
  rcases hA with hA | hA
  rotate_left
  · rw [show chkS (ses za) = 80 by unfold chkS; rw [hA]; rfl] at cC1
    clear hA hB
    go_wp2_with fail
    refine (cC1 _ hb2).mono ?_
    rintro e w3 ⟨rfl, b3⟩
    have hb3 := hb2.trans (b3.mono hb2.size)
    clear b3
    go_wp2_with fail
    refine (num_any _ _).mono ?_
    rintro e w' ⟨rfl, rfl⟩
    go_wp2_with fail
    refine (cL _ hb3).mono ?_
    rintro e w99 ⟨rfl, b99⟩
    have hbz := (hb3).trans (b99.mono (hb3).size)
    clear b99
    go_wp2_with fail
    go_ret
    exact ⟨rfl, hbz⟩
  rcases hB with hB | hB
  rotate_left
  · rw [show chkS (ses za) = 0 by unfold chkS; rw [hA]; rfl] at cC1
    rw [show chkS (ses zb) = 80 by unfold chkS; rw [hB]; rfl] at cC2
    clear hA hB
    go_wp2_with fail
    refine (cC1 _ hb2).mono ?_
    rintro e w3 ⟨rfl, b3⟩
    have hb3 := hb2.trans (b3.mono hb2.size)
    clear b3
    go_wp2_with fail
    refine (num_any _ _).mono ?_
    rintro e w' ⟨rfl, rfl⟩
    go_wp2_with fail
    refine (cC2 _ hb3).mono ?_
    rintro e w4 ⟨rfl, b4⟩
    have hb4 := hb3.trans (b4.mono hb3.size)
    clear b4
    go_wp2_with fail
    refine (num_any _ _).mono ?_
    rintro e w' ⟨rfl, rfl⟩
    go_wp2_with fail
    refine (cL _ hb4).mono ?_
    rintro e w99 ⟨rfl, b99⟩
    have hbz := (hb4).trans (b99.mono (hb4).size)
    clear b99
    go_wp2_with fail
    go_ret
    exact ⟨rfl, hbz⟩
  have PA := (KA w (Below.refl _ _)).nop hA
  have PB := (KB w (Below.refl _ _)).nop hB
  have la := is_len hA
  have lb := is_len hB
  have hra := ((isS_iff _).1 hA).2
  have hrb := ((isS_iff _).1 hB).2
  rw [show chkS (ses za) = 0 by unfold chkS; rw [hA]; rfl] at cC1
  rw [show chkS (ses zb) = 0 by unfold chkS; rw [hB]; rfl] at cC2
  have HA := Lib.hid hA
  have HB := Lib.hid hB
  clear hA hB cS1 cS2
  go_wp2_with fail
  refine (cC1 _ hb2).mono ?_
  rintro e w3 ⟨rfl, b3⟩
  have hb3 := hb2.trans (b3.mono hb2.size)
  clear b3
  go_wp2_with fail
  refine (num_any _ _).mono ?_
  rintro e w' ⟨rfl, rfl⟩
  go_wp2_with fail
  refine (cC2 _ hb3).mono ?_
  rintro e w4 ⟨rfl, b4⟩
  have hb4 := hb3.trans (b4.mono hb3.size)
  clear b4 cC1 cC2
  by_cases h0 : cut < 0
  · have g0 : (cut < 0) = True := eq_true h0
    clear h0 la lb
    go_wp2_with fail
    refine (num_any _ _).mono ?_
    rintro e w' ⟨rfl, rfl⟩
    go_wp2_with fail
    refine (cL _ hb4).mono ?_
    rintro e w99 ⟨rfl, b99⟩
    have hbz := (hb4).trans (b99.mono (hb4).size)
    clear b99
    go_wp2_with fail
    go_ret
    exact ⟨rfl, hbz⟩
  obtain ⟨k, rfl⟩ : ∃ k : Nat, cut = (k : Int) := ⟨cut.toNat, by omega⟩
  have g0 : ((k : Int) < 0) = False := eq_false (by omega)
  by_cases h1 : k ≤ na
  rotate_left
  · have g1 : ((k : Int) > (na : Int)) = True := eq_true (by omega)
    clear h0 h1 la lb
    go_wp2_with fail
    refine (num_any _ _).mono ?_
    rintro e w' ⟨rfl, rfl⟩
    go_wp2_with fail
    refine (cL _ hb4).mono ?_
    rintro e w99 ⟨rfl, b99⟩
    have hbz := (hb4).trans (b99.mono (hb4).size)
    clear b99
    go_wp2_with fail
    go_ret
    exact ⟨rfl, hbz⟩
  have g1 : ((k : Int) > (na : Int)) = False := eq_false (by omega)
  have hkc : k ≤ ca := by have := ArgZ.room (KA w (Below.refl _ _)).arg; omega
  have hlm := merge_len (ses za) (ses zb)
  have cM1 := fun w' (h : Below w.heap.size w w') => merge_any _ _ za zb w' (KA w' h).arg.sz (KB w' h).arg.sz PA PB (by omega) (by omega)
  have cM2 := fun w' (h : Below w.heap.size w w') => merge_any _ _ zb za w' (KB w' h).arg.sz (KA w' h).arg.sz PB PA (by omega) (by omega)
  have KF : ∀ w', Below w.heap.size w w' → ArgZ w' (.slice A k ca) (za.take k) := fun w' h => ArgZ.front (KA w' h).arg (by have := HNA.out; omega)
  have cM3 := fun w' (h : Below w.heap.size w w') => merge_any _ _ za (za.take k) w' (KA w' h).arg.sz (KF w' h).sz PA PA.take (by omega) (by simp; omega)
  have cM4 := fun w' (h : Below w.heap.size w w') => merge_any _ _ (za.take k) za w' (KF w' h).sz (KA w' h).arg.sz PA.take PA (by simp; omega) (by omega)
  rw [show ses (za.take k) = (ses za).take k by unfold ses; rw [List.map_take]] at cM3 cM4
  rw [(merge_take HA.out k).1] at cM3
  rw [(merge_take HA.out k).2] at cM4
  have cFb := fun c w' (h : Below w.heap.size w w') => find_any _ zb c w' (KB w' h).arg.sz hrb PB (by omega)
  have herr := merge_swap_err (ses za) (ses zb)
  obtain ⟨q1, hq1⟩ : ∃ q, mergeS (ses za) (ses zb) = q := ⟨_, rfl⟩
  obtain ⟨l1, n1⟩ := q1
  obtain ⟨q2, hq2⟩ : ∃ q, mergeS (ses zb) (ses za) = q := ⟨_, rfl⟩
  obtain ⟨l2, n2⟩ := q2
  rw [hq1] at cM1 herr hlm
  rw [hq2] at cM2 herr
  simp only at herr hlm
  subst herr
  have HQ1 := Lib.hid hq1
  have HQ2 := Lib.hid hq2
  have HLM := Lib.hid hlm
  have HLA := Lib.hid la
  have HPA := Lib.hid PA
  have HRA := Lib.hid hra
  have hkc2 : (k : Int) ≤ (ca : Int) := by omega
  clear hq1 hq2 hlm h0 la lb hra hrb PB
  go_wp2_with fail
  refine (num_any _ _).mono ?_
  rintro e w' ⟨rfl, rfl⟩
  go_wp2_with fail
  refine (cM1 _ hb4).mono ?_
  rintro e w5 ⟨v5, z5, rfl, hs5, a5, p5, b5⟩
  have hb5 := hb4.trans (b5.mono hb4.size)
  obtain ⟨A5, c5, rfl⟩ := a5.form
  simp only at hs5
  have hl5 : z5.length = l1.length := by rw [← hs5]; simp
  have HS5 := Lib.hid hs5
  obtain ⟨m5, hm5⟩ : ∃ m, z5.length = m := ⟨_, rfl⟩
  rw [hm5] at a5 hl5 ⊢
  have HM5 := Lib.hid hm5
  have HL5 := Lib.hid hl5
  clear b5 hs5 hm5 hl5
  go_wp2_with fail
  refine (cM2 _ hb5).mono ?_
  rintro e w6 ⟨v6, z6, rfl, hs6, a6, p6, b6⟩
  have hb6 := hb5.trans (b6.mono hb5.size)
  have a5 := a5.keep b6
  obtain ⟨A6, c6, hv6⟩ := a6.form
  have HV6 := Lib.hid hv6
  have HS6 := Lib.hid hs6
  clear b6 hs6 hv6
  go_wp2_with fail
  refine (cM3 _ hb6).mono ?_
  rintro e w7 ⟨v7, z7, rfl, hs7, a7, p7, b7⟩
  have hb7 := hb6.trans (b7.mono hb6.size)
  have a5 := a5.keep b7
  have a6 := a6.keep b7
  have HS7 := Lib.hid hs7
  clear b7 hs7
  go_wp2_with fail
  refine (cM4 _ hb7).mono ?_
  rintro e w8 ⟨v8, z8, rfl, hs8, a8, p8, b8⟩
  have hb8 := hb7.trans (b8.mono hb7.size)
  have a5 := a5.keep b8
  have a6 := a6.keep b8
  have a7 := a7.keep b8
  have HS8 := Lib.hid hs8
  have hl7 : z7.length ≤ 1000000 := by have h1 := congrArg List.length HS7.out; simp only [List.length_map] at h1; have := HLA.out; omega
  have hl8 : z8.length ≤ 1000000 := by have h1 := congrArg List.length HS8.out; simp only [List.length_map] at h1; have := HLA.out; omega
  have K5 : ∀ w', Below w8.heap.size w8 w' → ArgZ w' (.slice A5 m5 c5) z5 := fun w' h => a5.keep h
  have K6 : ∀ w', Below w8.heap.size w8 w' → ArgZ w' v6 z6 := fun w' h => a6.keep h
  have cE7 := fun w' (h : Below w8.heap.size w8 w') (h2 : Below w.heap.size w w') => rsame_yes _ _ z7 za w' (a7.keep h).sz (KA w' h2).arg.sz p7 HPA.out HS7.out hl7
  have cE8 := fun w' (h : Below w8.heap.size w8 w') (h2 : Below w.heap.size w w') => rsame_yes _ _ z8 za w' (a8.keep h).sz (KA w' h2).arg.sz p8 HPA.out HS8.out hl8
  clear b8 hs8 cM1 cM2 cM3 cM4 KF hl7 hl8
  go_wp2_with fail
  refine (num_any _ _).mono ?_
  rintro e w' ⟨rfl, rfl⟩
  go_wp2_with fail
  refine (num_any _ _).mono ?_
  rintro e w' ⟨rfl, rfl⟩
  go_wp2_with fail
  refine (num_any _ _).mono ?_
  rintro e w' ⟨rfl, rfl⟩
  go_wp2_with fail
  refine (num_any _ _).mono ?_
  rintro e w' ⟨rfl, rfl⟩
  go_wp2_with fail
  refine (cE7 _ (Below.refl _ _) hb8).mono ?_
  rintro e w9 ⟨rfl, b9⟩
  have hb9 := hb8.trans (b9.mono hb8.size)
  go_wp2_with fail
  refine (cE8 _ b9 hb9).mono ?_
  rintro e w10 ⟨rfl, b10⟩
  have hb10 := hb9.trans (b10.mono hb9.size)
  have hb8t : Below w8.heap.size w8 w10 := b9.trans (b10.mono b9.size)
  clear b9 b10 cE7 cE8
  go_wp2_with fail
  go_loopw [6, 15, 16, 17] (fun v6 vi _ _ wr => ∃ i : Nat, i ≤ na ∧ vi = .int .i64 (i : Int) ∧ v6 = .bool false ∧ Hid (Apart za (ses zb) i) ∧ Below w10.heap.size w10 wr) (fun _ vi _ _ _ => na - (intOf vi).toNat)
  case atStart => exact ⟨0, Nat.zero_le _, rfl, rfl, Lib.hid (fun j h hj => by omega), Below.refl _ _⟩
  case round =>
    revert hrel; revert wr; intro wo hrel
    obtain ⟨i, hi, rfl, rfl, HAP, hbo⟩ := hrel
    have hbw := hb10.trans (hbo.mono hb10.size)
    have hzo := hbw.size
    by_cases hlt : i < na
    · have hix : i < za.length := by rw [HNA.out]; exact hlt
      have hv1 := (KA wo hbw).arg.sz
      rw [← HNA.out] at hv1
      obtain ⟨b, o, hA0, hb, q0, q1, qq⟩ := hv1.at_ hix
      clear qq
      have hnop := (HPA.out _ (List.getElem_mem hix)).1
      obtain ⟨⟨⟨cl, sq, r⟩, pv⟩, hzk⟩ : ∃ z, za[i] = z := ⟨_, rfl⟩
      rw [hzk] at q0 q1
      simp only at q0 q1
      subst hA0
      have HZK := Lib.hid hzk
      have cf := cFb cl wo hbw
      have k0 : (0 ≤ (i : Int)) = True := eq_true (by omega)
      have k1 : ((i : Int) < (na : Int)) = True := eq_true (by omega)
      have hk1 : (i : Int) < (na : Int) := by omega
      obtain ⟨fo, hfo⟩ : ∃ x, findS cl (ses zb) = x := ⟨_, rfl⟩
      unfold FoundZ at cf
      rw [hfo] at cf
      have HFO := Lib.hid hfo
      clear hv1 hnop hzk hfo
      cases fo with
      | none =>
        simp only [optS] at cf
        go_wp2_with fail
        refine cf.mono ?_
        rintro e w11 ⟨⟨A11, c11, rfl⟩, b11⟩
        have y1 := (b11.cell (p := ⟨b, o + i * 7 + 1, none⟩) hb).trans q1
        have hb11 : Below w10.heap.size w10 w11 := hbo.trans (b11.mono hbo.size)
        have hbz : b < w11.heap.size := Nat.lt_of_lt_of_le hb b11.size
        have hz11 := hb11.size
        clear q0 q1 b11 cf
        go_wp2_with fail
        go_quiet (fail)
        go_wp2_with fail
        go_roundw
        case rel =>
          refine ⟨i + 1, by omega, by go_num, rfl, Lib.hid (fun j hj hji x hx => ?_), below_drewN (hb11.alloc hz11 _) _⟩
          rcases Nat.lt_or_ge j i with h | h
          · exact HAP.out j hj h x hx
          · obtain rfl : j = i := by omega
            rw [HZK.out, HFO.out] at hx
            cases hx
        case measure => simp [intOf]; omega
      | some y =>
        simp only [optS] at cf
        by_cases he : y.seq = sq
        · have e1 : (y.seq == sq) = true := by simpa using he
          have e2 : (y.seq = sq) = True := eq_true he
          clear he
          go_wp2_with fail
          refine cf.mono ?_
          rintro e w11 ⟨⟨A11, c11, rfl⟩, b11⟩
          have y1 := (b11.cell (p := ⟨b, o + i * 7 + 1, none⟩) hb).trans q1
          have hb11 : Below w10.heap.size w10 w11 := hbo.trans (b11.mono hbo.size)
          have hbz : b < w11.heap.size := Nat.lt_of_lt_of_le hb b11.size
          have hz11 := hb11.size
          have hb11w : Below w.heap.size w w11 := hbw.trans (b11.mono hzo)
          clear q0 q1 b11 cf
          go_wp2_with fail
          go_quiet (fail)
          go_wp2_with fail
          refine (cL _ (below_drewN (hb11w.alloc hb11w.size _) _)).mono ?_
          rintro e w99 ⟨rfl, b99⟩
          have hbz := (below_drewN (hb11w.alloc hb11w.size _) _).trans (b99.mono (below_drewN (hb11w.alloc hb11w.size _) _).size)
          clear b99
          go_wp2_with fail
          go_ret
          exact ⟨rfl, hbz⟩
        · have e1 : (y.seq == sq) = false := by simpa using he
          have e2 : (y.seq = sq) = False := eq_false he
          have HE := Lib.hid he
          clear he
          go_wp2_with fail
          refine cf.mono ?_
          rintro e w11 ⟨⟨A11, c11, rfl⟩, b11⟩
          have y1 := (b11.cell (p := ⟨b, o + i * 7 + 1, none⟩) hb).trans q1
          have hb11 : Below w10.heap.size w10 w11 := hbo.trans (b11.mono hbo.size)
          have hbz : b < w11.heap.size := Nat.lt_of_lt_of_le hb b11.size
          have hz11 := hb11.size
          clear q0 q1 b11 cf
          go_wp2_with fail
          go_quiet (fail)
          go_wp2_with fail
          go_roundw
          case rel =>
            refine ⟨i + 1, by omega, by go_num, rfl, Lib.hid (fun j hj hji x hx => ?_), below_drewN (hb11.alloc hz11 _) _⟩
            rcases Nat.lt_or_ge j i with h | h
            · exact HAP.out j hj h x hx
            · obtain rfl : j = i := by omega
              rw [HZK.out, HFO.out] at hx
              obtain rfl := Option.some.inj hx
              rw [HZK.out]
              exact HE.out
          case measure => simp [intOf]; omega
    · obtain rfl : i = na := by omega
      have hsw : Hid (mergeS (ses za) (ses zb) = mergeS (ses zb) (ses za)) := Lib.hid (merge_swap (apart_all (by have := HAP.out; rwa [← HNA.out] at this) HB.out))
      have hl12 : Hid (l1 = l2) := Lib.hid (by
        have := hsw.out
        rw [HQ1.out, HQ2.out] at this
        exact (Prod.ext_iff.1 this).1)
      rcases merge_cases (ses za) (ses zb) with ⟨hl64, hmc⟩ | hmc
      rotate_left
      · have hx := hmc.symm.trans HQ1.out
        injection hx with hx1 hx2
        subst hx1 hx2
        have hm0 : m5 = 0 := by have := HL5.out; simpa using this
        subst hm0
        clear hmc
        go_wp2_with fail
        refine (num_any _ _).mono ?_
        rintro e w' ⟨rfl, rfl⟩
        go_wp2_with fail
        refine (cL _ (hbw)).mono ?_
        rintro e w99 ⟨rfl, b99⟩
        have hbz := (hbw).trans (b99.mono (hbw).size)
        clear b99
        go_wp2_with fail
        go_ret
        exact ⟨rfl, hbz⟩
      have hx := hmc.symm.trans HQ1.out
      injection hx with hx1 hx2
      subst hx2
      have HB5 := Lib.hid hx1
      have HI1 : Hid (isS l1 = true) := Lib.hid (by rw [← hx1]; exact both_is HA.out HB.out hl64)
      have hs5 : ses z5 = l1 := HS5.out
      have hrl := ((isS_iff _).1 HI1.out).2
      have cF5 := fun c w' (h : Below w8.heap.size w8 w') => find_any _ z5 c w' (K5 w' h).sz (by rw [hs5]; exact hrl) p5 (by have := HM5.out; have := HL5.out; have := HLM.out; omega)
      have cK5 := fun w' (h : Below w8.heap.size w8 w') => check_any _ z5 w' (K5 w' h).sz (p5.pz _ _) (fun z hz => by
        have h1 := (p5 z hz).1
        have h2 : z.1 ∈ l1 := by rw [← hs5]; exact List.mem_map.2 ⟨z, hz, rfl⟩
        have h3 := (rise_mem hrl _ h2).2
        refine ⟨?_, by rw [h1]; simp, by rw [h1]; intro p hp; cases hp⟩
        unfold fitsB keptB at h3
        simp only [Bool.and_eq_true, decide_eq_true_eq] at h3
        omega) (by have := HM5.out; have := HL5.out; have := HLM.out; omega)
      rw [show chkS (ses z5) = 0 by unfold chkS; rw [hs5, HI1.out]; rfl] at cK5
      have cE := fun w' (h : Below w8.heap.size w8 w') => rsame_yes _ _ z5 z6 w' (K5 w' h).sz (K6 w' h).sz p5 p6 (hs5.trans (hl12.out.trans HS6.out.symm)) (by have := HM5.out; have := HL5.out; have := HLM.out; omega)
      have HS5' := Lib.hid hs5
      clear hmc hx1 hl64 hs5 hrl
      go_wp2_with fail
      refine (num_any _ _).mono ?_
      rintro e w' ⟨rfl, rfl⟩
      go_wp2_with fail
      go_loopw [6, 18, 19, 20] (fun v6 vi _ _ wr => ∃ j : Nat, j ≤ i ∧ vi = .int .i64 (j : Int) ∧ v6 = .bool false ∧ Below wo.heap.size wo wr) (fun _ vi _ _ _ => i - (intOf vi).toNat)
      case atStart => exact ⟨0, Nat.zero_le _, rfl, rfl, Below.refl _ _⟩
      case round =>
        obtain ⟨j, hj, rfl, rfl, hbr⟩ := hrel
        have hbw2 := hbw.trans (hbr.mono hzo)
        have hb8r : Below w8.heap.size w8 wr := hb8t.trans ((hbo.trans (hbr.mono hbo.size)).mono hb8t.size)
        have hzr := hbw2.size
        by_cases hlt2 : j < i
        · have hix : j < za.length := by rw [HNA.out]; exact hlt2
          have hv1 := (KA wr hbw2).arg.sz
          rw [← HNA.out] at hv1
          obtain ⟨b, o, hA0, hb, q0, q1, qq⟩ := hv1.at_ hix
          clear qq
          have hmh : ∃ x, findS za[j].1.client (bothS (ses za) (ses zb)) = some x ∧ za[j].1.seq ≤ x.seq := merge_has HA.out HB.out (List.mem_map.2 ⟨_, List.getElem_mem hix, rfl⟩)
          rw [HB5.out] at hmh
          obtain ⟨⟨⟨cl, sq, r⟩, pv⟩, hzk⟩ : ∃ z, za[j] = z := ⟨_, rfl⟩
          rw [hzk] at q0 q1 hmh
          simp only at q0 q1 hmh
          subst hA0
          obtain ⟨y, hy, hle⟩ := hmh
          have cf := cF5 cl wr hb8r
          unfold FoundZ at cf
          rw [HS5'.out, hy] at cf
          simp only [optS] at cf
          have k0 : (0 ≤ (j : Int)) = True := eq_true (by omega)
          have k1 : ((j : Int) < (i : Int)) = True := eq_true (by omega)
          have hk1 : (j : Int) < (i : Int) := by omega
          have e1 : (y.seq < sq) = False := eq_false (by omega)
          clear hv1 hzk hy hle
          go_wp2_with fail
          refine cf.mono ?_
          rintro e w11 ⟨⟨A11, c11, rfl⟩, b11⟩
          have y1 := (b11.cell (p := ⟨b, o + j * 7 + 1, none⟩) hb).trans q1
          have hb11 : Below wo.heap.size wo w11 := hbr.trans (b11.mono hbr.size)
          have hbz : b < w11.heap.size := Nat.lt_of_lt_of_le hb b11.size
          have hz11 := hb11.size
          clear q0 q1 b11 cf
          go_wp2_with fail
          go_quiet (fail)
          go_wp2_with fail
          go_roundw
          case rel => exact ⟨j + 1, by omega, by go_num, rfl, below_drewN (hb11.alloc hz11 _) _⟩
          case measure => simp [intOf]; omega
        · obtain rfl : j = i := by omega
          go_wp2_with fail
          refine (cE _ hb8r).mono ?_
          rintro e w12 ⟨rfl, b12⟩
          have hb12 := hbw2.trans (b12.mono hzr)
          have hb812 := hb8r.trans (b12.mono hb8r.size)
          clear b12
          go_wp2_with fail
          refine (cK5 _ hb812).mono ?_
          rintro e w13 ⟨rfl, b13⟩
          have hb13 := hb12.trans (b13.mono hb12.size)
          clear b13
          go_wp2_with fail
          refine (num_any _ _).mono ?_
          rintro e w' ⟨rfl, rfl⟩
          go_wp2_with fail
          refine (cL _ (hb13)).mono ?_
          rintro e w99 ⟨rfl, b99⟩
          have hbz := (hb13).trans (b99.mono (hb13).size)
          clear b99
          go_wp2_with fail
          go_ret
          exact ⟨rfl, hbz⟩
end Go.Proofs.YticikmkehobblaaDoor.Ss
