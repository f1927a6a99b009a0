/-
  Parse, the document's: a roll out of a text. Conditions: lengths at most 2^47.
-/
import Derived.Test.YtimodohcihnoiaaDoorRoRow
import Derived.Test.YtimodohcihnoiaaDoorRInt
namespace Go.Proofs.YtimodohcihnoiaaDoor.Ro
open Go.RowKit
open Go.Proofs.YtimodohcihnoiaaDoor.M (tieT untieT intT numT inR untie_spec)

/-- what Int answers, as two numbers -/
def vz (o : Option Int) : Int := o.getD 0
def fz (o : Option Int) : Int := match o with | some _ => 0 | none => 10
theorem intR_form (o : Option Int) : intR o = .tuple #[.int .i64 (vz o), .int .i64 (fz o)] := by cases o <;> rfl
theorem fz_cases (t : List UInt8) : (fz (intT t) = 0 ∧ vz (intT t) = num1 t) ∨ (fz (intT t) = 10 ∧ num1 t = -1) := by
  unfold num1
  cases intT t with
  | some n => exact .inl ⟨rfl, rfl⟩
  | none => exact .inr ⟨rfl, rfl⟩
theorem mem_le_tie : ∀ {l : List (List UInt8)} {x : List UInt8}, x ∈ l → x.length ≤ (tieT l).length
  | y :: l, x, h => by
    rw [M.tieT_cons, List.length_append, M.strand_length]
    rcases List.mem_cons.1 h with rfl | h
    · omega
    · have := mem_le_tie h; omega
theorem tAt_size {s : List UInt8} {ss : List ByteArray} (h : untieT s = some (texts ss)) (i : Nat) : (tAt ss i).size ≤ 1048576 := by
  obtain ⟨e, _, h3⟩ := untie_spec h
  unfold tAt
  rcases Nat.lt_or_ge i ss.length with hi | hi
  · rw [List.getD_eq_getElem?_getD, List.getElem?_eq_getElem hi]
    have h1 := mem_le_tie (l := texts ss) (x := ss[i].data.toList) (List.mem_map.2 ⟨_, List.getElem_mem hi, rfl⟩)
    rw [e] at h3
    have h4 : ss[i].data.toList.length = ss[i].size := by simp
    show (ss[i]).size ≤ _
    omega
  · rw [List.getD_eq_getElem?_getD, List.getElem?_eq_none hi]
    decide
theorem ents_succ (ss : List ByteArray) (k : Nat) : (List.range (k + 1)).map (entAt ss) = (List.range k).map (entAt ss) ++ [entAt ss k] := by rw [List.range_succ, List.map_append]; rfl
theorem ents_len (ss : List ByteArray) (k : Nat) : ((List.range k).map (entAt ss)).length = k := by simp

set_option maxHeartbeats 16000000 in
set_option maxRecDepth 100000 in
theorem rparse_any (s : ByteArray) (w : World) (hs : s.size ≤ 140737488355328) :
    Calls Tryd.prog 11 #[.string s] w fun e w' => GaveR w (parseL s.data.toList) e w' := by
  have cu := runtie_any s (w.alloc (.cells #[.int .i64 0, .int .i64 0, .slice none 0 0] 24)) hs
  have hb0 : Below w.heap.size w (w.alloc (.cells #[.int .i64 0, .int .i64 0, .slice none 0 0] 24)) := (Below.refl _ w).alloc (Nat.le_refl _) _
  have B0 := BoxL.new w Lg.zero (.slice none 0 0)
  obtain ⟨p, hp⟩ : ∃ p, parseL s.data.toList = p := ⟨_, rfl⟩
  rw [hp]
  cases hu : untieT s.data.toList with
  | none =>
    rw [parseL_none hu] at hp
    subst hp
    rw [hu] at cu
    unfold UntieOut at cu
    clear hu
    go_enter Tryd.func11, Tryd.ntmps11
    go_wp2_with fail
    refine cu.mono ?_
    rintro e w1 ⟨rfl, b1⟩
    have hb1 := hb0.trans (b1.mono hb0.size)
    have C0 := B0.keep b1
    clear b1 B0 cu
    unfold Lg.zero at C0
    obtain ⟨p_0, ⟨p_1, p_2, p_3⟩, p_4⟩ := _root_.id C0
    go_wp2_with fail
    exact bodyPost_ret (res_box_tmp Tryd.results11 rfl rfl (C0.put Lg.zero (.slice none 0 0))) rfl ⟨_, rfl, .nil, ((hb1.setCell (p := ⟨w.heap.size, 0, none⟩) (Nat.le_refl _) _).setCell (p := ⟨w.heap.size, 1, none⟩) (Nat.le_refl _) _).setCell (p := ⟨w.heap.size, 2, none⟩) (Nat.le_refl _) _⟩
  | some l =>
    rw [hu] at cu
    unfold UntieOut at cu
    have HU := Lib.hid hu
    have HPP := Lib.hid hp
    clear hu hp
    go_enter Tryd.func11, Tryd.ntmps11
    go_wp2_with fail
    refine cu.mono ?_
    rintro e w1 ⟨⟨v, ss, rfl, hss, hsl⟩, b1⟩
    subst hss
    have hb1 := hb0.trans (b1.mono hb0.size)
    have C0 := B0.keep b1
    clear b1 B0 cu
    unfold Lg.zero at C0
    have hw0 : w.heap.size < w1.heap.size := C0.1
    obtain ⟨A, c, rfl⟩ := hsl.form
    have hsz := Lib.hid (tAt_size HU.out)
    have hcnt : ss.length ≤ 4096 := by have := (untie_spec HU.out).2.1; rwa [texts_length] at this
    obtain ⟨N, hN⟩ : ∃ N, ss.length = N := ⟨_, rfl⟩
    have HN := Lib.hid hN
    have HSL := Lib.hid hsl
    rw [hN] at hcnt ⊢
    clear hsl
    by_cases h2 : N < 2
    · have hpz := parseL_odd HU.out (.inl (by rw [hN]; exact h2))
      rw [HPP.out] at hpz
      subst hpz
      have g1 : ((N : Int) < 2) = True := eq_true (by omega)
      clear h2 hN HPP
      obtain ⟨p_0, ⟨p_1, p_2, p_3⟩, p_4⟩ := _root_.id C0
      go_wp2_with fail
      exact bodyPost_ret (res_box_tmp Tryd.results11 rfl rfl (C0.put Lg.zero (.slice none 0 0))) rfl ⟨_, rfl, .nil, ((hb1.setCell (p := ⟨w.heap.size, 0, none⟩) (Nat.le_refl _) _).setCell (p := ⟨w.heap.size, 1, none⟩) (Nat.le_refl _) _).setCell (p := ⟨w.heap.size, 2, none⟩) (Nat.le_refl _) _⟩
    have g1 : ((N : Int) < 2) = False := eq_false (by omega)
    by_cases h3 : N % 2 = 1
    · have hpz := parseL_odd HU.out (.inr (by rw [hN]; exact h3))
      rw [HPP.out] at hpz
      subst hpz
      have e1 : (((N : Int).tmod 2) == 1) = true := by rw [Int.tmod_eq_emod_of_nonneg (by omega)]; simp; omega
      have e3 : (((N : Int) % 2) == 1) = true := by simp; omega
      clear h2 h3 hN HPP
      obtain ⟨p_0, ⟨p_1, p_2, p_3⟩, p_4⟩ := _root_.id C0
      go_wp2_with fail
      exact bodyPost_ret (res_box_tmp Tryd.results11 rfl rfl (C0.put Lg.zero (.slice none 0 0))) rfl ⟨_, rfl, .nil, ((hb1.setCell (p := ⟨w.heap.size, 0, none⟩) (Nat.le_refl _) _).setCell (p := ⟨w.heap.size, 1, none⟩) (Nat.le_refl _) _).setCell (p := ⟨w.heap.size, 2, none⟩) (Nat.le_refl _) _⟩
    have e1 : (((N : Int).tmod 2) == 1) = false := by rw [Int.tmod_eq_emod_of_nonneg (by omega)]; simp; omega
    have e3 : (((N : Int) % 2) == 1) = false := by simp; omega
    obtain ⟨m, hm⟩ : ∃ m, N = m * 2 + 2 := ⟨(N - 2) / 2, by omega⟩
    have HEV := Lib.hid (parseL_even HU.out (by rw [hN]; exact hm))
    have HBAD := Lib.hid (fun hx => parseL_bad HU.out (by rw [hN]; exact hm) hx)
    rw [HPP.out] at HEV HBAD
    have HM := Lib.hid hm
    obtain ⟨ad, rfl, hadb, z0⟩ := HSL.out.at_ (k := 0) (by omega)
    obtain ⟨ad1, hA1, _, z1⟩ := HSL.out.at_ (k := 1) (by omega)
    obtain rfl : ad = ad1 := Option.some.inj hA1
    rw [← tAt_get (i := 0) (by omega)] at z0
    rw [← tAt_get (i := 1) (by omega)] at z1
    have s0 := hsz.out 0
    have s1 := hsz.out 1
    have h0 := fz_cases (tAt ss 0).data.toList
    have h1 := fz_cases (tAt ss 1).data.toList
    obtain ⟨x0, hx0⟩ : ∃ x, tAt ss 0 = x := ⟨_, rfl⟩
    obtain ⟨x1, hx1⟩ : ∃ x, tAt ss 1 = x := ⟨_, rfl⟩
    rw [hx0] at z0 s0 h0 HEV HBAD
    rw [hx1] at z1 s1 h1 HEV HBAD
    have c0 := fun w => rint_any x0 w (by omega)
    have c1 := fun w => rint_any x1 w (by omega)
    simp only [intR_form] at c0 c1
    obtain ⟨V0, hV0⟩ : ∃ x, vz (intT x0.data.toList) = x := ⟨_, rfl⟩
    obtain ⟨V1, hV1⟩ : ∃ x, vz (intT x1.data.toList) = x := ⟨_, rfl⟩
    obtain ⟨F0, hF0⟩ : ∃ x, fz (intT x0.data.toList) = x := ⟨_, rfl⟩
    obtain ⟨F1, hF1⟩ : ∃ x, fz (intT x1.data.toList) = x := ⟨_, rfl⟩
    rw [hV0, hF0] at c0 h0
    rw [hV1, hF1] at c1 h1
    have H0 := Lib.hid h0
    have H1 := Lib.hid h1
    rw [Addr.add_zero'] at z0
    have z2 : w1.cell? ⟨ad.block, ad.off + 1, none⟩ = some (.string x1) := by simpa [Addr.add] using z1
    obtain ⟨n0, hn0⟩ : ∃ n, w1.heap.size = n := ⟨_, rfl⟩
    have hm2 : m ≤ 4096 := by omega
    have i1 : (0 < N) = True := eq_true (by omega)
    have i2 : ((N : Int) ≤ 1) = False := eq_false (by omega)
    have i3 : ((0 : Int) < (N : Int)) = True := eq_true (by omega)
    have i4 : ((1 : Int) < (N : Int)) = True := eq_true (by omega)
    clear h0 h1 hx0 hx1 hV0 hV1 hF0 hF1 s0 s1 h2 h3 hN hm hA1 HPP
    obtain ⟨p_0, ⟨p_1, p_2, p_3⟩, p_4⟩ := _root_.id C0
    go_wp2_with fail
    refine (c0 _).mono ?_
    rintro e w' ⟨rfl, rfl⟩
    go_wp2_with fail
    refine (c1 _).mono ?_
    rintro e w' ⟨rfl, rfl⟩
    clear p_0 p_1 p_2 p_3 p_4
    clear z0 z1 z2 c0 c1 n0 hn0
    go_wp2_with fail
    have R0 := BoxL.new w1 ⟨V0, V1, []⟩ (.slice none 0 0)
    have hbn : Below w1.heap.size w1 (w1.alloc (.cells #[.int .i64 V0, .int .i64 V1, .slice none 0 0] 24)) := (Below.refl _ w1).alloc (Nat.le_refl _) _
    clear i1 i2 i3 i4
    go_loopw [11, 12, 13] (fun v11 _ _ wr => ∃ (k K : Nat) (v : Value), k ≤ m ∧ v11 = .int .i64 (K : Int) ∧ Hid (K = k * 2 + 2) ∧ BoxL w1.heap.size ⟨V0, V1, []⟩ v wr ∧ OwnE wr (w1.heap.size + 1) v ((List.range k).map (entAt ss)) ∧ Below w1.heap.size w1 wr) (fun v11 _ _ _ => N - (intOf v11).toNat)
    case atStart => exact ⟨0, 2, _, Nat.zero_le _, rfl, Lib.hid rfl, R0, own_nil _ _, hbn⟩
    case round =>
      clear R0 hbn
      revert hrel; revert wr; intro wo hrel
      obtain ⟨k, K, v, hk, rfl, HK, hbx, ho, hbo⟩ := hrel
      have hb1 := hb1.trans (hbo.mono hb1.size)
      have C0 := C0.keep hbo
      obtain ⟨A7, c7, hv7, _⟩ := own_room ho
      rw [ents_len] at hv7
      subst hv7
      by_cases hlt : k < m
      rotate_left
      · obtain rfl : k = m := by omega
        have g1 : ((K : Int) < (N : Int)) = False := eq_false (by have := HK.out; have := HM.out; omega)
        rcases H0.out with ⟨rfl, hv0⟩ | ⟨rfl, hv0⟩
        rotate_left
        · have hpz := HBAD.out (.inl hv0)
          subst hpz
          rcases H1.out with ⟨rfl, _⟩ | ⟨rfl, _⟩
          · clear hlt HBAD HEV H1
            obtain ⟨p_0, ⟨p_1, p_2, p_3⟩, p_4⟩ := _root_.id C0
            obtain ⟨q_0, ⟨q_1, q_2, q_3⟩, q_4⟩ := _root_.id hbx
            go_wp2_with fail
            exact bodyPost_ret (res_box_tmp Tryd.results11 rfl rfl (C0.put Lg.zero (.slice none 0 0))) rfl ⟨_, rfl, .nil, ((hb1.setCell (p := ⟨w.heap.size, 0, none⟩) (Nat.le_refl _) _).setCell (p := ⟨w.heap.size, 1, none⟩) (Nat.le_refl _) _).setCell (p := ⟨w.heap.size, 2, none⟩) (Nat.le_refl _) _⟩
          · clear hlt HBAD HEV H1
            obtain ⟨p_0, ⟨p_1, p_2, p_3⟩, p_4⟩ := _root_.id C0
            obtain ⟨q_0, ⟨q_1, q_2, q_3⟩, q_4⟩ := _root_.id hbx
            go_wp2_with fail
            exact bodyPost_ret (res_box_tmp Tryd.results11 rfl rfl (C0.put Lg.zero (.slice none 0 0))) rfl ⟨_, rfl, .nil, ((hb1.setCell (p := ⟨w.heap.size, 0, none⟩) (Nat.le_refl _) _).setCell (p := ⟨w.heap.size, 1, none⟩) (Nat.le_refl _) _).setCell (p := ⟨w.heap.size, 2, none⟩) (Nat.le_refl _) _⟩
        rcases H1.out with ⟨rfl, hv1⟩ | ⟨rfl, hv1⟩
        rotate_left
        · have hpz := HBAD.out (.inr (.inl hv1))
          subst hpz
          clear hlt HBAD HEV H1
          obtain ⟨p_0, ⟨p_1, p_2, p_3⟩, p_4⟩ := _root_.id C0
          obtain ⟨q_0, ⟨q_1, q_2, q_3⟩, q_4⟩ := _root_.id hbx
          go_wp2_with fail
          exact bodyPost_ret (res_box_tmp Tryd.results11 rfl rfl (C0.put Lg.zero (.slice none 0 0))) rfl ⟨_, rfl, .nil, ((hb1.setCell (p := ⟨w.heap.size, 0, none⟩) (Nat.le_refl _) _).setCell (p := ⟨w.heap.size, 1, none⟩) (Nat.le_refl _) _).setCell (p := ⟨w.heap.size, 2, none⟩) (Nat.le_refl _) _⟩
        have hev := HEV.out
        rw [← hv0, ← hv1] at hev
        have ci := fun w' (h : Below wo.heap.size wo w') => ris_any ⟨V0, V1, (List.range k).map (entAt ss)⟩ (.slice A7 k c7) w' ((SE.of_own ho).below h |>.more h.size) (by rw [ents_len]; omega)
        have HO := Lib.hid ho
        cases hI : isL ⟨V0, V1, (List.range k).map (entAt ss)⟩ with
        | false =>
          rw [if_neg (by simp [hI])] at hev
          subst hev
          rw [hI] at ci
          clear hlt HBAD HEV H1 H0 hv0 hv1 hI ho
          obtain ⟨p_0, ⟨p_1, p_2, p_3⟩, p_4⟩ := _root_.id C0
          obtain ⟨q_0, ⟨q_1, q_2, q_3⟩, q_4⟩ := _root_.id hbx
          go_wp2_with fail
          refine (ci _ (Below.refl _ _)).mono ?_
          rintro e w2 ⟨rfl, b2⟩
          have hb1 := hb1.trans (b2.mono hb1.size)
          have C0 := C0.keep b2
          clear p_0 p_1 p_2 p_3 p_4
          clear q_0 q_1 q_2 q_3 q_4
          clear b2 ci hbx
          obtain ⟨p_0, ⟨p_1, p_2, p_3⟩, p_4⟩ := _root_.id C0
          go_wp2_with fail
          exact bodyPost_ret (res_box_tmp Tryd.results11 rfl rfl (C0.put Lg.zero (.slice none 0 0))) rfl ⟨_, rfl, .nil, ((hb1.setCell (p := ⟨w.heap.size, 0, none⟩) (Nat.le_refl _) _).setCell (p := ⟨w.heap.size, 1, none⟩) (Nat.le_refl _) _).setCell (p := ⟨w.heap.size, 2, none⟩) (Nat.le_refl _) _⟩
        | true =>
          rw [if_pos hI] at hev
          subst hev
          rw [hI] at ci
          clear hlt HBAD HEV H1 H0 hv0 hv1 hI ho
          obtain ⟨p_0, ⟨p_1, p_2, p_3⟩, p_4⟩ := _root_.id C0
          obtain ⟨q_0, ⟨q_1, q_2, q_3⟩, q_4⟩ := _root_.id hbx
          go_wp2_with fail
          refine (ci _ (Below.refl _ _)).mono ?_
          rintro e w2 ⟨rfl, b2⟩
          have hb1 := hb1.trans (b2.mono hb1.size)
          have C0 := C0.keep b2
          have hbx := hbx.keep b2
          have hw1 : w.heap.size < w1.heap.size + 1 := Nat.lt_succ_of_lt hw0
          have HO2 := Lib.hid (own_keep HO.out b2)
          clear p_0 p_1 p_2 p_3 p_4
          clear q_0 q_1 q_2 q_3 q_4
          clear b2 ci
          obtain ⟨p_0, ⟨p_1, p_2, p_3⟩, p_4⟩ := _root_.id C0
          obtain ⟨q_0, ⟨q_1, q_2, q_3⟩, q_4⟩ := _root_.id hbx
          go_wp2_with fail
          exact bodyPost_ret (res_box_tmp Tryd.results11 rfl rfl (C0.put ⟨V0, V1, (List.range k).map (entAt ss)⟩ (.slice A7 k c7))) rfl ⟨_, rfl, ArgE.of_own (own_set (own_set (own_set HO2.out (a := ⟨w.heap.size, 0, none⟩) hw1 _) (a := ⟨w.heap.size, 1, none⟩) hw1 _) (a := ⟨w.heap.size, 2, none⟩) hw1 _), ((hb1.setCell (p := ⟨w.heap.size, 0, none⟩) (Nat.le_refl _) _).setCell (p := ⟨w.heap.size, 1, none⟩) (Nat.le_refl _) _).setCell (p := ⟨w.heap.size, 2, none⟩) (Nat.le_refl _) _⟩
      · have g1 : ((K : Int) < (N : Int)) = True := eq_true (by have := HK.out; have := HM.out; omega)
        have hKN : K + 1 < N := by have := HK.out; have := HM.out; omega
        obtain ⟨K1, hK1⟩ : ∃ K1, K + 1 = K1 := ⟨_, rfl⟩
        have hk1' : K1 = k * 2 + 3 := by have := HK.out; omega
        obtain ⟨ad0, hA0, _, z0⟩ := HSL.out.at_ (k := K) (by have := HN.out; omega)
        obtain rfl : ad = ad0 := Option.some.inj hA0
        obtain ⟨ad1, hA1, _, z1⟩ := HSL.out.at_ (k := K1) (by have := HN.out; omega)
        obtain rfl : ad = ad1 := Option.some.inj hA1
        rw [← tAt_get (i := K) (by have := HN.out; omega)] at z0
        rw [← tAt_get (i := K1) (by have := HN.out; omega)] at z1
        have s0 := hsz.out K
        have hfc := fz_cases (tAt ss K).data.toList
        have hent : entAt ss k = (num1 (tAt ss K).data.toList, tAt ss K1) := by unfold entAt; rw [HK.out, hk1']
        obtain ⟨tx, htx⟩ : ∃ x, tAt ss K = x := ⟨_, rfl⟩
        obtain ⟨ty, hty'⟩ : ∃ x, tAt ss K1 = x := ⟨_, rfl⟩
        rw [htx] at z0 s0 hfc hent
        rw [hty'] at z1 hent
        have cx := fun w => rint_any tx w (by omega)
        simp only [intR_form] at cx
        obtain ⟨V, hV⟩ : ∃ x, vz (intT tx.data.toList) = x := ⟨_, rfl⟩
        obtain ⟨F, hF⟩ : ∃ x, fz (intT tx.data.toList) = x := ⟨_, rfl⟩
        rw [hV, hF] at cx hfc
        have hblk : ∀ i : Nat, (ad.add i).block < w1.heap.size := fun i => by cases i <;> exact hadb
        have y0 := (hbo.cell (p := ad.add K) (hblk K)).trans z0
        have y1 := (hbo.cell (p := ad.add K1) (hblk K1)).trans z1
        have k0 : (0 ≤ (K : Int)) = True := eq_true (by omega)
        have j0 : (0 ≤ (K1 : Int)) = True := eq_true (by omega)
        have j1 : ((K1 : Int) < (N : Int)) = True := eq_true (by omega)
        have j2 : IntKind.i64.wrap ((K : Int) + 1) = (K1 : Int) := by rw [IntKind.wrap_i64] <;> omega
        have HMK : Hid (K + 2 ≤ N ∧ N ≤ 4098) := Lib.hid (by omega)
        rcases hfc with ⟨rfl, hv⟩ | ⟨rfl, hv⟩
        rotate_left
        · have hpz := HBAD.out (.inr (.inr ⟨k, hlt, by rw [hent]; exact hv⟩))
          subst hpz
          clear hlt HBAD HEV H1 H0 hv hV hF htx hty' hA0 hA1 z0 z1 hent hK1 hk1' ho
          obtain ⟨p_0, ⟨p_1, p_2, p_3⟩, p_4⟩ := _root_.id C0
          obtain ⟨q_0, ⟨q_1, q_2, q_3⟩, q_4⟩ := _root_.id hbx
          go_wp2_with fail
          refine (cx _).mono ?_
          rintro e w' ⟨rfl, rfl⟩
          go_wp2_with fail
          exact bodyPost_ret (res_box_tmp Tryd.results11 rfl rfl (C0.put Lg.zero (.slice none 0 0))) rfl ⟨_, rfl, .nil, ((hb1.setCell (p := ⟨w.heap.size, 0, none⟩) (Nat.le_refl _) _).setCell (p := ⟨w.heap.size, 1, none⟩) (Nat.le_refl _) _).setCell (p := ⟨w.heap.size, 2, none⟩) (Nat.le_refl _) _⟩
        · have hew : entAt ss k = (V, ty) := by rw [hent, ← hv]
          have HENT := Lib.hid hew
          obtain ⟨es, hes⟩ : ∃ es, (List.range k).map (entAt ss) = es := ⟨_, rfl⟩
          have hel : es.length = k := by rw [← hes, ents_len]
          rw [hes] at ho
          have HES := Lib.hid hes
          obtain ⟨E, hE⟩ : ∃ E, k = E := ⟨_, rfl⟩
          subst hE
          have HEL := Lib.hid hel
          have HOW := Lib.hid ho
          have hlt1 : k + 1 ≤ m := hlt
          have hzo := hbo.size
          have hn0 := hbx.1
          have hk4 : k ≤ 4096 := by omega
          have hbox : ∀ wx, Below wo.heap.size wo wx → BoxL w1.heap.size ⟨V0, V1, []⟩ (.slice A7 k c7) wx := fun wx h => hbx.keep h
          have hbox1 : ∀ wx, Below (w1.heap.size + 1) wo wx → BoxL w1.heap.size ⟨V0, V1, []⟩ (.slice A7 k c7) wx := fun wx h => hbx.kept (Nat.lt_succ_self _) h
          have hty : ∀ wx, Below wo.heap.size wo wx → wx.cell? (ad.add K1) = some (.string ty) := fun wx h => (h.cell (p := ad.add K1) (by have := hblk K1; omega)).trans y1
          clear HBAD HEV H1 H0 hv hV hF htx hty' hA0 hA1 z0 z1 hent hK1 hk1' ho hew hes hel hlt y1
          obtain ⟨q_0, ⟨q_1, q_2, q_3⟩, q_4⟩ := _root_.id hbx
          go_wp2_with fail
          refine (cx _).mono ?_
          rintro e w' ⟨rfl, rfl⟩
          clear q_0 q_1 q_2 q_3 q_4
          clear cx y0
          go_wp2_with fail
          refine St.wp_region_mixed (RE 9 10 12 w1.heap.size (w1.heap.size + 1) wo es V ty) (fun _ _ => False) (by kernel_rfl) (by kernel_rfl) (by kernel_rfl) (RE.start (by omega)) ?_
          apply St.mix_give
          · rfl
          · intro L u' wx hS hcl hrd hag
            go_simp
            try with_reducible rfl
          · exact fun L u' wx hS => ⟨hS.le, hS.k, hS.a, hS.p, hS.b⟩
          simp only [Act.put, List.setIfInBounds_toArray, List.set_cons_zero, List.set_cons_succ]
          apply St.mix_give
          · rfl
          · intro L u' wx hS hcl hrd hag
            obtain ⟨_, ⟨d0, d1, d2⟩, _⟩ := hbox wx (hS.a (St.not_yet hcl hrd 60 10 (by kernel_rfl)))
            go_simp
            try with_reducible rfl
          · exact fun L u' wx hS => ⟨hS.le, hS.k, hS.a, hS.p, hS.b⟩
          simp only [Act.put, List.setIfInBounds_toArray, List.set_cons_zero, List.set_cons_succ]
          apply St.mix_give
          · rfl
          · intro L u' wx hS hcl hrd hag
            go_simp
            try with_reducible rfl
          · exact fun L u' wx hS => ⟨hS.le, hS.k, hS.a, hS.p, hS.b⟩
          simp only [Act.put, List.setIfInBounds_toArray, List.set_cons_zero, List.set_cons_succ]
          apply St.mix_give
          · rfl
          · intro L u' wx hS hcl hrd hag
            go_simp
            try with_reducible rfl
          · exact fun L u' wx hS => ⟨hS.le, hS.k, hS.a, hS.p, hS.b⟩
          simp only [Act.put, List.setIfInBounds_toArray, List.set_cons_zero, List.set_cons_succ]
          apply St.mix_give
          · rfl
          · intro L u' wx hS hcl hrd hag
            go_simp
            try with_reducible rfl
          · exact fun L u' wx hS => ⟨hS.le, hS.k, hS.a, hS.p, hS.b⟩
          simp only [Act.put, List.setIfInBounds_toArray, List.set_cons_zero, List.set_cons_succ]
          apply St.mix_give
          · rfl
          · intro L u' wx hS hcl hrd hag
            go_simp
            try with_reducible rfl
          · exact fun L u' wx hS => ⟨hS.le, hS.k, hS.a, hS.p, hS.b⟩
          simp only [Act.put, List.setIfInBounds_toArray, List.set_cons_zero, List.set_cons_succ]
          apply St.mix_give
          · rfl
          · intro L u' wx hS hcl hrd hag
            go_simp
            try with_reducible rfl
          · exact fun L u' wx hS => ⟨hS.le, hS.k, hS.a, hS.p, hS.b⟩
          simp only [Act.put, List.setIfInBounds_toArray, List.set_cons_zero, List.set_cons_succ]
          apply St.mix_give
          · rfl
          · intro L u' wx hS hcl hrd hag
            have e1 := hty wx (hS.a (St.not_yet hcl hrd 60 10 (by kernel_rfl)))
            go_simp
            try with_reducible rfl
          · exact fun L u' wx hS => ⟨hS.le, hS.k, hS.a, hS.p, hS.b⟩
          simp only [Act.put, List.setIfInBounds_toArray, List.set_cons_zero, List.set_cons_succ]
          apply St.mix_give
          · rfl
          · intro L u' wx hS hcl hrd hag
            go_simp
            try with_reducible rfl
          · exact fun L u' wx hS => ⟨hS.le, hS.k, hS.a, hS.p, hS.b⟩
          simp only [Act.put, List.setIfInBounds_toArray, List.set_cons_zero, List.set_cons_succ]
          refine St.mix_free (fun z => ∃ g, z = .slice (some ⟨g, 0, none⟩) 1 1) rfl ?_ ?_
          · intro L u' wx hS hcl hrd hag
            refine ⟨_, _, ⟨wx.heap.size, rfl⟩, ?_, hS.made (St.not_yet hcl hrd 60 10 (by kernel_rfl)) (by decide)⟩
            go_simp
            try with_reducible rfl
          rintro y9 ⟨g9, rfl⟩
          simp only [Act.put, List.setIfInBounds_toArray, List.set_cons_zero, List.set_cons_succ]
          refine St.mix_free (fun z => ∃ A c, z = .slice A (k + 1) c) rfl ?_ ?_
          · intro L u' wx hS hcl hrd hag
            obtain ⟨v', w', k1, k2, k3⟩ := hS.app (St.before_ready hcl hrd 60 9 (by kernel_rfl)) hrd.1 (St.not_yet hcl hrd 60 12 (by kernel_rfl)) (by decide) HOW.out (by have := HEL.out; omega) 22
            rw [show u' 9 = .slice (some ⟨g9, 0, none⟩) 1 1 from hag 60 9 (by kernel_rfl)] at k1
            rw [HEL.out] at k2
            exact ⟨v', w', k2, run_append2 rfl rfl rfl k1, k3⟩
          rintro y10 ⟨A10, c10, rfl⟩
          simp only [Act.put, List.setIfInBounds_toArray, List.set_cons_zero, List.set_cons_succ]
          apply St.mix_give
          · rfl
          · intro L u' wx hS hcl hrd hag
            go_simp
            try with_reducible rfl
          · exact fun L u' wx hS => ⟨hS.le, hS.k, hS.a, hS.p, hS.b⟩
          simp only [Act.put, List.setIfInBounds_toArray, List.set_cons_zero, List.set_cons_succ]
          refine St.mix_skip rfl ?_ ?_
          · intro L u' wx hS hcl hrd hag
            have h10 := St.before_ready hcl hrd 60 10 (by kernel_rfl)
            obtain ⟨wy, q1, q2, q3⟩ := hS.b h10
            obtain ⟨rfl, _⟩ := q3.resolve_right (fun h => by rw [hrd.1] at h; cases h.2)
            obtain ⟨_, ⟨d0, d1, d2⟩, dF⟩ := hbox1 wx q1
            have hst := hS.store h10 hrd.1 (by decide)
            rw [show u' 10 = .slice A10 (k + 1) c10 from hag 60 10 (by kernel_rfl)] at hst
            refine ⟨_, ?_, hst⟩
            go_simp
            try with_reducible rfl
          simp only [Act.put]
          refine St.mix_last ?_
          intro L wx hS hall
          obtain ⟨q1, q2, _, wy, q4, q5⟩ := hS.done (hall 10 (by decide)) (hall 12 (by decide)) hbx (Nat.lt_succ_self _)
          have hbn : Below w1.heap.size w1 wx := by
            rw [q5]
            exact (hbo.trans (q4.mono (Nat.le_succ _))).setCell (p := ⟨w1.heap.size, 2, none⟩) (Nat.le_refl _) _
          have q1' : BoxL w1.heap.size ⟨V0, V1, []⟩ (.slice A10 (k + 1) c10) wx := q1
          have q2' : OwnE wx (w1.heap.size + 1) (.slice A10 (k + 1) c10) (es ++ [(V, ty)]) := q2
          have HQ1 := Lib.hid q1'
          have HQ2 := Lib.hid q2'
          have HBN := Lib.hid hbn
          have j5 : IntKind.i64.wrap ((K : Int) + 2) = (K : Int) + 2 := by have := HMK.out; rw [IntKind.wrap_i64] <;> omega
          clear hS hall q1 q2 q4 q5 q1' q2' hbn hbox hbox1 hty
          go_wp2_with fail
          go_roundw
          case rel => exact ⟨k + 1, K + 2, _, hlt1, by go_num, Lib.hid (by have := HK.out; omega), HQ1.out, by rw [ents_succ, HES.out, HENT.out]; exact HQ2.out, HBN.out⟩
          case measure => have := HMK.out; simp [intOf]; omega
end Go.Proofs.YtimodohcihnoiaaDoor.Ro
