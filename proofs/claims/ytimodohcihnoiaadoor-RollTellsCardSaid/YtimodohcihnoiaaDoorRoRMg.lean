/-
  Merge, the document's. Conditions: bases from 0 to 2^40, at most 50,000 entries; numbers such as a program can hold.
-/
import Derived.Test.YtimodohcihnoiaaDoorRoMrg
import Derived.Test.YtimodohcihnoiaaDoorRoPut0
namespace Go.Proofs.YtimodohcihnoiaaDoor.Ro
open Go.RowKit

/-- an append of whatever comes in, told as a run -/
theorem run_append_arg {w : World} {base : Nat} {v : Value} {xs : List En} (hown : OwnE w base v xs) (hbase : base ≤ w.heap.size) {y : Value} {ys : List En} (hy : ArgE w y ys) (hlen : xs.length + ys.length ≤ 1000000) (ty : TypeId) :
    ∃ v' w', (Builtin.append_ #[22, 22] ty #[v, y]).run Tryd.prog w = .ok v' w' ∧ OwnE w' base v' (xs ++ ys) ∧ Below base w w' := by
  obtain ⟨i0, hi, hz0, hz1, hz2⟩ := info_parts infoE
  cases hy with
  | nil =>
    have hrun := run_append_owned_none (P := Tryd.prog) (w := w) base 22 ty 54 i0 2 Tryd.underlying22 hi v xs.length (ecells xs) hown
    exact ⟨v, w, hrun, by simpa using hown, Below.refl _ w⟩
  | some b o c ys hc hn =>
    obtain ⟨v', w', k1, k2, k3, _⟩ := run_append_own (P := Tryd.prog) (w := w) base 22 ty 54 i0 (.agg #[.int .i64 0, .string E0]) 2 24 Tryd.underlying22 hi hz0 hz1 hz2 rfl (by decide) v xs.length (ecells xs) hown ⟨b, o, none⟩ ys.length c (ecells ys) (ecells_length ys) (news_of hn) (ecells_one ys) (by unfold maxLen; omega) (by omega) hbase
    exact ⟨v', w', k1, by show w'.ownsRow _ _ _ _ _ _; rw [List.length_append, ecells_append]; exact k2, (Below.refl _ w).grown k3 hbase (fun k hk => (hown.lt k hk).1)⟩
  | empty ad c =>
    obtain ⟨v', w', k1, k2, k3, _⟩ := run_append_own (P := Tryd.prog) (w := w) base 22 ty 54 i0 (.agg #[.int .i64 0, .string E0]) 2 24 Tryd.underlying22 hi hz0 hz1 hz2 rfl (by decide) v xs.length (ecells xs) hown ad 0 c [] rfl (fun j u h => by simp at h) (fun u h => by simp at h) (by unfold maxLen; simp at hlen; omega) (by simp at hlen; omega) hbase
    exact ⟨v', w', k1, by show w'.ownsRow _ _ _ _ _ _; simpa using k2, (Below.refl _ w).grown k3 hbase (fun k hk => (hown.lt k hk).1)⟩
/-- the region at whose end the parts of two lists are stored into the box n -/
structure RM (n : Nat) (W : World) (xs ys : List En) (L : Nat → Bool) (u : Nat → Value) (wx : World) : Prop where
  a : L 15 = false → Below W.heap.size W wx
  b : L 0 = false → wx = W.drew
  c : L 0 = true → L 9 = false → wx = W.drew.alloc (.cells #[] 54)
  d : L 9 = true → L 13 = false → OwnE wx W.heap.size (u 9) xs
  e : L 13 = true → ∃ wy, Below W.heap.size W wy ∧ OwnE wy W.heap.size (u 13) (xs ++ ys) ∧ (wx = wy ∧ L 15 = false ∨ wx = wy.setCell ⟨n, 2, none⟩ (u 13) ∧ L 15 = true)
theorem slice_front (A : Option Addr) (N c K : Nat) (h : K ≤ N) (hc : N ≤ c) : ∀ w : World, (Instr.slice 22 (.slice A N c) none (some (.int .i64 (K : Int))) none).run Tryd.prog w = .ok (.slice A K c) w := by
  intro w
  have k1 : ((K : Int) ≤ (c : Int)) = True := eq_true (by omega)
  have k2 : (0 ≤ (K : Int)) = True := eq_true (by omega)
  by_cases h0 : c = 0
  · simp [go_sem, Tryd.underlying22, Tryd.sizeOf54, k2, h0]
    omega
  · have k3 : (c = 0) = False := eq_false h0
    cases A <;> simp [go_sem, Tryd.underlying22, Tryd.sizeOf54, k1, k2, k3] <;> omega
theorem argE_frontc {w : World} {A : Option Addr} {n c k : Nat} {es : List En} (h : ArgE w (.slice A n c) es) (hk : k ≤ n) : ArgE w (.slice A k c) (es.take k) := by
  obtain ⟨A', c', e, hc⟩ := h.room
  injection e with e1 e2 e3
  subst e1 e2 e3
  by_cases h0 : k = 0
  · subst h0
    rw [List.take_zero]
    cases A with
    | none => obtain ⟨_, rfl⟩ := h.none_zero; exact .nil
    | some ad => exact .empty ad _
  · obtain ⟨b, o, rfl, hb, _⟩ := h.sm.at_ (k := 0) (by omega)
    have hl : (es.take k).length = k := by simp; omega
    have := ArgE.some (w := w) b o c (es.take k) (by omega) (by
      rw [hl]
      refine ⟨_, c, by rw [hl], fun _ => ⟨b, o, rfl, hb, fun i hi => ?_⟩⟩
      have hi' : i < es.length := by omega
      obtain ⟨b', o', e', _, q0, q1⟩ := h.sm.at_ hi'
      cases e'
      rw [List.getElem_take]
      exact ⟨q0, q1⟩)
    rwa [hl] at this
/-- what is left to be held against each other -/
theorem alike_step {es l : List En} {K i k : Nat} (h : i + alikeE (es.drop (K + i)) (l.drop i) = k) (hi : i < l.length) (hK : K + i < es.length) : (es[K + i].1 = l[i].1 → i + 1 + alikeE (es.drop (K + (i + 1))) (l.drop (i + 1)) = k) ∧ (es[K + i].1 ≠ l[i].1 → i = k) := by
  rw [List.drop_eq_getElem_cons hK, List.drop_eq_getElem_cons hi, alikeE] at h
  refine ⟨fun e => ?_, fun e => ?_⟩
  · rw [if_pos e] at h
    rw [show K + (i + 1) = K + i + 1 by omega]
    omega
  · rw [if_neg e] at h; omega
theorem alike_end {es l : List En} {K i k : Nat} (h : i + alikeE (es.drop (K + i)) (l.drop i) = k) (hK : es.length ≤ K + i ∨ l.length ≤ i) : i = k := by
  rcases hK with hK | hK
  · rw [List.drop_of_length_le hK] at h
    cases h1 : l.drop i with
    | nil => rw [h1] at h; simpa [alikeE] using h
    | cons a b => rw [h1] at h; simpa [alikeE] using h
  · rw [List.drop_of_length_le (l := l) hK] at h
    cases h1 : es.drop (K + i) with
    | nil => rw [h1] at h; simpa [alikeE] using h
    | cons a b => rw [h1] at h; simpa [alikeE] using h

set_option maxHeartbeats 16000000 in
set_option maxRecDepth 100000 in
theorem rmerge_any (r : Lg) (s : Value) (ix t : Int) (vl : Value) (l : List En) (w : World) (hs : ArgE w s r.es) (hvl : ArgE w vl l) (ft : FitL r) (hn : r.es.length ≤ 50000) (hn2 : l.length ≤ 50000) (hi : inI ix) :
    Calls Tryd.prog 33 #[lv r s, .int .i64 ix, .int .i64 t, vl] w fun e w' => GaveM w (mergeL r ix t l) e w' := by
  obtain ⟨A, c, rfl, hc⟩ := hs.room
  obtain ⟨D, d, rfl, hd⟩ := hvl.room
  have crt := fun at_ w' (ha : inI at_) (h : Below w.heap.size w w') => rterm_any r (.slice A r.es.length c) at_ w' (hs.keep h).sm ft ha
  have cp := fun w' (h : Below w.heap.size w w') => crt ix w' hi h
  have hoff0 := hs.sm.off (Nat.le_succ w.heap.size)
  have b0 := ft.b0
  have b1 := ft.b1
  obtain ⟨i1, i2⟩ := hi
  obtain ⟨base, bt, es⟩ := r
  simp only at cp crt hn hc hs hoff0 b0 b1 ⊢
  obtain ⟨N, hN⟩ : ∃ N, es.length = N := ⟨_, rfl⟩
  obtain ⟨m, hm⟩ : ∃ m, l.length = m := ⟨_, rfl⟩
  obtain ⟨W0, hW0⟩ : ∃ W0, (w.alloc (.cells #[.int .i64 base, .int .i64 bt, .slice A N c] 24)).alloc (.cells #[.int .i64 0, .int .i64 0, .slice none 0 0] 24) = W0 := ⟨_, rfl⟩
  have B0 : BoxL w.heap.size ⟨base, bt, es⟩ (.slice A N c) W0 := hW0 ▸ (BoxL.new w ⟨base, bt, es⟩ (.slice A N c)).alloc (.cells #[.int .i64 0, .int .i64 0, .slice none 0 0] 24)
  have B1 : BoxL (w.heap.size + 1) Lg.zero (.slice none 0 0) W0 := hW0 ▸ box2 w (.cells #[.int .i64 base, .int .i64 bt, .slice A N c] 24) Lg.zero (.slice none 0 0)
  have hb0 : Below w.heap.size w W0 := by rw [← hW0]; exact (by (repeat' (first | with_reducible assumption | with_reducible exact Below.refl _ _ | with_reducible refine Below.alloc ?_ ?_ _ | with_reducible refine Below.setCell ?_ ?_ _ | with_reducible refine Below.drew ?_ | omega | (simp; done) | (simp; omega))))
  have HN := Lib.hid hN
  have HM0 := Lib.hid hm
  have hmb : m ≤ 50000 := by omega
  have hNb : N ≤ 50000 := by omega
  rw [hN] at cp crt hoff0 hc hs ⊢
  rw [hm] at hvl hd ⊢
  have HS := Lib.hid hs
  have HOF := Lib.hid hoff0
  cases htt : termL ⟨base, bt, es⟩ ix with
  | none =>
    rw [merge_no (by rw [htt]; simp)]
    rw [htt] at cp
    simp only [termV] at cp
    clear htt hs hvl hN hm ft crt hc hd
    go_enter Tryd.func33, Tryd.ntmps33
    obtain ⟨p_0, ⟨p_1, p_2, p_3⟩, p_4⟩ := _root_.id B0
    go_wp2_with fail
    try rw [hW0]
    refine (cp _ hb0).mono ?_
    rintro e w1 ⟨rfl, b1⟩
    have hb2 := hb0.trans (b1.mono hb0.size)
    have C0 := B0.keep b1
    have C1 := B1.keep b1
    clear p_0 p_1 p_2 p_3 p_4
    clear b1 B0 B1 cp hW0
    obtain ⟨p_0, ⟨p_1, p_2, p_3⟩, p_4⟩ := _root_.id C0
    obtain ⟨q_0, ⟨q_1, q_2, q_3⟩, q_4⟩ := _root_.id C1
    go_wp2_with fail
    have ha := HS.out.keep hb2
    exact bodyPost_ret (res_box_tmp Tryd.results33 rfl rfl (C1.put ⟨base, bt, es⟩ (.slice A N c))) rfl ⟨_, rfl, ((ha.set HOF.out _).set HOF.out _).set HOF.out _, ((hb2.setCell (p := ⟨w.heap.size + 1, 0, none⟩) (show w.heap.size ≤ w.heap.size + 1 by omega) _).setCell (p := ⟨w.heap.size + 1, 1, none⟩) (show w.heap.size ≤ w.heap.size + 1 by omega) _).setCell (p := ⟨w.heap.size + 1, 2, none⟩) (show w.heap.size ≤ w.heap.size + 1 by omega) _⟩
  | some t' =>
    by_cases hne : t' = t
    rotate_left
    · rw [merge_no (by rw [htt]; simpa using hne)]
      rw [htt] at cp
      simp only [termV] at cp
      obtain ⟨n0, m0, l0⟩ := int_no hne
      clear htt hs hvl hN hm ft crt hc hd hne
      go_enter Tryd.func33, Tryd.ntmps33
      obtain ⟨p_0, ⟨p_1, p_2, p_3⟩, p_4⟩ := _root_.id B0
      go_wp2_with fail
      try rw [hW0]
      refine (cp _ hb0).mono ?_
      rintro e w1 ⟨rfl, b1⟩
      have hb2 := hb0.trans (b1.mono hb0.size)
      have C0 := B0.keep b1
      have C1 := B1.keep b1
      clear p_0 p_1 p_2 p_3 p_4
      clear b1 B0 B1 cp hW0
      obtain ⟨p_0, ⟨p_1, p_2, p_3⟩, p_4⟩ := _root_.id C0
      obtain ⟨q_0, ⟨q_1, q_2, q_3⟩, q_4⟩ := _root_.id C1
      go_wp2_with fail
      have ha := HS.out.keep hb2
      exact bodyPost_ret (res_box_tmp Tryd.results33 rfl rfl (C1.put ⟨base, bt, es⟩ (.slice A N c))) rfl ⟨_, rfl, ((ha.set HOF.out _).set HOF.out _).set HOF.out _, ((hb2.setCell (p := ⟨w.heap.size + 1, 0, none⟩) (show w.heap.size ≤ w.heap.size + 1 by omega) _).setCell (p := ⟨w.heap.size + 1, 1, none⟩) (show w.heap.size ≤ w.heap.size + 1 by omega) _).setCell (p := ⟨w.heap.size + 1, 2, none⟩) (show w.heap.size ≤ w.heap.size + 1 by omega) _⟩
    obtain ⟨n0, m0, l0⟩ := int_yes hne
    subst hne
    have hin := term_in htt
    simp only [hN] at hin
    obtain ⟨K, hK⟩ : ∃ K, (ix - base).toNat = K := ⟨_, rfl⟩
    have hKN : K ≤ N := by omega
    have hixK : ix = base + K := by omega
    have HIX := Lib.hid hixK
    obtain ⟨k, hk⟩ : ∃ k, alikeE (es.drop K) l = k := ⟨_, rfl⟩
    obtain ⟨q, hq⟩ : ∃ q, mergeL ⟨base, bt, es⟩ ix t' l = q := ⟨_, rfl⟩
    rw [hq]
    have hqm := hq
    rw [merge_at htt hK hk, hm] at hqm
    rw [htt] at cp
    simp only [termV] at cp
    have HQ := Lib.hid hqm
    have HAL : Hid (0 + alikeE (es.drop (K + 0)) (l.drop 0) = k) := Lib.hid (by simpa using hk)
    have HVL := Lib.hid hvl
    have HT : Hid (∀ i : Nat, K + i ≤ N → inI (ix + 1 + (i : Int)) ∧ (∀ h : K + i < es.length, termL ⟨base, bt, es⟩ (ix + 1 + (i : Int)) = some (es[K + i]).1) ∧ (N ≤ K + i → termL ⟨base, bt, es⟩ (ix + 1 + (i : Int)) = none)) := Lib.hid fun i hiN => ⟨⟨by omega, by omega⟩, fun h => by
      have := termL_at (r := ⟨base, bt, es⟩) h
      simp only at this
      rw [show ix + 1 + (i : Int) = base + 1 + ((K + i : Nat) : Int) by omega]; exact this, fun h => termL_out (.inr (by simp only [hN]; omega))⟩
    have ja : IntKind.i64.wrap (ix + 1) = ix + 1 := by rw [IntKind.wrap_i64] <;> omega
    clear htt hs hvl hN hm ft hin hK hk hq hqm hixK
    go_enter Tryd.func33, Tryd.ntmps33
    obtain ⟨p_0, ⟨p_1, p_2, p_3⟩, p_4⟩ := _root_.id B0
    go_wp2_with fail
    try rw [hW0]
    refine (cp _ hb0).mono ?_
    rintro e w1 ⟨rfl, b1⟩
    have hb1 := hb0.trans (b1.mono hb0.size)
    have C0 := B0.keep b1
    have C1 := B1.keep b1
    clear p_0 p_1 p_2 p_3 p_4
    clear b1 B0 B1 cp hW0 n0 m0 l0
    go_wp2_with fail
    go_loopw [12, 13, 14, 15] (fun v12 _ _ _ wr => ∃ i : Nat, i ≤ m ∧ K + i ≤ N ∧ v12 = .int .i64 (i : Int) ∧ Hid (i + alikeE (es.drop (K + i)) (l.drop i) = k) ∧ Below w1.heap.size w1 wr) (fun v12 _ _ _ _ => m - (intOf v12).toNat)
    case atStart => exact ⟨0, Nat.zero_le _, by omega, rfl, HAL, Below.refl _ _⟩
    case round =>
      revert hrel; revert wr; intro wo hrel
      obtain ⟨i, him, hiN, rfl, HI, hbo⟩ := hrel
      have hbw := hb1.trans (hbo.mono hb1.size)
      have D0 := C0.keep hbo
      have D1 := C1.keep hbo
      by_cases hlt : i < m
      rotate_left
      · obtain rfl : i = m := by omega
        have hke := alike_end HI.out (.inr (by have := HM0.out; omega))
        have hqq := HQ.out
        rw [if_pos hke.symm] at hqq
        subst hqq
        have g1 : ((i : Int) < (i : Int)) = False := eq_false (by omega)
        have hb2 := hbw
        have hke' := Lib.hid hke
        clear hlt HQ hke
        obtain ⟨p_0, ⟨p_1, p_2, p_3⟩, p_4⟩ := _root_.id D0
        obtain ⟨q_0, ⟨q_1, q_2, q_3⟩, q_4⟩ := _root_.id D1
        go_wp2_with fail
        have ha := HS.out.keep hb2
        exact bodyPost_ret (res_box_tmp Tryd.results33 rfl rfl (D1.put ⟨base, bt, es⟩ (.slice A N c))) rfl ⟨_, rfl, ((ha.set HOF.out _).set HOF.out _).set HOF.out _, ((hb2.setCell (p := ⟨w.heap.size + 1, 0, none⟩) (show w.heap.size ≤ w.heap.size + 1 by omega) _).setCell (p := ⟨w.heap.size + 1, 1, none⟩) (show w.heap.size ≤ w.heap.size + 1 by omega) _).setCell (p := ⟨w.heap.size + 1, 2, none⟩) (show w.heap.size ≤ w.heap.size + 1 by omega) _⟩
      have g1 : ((i : Int) < (m : Int)) = True := eq_true (by omega)
      obtain ⟨hat, hts, htn⟩ := HT.out i hiN
      have jb : IntKind.i64.wrap (ix + 1 + (i : Int)) = ix + 1 + (i : Int) := by obtain ⟨x1, x2⟩ := hat; rw [IntKind.wrap_i64] <;> omega
      have crt2 := fun w' h => crt (ix + 1 + (i : Int)) w' hat h
      have hlx : i < l.length := by rw [HM0.out]; exact hlt
      have hv1 := (HVL.out.keep hbw).sm
      obtain ⟨bl, ol, rfl, hbl, z0, z1⟩ := hv1.at_ hlx
      obtain ⟨⟨tx, ty⟩, htx⟩ : ∃ x, l[i] = x := ⟨_, rfl⟩
      rw [htx] at z0 z1
      simp only at z0 z1
      have k0 : (0 ≤ (i : Int)) = True := eq_true (by omega)
      have hKN2 : (K + i < N ∧ ∃ h : K + i < es.length, es[K + i].1 = tx) ∨ (i = k ∧ (N ≤ K + i ∨ ∃ h : K + i < es.length, es[K + i].1 ≠ tx)) := by
        by_cases h1 : K + i < N
        · have h2 : K + i < es.length := by rw [HN.out]; exact h1
          by_cases h3 : es[K + i].1 = tx
          · exact .inl ⟨h1, h2, h3⟩
          · exact .inr ⟨(alike_step HI.out hlx h2).2 (by rw [htx]; exact h3), .inr ⟨h2, h3⟩⟩
        · exact .inr ⟨alike_end HI.out (.inl (by have := HN.out; omega)), .inl (by omega)⟩
      rcases hKN2 with ⟨h1, h2, h3⟩ | ⟨hik, hor⟩
      · have HI2 : Hid (i + 1 + alikeE (es.drop (K + (i + 1))) (l.drop (i + 1)) = k) := Lib.hid ((alike_step HI.out hlx h2).1 (by rw [htx]; exact h3))
        rw [hts h2, h3] at crt2
        simp only [termV] at crt2
        have n0 : (tx == tx) = true := by simp
        have k1 : i + 1 ≤ m := hlt
        have k2 : K + (i + 1) ≤ N := by omega
        clear hv1 htx hts htn hat hlt hlx h1 h2 h3 HI z1 crt
        obtain ⟨p_0, ⟨p_1, p_2, p_3⟩, p_4⟩ := _root_.id D0
        go_wp2_with fail
        refine (crt2 _ hbw).mono ?_
        rintro e w2 ⟨rfl, b2⟩
        have hb2 := hbo.trans (b2.mono hbo.size)
        have z2 := (b2.cell (p := ⟨bl, ol + i * 2, none⟩) (show bl < wo.heap.size from hbl)).trans z0
        clear p_0 p_1 p_2 p_3 p_4
        clear b2 crt2 D0 D1 z0
        go_wp2_with fail
        go_roundw
        case rel => exact ⟨i + 1, k1, k2, by go_num, HI2, hb2⟩
        case measure => simp [intOf]; omega
      · subst hik
        have hqq := HQ.out
        rw [if_neg (by omega)] at hqq
        obtain ⟨E, hE⟩ : ∃ E, K + i = E := ⟨_, rfl⟩
        rw [hE] at hqq hor hts htn hiN
        obtain ⟨M, hM⟩ : ∃ M, (es.take E ++ l.drop i).length = M := ⟨_, rfl⟩
        obtain ⟨A2, hs2, ht2⟩ := slice_low (some ⟨bl, ol, none⟩) m d i him hd
        have hs3 := slice_front A N c E hiN hc
        have jc : IntKind.i64.wrap (ix + 1 + (i : Int) - base) = (E : Int) + 1 := by have := HIX.out; rw [IntKind.wrap_i64] <;> omega
        have jd : IntKind.i64.wrap ((E : Int) + 1 - 1) = (E : Int) := by rw [IntKind.wrap_i64] <;> omega
        have je : IntKind.i64.wrap (E : Int) = (E : Int) := by rw [IntKind.wrap_i64] <;> omega
        have hEl : (es.take E).length = E := by have := HN.out; simp; omega
        have hfrontw := fun w' (h : Below w.heap.size w w') => argE_frontc (HS.out.keep h) hiN
        have htailw := fun w' (h : Below w.heap.size w w') => ht2 w' l (HVL.out.keep h)
        have hEb : E ≤ 50000 := by omega
        have hlb : l.length ≤ 50000 := hn2
        have HEL := Lib.hid hEl
        have HMM := Lib.hid hM
        subst hqq
        rcases hor with hor | ⟨h2, h3⟩
        · rw [htn hor] at crt2
          simp only [termV] at crt2
          clear hv1 htx hts htn hat hlt hlx HI z1 crt ht2 hor hEl hM HQ HAL hKN
          obtain ⟨p_0, ⟨p_1, p_2, p_3⟩, p_4⟩ := _root_.id D0
          go_wp2_with fail
          refine (crt2 _ hbw).mono ?_
          rintro e W ⟨rfl, b2⟩
          have hbW := hbw.trans (b2.mono hbw.size)
          have F0 := D0.keep b2
          have F1 := D1.keep b2
          have z2 := (b2.cell (p := ⟨bl, ol + i * 2, none⟩) (show bl < wo.heap.size from hbl)).trans z0
          have hbox : ∀ wx, Below W.heap.size W wx → BoxL w.heap.size ⟨base, bt, es⟩ (.slice A N c) wx := fun wx h => F0.keep h
          have hww : ∀ wx, Below W.heap.size W wx → Below w.heap.size w wx := fun wx h => hbW.trans (h.mono hbW.size)
          have hfront := fun wx h => hfrontw wx (hww wx h)
          have htail := fun wx h => htailw wx (hww wx h)
          have hWz := F1.1
          have hz0 := F0.1
          clear p_0 p_1 p_2 p_3 p_4
          clear b2 crt2 D0 D1 z0 hfrontw htailw hbo hbw
          go_wp2_with fail
          have hEl := HEL.out
          have hM := HMM.out
          refine St.wp_region_mixed (RM w.heap.size W (es.take E) (l.drop i)) (fun _ _ => False) (by kernel_rfl) (by kernel_rfl) (by kernel_rfl) ⟨fun _ => (Below.refl _ W).drew, fun _ => rfl, fun h => (by cases h), fun h => (by cases h), fun h => (by cases h)⟩ ?_
          refine St.mix_free (fun z => z = .slice (some ⟨W.heap.size, 0, none⟩) 0 0) rfl ?_ ?_
          · intro L u' wx hS hcl hrd hag
            have h9 := St.not_yet hcl hrd 60 9 (by kernel_rfl)
            have h13 := St.not_yet hcl hrd 60 13 (by kernel_rfl)
            have h15 := St.not_yet hcl hrd 60 15 (by kernel_rfl)
            obtain rfl := hS.b hrd.1
            refine ⟨_, _, rfl, ?_, ⟨fun _ => ((Below.refl _ W).drew).alloc (Nat.le_refl _) _, fun h => (by simp [St.mark] at h), fun _ _ => rfl, fun h => (by rw [show St.mark L 0 9 = L 9 from rfl, h9] at h; cases h), fun h => (by rw [show St.mark L 0 13 = L 13 from rfl, h13] at h; cases h)⟩⟩
            go_simp
            try with_reducible rfl
          rintro _ rfl
          simp only [Act.put, List.setIfInBounds_toArray, List.set_cons_zero, List.set_cons_succ]
          apply St.mix_give
          · rfl
          · intro L u' wx hS hcl hrd hag
            go_simp
            try with_reducible rfl
          · exact fun L u' wx hS => ⟨hS.a, hS.b, hS.c, hS.d, hS.e⟩
          simp only [Act.put, List.setIfInBounds_toArray, List.set_cons_zero, List.set_cons_succ]
          apply St.mix_give
          · rfl
          · intro L u' wx hS hcl hrd hag
            obtain ⟨_, ⟨d0, d1, d2⟩, _⟩ := hbox wx (hS.a (St.not_yet hcl hrd 60 15 (by kernel_rfl)))
            go_simp
            try with_reducible rfl
          · exact fun L u' wx hS => ⟨hS.a, hS.b, hS.c, hS.d, hS.e⟩
          simp only [Act.put, List.setIfInBounds_toArray, List.set_cons_zero, List.set_cons_succ]
          apply St.mix_give
          · rfl
          · intro L u' wx hS hcl hrd hag
            go_simp
            try with_reducible rfl
          · exact fun L u' wx hS => ⟨hS.a, hS.b, hS.c, hS.d, hS.e⟩
          simp only [Act.put, List.setIfInBounds_toArray, List.set_cons_zero, List.set_cons_succ]
          apply St.mix_give
          · rfl
          · intro L u' wx hS hcl hrd hag
            go_simp
            try with_reducible rfl
          · exact fun L u' wx hS => ⟨hS.a, hS.b, hS.c, hS.d, hS.e⟩
          simp only [Act.put, List.setIfInBounds_toArray, List.set_cons_zero, List.set_cons_succ]
          apply St.mix_give
          · rfl
          · intro L u' wx hS hcl hrd hag
            obtain ⟨_, ⟨d0, d1, d2⟩, _⟩ := hbox wx (hS.a (St.not_yet hcl hrd 60 15 (by kernel_rfl)))
            go_simp
            try with_reducible rfl
          · exact fun L u' wx hS => ⟨hS.a, hS.b, hS.c, hS.d, hS.e⟩
          simp only [Act.put, List.setIfInBounds_toArray, List.set_cons_zero, List.set_cons_succ]
          apply St.mix_give
          · rfl
          · intro L u' wx hS hcl hrd hag
            go_simp
            try with_reducible rfl
          · exact fun L u' wx hS => ⟨hS.a, hS.b, hS.c, hS.d, hS.e⟩
          simp only [Act.put, List.setIfInBounds_toArray, List.set_cons_zero, List.set_cons_succ]
          apply St.mix_give
          · rfl
          · intro L u' wx hS hcl hrd hag
            go_simp
            try with_reducible rfl
          · exact fun L u' wx hS => ⟨hS.a, hS.b, hS.c, hS.d, hS.e⟩
          simp only [Act.put, List.setIfInBounds_toArray, List.set_cons_zero, List.set_cons_succ]
          apply St.mix_give
          · rfl
          · intro L u' wx hS hcl hrd hag
            go_simp
            try with_reducible rfl
          · exact fun L u' wx hS => ⟨hS.a, hS.b, hS.c, hS.d, hS.e⟩
          simp only [Act.put, List.setIfInBounds_toArray, List.set_cons_zero, List.set_cons_succ]
          refine St.mix_free (fun z => ∃ A c, z = .slice A E c) rfl ?_ ?_
          · intro L u' wx hS hcl hrd hag
            have h0 := St.before_ready hcl hrd 60 0 (by kernel_rfl)
            have h13 := St.not_yet hcl hrd 60 13 (by kernel_rfl)
            have h15 := St.not_yet hcl hrd 60 15 (by kernel_rfl)
            obtain rfl := hS.c h0 hrd.1
            obtain ⟨v', w', k1, k2, k3⟩ := run_append_arg (own_empty W.drew) (by simp) (hfront _ (((Below.refl _ W).drew).alloc (Nat.le_refl _) _)) (by simp; omega) 22
            have k2' : OwnE w' W.heap.size v' (es.take E) := k2
            have hb' : Below W.heap.size W w' := (((Below.refl _ W).drew).alloc (Nat.le_refl _) _).trans k3
            obtain ⟨A', c', hv', _⟩ := own_room k2'
            rw [hEl] at hv'
            refine ⟨v', w', ⟨A', c', hv'⟩, run_append2 rfl rfl rfl k1, ⟨fun _ => hb', fun h => (by rw [show St.mark L 9 0 = L 0 from rfl, h0] at h; cases h), fun _ h => (by simp [St.mark] at h), fun _ _ => k2', fun h => (by rw [show St.mark L 9 13 = L 13 from rfl, h13] at h; cases h)⟩⟩
          rintro _ ⟨A9, c9, rfl⟩
          simp only [Act.put, List.setIfInBounds_toArray, List.set_cons_zero, List.set_cons_succ]
          apply St.mix_give
          · rfl
          · intro L u' wx hS hcl hrd hag
            go_simp
            try with_reducible rfl
          · exact fun L u' wx hS => ⟨hS.a, hS.b, hS.c, hS.d, hS.e⟩
          simp only [Act.put, List.setIfInBounds_toArray, List.set_cons_zero, List.set_cons_succ]
          apply St.mix_give
          · rfl
          · intro L u' wx hS hcl hrd hag
            go_simp
            try with_reducible rfl
          · exact fun L u' wx hS => ⟨hS.a, hS.b, hS.c, hS.d, hS.e⟩
          simp only [Act.put, List.setIfInBounds_toArray, List.set_cons_zero, List.set_cons_succ]
          apply St.mix_give
          · rfl
          · intro L u' wx hS hcl hrd hag
            go_simp
            try with_reducible rfl
          · exact fun L u' wx hS => ⟨hS.a, hS.b, hS.c, hS.d, hS.e⟩
          simp only [Act.put, List.setIfInBounds_toArray, List.set_cons_zero, List.set_cons_succ]
          refine St.mix_free (fun z => ∃ A c, z = .slice A M c) rfl ?_ ?_
          · intro L u' wx hS hcl hrd hag
            have h0 := St.before_ready hcl hrd 60 0 (by kernel_rfl)
            have h9 := St.before_ready hcl hrd 60 9 (by kernel_rfl)
            have h15 := St.not_yet hcl hrd 60 15 (by kernel_rfl)
            have ho := hS.d h9 hrd.1
            have hb := hS.a h15
            rw [show u' 9 = .slice A9 E c9 from hag 60 9 (by kernel_rfl)] at ho
            obtain ⟨v', w', k1, k2, k3⟩ := run_append_arg ho hb.size (htail _ hb) (by simp; omega) 22
            have hb' : Below W.heap.size W w' := hb.trans k3
            obtain ⟨A', c', hv', _⟩ := own_room k2
            rw [hM] at hv'
            refine ⟨v', w', ⟨A', c', hv'⟩, run_append2 rfl rfl rfl k1, ⟨fun _ => hb', fun h => (by rw [show St.mark L 13 0 = L 0 from rfl, h0] at h; cases h), fun _ h => (by rw [show St.mark L 13 9 = L 9 from rfl, h9] at h; cases h), fun _ h => (by simp [St.mark] at h), fun _ => ⟨w', hb', k2, .inl ⟨rfl, h15⟩⟩⟩⟩
          rintro _ ⟨A13, c13, rfl⟩
          simp only [Act.put, List.setIfInBounds_toArray, List.set_cons_zero, List.set_cons_succ]
          apply St.mix_give
          · rfl
          · intro L u' wx hS hcl hrd hag
            go_simp
            try with_reducible rfl
          · exact fun L u' wx hS => ⟨hS.a, hS.b, hS.c, hS.d, hS.e⟩
          simp only [Act.put, List.setIfInBounds_toArray, List.set_cons_zero, List.set_cons_succ]
          refine St.mix_skip rfl ?_ ?_
          · intro L u' wx hS hcl hrd hag
            have h0 := St.before_ready hcl hrd 60 0 (by kernel_rfl)
            have h9 := St.before_ready hcl hrd 60 9 (by kernel_rfl)
            have h13 := St.before_ready hcl hrd 60 13 (by kernel_rfl)
            obtain ⟨wy, hby, hoy, hw⟩ := hS.e h13
            obtain ⟨rfl, _⟩ := hw.resolve_right (fun h => by rw [hrd.1] at h; cases h.2)
            rw [show u' 13 = .slice A13 M c13 from hag 60 13 (by kernel_rfl)] at hoy
            obtain ⟨_, ⟨d0, d1, d2⟩, dF⟩ := hbox wx hby
            refine ⟨wx.setCell ⟨w.heap.size, 2, none⟩ (.slice A13 M c13), ?_, ⟨fun h => (by simp [St.mark] at h), fun h => (by rw [show St.mark L 15 0 = L 0 from rfl, h0] at h; cases h), fun _ h => (by rw [show St.mark L 15 9 = L 9 from rfl, h9] at h; cases h), fun _ h => (by rw [show St.mark L 15 13 = L 13 from rfl, h13] at h; cases h), fun _ => ⟨wx, hby, by rw [show St.upd u' 15 undef 13 = u' 13 from rfl, show u' 13 = .slice A13 M c13 from hag 60 13 (by kernel_rfl)]; exact hoy, .inr ⟨by rw [show St.upd u' 15 undef 13 = u' 13 from rfl, show u' 13 = .slice A13 M c13 from hag 60 13 (by kernel_rfl)], by simp [St.mark]⟩⟩⟩⟩
            go_simp
            try with_reducible rfl
          simp only [Act.put]
          refine St.mix_last ?_
          intro L wx hS hall
          obtain ⟨wy, hby, hoy, hw⟩ := hS.e (hall 13 (by decide))
          have hwx := (hw.resolve_left (fun h => by rw [hall 15 (by decide)] at h; cases h.2)).1
          have hoy' : OwnE wy W.heap.size (.slice A13 M c13) (es.take E ++ l.drop i) := hoy
          have hwx' : wx = wy.setCell ⟨w.heap.size, 2, none⟩ (.slice A13 M c13) := hwx
          subst hwx'
          have G0 := (hbox wy hby).es (es.take E ++ l.drop i) (.slice A13 M c13)
          have G1 := (F1.keep hby).other (a := ⟨w.heap.size, 2, none⟩) (by simp) (.slice A13 M c13)
          have HO := Lib.hid (fun (u0 u1 u2 : Value) => own_set (own_set (own_set (own_set hoy' (a := ⟨w.heap.size, 2, none⟩) hz0 (.slice A13 M c13)) (a := ⟨w.heap.size + 1, 0, none⟩) hWz u0) (a := ⟨w.heap.size + 1, 1, none⟩) hWz u1) (a := ⟨w.heap.size + 1, 2, none⟩) hWz u2)
          have hb2 := Lib.hid ((hww wy hby).setCell (p := ⟨w.heap.size, 2, none⟩) (Nat.le_refl _) (.slice A13 M c13))
          obtain ⟨WF, hWF⟩ : ∃ WF, wy.setCell ⟨w.heap.size, 2, none⟩ (.slice A13 M c13) = WF := ⟨_, rfl⟩
          rw [hWF] at G0 G1 HO hb2 ⊢
          clear hS hall hw hwx hoy hoy' hby hfront htail hbox hww F0 F1 hWF hEl hM
          obtain ⟨p_0, ⟨p_1, p_2, p_3⟩, p_4⟩ := _root_.id G0
          obtain ⟨q_0, ⟨q_1, q_2, q_3⟩, q_4⟩ := _root_.id G1
          go_wp2_with fail
          exact bodyPost_ret (res_box_tmp Tryd.results33 rfl rfl (G1.put ⟨base, bt, es.take E ++ l.drop i⟩ (.slice A13 M c13))) rfl ⟨_, rfl, ArgE.of_own (HO.out _ _ _), ((hb2.out.setCell (p := ⟨w.heap.size + 1, 0, none⟩) (show w.heap.size ≤ w.heap.size + 1 by omega) _).setCell (p := ⟨w.heap.size + 1, 1, none⟩) (show w.heap.size ≤ w.heap.size + 1 by omega) _).setCell (p := ⟨w.heap.size + 1, 2, none⟩) (show w.heap.size ≤ w.heap.size + 1 by omega) _⟩
        · rw [hts h2] at crt2
          obtain ⟨te, hte⟩ : ∃ te, (es[E]'h2).1 = te := ⟨_, rfl⟩
          rw [hte] at crt2 h3
          simp only [termV] at crt2
          obtain ⟨n0, m0, l0⟩ := int_no h3
          clear hte h2
          clear hv1 htx hts htn hat hlt hlx HI z1 crt ht2 h3 hEl hM HQ HAL hKN
          obtain ⟨p_0, ⟨p_1, p_2, p_3⟩, p_4⟩ := _root_.id D0
          go_wp2_with fail
          refine (crt2 _ hbw).mono ?_
          rintro e W ⟨rfl, b2⟩
          have hbW := hbw.trans (b2.mono hbw.size)
          have F0 := D0.keep b2
          have F1 := D1.keep b2
          have z2 := (b2.cell (p := ⟨bl, ol + i * 2, none⟩) (show bl < wo.heap.size from hbl)).trans z0
          have hbox : ∀ wx, Below W.heap.size W wx → BoxL w.heap.size ⟨base, bt, es⟩ (.slice A N c) wx := fun wx h => F0.keep h
          have hww : ∀ wx, Below W.heap.size W wx → Below w.heap.size w wx := fun wx h => hbW.trans (h.mono hbW.size)
          have hfront := fun wx h => hfrontw wx (hww wx h)
          have htail := fun wx h => htailw wx (hww wx h)
          have hWz := F1.1
          have hz0 := F0.1
          clear p_0 p_1 p_2 p_3 p_4
          clear b2 crt2 D0 D1 z0 hfrontw htailw hbo hbw
          go_wp2_with fail
          have hEl := HEL.out
          have hM := HMM.out
          refine St.wp_region_mixed (RM w.heap.size W (es.take E) (l.drop i)) (fun _ _ => False) (by kernel_rfl) (by kernel_rfl) (by kernel_rfl) ⟨fun _ => (Below.refl _ W).drew, fun _ => rfl, fun h => (by cases h), fun h => (by cases h), fun h => (by cases h)⟩ ?_
          refine St.mix_free (fun z => z = .slice (some ⟨W.heap.size, 0, none⟩) 0 0) rfl ?_ ?_
          · intro L u' wx hS hcl hrd hag
            have h9 := St.not_yet hcl hrd 60 9 (by kernel_rfl)
            have h13 := St.not_yet hcl hrd 60 13 (by kernel_rfl)
            have h15 := St.not_yet hcl hrd 60 15 (by kernel_rfl)
            obtain rfl := hS.b hrd.1
            refine ⟨_, _, rfl, ?_, ⟨fun _ => ((Below.refl _ W).drew).alloc (Nat.le_refl _) _, fun h => (by simp [St.mark] at h), fun _ _ => rfl, fun h => (by rw [show St.mark L 0 9 = L 9 from rfl, h9] at h; cases h), fun h => (by rw [show St.mark L 0 13 = L 13 from rfl, h13] at h; cases h)⟩⟩
            go_simp
            try with_reducible rfl
          rintro _ rfl
          simp only [Act.put, List.setIfInBounds_toArray, List.set_cons_zero, List.set_cons_succ]
          apply St.mix_give
          · rfl
          · intro L u' wx hS hcl hrd hag
            go_simp
            try with_reducible rfl
          · exact fun L u' wx hS => ⟨hS.a, hS.b, hS.c, hS.d, hS.e⟩
          simp only [Act.put, List.setIfInBounds_toArray, List.set_cons_zero, List.set_cons_succ]
          apply St.mix_give
          · rfl
          · intro L u' wx hS hcl hrd hag
            obtain ⟨_, ⟨d0, d1, d2⟩, _⟩ := hbox wx (hS.a (St.not_yet hcl hrd 60 15 (by kernel_rfl)))
            go_simp
            try with_reducible rfl
          · exact fun L u' wx hS => ⟨hS.a, hS.b, hS.c, hS.d, hS.e⟩
          simp only [Act.put, List.setIfInBounds_toArray, List.set_cons_zero, List.set_cons_succ]
          apply St.mix_give
          · rfl
          · intro L u' wx hS hcl hrd hag
            go_simp
            try with_reducible rfl
          · exact fun L u' wx hS => ⟨hS.a, hS.b, hS.c, hS.d, hS.e⟩
          simp only [Act.put, List.setIfInBounds_toArray, List.set_cons_zero, List.set_cons_succ]
          apply St.mix_give
          · rfl
          · intro L u' wx hS hcl hrd hag
            go_simp
            try with_reducible rfl
          · exact fun L u' wx hS => ⟨hS.a, hS.b, hS.c, hS.d, hS.e⟩
          simp only [Act.put, List.setIfInBounds_toArray, List.set_cons_zero, List.set_cons_succ]
          apply St.mix_give
          · rfl
          · intro L u' wx hS hcl hrd hag
            obtain ⟨_, ⟨d0, d1, d2⟩, _⟩ := hbox wx (hS.a (St.not_yet hcl hrd 60 15 (by kernel_rfl)))
            go_simp
            try with_reducible rfl
          · exact fun L u' wx hS => ⟨hS.a, hS.b, hS.c, hS.d, hS.e⟩
          simp only [Act.put, List.setIfInBounds_toArray, List.set_cons_zero, List.set_cons_succ]
          apply St.mix_give
          · rfl
          · intro L u' wx hS hcl hrd hag
            go_simp
            try with_reducible rfl
          · exact fun L u' wx hS => ⟨hS.a, hS.b, hS.c, hS.d, hS.e⟩
          simp only [Act.put, List.setIfInBounds_toArray, List.set_cons_zero, List.set_cons_succ]
          apply St.mix_give
          · rfl
          · intro L u' wx hS hcl hrd hag
            go_simp
            try with_reducible rfl
          · exact fun L u' wx hS => ⟨hS.a, hS.b, hS.c, hS.d, hS.e⟩
          simp only [Act.put, List.setIfInBounds_toArray, List.set_cons_zero, List.set_cons_succ]
          apply St.mix_give
          · rfl
          · intro L u' wx hS hcl hrd hag
            go_simp
            try with_reducible rfl
          · exact fun L u' wx hS => ⟨hS.a, hS.b, hS.c, hS.d, hS.e⟩
          simp only [Act.put, List.setIfInBounds_toArray, List.set_cons_zero, List.set_cons_succ]
          refine St.mix_free (fun z => ∃ A c, z = .slice A E c) rfl ?_ ?_
          · intro L u' wx hS hcl hrd hag
            have h0 := St.before_ready hcl hrd 60 0 (by kernel_rfl)
            have h13 := St.not_yet hcl hrd 60 13 (by kernel_rfl)
            have h15 := St.not_yet hcl hrd 60 15 (by kernel_rfl)
            obtain rfl := hS.c h0 hrd.1
            obtain ⟨v', w', k1, k2, k3⟩ := run_append_arg (own_empty W.drew) (by simp) (hfront _ (((Below.refl _ W).drew).alloc (Nat.le_refl _) _)) (by simp; omega) 22
            have k2' : OwnE w' W.heap.size v' (es.take E) := k2
            have hb' : Below W.heap.size W w' := (((Below.refl _ W).drew).alloc (Nat.le_refl _) _).trans k3
            obtain ⟨A', c', hv', _⟩ := own_room k2'
            rw [hEl] at hv'
            refine ⟨v', w', ⟨A', c', hv'⟩, run_append2 rfl rfl rfl k1, ⟨fun _ => hb', fun h => (by rw [show St.mark L 9 0 = L 0 from rfl, h0] at h; cases h), fun _ h => (by simp [St.mark] at h), fun _ _ => k2', fun h => (by rw [show St.mark L 9 13 = L 13 from rfl, h13] at h; cases h)⟩⟩
          rintro _ ⟨A9, c9, rfl⟩
          simp only [Act.put, List.setIfInBounds_toArray, List.set_cons_zero, List.set_cons_succ]
          apply St.mix_give
          · rfl
          · intro L u' wx hS hcl hrd hag
            go_simp
            try with_reducible rfl
          · exact fun L u' wx hS => ⟨hS.a, hS.b, hS.c, hS.d, hS.e⟩
          simp only [Act.put, List.setIfInBounds_toArray, List.set_cons_zero, List.set_cons_succ]
          apply St.mix_give
          · rfl
          · intro L u' wx hS hcl hrd hag
            go_simp
            try with_reducible rfl
          · exact fun L u' wx hS => ⟨hS.a, hS.b, hS.c, hS.d, hS.e⟩
          simp only [Act.put, List.setIfInBounds_toArray, List.set_cons_zero, List.set_cons_succ]
          apply St.mix_give
          · rfl
          · intro L u' wx hS hcl hrd hag
            go_simp
            try with_reducible rfl
          · exact fun L u' wx hS => ⟨hS.a, hS.b, hS.c, hS.d, hS.e⟩
          simp only [Act.put, List.setIfInBounds_toArray, List.set_cons_zero, List.set_cons_succ]
          refine St.mix_free (fun z => ∃ A c, z = .slice A M c) rfl ?_ ?_
          · intro L u' wx hS hcl hrd hag
            have h0 := St.before_ready hcl hrd 60 0 (by kernel_rfl)
            have h9 := St.before_ready hcl hrd 60 9 (by kernel_rfl)
            have h15 := St.not_yet hcl hrd 60 15 (by kernel_rfl)
            have ho := hS.d h9 hrd.1
            have hb := hS.a h15
            rw [show u' 9 = .slice A9 E c9 from hag 60 9 (by kernel_rfl)] at ho
            obtain ⟨v', w', k1, k2, k3⟩ := run_append_arg ho hb.size (htail _ hb) (by simp; omega) 22
            have hb' : Below W.heap.size W w' := hb.trans k3
            obtain ⟨A', c', hv', _⟩ := own_room k2
            rw [hM] at hv'
            refine ⟨v', w', ⟨A', c', hv'⟩, run_append2 rfl rfl rfl k1, ⟨fun _ => hb', fun h => (by rw [show St.mark L 13 0 = L 0 from rfl, h0] at h; cases h), fun _ h => (by rw [show St.mark L 13 9 = L 9 from rfl, h9] at h; cases h), fun _ h => (by simp [St.mark] at h), fun _ => ⟨w', hb', k2, .inl ⟨rfl, h15⟩⟩⟩⟩
          rintro _ ⟨A13, c13, rfl⟩
          simp only [Act.put, List.setIfInBounds_toArray, List.set_cons_zero, List.set_cons_succ]
          apply St.mix_give
          · rfl
          · intro L u' wx hS hcl hrd hag
            go_simp
            try with_reducible rfl
          · exact fun L u' wx hS => ⟨hS.a, hS.b, hS.c, hS.d, hS.e⟩
          simp only [Act.put, List.setIfInBounds_toArray, List.set_cons_zero, List.set_cons_succ]
          refine St.mix_skip rfl ?_ ?_
          · intro L u' wx hS hcl hrd hag
            have h0 := St.before_ready hcl hrd 60 0 (by kernel_rfl)
            have h9 := St.before_ready hcl hrd 60 9 (by kernel_rfl)
            have h13 := St.before_ready hcl hrd 60 13 (by kernel_rfl)
            obtain ⟨wy, hby, hoy, hw⟩ := hS.e h13
            obtain ⟨rfl, _⟩ := hw.resolve_right (fun h => by rw [hrd.1] at h; cases h.2)
            rw [show u' 13 = .slice A13 M c13 from hag 60 13 (by kernel_rfl)] at hoy
            obtain ⟨_, ⟨d0, d1, d2⟩, dF⟩ := hbox wx hby
            refine ⟨wx.setCell ⟨w.heap.size, 2, none⟩ (.slice A13 M c13), ?_, ⟨fun h => (by simp [St.mark] at h), fun h => (by rw [show St.mark L 15 0 = L 0 from rfl, h0] at h; cases h), fun _ h => (by rw [show St.mark L 15 9 = L 9 from rfl, h9] at h; cases h), fun _ h => (by rw [show St.mark L 15 13 = L 13 from rfl, h13] at h; cases h), fun _ => ⟨wx, hby, by rw [show St.upd u' 15 undef 13 = u' 13 from rfl, show u' 13 = .slice A13 M c13 from hag 60 13 (by kernel_rfl)]; exact hoy, .inr ⟨by rw [show St.upd u' 15 undef 13 = u' 13 from rfl, show u' 13 = .slice A13 M c13 from hag 60 13 (by kernel_rfl)], by simp [St.mark]⟩⟩⟩⟩
            go_simp
            try with_reducible rfl
          simp only [Act.put]
          refine St.mix_last ?_
          intro L wx hS hall
          obtain ⟨wy, hby, hoy, hw⟩ := hS.e (hall 13 (by decide))
          have hwx := (hw.resolve_left (fun h => by rw [hall 15 (by decide)] at h; cases h.2)).1
          have hoy' : OwnE wy W.heap.size (.slice A13 M c13) (es.take E ++ l.drop i) := hoy
          have hwx' : wx = wy.setCell ⟨w.heap.size, 2, none⟩ (.slice A13 M c13) := hwx
          subst hwx'
          have G0 := (hbox wy hby).es (es.take E ++ l.drop i) (.slice A13 M c13)
          have G1 := (F1.keep hby).other (a := ⟨w.heap.size, 2, none⟩) (by simp) (.slice A13 M c13)
          have HO := Lib.hid (fun (u0 u1 u2 : Value) => own_set (own_set (own_set (own_set hoy' (a := ⟨w.heap.size, 2, none⟩) hz0 (.slice A13 M c13)) (a := ⟨w.heap.size + 1, 0, none⟩) hWz u0) (a := ⟨w.heap.size + 1, 1, none⟩) hWz u1) (a := ⟨w.heap.size + 1, 2, none⟩) hWz u2)
          have hb2 := Lib.hid ((hww wy hby).setCell (p := ⟨w.heap.size, 2, none⟩) (Nat.le_refl _) (.slice A13 M c13))
          obtain ⟨WF, hWF⟩ : ∃ WF, wy.setCell ⟨w.heap.size, 2, none⟩ (.slice A13 M c13) = WF := ⟨_, rfl⟩
          rw [hWF] at G0 G1 HO hb2 ⊢
          clear hS hall hw hwx hoy hoy' hby hfront htail hbox hww F0 F1 hWF hEl hM
          obtain ⟨p_0, ⟨p_1, p_2, p_3⟩, p_4⟩ := _root_.id G0
          obtain ⟨q_0, ⟨q_1, q_2, q_3⟩, q_4⟩ := _root_.id G1
          go_wp2_with fail
          exact bodyPost_ret (res_box_tmp Tryd.results33 rfl rfl (G1.put ⟨base, bt, es.take E ++ l.drop i⟩ (.slice A13 M c13))) rfl ⟨_, rfl, ArgE.of_own (HO.out _ _ _), ((hb2.out.setCell (p := ⟨w.heap.size + 1, 0, none⟩) (show w.heap.size ≤ w.heap.size + 1 by omega) _).setCell (p := ⟨w.heap.size + 1, 1, none⟩) (show w.heap.size ≤ w.heap.size + 1 by omega) _).setCell (p := ⟨w.heap.size + 1, 2, none⟩) (show w.heap.size ≤ w.heap.size + 1 by omega) _⟩
end Go.Proofs.YtimodohcihnoiaaDoor.Ro
