/-
  Merge, the program's. Conditions: bases from 0 to 2^40, at most 50,000 entries; numbers such as a program can hold.
-/
import Derived.Test.YtimodohcihnoiaaDoorRoCut
namespace Go.Proofs.YtimodohcihnoiaaDoor.Ro
open Go.RowKit

/-- what a call answers that makes a roll, and says yes or no -/
def GaveM (w : World) (m : Lg × Bool) (e : Ending) (w' : World) : Prop := ∃ s, e = .returned (.tuple #[lv m.1 s, .bool m.2]) ∧ ArgE w' s m.1.es ∧ Below w.heap.size w w'
theorem merge_no {r : Lg} {ix t : Int} {l : List En} (h : termL r ix ≠ some t) : mergeL r ix t l = (r, false) := by unfold mergeL; rw [if_neg h]
theorem merge_at {r : Lg} {ix t : Int} {l : List En} (h : termL r ix = some t) {K k : Nat} (hK : (ix - r.base).toNat = K) (hk : alikeE (r.es.drop K) l = k) :
    mergeL r ix t l = (if k = l.length then r else ⟨r.base, r.bt, r.es.take (K + k) ++ l.drop k⟩, true) := by
  unfold mergeL
  rw [if_pos h]
  subst hK hk
  rfl
theorem term_in {r : Lg} {ix t : Int} (h : termL r ix = some t) : r.base ≤ ix ∧ ix ≤ r.base + r.es.length := by
  rcases Int.lt_or_le ix r.base with h1 | h1
  · rw [termL_out (.inl h1)] at h; cases h
  · rcases Int.lt_or_le (r.base + r.es.length) ix with h2 | h2
    · rw [termL_out (.inr h2)] at h; cases h
    · exact ⟨h1, h2⟩

set_option maxHeartbeats 8000000 in
set_option maxRecDepth 100000 in
theorem merge_any (r : Lg) (s : Value) (ix t : Int) (vl : Value) (l : List En) (w : World) (hs : ArgE w s r.es) (hvl : ArgE w vl l) (ft : FitL r) (hn : r.es.length ≤ 50000) (hn2 : l.length ≤ 50000) (hi : inI ix) :
    Calls Tryd.prog 32 #[lv r s, .int .i64 ix, .int .i64 t, vl] w fun e w' => GaveM w (mergeL r ix t l) e w' := by
  obtain ⟨A, c, rfl, hc⟩ := hs.room
  obtain ⟨D, d, rfl, hd⟩ := hvl.room
  have cp := fun w' (h : Below w.heap.size w w') => term_any r (.slice A r.es.length c) ix w' (hs.keep h).sm ft hi
  have cu := fun w' (h : Below w.heap.size w w') => upTo_any r A r.es.length c r.es.length w' (hs.keep h) (Nat.le_refl _)
  have cue := fun E w' (h : Below w.heap.size w w') hE => upTo_any r A r.es.length c E w' (hs.keep h) hE
  have b0 := ft.b0
  have b1 := ft.b1
  obtain ⟨i1, i2⟩ := hi
  obtain ⟨base, bt, es⟩ := r
  simp only at cp cu cue hn hc hs b0 b1 ⊢
  obtain ⟨N, hN⟩ : ∃ N, es.length = N := ⟨_, rfl⟩
  obtain ⟨m, hm⟩ : ∃ m, l.length = m := ⟨_, rfl⟩
  have B0 := (BoxL.new w ⟨base, bt, es⟩ (.slice A N c)).alloc (.cells #[.int .i64 0, .int .i64 0, .slice none 0 0] 24)
  have B1 := box2 w (.cells #[.int .i64 base, .int .i64 bt, .slice A N c] 24) Lg.zero (.slice none 0 0)
  have hb0 : Below w.heap.size w ((w.alloc (.cells #[.int .i64 base, .int .i64 bt, .slice A N c] 24)).alloc (.cells #[.int .i64 0, .int .i64 0, .slice none 0 0] 24)) := (by (repeat' (first | with_reducible assumption | with_reducible exact Below.refl _ _ | with_reducible refine Below.alloc ?_ ?_ _ | with_reducible refine Below.setCell ?_ ?_ _ | with_reducible refine Below.drew ?_ | omega | (simp; done) | (simp; omega))))
  have HN := Lib.hid hN
  have hfr := argE_front hs (Nat.le_refl _)
  rw [List.take_of_length_le (Nat.le_refl _)] at hfr
  have hoffA : ∀ E, E ≤ N → Off (w.heap.size + 1) (.slice A E E) := fun E hE b o k c' e hk => by
    cases e
    exact hs.sm.off (Nat.le_succ _) b o _ c rfl (by omega)
  rw [hN] at cp cu cue hfr hc hs ⊢
  rw [hm] at hvl hd ⊢
  have HF := Lib.hid hfr
  have HOF := Lib.hid (hoffA N (Nat.le_refl _))
  cases htt : termL ⟨base, bt, es⟩ ix with
  | none =>
    rw [merge_no (by rw [htt]; simp)]
    rw [htt] at cp
    simp only [termV] at cp
    clear htt hs hvl hN hm hfr ft hoffA cue hc hd
    go_enter Tryd.func32, Tryd.ntmps32
    obtain ⟨p_0, ⟨p_1, p_2, p_3⟩, p_4⟩ := _root_.id B0
    go_wp2_with fail
    refine (cp _ hb0).mono ?_
    rintro e w1 ⟨rfl, b1⟩
    have hb1 := hb0.trans (b1.mono hb0.size)
    have C0 := B0.keep b1
    have C1 := B1.keep b1
    clear p_0 p_1 p_2 p_3 p_4
    clear b1 B0 B1 cp
    obtain ⟨p_0, ⟨p_1, p_2, p_3⟩, p_4⟩ := _root_.id C0
    go_wp2_with fail
    refine (cu _ hb1).mono ?_
    rintro e w2 ⟨rfl, b2⟩
    have hb2 := hb1.trans (b2.mono hb1.size)
    have D1 := C1.keep b2
    clear p_0 p_1 p_2 p_3 p_4
    clear b2 C0 C1 cu
    obtain ⟨q_0, ⟨q_1, q_2, q_3⟩, q_4⟩ := _root_.id D1
    go_wp2_with fail
    have ha := HF.out.keep hb2
    exact bodyPost_ret (res_box_tmp Tryd.results32 rfl rfl (D1.put ⟨base, bt, es⟩ (.slice A N N))) rfl ⟨_, rfl, ((ha.set HOF.out _).set HOF.out _).set HOF.out _, ((hb2.setCell (p := ⟨w.heap.size + 1, 0, none⟩) (show w.heap.size ≤ w.heap.size + 1 by omega) _).setCell (p := ⟨w.heap.size + 1, 1, none⟩) (show w.heap.size ≤ w.heap.size + 1 by omega) _).setCell (p := ⟨w.heap.size + 1, 2, none⟩) (show w.heap.size ≤ w.heap.size + 1 by omega) _⟩
  | some t' =>
    by_cases hne : t' = t
    rotate_left
    · rw [merge_no (by rw [htt]; simpa using hne)]
      rw [htt] at cp
      simp only [termV] at cp
      obtain ⟨n0, m0, l0⟩ := int_no hne
      clear htt hs hvl hN hm hfr ft hoffA cue hc hd hne
      go_enter Tryd.func32, Tryd.ntmps32
      obtain ⟨p_0, ⟨p_1, p_2, p_3⟩, p_4⟩ := _root_.id B0
      go_wp2_with fail
      refine (cp _ hb0).mono ?_
      rintro e w1 ⟨rfl, b1⟩
      have hb1 := hb0.trans (b1.mono hb0.size)
      have C0 := B0.keep b1
      have C1 := B1.keep b1
      clear p_0 p_1 p_2 p_3 p_4
      clear b1 B0 B1 cp
      obtain ⟨p_0, ⟨p_1, p_2, p_3⟩, p_4⟩ := _root_.id C0
      go_wp2_with fail
      refine (cu _ hb1).mono ?_
      rintro e w2 ⟨rfl, b2⟩
      have hb2 := hb1.trans (b2.mono hb1.size)
      have D1 := C1.keep b2
      clear p_0 p_1 p_2 p_3 p_4
      clear b2 C0 C1 cu
      obtain ⟨q_0, ⟨q_1, q_2, q_3⟩, q_4⟩ := _root_.id D1
      go_wp2_with fail
      have ha := HF.out.keep hb2
      exact bodyPost_ret (res_box_tmp Tryd.results32 rfl rfl (D1.put ⟨base, bt, es⟩ (.slice A N N))) rfl ⟨_, rfl, ((ha.set HOF.out _).set HOF.out _).set HOF.out _, ((hb2.setCell (p := ⟨w.heap.size + 1, 0, none⟩) (show w.heap.size ≤ w.heap.size + 1 by omega) _).setCell (p := ⟨w.heap.size + 1, 1, none⟩) (show w.heap.size ≤ w.heap.size + 1 by omega) _).setCell (p := ⟨w.heap.size + 1, 2, none⟩) (show w.heap.size ≤ w.heap.size + 1 by omega) _⟩
    obtain ⟨n0, m0, l0⟩ := int_yes hne
    subst hne
    have hin := term_in htt
    simp only [hN] at hin
    obtain ⟨K, hK⟩ : ∃ K, (ix - base).toNat = K := ⟨_, rfl⟩
    have hKN : K ≤ N := by omega
    obtain ⟨k, hk⟩ : ∃ k, alikeE (es.drop K) l = k := ⟨_, rfl⟩
    rw [merge_at htt hK hk]
    obtain ⟨A1, hs1, ht1⟩ := slice_low A N c K hKN hc
    have hle := alikeE_le (es.drop K) l
    rw [hk, hm] at hle
    have hle1 : K + k ≤ N := by have := hle.1; simp only [List.length_drop] at this; omega
    have hle2 := hle.2
    have hak := fun w' (h : Below w.heap.size w w') => alike_any (.slice A1 (N - K) (c - K)) (.slice D m d) (es.drop K) l w' (ht1 w' es (hs.keep h)).sm (hvl.keep h).sm (by simp; omega)
    rw [hk] at hak
    have j1 : IntKind.i64.wrap (ix - base) = (K : Int) := by rw [IntKind.wrap_i64] <;> omega
    rw [htt] at cp
    simp only [termV] at cp
    by_cases hkm : k = m
    · rw [if_pos (by omega)]
      have g1 : ((k : Int) == (m : Int)) = true := by simp [hkm]
      have g2 : ((k : Int) = (m : Int)) = True := eq_true (by omega)
      clear htt hs hvl hN hm hfr ft hoffA cue hc hd hin hK hKN hk ht1 hle hle1 hle2 hkm
      go_enter Tryd.func32, Tryd.ntmps32
      obtain ⟨p_0, ⟨p_1, p_2, p_3⟩, p_4⟩ := _root_.id B0
      go_wp2_with fail
      refine (cp _ hb0).mono ?_
      rintro e w0 ⟨rfl, b1⟩
      have hb1 := hb0.trans (b1.mono hb0.size)
      have C0 := B0.keep b1
      have C1 := B1.keep b1
      clear p_0 p_1 p_2 p_3 p_4
      clear b1 B0 B1 cp
      obtain ⟨p_0, ⟨p_1, p_2, p_3⟩, p_4⟩ := _root_.id C0
      go_wp2_with fail
      refine (hak _ hb1).mono ?_
      rintro e w1 ⟨rfl, b2⟩
      have hb1 := hb1.trans (b2.mono hb1.size)
      have C0 := C0.keep b2
      have C1 := C1.keep b2
      clear p_0 p_1 p_2 p_3 p_4
      clear b2 hak
      obtain ⟨p_0, ⟨p_1, p_2, p_3⟩, p_4⟩ := _root_.id C0
      go_wp2_with fail
      refine (cu _ hb1).mono ?_
      rintro e w2 ⟨rfl, b2⟩
      have hb2 := hb1.trans (b2.mono hb1.size)
      have D1 := C1.keep b2
      clear p_0 p_1 p_2 p_3 p_4
      clear b2 C0 C1 cu
      obtain ⟨q_0, ⟨q_1, q_2, q_3⟩, q_4⟩ := _root_.id D1
      go_wp2_with fail
      have ha := HF.out.keep hb2
      exact bodyPost_ret (res_box_tmp Tryd.results32 rfl rfl (D1.put ⟨base, bt, es⟩ (.slice A N N))) rfl ⟨_, rfl, ((ha.set HOF.out _).set HOF.out _).set HOF.out _, ((hb2.setCell (p := ⟨w.heap.size + 1, 0, none⟩) (show w.heap.size ≤ w.heap.size + 1 by omega) _).setCell (p := ⟨w.heap.size + 1, 1, none⟩) (show w.heap.size ≤ w.heap.size + 1 by omega) _).setCell (p := ⟨w.heap.size + 1, 2, none⟩) (show w.heap.size ≤ w.heap.size + 1 by omega) _⟩
    · rw [if_neg (by omega)]
      have g1 : ((k : Int) == (m : Int)) = false := by simp; omega
      have g2 : ((k : Int) = (m : Int)) = False := eq_false (by omega)
      obtain ⟨E, hE⟩ : ∃ E, K + k = E := ⟨_, rfl⟩
      have j2 : IntKind.i64.wrap ((K : Int) + (k : Int)) = (E : Int) := by rw [IntKind.wrap_i64] <;> omega
      obtain ⟨A2, hs2, ht2⟩ := slice_low D m d k hle2 hd
      obtain ⟨M, hM⟩ : ∃ M, (es.take E ++ l.drop k).length = M := ⟨_, rfl⟩
      have HM : Hid ((es.take E ++ l.drop k).length = M) := Lib.hid hM
      have hEN : E ≤ N := by omega
      rw [hE]
      have cue2 := fun w' h => cue E w' h hEN
      have hoffE := hoffA E hEN
      have hfrontw := fun w' (h : Below w.heap.size w w') => argE_front (hs.keep h) hEN
      have htailw := fun w' (h : Below w.heap.size w w') => ht2 w' l (hvl.keep h)
      have hEb : E ≤ 50000 := by omega
      have hmb : m ≤ 50000 := by omega
      have HLM := Lib.hid hm
      clear htt hs hvl hN hm hfr ft hoffA cue cu hc hd hin hK hKN hk ht1 ht2 hle hle1 hle2 hkm hE hM HF HOF
      go_enter Tryd.func32, Tryd.ntmps32
      obtain ⟨p_0, ⟨p_1, p_2, p_3⟩, p_4⟩ := _root_.id B0
      go_wp2_with fail
      refine (cp _ hb0).mono ?_
      rintro e w0 ⟨rfl, b1⟩
      have hb1 := hb0.trans (b1.mono hb0.size)
      have C0 := B0.keep b1
      have C1 := B1.keep b1
      clear p_0 p_1 p_2 p_3 p_4
      clear b1 B0 B1 cp
      obtain ⟨p_0, ⟨p_1, p_2, p_3⟩, p_4⟩ := _root_.id C0
      go_wp2_with fail
      refine (hak _ hb1).mono ?_
      rintro e W ⟨rfl, b2⟩
      have hb1 := hb1.trans (b2.mono hb1.size)
      have C0 := C0.keep b2
      have B1' := C1.keep b2
      have hWz := B1'.1
      have hbox : ∀ wx, Below W.heap.size W wx → BoxL w.heap.size ⟨base, bt, es⟩ (.slice A N c) wx := fun wx h => C0.keep h
      have hbox2 : ∀ wx, Below W.heap.size W wx → BoxL (w.heap.size + 1) Lg.zero (.slice none 0 0) wx := fun wx h => B1'.keep h
      have hww : ∀ wx, Below W.heap.size W wx → Below w.heap.size w wx := fun wx h => hb1.trans (h.mono hb1.size)
      have cup := fun wx h => cue2 wx (hww wx h)
      have hfront := fun wx h => hfrontw wx (hww wx h)
      have htail := fun wx h => htailw wx (hww wx h)
      clear p_0 p_1 p_2 p_3 p_4
      clear b2 hak C1 cue2 hfrontw htailw hww
      go_wp2_with fail
      refine St.wp_region_mixed (RC 8 9 (w.heap.size + 1) W base bt M (es.take E ++ l.drop k)) (fun i z => match i with | 4 => z = .agg #[.int .i64 base, .int .i64 bt, .slice A E E] | _ => ∃ A c, z = .agg #[.int .i64 base, .int .i64 bt, .slice A M c]) (by kernel_rfl) (by kernel_rfl) (by kernel_rfl) RC.start ?_
      apply St.mix_give
      · rfl
      · intro L u' wx hS hcl hrd hag
        obtain ⟨_, ⟨d0, d1, d2⟩, _⟩ := hbox wx (hS.a (St.not_yet hcl hrd 60 8 (by kernel_rfl)))
        go_simp
        try with_reducible rfl
      · exact fun L u' wx hS => ⟨hS.a, hS.b, hS.c⟩
      simp only [Act.put, List.setIfInBounds_toArray, List.set_cons_zero, List.set_cons_succ]
      apply St.mix_give
      · rfl
      · intro L u' wx hS hcl hrd hag
        go_simp
        try with_reducible rfl
      · exact fun L u' wx hS => ⟨hS.a, hS.b, hS.c⟩
      simp only [Act.put, List.setIfInBounds_toArray, List.set_cons_zero, List.set_cons_succ]
      apply St.mix_give
      · rfl
      · intro L u' wx hS hcl hrd hag
        go_simp
        try with_reducible rfl
      · exact fun L u' wx hS => ⟨hS.a, hS.b, hS.c⟩
      simp only [Act.put, List.setIfInBounds_toArray, List.set_cons_zero, List.set_cons_succ]
      apply St.mix_give
      · rfl
      · intro L u' wx hS hcl hrd hag
        go_simp
        try with_reducible rfl
      · exact fun L u' wx hS => ⟨hS.a, hS.b, hS.c⟩
      simp only [Act.put, List.setIfInBounds_toArray, List.set_cons_zero, List.set_cons_succ]
      refine St.mix_into (v := .agg #[.int .i64 base, .int .i64 bt, .slice A E E]) (f := 48) (args := #[.agg #[.int .i64 base, .int .i64 bt, .slice A N c], .int .i64 (E : Int)]) rfl rfl ?_ ?_ ?_
      · intro wx
        go_simp
        try with_reducible rfl
      · intro L u' wx hS hcl hrd hag
        have h8 := St.not_yet hcl hrd 60 8 (by kernel_rfl)
        have h9 := St.not_yet hcl hrd 60 9 (by kernel_rfl)
        refine (cup wx (hS.a h8)).mono ?_
        rintro e w' ⟨rfl, hb'⟩
        exact ⟨rfl, hS.call h8 h9 hb' (by decide) (by decide)⟩
      simp only [Act.put, List.setIfInBounds_toArray, List.set_cons_zero, List.set_cons_succ]
      apply St.mix_give
      · rfl
      · intro L u' wx hS hcl hrd hag
        go_simp
        try with_reducible rfl
      · exact fun L u' wx hS => ⟨hS.a, hS.b, hS.c⟩
      simp only [Act.put, List.setIfInBounds_toArray, List.set_cons_zero, List.set_cons_succ]
      apply St.mix_give
      · rfl
      · intro L u' wx hS hcl hrd hag
        go_simp
        try with_reducible rfl
      · exact fun L u' wx hS => ⟨hS.a, hS.b, hS.c⟩
      simp only [Act.put, List.setIfInBounds_toArray, List.set_cons_zero, List.set_cons_succ]
      apply St.mix_give
      · rfl
      · intro L u' wx hS hcl hrd hag
        go_simp
        try with_reducible rfl
      · exact fun L u' wx hS => ⟨hS.a, hS.b, hS.c⟩
      simp only [Act.put, List.setIfInBounds_toArray, List.set_cons_zero, List.set_cons_succ]
      refine St.mix_call (f := 26) (args := #[.agg #[.int .i64 base, .int .i64 bt, .slice A E E], .slice A2 (m - k) (d - k)]) rfl ?_ ?_ ?_
      · intro wx
        go_simp
        try with_reducible rfl
      · intro L u' wx hS hcl hrd hag
        have h9 := St.not_yet hcl hrd 60 9 (by kernel_rfl)
        have hb := hS.a hrd.1
        refine (append_new ⟨base, bt, es.take E⟩ A E E _ (l.drop k) wx (hfront wx hb) (htail wx hb) (by omega) (by simp; omega)).mono ?_
        rintro e w' ⟨v, rfl, ha, hn, hb'⟩
        obtain ⟨A7, c7, hv7, _⟩ := ha.room
        rw [show (appL ⟨base, bt, es.take E⟩ (l.drop k)).es.length = M from HM.out] at hv7
        subst hv7
        refine ⟨_, rfl, ⟨A7, c7, rfl⟩, hS.made hrd.1 h9 (by decide) ha ?_ hb'⟩
        rcases hn with h | h
        · rw [h]; exact hoffE
        · exact h.off (by have := hb.size; omega)
      rintro _ ⟨A7, c7, rfl⟩
      simp only [Act.put, List.setIfInBounds_toArray, List.set_cons_zero, List.set_cons_succ]
      refine St.mix_skip rfl ?_ ?_
      · intro L u' wx hS hcl hrd hag
        have h8 := St.before_ready hcl hrd 60 8 (by kernel_rfl)
        obtain ⟨A8, c8, hu, h1, h2, h3⟩ := hS.b h8 hrd.1
        have hu2 : u' 8 = .agg #[.int .i64 base, .int .i64 bt, .slice A7 M c7] := hag 60 8 (by kernel_rfl)
        have hu3 := hu.symm.trans hu2
        injection hu3 with hu4
        injection hu4 with hu5
        injection hu5 with _ hu6
        injection hu6 with _ hu7
        injection hu7 with hu8 _
        injection hu8 with e1 _ e3
        subst e1 e3
        obtain ⟨_, ⟨d0, d1, d2⟩, dF⟩ := hbox2 wx h3
        refine ⟨(((wx.setCell ⟨w.heap.size + 1, 0, none⟩ (.int .i64 base)).setCell ⟨w.heap.size + 1, 1, none⟩ (.int .i64 bt)).setCell ⟨w.heap.size + 1, 2, none⟩ (.slice A8 M c8)), ?_, ⟨fun h => (by rw [show St.mark L 9 8 = L 8 from rfl, h8] at h; cases h), fun _ h => (by simp [St.mark] at h), fun _ => ⟨A8, c8, wx, h1, h2, h3, rfl⟩⟩⟩
        go_simp
        try with_reducible rfl
      simp only [Act.put]
      apply St.mix_give
      · rfl
      · intro L u' wx hS hcl hrd hag
        go_simp
        try with_reducible rfl
      · exact fun L u' wx hS => ⟨hS.a, hS.b, hS.c⟩
      simp only [Act.put, List.setIfInBounds_toArray, List.set_cons_zero, List.set_cons_succ]
      refine St.mix_last ?_
      intro L wx hS hall
      obtain ⟨A9, c9, hbx, harg, hbel⟩ := hS.done (hall 9 (by decide)) B1'
      have hbz := hbel w.heap.size w hb1 (by omega) rfl
      have HBX := Lib.hid hbx
      have HARG := Lib.hid harg
      have HBZ := Lib.hid hbz
      clear hS hall hbx harg hbel hbz
      go_wp2_with fail
      exact bodyPost_ret (res_box_tmp Tryd.results32 rfl rfl HBX.out) rfl ⟨_, rfl, HARG.out, HBZ.out⟩
end Go.Proofs.YtimodohcihnoiaaDoor.Ro
