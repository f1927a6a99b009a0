/-
  The law KnotBack, walked: it answers true, at every argument. Condition: lists and lengths below 2^47; the library's variables hold what their types allow.
-/
import Derived.Test.YtcodknfffmadfaaDoorLaws4
import Derived.Test.YtcodknfffmadfaaDoorLaws1
namespace Go.Proofs.YtcodknfffmadfaaDoor
open Go.RowKit M

theorem tie_small {ss : List ByteArray} (h : smallB ss = true) : (tieT (texts ss)).length ≤ 22200 := by
  obtain ⟨hf, hl, ht⟩ := few_small h
  have h1 := tie_length (texts ss) (by
    intro x hx
    obtain ⟨s, hs, rfl⟩ := List.mem_map.1 hx
    have := hf.short s hs
    simp; omega)
  have h2 : ((texts ss).map List.length).sum = total ss := by
    unfold total texts
    rw [List.map_map]
    rfl
  rw [texts_length] at h1
  omega

/-- the strand at the front of what is left -/
theorem first_drop {ss : List ByteArray} (h : smallB ss = true) {k : Nat} (hk : k < ss.length) {t : ByteArray} (ht : t.data.toList = tieT (texts (ss.drop k))) :
    ∃ R : ByteArray, firstR t (firstT t.data.toList) = .tuple #[.string ss[k], .string R, .int .i64 0] ∧ R.data.toList = tieT (texts (ss.drop (k + 1))) ∧ R.size < t.size := by
  obtain ⟨hf, hl, _⟩ := few_small h
  have hd : ss.drop k = ss[k] :: ss.drop (k + 1) := List.drop_eq_getElem_cons hk
  have e : t.data.toList = strand ss[k].data.toList ++ tieT (texts (ss.drop (k + 1))) := by rw [ht, hd]; exact tieT_cons _ _
  have hs := hf.short _ (List.getElem_mem hk)
  have hsl := strand_length ss[k].data.toList
  have hn := numT_length (inR_small (n := ss[k].data.toList.length) (by simp; omega))
  have hsz : ss[k].data.toList.length = ss[k].size := by simp
  have htl : t.size = (strand ss[k].data.toList).length + (tieT (texts (ss.drop (k + 1)))).length := by
    have := congrArg List.length e
    simpa using this
  refine ⟨⟨(tieT (texts (ss.drop (k + 1)))).toArray⟩, ?_, rfl, ?_⟩
  · rw [first_some e (by omega)]; rfl
  · show (tieT (texts (ss.drop (k + 1)))).length < t.size
    omega

/-- cut off, it is another knot, or none. -/
theorem untie_cut {ss pp : List ByteArray} {k : Nat} (hk : k < (tieT (texts ss)).length) (h : untieT ((tieT (texts ss)).take k) = some (texts pp)) : pp.length < ss.length ∧ pp = ss.take pp.length := by
  have hs := (untie_spec h).1
  have e : tieT (texts ss) = tieT (texts pp) ++ (tieT (texts ss)).drop k := by rw [← hs, List.take_append_drop]
  obtain ⟨m, hm, hr⟩ := tie_prefix _ _ _ e
  have hne : m ≠ [] := by
    rintro rfl
    rw [tieT_nil] at hr
    have := congrArg List.length hr
    simp at this
    omega
  have hl := congrArg List.length hm
  rw [List.length_append, texts_length, texts_length] at hl
  have hmp := List.length_pos_iff.2 hne
  refine ⟨by omega, texts_inj ?_⟩
  have : texts (ss.take pp.length) = (texts ss).take pp.length := by simp [texts]
  rw [this, hm, List.take_left' (texts_length pp)]

theorem sl_take {w : World} {B : Nat} {ad : Addr} {n c : Nat} {ss : List ByteArray} (h : SL w B (.slice (some ad) n c) ss) (m : Nat) (hm : m < ss.length) : SL w B (.slice (some ad) m c) (ss.take m) := by
  have hl : (ss.take m).length = m := by rw [List.length_take]; omega
  refine ⟨some ad, c, by rw [hl], fun h0 => ⟨ad, rfl, ?_, fun i hi => ?_⟩⟩
  · obtain ⟨ad', e, hb, _⟩ := h.at_ (k := 0) (by omega)
    injection e with e; subst e; exact hb
  · obtain ⟨ad', e, _, hc⟩ := h.at_ (k := i) (by omega)
    injection e with e; subst e
    rw [hc, List.getElem_take]

set_option maxHeartbeats 8000000 in
set_option maxRecDepth 100000 in
theorem walk_back (v : Value) (p : Int) (ss : List ByteArray) (w : World) (hv : ArgSL w v ss) (hp : inR p) (hl : ss.length ≤ 140737488355328) (hs : ∀ s ∈ ss, s.size ≤ 140737488355328) (hg : Good w) :
    Calls Tryd.prog 7 #[v, .int .i64 p] w fun e w' => e = .returned (.bool true) ∧ Below w.heap.size w w' := by
  have hsl := hv.sl
  have cs := fun w hv => small_any v ss w hv hl hs
  cases hb : smallB ss with
  | false =>
    rw [hb] at cs
    go_enter Tryd.func7, Tryd.ntmps7
    go_wp2_with fail
    refine (cs _ hsl).mono ?_
    rintro e w' ⟨rfl, rfl⟩
    go_wp2_with fail
    refine (live_any _ hg).mono ?_
    rintro e w1 ⟨rfl, b1⟩
    go_wp2_with fail
    go_ret
    exact ⟨rfl, b1⟩
  | true =>
    rw [hb] at cs
    obtain ⟨hfew, hlen, htot⟩ := few_small hb
    have htl := tie_small hb
    have HB := Lib.hid hb
    obtain ⟨S, hS⟩ : ∃ S : ByteArray, ⟨(tieT (texts ss)).toArray⟩ = S := ⟨_, rfl⟩
    have hSd : S.data.toList = tieT (texts ss) := by rw [← hS]
    have hSs : S.size ≤ 22200 := by rw [← hS]; exact htl
    have cT : ∀ w, SL w w.heap.size v ss → Calls Tryd.prog 18 #[v] w fun e w' => e = .returned (.string S) ∧ Below w.heap.size w w' := fun w hv => by rw [← hS]; exact tie_any v ss w hv hfew
    have hu : untieT S.data.toList = some (texts ss) := untie_some hSd (by rw [texts_length]; omega) (by simp; omega)
    have cU := fun w hg => untie_any S w (by omega) hg
    rw [hu] at cU
    obtain ⟨A, c, rfl⟩ := hsl.form
    have HS := Lib.hid hSd
    have HU := Lib.hid hu
    have HL := Lib.hid htl
    obtain ⟨n, hn⟩ : ∃ n, n = ss.length := ⟨_, rfl⟩
    have HNn := Lib.hid hn
    rw [← hn] at hlen hl hsl hv cs cT ⊢
    clear hSd hu htl hb hS hn
    go_enter Tryd.func7, Tryd.ntmps7
    go_wp2_with fail
    refine (cs _ hsl).mono ?_
    rintro e w' ⟨rfl, rfl⟩
    go_wp2_with fail
    refine (cT _ hsl).mono ?_
    rintro e w1 ⟨rfl, b1⟩
    have g1 := hg.below b1
    go_wp2_with fail
    refine (cU _ g1).mono ?_
    rintro e w2 ⟨⟨u, ss2, rfl, ht2, hu2⟩, b2'⟩
    obtain rfl := texts_inj ht2
    have b2 := b1.trans (b2'.mono b1.size)
    have g2 := g1.below b2'
    have hsl2 := (hsl.below b2).more b2.size
    clear ht2
    go_wp2_with fail
    refine (num_of _ _).mono ?_
    rintro e w' ⟨rfl, rfl⟩
    go_wp2_with fail
    refine (same_any' _ _ _ _ _ hsl2 hu2 (by rw [← HNn.out]; omega) rfl).mono ?_
    rintro e w3 ⟨rfl, b3'⟩
    have b3 := b2.trans (b3'.mono b2.size)
    have g3 := g2.below b3'
    clear cs cT cU hsl2 hu2 g1 g2 b1 b2 b2' b3'
    go_wp2_with fail
    go_loopw [8, 9] (fun v8 vi wr => ∃ (k : Nat) (t : ByteArray), k ≤ n ∧ vi = .int .i64 (k : Int) ∧ v8 = .string t ∧ Hid (t.data.toList = tieT (texts (ss2.drop k))) ∧ t.size ≤ 22200 ∧ Below w.heap.size w wr) (fun _ vi _ => n - (intOf vi).toNat)
    case atStart => exact ⟨0, S, by omega, rfl, rfl, HS.out, hSs, b3⟩
    case round =>
      obtain ⟨k, t, hk, rfl, rfl, ht, hts, hbw⟩ := hrel
      have gr := hg.below hbw
      by_cases hlt : k < n
      · have hkl : k < ss2.length := by rw [← HNn.out]; exact hlt
        obtain ⟨ad, rfl, hadb, hcell⟩ := (hsl.below hbw).at_ hkl
        obtain ⟨R, hfr, hRd, hRs⟩ := first_drop HB.out hkl ht.out
        have cF := first_any t wr (by omega) gr
        rw [hfr] at cF
        obtain ⟨x, hx⟩ : ∃ x, ss2[k] = x := ⟨_, rfl⟩
        rw [hx] at cF hcell
        have hq := bytes_beq_yes (x := x) rfl
        have HR := Lib.hid hRd
        clear hfr hRd hx ht
        go_wp2_with fail
        refine cF.mono ?_
        rintro e w4 ⟨rfl, b4'⟩
        have hcell4 := (b4'.cell (p := ad.add k) (by rw [add_block]; have := hbw.size; omega)).trans hcell
        have b4 := hbw.trans (b4'.mono hbw.size)
        clear hcell
        go_wp2_with fail
        refine (num_of _ _).mono ?_
        rintro e w' ⟨rfl, rfl⟩
        go_wp2_with fail
        go_roundw
        case rel => exact ⟨k + 1, R, by omega, by go_num, rfl, HR.out, by omega, b4⟩
        case measure => simp [intOf]; omega
      · obtain rfl : k = n := by omega
        have ht0 : t.size = 0 := by
          rw [toList_nil, ht.out, HNn.out, List.drop_length]; rfl
        have hE := empty_no t ht0
        unfold inR at hp
        obtain ⟨hp1, hp2⟩ := hp
        clear ht ht0
        by_cases hneg : p < 0
        · go_wp2_with fail
          refine (live_any _ gr).mono ?_
          rintro e w5 ⟨rfl, b5'⟩
          have b5 := hbw.trans (b5'.mono hbw.size)
          go_wp2_with fail
          go_ret
          exact ⟨rfl, b5⟩
        · by_cases hfar : (S.size : Int) ≤ p
          · go_wp2_with fail
            refine (live_any _ gr).mono ?_
            rintro e w5 ⟨rfl, b5'⟩
            have b5 := hbw.trans (b5'.mono hbw.size)
            go_wp2_with fail
            go_ret
            exact ⟨rfl, b5⟩
          · obtain ⟨m, rfl⟩ : ∃ m : Nat, p = (m : Int) := ⟨p.toNat, by omega⟩
            obtain ⟨P, hP⟩ : ∃ P, S.extract 0 m = P := ⟨_, rfl⟩
            have hPd : P.data.toList = (tieT (texts ss2)).take m := by rw [← hP, take_data, HS.out]
            have hPs : P.size ≤ 22200 := by rw [← hP, ByteArray.size_extract]; omega
            have hm1 : m < (tieT (texts ss2)).length := by
              rw [← HS.out]; simp; omega
            have hi1 : (0 : Int) ≤ (m : Int) := by omega
            have hi2 : (m : Int) ≤ (S.size : Int) := by omega
            have cU := untie_any P wr (by omega) gr
            rw [hPd] at cU
            cases hq : untieT ((tieT (texts ss2)).take m) with
            | none =>
              rw [hq] at cU
              clear hq hPd hm1
              go_wp2_with fail
              refine cU.mono ?_
              rintro e w5 ⟨rfl, b5'⟩
              have b5 := hbw.trans (b5'.mono hbw.size)
              have g5 := gr.below b5'
              go_wp2_with fail
              refine (num_of _ _).mono ?_
              rintro e w' ⟨rfl, rfl⟩
              go_wp2_with fail
              refine (live_any _ g5).mono ?_
              rintro e w6 ⟨rfl, b6'⟩
              have b6 := b5.trans (b6'.mono b5.size)
              go_wp2_with fail
              go_ret
              exact ⟨rfl, b6⟩
            | some l =>
              rw [hq] at cU
              have HQ := Lib.hid hq
              have HM := Lib.hid hm1
              clear hq hPd hm1
              go_wp2_with fail
              refine cU.mono ?_
              rintro e w5 ⟨⟨u5, pp, rfl, ht5, hu5⟩, b5'⟩
              have hcut := untie_cut (pp := pp) HM.out (by rw [ht5]; exact HQ.out)
              obtain ⟨hc1, hc2⟩ := hcut
              have b5 := hbw.trans (b5'.mono hbw.size)
              have g5 := gr.below b5'
              have hu6 := hu5
              obtain ⟨A5, c5, rfl⟩ := hu5.form
              cases hv with
              | nil => exact absurd hc1 (by simp)
              | some ad c ss2 hle hsl' =>
                have hsl5 := (sl_take (hsl'.below b5) pp.length hc1).more b5.size
                rw [← hc2] at hsl5
                have hq1 : (pp.length : Int) < (ss2.length : Int) := by omega
                have hq2 : (pp.length : Int) ≤ (c : Int) := by omega
                have hq3 : pp.length ≤ 1000000000 := by omega
                clear hc2
                go_wp2_with fail
                refine (num_of _ _).mono ?_
                rintro e w' ⟨rfl, rfl⟩
                go_wp2_with fail
                refine (same_any' _ _ _ _ _ hu6 hsl5 hq3 rfl).mono ?_
                rintro e w6 ⟨rfl, b6'⟩
                have b6 := b5.trans (b6'.mono b5.size)
                have g6 := g5.below b6'
                go_wp2_with fail
                refine (live_any _ g6).mono ?_
                rintro e w7 ⟨rfl, b7'⟩
                have b7 := b6.trans (b7'.mono b6.size)
                go_wp2_with fail
                go_ret
                exact ⟨rfl, b7⟩

end Go.Proofs.YtcodknfffmadfaaDoor
