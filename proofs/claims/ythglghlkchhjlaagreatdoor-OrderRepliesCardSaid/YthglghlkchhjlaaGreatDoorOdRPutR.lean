/-
  PutReply, the document's: a reply's text. Conditions: its texts at most 2^20 bytes; its numbers such as a program can hold; at most 2,000 pairs.
-/
import Derived.Test.YthglghlkchhjlaaGreatDoorOdTwA
import Derived.Test.YthglghlkchhjlaaGreatDoorRegA
namespace Go.Proofs.YthglghlkchhjlaaGreatDoor.Od
open Go.RowKit Bnd
open Go.Proofs.YthglghlkchhjlaaGreatDoor.M (tieT numT inR)
open Ds (nb nb_size own_new)

/-- two texts are put behind the others, whichever operation comes first -/
structure RS (N : Nat) (W : World) (xs : List ByteArray) (x y : ByteArray) (L : Nat → Bool) (u : Nat → Value) (wx : World) : Prop where
  w0 : L 13 = false → wx = W.drew
  w1 : L 13 = true → L 14 = false → wx = W.drew.alloc (.cells #[.string x, .string y] 9)
  wa : L 14 = true → Below N W wx ∧ wx.ownsRow N 9 1 (u 14) (xs ++ [x, y]).length ((xs ++ [x, y]).map Value.string)

set_option maxHeartbeats 8000000 in
set_option maxRecDepth 100000 in
theorem rputR_any (r : Rep) (s : Value) (w : World) (hs : SP w w.heap.size s r.ps) (h : FitR r) : Calls Tryz.prog 22 #[rv r s] w fun e w' => e = .returned (str (putR r)) ∧ Below w.heap.size w w' := by
  obtain ⟨A, c, rfl⟩ := hs.form
  have hfew := few_strR h
  have HT := Lib.hid (texts_strR r)
  have c1 : ∀ n w, inR n → Calls Tryz.prog 54 #[.int .i64 n] w fun e w' => e = .returned (.string (nb n)) ∧ Below w.heap.size w w' := fun n w h => ((rnum_any n w h).mono fun e w2 h => ⟨h.1, h.2 ▸ Below.refl _ _⟩)
  obtain ⟨ps, hps⟩ : ∃ ps, r.ps = ps := ⟨_, rfl⟩
  obtain ⟨W1, hW1⟩ : ∃ W1, w.alloc (.cells #[.int .i64 r.code, .int .i64 r.err, .bool r.has, .string r.val, .slice A ps.length c] 37) = W1 := ⟨_, rfl⟩
  rw [hps] at hs ⊢
  have B0 : BoxR w.heap.size r (.slice A ps.length c) W1 := hW1 ▸ BoxR.new w r (.slice A ps.length c)
  have hz1 : W1.heap.size = w.heap.size + 1 := by rw [← hW1]; simp
  have hbw1 : Below w.heap.size w W1 := by rw [← hW1]; exact (Below.refl _ w).alloc (Nat.le_refl _) _
  have hs1 : SP W1 w.heap.size (.slice A ps.length c) ps := hs.below hbw1
  have call : ∀ n wx, inR n → Below W1.heap.size W1 wx → Calls Tryz.prog 54 #[.int .i64 n] wx fun e w' => e = .returned (.string (nb n)) ∧ Below W1.heap.size W1 w' := by
    intro n wx hn hx
    refine (c1 n wx hn).mono ?_
    rintro e w' ⟨rfl, b⟩
    exact ⟨rfl, hx.trans (b.mono hx.size)⟩
  have call2 : ∀ wx, Below W1.heap.size W1 wx → Calls Tryz.prog 55 #[.bool r.has] wx fun e w' => e = .returned (.string (tb r.has)) ∧ Below W1.heap.size W1 w' := by
    intro wx hx
    refine (rtruth_any r.has wx).mono ?_
    rintro e w' ⟨rfl, rfl⟩
    exact ⟨rfl, hx⟩
  have hI1 := h.code
  have hI2 := h.err
  have hln : ps.length ≤ 2000 := hps ▸ h.n
  have hbox : ∀ wx, Below W1.heap.size W1 wx → BoxR w.heap.size r (.slice A ps.length c) wx := fun wx hx => BoxR.kept (N := W1.heap.size) B0 (by omega) hx
  have HPS := Lib.hid hps
  have hz1' := hbw1.size
  clear hps hz1
  go_enter Tryz.func22, Tryz.ntmps22
  go_wp2
  try rw [hW1]
  refine St.wp_region_tail 11 (fun _ wx => Below W1.heap.size W1 wx) (by kernel_rfl) (by kernel_rfl) (by kernel_rfl) (by kernel_rfl) (by decide) (Below.refl _ _).drew ?_
  simp only [List.take, List.drop]
  repeat (first
    | (apply St.step_give
       · rfl
       · intro L wx hS hcl hrd
         obtain ⟨_, ⟨d0, d1, d2, d3, d4⟩, _⟩ := hbox wx hS
         go_simp
         try with_reducible rfl
       · exact fun L wx hS => hS
       simp only [Act.put, List.setIfInBounds_toArray, List.set_cons_zero, List.set_cons_succ])
    | (apply St.step_into
       · rfl
       · intro wx
         go_simp
         exact ⟨rfl, rfl⟩
       · first
         | exact fun L wx hS hcl hrd => call2 wx hS
         | exact fun L wx hS hcl hrd => call _ wx (by first | exact hI1 | exact hI2) hS
       simp only [Act.put, List.setIfInBounds_toArray, List.set_cons_zero, List.set_cons_succ]))
  refine St.step_last ?_
  intro L wx hS _
  clear hI1 hI2 call call2
  have B1 := hbox wx hS
  have hz : W1.heap.size ≤ wx.heap.size := hS.size
  have hown0 := own_new wx W1.heap.size (headR r) hz (by simp [headR])
  have HO := Lib.hid hown0
  have hS1 := hS.alloc hz (.cells #[.string (nb r.code), .string (nb r.err), .string (tb r.has), .string r.val] 9)
  clear hown0 hW1
  obtain ⟨p_0, ⟨p_1, p_2, p_3, p_4, p_5⟩, p_6⟩ := _root_.id B1
  go_wp2_with fail
  clear p_0 p_1 p_2 p_3 p_4 p_5 p_6
  go_loopw [3, 4] (fun v3 vi wr => ∃ k, k ≤ ps.length ∧ vi = .int .i64 (k : Int) ∧ wr.ownsRow W1.heap.size 9 1 v3 (headR r ++ pairsS (ps.take k)).length ((headR r ++ pairsS (ps.take k)).map Value.string) ∧ Below W1.heap.size W1 wr) (fun _ vi _ => ps.length - (intOf vi).toNat)
  case atStart => exact ⟨0, by omega, rfl, by rw [show headR r ++ pairsS (ps.take 0) = headR r by simp [pairsS]]; exact HO.out, hS1⟩
  case round =>
    clear HO hS hS1 B1 hz
    obtain ⟨k, hk, rfl, hown, hbw⟩ := hrel
    have hz := hbw.size
    by_cases hlt : k < ps.length
    · obtain ⟨b, o, rfl, hb, hc1, hc2⟩ := (hs1.below (hbw.mono (by omega))).at_ hlt
      have hbz : b < wr.heap.size := by omega
      have htk := pairsS_take hlt
      obtain ⟨⟨x, y⟩, hm⟩ : ∃ m, ps[k] = m := ⟨_, rfl⟩
      rw [hm] at hc1 hc2 htk
      clear hm
      obtain ⟨xs, hxs⟩ : ∃ xs, headR r ++ pairsS (ps.take k) = xs := ⟨_, rfl⟩
      have hxl : xs.length ≤ 10000 := by rw [← hxs, List.length_append, pairsS_length, List.length_take]; simp [headR]; omega
      rw [hxs] at hown
      have HN := Lib.hid (show headR r ++ pairsS (ps.take (k + 1)) = xs ++ [x, y] by rw [htk, ← List.append_assoc, hxs])
      obtain ⟨A3, c3, rfl⟩ := own_form hown
      have HO := Lib.hid hown
      have hk0 : (0 : Int) ≤ (k : Int) := by omega
      have hk1 : (k : Int) < (ps.length : Int) := by omega
      clear htk hxs hown
      have B1 := hbox wr hbw
      obtain ⟨p_0, ⟨p_1, p_2, p_3, p_4, p_5⟩, p_6⟩ := _root_.id B1
      go_wp2
      have hle2 : W1.heap.size ≤ wr.heap.size := hz
      refine St.wp_region_mixed (RS W1.heap.size wr xs x y) (fun _ _ => False) (by kernel_rfl) (by kernel_rfl) (by kernel_rfl) ⟨fun _ => rfl, fun h => (by cases h), fun h => (by cases h)⟩ ?_
      have hO' := HO.out
      obtain ⟨i0, hi, hz0', hz1', hz2'⟩ := info_parts infoStr
      have hwb : w.heap.size < wr.heap.size := p_0
      have cells : ∀ L u wx, RS W1.heap.size wr xs x y L u wx → L 14 = false → wx.cell? ⟨w.heap.size, 4, none⟩ = some (.slice (some ⟨b, o, none⟩) ps.length c) ∧ wx.cell? ⟨b, o + k * 2, none⟩ = some (.string x) ∧ wx.cell? ⟨b, o + k * 2 + 1, none⟩ = some (.string y) := by
        intro L u wx hS h14
        cases h13 : L 13 with
        | false => rw [hS.w0 h13]; exact ⟨p_5, hc1, hc2⟩
        | true =>
          rw [hS.w1 h13 h14]
          exact ⟨(World.cell?_alloc_lt wr.drew _ ⟨w.heap.size, 4, none⟩ hwb).trans p_5, (World.cell?_alloc_lt wr.drew _ ⟨b, o + k * 2, none⟩ hbz).trans hc1, (World.cell?_alloc_lt wr.drew _ ⟨b, o + k * 2 + 1, none⟩ hbz).trans hc2⟩
      iterate 13
        (apply St.mix_give
         · rfl
         · intro L u' wx hS hcl hrd hag
           obtain ⟨l1, l2, l3⟩ := cells _ _ _ hS (St.not_yet hcl hrd 40 14 (by kernel_rfl))
           go_simp
           try with_reducible rfl
         · exact fun L u' wx hS => ⟨hS.w0, hS.w1, hS.wa⟩
         simp only [Act.put, List.setIfInBounds_toArray, List.set_cons_zero, List.set_cons_succ])
      refine St.mix_free (fun z => z = .slice (some ⟨wr.heap.size, 0, none⟩) 2 2) rfl ?_ ?_
      · intro L u' wx hS hcl hrd hag
        have h14 := St.not_yet hcl hrd 40 14 (by kernel_rfl)
        obtain rfl := hS.w0 hrd.1
        refine ⟨_, _, rfl, ?_, ⟨fun h => (by simp [St.mark] at h), fun _ _ => rfl, fun h => (by rw [show St.mark L 13 14 = L 14 from rfl, h14] at h; cases h)⟩⟩
        go_simp
        try with_reducible rfl
      rintro _ rfl
      simp only [Act.put, List.setIfInBounds_toArray, List.set_cons_zero, List.set_cons_succ]
      refine St.mix_free (fun z => ∃ A c, z = .slice A (xs.length + 2) c) rfl ?_ ?_
      · intro L u' wx hS hcl hrd hag
        have h13 := St.before_ready hcl hrd 40 13 (by kernel_rfl)
        obtain rfl := hS.w1 h13 hrd.1
        obtain ⟨v', w', k1, k2, k3, _⟩ := run_append_own (P := Tryz.prog) (w := wr.drew.alloc (.cells #[.string x, .string y] 9)) W1.heap.size 73 73 9 i0 (.string ⟨#[]⟩) 1 16 Tryz.underlying73 hi hz0' hz1' hz2' rfl (by decide)
          (.slice A3 xs.length c3) xs.length (xs.map Value.string) (hO'.alloc (w := wr.drew) _) ⟨wr.heap.size, 0, none⟩ 2 2 [.string x, .string y] rfl
          (fun j z hz => by
            match j with
            | 0 => simp at hz; subst hz; exact World.cell?_alloc_new wr.drew _ _ 0
            | 1 => simp at hz; subst hz; exact World.cell?_alloc_new wr.drew _ _ 1
            | j + 2 => simp at hz) (fun z hz => by simp at hz; rcases hz with rfl | rfl <;> rfl) (by unfold maxLen; omega) (by omega) (by simp; omega)
        have k2' : w'.ownsRow W1.heap.size 9 1 v' (xs ++ [x, y]).length ((xs ++ [x, y]).map Value.string) := by simpa using k2
        have hbe : Below W1.heap.size wr w' := (((Below.refl _ wr).drew).alloc hle2 _).trans ((Below.refl _ _).grown k3 (by simp; omega) (fun q hq => ((hO'.alloc (w := wr.drew) (.cells #[.string x, .string y] 9)).lt q hq).1))
        refine ⟨v', w', ?_, Ds.run_append2 rfl rfl rfl k1, ⟨fun h => (by rw [show St.mark L 14 13 = L 13 from rfl, h13] at h; cases h), fun _ h => (by simp [St.mark] at h), fun _ => ⟨hbe, k2'⟩⟩⟩
        obtain ⟨A', c', hv'⟩ := own_form k2'
        rw [List.length_append] at hv'
        exact ⟨A', c', hv'⟩
      rintro y9 ⟨A9, c9, rfl⟩
      simp only [Act.put, List.setIfInBounds_toArray, List.set_cons_zero, List.set_cons_succ]
      apply St.mix_give
      · rfl
      · intro L u' wx hS hcl hrd hag
        go_simp
        try with_reducible rfl
      · exact fun L u' wx hS => ⟨hS.w0, hS.w1, hS.wa⟩
      simp only [Act.put, List.setIfInBounds_toArray, List.set_cons_zero, List.set_cons_succ]
      refine St.mix_last ?_
      intro L w2 hS hall
      obtain ⟨b3, O3⟩ := hS.wa (hall 14 (by decide))
      have O3 : w2.ownsRow W1.heap.size 9 1 (.slice A9 (xs.length + 2) c9) (xs ++ [x, y]).length ((xs ++ [x, y]).map Value.string) := O3
      have b4 := hbw.trans b3
      have H3 := Lib.hid O3
      clear p_0 p_1 p_2 p_3 p_4 p_5 p_6
      clear O3 b3 hS hall cells hO' HO
      go_wp2_with fail
      go_roundw
      case rel => exact ⟨k + 1, by omega, by go_num, by rw [HN.out]; simpa using H3.out, b4⟩
      case measure => simp [intOf]; omega
    · obtain rfl : k = ps.length := by omega
      rw [List.take_length] at hown
      obtain ⟨ts, hts⟩ : ∃ ts, headR r ++ pairsS ps = ts := ⟨_, rfl⟩
      have hstr : strR r = ts := by rw [← hts]; unfold strR; rw [HPS.out]
      rw [hts] at hown
      rw [hstr] at hfew HT
      obtain ⟨A3, c3, rfl⟩ := own_form hown
      have ct := (rtie_any _ ts wr (SL.of_own hown) hfew).mono (R' := fun e w2 => e = .returned (str (M.tieT (texts ts))) ∧ Below wr.heap.size wr w2) fun e w2 h => ⟨h.1, h.2 ▸ Below.refl _ _⟩
      have B1 := hbox wr hbw
      obtain ⟨p_0, ⟨p_1, p_2, p_3, p_4, p_5⟩, p_6⟩ := _root_.id B1
      have l0 : ((ps.length : Int) < (ps.length : Int)) = False := eq_false (by omega)
      rw [HT.out] at ct
      clear hown hts hfew hstr
      go_wp2_with fail
      refine ct.mono ?_
      rintro e w1 ⟨rfl, b1⟩
      go_wp2_with fail
      go_ret
      exact ⟨rfl, hbw1.trans ((hbw.trans (b1.mono hz)).mono (by omega))⟩
end Go.Proofs.YthglghlkchhjlaaGreatDoor.Od
