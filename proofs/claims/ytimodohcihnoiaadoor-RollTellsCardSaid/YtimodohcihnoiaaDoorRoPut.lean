/-
  Put, the program's and the document's: the text of a roll. Conditions: numbers such as a program can hold; texts of at most 2^20 bytes; at most 1,000 entries.
-/
import Derived.Test.YtimodohcihnoiaaDoorRoPut0
import Derived.Test.YtimodohcihnoiaaDoorTail
namespace Go.Proofs.YtimodohcihnoiaaDoor.Ro
open Go.RowKit
open Go.Proofs.YtimodohcihnoiaaDoor.M (tieT numT inR)

set_option maxHeartbeats 8000000 in
set_option maxRecDepth 100000 in
theorem put_any (r : Lg) (s : Value) (w : World) (hs : SE w w.heap.size s r.es) (hp : PutL r) :
    Calls Tryd.prog 15 #[lv r s] w fun e w' => e = .returned (str (putL r)) ∧ Below w.heap.size w w' := by
  obtain ⟨A, c, rfl⟩ := hs.form
  have hfew := few_strB hp
  have HT := Lib.hid (texts_strB r)
  have hI1 := hp.base
  have hI2 := hp.bt
  have hes := hp.es
  have hln := hp.n
  clear hp
  have c1 : ∀ n w, inR n → Calls Tryd.prog 42 #[.int .i64 n] w fun e w' => e = .returned (.string (nb n)) ∧ Below w.heap.size w w' := fun n w h => (num_any n w h)
  obtain ⟨base, bt, es⟩ := r
  simp only at hs hI1 hI2 hes hln HT ⊢
  obtain ⟨N, hN⟩ : ∃ N, es.length = N := ⟨_, rfl⟩
  obtain ⟨W1, hW1⟩ : ∃ W1, w.alloc (.cells #[.int .i64 base, .int .i64 bt, .slice A N c] 24) = W1 := ⟨_, rfl⟩
  have B0 : BoxL w.heap.size ⟨base, bt, es⟩ (.slice A N c) W1 := hW1 ▸ BoxL.new w ⟨base, bt, es⟩ (.slice A N c)
  have hz1 : W1.heap.size = w.heap.size + 1 := by rw [← hW1]; simp
  have hbw1 : Below w.heap.size w W1 := by rw [← hW1]; exact (Below.refl _ w).alloc (Nat.le_refl _) _
  have HV := Lib.hid (hs.below hbw1)
  have HN := Lib.hid hN
  have HZ := Lib.hid hz1
  have call : ∀ n wx, inR n → Below W1.heap.size W1 wx → Calls Tryd.prog 42 #[.int .i64 n] wx fun e w' => e = .returned (.string (nb n)) ∧ Below W1.heap.size W1 w' := by
    intro n wx hn hx
    refine (c1 n wx hn).mono ?_
    rintro e w' ⟨rfl, b⟩
    exact ⟨rfl, hx.trans (b.mono hx.size)⟩
  have hbox : ∀ wx, Below W1.heap.size W1 wx → BoxL w.heap.size ⟨base, bt, es⟩ (.slice A N c) wx := fun wx hx => B0.keep hx
  obtain ⟨RS, hRS⟩ : ∃ RS, str (putL ⟨base, bt, es⟩) = RS := ⟨_, rfl⟩
  have HRS := Lib.hid hRS
  rw [hN] at hln ⊢
  rw [hRS]
  clear hs hN hz1 hRS
  go_enter Tryd.func15, Tryd.ntmps15
  go_wp2
  try rw [hW1]
  refine St.wp_region_tail 6 (fun _ wx => Below W1.heap.size W1 wx) (by kernel_rfl) (by kernel_rfl) (by kernel_rfl) (by kernel_rfl) (by decide) (Below.refl _ _).drew ?_
  simp only [List.take, List.drop]
  repeat (first
    | (apply St.step_give
       · rfl
       · intro L wx hS hcl hrd
         obtain ⟨_, ⟨d0, d1, d2⟩, _⟩ := hbox wx hS
         go_simp
         try with_reducible rfl
       · exact fun L wx hS => hS
       simp only [Act.put, List.setIfInBounds_toArray, List.set_cons_zero, List.set_cons_succ])
    | (apply St.step_into
       · rfl
       · intro wx
         go_simp
         exact ⟨rfl, rfl⟩
       · exact fun L wx hS hcl hrd => call _ wx (by first | exact hI1 | exact hI2) hS
       simp only [Act.put, List.setIfInBounds_toArray, List.set_cons_zero, List.set_cons_succ]))
  refine St.step_last ?_
  intro L wx hS _
  clear hI1 hI2 call
  have B1 := hbox wx hS
  have hz : W1.heap.size ≤ wx.heap.size := hS.size
  have hown0 := own_new wx W1.heap.size [nb base, nb bt] hz (by simp)
  have HO0 := Lib.hid hown0
  have hS1 := hS.alloc hz (.cells #[.string (nb base), .string (nb bt)] 9)
  clear hown0 hW1
  obtain ⟨p_0, ⟨p_1, p_2, p_3⟩, p_4⟩ := _root_.id B1
  go_wp2_with fail
  clear p_0 p_1 p_2 p_3 p_4
  go_loopw [3, 5, 16] (fun v3 _ vi wr => ∃ k, k ≤ N ∧ vi = .int .i64 (k : Int) ∧ wr.ownsRow W1.heap.size 9 1 v3 (strB ⟨base, bt, es⟩ k).length ((strB ⟨base, bt, es⟩ k).map Value.string) ∧ Below W1.heap.size W1 wr) (fun _ _ vi _ => N - (intOf vi).toNat)
  case atStart => exact ⟨0, Nat.zero_le _, rfl, by rw [strB_zero]; exact HO0.out, hS1⟩
  case round =>
    clear HO0 hS hS1 B1 hz
    obtain ⟨k, hk, rfl, hown, hbw⟩ := hrel
    have hz := hbw.size
    have C0 := hbox wr hbw
    by_cases hlt : k < N
    rotate_left
    · obtain rfl : k = N := by omega
      obtain ⟨ts, hts⟩ : ∃ ts, strB ⟨base, bt, es⟩ k = ts := ⟨_, rfl⟩
      have hfw := hfew k
      have htt := HT.out
      rw [HN.out, hts] at htt
      rw [hts] at hown hfw
      obtain ⟨A3, c3, rfl⟩ := own_form hown
      have ct := tie_any _ ts wr (SL.of_own hown) hfw
      rw [htt] at ct
      rw [show str (M.tieT (strandsL ⟨base, bt, es⟩)) = RS from HRS.out] at ct
      have g1 : ((k : Int) < (k : Int)) = False := eq_false (by omega)
      clear hown hts hfew hfw htt
      obtain ⟨p_0, ⟨p_1, p_2, p_3⟩, p_4⟩ := _root_.id C0
      go_wp2_with fail
      refine ct.mono ?_
      rintro e w1 ⟨rfl, b1⟩
      go_wp2_with fail
      go_ret
      exact ⟨rfl, hbw1.trans ((hbw.trans (b1.mono hz)).mono (by have := HZ.out; omega))⟩
    · have hkx : k < es.length := by rw [HN.out]; exact hlt
      have hv1 := (HV.out.below (hbw.mono (by have := HZ.out; omega)))
      rw [HN.out] at hv1
      obtain ⟨b, o, rfl, hb, q0, q1⟩ := hv1.at_ hkx
      have hei := hes es[k] (List.getElem_mem hkx)
      have htk := strB_succ (r := ⟨base, bt, es⟩) hkx
      simp only at htk
      obtain ⟨⟨x, y⟩, hx⟩ : ∃ x, es[k] = x := ⟨_, rfl⟩
      rw [hx] at q0 q1 hei htk
      simp only at q0 q1 hei htk
      obtain ⟨xs, hxs⟩ : ∃ xs, strB ⟨base, bt, es⟩ k = xs := ⟨_, rfl⟩
      have hxl : xs.length ≤ 10000 := by rw [← hxs, strB_length]; simp; omega
      rw [hxs] at hown htk
      have HTK := Lib.hid htk
      have hI3 := hei.1
      obtain ⟨A3, c3, rfl⟩ := own_form hown
      have k0 : (0 ≤ (k : Int)) = True := eq_true (by omega)
      have k1 : ((k : Int) < (N : Int)) = True := eq_true (by omega)
      have hk1 : (k : Int) < (N : Int) := by omega
      have hbz : b < wr.heap.size := by have := HZ.out; omega
      obtain ⟨W2, hW2⟩ : ∃ W2, wr.alloc (.cells #[.int .i64 x, .string y] 54) = W2 := ⟨_, rfl⟩
      have hb2 : Below wr.heap.size wr W2 := by rw [← hW2]; exact (Below.refl _ wr).alloc (Nat.le_refl _) _
      have x0 : W2.cell? ⟨wr.heap.size, 0, none⟩ = some (.int .i64 x) := by rw [← hW2]; simp [go_sem]
      have x1 : W2.cell? ⟨wr.heap.size, 1, none⟩ = some (.string y) := by rw [← hW2]; simp [go_sem]
      have hz2 : wr.heap.size < W2.heap.size := by rw [← hW2]; simp
      have hcl2 : ∀ wx, Below W2.heap.size W2 wx → wx.cell? ⟨wr.heap.size, 0, none⟩ = some (.int .i64 x) ∧ wx.cell? ⟨wr.heap.size, 1, none⟩ = some (.string y) := fun wx h => ⟨(h.cell (p := ⟨wr.heap.size, 0, none⟩) hz2).trans x0, (h.cell (p := ⟨wr.heap.size, 1, none⟩) hz2).trans x1⟩
      have hle2 : W1.heap.size ≤ W2.heap.size := Nat.le_trans hz hb2.size
      have HO := Lib.hid (own_below hown hb2)
      have H2 := Lib.hid hW2
      clear hW2 x0 x1 hown
      clear htk hxs hx hkx hv1 hei hes
      obtain ⟨p_0, ⟨p_1, p_2, p_3⟩, p_4⟩ := _root_.id C0
      go_wp2_with fail
      clear p_0 p_1 p_2 p_3 p_4
      try rw [H2.out]
      refine St.wp_region_mixed (PL 6 7 W1.heap.size W2 xs [nb x, y]) (fun i z => z = .string (nb x)) (by kernel_rfl) (by kernel_rfl) (by kernel_rfl) (PL.start xs [nb x, y] hle2) ?_
      apply St.mix_give
      · rfl
      · intro L u' wx hS hcl hrd hag
        go_simp
        try with_reducible rfl
      · exact fun L u' wx hS => ⟨hS.le, hS.b0, hS.b, hS.p7, hS.o8⟩
      simp only [Act.put, List.setIfInBounds_toArray, List.set_cons_zero, List.set_cons_succ]
      apply St.mix_give
      · rfl
      · intro L u' wx hS hcl hrd hag
        go_simp
        try with_reducible rfl
      · exact fun L u' wx hS => ⟨hS.le, hS.b0, hS.b, hS.p7, hS.o8⟩
      simp only [Act.put, List.setIfInBounds_toArray, List.set_cons_zero, List.set_cons_succ]
      apply St.mix_give
      · rfl
      · intro L u' wx hS hcl hrd hag
        obtain ⟨d0, d1⟩ := hcl2 wx (hS.b0 (St.not_yet hcl hrd 60 7 (by kernel_rfl)))
        go_simp
        try with_reducible rfl
      · exact fun L u' wx hS => ⟨hS.le, hS.b0, hS.b, hS.p7, hS.o8⟩
      simp only [Act.put, List.setIfInBounds_toArray, List.set_cons_zero, List.set_cons_succ]
      refine St.mix_into (v := .string (nb x)) (f := 42) (args := #[.int .i64 x]) rfl rfl ?_ ?_ ?_
      · intro wx
        go_simp
        try with_reducible rfl
      · intro L u' wx hS hcl hrd hag
        have h7 := St.not_yet hcl hrd 60 7 (by kernel_rfl)
        refine (c1 x wx hI3).mono ?_
        rintro e w' ⟨rfl, hb'⟩
        exact ⟨rfl, hS.call h7 hb' (by decide) (by decide)⟩
      simp only [Act.put, List.setIfInBounds_toArray, List.set_cons_zero, List.set_cons_succ]
      apply St.mix_give
      · rfl
      · intro L u' wx hS hcl hrd hag
        go_simp
        try with_reducible rfl
      · exact fun L u' wx hS => ⟨hS.le, hS.b0, hS.b, hS.p7, hS.o8⟩
      simp only [Act.put, List.setIfInBounds_toArray, List.set_cons_zero, List.set_cons_succ]
      apply St.mix_give
      · rfl
      · intro L u' wx hS hcl hrd hag
        obtain ⟨d0, d1⟩ := hcl2 wx (hS.b0 (St.not_yet hcl hrd 60 7 (by kernel_rfl)))
        go_simp
        try with_reducible rfl
      · exact fun L u' wx hS => ⟨hS.le, hS.b0, hS.b, hS.p7, hS.o8⟩
      simp only [Act.put, List.setIfInBounds_toArray, List.set_cons_zero, List.set_cons_succ]
      refine St.mix_free (fun z => ∃ g, z = .slice (some ⟨g, 0, none⟩) 2 2) rfl ?_ ?_
      · intro L u' wx hS hcl hrd hag
        refine ⟨_, _, ⟨wx.heap.size, rfl⟩, ?_, hS.made (St.not_yet hcl hrd 60 7 (by kernel_rfl)) (by decide)⟩
        go_simp
        try with_reducible rfl
      rintro y10 ⟨g10, rfl⟩
      simp only [Act.put, List.setIfInBounds_toArray, List.set_cons_zero, List.set_cons_succ]
      refine St.mix_free (fun z => True) rfl ?_ ?_
      · intro L u' wx hS hcl hrd hag
        obtain ⟨v', w', k1, k2⟩ := hS.app (St.before_ready hcl hrd 60 6 (by kernel_rfl)) hrd.1 HO.out (by omega) (by simp) 56
        rw [show u' 6 = .slice (some ⟨g10, 0, none⟩) 2 2 from hag 60 6 (by kernel_rfl)] at k1
        exact ⟨v', w', trivial, run_append2 rfl rfl rfl k1, k2⟩
      rintro y11 -
      simp only [Act.put, List.setIfInBounds_toArray, List.set_cons_zero, List.set_cons_succ]
      apply St.mix_give
      · rfl
      · intro L u' wx hS hcl hrd hag
        go_simp
        try with_reducible rfl
      · exact fun L u' wx hS => ⟨hS.le, hS.b0, hS.b, hS.p7, hS.o8⟩
      simp only [Act.put, List.setIfInBounds_toArray, List.set_cons_zero, List.set_cons_succ]
      refine St.mix_last ?_
      intro L wx hS hall
      have o8 : wx.ownsRow W1.heap.size 9 1 y11 (xs.length + 2) ((xs ++ [nb x, y]).map Value.string) := hS.o8 (hall 7 (by decide))
      have bx : Below W1.heap.size W1 wx := (hbw.trans (hb2.mono hz)).trans hS.b
      have O8 := Lib.hid o8
      have hr8 : ∃ A8 c8, y11 = .slice A8 (xs.length + 2) c8 := by
        obtain ⟨A8, c8, e⟩ := own_form (ss := xs ++ [nb x, y]) (by simpa using o8)
        exact ⟨A8, c8, by simpa using e⟩
      obtain ⟨A8, c8, rfl⟩ := hr8
      clear hS hall o8
      go_wp2_with fail
      go_roundw
      case rel =>
        refine ⟨k + 1, by omega, by go_num, ?_, bx⟩
        rw [HTK.out]
        simpa using O8.out
      case measure => simp [intOf]; omega
end Go.Proofs.YtimodohcihnoiaaDoor.Ro
