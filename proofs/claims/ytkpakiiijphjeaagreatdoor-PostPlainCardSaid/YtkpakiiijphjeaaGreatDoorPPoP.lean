/-
  The text of entries, the program's. Conditions: numbers such as a program can hold; texts of at most 2^20 bytes; at most 1,000 entries.
  A message's text, the program's. Conditions: numbers such as a program can hold; texts of at most 2^20 bytes; at most 1,000 entries.
  Put, the program's: a packet's text. Conditions: numbers such as a program can hold; texts of at most 2^20 bytes; at most 1,000 entries, 2,000 pairs; the library's variables hold what their types allow.
-/
import Derived.Test.YtkpakiiijphjeaaGreatDoorPPoB
import Derived.Test.YtkpakiiijphjeaaGreatDoorPRoC
import Derived.Test.YtkpakiiijphjeaaGreatDoorPRegA
import Derived.Test.YtkpakiiijphjeaaGreatDoorPDsPNA
import Derived.Test.YtkpakiiijphjeaaGreatDoorPPoA
import Derived.Test.YtkpakiiijphjeaaGreatDoorPOdPCA
import Derived.Test.YtkpakiiijphjeaaGreatDoorPPoCheck
import Derived.Test.YtkpakiiijphjeaaGreatDoorPOdSPA
import Derived.Test.YtkpakiiijphjeaaGreatDoorPBaseA
namespace Go.Proofs.YtkpakiiijphjeaaGreatDoor.Po
open Go.RowKit
open Ro (En SE entB texts_flat flat_len PL PL.start PL.call PL.made PL.app run_append2 nb nb_size entsT)
open Go.Proofs.YtkpakiiijphjeaaGreatDoor.M (tieT numT inR)
def strE (es : List En) (k : Nat) : List ByteArray := ((es.take k).map entB).flatten
theorem strE_succ {es : List En} {k : Nat} (h : k < es.length) : strE es (k + 1) = strE es k ++ [nb (es[k]).1, (es[k]).2] := by
  unfold strE
  rw [List.take_succ_eq_append_getElem h, List.map_append, List.flatten_append]
  rfl
theorem strE_length (es : List En) (k : Nat) : (strE es k).length = (es.take k).length * 2 := flat_len _
theorem texts_strE (es : List En) : texts (strE es es.length) = entsT es := by
  unfold strE
  rw [List.take_of_length_le (Nat.le_refl _), texts_flat]
theorem few_strE {es : List En} (h : ∀ e ∈ es, inR e.1 ∧ e.2.size ≤ 1048576) (hn : es.length ≤ 1000) (k : Nat) : Few (strE es k) := by
  refine ⟨by rw [strE_length]; simp; omega, fun x hx => ?_⟩
  unfold strE at hx
  obtain ⟨q, hq, hx⟩ := List.mem_flatten.1 hx
  obtain ⟨e, he, rfl⟩ := List.mem_map.1 hq
  obtain ⟨h1, h2⟩ := h e (List.mem_of_mem_take he)
  have a1 := nb_size h1
  simp only [entB, List.mem_cons, List.not_mem_nil, or_false] at hx
  rcases hx with rfl | rfl <;> omega
set_option maxHeartbeats 8000000 in
set_option maxRecDepth 100000 in
theorem ents_any (s : Value) (es : List En) (w : World) (hs : SE w w.heap.size s es) (hes : ∀ e ∈ es, inR e.1 ∧ e.2.size ≤ 1048576) (hln : es.length ≤ 1000) :
    Calls Tryz.prog 78 #[s] w fun e w' => e = .returned (str (tieT (entsT es))) ∧ Below w.heap.size w w' := by
  obtain ⟨i0, hi0, hz0, hz1, hz2⟩ := info_parts infoStr
  obtain ⟨A, c, rfl⟩ := hs.form
  have hfew := few_strE hes hln
  have HT := Lib.hid (texts_strE es)
  have c1 : ∀ n w, inR n → Calls Tryz.prog 33 #[.int .i64 n] w fun e w' => e = .returned (.string (nb n)) ∧ Below w.heap.size w w' := fun n w h => (num_any n w h)
  obtain ⟨N, hN⟩ : ∃ N, es.length = N := ⟨_, rfl⟩
  have HV := Lib.hid hs
  have HN := Lib.hid hN
  obtain ⟨RS, hRS⟩ : ∃ RS, str (tieT (entsT es)) = RS := ⟨_, rfl⟩
  have HRS := Lib.hid hRS
  have HES := Lib.hid hes
  have HF := Lib.hid hfew
  rw [hN] at hln ⊢
  rw [hRS]
  have j0 : IntKind.i64.wrap ((N : Int) * 2) = ((N : Int) * 2) := by rw [IntKind.wrap_i64] <;> omega
  have jz : ((N : Int) * 2) = ((N * 2 : Nat) : Int) := by omega
  have JZ := Lib.hid jz
  clear jz
  clear hs hN hRS hes hfew
  go_enter Tryz.func78, Tryz.ntmps78
  go_wp2_with (at_make; rw [JZ.out]; refine wpList_make_own _ rfl _ _ 70 rfl w.heap.size 9 i0 (.string ⟨#[]⟩) 1 Tryz.underlying70 hi0 hz0 hz1 .i64 .i64 _ (N * 2) rfl rfl rfl (by rw [hz2]; omega) (by unfold maxLen; omega) (Nat.le_refl _) ?_; intro w0 hown0 hgrow0)
  have hb0 : Below w.heap.size w w0 := (Below.refl _ w).grown hgrow0 (Nat.le_refl _) (fun k hk => by cases hk)
  have HO0 := Lib.hid hown0
  clear hgrow0 hown0
  go_wp2_with fail
  go_loopw [3, 5, 12] (fun v3 _ vi wr => ∃ k, k ≤ N ∧ vi = .int .i64 (k : Int) ∧ wr.ownsRow w.heap.size 9 1 v3 (strE es k).length ((strE es k).map Value.string) ∧ Below w.heap.size w wr) (fun _ _ vi _ => N - (intOf vi).toNat)
  case atStart => exact ⟨0, Nat.zero_le _, rfl, HO0.out, hb0⟩
  case round =>
    clear HO0 hb0
    obtain ⟨k, hk, rfl, hown, hbw⟩ := hrel
    have hz := hbw.size
    by_cases hlt : k < N
    rotate_left
    · obtain rfl : k = N := by omega
      obtain ⟨ts, hts⟩ : ∃ ts, strE es k = ts := ⟨_, rfl⟩
      have hfw := HF.out k
      have htt := HT.out
      rw [HN.out, hts] at htt
      rw [hts] at hown hfw
      obtain ⟨A3, c3, rfl⟩ := own_form hown
      have ct := tie_any _ ts wr (SL.of_own hown) hfw
      rw [htt] at ct
      rw [HRS.out] at ct
      have g1 : ((k : Int) < (k : Int)) = False := eq_false (by omega)
      clear hown hts hfw htt
      go_wp2_with fail
      refine ct.mono ?_
      rintro e w1 ⟨rfl, b1⟩
      go_wp2_with fail
      go_ret
      exact ⟨rfl, hbw.trans (b1.mono hz)⟩
    · have hkx : k < es.length := by rw [HN.out]; exact hlt
      have hv1 := (HV.out.below hbw)
      rw [HN.out] at hv1
      obtain ⟨b, o, rfl, hb, q0, q1⟩ := hv1.at_ hkx
      have hei := HES.out es[k] (List.getElem_mem hkx)
      have htk := strE_succ hkx
      obtain ⟨⟨x, y⟩, hx⟩ : ∃ x, es[k] = x := ⟨_, rfl⟩
      rw [hx] at q0 q1 hei htk
      simp only at q0 q1 hei htk
      obtain ⟨xs, hxs⟩ : ∃ xs, strE es k = xs := ⟨_, rfl⟩
      have hxl : xs.length ≤ 10000 := by rw [← hxs, strE_length]; simp; omega
      rw [hxs] at hown htk
      have HTK := Lib.hid htk
      have hI3 := hei.1
      obtain ⟨A3, c3, rfl⟩ := own_form hown
      have k0 : (0 ≤ (k : Int)) = True := eq_true (by omega)
      have k1 : ((k : Int) < (N : Int)) = True := eq_true (by omega)
      have hk1 : (k : Int) < (N : Int) := by omega
      have hbz : b < wr.heap.size := by omega
      obtain ⟨W2, hW2⟩ : ∃ W2, wr.alloc (.cells #[.int .i64 x, .string y] 51) = W2 := ⟨_, rfl⟩
      have hb2 : Below wr.heap.size wr W2 := by rw [← hW2]; exact (Below.refl _ wr).alloc (Nat.le_refl _) _
      have x0 : W2.cell? ⟨wr.heap.size, 0, none⟩ = some (.int .i64 x) := by rw [← hW2]; simp [go_sem]
      have x1 : W2.cell? ⟨wr.heap.size, 1, none⟩ = some (.string y) := by rw [← hW2]; simp [go_sem]
      have hz2 : wr.heap.size < W2.heap.size := by rw [← hW2]; simp
      have hcl2 : ∀ wx, Below W2.heap.size W2 wx → wx.cell? ⟨wr.heap.size, 0, none⟩ = some (.int .i64 x) ∧ wx.cell? ⟨wr.heap.size, 1, none⟩ = some (.string y) := fun wx h => ⟨(h.cell (p := ⟨wr.heap.size, 0, none⟩) hz2).trans x0, (h.cell (p := ⟨wr.heap.size, 1, none⟩) hz2).trans x1⟩
      have hle2 : w.heap.size ≤ W2.heap.size := Nat.le_trans hz hb2.size
      have HO := Lib.hid (own_below hown hb2)
      have H2 := Lib.hid hW2
      clear hW2 x0 x1 hown
      clear htk hxs hx hkx hv1 hei
      go_wp2_with fail
      try rw [H2.out]
      refine St.wp_region_mixed (PL 6 7 w.heap.size W2 xs [nb x, y]) (fun i z => z = .string (nb x)) (by kernel_rfl) (by kernel_rfl) (by kernel_rfl) (PL.start xs [nb x, y] hle2) ?_
      apply St.mix_give
      · rfl
      · intro L u' wx hS hcl hrd hag
        go_simp
        try with_reducible rfl
      · exact fun L u' wx hS => ⟨hS.le, hS.b0, hS.b, hS.p7, hS.o8⟩
      simp only [Act.put, List.setIfInBounds_toArray, List.set_cons_zero, List.set_cons_succ]
      apply St.mix_give
      · rfl
      · intro L u' wx hS hcl hrd hag
        go_simp
        try with_reducible rfl
      · exact fun L u' wx hS => ⟨hS.le, hS.b0, hS.b, hS.p7, hS.o8⟩
      simp only [Act.put, List.setIfInBounds_toArray, List.set_cons_zero, List.set_cons_succ]
      apply St.mix_give
      · rfl
      · intro L u' wx hS hcl hrd hag
        obtain ⟨d0, d1⟩ := hcl2 wx (hS.b0 (St.not_yet hcl hrd 60 7 (by kernel_rfl)))
        go_simp
        try with_reducible rfl
      · exact fun L u' wx hS => ⟨hS.le, hS.b0, hS.b, hS.p7, hS.o8⟩
      simp only [Act.put, List.setIfInBounds_toArray, List.set_cons_zero, List.set_cons_succ]
      refine St.mix_into (v := .string (nb x)) (f := 33) (args := #[.int .i64 x]) rfl rfl ?_ ?_ ?_
      · intro wx
        go_simp
        try with_reducible rfl
      · intro L u' wx hS hcl hrd hag
        have h7 := St.not_yet hcl hrd 60 7 (by kernel_rfl)
        refine (c1 x wx hI3).mono ?_
        rintro e w' ⟨rfl, hb'⟩
        exact ⟨rfl, hS.call h7 hb' (by decide) (by decide)⟩
      simp only [Act.put, List.setIfInBounds_toArray, List.set_cons_zero, List.set_cons_succ]
      apply St.mix_give
      · rfl
      · intro L u' wx hS hcl hrd hag
        go_simp
        try with_reducible rfl
      · exact fun L u' wx hS => ⟨hS.le, hS.b0, hS.b, hS.p7, hS.o8⟩
      simp only [Act.put, List.setIfInBounds_toArray, List.set_cons_zero, List.set_cons_succ]
      apply St.mix_give
      · rfl
      · intro L u' wx hS hcl hrd hag
        obtain ⟨d0, d1⟩ := hcl2 wx (hS.b0 (St.not_yet hcl hrd 60 7 (by kernel_rfl)))
        go_simp
        try with_reducible rfl
      · exact fun L u' wx hS => ⟨hS.le, hS.b0, hS.b, hS.p7, hS.o8⟩
      simp only [Act.put, List.setIfInBounds_toArray, List.set_cons_zero, List.set_cons_succ]
      refine St.mix_free (fun z => ∃ g, z = .slice (some ⟨g, 0, none⟩) 2 2) rfl ?_ ?_
      · intro L u' wx hS hcl hrd hag
        refine ⟨_, _, ⟨wx.heap.size, rfl⟩, ?_, hS.made (St.not_yet hcl hrd 60 7 (by kernel_rfl)) (by decide)⟩
        go_simp
        try with_reducible rfl
      rintro y10 ⟨g10, rfl⟩
      simp only [Act.put, List.setIfInBounds_toArray, List.set_cons_zero, List.set_cons_succ]
      refine St.mix_free (fun z => True) rfl ?_ ?_
      · intro L u' wx hS hcl hrd hag
        obtain ⟨v', w', k1, k2⟩ := hS.app (St.before_ready hcl hrd 60 6 (by kernel_rfl)) hrd.1 HO.out (by omega) (by simp) 70
        rw [show u' 6 = .slice (some ⟨g10, 0, none⟩) 2 2 from hag 60 6 (by kernel_rfl)] at k1
        exact ⟨v', w', trivial, run_append2 rfl rfl rfl k1, k2⟩
      rintro y11 -
      simp only [Act.put, List.setIfInBounds_toArray, List.set_cons_zero, List.set_cons_succ]
      apply St.mix_give
      · rfl
      · intro L u' wx hS hcl hrd hag
        go_simp
        try with_reducible rfl
      · exact fun L u' wx hS => ⟨hS.le, hS.b0, hS.b, hS.p7, hS.o8⟩
      simp only [Act.put, List.setIfInBounds_toArray, List.set_cons_zero, List.set_cons_succ]
      refine St.mix_last ?_
      intro L wx hS hall
      have o8 : wx.ownsRow w.heap.size 9 1 y11 (xs.length + 2) ((xs ++ [nb x, y]).map Value.string) := hS.o8 (hall 7 (by decide))
      have bx : Below w.heap.size w wx := (hbw.trans (hb2.mono hz)).trans hS.b
      have O8 := Lib.hid o8
      have hr8 : ∃ A8 c8, y11 = .slice A8 (xs.length + 2) c8 := by
        obtain ⟨A8, c8, e⟩ := own_form (ss := xs ++ [nb x, y]) (by simpa using o8)
        exact ⟨A8, c8, by simpa using e⟩
      obtain ⟨A8, c8, rfl⟩ := hr8
      clear hS hall o8
      go_wp2_with fail
      go_roundw
      case rel =>
        refine ⟨k + 1, by omega, by go_num, ?_, bx⟩
        rw [HTK.out]
        simpa using O8.out
      case measure => simp [intOf]; omega
end Go.Proofs.YtkpakiiijphjeaaGreatDoor.Po

namespace Go.Proofs.YtkpakiiijphjeaaGreatDoor.Po
open Go.RowKit Bnd
open Ds (own_new)
open Ro (En SE nb nb_size entsT)
open Od (tb tb_size truthT)
open Go.Proofs.YtkpakiiijphjeaaGreatDoor.M (tieT numT inR)
structure FitW (m : Wr) : Prop where
  r : InW m
  et : ∀ e ∈ m.es, inR e.1 ∧ e.2.size ≤ 1048576
  n : m.es.length ≤ 1000
  tot : (tieT (entsT m.es)).length ≤ 1048576
  x : m.text.size ≤ 1048576
abbrev eb (es : List En) : ByteArray := ⟨(tieT (entsT es)).toArray⟩
def strW (m : Wr) : List ByteArray := [nb m.kind, nb m.frm, nb m.til, nb m.term, nb m.index, nb m.lterm, nb m.commit, nb m.hint, tb m.reject, eb m.es, m.text]
theorem texts_strW (m : Wr) : texts (strW m) = strandsW m := by simp [strW, strandsW, texts]
theorem few_strW {m : Wr} (h : FitW m) : Few (strW m) := by
  refine ⟨by simp [strW], fun s hs => ?_⟩
  have a1 := nb_size h.r.kind
  have a2 := nb_size h.r.frm
  have a3 := nb_size h.r.til
  have a4 := nb_size h.r.term
  have a5 := nb_size h.r.index
  have a6 := nb_size h.r.lterm
  have a7 := nb_size h.r.commit
  have a8 := nb_size h.r.hint
  have a9 := tb_size m.reject
  have b1 : (eb m.es).size ≤ 1048576 := h.tot
  have b2 := h.x
  simp only [strW, List.mem_cons, List.not_mem_nil, or_false] at hs
  rcases hs with rfl | rfl | rfl | rfl | rfl | rfl | rfl | rfl | rfl | rfl | rfl <;> omega
set_option maxHeartbeats 8000000 in
set_option maxRecDepth 100000 in
theorem wtext_any (m : Wr) (s : Value) (w : World) (hs : SE w w.heap.size s m.es) (h : FitW m) : Calls Tryz.prog 34 #[wv m s] w fun e w' => e = .returned (str (putW m)) ∧ Below w.heap.size w w' := by
  have hfew := few_strW h
  have HT := Lib.hid (texts_strW m)
  have c1 : ∀ n w, inR n → Calls Tryz.prog 33 #[.int .i64 n] w fun e w' => e = .returned (.string (nb n)) ∧ Below w.heap.size w w' := fun n w h => (num_any n w h)
  obtain ⟨A, c, rfl⟩ := hs.form
  have hE := fun w1 hw => ents_any (.slice A m.es.length c) m.es w1 hw h.et h.n
  have B0 := BoxW.new w ⟨m, .slice A m.es.length c⟩
  have hI1 := h.r.kind
  have hI2 := h.r.frm
  have hI3 := h.r.til
  have hI4 := h.r.term
  have hI5 := h.r.index
  have hI6 := h.r.lterm
  have hI7 := h.r.commit
  have hI8 := h.r.hint
  obtain ⟨W1, hW1⟩ : ∃ W1, w.alloc (.cells (arrBoxW ⟨m, .slice A m.es.length c⟩) 24) = W1 := ⟨_, rfl⟩
  have B1 : BoxW w.heap.size ⟨m, .slice A m.es.length c⟩ W1 := hW1 ▸ B0
  have hz1 : W1.heap.size = w.heap.size + 1 := by rw [← hW1]; simp
  have hbw1 : Below w.heap.size w W1 := by rw [← hW1]; exact (Below.refl _ w).alloc (Nat.le_refl _) _
  unfold arrBoxW at hW1
  have call : ∀ n wx, inR n → Below W1.heap.size W1 wx → Calls Tryz.prog 33 #[.int .i64 n] wx fun e w' => e = .returned (.string (nb n)) ∧ Below W1.heap.size W1 w' := by
    intro n wx hn hx
    refine (c1 n wx hn).mono ?_
    rintro e w' ⟨rfl, b⟩
    exact ⟨rfl, hx.trans (b.mono hx.size)⟩
  have call2 : ∀ wx, Below W1.heap.size W1 wx → Calls Tryz.prog 78 #[.slice A m.es.length c] wx fun e w' => e = .returned (.string (eb m.es)) ∧ Below W1.heap.size W1 w' := by
    intro wx hx
    have hw : Below w.heap.size w wx := hbw1.trans (hx.mono (by omega))
    refine (hE wx ((hs.below hw).more hw.size)).mono ?_
    rintro e w' ⟨rfl, b⟩
    exact ⟨rfl, hx.trans (b.mono hx.size)⟩
  have hbox : ∀ wx, Below W1.heap.size W1 wx → BoxW w.heap.size ⟨m, .slice A m.es.length c⟩ wx := fun wx hx => B1.keep hx
  clear B0 hE c1 h hs
  obtain ⟨mk, mf, mt, mm, mi, ml, mc, mh, mr, mes, mx⟩ := m
  obtain ⟨N, hN⟩ : ∃ N, mes.length = N := ⟨_, rfl⟩
  obtain ⟨E, hE⟩ : ∃ E, eb mes = E := ⟨_, rfl⟩
  simp only [] at hW1 B1 hbox call2 hfew HT hI1 hI2 hI3 hI4 hI5 hI6 hI7 hI8 ⊢
  rw [hN] at hW1 B1 hbox call2 ⊢
  rw [hE] at call2
  have HE := Lib.hid hE
  clear hN hE
  cases mr with
  | false =>
    have q8 := (B1.cell 8).trans (show (arrBoxW _)[8]? = some _ from rfl)
    go_enter Tryz.func34, Tryz.ntmps34
    go_wp2_with fail
    try rw [hW1]
    clear q8
    refine St.wp_region_tail 30 (fun _ wx => Below W1.heap.size W1 wx) (by kernel_rfl) (by kernel_rfl) (by kernel_rfl) (by kernel_rfl) (by decide) (Below.refl _ _).drew ?_
    simp only [List.take, List.drop]
    repeat (first
      | (apply St.step_give
         · rfl
         · intro L wx hS hcl hrd
           obtain ⟨d0, d1, d2, d3, d4, d5, d6, d7, d8, d9, d10⟩ := (hbox wx hS).cells
           go_simp
           try with_reducible rfl
         · exact fun L wx hS => hS
         simp only [Act.put, List.setIfInBounds_toArray, List.set_cons_zero, List.set_cons_succ])
      | (apply St.step_into
         · rfl
         · intro wx
           go_simp
           exact ⟨rfl, rfl⟩
         · first
           | exact fun L wx hS hcl hrd => call2 wx hS
           | exact fun L wx hS hcl hrd => call _ wx (by first | exact hI1 | exact hI2 | exact hI3 | exact hI4 | exact hI5 | exact hI6 | exact hI7 | exact hI8) hS
         simp only [Act.put, List.setIfInBounds_toArray, List.set_cons_zero, List.set_cons_succ]))
    refine St.step_last ?_
    intro L wx hS _
    clear hI1 hI2 hI3 hI4 hI5 hI6 hI7 hI8 call call2
    have hz : W1.heap.size ≤ wx.heap.size := hS.size
    have hown0 := own_new wx W1.heap.size (strW ⟨mk, mf, mt, mm, mi, ml, mc, mh, false, mes, mx⟩) hz (by simp [strW])
    have hsl := SL.of_own hown0
    have ct := tie_any _ (strW _) _ hsl hfew
    rw [HT.out] at ct
    have hS1 := hS.alloc hz (.cells ((strW ⟨mk, mf, mt, mm, mi, ml, mc, mh, false, mes, mx⟩).map Value.string).toArray 9)
    have ct2 : Calls Tryz.prog 32 #[.slice (some ⟨wx.heap.size, 0, none⟩) 11 11] (wx.alloc (.cells #[.string (nb mk), .string (nb mf), .string (nb mt), .string (nb mm), .string (nb mi), .string (nb ml), .string (nb mc), .string (nb mh), .string (tb false), .string E, .string mx] 9)) fun e w' => e = .returned (str (putW ⟨mk, mf, mt, mm, mi, ml, mc, mh, false, mes, mx⟩)) ∧ Below W1.heap.size W1 w' := by
      rw [← HE.out]
      refine ct.mono ?_
      rintro e w' ⟨rfl, b⟩
      exact ⟨rfl, hS1.trans (b.mono hS1.size)⟩
    clear hown0 hW1 hsl ct hS1 hS hfew hbox
    go_wp2_with fail
    refine ct2.mono ?_
    rintro e w2 ⟨rfl, b2⟩
    go_wp2_with fail
    go_ret
    exact ⟨rfl, hbw1.trans (b2.mono (by omega))⟩
  | true =>
    have q8 := (B1.cell 8).trans (show (arrBoxW _)[8]? = some _ from rfl)
    go_enter Tryz.func34, Tryz.ntmps34
    go_wp2_with fail
    try rw [hW1]
    clear q8
    refine St.wp_region_tail 30 (fun _ wx => Below W1.heap.size W1 wx) (by kernel_rfl) (by kernel_rfl) (by kernel_rfl) (by kernel_rfl) (by decide) (Below.refl _ _).drew ?_
    simp only [List.take, List.drop]
    repeat (first
      | (apply St.step_give
         · rfl
         · intro L wx hS hcl hrd
           obtain ⟨d0, d1, d2, d3, d4, d5, d6, d7, d8, d9, d10⟩ := (hbox wx hS).cells
           go_simp
           try with_reducible rfl
         · exact fun L wx hS => hS
         simp only [Act.put, List.setIfInBounds_toArray, List.set_cons_zero, List.set_cons_succ])
      | (apply St.step_into
         · rfl
         · intro wx
           go_simp
           exact ⟨rfl, rfl⟩
         · first
           | exact fun L wx hS hcl hrd => call2 wx hS
           | exact fun L wx hS hcl hrd => call _ wx (by first | exact hI1 | exact hI2 | exact hI3 | exact hI4 | exact hI5 | exact hI6 | exact hI7 | exact hI8) hS
         simp only [Act.put, List.setIfInBounds_toArray, List.set_cons_zero, List.set_cons_succ]))
    refine St.step_last ?_
    intro L wx hS _
    clear hI1 hI2 hI3 hI4 hI5 hI6 hI7 hI8 call call2
    have hz : W1.heap.size ≤ wx.heap.size := hS.size
    have hown0 := own_new wx W1.heap.size (strW ⟨mk, mf, mt, mm, mi, ml, mc, mh, true, mes, mx⟩) hz (by simp [strW])
    have hsl := SL.of_own hown0
    have ct := tie_any _ (strW _) _ hsl hfew
    rw [HT.out] at ct
    have hS1 := hS.alloc hz (.cells ((strW ⟨mk, mf, mt, mm, mi, ml, mc, mh, true, mes, mx⟩).map Value.string).toArray 9)
    have ct2 : Calls Tryz.prog 32 #[.slice (some ⟨wx.heap.size, 0, none⟩) 11 11] (wx.alloc (.cells #[.string (nb mk), .string (nb mf), .string (nb mt), .string (nb mm), .string (nb mi), .string (nb ml), .string (nb mc), .string (nb mh), .string (tb true), .string E, .string mx] 9)) fun e w' => e = .returned (str (putW ⟨mk, mf, mt, mm, mi, ml, mc, mh, true, mes, mx⟩)) ∧ Below W1.heap.size W1 w' := by
      rw [← HE.out]
      refine ct.mono ?_
      rintro e w' ⟨rfl, b⟩
      exact ⟨rfl, hS1.trans (b.mono hS1.size)⟩
    clear hown0 hW1 hsl ct hS1 hS hfew hbox
    go_wp2_with fail
    refine ct2.mono ?_
    rintro e w2 ⟨rfl, b2⟩
    go_wp2_with fail
    go_ret
    exact ⟨rfl, hbw1.trans (b2.mono (by omega))⟩
end Go.Proofs.YtkpakiiijphjeaaGreatDoor.Po

namespace Go.Proofs.YtkpakiiijphjeaaGreatDoor.Po
open Go.RowKit Bnd
open Ds (own_new)
open Ro (En SE nb nb_size entsT)
open Od (tb tb_size FitA FitR putA putR SP)
open Go.Proofs.YtkpakiiijphjeaaGreatDoor.M (tieT numT inR sealT)
structure FitK (p : Pk) : Prop where
  r : InK p
  w : FitW p.wire
  a : FitA p.ord
  q : FitR p.rep
  tw : (putW p.wire).length ≤ 1048576
  ta : (putA p.ord).length ≤ 1048576
  tp : (putR p.rep).length ≤ 1048576
theorem FitK.siz {p : Pk} (h : FitK p) : SizK p :=
  ⟨by have := h.w.n; omega, fun e he => by have := (h.w.et e he).2; omega, by have := h.w.x; omega, by have := h.a.key; omega, by have := h.a.til; omega, by have := h.a.val; omega, by have := h.q.n; omega, fun x hx => by have := h.q.ps x hx; omega, by have := h.q.val; omega⟩
abbrev bt (t : List UInt8) : ByteArray := ⟨t.toArray⟩
noncomputable def strK (p : Pk) : List ByteArray := [nb p.kind, nb p.frm, nb p.til, nb p.range, bt (putW p.wire), nb p.id, nb p.next, bt (putA p.ord), nb p.client, nb p.seq, nb p.status, nb p.hint, bt (putR p.rep)]
theorem texts_strK (p : Pk) : texts (strK p) = strandsK p := by simp [strK, strandsK, texts]
theorem few_strK {p : Pk} (h : FitK p) : Few (strK p) := by
  refine ⟨by simp [strK], fun s hs => ?_⟩
  have a1 := nb_size h.r.kind
  have a2 := nb_size h.r.frm
  have a3 := nb_size h.r.til
  have a4 := nb_size h.r.range
  have a5 := nb_size h.r.id
  have a6 := nb_size h.r.next
  have a7 := nb_size h.r.client
  have a8 := nb_size h.r.seq
  have a9 := nb_size h.r.status
  have a10 := nb_size h.r.hint
  have b1 : (bt (putW p.wire)).size ≤ 1048576 := h.tw
  have b2 : (bt (putA p.ord)).size ≤ 1048576 := h.ta
  have b3 : (bt (putR p.rep)).size ≤ 1048576 := h.tp
  simp only [strK, List.mem_cons, List.not_mem_nil, or_false] at hs
  rcases hs with rfl | rfl | rfl | rfl | rfl | rfl | rfl | rfl | rfl | rfl | rfl | rfl | rfl <;> omega
theorem tieK_len {p : Pk} (h : FitK p) : (tieT (strandsK p)).length ≤ 16000000 := by
  have hf := few_strK h
  have := M.tie_length (strandsK p) (fun x hx => by
    rw [← texts_strK] at hx
    obtain ⟨y, hy, rfl⟩ := List.mem_map.1 hx
    have := hf.short y hy
    simpa using this)
  have h2 : ∀ l : List (List UInt8), (∀ x ∈ l, x.length ≤ 1048576) → (l.map List.length).sum ≤ l.length * 1048576 := by
    intro l
    induction l with
    | nil => intro _; simp
    | cons x l ih =>
      intro hx
      have h3 := hx x (by simp)
      have h4 := ih fun y hy => hx y (by simp [hy])
      simp only [List.map_cons, List.sum_cons, List.length_cons]; omega
  have h3 := h2 (strandsK p) (fun x hx => by
    rw [← texts_strK] at hx
    obtain ⟨y, hy, rfl⟩ := List.mem_map.1 hx
    have := hf.short y hy
    simpa using this)
  have h4 : (strandsK p).length = 13 := rfl
  rw [h4] at this h3
  omega
noncomputable def putE (p : Pk) : Value := if isK p = true then .tuple #[str (putK p), .int .i64 0] else .tuple #[str [], .int .i64 140]
set_option maxHeartbeats 8000000 in
set_option maxRecDepth 100000 in
theorem put_any (o : Kh) (w : World) (hk : HK w w.heap.size o) (h : FitK o.k) (hg : Good w) : Calls Tryz.prog 14 #[kv o] w fun e w' => e = .returned (putE o.k) ∧ Below w.heap.size w w' := by
  have hkk : ∀ w1, Below w.heap.size w w1 → HK w1 w1.heap.size o := fun w1 h1 => (hk.below h1).more h1.size
  have hc := fun w1 (h1 : Below w.heap.size w w1) => check_any o w1 (hkk w1 h1) h.siz h.r.id (hg.below h1)
  unfold chkK at hc
  unfold putE
  cases hi : isK o.k with
  | false =>
    rw [hi] at hc
    simp only [Bool.false_eq_true, if_false] at hc ⊢
    clear hi h hk hkk
    go_enter Tryz.func14, Tryz.ntmps14
    go_wp2_with (refine wpList_boxK (o := o) rfl rfl rfl ?_)
    intro W0 B0 hW hz0
    go_wp2_with (refine wpList_loadK (o := o) rfl rfl rfl B0 ?_)
    refine (hc _ hW).mono ?_
    rintro e w1 ⟨rfl, b1⟩
    have hb1 : Below w.heap.size w w1 := hW.trans (b1.mono (by omega))
    clear b1 hc B0
    go_wp2_with fail
    go_ret2
    exact ⟨rfl, hb1⟩
  | true =>
    rw [hi] at hc
    simp only [if_true] at hc ⊢
    have hfew := few_strK h
    have HT := Lib.hid (texts_strK o.k)
    have hlen := tieK_len h
    obtain ⟨RS, hRS⟩ : ∃ RS, str (putK o.k) = RS := ⟨_, rfl⟩
    rw [hRS]
    have HRS := Lib.hid hRS
    clear hi hRS
    go_enter Tryz.func14, Tryz.ntmps14
    go_wp2_with (refine wpList_boxK (o := o) rfl rfl rfl ?_)
    intro W0 B0 hW hz0
    go_wp2_with (refine wpList_loadK (o := o) rfl rfl rfl B0 ?_)
    refine (hc _ hW).mono ?_
    rintro e W1 ⟨rfl, b1⟩
    have hbw1 : Below w.heap.size w W1 := hW.trans (b1.mono (by omega))
    have B1 := B0.keep b1
    clear b1 hc B0
    go_wp2_with fail
    have hz1 := hbw1.size
    have hbox : ∀ wx, Below W1.heap.size W1 wx → BoxK w.heap.size o wx := fun wx hx => B1.keep hx
    have hlow : ∀ wx, Below W1.heap.size W1 wx → Below w.heap.size w wx := fun wx hx => hbw1.trans (hx.mono hz1)
    have call : ∀ n wx, inR n → Below W1.heap.size W1 wx → Calls Tryz.prog 33 #[.int .i64 n] wx fun e w' => e = .returned (.string (nb n)) ∧ Below W1.heap.size W1 w' := fun n wx hn hx => (num_any n wx hn).mono fun e w' ⟨h3, b⟩ => ⟨h3, hx.trans (b.mono hx.size)⟩
    have callW : ∀ wx, Below W1.heap.size W1 wx → Calls Tryz.prog 34 #[wv o.k.wire o.ws] wx fun e w' => e = .returned (.string (bt (putW o.k.wire))) ∧ Below W1.heap.size W1 w' := fun wx hx => (wtext_any o.k.wire o.ws wx (hkk wx (hlow wx hx)).es h.w).mono fun e w' ⟨h3, b⟩ => ⟨h3, hx.trans (b.mono hx.size)⟩
    have callA : ∀ wx, Below W1.heap.size W1 wx → Calls Tryz.prog 35 #[Od.av o.k.ord] wx fun e w' => e = .returned (.string (bt (putA o.k.ord))) ∧ Below W1.heap.size W1 w' := fun wx hx => (Od.put_any o.k.ord wx h.a).mono fun e w' ⟨h3, b⟩ => ⟨h3, hx.trans (b.mono hx.size)⟩
    have callR : ∀ wx, Below W1.heap.size W1 wx → Calls Tryz.prog 36 #[Od.rv o.k.rep o.rs] wx fun e w' => e = .returned (.string (bt (putR o.k.rep))) ∧ Below W1.heap.size W1 w' := fun wx hx => (Od.putR_any o.k.rep o.rs wx (hkk wx (hlow wx hx)).ps h.q).mono fun e w' ⟨h3, b⟩ => ⟨h3, hx.trans (b.mono hx.size)⟩
    refine St.wp_region_tail 39 (fun _ wx => Below W1.heap.size W1 wx) (by kernel_rfl) (by kernel_rfl) (by kernel_rfl) (by kernel_rfl) (by decide) (Below.refl _ _).drew ?_
    simp only [List.take, List.drop]
    apply St.step_give
    · rfl
    · intro L wx hS hcl hrd
      go_simp
      try with_reducible rfl
    · exact fun L wx hS => hS
    simp only [Act.put, List.setIfInBounds_toArray, List.set_cons_zero, List.set_cons_succ]
    apply St.step_give
    · rfl
    · intro L wx hS hcl hrd
      have d0 : wx.cell? ⟨w.heap.size, 0, none⟩ = some (.int .i64 o.k.kind) := (hbox wx hS).cell 0
      go_simp
      try with_reducible rfl
    · exact fun L wx hS => hS
    simp only [Act.put, List.setIfInBounds_toArray, List.set_cons_zero, List.set_cons_succ]
    apply St.step_into
    · rfl
    · intro wx
      go_simp
      exact ⟨rfl, rfl⟩
    · exact fun L wx hS hcl hrd => call _ wx h.r.kind hS
    simp only [Act.put, List.setIfInBounds_toArray, List.set_cons_zero, List.set_cons_succ]
    apply St.step_give
    · rfl
    · intro L wx hS hcl hrd
      go_simp
      try with_reducible rfl
    · exact fun L wx hS => hS
    simp only [Act.put, List.setIfInBounds_toArray, List.set_cons_zero, List.set_cons_succ]
    apply St.step_give
    · rfl
    · intro L wx hS hcl hrd
      have d1 : wx.cell? ⟨w.heap.size, 1, none⟩ = some (.int .i64 o.k.frm) := (hbox wx hS).cell 1
      go_simp
      try with_reducible rfl
    · exact fun L wx hS => hS
    simp only [Act.put, List.setIfInBounds_toArray, List.set_cons_zero, List.set_cons_succ]
    apply St.step_into
    · rfl
    · intro wx
      go_simp
      exact ⟨rfl, rfl⟩
    · exact fun L wx hS hcl hrd => call _ wx h.r.frm hS
    simp only [Act.put, List.setIfInBounds_toArray, List.set_cons_zero, List.set_cons_succ]
    apply St.step_give
    · rfl
    · intro L wx hS hcl hrd
      go_simp
      try with_reducible rfl
    · exact fun L wx hS => hS
    simp only [Act.put, List.setIfInBounds_toArray, List.set_cons_zero, List.set_cons_succ]
    apply St.step_give
    · rfl
    · intro L wx hS hcl hrd
      have d2 : wx.cell? ⟨w.heap.size, 2, none⟩ = some (.int .i64 o.k.til) := (hbox wx hS).cell 2
      go_simp
      try with_reducible rfl
    · exact fun L wx hS => hS
    simp only [Act.put, List.setIfInBounds_toArray, List.set_cons_zero, List.set_cons_succ]
    apply St.step_into
    · rfl
    · intro wx
      go_simp
      exact ⟨rfl, rfl⟩
    · exact fun L wx hS hcl hrd => call _ wx h.r.til hS
    simp only [Act.put, List.setIfInBounds_toArray, List.set_cons_zero, List.set_cons_succ]
    apply St.step_give
    · rfl
    · intro L wx hS hcl hrd
      go_simp
      try with_reducible rfl
    · exact fun L wx hS => hS
    simp only [Act.put, List.setIfInBounds_toArray, List.set_cons_zero, List.set_cons_succ]
    apply St.step_give
    · rfl
    · intro L wx hS hcl hrd
      have d3 : wx.cell? ⟨w.heap.size, 3, none⟩ = some (.int .i64 o.k.range) := (hbox wx hS).cell 3
      go_simp
      try with_reducible rfl
    · exact fun L wx hS => hS
    simp only [Act.put, List.setIfInBounds_toArray, List.set_cons_zero, List.set_cons_succ]
    apply St.step_into
    · rfl
    · intro wx
      go_simp
      exact ⟨rfl, rfl⟩
    · exact fun L wx hS hcl hrd => call _ wx h.r.range hS
    simp only [Act.put, List.setIfInBounds_toArray, List.set_cons_zero, List.set_cons_succ]
    apply St.step_give
    · rfl
    · intro L wx hS hcl hrd
      go_simp
      try with_reducible rfl
    · exact fun L wx hS => hS
    simp only [Act.put, List.setIfInBounds_toArray, List.set_cons_zero, List.set_cons_succ]
    apply St.step_give
    · rfl
    · intro L wx hS hcl hrd
      have d4 : wx.cell? ⟨w.heap.size, 4, none⟩ = some (.int .i64 o.k.wire.kind) := (hbox wx hS).cell 4
      have d5 : wx.cell? ⟨w.heap.size, 5, none⟩ = some (.int .i64 o.k.wire.frm) := (hbox wx hS).cell 5
      have d6 : wx.cell? ⟨w.heap.size, 6, none⟩ = some (.int .i64 o.k.wire.til) := (hbox wx hS).cell 6
      have d7 : wx.cell? ⟨w.heap.size, 7, none⟩ = some (.int .i64 o.k.wire.term) := (hbox wx hS).cell 7
      have d8 : wx.cell? ⟨w.heap.size, 8, none⟩ = some (.int .i64 o.k.wire.index) := (hbox wx hS).cell 8
      have d9 : wx.cell? ⟨w.heap.size, 9, none⟩ = some (.int .i64 o.k.wire.lterm) := (hbox wx hS).cell 9
      have d10 : wx.cell? ⟨w.heap.size, 10, none⟩ = some (.int .i64 o.k.wire.commit) := (hbox wx hS).cell 10
      have d11 : wx.cell? ⟨w.heap.size, 11, none⟩ = some (.int .i64 o.k.wire.hint) := (hbox wx hS).cell 11
      have d12 : wx.cell? ⟨w.heap.size, 12, none⟩ = some (.bool o.k.wire.reject) := (hbox wx hS).cell 12
      have d13 : wx.cell? ⟨w.heap.size, 13, none⟩ = some (o.ws) := (hbox wx hS).cell 13
      have d14 : wx.cell? ⟨w.heap.size, 14, none⟩ = some (.string o.k.wire.text) := (hbox wx hS).cell 14
      go_simp
      try with_reducible rfl
    · exact fun L wx hS => hS
    simp only [Act.put, List.setIfInBounds_toArray, List.set_cons_zero, List.set_cons_succ]
    apply St.step_into
    · rfl
    · intro wx
      go_simp
      exact ⟨rfl, rfl⟩
    · exact fun L wx hS hcl hrd => callW wx hS
    simp only [Act.put, List.setIfInBounds_toArray, List.set_cons_zero, List.set_cons_succ]
    apply St.step_give
    · rfl
    · intro L wx hS hcl hrd
      go_simp
      try with_reducible rfl
    · exact fun L wx hS => hS
    simp only [Act.put, List.setIfInBounds_toArray, List.set_cons_zero, List.set_cons_succ]
    apply St.step_give
    · rfl
    · intro L wx hS hcl hrd
      have d15 : wx.cell? ⟨w.heap.size, 15, none⟩ = some (.int .i64 o.k.id) := (hbox wx hS).cell 15
      go_simp
      try with_reducible rfl
    · exact fun L wx hS => hS
    simp only [Act.put, List.setIfInBounds_toArray, List.set_cons_zero, List.set_cons_succ]
    apply St.step_into
    · rfl
    · intro wx
      go_simp
      exact ⟨rfl, rfl⟩
    · exact fun L wx hS hcl hrd => call _ wx h.r.id hS
    simp only [Act.put, List.setIfInBounds_toArray, List.set_cons_zero, List.set_cons_succ]
    apply St.step_give
    · rfl
    · intro L wx hS hcl hrd
      go_simp
      try with_reducible rfl
    · exact fun L wx hS => hS
    simp only [Act.put, List.setIfInBounds_toArray, List.set_cons_zero, List.set_cons_succ]
    apply St.step_give
    · rfl
    · intro L wx hS hcl hrd
      have d16 : wx.cell? ⟨w.heap.size, 16, none⟩ = some (.int .i64 o.k.next) := (hbox wx hS).cell 16
      go_simp
      try with_reducible rfl
    · exact fun L wx hS => hS
    simp only [Act.put, List.setIfInBounds_toArray, List.set_cons_zero, List.set_cons_succ]
    apply St.step_into
    · rfl
    · intro wx
      go_simp
      exact ⟨rfl, rfl⟩
    · exact fun L wx hS hcl hrd => call _ wx h.r.next hS
    simp only [Act.put, List.setIfInBounds_toArray, List.set_cons_zero, List.set_cons_succ]
    apply St.step_give
    · rfl
    · intro L wx hS hcl hrd
      go_simp
      try with_reducible rfl
    · exact fun L wx hS => hS
    simp only [Act.put, List.setIfInBounds_toArray, List.set_cons_zero, List.set_cons_succ]
    apply St.step_give
    · rfl
    · intro L wx hS hcl hrd
      have d17 : wx.cell? ⟨w.heap.size, 17, none⟩ = some (.int .i64 o.k.ord.kind) := (hbox wx hS).cell 17
      have d18 : wx.cell? ⟨w.heap.size, 18, none⟩ = some (.int .i64 o.k.ord.client) := (hbox wx hS).cell 18
      have d19 : wx.cell? ⟨w.heap.size, 19, none⟩ = some (.int .i64 o.k.ord.seq) := (hbox wx hS).cell 19
      have d20 : wx.cell? ⟨w.heap.size, 20, none⟩ = some (.string o.k.ord.key) := (hbox wx hS).cell 20
      have d21 : wx.cell? ⟨w.heap.size, 21, none⟩ = some (.string o.k.ord.til) := (hbox wx hS).cell 21
      have d22 : wx.cell? ⟨w.heap.size, 22, none⟩ = some (.string o.k.ord.val) := (hbox wx hS).cell 22
      have d23 : wx.cell? ⟨w.heap.size, 23, none⟩ = some (.string o.k.ord.old) := (hbox wx hS).cell 23
      have d24 : wx.cell? ⟨w.heap.size, 24, none⟩ = some (.bool o.k.ord.has) := (hbox wx hS).cell 24
      have d25 : wx.cell? ⟨w.heap.size, 25, none⟩ = some (.int .i64 o.k.ord.lim) := (hbox wx hS).cell 25
      have d26 : wx.cell? ⟨w.heap.size, 26, none⟩ = some (.int .i64 o.k.ord.id) := (hbox wx hS).cell 26
      have d27 : wx.cell? ⟨w.heap.size, 27, none⟩ = some (.int .i64 o.k.ord.node) := (hbox wx hS).cell 27
      go_simp
      try with_reducible rfl
    · exact fun L wx hS => hS
    simp only [Act.put, List.setIfInBounds_toArray, List.set_cons_zero, List.set_cons_succ]
    apply St.step_into
    · rfl
    · intro wx
      go_simp
      exact ⟨rfl, rfl⟩
    · exact fun L wx hS hcl hrd => callA wx hS
    simp only [Act.put, List.setIfInBounds_toArray, List.set_cons_zero, List.set_cons_succ]
    apply St.step_give
    · rfl
    · intro L wx hS hcl hrd
      go_simp
      try with_reducible rfl
    · exact fun L wx hS => hS
    simp only [Act.put, List.setIfInBounds_toArray, List.set_cons_zero, List.set_cons_succ]
    apply St.step_give
    · rfl
    · intro L wx hS hcl hrd
      have d28 : wx.cell? ⟨w.heap.size, 28, none⟩ = some (.int .i64 o.k.client) := (hbox wx hS).cell 28
      go_simp
      try with_reducible rfl
    · exact fun L wx hS => hS
    simp only [Act.put, List.setIfInBounds_toArray, List.set_cons_zero, List.set_cons_succ]
    apply St.step_into
    · rfl
    · intro wx
      go_simp
      exact ⟨rfl, rfl⟩
    · exact fun L wx hS hcl hrd => call _ wx h.r.client hS
    simp only [Act.put, List.setIfInBounds_toArray, List.set_cons_zero, List.set_cons_succ]
    apply St.step_give
    · rfl
    · intro L wx hS hcl hrd
      go_simp
      try with_reducible rfl
    · exact fun L wx hS => hS
    simp only [Act.put, List.setIfInBounds_toArray, List.set_cons_zero, List.set_cons_succ]
    apply St.step_give
    · rfl
    · intro L wx hS hcl hrd
      have d29 : wx.cell? ⟨w.heap.size, 29, none⟩ = some (.int .i64 o.k.seq) := (hbox wx hS).cell 29
      go_simp
      try with_reducible rfl
    · exact fun L wx hS => hS
    simp only [Act.put, List.setIfInBounds_toArray, List.set_cons_zero, List.set_cons_succ]
    apply St.step_into
    · rfl
    · intro wx
      go_simp
      exact ⟨rfl, rfl⟩
    · exact fun L wx hS hcl hrd => call _ wx h.r.seq hS
    simp only [Act.put, List.setIfInBounds_toArray, List.set_cons_zero, List.set_cons_succ]
    apply St.step_give
    · rfl
    · intro L wx hS hcl hrd
      go_simp
      try with_reducible rfl
    · exact fun L wx hS => hS
    simp only [Act.put, List.setIfInBounds_toArray, List.set_cons_zero, List.set_cons_succ]
    apply St.step_give
    · rfl
    · intro L wx hS hcl hrd
      have d30 : wx.cell? ⟨w.heap.size, 30, none⟩ = some (.int .i64 o.k.status) := (hbox wx hS).cell 30
      go_simp
      try with_reducible rfl
    · exact fun L wx hS => hS
    simp only [Act.put, List.setIfInBounds_toArray, List.set_cons_zero, List.set_cons_succ]
    apply St.step_into
    · rfl
    · intro wx
      go_simp
      exact ⟨rfl, rfl⟩
    · exact fun L wx hS hcl hrd => call _ wx h.r.status hS
    simp only [Act.put, List.setIfInBounds_toArray, List.set_cons_zero, List.set_cons_succ]
    apply St.step_give
    · rfl
    · intro L wx hS hcl hrd
      go_simp
      try with_reducible rfl
    · exact fun L wx hS => hS
    simp only [Act.put, List.setIfInBounds_toArray, List.set_cons_zero, List.set_cons_succ]
    apply St.step_give
    · rfl
    · intro L wx hS hcl hrd
      have d31 : wx.cell? ⟨w.heap.size, 31, none⟩ = some (.int .i64 o.k.hint) := (hbox wx hS).cell 31
      go_simp
      try with_reducible rfl
    · exact fun L wx hS => hS
    simp only [Act.put, List.setIfInBounds_toArray, List.set_cons_zero, List.set_cons_succ]
    apply St.step_into
    · rfl
    · intro wx
      go_simp
      exact ⟨rfl, rfl⟩
    · exact fun L wx hS hcl hrd => call _ wx h.r.hint hS
    simp only [Act.put, List.setIfInBounds_toArray, List.set_cons_zero, List.set_cons_succ]
    apply St.step_give
    · rfl
    · intro L wx hS hcl hrd
      go_simp
      try with_reducible rfl
    · exact fun L wx hS => hS
    simp only [Act.put, List.setIfInBounds_toArray, List.set_cons_zero, List.set_cons_succ]
    apply St.step_give
    · rfl
    · intro L wx hS hcl hrd
      have d32 : wx.cell? ⟨w.heap.size, 32, none⟩ = some (.int .i64 o.k.rep.code) := (hbox wx hS).cell 32
      have d33 : wx.cell? ⟨w.heap.size, 33, none⟩ = some (.int .i64 o.k.rep.err) := (hbox wx hS).cell 33
      have d34 : wx.cell? ⟨w.heap.size, 34, none⟩ = some (.bool o.k.rep.has) := (hbox wx hS).cell 34
      have d35 : wx.cell? ⟨w.heap.size, 35, none⟩ = some (.string o.k.rep.val) := (hbox wx hS).cell 35
      have d36 : wx.cell? ⟨w.heap.size, 36, none⟩ = some (o.rs) := (hbox wx hS).cell 36
      go_simp
      try with_reducible rfl
    · exact fun L wx hS => hS
    simp only [Act.put, List.setIfInBounds_toArray, List.set_cons_zero, List.set_cons_succ]
    apply St.step_into
    · rfl
    · intro wx
      go_simp
      exact ⟨rfl, rfl⟩
    · exact fun L wx hS hcl hrd => callR wx hS
    simp only [Act.put, List.setIfInBounds_toArray, List.set_cons_zero, List.set_cons_succ]
    refine St.step_last ?_
    intro L wx hS _
    clear call callW callA callR
    have hz : W1.heap.size ≤ wx.heap.size := hS.size
    have hown0 := own_new wx W1.heap.size (strK o.k) hz (by simp [strK])
    have hsl := SL.of_own hown0
    have ct := tie_any _ (strK o.k) _ hsl hfew
    rw [HT.out] at ct
    have hS1 := hS.alloc hz (.cells ((strK o.k).map Value.string).toArray 9)
    have ct2 : Calls Tryz.prog 32 #[.slice (some ⟨wx.heap.size, 0, none⟩) 13 13] (wx.alloc (.cells #[.string (nb o.k.kind), .string (nb o.k.frm), .string (nb o.k.til), .string (nb o.k.range), .string (bt (putW o.k.wire)), .string (nb o.k.id), .string (nb o.k.next), .string (bt (putA o.k.ord)), .string (nb o.k.client), .string (nb o.k.seq), .string (nb o.k.status), .string (nb o.k.hint), .string (bt (putR o.k.rep))] 9)) fun e w' => e = .returned (str (tieT (strandsK o.k))) ∧ Below W1.heap.size W1 w' := by
      refine ct.mono ?_
      rintro e w' ⟨rfl, b⟩
      exact ⟨rfl, hS1.trans (b.mono hS1.size)⟩
    obtain ⟨T, hT⟩ : ∃ T : ByteArray, T = ⟨(tieT (strandsK o.k)).toArray⟩ := ⟨_, rfl⟩
    have hTl : T.data.toList = tieT (strandsK o.k) := by rw [hT]
    have cs := fun w1 => seal_any T w1 (by rw [hT]; show (tieT (strandsK o.k)).length ≤ _; omega)
    rw [hTl] at cs
    rw [show str (tieT (strandsK o.k)) = .string T by rw [hT]] at ct2
    rw [show sealT (tieT (strandsK o.k)) = putK o.k from rfl] at cs
    rw [HRS.out] at cs
    clear hown0 hsl ct hS1 hS hfew hbox hT hTl hlen h hk hkk hlow B1
    go_wp2_with fail
    refine ct2.mono ?_
    rintro e w2 ⟨rfl, b2⟩
    clear ct2
    go_wp2_with fail
    refine (cs _).mono ?_
    rintro e w3 ⟨rfl, b3⟩
    clear cs
    go_wp2_with fail
    go_ret2
    exact ⟨rfl, hbw1.trans ((b2.trans (b3.mono b2.size)).mono hz1)⟩
end Go.Proofs.YtkpakiiijphjeaaGreatDoor.Po
