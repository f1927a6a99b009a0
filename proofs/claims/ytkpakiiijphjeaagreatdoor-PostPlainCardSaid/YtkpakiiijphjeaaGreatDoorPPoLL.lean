/-
  What the law asks ahead of all: num, ask, live. Condition: the library's variables hold what their types allow.
  PostPlain, walked. Condition: the library's variables hold what their types allow.
-/
import Derived.Test.YtkpakiiijphjeaaGreatDoorPPoParse
import Derived.Test.YtkpakiiijphjeaaGreatDoorPPoP
import Derived.Test.YtkpakiiijphjeaaGreatDoorPPoRKK
namespace Go.Proofs.YtkpakiiijphjeaaGreatDoor.Po
open Go.RowKit Bnd
open Od (FitA FitR InA)
open Go.Proofs.YtkpakiiijphjeaaGreatDoor.M (inR)
theorem num_any (n : Int) (w : World) : Calls Tryz.prog 9 #[.int .i64 n] w fun e w' => e = .returned (.int .i64 n) ∧ w = w' := by
  go_enter Tryz.func9, Tryz.ntmps9
  go_wp2_with fail
  go_ret
  exact ⟨rfl, rfl⟩
abbrev askO : Od.Ask := ⟨1, 1, 1, ⟨#[97]⟩, Od.E0, Od.E0, Od.E0, false, 0, 0, 0⟩
abbrev askK : Pk := ⟨3, 0, 1, 2, Wr.zero, 0, 0, askO, 0, 0, 0, 0, Od.Rep.zero⟩
abbrev askH : Kh := ⟨askK, nilS, nilS⟩
abbrev goneK : Pk := ⟨2, 1, 2, 1, Wr.zero, 3, 3, Od.Ask.zero, 0, 0, 0, 0, Od.Rep.zero⟩
abbrev goneH : Kh := ⟨goneK, nilS, nilS⟩
theorem ask_is : isK askK = true := by decide +kernel
theorem gone_is : isK goneK = false := by decide +kernel
theorem zero_is : isK Pk.zero = false := by decide +kernel
theorem fitW_zero : FitW Wr.zero := ⟨InW.zero, by simp, by simp, by simp [Ro.entsT, M.tieT], by decide⟩
theorem fitR_zero : FitR Od.Rep.zero := ⟨by decide, by decide, by decide, by simp, by simp⟩
theorem fitA_ask : FitA askO := ⟨⟨by decide, by decide, by decide, by decide, by decide, by decide⟩, by decide, by decide, by decide, by decide⟩
theorem fitA_zero : FitA Od.Ask.zero := ⟨InA.zero, by decide, by decide, by decide, by decide⟩
theorem putW_zero : (putW Wr.zero).length ≤ 1048576 := by decide +kernel
theorem putR_zero : (Od.putR Od.Rep.zero).length ≤ 1048576 := by decide +kernel
theorem putA_zero : (Od.putA Od.Ask.zero).length ≤ 1048576 := by decide +kernel
theorem putA_ask : (Od.putA askO).length ≤ 1048576 := by decide +kernel
theorem fit_ask : FitK askK := ⟨⟨by decide, by decide, by decide, by decide, InW.zero, by decide, by decide, fitA_ask.r, by decide, by decide, by decide, by decide, by decide, by decide⟩, fitW_zero, fitA_ask, fitR_zero, putW_zero, putA_ask, putR_zero⟩
theorem fit_gone : FitK goneK := ⟨⟨by decide, by decide, by decide, by decide, InW.zero, by decide, by decide, InA.zero, by decide, by decide, by decide, by decide, by decide, by decide⟩, fitW_zero, fitA_zero, fitR_zero, putW_zero, putA_zero, putR_zero⟩
theorem fit_zero : FitK Pk.zero := ⟨⟨by decide, by decide, by decide, by decide, InW.zero, by decide, by decide, InA.zero, by decide, by decide, by decide, by decide, by decide, by decide⟩, fitW_zero, fitA_zero, fitR_zero, putW_zero, putA_zero, putR_zero⟩
theorem put_ask_len : 20 < (putK askK).length ∧ (putK askK).length ≤ 30000 := by
  have h : (putK askK).length = (M.tieT (strandsK askK)).length + 8 := by unfold putK; rw [M.sealT_length]
  have h2 : 12 < (M.tieT (strandsK askK)).length ∧ (M.tieT (strandsK askK)).length ≤ 29000 := by decide +kernel
  rw [h]
  omega
set_option maxRecDepth 100000 in
set_option maxHeartbeats 4000000 in
theorem ask_any (w : World) : Calls Tryz.prog 18 #[] w fun e w' => e = .returned (kv askH) ∧ Below w.heap.size w w' := by
  go_enter Tryz.func18, Tryz.ntmps18
  go_wp2_with (refine wpList_newK rfl rfl ?_)
  intro W0 Z0 hb0 hz0
  go_wp2_with (refine wpList_setK (o := askH) rfl rfl rfl rfl Z0 rfl rfl ?_)
  intro W1 Z1 _ hb1 _
  go_wp2_with fail
  exact bodyPost_ret (res_BoxK Tryz.results18 rfl Z1) rfl ⟨rfl, hb1 _ _ hb0 (Nat.le_refl _)⟩
set_option maxRecDepth 100000 in
set_option maxHeartbeats 16000000 in
theorem live_any (w : World) (hg : Good w) : Calls Tryz.prog 8 #[] w fun e w' => e = .returned (.bool true) ∧ Below w.heap.size w w' := by
  have cp := fun w hg => put_any askH w ⟨Ro.SE.nil _ _, Od.SP.nil _ _⟩ fit_ask hg
  have cq := fun w hg => put_any goneH w ⟨Ro.SE.nil _ _, Od.SP.nil _ _⟩ fit_gone hg
  obtain ⟨T, hT⟩ : ∃ T : ByteArray, (⟨(putK askK).toArray⟩ : ByteArray) = T := ⟨_, rfl⟩
  have hTd : T.data.toList = putK askK := by rw [← hT]
  have hTs : T.size = (putK askK).length := by rw [← hT]; rfl
  have hl := put_ask_len
  have hl1 : (20 : Int) < (T.size : Int) := by omega
  have cr := fun w hg => parse_any T w (by omega) hg
  have hpk : parseK T.data.toList = (askK, 0) := by rw [hTd, parse_putK, if_pos ask_is]
  rw [hpk] at cr
  unfold putE at cp cq
  simp only [] at cp cq
  rw [ask_is] at cp
  rw [gone_is] at cq
  simp only [if_true, Bool.false_eq_true, if_false] at cp cq
  rw [show str (putK askK) = .string T from by rw [← hT]] at cp
  clear hpk hTd hTs hl hT
  go_enter Tryz.func8, Tryz.ntmps8
  go_wp2_with fail
  refine (ask_any _).mono ?_
  rintro e w1 ⟨rfl, b1⟩
  go_wp2_with fail
  refine (cp _ (hg.below b1)).mono ?_
  rintro e w2 ⟨rfl, b2⟩
  have h2 := b1.trans (b2.mono b1.size)
  go_wp2_with fail
  refine (cr _ (hg.below h2)).mono ?_
  rintro e w3 ⟨⟨ok, ws, rs⟩, hok, rfl, hH, b3⟩
  simp only at hok
  subst hok
  have h3 := h2.trans (b3.mono h2.size)
  obtain ⟨A, a, B, b, hA, hB⟩ := hH.form
  simp only [] at hA hB
  subst hA hB
  clear cp cr b1 b2 b3
  go_wp2_with (refine wpList_newK rfl rfl ?_)
  intro W4 Z4 hb4 hz4
  go_wp2_with (refine wpList_setK (o := ⟨askK, .slice A 0 a, .slice B 0 b⟩) rfl rfl rfl rfl Z4 rfl rfl ?_)
  intro W5 Z5 _ hb5 hz5
  have h4 := h3.trans (hb4.mono h3.size)
  have h5 := hb5 _ _ h4 (by have := h3.size; omega)
  have hH5 := (hH.below (hb5 _ _ hb4 (Nat.le_refl _)))
  go_wp2_with fail
  refine (cq _ (hg.below h5)).mono ?_
  rintro e W6 ⟨rfl, b6⟩
  have Z6 := Z5.keep b6
  have h6 := h5.trans (b6.mono h5.size)
  have hz6 := b6.size
  have hH6 : HK W6 w3.heap.size ⟨askK, .slice A 0 a, .slice B 0 b⟩ := hH5.below (b6.mono (by have := hb4.size; omega))
  clear cq hb4 hb5 b6 Z4 Z5 h2 h3 h4 h5 hH hH5 hz4
  have hw3 : w3.heap.size ≤ W6.heap.size := by have := Z6.lt; omega
  have ca : ∀ wx, Below W6.heap.size W6 wx → Calls Tryz.prog 18 #[] wx fun e w' => e = .returned (kv askH) ∧ Below W6.heap.size W6 w' := fun wx hx => (ask_any wx).mono fun e w' ⟨h3, b⟩ => ⟨h3, hx.trans (b.mono hx.size)⟩
  have c0 : ∀ wx, Below W6.heap.size W6 wx → Calls Tryz.prog 9 #[.int .i64 0] wx fun e w' => e = .returned (.int .i64 0) ∧ Below W6.heap.size W6 w' := fun wx hx => (num_any 0 wx).mono fun e w' ⟨h3, b⟩ => ⟨h3, b ▸ hx⟩
  have c1 : ∀ wx, Below W6.heap.size W6 wx → Calls Tryz.prog 9 #[.int .i64 140] wx fun e w' => e = .returned (.int .i64 140) ∧ Below W6.heap.size W6 w' := fun wx hx => (num_any 140 wx).mono fun e w' ⟨h3, b⟩ => ⟨h3, b ▸ hx⟩
  have hHx : ∀ wx, Below W6.heap.size W6 wx → HK wx wx.heap.size ⟨askK, .slice A 0 a, .slice B 0 b⟩ := fun wx hx => (hH6.below (hx.mono hw3)).more (by have := hx.size; omega)
  have hLn : LenK askK := ⟨by simp, by simp⟩
  have cs : ∀ wx, Below W6.heap.size W6 wx → Calls Tryz.prog 12 #[kv ⟨askK, .slice A 0 a, .slice B 0 b⟩, kv askH] wx fun e w' => e = .returned (.bool true) ∧ Below W6.heap.size W6 w' := fun wx hx => (same_any ⟨askK, .slice A 0 a, .slice B 0 b⟩ askH wx (hHx wx hx) ⟨Ro.SE.nil _ _, Od.SP.nil _ _⟩ hLn hLn).mono fun e w' ⟨h3, b⟩ => ⟨by rw [h3, sameK_self], hx.trans (b.mono hx.size)⟩
  have ct : ∀ wx, Below W6.heap.size W6 wx → Calls Tryz.prog 13 #[kv ⟨askK, .slice A 0 a, .slice B 0 b⟩, kv askH] wx fun e w' => e = .returned (.bool true) ∧ Below W6.heap.size W6 w' := fun wx hx => (rsame_any ⟨askK, .slice A 0 a, .slice B 0 b⟩ askH wx (hHx wx hx) ⟨Ro.SE.nil _ _, Od.SP.nil _ _⟩ hLn hLn).mono fun e w' ⟨h3, b⟩ => ⟨by rw [h3, sameK_self], hx.trans (b.mono hx.size)⟩
  have cz : ∀ wx, Below W6.heap.size W6 wx → Calls Tryz.prog 10 #[kv Kh.zero] wx fun e w' => e = .returned (.int .i64 140) ∧ Below W6.heap.size W6 w' := fun wx hx => (check_any Kh.zero wx ⟨Ro.SE.nil _ _, Od.SP.nil _ _⟩ fit_zero.siz fit_zero.r.id (hg.below (h6.trans (hx.mono h6.size)))).mono fun e w' ⟨h3, b⟩ => ⟨by rw [h3]; unfold chkK; rw [zero_is]; rfl, hx.trans (b.mono hx.size)⟩
  have hbox : ∀ wx, Below W6.heap.size W6 wx → BoxK w3.heap.size ⟨askK, .slice A 0 a, .slice B 0 b⟩ wx := fun wx hx => Z6.keep hx
  clear hHx hLn hH6 Z6
  go_wp2_with fail
  refine St.wp_region_stage (fun _ wx => Below W6.heap.size W6 wx) (by kernel_rfl) (by kernel_rfl) (by kernel_rfl) (Below.refl _ _).drew ?_
  repeat (first
    | (apply St.step_past
       · rfl
       · exact fun L wx hS => hS
       simp only [Act.put, List.setIfInBounds_toArray, List.set_cons_zero, List.set_cons_succ])
    | (refine St.step_give (v := kv ⟨askK, .slice A 0 a, .slice B 0 b⟩) rfl (fun L wx hS hcl hrd => run_getK rfl rfl (hbox wx hS)) (fun L wx hS => hS) ?_
       simp only [Act.put, List.setIfInBounds_toArray, List.set_cons_zero, List.set_cons_succ])
    | (apply St.step_give
       · rfl
       · intro L wx hS hcl hrd
         go_simp
         try with_reducible rfl
       · exact fun L wx hS => hS
       simp only [Act.put, List.setIfInBounds_toArray, List.set_cons_zero, List.set_cons_succ])
    | (apply St.step_into
       · rfl
       · intro wx
         go_simp
         exact ⟨rfl, rfl⟩
       · first
         | exact fun L wx hS hcl hrd => c0 wx hS
         | exact fun L wx hS hcl hrd => c1 wx hS
         | exact fun L wx hS hcl hrd => ca wx hS
         | exact fun L wx hS hcl hrd => cs wx hS
         | exact fun L wx hS hcl hrd => ct wx hS
         | exact fun L wx hS hcl hrd => cz wx hS
       simp only [Act.put, List.setIfInBounds_toArray, List.set_cons_zero, List.set_cons_succ]))
  refine St.step_last ?_
  intro L wx hS _
  clear c0 c1 ca cs ct cz hbox
  go_wp2_with fail
  go_ret
  exact ⟨rfl, h6.trans (hS.mono h6.size)⟩
end Go.Proofs.YtkpakiiijphjeaaGreatDoor.Po

namespace Go.Proofs.YtkpakiiijphjeaaGreatDoor.Po
open Go.RowKit Bnd
open Od (FitA FitR InA)
open Ro (SE)
open Go.Proofs.YtkpakiiijphjeaaGreatDoor.M (inR)
theorem isK_no {p : Pk} (h : ¬ p = ownK p) : isK p = false := by
  unfold isK
  rw [sameK_no h]; simp
abbrev plainR (f t g i n : Int) : Bool := (decide (1 ≤ f) && decide (f ≤ 7) && decide (1 ≤ t) && decide (t ≤ 7)) && decide (1 ≤ g) && decide (g ≤ 1099511627776) && decide (1 ≤ i) && decide (i ≤ 1099511627776) && decide (i < n) && decide (n ≤ 1099511627777)
theorem plain_is (f t g i n : Int) : isK ⟨2, f, t, g, Wr.zero, i, n, Od.Ask.zero, 0, 0, 0, 0, Od.Rep.zero⟩ = plainR f t g i n := by
  rw [Bool.eq_iff_iff, isK_iff]
  have e : ownK ⟨2, f, t, g, Wr.zero, i, n, Od.Ask.zero, 0, 0, 0, 0, Od.Rep.zero⟩ = ⟨2, f, t, g, Wr.zero, i, n, Od.Ask.zero, 0, 0, 0, 0, Od.Rep.zero⟩ := rfl
  rw [e]
  have e2 : fitsK ⟨2, f, t, g, Wr.zero, i, n, Od.Ask.zero, 0, 0, 0, 0, Od.Rep.zero⟩ = (nodeB f && nodeB t && idB i && Od.amongB n (i + 1) 1099511627777) := rfl
  rw [e2]
  simp only [idB, nodeB, Od.amongB, Bool.and_eq_true, decide_eq_true_eq]
  exact ⟨fun ⟨h1, _, h3⟩ => by omega, fun h => ⟨by omega, trivial, by omega⟩⟩
structure InP (f t g i n : Int) : Prop where
  f : inR f
  t : inR t
  g : inR g
  i : inR i
  n : inR n
theorem putW_a : (putW ⟨1, 0, 0, 0, 0, 0, 0, 0, false, [], Od.E0⟩).length ≤ 1048576 := by decide +kernel
theorem putW_b : (putW ⟨0, 0, 0, 0, 0, 0, 0, 0, false, [], ⟨#[120]⟩⟩).length ≤ 1048576 := by decide +kernel
theorem putW_c : (putW ⟨0, 0, 0, 0, 0, 0, 0, 0, false, [(1, Od.E0)], Od.E0⟩).length ≤ 1048576 := by decide +kernel
theorem putR_a : (Od.putR ⟨0, 0, true, Od.E0, []⟩).length ≤ 1048576 := by decide +kernel
theorem putR_b : (Od.putR ⟨0, 0, false, Od.E0, [(⟨#[97]⟩, Od.E0)]⟩).length ≤ 1048576 := by decide +kernel
theorem inW_k (k : Int) (hk : inR k) (x : ByteArray) : InW ⟨k, 0, 0, 0, 0, 0, 0, 0, false, [], x⟩ := ⟨hk, inR0, inR0, inR0, inR0, inR0, inR0, inR0, by simp⟩
theorem fitW_k (k : Int) (hk : inR k) (x : ByteArray) (hx : x.size ≤ 1048576) : FitW ⟨k, 0, 0, 0, 0, 0, 0, 0, false, [], x⟩ := ⟨inW_k k hk x, by simp, by simp, by simp [Ro.entsT, M.tieT], hx⟩
theorem fitW_e : FitW ⟨0, 0, 0, 0, 0, 0, 0, 0, false, [(1, Od.E0)], Od.E0⟩ := ⟨⟨inR0, inR0, inR0, inR0, inR0, inR0, inR0, inR0, by intro e he; simp at he; subst he; decide⟩, by intro e he; simp at he; subst he; exact ⟨by decide, by decide⟩, by simp, by decide +kernel, by decide⟩
theorem fitR_t : FitR ⟨0, 0, true, Od.E0, []⟩ := ⟨by decide, by decide, by decide, by simp, by simp⟩
theorem fitR_p : FitR ⟨0, 0, false, Od.E0, [(⟨#[97]⟩, Od.E0)]⟩ := ⟨by decide, by decide, by decide, by simp, by intro p hp; simp at hp; subst hp; exact ⟨by decide, by decide⟩⟩
theorem inR1 : inR 1 := by decide
theorem inR2 : inR 2 := by decide
theorem fitP {f t g i n : Int} (h : InP f t g i n) : FitK ⟨2, f, t, g, Wr.zero, i, n, Od.Ask.zero, 0, 0, 0, 0, Od.Rep.zero⟩ := ⟨⟨inR2, h.f, h.t, h.g, (fitW_zero).r, h.i, h.n, fitA_zero.r, inR0, inR0, inR0, inR0, fitR_zero.code, fitR_zero.err⟩, fitW_zero, fitA_zero, fitR_zero, putW_zero, putA_zero, putR_zero⟩
theorem fitP0 {f t g i n : Int} (h : InP f t g i n) : FitK ⟨2, f, t, g, ⟨1, 0, 0, 0, 0, 0, 0, 0, false, [], Od.E0⟩, i, n, Od.Ask.zero, 0, 0, 0, 0, Od.Rep.zero⟩ := ⟨⟨inR2, h.f, h.t, h.g, (fitW_k 1 inR1 _ (by decide)).r, h.i, h.n, fitA_zero.r, inR0, inR0, inR0, inR0, fitR_zero.code, fitR_zero.err⟩, fitW_k 1 inR1 _ (by decide), fitA_zero, fitR_zero, putW_a, putA_zero, putR_zero⟩
theorem noP0 (f t g i n : Int) : isK ⟨2, f, t, g, ⟨1, 0, 0, 0, 0, 0, 0, 0, false, [], Od.E0⟩, i, n, Od.Ask.zero, 0, 0, 0, 0, Od.Rep.zero⟩ = false := isK_no (fun e => absurd (congrArg (fun p : Pk => p.wire.kind) e) (by first | decide | (simp [ownK]; done) | (unfold ownK; decide)))
theorem fitP1 {f t g i n : Int} (h : InP f t g i n) : FitK ⟨2, f, t, g, ⟨0, 0, 0, 0, 0, 0, 0, 0, false, [], ⟨#[120]⟩⟩, i, n, Od.Ask.zero, 0, 0, 0, 0, Od.Rep.zero⟩ := ⟨⟨inR2, h.f, h.t, h.g, (fitW_k 0 inR0 _ (by decide)).r, h.i, h.n, fitA_zero.r, inR0, inR0, inR0, inR0, fitR_zero.code, fitR_zero.err⟩, fitW_k 0 inR0 _ (by decide), fitA_zero, fitR_zero, putW_b, putA_zero, putR_zero⟩
theorem noP1 (f t g i n : Int) : isK ⟨2, f, t, g, ⟨0, 0, 0, 0, 0, 0, 0, 0, false, [], ⟨#[120]⟩⟩, i, n, Od.Ask.zero, 0, 0, 0, 0, Od.Rep.zero⟩ = false := isK_no (fun e => absurd (congrArg (fun p : Pk => p.wire.text.size) e) (by show ¬ (1 : Nat) = 0; decide))
theorem fitP2 {f t g i n : Int} (h : InP f t g i n) : FitK ⟨2, f, t, g, Wr.zero, i, n, askO, 0, 0, 0, 0, Od.Rep.zero⟩ := ⟨⟨inR2, h.f, h.t, h.g, (fitW_zero).r, h.i, h.n, fitA_ask.r, inR0, inR0, inR0, inR0, fitR_zero.code, fitR_zero.err⟩, fitW_zero, fitA_ask, fitR_zero, putW_zero, putA_ask, putR_zero⟩
theorem noP2 (f t g i n : Int) : isK ⟨2, f, t, g, Wr.zero, i, n, askO, 0, 0, 0, 0, Od.Rep.zero⟩ = false := isK_no (fun e => absurd (congrArg (fun p : Pk => p.ord.kind) e) (by first | decide | (simp [ownK]; done) | (unfold ownK; decide)))
theorem fitP3 {f t g i n : Int} (h : InP f t g i n) : FitK ⟨2, f, t, g, Wr.zero, i, n, Od.Ask.zero, 1, 0, 0, 0, Od.Rep.zero⟩ := ⟨⟨inR2, h.f, h.t, h.g, (fitW_zero).r, h.i, h.n, fitA_zero.r, inR1, inR0, inR0, inR0, fitR_zero.code, fitR_zero.err⟩, fitW_zero, fitA_zero, fitR_zero, putW_zero, putA_zero, putR_zero⟩
theorem noP3 (f t g i n : Int) : isK ⟨2, f, t, g, Wr.zero, i, n, Od.Ask.zero, 1, 0, 0, 0, Od.Rep.zero⟩ = false := isK_no (fun e => absurd (congrArg (fun p : Pk => p.client) e) (by first | decide | (simp [ownK]; done) | (unfold ownK; decide)))
theorem fitP4 {f t g i n : Int} (h : InP f t g i n) : FitK ⟨2, f, t, g, Wr.zero, i, n, Od.Ask.zero, 0, 1, 0, 0, Od.Rep.zero⟩ := ⟨⟨inR2, h.f, h.t, h.g, (fitW_zero).r, h.i, h.n, fitA_zero.r, inR0, inR1, inR0, inR0, fitR_zero.code, fitR_zero.err⟩, fitW_zero, fitA_zero, fitR_zero, putW_zero, putA_zero, putR_zero⟩
theorem noP4 (f t g i n : Int) : isK ⟨2, f, t, g, Wr.zero, i, n, Od.Ask.zero, 0, 1, 0, 0, Od.Rep.zero⟩ = false := isK_no (fun e => absurd (congrArg (fun p : Pk => p.seq) e) (by first | decide | (simp [ownK]; done) | (unfold ownK; decide)))
theorem fitP5 {f t g i n : Int} (h : InP f t g i n) : FitK ⟨2, f, t, g, Wr.zero, i, n, Od.Ask.zero, 0, 0, 1, 0, Od.Rep.zero⟩ := ⟨⟨inR2, h.f, h.t, h.g, (fitW_zero).r, h.i, h.n, fitA_zero.r, inR0, inR0, inR1, inR0, fitR_zero.code, fitR_zero.err⟩, fitW_zero, fitA_zero, fitR_zero, putW_zero, putA_zero, putR_zero⟩
theorem noP5 (f t g i n : Int) : isK ⟨2, f, t, g, Wr.zero, i, n, Od.Ask.zero, 0, 0, 1, 0, Od.Rep.zero⟩ = false := isK_no (fun e => absurd (congrArg (fun p : Pk => p.status) e) (by first | decide | (simp [ownK]; done) | (unfold ownK; decide)))
theorem fitP6 {f t g i n : Int} (h : InP f t g i n) : FitK ⟨2, f, t, g, Wr.zero, i, n, Od.Ask.zero, 0, 0, 0, 1, Od.Rep.zero⟩ := ⟨⟨inR2, h.f, h.t, h.g, (fitW_zero).r, h.i, h.n, fitA_zero.r, inR0, inR0, inR0, inR1, fitR_zero.code, fitR_zero.err⟩, fitW_zero, fitA_zero, fitR_zero, putW_zero, putA_zero, putR_zero⟩
theorem noP6 (f t g i n : Int) : isK ⟨2, f, t, g, Wr.zero, i, n, Od.Ask.zero, 0, 0, 0, 1, Od.Rep.zero⟩ = false := isK_no (fun e => absurd (congrArg (fun p : Pk => p.hint) e) (by first | decide | (simp [ownK]; done) | (unfold ownK; decide)))
theorem fitP7 {f t g i n : Int} (h : InP f t g i n) : FitK ⟨2, f, t, g, Wr.zero, i, n, Od.Ask.zero, 0, 0, 0, 0, ⟨0, 0, true, Od.E0, []⟩⟩ := ⟨⟨inR2, h.f, h.t, h.g, (fitW_zero).r, h.i, h.n, fitA_zero.r, inR0, inR0, inR0, inR0, fitR_t.code, fitR_t.err⟩, fitW_zero, fitA_zero, fitR_t, putW_zero, putA_zero, putR_a⟩
theorem noP7 (f t g i n : Int) : isK ⟨2, f, t, g, Wr.zero, i, n, Od.Ask.zero, 0, 0, 0, 0, ⟨0, 0, true, Od.E0, []⟩⟩ = false := isK_no (fun e => absurd (congrArg (fun p : Pk => p.rep.has) e) (by first | decide | (simp [ownK]; done) | (unfold ownK; decide)))
theorem fitP8 {f t g i n : Int} (h : InP f t g i n) : FitK ⟨2, f, t, g, ⟨0, 0, 0, 0, 0, 0, 0, 0, false, [(1, Od.E0)], Od.E0⟩, i, n, Od.Ask.zero, 0, 0, 0, 0, Od.Rep.zero⟩ := ⟨⟨inR2, h.f, h.t, h.g, (fitW_e).r, h.i, h.n, fitA_zero.r, inR0, inR0, inR0, inR0, fitR_zero.code, fitR_zero.err⟩, fitW_e, fitA_zero, fitR_zero, putW_c, putA_zero, putR_zero⟩
theorem noP8 (f t g i n : Int) : isK ⟨2, f, t, g, ⟨0, 0, 0, 0, 0, 0, 0, 0, false, [(1, Od.E0)], Od.E0⟩, i, n, Od.Ask.zero, 0, 0, 0, 0, Od.Rep.zero⟩ = false := isK_no (fun e => absurd (congrArg (fun p : Pk => p.wire.es.length) e) (by first | decide | (simp [ownK]; done) | (unfold ownK; decide)))
theorem fitP9 {f t g i n : Int} (h : InP f t g i n) : FitK ⟨2, f, t, g, Wr.zero, i, n, Od.Ask.zero, 0, 0, 0, 0, ⟨0, 0, false, Od.E0, [(⟨#[97]⟩, Od.E0)]⟩⟩ := ⟨⟨inR2, h.f, h.t, h.g, (fitW_zero).r, h.i, h.n, fitA_zero.r, inR0, inR0, inR0, inR0, fitR_p.code, fitR_p.err⟩, fitW_zero, fitA_zero, fitR_p, putW_zero, putA_zero, putR_b⟩
theorem noP9 (f t g i n : Int) : isK ⟨2, f, t, g, Wr.zero, i, n, Od.Ask.zero, 0, 0, 0, 0, ⟨0, 0, false, Od.E0, [(⟨#[97]⟩, Od.E0)]⟩⟩ = false := isK_no (fun e => absurd (congrArg (fun p : Pk => p.rep.ps.length) e) (by first | decide | (simp [ownK]; done) | (unfold ownK; decide)))
set_option maxRecDepth 100000 in
set_option maxHeartbeats 64000000 in
theorem plain_walk (f t g i n wh : Int) (w : World) (hin : InP f t g i n) (hg : Good w) :
    Calls Tryz.prog 6 #[.int .i64 f, .int .i64 t, .int .i64 g, .int .i64 i, .int .i64 n, .int .i64 wh] w fun e w' => e = .returned (.bool true) ∧ Below w.heap.size w w' := by
  go_enter Tryz.func6, Tryz.ntmps6
  go_wp2_with (refine wpList_newK rfl rfl ?_)
  intro W0 Z0 hb0 hz0
  go_wp2_with (refine wpList_setK (o := ⟨⟨2, f, t, g, Wr.zero, i, n, Od.Ask.zero, 0, 0, 0, 0, Od.Rep.zero⟩, nilS, nilS⟩) rfl rfl rfl rfl Z0 rfl rfl ?_)
  intro W1 Z1 hoth hb1 hz1
  have hW1 := hb1 _ _ hb0 (Nat.le_refl _)
  clear hoth Z0 hb0 hb1 hz0 hz1
  go_step
  go_step
  rename_i K hK
  refine hK _ _ ?_
  clear hK
  go_step
  rename_i K2 hK2
  have hR2 : ∀ (nd : Bool) (s24 s25 s26 s27 s28 s29 s30 s31 s32 s33 s34 s35 s36 s37 : Value), nd = (decide (1 ≤ f) && decide (f ≤ 7) && decide (1 ≤ t) && decide (t ≤ 7)) → K2 { tmps := #[.int .i64 f, .int .i64 t, .int .i64 g, .int .i64 i, .int .i64 n, .int .i64 wh, undef, undef, undef, undef, undef, undef, .bool false, .pointer (some ⟨w.heap.size, 0, none⟩), .bool nd, undef, undef, undef, .int .i64 f, .int .i64 t, .int .i64 g, .int .i64 i, .int .i64 n, kv ⟨⟨2, f, t, g, Wr.zero, i, n, Od.Ask.zero, 0, 0, 0, 0, Od.Rep.zero⟩, nilS, nilS⟩, s24, s25, s26, s27, s28, s29, s30, s31, s32, s33, s34, s35, s36, s37, undef, undef, undef, undef, undef, undef, undef, undef, undef, undef, undef, undef, undef, undef, undef, undef, undef, undef, undef, undef, undef, undef, undef, undef, undef, undef, undef, undef, undef, undef, undef, undef, undef, undef, undef, undef, undef, undef, undef, undef, undef, undef, undef, undef, undef, undef, undef, undef, undef, undef, undef, undef, undef, undef, undef, undef, undef, undef, undef, undef, undef, undef, undef, undef, undef, undef, undef, undef, undef, undef, undef, undef, undef, undef, undef, undef, undef, undef, undef, undef, undef, undef, undef, undef, undef, undef, undef, undef, undef, undef, undef, undef, undef, undef, undef, undef], defers := [] } W1 := by
    intro nd s24 s25 s26 s27 s28 s29 s30 s31 s32 s33 s34 s35 s36 s37 hnd
    refine hK2 _ _ ?_
    clear hK2
    go_step
    rename_i K3 hK3
    have hR3 : ∀ (rt : Bool) (s38 s39 s40 s41 s42 s43 s44 s45 s46 s47 s48 s49 s50 s51 s52 s53 s54 s55 s56 s57 s58 s59 s60 s61 s62 s63 : Value), rt = plainR f t g i n → K3 { tmps := #[.int .i64 f, .int .i64 t, .int .i64 g, .int .i64 i, .int .i64 n, .int .i64 wh, undef, undef, undef, undef, undef, undef, .bool false, .pointer (some ⟨w.heap.size, 0, none⟩), .bool nd, .bool rt, undef, undef, .int .i64 f, .int .i64 t, .int .i64 g, .int .i64 i, .int .i64 n, kv ⟨⟨2, f, t, g, Wr.zero, i, n, Od.Ask.zero, 0, 0, 0, 0, Od.Rep.zero⟩, nilS, nilS⟩, s24, s25, s26, s27, s28, s29, s30, s31, s32, s33, s34, s35, s36, s37, s38, s39, s40, s41, s42, s43, s44, s45, s46, s47, s48, s49, s50, s51, s52, s53, s54, s55, s56, s57, s58, s59, s60, s61, s62, s63, undef, undef, undef, undef, undef, undef, undef, undef, undef, undef, undef, undef, undef, undef, undef, undef, undef, undef, undef, undef, undef, undef, undef, undef, undef, undef, undef, undef, undef, undef, undef, undef, undef, undef, undef, undef, undef, undef, undef, undef, undef, undef, undef, undef, undef, undef, undef, undef, undef, undef, undef, undef, undef, undef, undef, undef, undef, undef, undef, undef, undef, undef, undef, undef, undef, undef, undef, undef, undef, undef], defers := [] } W1 := by
      intro rt s38 s39 s40 s41 s42 s43 s44 s45 s46 s47 s48 s49 s50 s51 s52 s53 s54 s55 s56 s57 s58 s59 s60 s61 s62 s63 hrt
      refine hK3 _ _ ?_
      clear hK3 hnd
      have cC := check_any ⟨⟨2, f, t, g, Wr.zero, i, n, Od.Ask.zero, 0, 0, 0, 0, Od.Rep.zero⟩, nilS, nilS⟩ W1 ⟨SE.nil _ _, Od.SP.nil _ _⟩ (fitP hin).siz hin.i (hg.below hW1)
      unfold chkK at cC
      rw [plain_is] at cC
      rw [← hrt] at cC
      have h5 : ∀ (t64 t65 t66 t67 t68 t69 : Value), True := fun _ _ _ _ _ _ => trivial
      clear h5 hrt
      cases rt
      all_goals
        simp only [Bool.false_eq_true, if_false, if_true] at cC
        go_wp2_with (refine wpList_loadK (o := ⟨⟨2, f, t, g, Wr.zero, i, n, Od.Ask.zero, 0, 0, 0, 0, Od.Rep.zero⟩, nilS, nilS⟩) rfl rfl rfl Z1 ?_)
        refine cC.mono ?_
        rintro e W2 ⟨rfl, b2⟩
        have Z2 := Z1.keep b2
        have hW2 := hW1.trans (b2.mono hW1.size)
        clear cC b2 Z1 hW1
        have Z1 := Z2
        have hW1 := hW2
        clear Z2 hW2
        generalize W2 = W1 at Z1 hW1 ⊢
        go_wp2_with fail
        refine (num_any _ _).mono ?_
        rintro e wn ⟨rfl, rfl⟩
        by_cases k0 : wh = 0
        · subst k0
          have Z2 := Z1
          have hL2 := hW1
          have d4 : W1.cell? ⟨w.heap.size, 4, none⟩ = some (.int .i64 0) := Z1.cell 4
          have z4 : W1.frozen? ⟨w.heap.size, 4, none⟩ = false := Z1.frozen 4
          go_wp2_with (refine wpList_getK rfl rfl rfl ?_)
          have hB : BoxK w.heap.size ⟨⟨2, f, t, g, ⟨1, 0, 0, 0, 0, 0, 0, 0, false, [], Od.E0⟩, i, n, Od.Ask.zero, 0, 0, 0, 0, Od.Rep.zero⟩, nilS, nilS⟩ (World.setCell W1 ⟨w.heap.size, 4, none⟩ (.int .i64 1)) := AtL.to ((AtL.of Z2).cell 4 (.int .i64 1)) rfl
          have hL : Below w.heap.size w (World.setCell W1 ⟨w.heap.size, 4, none⟩ (.int .i64 1)) := (hL2.setCell (p := ⟨w.heap.size, 4, none⟩) (Nat.le_refl _) (.int .i64 1))
          have hH : HK (World.setCell W1 ⟨w.heap.size, 4, none⟩ (.int .i64 1)) ((World.setCell W1 ⟨w.heap.size, 4, none⟩ (.int .i64 1))).heap.size ⟨⟨2, f, t, g, ⟨1, 0, 0, 0, 0, 0, 0, 0, false, [], Od.E0⟩, i, n, Od.Ask.zero, 0, 0, 0, 0, Od.Rep.zero⟩, nilS, nilS⟩ := ⟨SE.nil _ _, Od.SP.nil _ _⟩
          refine ⟨⟨⟨2, f, t, g, ⟨1, 0, 0, 0, 0, 0, 0, 0, false, [], Od.E0⟩, i, n, Od.Ask.zero, 0, 0, 0, 0, Od.Rep.zero⟩, nilS, nilS⟩, hB, ?_⟩
          have hN := noP0 f t g i n
          have hF := fitP0 hin
          clear Z1 Z2 hL2 hW1 d4 z4
          generalize (World.setCell W1 ⟨w.heap.size, 4, none⟩ (.int .i64 1)) = W9 at hB hL hH ⊢
          have cP := put_any ⟨⟨2, f, t, g, ⟨1, 0, 0, 0, 0, 0, 0, 0, false, [], Od.E0⟩, i, n, Od.Ask.zero, 0, 0, 0, 0, Od.Rep.zero⟩, nilS, nilS⟩ W9 hH hF (hg.below hL)
          unfold putE at cP
          rw [hN] at cP
          simp only [Bool.false_eq_true, if_false] at cP
          rw [show str [] = Value.string ⟨#[]⟩ from rfl] at cP
          go_wp2_with fail
          refine cP.mono ?_
          rintro e w3 ⟨rfl, b3⟩
          have hB3 := hB.keep b3
          have hL3 := hL.trans (b3.mono hL.size)
          have hH3 : HK w3 w3.heap.size ⟨⟨2, f, t, g, ⟨1, 0, 0, 0, 0, 0, 0, 0, false, [], Od.E0⟩, i, n, Od.Ask.zero, 0, 0, 0, 0, Od.Rep.zero⟩, nilS, nilS⟩ := hH.keep b3
          clear cP b3 hB hL hH
          have cC := check_any ⟨⟨2, f, t, g, ⟨1, 0, 0, 0, 0, 0, 0, 0, false, [], Od.E0⟩, i, n, Od.Ask.zero, 0, 0, 0, 0, Od.Rep.zero⟩, nilS, nilS⟩ w3 hH3 hF.siz hF.r.id (hg.below hL3)
          unfold chkK at cC
          rw [hN] at cC
          simp only [Bool.false_eq_true, if_false] at cC
          go_wp2_with (refine wpList_loadK (o := ⟨⟨2, f, t, g, ⟨1, 0, 0, 0, 0, 0, 0, 0, false, [], Od.E0⟩, i, n, Od.Ask.zero, 0, 0, 0, 0, Od.Rep.zero⟩, nilS, nilS⟩) rfl rfl rfl hB3 ?_)
          refine cC.mono ?_
          rintro e w4 ⟨rfl, b4⟩
          have hL4 := hL3.trans (b4.mono hL3.size)
          clear cC b4 hB3 hL3 hH3
          go_wp2_with fail
          refine (num_any 140 _).mono ?_
          rintro e wn ⟨rfl, rfl⟩
          go_wp2_with fail
          refine (num_any 140 _).mono ?_
          rintro e wn ⟨rfl, rfl⟩
          go_wp2_with fail
          refine (live_any _ (hg.below hL4)).mono ?_
          rintro e w5 ⟨rfl, b5⟩
          have hL5 := hL4.trans (b5.mono hL4.size)
          clear b5 hL4
          go_wp2_with fail
          go_ret
          exact ⟨rfl, hL5⟩
        have q0 : (wh == 0) = false := by simpa using k0
        by_cases k1 : wh = 1
        · subst k1
          clear k0
          have Z2 := Z1
          have hL2 := hW1
          have d14 : W1.cell? ⟨w.heap.size, 14, none⟩ = some (.string Od.E0) := Z1.cell 14
          have z14 : W1.frozen? ⟨w.heap.size, 14, none⟩ = false := Z1.frozen 14
          go_wp2_with (refine wpList_getK rfl rfl rfl ?_)
          have hB : BoxK w.heap.size ⟨⟨2, f, t, g, ⟨0, 0, 0, 0, 0, 0, 0, 0, false, [], ⟨#[120]⟩⟩, i, n, Od.Ask.zero, 0, 0, 0, 0, Od.Rep.zero⟩, nilS, nilS⟩ (World.setCell W1 ⟨w.heap.size, 14, none⟩ (.string ⟨#[120]⟩)) := AtL.to ((AtL.of Z2).cell 14 (.string ⟨#[120]⟩)) rfl
          have hL : Below w.heap.size w (World.setCell W1 ⟨w.heap.size, 14, none⟩ (.string ⟨#[120]⟩)) := (hL2.setCell (p := ⟨w.heap.size, 14, none⟩) (Nat.le_refl _) (.string ⟨#[120]⟩))
          have hH : HK (World.setCell W1 ⟨w.heap.size, 14, none⟩ (.string ⟨#[120]⟩)) ((World.setCell W1 ⟨w.heap.size, 14, none⟩ (.string ⟨#[120]⟩))).heap.size ⟨⟨2, f, t, g, ⟨0, 0, 0, 0, 0, 0, 0, 0, false, [], ⟨#[120]⟩⟩, i, n, Od.Ask.zero, 0, 0, 0, 0, Od.Rep.zero⟩, nilS, nilS⟩ := ⟨SE.nil _ _, Od.SP.nil _ _⟩
          refine ⟨⟨⟨2, f, t, g, ⟨0, 0, 0, 0, 0, 0, 0, 0, false, [], ⟨#[120]⟩⟩, i, n, Od.Ask.zero, 0, 0, 0, 0, Od.Rep.zero⟩, nilS, nilS⟩, hB, ?_⟩
          have hN := noP1 f t g i n
          have hF := fitP1 hin
          clear Z1 Z2 hL2 hW1 d14 z14
          generalize (World.setCell W1 ⟨w.heap.size, 14, none⟩ (.string ⟨#[120]⟩)) = W9 at hB hL hH ⊢
          have cP := put_any ⟨⟨2, f, t, g, ⟨0, 0, 0, 0, 0, 0, 0, 0, false, [], ⟨#[120]⟩⟩, i, n, Od.Ask.zero, 0, 0, 0, 0, Od.Rep.zero⟩, nilS, nilS⟩ W9 hH hF (hg.below hL)
          unfold putE at cP
          rw [hN] at cP
          simp only [Bool.false_eq_true, if_false] at cP
          rw [show str [] = Value.string ⟨#[]⟩ from rfl] at cP
          go_wp2_with fail
          refine cP.mono ?_
          rintro e w3 ⟨rfl, b3⟩
          have hB3 := hB.keep b3
          have hL3 := hL.trans (b3.mono hL.size)
          have hH3 : HK w3 w3.heap.size ⟨⟨2, f, t, g, ⟨0, 0, 0, 0, 0, 0, 0, 0, false, [], ⟨#[120]⟩⟩, i, n, Od.Ask.zero, 0, 0, 0, 0, Od.Rep.zero⟩, nilS, nilS⟩ := hH.keep b3
          clear cP b3 hB hL hH
          have cC := check_any ⟨⟨2, f, t, g, ⟨0, 0, 0, 0, 0, 0, 0, 0, false, [], ⟨#[120]⟩⟩, i, n, Od.Ask.zero, 0, 0, 0, 0, Od.Rep.zero⟩, nilS, nilS⟩ w3 hH3 hF.siz hF.r.id (hg.below hL3)
          unfold chkK at cC
          rw [hN] at cC
          simp only [Bool.false_eq_true, if_false] at cC
          go_wp2_with (refine wpList_loadK (o := ⟨⟨2, f, t, g, ⟨0, 0, 0, 0, 0, 0, 0, 0, false, [], ⟨#[120]⟩⟩, i, n, Od.Ask.zero, 0, 0, 0, 0, Od.Rep.zero⟩, nilS, nilS⟩) rfl rfl rfl hB3 ?_)
          refine cC.mono ?_
          rintro e w4 ⟨rfl, b4⟩
          have hL4 := hL3.trans (b4.mono hL3.size)
          clear cC b4 hB3 hL3 hH3
          go_wp2_with fail
          refine (num_any 140 _).mono ?_
          rintro e wn ⟨rfl, rfl⟩
          go_wp2_with fail
          refine (num_any 140 _).mono ?_
          rintro e wn ⟨rfl, rfl⟩
          go_wp2_with fail
          refine (live_any _ (hg.below hL4)).mono ?_
          rintro e w5 ⟨rfl, b5⟩
          have hL5 := hL4.trans (b5.mono hL4.size)
          clear b5 hL4
          go_wp2_with fail
          go_ret
          exact ⟨rfl, hL5⟩
        have q1 : (wh == 1) = false := by simpa using k1
        by_cases k2 : wh = 2
        · subst k2
          clear k0 k1
          go_wp2_with fail
          refine (ask_any _).mono ?_
          rintro e w2 ⟨rfl, b2⟩
          have Z2 := Z1.keep b2
          have hL2 := hW1.trans (b2.mono hW1.size)
          clear b2
          have d17 : w2.cell? ⟨w.heap.size, 17, none⟩ = some (.int .i64 0) := Z2.cell 17
          have z17 : w2.frozen? ⟨w.heap.size, 17, none⟩ = false := Z2.frozen 17
          have d18 : w2.cell? ⟨w.heap.size, 18, none⟩ = some (.int .i64 0) := Z2.cell 18
          have z18 : w2.frozen? ⟨w.heap.size, 18, none⟩ = false := Z2.frozen 18
          have d19 : w2.cell? ⟨w.heap.size, 19, none⟩ = some (.int .i64 0) := Z2.cell 19
          have z19 : w2.frozen? ⟨w.heap.size, 19, none⟩ = false := Z2.frozen 19
          have d20 : w2.cell? ⟨w.heap.size, 20, none⟩ = some (.string Od.E0) := Z2.cell 20
          have z20 : w2.frozen? ⟨w.heap.size, 20, none⟩ = false := Z2.frozen 20
          have d21 : w2.cell? ⟨w.heap.size, 21, none⟩ = some (.string Od.E0) := Z2.cell 21
          have z21 : w2.frozen? ⟨w.heap.size, 21, none⟩ = false := Z2.frozen 21
          have d22 : w2.cell? ⟨w.heap.size, 22, none⟩ = some (.string Od.E0) := Z2.cell 22
          have z22 : w2.frozen? ⟨w.heap.size, 22, none⟩ = false := Z2.frozen 22
          have d23 : w2.cell? ⟨w.heap.size, 23, none⟩ = some (.string Od.E0) := Z2.cell 23
          have z23 : w2.frozen? ⟨w.heap.size, 23, none⟩ = false := Z2.frozen 23
          have d24 : w2.cell? ⟨w.heap.size, 24, none⟩ = some (.bool false) := Z2.cell 24
          have z24 : w2.frozen? ⟨w.heap.size, 24, none⟩ = false := Z2.frozen 24
          have d25 : w2.cell? ⟨w.heap.size, 25, none⟩ = some (.int .i64 0) := Z2.cell 25
          have z25 : w2.frozen? ⟨w.heap.size, 25, none⟩ = false := Z2.frozen 25
          have d26 : w2.cell? ⟨w.heap.size, 26, none⟩ = some (.int .i64 0) := Z2.cell 26
          have z26 : w2.frozen? ⟨w.heap.size, 26, none⟩ = false := Z2.frozen 26
          have d27 : w2.cell? ⟨w.heap.size, 27, none⟩ = some (.int .i64 0) := Z2.cell 27
          have z27 : w2.frozen? ⟨w.heap.size, 27, none⟩ = false := Z2.frozen 27
          go_wp2_with fail
          rename_i K9 hK9
          refine hK9 _ _ ?_
          clear hK9
          conv in (Value.agg (Array.extract _ _ _)) => change Value.agg #[.int .i64 1, .int .i64 1, .int .i64 1, .string ⟨#[97]⟩, .string Od.E0, .string Od.E0, .string Od.E0, .bool false, .int .i64 0, .int .i64 0, .int .i64 0]
          go_wp2_with (refine wpList_getK rfl rfl rfl ?_)
          have hB : BoxK w.heap.size ⟨⟨2, f, t, g, Wr.zero, i, n, askO, 0, 0, 0, 0, Od.Rep.zero⟩, nilS, nilS⟩ (World.setCell (World.setCell (World.setCell (World.setCell (World.setCell (World.setCell (World.setCell (World.setCell (World.setCell (World.setCell (World.setCell w2 ⟨w.heap.size, 17, none⟩ (.int .i64 1)) ⟨w.heap.size, 18, none⟩ (.int .i64 1)) ⟨w.heap.size, 19, none⟩ (.int .i64 1)) ⟨w.heap.size, 20, none⟩ (.string ⟨#[97]⟩)) ⟨w.heap.size, 21, none⟩ (.string Od.E0)) ⟨w.heap.size, 22, none⟩ (.string Od.E0)) ⟨w.heap.size, 23, none⟩ (.string Od.E0)) ⟨w.heap.size, 24, none⟩ (.bool false)) ⟨w.heap.size, 25, none⟩ (.int .i64 0)) ⟨w.heap.size, 26, none⟩ (.int .i64 0)) ⟨w.heap.size, 27, none⟩ (.int .i64 0)) := AtL.to ((((((((((((AtL.of Z2).cell 17 (.int .i64 1)).cell 18 (.int .i64 1)).cell 19 (.int .i64 1)).cell 20 (.string ⟨#[97]⟩)).cell 21 (.string Od.E0)).cell 22 (.string Od.E0)).cell 23 (.string Od.E0)).cell 24 (.bool false)).cell 25 (.int .i64 0)).cell 26 (.int .i64 0)).cell 27 (.int .i64 0)) rfl
          have hL : Below w.heap.size w (World.setCell (World.setCell (World.setCell (World.setCell (World.setCell (World.setCell (World.setCell (World.setCell (World.setCell (World.setCell (World.setCell w2 ⟨w.heap.size, 17, none⟩ (.int .i64 1)) ⟨w.heap.size, 18, none⟩ (.int .i64 1)) ⟨w.heap.size, 19, none⟩ (.int .i64 1)) ⟨w.heap.size, 20, none⟩ (.string ⟨#[97]⟩)) ⟨w.heap.size, 21, none⟩ (.string Od.E0)) ⟨w.heap.size, 22, none⟩ (.string Od.E0)) ⟨w.heap.size, 23, none⟩ (.string Od.E0)) ⟨w.heap.size, 24, none⟩ (.bool false)) ⟨w.heap.size, 25, none⟩ (.int .i64 0)) ⟨w.heap.size, 26, none⟩ (.int .i64 0)) ⟨w.heap.size, 27, none⟩ (.int .i64 0)) := (((((((((((hL2.setCell (p := ⟨w.heap.size, 17, none⟩) (Nat.le_refl _) (.int .i64 1)).setCell (p := ⟨w.heap.size, 18, none⟩) (Nat.le_refl _) (.int .i64 1)).setCell (p := ⟨w.heap.size, 19, none⟩) (Nat.le_refl _) (.int .i64 1)).setCell (p := ⟨w.heap.size, 20, none⟩) (Nat.le_refl _) (.string ⟨#[97]⟩)).setCell (p := ⟨w.heap.size, 21, none⟩) (Nat.le_refl _) (.string Od.E0)).setCell (p := ⟨w.heap.size, 22, none⟩) (Nat.le_refl _) (.string Od.E0)).setCell (p := ⟨w.heap.size, 23, none⟩) (Nat.le_refl _) (.string Od.E0)).setCell (p := ⟨w.heap.size, 24, none⟩) (Nat.le_refl _) (.bool false)).setCell (p := ⟨w.heap.size, 25, none⟩) (Nat.le_refl _) (.int .i64 0)).setCell (p := ⟨w.heap.size, 26, none⟩) (Nat.le_refl _) (.int .i64 0)).setCell (p := ⟨w.heap.size, 27, none⟩) (Nat.le_refl _) (.int .i64 0))
          have hH : HK (World.setCell (World.setCell (World.setCell (World.setCell (World.setCell (World.setCell (World.setCell (World.setCell (World.setCell (World.setCell (World.setCell w2 ⟨w.heap.size, 17, none⟩ (.int .i64 1)) ⟨w.heap.size, 18, none⟩ (.int .i64 1)) ⟨w.heap.size, 19, none⟩ (.int .i64 1)) ⟨w.heap.size, 20, none⟩ (.string ⟨#[97]⟩)) ⟨w.heap.size, 21, none⟩ (.string Od.E0)) ⟨w.heap.size, 22, none⟩ (.string Od.E0)) ⟨w.heap.size, 23, none⟩ (.string Od.E0)) ⟨w.heap.size, 24, none⟩ (.bool false)) ⟨w.heap.size, 25, none⟩ (.int .i64 0)) ⟨w.heap.size, 26, none⟩ (.int .i64 0)) ⟨w.heap.size, 27, none⟩ (.int .i64 0)) ((World.setCell (World.setCell (World.setCell (World.setCell (World.setCell (World.setCell (World.setCell (World.setCell (World.setCell (World.setCell (World.setCell w2 ⟨w.heap.size, 17, none⟩ (.int .i64 1)) ⟨w.heap.size, 18, none⟩ (.int .i64 1)) ⟨w.heap.size, 19, none⟩ (.int .i64 1)) ⟨w.heap.size, 20, none⟩ (.string ⟨#[97]⟩)) ⟨w.heap.size, 21, none⟩ (.string Od.E0)) ⟨w.heap.size, 22, none⟩ (.string Od.E0)) ⟨w.heap.size, 23, none⟩ (.string Od.E0)) ⟨w.heap.size, 24, none⟩ (.bool false)) ⟨w.heap.size, 25, none⟩ (.int .i64 0)) ⟨w.heap.size, 26, none⟩ (.int .i64 0)) ⟨w.heap.size, 27, none⟩ (.int .i64 0))).heap.size ⟨⟨2, f, t, g, Wr.zero, i, n, askO, 0, 0, 0, 0, Od.Rep.zero⟩, nilS, nilS⟩ := ⟨SE.nil _ _, Od.SP.nil _ _⟩
          refine ⟨⟨⟨2, f, t, g, Wr.zero, i, n, askO, 0, 0, 0, 0, Od.Rep.zero⟩, nilS, nilS⟩, hB, ?_⟩
          have hN := noP2 f t g i n
          have hF := fitP2 hin
          clear Z1 Z2 hL2 hW1 d17 z17 d18 z18 d19 z19 d20 z20 d21 z21 d22 z22 d23 z23 d24 z24 d25 z25 d26 z26 d27 z27
          generalize (World.setCell (World.setCell (World.setCell (World.setCell (World.setCell (World.setCell (World.setCell (World.setCell (World.setCell (World.setCell (World.setCell w2 ⟨w.heap.size, 17, none⟩ (.int .i64 1)) ⟨w.heap.size, 18, none⟩ (.int .i64 1)) ⟨w.heap.size, 19, none⟩ (.int .i64 1)) ⟨w.heap.size, 20, none⟩ (.string ⟨#[97]⟩)) ⟨w.heap.size, 21, none⟩ (.string Od.E0)) ⟨w.heap.size, 22, none⟩ (.string Od.E0)) ⟨w.heap.size, 23, none⟩ (.string Od.E0)) ⟨w.heap.size, 24, none⟩ (.bool false)) ⟨w.heap.size, 25, none⟩ (.int .i64 0)) ⟨w.heap.size, 26, none⟩ (.int .i64 0)) ⟨w.heap.size, 27, none⟩ (.int .i64 0)) = W9 at hB hL hH ⊢
          have cP := put_any ⟨⟨2, f, t, g, Wr.zero, i, n, askO, 0, 0, 0, 0, Od.Rep.zero⟩, nilS, nilS⟩ W9 hH hF (hg.below hL)
          unfold putE at cP
          rw [hN] at cP
          simp only [Bool.false_eq_true, if_false] at cP
          rw [show str [] = Value.string ⟨#[]⟩ from rfl] at cP
          go_wp2_with fail
          refine cP.mono ?_
          rintro e w3 ⟨rfl, b3⟩
          have hB3 := hB.keep b3
          have hL3 := hL.trans (b3.mono hL.size)
          have hH3 : HK w3 w3.heap.size ⟨⟨2, f, t, g, Wr.zero, i, n, askO, 0, 0, 0, 0, Od.Rep.zero⟩, nilS, nilS⟩ := hH.keep b3
          clear cP b3 hB hL hH
          have cC := check_any ⟨⟨2, f, t, g, Wr.zero, i, n, askO, 0, 0, 0, 0, Od.Rep.zero⟩, nilS, nilS⟩ w3 hH3 hF.siz hF.r.id (hg.below hL3)
          unfold chkK at cC
          rw [hN] at cC
          simp only [Bool.false_eq_true, if_false] at cC
          go_wp2_with (refine wpList_loadK (o := ⟨⟨2, f, t, g, Wr.zero, i, n, askO, 0, 0, 0, 0, Od.Rep.zero⟩, nilS, nilS⟩) rfl rfl rfl hB3 ?_)
          refine cC.mono ?_
          rintro e w4 ⟨rfl, b4⟩
          have hL4 := hL3.trans (b4.mono hL3.size)
          clear cC b4 hB3 hL3 hH3
          go_wp2_with fail
          refine (num_any 140 _).mono ?_
          rintro e wn ⟨rfl, rfl⟩
          go_wp2_with fail
          refine (num_any 140 _).mono ?_
          rintro e wn ⟨rfl, rfl⟩
          go_wp2_with fail
          refine (live_any _ (hg.below hL4)).mono ?_
          rintro e w5 ⟨rfl, b5⟩
          have hL5 := hL4.trans (b5.mono hL4.size)
          clear b5 hL4
          go_wp2_with fail
          go_ret
          exact ⟨rfl, hL5⟩
        have q2 : (wh == 2) = false := by simpa using k2
        by_cases k3 : wh = 3
        · subst k3
          clear k0 k1 k2
          have Z2 := Z1
          have hL2 := hW1
          have d28 : W1.cell? ⟨w.heap.size, 28, none⟩ = some (.int .i64 0) := Z1.cell 28
          have z28 : W1.frozen? ⟨w.heap.size, 28, none⟩ = false := Z1.frozen 28
          go_wp2_with (refine wpList_getK rfl rfl rfl ?_)
          have hB : BoxK w.heap.size ⟨⟨2, f, t, g, Wr.zero, i, n, Od.Ask.zero, 1, 0, 0, 0, Od.Rep.zero⟩, nilS, nilS⟩ (World.setCell W1 ⟨w.heap.size, 28, none⟩ (.int .i64 1)) := AtL.to ((AtL.of Z2).cell 28 (.int .i64 1)) rfl
          have hL : Below w.heap.size w (World.setCell W1 ⟨w.heap.size, 28, none⟩ (.int .i64 1)) := (hL2.setCell (p := ⟨w.heap.size, 28, none⟩) (Nat.le_refl _) (.int .i64 1))
          have hH : HK (World.setCell W1 ⟨w.heap.size, 28, none⟩ (.int .i64 1)) ((World.setCell W1 ⟨w.heap.size, 28, none⟩ (.int .i64 1))).heap.size ⟨⟨2, f, t, g, Wr.zero, i, n, Od.Ask.zero, 1, 0, 0, 0, Od.Rep.zero⟩, nilS, nilS⟩ := ⟨SE.nil _ _, Od.SP.nil _ _⟩
          refine ⟨⟨⟨2, f, t, g, Wr.zero, i, n, Od.Ask.zero, 1, 0, 0, 0, Od.Rep.zero⟩, nilS, nilS⟩, hB, ?_⟩
          have hN := noP3 f t g i n
          have hF := fitP3 hin
          clear Z1 Z2 hL2 hW1 d28 z28
          generalize (World.setCell W1 ⟨w.heap.size, 28, none⟩ (.int .i64 1)) = W9 at hB hL hH ⊢
          have cP := put_any ⟨⟨2, f, t, g, Wr.zero, i, n, Od.Ask.zero, 1, 0, 0, 0, Od.Rep.zero⟩, nilS, nilS⟩ W9 hH hF (hg.below hL)
          unfold putE at cP
          rw [hN] at cP
          simp only [Bool.false_eq_true, if_false] at cP
          rw [show str [] = Value.string ⟨#[]⟩ from rfl] at cP
          go_wp2_with fail
          refine cP.mono ?_
          rintro e w3 ⟨rfl, b3⟩
          have hB3 := hB.keep b3
          have hL3 := hL.trans (b3.mono hL.size)
          have hH3 : HK w3 w3.heap.size ⟨⟨2, f, t, g, Wr.zero, i, n, Od.Ask.zero, 1, 0, 0, 0, Od.Rep.zero⟩, nilS, nilS⟩ := hH.keep b3
          clear cP b3 hB hL hH
          have cC := check_any ⟨⟨2, f, t, g, Wr.zero, i, n, Od.Ask.zero, 1, 0, 0, 0, Od.Rep.zero⟩, nilS, nilS⟩ w3 hH3 hF.siz hF.r.id (hg.below hL3)
          unfold chkK at cC
          rw [hN] at cC
          simp only [Bool.false_eq_true, if_false] at cC
          go_wp2_with (refine wpList_loadK (o := ⟨⟨2, f, t, g, Wr.zero, i, n, Od.Ask.zero, 1, 0, 0, 0, Od.Rep.zero⟩, nilS, nilS⟩) rfl rfl rfl hB3 ?_)
          refine cC.mono ?_
          rintro e w4 ⟨rfl, b4⟩
          have hL4 := hL3.trans (b4.mono hL3.size)
          clear cC b4 hB3 hL3 hH3
          go_wp2_with fail
          refine (num_any 140 _).mono ?_
          rintro e wn ⟨rfl, rfl⟩
          go_wp2_with fail
          refine (num_any 140 _).mono ?_
          rintro e wn ⟨rfl, rfl⟩
          go_wp2_with fail
          refine (live_any _ (hg.below hL4)).mono ?_
          rintro e w5 ⟨rfl, b5⟩
          have hL5 := hL4.trans (b5.mono hL4.size)
          clear b5 hL4
          go_wp2_with fail
          go_ret
          exact ⟨rfl, hL5⟩
        have q3 : (wh == 3) = false := by simpa using k3
        by_cases k4 : wh = 4
        · subst k4
          clear k0 k1 k2 k3
          have Z2 := Z1
          have hL2 := hW1
          have d29 : W1.cell? ⟨w.heap.size, 29, none⟩ = some (.int .i64 0) := Z1.cell 29
          have z29 : W1.frozen? ⟨w.heap.size, 29, none⟩ = false := Z1.frozen 29
          go_wp2_with (refine wpList_getK rfl rfl rfl ?_)
          have hB : BoxK w.heap.size ⟨⟨2, f, t, g, Wr.zero, i, n, Od.Ask.zero, 0, 1, 0, 0, Od.Rep.zero⟩, nilS, nilS⟩ (World.setCell W1 ⟨w.heap.size, 29, none⟩ (.int .i64 1)) := AtL.to ((AtL.of Z2).cell 29 (.int .i64 1)) rfl
          have hL : Below w.heap.size w (World.setCell W1 ⟨w.heap.size, 29, none⟩ (.int .i64 1)) := (hL2.setCell (p := ⟨w.heap.size, 29, none⟩) (Nat.le_refl _) (.int .i64 1))
          have hH : HK (World.setCell W1 ⟨w.heap.size, 29, none⟩ (.int .i64 1)) ((World.setCell W1 ⟨w.heap.size, 29, none⟩ (.int .i64 1))).heap.size ⟨⟨2, f, t, g, Wr.zero, i, n, Od.Ask.zero, 0, 1, 0, 0, Od.Rep.zero⟩, nilS, nilS⟩ := ⟨SE.nil _ _, Od.SP.nil _ _⟩
          refine ⟨⟨⟨2, f, t, g, Wr.zero, i, n, Od.Ask.zero, 0, 1, 0, 0, Od.Rep.zero⟩, nilS, nilS⟩, hB, ?_⟩
          have hN := noP4 f t g i n
          have hF := fitP4 hin
          clear Z1 Z2 hL2 hW1 d29 z29
          generalize (World.setCell W1 ⟨w.heap.size, 29, none⟩ (.int .i64 1)) = W9 at hB hL hH ⊢
          have cP := put_any ⟨⟨2, f, t, g, Wr.zero, i, n, Od.Ask.zero, 0, 1, 0, 0, Od.Rep.zero⟩, nilS, nilS⟩ W9 hH hF (hg.below hL)
          unfold putE at cP
          rw [hN] at cP
          simp only [Bool.false_eq_true, if_false] at cP
          rw [show str [] = Value.string ⟨#[]⟩ from rfl] at cP
          go_wp2_with fail
          refine cP.mono ?_
          rintro e w3 ⟨rfl, b3⟩
          have hB3 := hB.keep b3
          have hL3 := hL.trans (b3.mono hL.size)
          have hH3 : HK w3 w3.heap.size ⟨⟨2, f, t, g, Wr.zero, i, n, Od.Ask.zero, 0, 1, 0, 0, Od.Rep.zero⟩, nilS, nilS⟩ := hH.keep b3
          clear cP b3 hB hL hH
          have cC := check_any ⟨⟨2, f, t, g, Wr.zero, i, n, Od.Ask.zero, 0, 1, 0, 0, Od.Rep.zero⟩, nilS, nilS⟩ w3 hH3 hF.siz hF.r.id (hg.below hL3)
          unfold chkK at cC
          rw [hN] at cC
          simp only [Bool.false_eq_true, if_false] at cC
          go_wp2_with (refine wpList_loadK (o := ⟨⟨2, f, t, g, Wr.zero, i, n, Od.Ask.zero, 0, 1, 0, 0, Od.Rep.zero⟩, nilS, nilS⟩) rfl rfl rfl hB3 ?_)
          refine cC.mono ?_
          rintro e w4 ⟨rfl, b4⟩
          have hL4 := hL3.trans (b4.mono hL3.size)
          clear cC b4 hB3 hL3 hH3
          go_wp2_with fail
          refine (num_any 140 _).mono ?_
          rintro e wn ⟨rfl, rfl⟩
          go_wp2_with fail
          refine (num_any 140 _).mono ?_
          rintro e wn ⟨rfl, rfl⟩
          go_wp2_with fail
          refine (live_any _ (hg.below hL4)).mono ?_
          rintro e w5 ⟨rfl, b5⟩
          have hL5 := hL4.trans (b5.mono hL4.size)
          clear b5 hL4
          go_wp2_with fail
          go_ret
          exact ⟨rfl, hL5⟩
        have q4 : (wh == 4) = false := by simpa using k4
        by_cases k5 : wh = 5
        · subst k5
          clear k0 k1 k2 k3 k4
          have Z2 := Z1
          have hL2 := hW1
          have d30 : W1.cell? ⟨w.heap.size, 30, none⟩ = some (.int .i64 0) := Z1.cell 30
          have z30 : W1.frozen? ⟨w.heap.size, 30, none⟩ = false := Z1.frozen 30
          go_wp2_with (refine wpList_getK rfl rfl rfl ?_)
          have hB : BoxK w.heap.size ⟨⟨2, f, t, g, Wr.zero, i, n, Od.Ask.zero, 0, 0, 1, 0, Od.Rep.zero⟩, nilS, nilS⟩ (World.setCell W1 ⟨w.heap.size, 30, none⟩ (.int .i64 1)) := AtL.to ((AtL.of Z2).cell 30 (.int .i64 1)) rfl
          have hL : Below w.heap.size w (World.setCell W1 ⟨w.heap.size, 30, none⟩ (.int .i64 1)) := (hL2.setCell (p := ⟨w.heap.size, 30, none⟩) (Nat.le_refl _) (.int .i64 1))
          have hH : HK (World.setCell W1 ⟨w.heap.size, 30, none⟩ (.int .i64 1)) ((World.setCell W1 ⟨w.heap.size, 30, none⟩ (.int .i64 1))).heap.size ⟨⟨2, f, t, g, Wr.zero, i, n, Od.Ask.zero, 0, 0, 1, 0, Od.Rep.zero⟩, nilS, nilS⟩ := ⟨SE.nil _ _, Od.SP.nil _ _⟩
          refine ⟨⟨⟨2, f, t, g, Wr.zero, i, n, Od.Ask.zero, 0, 0, 1, 0, Od.Rep.zero⟩, nilS, nilS⟩, hB, ?_⟩
          have hN := noP5 f t g i n
          have hF := fitP5 hin
          clear Z1 Z2 hL2 hW1 d30 z30
          generalize (World.setCell W1 ⟨w.heap.size, 30, none⟩ (.int .i64 1)) = W9 at hB hL hH ⊢
          have cP := put_any ⟨⟨2, f, t, g, Wr.zero, i, n, Od.Ask.zero, 0, 0, 1, 0, Od.Rep.zero⟩, nilS, nilS⟩ W9 hH hF (hg.below hL)
          unfold putE at cP
          rw [hN] at cP
          simp only [Bool.false_eq_true, if_false] at cP
          rw [show str [] = Value.string ⟨#[]⟩ from rfl] at cP
          go_wp2_with fail
          refine cP.mono ?_
          rintro e w3 ⟨rfl, b3⟩
          have hB3 := hB.keep b3
          have hL3 := hL.trans (b3.mono hL.size)
          have hH3 : HK w3 w3.heap.size ⟨⟨2, f, t, g, Wr.zero, i, n, Od.Ask.zero, 0, 0, 1, 0, Od.Rep.zero⟩, nilS, nilS⟩ := hH.keep b3
          clear cP b3 hB hL hH
          have cC := check_any ⟨⟨2, f, t, g, Wr.zero, i, n, Od.Ask.zero, 0, 0, 1, 0, Od.Rep.zero⟩, nilS, nilS⟩ w3 hH3 hF.siz hF.r.id (hg.below hL3)
          unfold chkK at cC
          rw [hN] at cC
          simp only [Bool.false_eq_true, if_false] at cC
          go_wp2_with (refine wpList_loadK (o := ⟨⟨2, f, t, g, Wr.zero, i, n, Od.Ask.zero, 0, 0, 1, 0, Od.Rep.zero⟩, nilS, nilS⟩) rfl rfl rfl hB3 ?_)
          refine cC.mono ?_
          rintro e w4 ⟨rfl, b4⟩
          have hL4 := hL3.trans (b4.mono hL3.size)
          clear cC b4 hB3 hL3 hH3
          go_wp2_with fail
          refine (num_any 140 _).mono ?_
          rintro e wn ⟨rfl, rfl⟩
          go_wp2_with fail
          refine (num_any 140 _).mono ?_
          rintro e wn ⟨rfl, rfl⟩
          go_wp2_with fail
          refine (live_any _ (hg.below hL4)).mono ?_
          rintro e w5 ⟨rfl, b5⟩
          have hL5 := hL4.trans (b5.mono hL4.size)
          clear b5 hL4
          go_wp2_with fail
          go_ret
          exact ⟨rfl, hL5⟩
        have q5 : (wh == 5) = false := by simpa using k5
        by_cases k6 : wh = 6
        · subst k6
          clear k0 k1 k2 k3 k4 k5
          have Z2 := Z1
          have hL2 := hW1
          have d31 : W1.cell? ⟨w.heap.size, 31, none⟩ = some (.int .i64 0) := Z1.cell 31
          have z31 : W1.frozen? ⟨w.heap.size, 31, none⟩ = false := Z1.frozen 31
          go_wp2_with (refine wpList_getK rfl rfl rfl ?_)
          have hB : BoxK w.heap.size ⟨⟨2, f, t, g, Wr.zero, i, n, Od.Ask.zero, 0, 0, 0, 1, Od.Rep.zero⟩, nilS, nilS⟩ (World.setCell W1 ⟨w.heap.size, 31, none⟩ (.int .i64 1)) := AtL.to ((AtL.of Z2).cell 31 (.int .i64 1)) rfl
          have hL : Below w.heap.size w (World.setCell W1 ⟨w.heap.size, 31, none⟩ (.int .i64 1)) := (hL2.setCell (p := ⟨w.heap.size, 31, none⟩) (Nat.le_refl _) (.int .i64 1))
          have hH : HK (World.setCell W1 ⟨w.heap.size, 31, none⟩ (.int .i64 1)) ((World.setCell W1 ⟨w.heap.size, 31, none⟩ (.int .i64 1))).heap.size ⟨⟨2, f, t, g, Wr.zero, i, n, Od.Ask.zero, 0, 0, 0, 1, Od.Rep.zero⟩, nilS, nilS⟩ := ⟨SE.nil _ _, Od.SP.nil _ _⟩
          refine ⟨⟨⟨2, f, t, g, Wr.zero, i, n, Od.Ask.zero, 0, 0, 0, 1, Od.Rep.zero⟩, nilS, nilS⟩, hB, ?_⟩
          have hN := noP6 f t g i n
          have hF := fitP6 hin
          clear Z1 Z2 hL2 hW1 d31 z31
          generalize (World.setCell W1 ⟨w.heap.size, 31, none⟩ (.int .i64 1)) = W9 at hB hL hH ⊢
          have cP := put_any ⟨⟨2, f, t, g, Wr.zero, i, n, Od.Ask.zero, 0, 0, 0, 1, Od.Rep.zero⟩, nilS, nilS⟩ W9 hH hF (hg.below hL)
          unfold putE at cP
          rw [hN] at cP
          simp only [Bool.false_eq_true, if_false] at cP
          rw [show str [] = Value.string ⟨#[]⟩ from rfl] at cP
          go_wp2_with fail
          refine cP.mono ?_
          rintro e w3 ⟨rfl, b3⟩
          have hB3 := hB.keep b3
          have hL3 := hL.trans (b3.mono hL.size)
          have hH3 : HK w3 w3.heap.size ⟨⟨2, f, t, g, Wr.zero, i, n, Od.Ask.zero, 0, 0, 0, 1, Od.Rep.zero⟩, nilS, nilS⟩ := hH.keep b3
          clear cP b3 hB hL hH
          have cC := check_any ⟨⟨2, f, t, g, Wr.zero, i, n, Od.Ask.zero, 0, 0, 0, 1, Od.Rep.zero⟩, nilS, nilS⟩ w3 hH3 hF.siz hF.r.id (hg.below hL3)
          unfold chkK at cC
          rw [hN] at cC
          simp only [Bool.false_eq_true, if_false] at cC
          go_wp2_with (refine wpList_loadK (o := ⟨⟨2, f, t, g, Wr.zero, i, n, Od.Ask.zero, 0, 0, 0, 1, Od.Rep.zero⟩, nilS, nilS⟩) rfl rfl rfl hB3 ?_)
          refine cC.mono ?_
          rintro e w4 ⟨rfl, b4⟩
          have hL4 := hL3.trans (b4.mono hL3.size)
          clear cC b4 hB3 hL3 hH3
          go_wp2_with fail
          refine (num_any 140 _).mono ?_
          rintro e wn ⟨rfl, rfl⟩
          go_wp2_with fail
          refine (num_any 140 _).mono ?_
          rintro e wn ⟨rfl, rfl⟩
          go_wp2_with fail
          refine (live_any _ (hg.below hL4)).mono ?_
          rintro e w5 ⟨rfl, b5⟩
          have hL5 := hL4.trans (b5.mono hL4.size)
          clear b5 hL4
          go_wp2_with fail
          go_ret
          exact ⟨rfl, hL5⟩
        have q6 : (wh == 6) = false := by simpa using k6
        by_cases k7 : wh = 7
        · subst k7
          clear k0 k1 k2 k3 k4 k5 k6
          have Z2 := Z1
          have hL2 := hW1
          have d34 : W1.cell? ⟨w.heap.size, 34, none⟩ = some (.bool false) := Z1.cell 34
          have z34 : W1.frozen? ⟨w.heap.size, 34, none⟩ = false := Z1.frozen 34
          go_wp2_with (refine wpList_getK rfl rfl rfl ?_)
          have hB : BoxK w.heap.size ⟨⟨2, f, t, g, Wr.zero, i, n, Od.Ask.zero, 0, 0, 0, 0, ⟨0, 0, true, Od.E0, []⟩⟩, nilS, nilS⟩ (World.setCell W1 ⟨w.heap.size, 34, none⟩ (.bool true)) := AtL.to ((AtL.of Z2).cell 34 (.bool true)) rfl
          have hL : Below w.heap.size w (World.setCell W1 ⟨w.heap.size, 34, none⟩ (.bool true)) := (hL2.setCell (p := ⟨w.heap.size, 34, none⟩) (Nat.le_refl _) (.bool true))
          have hH : HK (World.setCell W1 ⟨w.heap.size, 34, none⟩ (.bool true)) ((World.setCell W1 ⟨w.heap.size, 34, none⟩ (.bool true))).heap.size ⟨⟨2, f, t, g, Wr.zero, i, n, Od.Ask.zero, 0, 0, 0, 0, ⟨0, 0, true, Od.E0, []⟩⟩, nilS, nilS⟩ := ⟨SE.nil _ _, Od.SP.nil _ _⟩
          refine ⟨⟨⟨2, f, t, g, Wr.zero, i, n, Od.Ask.zero, 0, 0, 0, 0, ⟨0, 0, true, Od.E0, []⟩⟩, nilS, nilS⟩, hB, ?_⟩
          have hN := noP7 f t g i n
          have hF := fitP7 hin
          clear Z1 Z2 hL2 hW1 d34 z34
          generalize (World.setCell W1 ⟨w.heap.size, 34, none⟩ (.bool true)) = W9 at hB hL hH ⊢
          have cP := put_any ⟨⟨2, f, t, g, Wr.zero, i, n, Od.Ask.zero, 0, 0, 0, 0, ⟨0, 0, true, Od.E0, []⟩⟩, nilS, nilS⟩ W9 hH hF (hg.below hL)
          unfold putE at cP
          rw [hN] at cP
          simp only [Bool.false_eq_true, if_false] at cP
          rw [show str [] = Value.string ⟨#[]⟩ from rfl] at cP
          go_wp2_with fail
          refine cP.mono ?_
          rintro e w3 ⟨rfl, b3⟩
          have hB3 := hB.keep b3
          have hL3 := hL.trans (b3.mono hL.size)
          have hH3 : HK w3 w3.heap.size ⟨⟨2, f, t, g, Wr.zero, i, n, Od.Ask.zero, 0, 0, 0, 0, ⟨0, 0, true, Od.E0, []⟩⟩, nilS, nilS⟩ := hH.keep b3
          clear cP b3 hB hL hH
          have cC := check_any ⟨⟨2, f, t, g, Wr.zero, i, n, Od.Ask.zero, 0, 0, 0, 0, ⟨0, 0, true, Od.E0, []⟩⟩, nilS, nilS⟩ w3 hH3 hF.siz hF.r.id (hg.below hL3)
          unfold chkK at cC
          rw [hN] at cC
          simp only [Bool.false_eq_true, if_false] at cC
          go_wp2_with (refine wpList_loadK (o := ⟨⟨2, f, t, g, Wr.zero, i, n, Od.Ask.zero, 0, 0, 0, 0, ⟨0, 0, true, Od.E0, []⟩⟩, nilS, nilS⟩) rfl rfl rfl hB3 ?_)
          refine cC.mono ?_
          rintro e w4 ⟨rfl, b4⟩
          have hL4 := hL3.trans (b4.mono hL3.size)
          clear cC b4 hB3 hL3 hH3
          go_wp2_with fail
          refine (num_any 140 _).mono ?_
          rintro e wn ⟨rfl, rfl⟩
          go_wp2_with fail
          refine (num_any 140 _).mono ?_
          rintro e wn ⟨rfl, rfl⟩
          go_wp2_with fail
          refine (live_any _ (hg.below hL4)).mono ?_
          rintro e w5 ⟨rfl, b5⟩
          have hL5 := hL4.trans (b5.mono hL4.size)
          clear b5 hL4
          go_wp2_with fail
          go_ret
          exact ⟨rfl, hL5⟩
        have q7 : (wh == 7) = false := by simpa using k7
        by_cases k8 : wh = 8
        · subst k8
          clear k0 k1 k2 k3 k4 k5 k6 k7
          obtain ⟨b, hbb⟩ : ∃ b, b = W1.heap.size := ⟨_, rfl⟩
          obtain ⟨w2, hw2⟩ : ∃ w2, W1.alloc (.cells #[.int .i64 1, .string ⟨#[]⟩] 51) = w2 := ⟨_, rfl⟩
          have hb2 : Below W1.heap.size W1 w2 := hw2 ▸ (Below.refl _ W1).alloc (Nat.le_refl _) _
          have Z2 := Z1.keep hb2
          have hL2 := hW1.trans (hb2.mono hW1.size)
          have hbw : b < w2.heap.size := by rw [← hw2]; simp; omega
          have e0 : w2.cell? ⟨b, 0, none⟩ = some (.int .i64 1) := by rw [← hw2, hbb]; simp [go_sem]
          have e1 : w2.cell? ⟨b, 1, none⟩ = some (.string ⟨#[]⟩) := by rw [← hw2, hbb]; simp [go_sem]
          have hnb : b ≠ w.heap.size := by have := Z1.lt; omega
          have H2 := Lib.hid hw2
          have HBB := Lib.hid hbb
          have d13 : w2.cell? ⟨w.heap.size, 13, none⟩ = some (nilS) := Z2.cell 13
          have z13 : w2.frozen? ⟨w.heap.size, 13, none⟩ = false := Z2.frozen 13
          have d13' : (W1.alloc (.cells #[.int .i64 1, .string ⟨#[]⟩] 51)).cell? ⟨w.heap.size, 13, none⟩ = some (nilS) := by rw [H2.out]; exact d13
          have z13' : (W1.alloc (.cells #[.int .i64 1, .string ⟨#[]⟩] 51)).frozen? ⟨w.heap.size, 13, none⟩ = false := by rw [H2.out]; exact z13
          clear hw2 hbb d13 z13
          go_wp2_with (refine wpList_getK rfl rfl rfl ?_)
          try rw [H2.out]
          try rw [← HBB.out]
          have hB : BoxK w.heap.size ⟨⟨2, f, t, g, ⟨0, 0, 0, 0, 0, 0, 0, 0, false, [(1, Od.E0)], Od.E0⟩, i, n, Od.Ask.zero, 0, 0, 0, 0, Od.Rep.zero⟩, .slice (some ⟨b, 0, none⟩) 1 1, nilS⟩ (World.setCell w2 ⟨w.heap.size, 13, none⟩ (.slice (some ⟨b, 0, none⟩) 1 1)) := AtL.to ((AtL.of Z2).cell 13 (.slice (some ⟨b, 0, none⟩) 1 1)) rfl
          have hL : Below w.heap.size w (World.setCell w2 ⟨w.heap.size, 13, none⟩ (.slice (some ⟨b, 0, none⟩) 1 1)) := (hL2.setCell (p := ⟨w.heap.size, 13, none⟩) (Nat.le_refl _) (.slice (some ⟨b, 0, none⟩) 1 1))
          have hH : HK (World.setCell w2 ⟨w.heap.size, 13, none⟩ (.slice (some ⟨b, 0, none⟩) 1 1)) ((World.setCell w2 ⟨w.heap.size, 13, none⟩ (.slice (some ⟨b, 0, none⟩) 1 1))).heap.size ⟨⟨2, f, t, g, ⟨0, 0, 0, 0, 0, 0, 0, 0, false, [(1, Od.E0)], Od.E0⟩, i, n, Od.Ask.zero, 0, 0, 0, 0, Od.Rep.zero⟩, .slice (some ⟨b, 0, none⟩) 1 1, nilS⟩ := ⟨⟨some ⟨b, 0, none⟩, 1, rfl, fun _ => ⟨b, 0, rfl, by simpa using hbw, fun j hj => by simp at hj; subst hj; exact ⟨(World.cell?_setCell_far w2 ⟨w.heap.size, 13, none⟩ ⟨b, 0 + 0 * 2, none⟩ _ hnb.symm).trans e0, (World.cell?_setCell_far w2 ⟨w.heap.size, 13, none⟩ ⟨b, 0 + 0 * 2 + 1, none⟩ _ hnb.symm).trans e1⟩⟩⟩, Od.SP.nil _ _⟩
          refine ⟨⟨⟨2, f, t, g, ⟨0, 0, 0, 0, 0, 0, 0, 0, false, [(1, Od.E0)], Od.E0⟩, i, n, Od.Ask.zero, 0, 0, 0, 0, Od.Rep.zero⟩, .slice (some ⟨b, 0, none⟩) 1 1, nilS⟩, hB, ?_⟩
          have hN := noP8 f t g i n
          have hF := fitP8 hin
          clear Z1 Z2 hL2 hW1 d13' z13'
          generalize (World.setCell w2 ⟨w.heap.size, 13, none⟩ (.slice (some ⟨b, 0, none⟩) 1 1)) = W9 at hB hL hH ⊢
          have cP := put_any ⟨⟨2, f, t, g, ⟨0, 0, 0, 0, 0, 0, 0, 0, false, [(1, Od.E0)], Od.E0⟩, i, n, Od.Ask.zero, 0, 0, 0, 0, Od.Rep.zero⟩, .slice (some ⟨b, 0, none⟩) 1 1, nilS⟩ W9 hH hF (hg.below hL)
          unfold putE at cP
          rw [hN] at cP
          simp only [Bool.false_eq_true, if_false] at cP
          rw [show str [] = Value.string ⟨#[]⟩ from rfl] at cP
          go_wp2_with fail
          refine cP.mono ?_
          rintro e w3 ⟨rfl, b3⟩
          have hB3 := hB.keep b3
          have hL3 := hL.trans (b3.mono hL.size)
          have hH3 : HK w3 w3.heap.size ⟨⟨2, f, t, g, ⟨0, 0, 0, 0, 0, 0, 0, 0, false, [(1, Od.E0)], Od.E0⟩, i, n, Od.Ask.zero, 0, 0, 0, 0, Od.Rep.zero⟩, .slice (some ⟨b, 0, none⟩) 1 1, nilS⟩ := hH.keep b3
          clear cP b3 hB hL hH
          have cC := check_any ⟨⟨2, f, t, g, ⟨0, 0, 0, 0, 0, 0, 0, 0, false, [(1, Od.E0)], Od.E0⟩, i, n, Od.Ask.zero, 0, 0, 0, 0, Od.Rep.zero⟩, .slice (some ⟨b, 0, none⟩) 1 1, nilS⟩ w3 hH3 hF.siz hF.r.id (hg.below hL3)
          unfold chkK at cC
          rw [hN] at cC
          simp only [Bool.false_eq_true, if_false] at cC
          go_wp2_with (refine wpList_loadK (o := ⟨⟨2, f, t, g, ⟨0, 0, 0, 0, 0, 0, 0, 0, false, [(1, Od.E0)], Od.E0⟩, i, n, Od.Ask.zero, 0, 0, 0, 0, Od.Rep.zero⟩, .slice (some ⟨b, 0, none⟩) 1 1, nilS⟩) rfl rfl rfl hB3 ?_)
          refine cC.mono ?_
          rintro e w4 ⟨rfl, b4⟩
          have hL4 := hL3.trans (b4.mono hL3.size)
          clear cC b4 hB3 hL3 hH3
          go_wp2_with fail
          refine (num_any 140 _).mono ?_
          rintro e wn ⟨rfl, rfl⟩
          go_wp2_with fail
          refine (num_any 140 _).mono ?_
          rintro e wn ⟨rfl, rfl⟩
          go_wp2_with fail
          refine (live_any _ (hg.below hL4)).mono ?_
          rintro e w5 ⟨rfl, b5⟩
          have hL5 := hL4.trans (b5.mono hL4.size)
          clear b5 hL4
          go_wp2_with fail
          go_ret
          exact ⟨rfl, hL5⟩
        have q8 : (wh == 8) = false := by simpa using k8
        by_cases k9 : wh = 9
        · subst k9
          clear k0 k1 k2 k3 k4 k5 k6 k7 k8
          obtain ⟨b, hbb⟩ : ∃ b, b = W1.heap.size := ⟨_, rfl⟩
          obtain ⟨w2, hw2⟩ : ∃ w2, W1.alloc (.cells #[.string ⟨#[97]⟩, .string ⟨#[]⟩] 53) = w2 := ⟨_, rfl⟩
          have hb2 : Below W1.heap.size W1 w2 := hw2 ▸ (Below.refl _ W1).alloc (Nat.le_refl _) _
          have Z2 := Z1.keep hb2
          have hL2 := hW1.trans (hb2.mono hW1.size)
          have hbw : b < w2.heap.size := by rw [← hw2]; simp; omega
          have e0 : w2.cell? ⟨b, 0, none⟩ = some (.string ⟨#[97]⟩) := by rw [← hw2, hbb]; simp [go_sem]
          have e1 : w2.cell? ⟨b, 1, none⟩ = some (.string ⟨#[]⟩) := by rw [← hw2, hbb]; simp [go_sem]
          have hnb : b ≠ w.heap.size := by have := Z1.lt; omega
          have H2 := Lib.hid hw2
          have HBB := Lib.hid hbb
          have d36 : w2.cell? ⟨w.heap.size, 36, none⟩ = some (nilS) := Z2.cell 36
          have z36 : w2.frozen? ⟨w.heap.size, 36, none⟩ = false := Z2.frozen 36
          have d36' : (W1.alloc (.cells #[.string ⟨#[97]⟩, .string ⟨#[]⟩] 53)).cell? ⟨w.heap.size, 36, none⟩ = some (nilS) := by rw [H2.out]; exact d36
          have z36' : (W1.alloc (.cells #[.string ⟨#[97]⟩, .string ⟨#[]⟩] 53)).frozen? ⟨w.heap.size, 36, none⟩ = false := by rw [H2.out]; exact z36
          clear hw2 hbb d36 z36
          go_wp2_with (refine wpList_getK rfl rfl rfl ?_)
          try rw [H2.out]
          try rw [← HBB.out]
          have hB : BoxK w.heap.size ⟨⟨2, f, t, g, Wr.zero, i, n, Od.Ask.zero, 0, 0, 0, 0, ⟨0, 0, false, Od.E0, [(⟨#[97]⟩, Od.E0)]⟩⟩, nilS, .slice (some ⟨b, 0, none⟩) 1 1⟩ (World.setCell w2 ⟨w.heap.size, 36, none⟩ (.slice (some ⟨b, 0, none⟩) 1 1)) := AtL.to ((AtL.of Z2).cell 36 (.slice (some ⟨b, 0, none⟩) 1 1)) rfl
          have hL : Below w.heap.size w (World.setCell w2 ⟨w.heap.size, 36, none⟩ (.slice (some ⟨b, 0, none⟩) 1 1)) := (hL2.setCell (p := ⟨w.heap.size, 36, none⟩) (Nat.le_refl _) (.slice (some ⟨b, 0, none⟩) 1 1))
          have hH : HK (World.setCell w2 ⟨w.heap.size, 36, none⟩ (.slice (some ⟨b, 0, none⟩) 1 1)) ((World.setCell w2 ⟨w.heap.size, 36, none⟩ (.slice (some ⟨b, 0, none⟩) 1 1))).heap.size ⟨⟨2, f, t, g, Wr.zero, i, n, Od.Ask.zero, 0, 0, 0, 0, ⟨0, 0, false, Od.E0, [(⟨#[97]⟩, Od.E0)]⟩⟩, nilS, .slice (some ⟨b, 0, none⟩) 1 1⟩ := ⟨SE.nil _ _, ⟨some ⟨b, 0, none⟩, 1, rfl, fun _ => ⟨b, 0, rfl, by simpa using hbw, fun j hj => by simp at hj; subst hj; exact ⟨(World.cell?_setCell_far w2 ⟨w.heap.size, 36, none⟩ ⟨b, 0 + 0 * 2, none⟩ _ hnb.symm).trans e0, (World.cell?_setCell_far w2 ⟨w.heap.size, 36, none⟩ ⟨b, 0 + 0 * 2 + 1, none⟩ _ hnb.symm).trans e1⟩⟩⟩⟩
          refine ⟨⟨⟨2, f, t, g, Wr.zero, i, n, Od.Ask.zero, 0, 0, 0, 0, ⟨0, 0, false, Od.E0, [(⟨#[97]⟩, Od.E0)]⟩⟩, nilS, .slice (some ⟨b, 0, none⟩) 1 1⟩, hB, ?_⟩
          have hN := noP9 f t g i n
          have hF := fitP9 hin
          clear Z1 Z2 hL2 hW1 d36' z36'
          generalize (World.setCell w2 ⟨w.heap.size, 36, none⟩ (.slice (some ⟨b, 0, none⟩) 1 1)) = W9 at hB hL hH ⊢
          have cP := put_any ⟨⟨2, f, t, g, Wr.zero, i, n, Od.Ask.zero, 0, 0, 0, 0, ⟨0, 0, false, Od.E0, [(⟨#[97]⟩, Od.E0)]⟩⟩, nilS, .slice (some ⟨b, 0, none⟩) 1 1⟩ W9 hH hF (hg.below hL)
          unfold putE at cP
          rw [hN] at cP
          simp only [Bool.false_eq_true, if_false] at cP
          rw [show str [] = Value.string ⟨#[]⟩ from rfl] at cP
          go_wp2_with fail
          refine cP.mono ?_
          rintro e w3 ⟨rfl, b3⟩
          have hB3 := hB.keep b3
          have hL3 := hL.trans (b3.mono hL.size)
          have hH3 : HK w3 w3.heap.size ⟨⟨2, f, t, g, Wr.zero, i, n, Od.Ask.zero, 0, 0, 0, 0, ⟨0, 0, false, Od.E0, [(⟨#[97]⟩, Od.E0)]⟩⟩, nilS, .slice (some ⟨b, 0, none⟩) 1 1⟩ := hH.keep b3
          clear cP b3 hB hL hH
          have cC := check_any ⟨⟨2, f, t, g, Wr.zero, i, n, Od.Ask.zero, 0, 0, 0, 0, ⟨0, 0, false, Od.E0, [(⟨#[97]⟩, Od.E0)]⟩⟩, nilS, .slice (some ⟨b, 0, none⟩) 1 1⟩ w3 hH3 hF.siz hF.r.id (hg.below hL3)
          unfold chkK at cC
          rw [hN] at cC
          simp only [Bool.false_eq_true, if_false] at cC
          go_wp2_with (refine wpList_loadK (o := ⟨⟨2, f, t, g, Wr.zero, i, n, Od.Ask.zero, 0, 0, 0, 0, ⟨0, 0, false, Od.E0, [(⟨#[97]⟩, Od.E0)]⟩⟩, nilS, .slice (some ⟨b, 0, none⟩) 1 1⟩) rfl rfl rfl hB3 ?_)
          refine cC.mono ?_
          rintro e w4 ⟨rfl, b4⟩
          have hL4 := hL3.trans (b4.mono hL3.size)
          clear cC b4 hB3 hL3 hH3
          go_wp2_with fail
          refine (num_any 140 _).mono ?_
          rintro e wn ⟨rfl, rfl⟩
          go_wp2_with fail
          refine (num_any 140 _).mono ?_
          rintro e wn ⟨rfl, rfl⟩
          go_wp2_with fail
          refine (live_any _ (hg.below hL4)).mono ?_
          rintro e w5 ⟨rfl, b5⟩
          have hL5 := hL4.trans (b5.mono hL4.size)
          clear b5 hL4
          go_wp2_with fail
          go_ret
          exact ⟨rfl, hL5⟩
        have q9 : (wh == 9) = false := by simpa using k9
        clear k0 k1 k2 k3 k4 k5 k6 k7 k8 k9
        go_wp2_with fail
        refine (live_any _ (hg.below hW1)).mono ?_
        rintro e w5 ⟨rfl, b5⟩
        have hL5 := hW1.trans (b5.mono hW1.size)
        clear b5 Z1
        go_wp2_with fail
        go_ret
        exact ⟨rfl, hL5⟩
    clear hK3
    cases nd with
    | false =>
      have hv := (show plainR f t g i n = false from by simp only [plainR, ← hnd, Bool.false_and])
      clear hnd
      go_wp2_with fail
      first | exact hv.symm | exact hR3 _ _ _ _ _ _ _ _ _ _ _ _ _ _ _ _ _ _ _ _ _ _ _ _ _ _ _ hv.symm
    | true =>
      replace hnd := hnd.symm
      by_cases c0 : 1 ≤ g
      rotate_left
      · have e0a : (1 ≤ g) = False := eq_false (by omega)
        have e0b : (g ≥ 1) = False := eq_false (by omega)
        have hv := ((show false = plainR f t g i n from by rw [eq_comm, Bool.eq_false_iff]; simp only [plainR, hnd, Bool.true_and, ne_eq, Bool.and_eq_true, decide_eq_true_eq]; omega)).symm
        clear c0 hnd
        go_wp2_with fail
        first | exact hv.symm | exact hR3 _ _ _ _ _ _ _ _ _ _ _ _ _ _ _ _ _ _ _ _ _ _ _ _ _ _ _ hv.symm
      have e0a : (1 ≤ g) = True := eq_true (by omega)
      have e0b : (g ≥ 1) = True := eq_true (by omega)
      by_cases c1 : g ≤ 1099511627776
      rotate_left
      · have e1a : (g ≤ 1099511627776) = False := eq_false (by omega)
        have hv := ((show false = plainR f t g i n from by rw [eq_comm, Bool.eq_false_iff]; simp only [plainR, hnd, Bool.true_and, ne_eq, Bool.and_eq_true, decide_eq_true_eq]; omega)).symm
        clear c0 c1 hnd
        go_wp2_with fail
        first | exact hv.symm | exact hR3 _ _ _ _ _ _ _ _ _ _ _ _ _ _ _ _ _ _ _ _ _ _ _ _ _ _ _ hv.symm
      have e1a : (g ≤ 1099511627776) = True := eq_true (by omega)
      by_cases c2 : 1 ≤ i
      rotate_left
      · have e2a : (1 ≤ i) = False := eq_false (by omega)
        have e2b : (i ≥ 1) = False := eq_false (by omega)
        have hv := ((show false = plainR f t g i n from by rw [eq_comm, Bool.eq_false_iff]; simp only [plainR, hnd, Bool.true_and, ne_eq, Bool.and_eq_true, decide_eq_true_eq]; omega)).symm
        clear c0 c1 c2 hnd
        go_wp2_with fail
        first | exact hv.symm | exact hR3 _ _ _ _ _ _ _ _ _ _ _ _ _ _ _ _ _ _ _ _ _ _ _ _ _ _ _ hv.symm
      have e2a : (1 ≤ i) = True := eq_true (by omega)
      have e2b : (i ≥ 1) = True := eq_true (by omega)
      by_cases c3 : i ≤ 1099511627776
      rotate_left
      · have e3a : (i ≤ 1099511627776) = False := eq_false (by omega)
        have hv := ((show false = plainR f t g i n from by rw [eq_comm, Bool.eq_false_iff]; simp only [plainR, hnd, Bool.true_and, ne_eq, Bool.and_eq_true, decide_eq_true_eq]; omega)).symm
        clear c0 c1 c2 c3 hnd
        go_wp2_with fail
        first | exact hv.symm | exact hR3 _ _ _ _ _ _ _ _ _ _ _ _ _ _ _ _ _ _ _ _ _ _ _ _ _ _ _ hv.symm
      have e3a : (i ≤ 1099511627776) = True := eq_true (by omega)
      by_cases c4 : i < n
      rotate_left
      · have e4a : (i < n) = False := eq_false (by omega)
        have e4b : (n > i) = False := eq_false (by omega)
        have hv := ((show false = plainR f t g i n from by rw [eq_comm, Bool.eq_false_iff]; simp only [plainR, hnd, Bool.true_and, ne_eq, Bool.and_eq_true, decide_eq_true_eq]; omega)).symm
        clear c0 c1 c2 c3 c4 hnd
        go_wp2_with fail
        first | exact hv.symm | exact hR3 _ _ _ _ _ _ _ _ _ _ _ _ _ _ _ _ _ _ _ _ _ _ _ _ _ _ _ hv.symm
      have e4a : (i < n) = True := eq_true (by omega)
      have e4b : (n > i) = True := eq_true (by omega)
      by_cases c5 : n ≤ 1099511627777
      rotate_left
      · have e5a : (n ≤ 1099511627777) = False := eq_false (by omega)
        have hv := ((show false = plainR f t g i n from by rw [eq_comm, Bool.eq_false_iff]; simp only [plainR, hnd, Bool.true_and, ne_eq, Bool.and_eq_true, decide_eq_true_eq]; omega)).symm
        clear c0 c1 c2 c3 c4 c5 hnd
        go_wp2_with fail
        first | exact hv.symm | exact hR3 _ _ _ _ _ _ _ _ _ _ _ _ _ _ _ _ _ _ _ _ _ _ _ _ _ _ _ hv.symm
      have e5a : (n ≤ 1099511627777) = True := eq_true (by omega)
      have hv := ((show true = plainR f t g i n from by symm; simp only [plainR, hnd, Bool.true_and, Bool.and_eq_true, decide_eq_true_eq]; omega)).symm
      clear c0 c1 c2 c3 c4 c5 hnd
      go_wp2_with fail
      first | exact hv.symm | exact hR3 _ _ _ _ _ _ _ _ _ _ _ _ _ _ _ _ _ _ _ _ _ _ _ _ _ _ _ hv.symm
  clear hK2
  by_cases c0 : 1 ≤ f
  rotate_left
  · have e0a : (1 ≤ f) = False := eq_false (by omega)
    have e0b : (f ≥ 1) = False := eq_false (by omega)
    have hv := ((show false = (decide (1 ≤ f) && decide (f ≤ 7) && decide (1 ≤ t) && decide (t ≤ 7)) from by rw [eq_comm, Bool.eq_false_iff]; simp only [ne_eq, Bool.and_eq_true, decide_eq_true_eq]; omega)).symm
    clear c0
    go_wp2_with fail
    first | exact hv.symm | exact hR2 _ _ _ _ _ _ _ _ _ _ _ _ _ _ _ hv.symm
  have e0a : (1 ≤ f) = True := eq_true (by omega)
  have e0b : (f ≥ 1) = True := eq_true (by omega)
  by_cases c1 : f ≤ 7
  rotate_left
  · have e1a : (f ≤ 7) = False := eq_false (by omega)
    have hv := ((show false = (decide (1 ≤ f) && decide (f ≤ 7) && decide (1 ≤ t) && decide (t ≤ 7)) from by rw [eq_comm, Bool.eq_false_iff]; simp only [ne_eq, Bool.and_eq_true, decide_eq_true_eq]; omega)).symm
    clear c0 c1
    go_wp2_with fail
    first | exact hv.symm | exact hR2 _ _ _ _ _ _ _ _ _ _ _ _ _ _ _ hv.symm
  have e1a : (f ≤ 7) = True := eq_true (by omega)
  by_cases c2 : 1 ≤ t
  rotate_left
  · have e2a : (1 ≤ t) = False := eq_false (by omega)
    have e2b : (t ≥ 1) = False := eq_false (by omega)
    have hv := ((show false = (decide (1 ≤ f) && decide (f ≤ 7) && decide (1 ≤ t) && decide (t ≤ 7)) from by rw [eq_comm, Bool.eq_false_iff]; simp only [ne_eq, Bool.and_eq_true, decide_eq_true_eq]; omega)).symm
    clear c0 c1 c2
    go_wp2_with fail
    first | exact hv.symm | exact hR2 _ _ _ _ _ _ _ _ _ _ _ _ _ _ _ hv.symm
  have e2a : (1 ≤ t) = True := eq_true (by omega)
  have e2b : (t ≥ 1) = True := eq_true (by omega)
  by_cases c3 : t ≤ 7
  rotate_left
  · have e3a : (t ≤ 7) = False := eq_false (by omega)
    have hv := ((show false = (decide (1 ≤ f) && decide (f ≤ 7) && decide (1 ≤ t) && decide (t ≤ 7)) from by rw [eq_comm, Bool.eq_false_iff]; simp only [ne_eq, Bool.and_eq_true, decide_eq_true_eq]; omega)).symm
    clear c0 c1 c2 c3
    go_wp2_with fail
    first | exact hv.symm | exact hR2 _ _ _ _ _ _ _ _ _ _ _ _ _ _ _ hv.symm
  have e3a : (t ≤ 7) = True := eq_true (by omega)
  have hv := ((show true = (decide (1 ≤ f) && decide (f ≤ 7) && decide (1 ≤ t) && decide (t ≤ 7)) from by symm; simp only [Bool.and_eq_true, decide_eq_true_eq]; omega)).symm
  clear c0 c1 c2 c3
  go_wp2_with fail
  first | exact hv.symm | exact hR2 _ _ _ _ _ _ _ _ _ _ _ _ _ _ _ hv.symm
end Go.Proofs.YtkpakiiijphjeaaGreatDoor.Po
