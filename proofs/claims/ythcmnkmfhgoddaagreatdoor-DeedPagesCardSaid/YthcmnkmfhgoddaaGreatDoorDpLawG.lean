/-
  DeedPages, walked. Conditions: FitP, texts of at most 2^47 bytes; the library's variables hold what their types allow.
-/
import Derived.Test.YthcmnkmfhgoddaaGreatDoorDpLive
import Derived.Test.YthcmnkmfhgoddaaGreatDoorDpSmall
import Derived.Test.YthcmnkmfhgoddaaGreatDoorDpLA
import Derived.Test.YthcmnkmfhgoddaaGreatDoorDpScan
import Derived.Test.YthcmnkmfhgoddaaGreatDoorOdSPA
namespace Go.Proofs.YthcmnkmfhgoddaaGreatDoor.Dp
open Go.RowKit Bnd
open Go.Proofs.YthcmnkmfhgoddaaGreatDoor.Ds (De)
open Go.Proofs.YthcmnkmfhgoddaaGreatDoor.Ss (Ses Zs ses SZ PZ NoP)
open Go.Proofs.YthcmnkmfhgoddaaGreatDoor.Od (Pr SP ArgP OwnP)
open Go.Proofs.YthcmnkmfhgoddaaGreatDoor.Sf (scanP Up)
theorem key_some {p : Pl} (h : isP p = true) {q : Pr} (hq : q ∈ p.ps) : q.1.toList.isEmpty = false := by
  obtain ⟨_, _, h3, _⟩ := ((goP_iff _ _ _).1 ((isP_iff p).1 h).2.2.1).1 q hq
  unfold O.keyB at h3
  simp only [Bool.and_eq_true, decide_eq_true_eq] at h3
  refine isEmpty_no fun e => ?_
  rw [e] at h3
  simp at h3
theorem scan_sub (P : List Pr) (f t : ByteArray) : ∀ q ∈ scanP P f t, q ∈ P := fun _ hq => (List.mem_filter.1 hq).1
theorem page_last {P S R : List Pr} {a t : ByteArray} {k L : Nat} (hR : scanP P a t = R) (hd : R = S.drop (k * L)) (h : R.length ≤ L) : limP P a t (L : Int) = (R, Od.E0) ∧ S.take (k * L) ++ R = S := by
  subst hR
  refine ⟨lim_fits h, ?_⟩
  rw [hd, List.take_append_drop]
theorem page_more {P S R : List Pr} {a t : ByteArray} {k L : Nat} (hu : Up P) (hR : scanP P a t = R) (hd : R = S.drop (k * L)) (h : L < R.length) :
    ∃ x, x ∈ R ∧ limP P a t (L : Int) = (R.take L, x.1) ∧ S.take (k * L) ++ R.take L = S.take ((k + 1) * L) ∧ scanP P x.1 t = S.drop ((k + 1) * L) ∧ (k + 1) * L < S.length := by
  subst hR
  have e1 : (k + 1) * L = k * L + L := by rw [Nat.add_mul, Nat.one_mul]
  refine ⟨(scanP P a t)[L], List.getElem_mem h, lim_more h, ?_, ?_, ?_⟩
  · rw [hd, e1, List.take_add]
  · rw [scan_on hu h, hd, List.drop_drop, e1]
  · have : (scanP P a t).length = S.length - k * L := by rw [hd, List.length_drop]
    omega
set_option maxHeartbeats 16000000 in
set_option maxRecDepth 100000 in
theorem pages_walk (o : Ph) (f t : ByteArray) (lim : Int) (w : World) (h : HB w o) (hf : FitP o) (hk : f.size ≤ 140737488355328) (ht : t.size ≤ 140737488355328) (hlim : M.inR lim) (hg : Good w) :
    Calls Tryz.prog 8 #[qv o, .string f, .string t, .int .i64 lim] w fun e w' => e = .returned (.bool true) ∧ Below w.heap.size w w' := by
  have HH := Lib.hid h
  have HF := Lib.hid hf
  have HG := Lib.hid hg
  obtain ⟨d, ps, zs, fr, ea, al, A, B, C, D, ka, kb, kc, kd, rfl⟩ := h.hp.open
  obtain ⟨nm, hnm⟩ : ∃ n, d.ms.length = n := ⟨_, rfl⟩
  obtain ⟨np, hnp⟩ : ∃ n, ps.length = n := ⟨_, rfl⟩
  obtain ⟨nz, hnz⟩ : ∃ n, zs.length = n := ⟨_, rfl⟩
  obtain ⟨ne, hne⟩ : ∃ n, ea.length = n := ⟨_, rfl⟩
  have HNP := Lib.hid hnp
  rw [hnm, hnp, hnz, hne] at HH HF ⊢
  obtain ⟨W0, hW0⟩ : ∃ W0, w.alloc (.cells #[.int .i64 d.id, .string d.f, .string d.t, .int .i64 d.gen, .slice A nm ka, .int .i64 d.next, .slice B np kb, .slice C nz kc, .bool fr, .slice D ne kd, .int .i64 al] 38) = W0 := ⟨_, rfl⟩
  have hb0 : Below w.heap.size w W0 := by rw [← hW0]; exact (Below.refl _ w).alloc (Nat.le_refl _) _
  have BP : BoxP w.heap.size ⟨d, .slice A nm ka, ps, .slice B np kb, zs, .slice C nz kc, fr, ea, .slice D ne kd, al⟩ W0 := hW0 ▸ BoxP.new w ⟨d, .slice A nm ka, ps, .slice B np kb, zs, .slice C nz kc, fr, ea, .slice D ne kd, al⟩
  have KH := fun w' (h : Below W0.heap.size W0 w') => HH.out.keep (hb0.trans (h.mono hb0.size))
  have cS := fun w' (h : Below W0.heap.size W0 w') => small_any ⟨d, .slice A nm ka, ps, .slice B np kb, zs, .slice C nz kc, fr, ea, .slice D ne kd, al⟩ w' (KH w' h).hp HF.out
  have cK := fun w' (h : Below W0.heap.size W0 w') => check_any ⟨d, .slice A nm ka, ps, .slice B np kb, zs, .slice C nz kc, fr, ea, .slice D ne kd, al⟩ w' (KH w' h).hp HF.out
  have cL := fun w' (h : Below W0.heap.size W0 w') => live_any w' (HG.out.below (hb0.trans (h.mono hb0.size)))
  obtain ⟨IP, hIP⟩ : ∃ b, isP (Ph.pl ⟨d, .slice A nm ka, ps, .slice B np kb, zs, .slice C nz kc, fr, ea, .slice D ne kd, al⟩) = b := ⟨_, rfl⟩
  have HIP := Lib.hid hIP
  have hck : chkP (Ph.pl ⟨d, .slice A nm ka, ps, .slice B np kb, zs, .slice C nz kc, fr, ea, .slice D ne kd, al⟩) = if IP = true then 0 else 90 := by unfold chkP; rw [hIP]
  rw [hck] at cK
  have h0 := Below.refl W0.heap.size W0
  have hbox : ∀ wx, Below W0.heap.size W0 wx → BoxP w.heap.size ⟨d, .slice A nm ka, ps, .slice B np kb, zs, .slice C nz kc, fr, ea, .slice D ne kd, al⟩ wx := fun wx h => BP.keep h
  have s1 : IntKind.i64.wrap ((f.size : Int) + (t.size : Int)) = (f.size : Int) + (t.size : Int) := by rw [IntKind.wrap_i64]; omega
  clear h hf hg hnm hnp hnz hne hIP hck BP
  obtain ⟨_, ⟨p0, p1, p2, p3, p4, p5, p6, p7, p8, p9, p10⟩, py⟩ := hbox _ h0
  go_enter Tryz.func8, Tryz.ntmps8
  go_wp2_with (rw [hW0])
  clear hW0
  refine (cS _ h0).mono ?_
  rintro e w1 ⟨⟨r, rfl, hr⟩, b⟩
  have HR := Lib.hid hr
  have h1 := h0.trans (b.mono h0.size)
  clear p0 p1 p2 p3 p4 p5 p6 p7 p8 p9 p10 py
  clear b cS hr
  cases r with
  | false =>
    go_wp2_with fail
    refine (cL _ h1).mono ?_
    rintro e' wl ⟨rfl, bl⟩
    go_wp2_with fail
    go_ret
    exact ⟨rfl, hb0.trans ((h1).trans (bl.mono (h1).size) |>.mono hb0.size)⟩
  | true =>
  have HSM := Lib.hid (HR.out rfl).ps
  clear HR
  obtain ⟨_, ⟨p0, p1, p2, p3, p4, p5, p6, p7, p8, p9, p10⟩, py⟩ := hbox _ h1
  go_wp2_with fail
  refine (cK _ h1).mono ?_
  rintro e w2 ⟨rfl, b⟩
  have h2 := h1.trans (b.mono h1.size)
  clear p0 p1 p2 p3 p4 p5 p6 p7 p8 p9 p10 py
  clear b cK
  cases IP with
  | false =>
    simp only [Bool.false_eq_true, if_false]
    go_wp2_with fail
    refine (num_any _ _).mono ?_
    rintro e w3 ⟨rfl, rfl⟩
    go_wp2_with fail
    refine (cL _ h2).mono ?_
    rintro e' wl ⟨rfl, bl⟩
    go_wp2_with fail
    go_ret
    exact ⟨rfl, hb0.trans ((h2).trans (bl.mono (h2).size) |>.mono hb0.size)⟩
  | true =>
  simp only [if_true]
  go_wp2_with fail
  refine (num_any _ _).mono ?_
  rintro e w3 ⟨rfl, rfl⟩
  by_cases g1 : 10000 < f.size + t.size
  · have e1 : ((10000 : Int) < (f.size : Int) + (t.size : Int)) = True := eq_true (by omega)
    have e2 : ((f.size : Int) + (t.size : Int) > 10000) = True := eq_true (by omega)
    clear g1
    go_wp2_with fail
    refine (cL _ h2).mono ?_
    rintro e' wl ⟨rfl, bl⟩
    go_wp2_with fail
    go_ret
    exact ⟨rfl, hb0.trans ((h2).trans (bl.mono (h2).size) |>.mono hb0.size)⟩
  have e1 : ((10000 : Int) < (f.size : Int) + (t.size : Int)) = False := eq_false (by omega)
  have e2 : ((f.size : Int) + (t.size : Int) > 10000) = False := eq_false (by omega)
  clear g1
  by_cases g1 : lim < 1
  · have e3 : (lim < 1) = True := eq_true g1
    clear g1
    go_wp2_with fail
    refine (cL _ h2).mono ?_
    rintro e' wl ⟨rfl, bl⟩
    go_wp2_with fail
    go_ret
    exact ⟨rfl, hb0.trans ((h2).trans (bl.mono (h2).size) |>.mono hb0.size)⟩
  have e3 : (lim < 1) = False := eq_false g1
  by_cases g2 : 100 < lim
  · have e4 : (100 < lim) = True := eq_true g2
    have e5 : (lim > 100) = True := eq_true g2
    clear g1 g2
    go_wp2_with fail
    refine (cL _ h2).mono ?_
    rintro e' wl ⟨rfl, bl⟩
    go_wp2_with fail
    go_ret
    exact ⟨rfl, hb0.trans ((h2).trans (bl.mono (h2).size) |>.mono hb0.size)⟩
  have e4 : (100 < lim) = False := eq_false g2
  have e5 : (lim > 100) = False := eq_false g2
  obtain ⟨L, hL⟩ : ∃ L : Nat, (L : Int) = lim := ⟨lim.toNat, by omega⟩
  have hL1 : 1 ≤ L := by omega
  have HL9 := Lib.hid (show L ≤ 100 by omega)
  subst hL
  clear g1 g2
  have hip := HIP.out
  have hu : Up ps := isP_up hip
  have hps60 : ps.length ≤ 60 := HSM.out
  have KA := fun w' (h : Below W0.heap.size W0 w') => (KH w' h).ha hip
  have cN := fun a l w' (h : Below W0.heap.size W0 w') (hl : M.inR l) => scan_any ⟨d, .slice A nm ka, ps, .slice B np kb, zs, .slice C nz kc, fr, ea, .slice D ne kd, al⟩ a t l w' (KA w' h) hu (by show ps.length ≤ _; omega) hl
  simp only at cN
  obtain ⟨S, hS⟩ : ∃ S, scanP ps f t = S := ⟨_, rfl⟩
  have hSl : S.length ≤ 60 := by rw [← hS]; exact Nat.le_trans (List.length_filter_le _ _) hps60
  have hall := cN f 10000 w2 h2 (by unfold M.inR; omega)
  rw [show limP ps f t 10000 = (S, Od.E0) by rw [← hS]; exact lim_fits (n := 10000) (by rw [hS]; omega)] at hall
  have HU := Lib.hid hu
  have HIP2 := Lib.hid hip
  have HS := Lib.hid hS
  have HL := Lib.hid hlim
  have HSL := Lib.hid hSl
  clear hip hu hps60 hS hSl hlim HIP
  obtain ⟨_, ⟨p0, p1, p2, p3, p4, p5, p6, p7, p8, p9, p10⟩, py⟩ := hbox _ h2
  go_wp2_with fail
  refine hall.mono ?_
  rintro e w3 ⟨va, rfl, oa, b⟩
  have h3 := h2.trans (b.mono h2.size)
  have ha3 := ArgP.of_own oa
  obtain ⟨Aa, ca, rfl⟩ := ha3.sm.form
  obtain ⟨nS, hnS⟩ : ∃ n, S.length = n := ⟨_, rfl⟩
  have HNS := Lib.hid hnS
  rw [hnS] at ha3 ⊢
  clear p0 p1 p2 p3 p4 p5 p6 p7 p8 p9 p10 py
  clear b hall oa h2 hnS e1 e2 e3 e4 e5 s1
  go_wp2_with fail
  go_loopw [11, 12, 13] (fun vg va vi wr => ∃ (k : Nat) (a : ByteArray) (Ag : Option Addr) (ng cg : Nat), vi = .int .i64 (k : Int) ∧ va = .string a ∧ vg = .slice Ag ng cg ∧ Hid (k = 0 ∨ k * L < S.length) ∧ Hid (scanP ps a t = S.drop (k * L)) ∧ Hid (OwnP wr w3.heap.size (.slice Ag ng cg) (S.take (k * L))) ∧ Below w3.heap.size w3 wr) (fun _ _ vi _ => 61 - (intOf vi).toNat)
  case atStart => exact ⟨0, f, none, 0, 0, rfl, rfl, rfl, Lib.hid (.inl rfl), Lib.hid (by rw [HS.out, Nat.zero_mul]; rfl), Lib.hid (by rw [Nat.zero_mul]; exact Od.own_nil _ _), Below.refl _ _⟩
  case round =>
    obtain ⟨k, a, Ag, ng, cg, rfl, rfl, rfl, HK, HA, HO, hbw⟩ := hrel
    have hk60 : k ≤ 59 := by
      rcases HK.out with h | h
      · omega
      · have h1 := HSL.out
        have h2 : k * 1 ≤ k * L := Nat.mul_le_mul_left k hL1
        omega
    have i1 : ((k : Int) ≤ 60) = True := eq_true (by omega)
    have h4 := h3.trans (hbw.mono h3.size)
    obtain ⟨R, hR⟩ : ∃ R, scanP ps a t = R := ⟨_, rfl⟩
    have hd := hR.symm.trans HA.out
    have hRl : R.length ≤ 60 := by rw [hd]; have := HSL.out; simp; omega
    have cR := cN a (L : Int) wr h4 HL.out
    have w3z := hbw.size
    obtain ⟨_, ⟨p0, p1, p2, p3, p4, p5, p6, p7, p8, p9, p10⟩, py⟩ := hbox _ h4
    by_cases hlen : R.length ≤ L
    · obtain ⟨q1, q2⟩ := page_last hR hd hlen
      rw [q1] at cR
      have HQ := Lib.hid q2
      obtain ⟨nR, hnR⟩ : ∃ n, R.length = n := ⟨_, rfl⟩
      have HNR := Lib.hid hnR
      have l1 : ((L : Int) < (nR : Int)) = False := eq_false (by omega)
      have l2 : ((nR : Int) > (L : Int)) = False := eq_false (by omega)
      have hRl2 := Lib.hid hRl
      clear q1 q2 hd hlen hR hRl hnR
      go_wp2_with fail
      refine cR.mono ?_
      rintro e w5 ⟨vl, rfl, ol, b5⟩
      have al5 := ArgP.of_own ol
      obtain ⟨Al, cl, rfl⟩ := al5.sm.form
      rw [HNR.out] at al5 ⊢
      have hO5 := Od.own_keep HO.out b5
      have h35 := hbw.trans (b5.mono w3z)
      clear p0 p1 p2 p3 p4 p5 p6 p7 p8 p9 p10 py
      clear cR ol b5
      go_wp2_with (at_builtin; refine Od.wpList_append_ps rfl _ _ rfl w3.heap.size _ (S.take (k * L)) rfl hO5 h35.size _ R rfl al5 (by have := HSL.out; have := hRl2.out; simp; omega) ?_)
      intro v' w6 ho6 hb6 _
      rw [HQ.out] at ho6
      have ag6 := ArgP.of_own ho6
      obtain ⟨A6, c6, rfl⟩ := ag6.sm.form
      rw [HNS.out] at ag6 ⊢
      have h36 := h35.trans hb6
      have h6 := h3.trans (h36.mono h3.size)
      have cE := Od.pairs_any (.slice A6 nS c6) (.slice Aa nS ca) S S w6 ag6.sm (ha3.keep h36).sm (by have := HSL.out; omega) (by have := HSL.out; omega)
      rw [decide_eq_true rfl] at cE
      clear hO5 al5 hb6 h35 ag6 ho6
      go_wp2_with fail
      refine cE.mono ?_
      rintro e w7 ⟨rfl, b7⟩
      have h7 := h6.trans (b7.mono h6.size)
      clear cE b7
      go_wp2_with fail
      refine (cL _ h7).mono ?_
      rintro e' wl ⟨rfl, bl⟩
      go_wp2_with fail
      go_ret
      exact ⟨rfl, hb0.trans ((h7).trans (bl.mono (h7).size) |>.mono hb0.size)⟩
    · have hlen : L < R.length := by omega
      obtain ⟨⟨xk, xv⟩, hxm, q1, q2, q3, q4⟩ := page_more HU.out hR hd hlen
      have hxe := key_some HIP2.out (scan_sub ps a t _ (hR ▸ hxm))
      simp only at q1 q3 hxe
      rw [q1] at cR
      have HQ := Lib.hid q2
      have HQ3 := Lib.hid q3
      have HQ4 := Lib.hid q4
      have hRt : (R.take L).length = L := by rw [List.length_take]; omega
      have HRT := Lib.hid hRt
      have l1 : ((L : Int) < (L : Int)) = False := eq_false (by omega)
      have l2 : ((L : Int) > (L : Int)) = False := eq_false (by omega)
      clear q1 q2 q3 q4 hd hlen hR hRl hxm hRt
      go_wp2_with fail
      refine cR.mono ?_
      rintro e w5 ⟨vl, rfl, ol, b5⟩
      have al5 := ArgP.of_own ol
      obtain ⟨Al, cl, rfl⟩ := al5.sm.form
      rw [HRT.out] at al5 ⊢
      have hO5 := Od.own_keep HO.out b5
      have h35 := hbw.trans (b5.mono w3z)
      clear p0 p1 p2 p3 p4 p5 p6 p7 p8 p9 p10 py
      clear cR ol b5
      go_wp2_with (at_builtin; refine Od.wpList_append_ps rfl _ _ rfl w3.heap.size _ (S.take (k * L)) rfl hO5 h35.size _ (R.take L) rfl al5 (by have := HSL.out; have := HRT.out; have := HL9.out; simp; omega) ?_)
      intro v' w6 ho6 hb6 _
      rw [HQ.out] at ho6
      obtain ⟨A6, c6, rfl⟩ := (SP.of_own ho6).form
      have HO6 := Lib.hid ho6
      have h36 := h35.trans hb6
      clear hO5 al5 hb6 h35 ho6
      go_wp2_with fail
      go_roundw
      case rel => exact ⟨k + 1, xk, A6, _, c6, by go_num, rfl, rfl, Lib.hid (.inr HQ4.out), HQ3, HO6, h36⟩
      case measure => simp [intOf]; omega
end Go.Proofs.YthcmnkmfhgoddaaGreatDoor.Dp
