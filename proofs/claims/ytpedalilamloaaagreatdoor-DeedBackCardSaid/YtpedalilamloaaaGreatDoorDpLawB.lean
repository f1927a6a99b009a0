/-
  DeedBack, walked. Conditions: lengths at most 2^47; the library's variables hold what their types allow.
-/
import Derived.Test.YtpedalilamloaaaGreatDoorDpLive
import Derived.Test.YtpedalilamloaaaGreatDoorDpSmall
import Derived.Test.YtpedalilamloaaaGreatDoorDpHHA
namespace Go.Proofs.YtpedalilamloaaaGreatDoor.Dp
open Go.RowKit Bnd
open Go.Proofs.YtpedalilamloaaaGreatDoor.O (Bd hasB)
open Go.Proofs.YtpedalilamloaaaGreatDoor.Ds (De SM OwnI OwnM ArgM dv splitD)
open Go.Proofs.YtpedalilamloaaaGreatDoor.Ss (Ses Zs ses SZ PZ NoP OwnZ ArgZ)
open Go.Proofs.YtpedalilamloaaaGreatDoor.Od (Pr SP OwnP ArgP)
open Go.Proofs.YtpedalilamloaaaGreatDoor.Sf (kl Up getP scanP)

theorem got_case (ps : List Pr) {k : ByteArray} (hk : k.toList ≠ []) (x : ByteArray) : (getP ps x = none ∧ getP (scanP ps Od.E0 k) x = none ∧ getP (scanP ps k Od.E0) x = none) ∨ (∃ v, getP ps x = some v ∧ getP (scanP ps Od.E0 k) x = some v ∧ getP (scanP ps k Od.E0) x = none) ∨ (∃ v, getP ps x = some v ∧ getP (scanP ps Od.E0 k) x = none ∧ getP (scanP ps k Od.E0) x = some v) := by
  rw [get_left ps hk, get_right ps k x]
  cases hg : getP ps x with
  | none => left; cases kl x k <;> simp
  | some v =>
    right
    cases hc : kl x k with
    | true => left; exact ⟨v, rfl, by simp, by simp⟩
    | false => right; exact ⟨v, rfl, by simp, by simp⟩

set_option maxHeartbeats 16000000 in
set_option maxRecDepth 100000 in
theorem back_walk (o : Ph) (key probe : ByteArray) (idn : Int) (w : World) (h : HB w o) (hf : FitP o) (hk : key.size ≤ 140737488355328) (hpr : probe.size ≤ 140737488355328) (hg : Good w) :
    Calls Tryz.prog 7 #[qv o, .string key, .int .i64 idn, .string probe] w fun e w' => e = .returned (.bool true) ∧ Below w.heap.size w w' := by
  obtain ⟨fA, fa, fB, fb, fC, fc, fD, fd, f1, f2, f3, f4⟩ := h.hp.form
  obtain ⟨d, sm, ps, sp, zs, sz, fr, ea, se, al⟩ := o
  simp only at f1 f2 f3 f4
  subst f1 f2 f3 f4
  obtain ⟨W1, hW1⟩ : ∃ W1, w.alloc (.cells #[.int .i64 d.id, .string d.f, .string d.t, .int .i64 d.gen, .slice fA d.ms.length fa, .int .i64 d.next, .slice fB ps.length fb, .slice fC zs.length fc, .bool fr, .slice fD ea.length fd, .int .i64 al] 31) = W1 := ⟨_, rfl⟩
  have B1 : BoxP w.heap.size ⟨d, .slice fA d.ms.length fa, ps, .slice fB ps.length fb, zs, .slice fC zs.length fc, fr, ea, .slice fD ea.length fd, al⟩ W1 := hW1 ▸ BoxP.new w ⟨d, .slice fA d.ms.length fa, ps, .slice fB ps.length fb, zs, .slice fC zs.length fc, fr, ea, .slice fD ea.length fd, al⟩
  have hz1 : W1.heap.size = w.heap.size + 1 := by rw [← hW1]; simp
  have hbw1 : Below w.heap.size w W1 := by rw [← hW1]; exact (Below.refl _ w).alloc (Nat.le_refl _) _
  have h1 := h.keep hbw1
  have cs := small_any ⟨d, .slice fA d.ms.length fa, ps, .slice fB ps.length fb, zs, .slice fC zs.length fc, fr, ea, .slice fD ea.length fd, al⟩ W1 h1.hp hf
  go_enter Tryz.func7, Tryz.ntmps7
  obtain ⟨p_0, ⟨p_1, p_2, p_3, p_4, p_5, p_6, p_7, p_8, p_9, p_10, p_11⟩, p_12⟩ := _root_.id B1
  go_wp2_with (rw [hW1])
  refine cs.mono ?_
  rintro e w2 ⟨⟨r, rfl, hr⟩, b2⟩
  have hz2 := b2.size
  have hb2 : Below w.heap.size w w2 := hbw1.trans (b2.mono (by omega))
  have B2 := B1.keep b2
  have h2 := h1.keep b2
  ((try clear p_0); (try clear p_1); (try clear p_2); (try clear p_3); (try clear p_4); (try clear p_5); (try clear p_6); (try clear p_7); (try clear p_8); (try clear p_9); (try clear p_10); (try clear p_11); (try clear p_12))
  clear cs hW1 h1 b2
  cases r with
  | false =>
    go_wp2_with fail
    refine (live_any _ (hg.below hb2)).mono ?_
    rintro e' wl ⟨rfl, bl⟩
    go_wp2_with fail
    go_ret
    exact ⟨rfl, (hb2).trans (bl.mono (by have h9 := (hb2).size; omega))⟩
  | true =>
    obtain ⟨sps, szs, sea, sms⟩ := hr rfl
    simp only at sps szs sea sms
    by_cases hlen : key.size + probe.size ≤ 10000
    rotate_left
    · have e1 : ((key.size : Int) + (probe.size : Int) > 10000) = True := eq_true (by omega)
      have e2 : IntKind.i64.wrap ((key.size : Int) + (probe.size : Int)) = (key.size : Int) + (probe.size : Int) := by rw [IntKind.wrap_i64] <;> omega
      have e3 : (10000 < (key.size : Int) + (probe.size : Int)) = True := eq_true (by omega)
      go_wp2_with fail
      refine (live_any _ (hg.below hb2)).mono ?_
      rintro e' wl ⟨rfl, bl⟩
      go_wp2_with fail
      go_ret
      exact ⟨rfl, (hb2).trans (bl.mono (by have h9 := (hb2).size; omega))⟩
    · have e1 : ((key.size : Int) + (probe.size : Int) > 10000) = False := eq_false (by omega)
      have e2 : IntKind.i64.wrap ((key.size : Int) + (probe.size : Int)) = (key.size : Int) + (probe.size : Int) := by rw [IntKind.wrap_i64] <;> omega
      have e3 : (10000 < (key.size : Int) + (probe.size : Int)) = False := eq_false (by omega)
      have cc := check_any ⟨d, .slice fA d.ms.length fa, ps, .slice fB ps.length fb, zs, .slice fC zs.length fc, fr, ea, .slice fD ea.length fd, al⟩ w2 h2.hp hf
      obtain ⟨p_0, ⟨p_1, p_2, p_3, p_4, p_5, p_6, p_7, p_8, p_9, p_10, p_11⟩, p_12⟩ := _root_.id B2
      clear hlen
      go_wp2_with fail
      ((try clear p_0); (try clear p_1); (try clear p_2); (try clear p_3); (try clear p_4); (try clear p_5); (try clear p_6); (try clear p_7); (try clear p_8); (try clear p_9); (try clear p_10); (try clear p_11); (try clear p_12))
      refine cc.mono ?_
      rintro e w3 ⟨rfl, b3⟩
      have hz3 := b3.size
      have hb3 : Below w.heap.size w w3 := hb2.trans (b3.mono (by omega))
      have B3 := B2.keep b3
      have h3 := h2.keep b3
      clear cc b3 h2 B2 e1 e2 e3
      by_cases hip : isP (Ph.pl ⟨d, .slice fA d.ms.length fa, ps, .slice fB ps.length fb, zs, .slice fC zs.length fc, fr, ea, .slice fD ea.length fd, al⟩) = true
      rotate_left
      · rw [show chkP (Ph.pl ⟨d, .slice fA d.ms.length fa, ps, .slice fB ps.length fb, zs, .slice fC zs.length fc, fr, ea, .slice fD ea.length fd, al⟩) = 90 from if_neg hip]
        clear hip
        go_wp2_with fail
        refine (num_any _ _).mono ?_
        rintro e' w' ⟨rfl, rfl⟩
        go_wp2_with fail
        refine (live_any _ (hg.below hb3)).mono ?_
        rintro e' wl ⟨rfl, bl⟩
        go_wp2_with fail
        go_ret
        exact ⟨rfl, (hb3).trans (bl.mono (by have h9 := (hb3).size; omega))⟩
      · rw [show chkP (Ph.pl ⟨d, .slice fA d.ms.length fa, ps, .slice fB ps.length fb, zs, .slice fC zs.length fc, fr, ea, .slice fD ea.length fd, al⟩) = 0 from if_pos hip]
        have ha3 := h3.ha hip
        have hl1 : ps.length ≤ 100000 := by omega
        have cut := cut_any ⟨d, .slice fA d.ms.length fa, ps, .slice fB ps.length fb, zs, .slice fC zs.length fc, fr, ea, .slice fD ea.length fd, al⟩ key idn w3 ha3 hip hl1 hk
        have hup : Up ps := isP_up hip
        have HIP := Lib.hid hip
        go_wp2_with fail
        refine (num_any _ _).mono ?_
        rintro e' w' ⟨rfl, rfl⟩
        obtain ⟨p_0, ⟨p_1, p_2, p_3, p_4, p_5, p_6, p_7, p_8, p_9, p_10, p_11⟩, p_12⟩ := _root_.id B3
        rcases cut_cases (Ph.pl ⟨d, .slice fA d.ms.length fa, ps, .slice fB ps.length fb, zs, .slice fC zs.length fc, fr, ea, .slice fD ea.length fd, al⟩) key idn with ⟨er, her, hcut⟩ | ⟨hfr, x, y, hsp, hkn, hcut⟩
        · rw [hcut] at cut
          have e1 : (er == 0) = false := by simpa using her
          have e2 : (er != 0) = true := by simpa using her
          have e3 : (er = 0) = False := eq_false her
          clear hcut her hip
          go_wp2_with fail
          ((try clear p_0); (try clear p_1); (try clear p_2); (try clear p_3); (try clear p_4); (try clear p_5); (try clear p_6); (try clear p_7); (try clear p_8); (try clear p_9); (try clear p_10); (try clear p_11); (try clear p_12))
          refine cut.mono ?_
          rintro e w4 ⟨ol, or, rfl, pl, pr, hl, hr', b4⟩
          obtain ⟨lA, la, lB, lb, lC, lc, lD, ld, el0⟩ := flat hl pl rfl
          obtain ⟨rA, ra, rB, rb, rC, rc, rD, rd, er0⟩ := flat hr' pr rfl
          have el : ol = ⟨De.zero, .slice lA 0 la, [], .slice lB 0 lb, [], .slice lC 0 lc, false, [], .slice lD 0 ld, 0⟩ := el0
          have er' : or = ⟨De.zero, .slice rA 0 ra, [], .slice rB 0 rb, [], .slice rC 0 rc, false, [], .slice rD 0 rd, 0⟩ := er0
          clear el0 er0
          subst el er'
          have hb4 : Below w.heap.size w w4 := hb3.trans (b4.mono (by omega))
          have hz4 := b4.size
          clear cut
          go_wp2_with fail
          refine (num_any _ _).mono ?_
          rintro e' w' ⟨rfl, rfl⟩
          go_wp2_with fail
          refine (live_any _ (hg.below (by (repeat' (first | with_reducible assumption | with_reducible exact Below.refl _ _ | with_reducible refine Below.alloc ?_ ?_ _ | with_reducible refine Below.setCell ?_ ?_ _ | with_reducible refine Below.drew ?_ | omega | (simp; done) | (simp; omega)))))).mono ?_
          rintro e' wl ⟨rfl, bl⟩
          go_wp2_with fail
          go_ret
          exact ⟨rfl, (show Below w.heap.size w _ from (by (repeat' (first | with_reducible assumption | with_reducible exact Below.refl _ _ | with_reducible refine Below.alloc ?_ ?_ _ | with_reducible refine Below.setCell ?_ ?_ _ | with_reducible refine Below.drew ?_ | omega | (simp; done) | (simp; omega))))).trans (bl.mono (by simp; omega))⟩
        · have hcb := cut_back HIP.out hsp hfr
          have hmay := cut_may HIP.out hsp hfr
          rw [hcut] at cut
          have hgot := got_case ps hkn probe
          clear hcut hip
          go_wp2_with fail
          ((try clear p_0); (try clear p_1); (try clear p_2); (try clear p_3); (try clear p_4); (try clear p_5); (try clear p_6); (try clear p_7); (try clear p_8); (try clear p_9); (try clear p_10); (try clear p_11); (try clear p_12))
          refine cut.mono ?_
          rintro e w4 ⟨ol, or, rfl, pl, pr, hl, hr', b4⟩
          obtain ⟨lA, la, lB, lb, lC, lc, lD, le, l1, l2, l3, l4⟩ := hl.hp.form
          obtain ⟨ld, lsm, lps, lsp, lzs, lsz, lfr, lea, lse, lal⟩ := ol
          simp only at l1 l2 l3 l4
          subst l1 l2 l3 l4
          obtain ⟨qA, qa, qB, qb, qC, qc, qD, qe, q1, q2, q3, q4⟩ := hr'.hp.form
          obtain ⟨qd, qsm, qps, qsp, qzs, qsz, qfr, qea, qse, qal⟩ := or
          simp only at q1 q2 q3 q4
          subst q1 q2 q3 q4

          have hb4 : Below w.heap.size w w4 := hb3.trans (b4.mono (by omega))
          have hz4 := b4.size
          have B4 := B3.keep b4
          have h4 := ha3.keep b4
          obtain ⟨W5, hW5⟩ : ∃ W5, (w4.alloc (.cells #[.int .i64 ld.id, .string ld.f, .string ld.t, .int .i64 ld.gen, .slice lA ld.ms.length la, .int .i64 ld.next, .slice lB lps.length lb, .slice lC lzs.length lc, .bool lfr, .slice lD lea.length le, .int .i64 lal] 31)).alloc (.cells #[.int .i64 qd.id, .string qd.f, .string qd.t, .int .i64 qd.gen, .slice qA qd.ms.length qa, .int .i64 qd.next, .slice qB qps.length qb, .slice qC qzs.length qc, .bool qfr, .slice qD qea.length qe, .int .i64 qal] 31) = W5 := ⟨_, rfl⟩
          have BL5 : BoxP w4.heap.size ⟨ld, .slice lA ld.ms.length la, lps, .slice lB lps.length lb, lzs, .slice lC lzs.length lc, lfr, lea, .slice lD lea.length le, lal⟩ W5 := hW5 ▸ (BoxP.new w4 ⟨ld, .slice lA ld.ms.length la, lps, .slice lB lps.length lb, lzs, .slice lC lzs.length lc, lfr, lea, .slice lD lea.length le, lal⟩).alloc _
          have BQ5 : BoxP (w4.heap.size + 1) ⟨qd, .slice qA qd.ms.length qa, qps, .slice qB qps.length qb, qzs, .slice qC qzs.length qc, qfr, qea, .slice qD qea.length qe, qal⟩ W5 := by
            have := BoxP.new (w4.alloc (.cells #[.int .i64 ld.id, .string ld.f, .string ld.t, .int .i64 ld.gen, .slice lA ld.ms.length la, .int .i64 ld.next, .slice lB lps.length lb, .slice lC lzs.length lc, .bool lfr, .slice lD lea.length le, .int .i64 lal] 31)) ⟨qd, .slice qA qd.ms.length qa, qps, .slice qB qps.length qb, qzs, .slice qC qzs.length qc, qfr, qea, .slice qD qea.length qe, qal⟩
            rw [World.size_alloc] at this
            rw [← hW5]
            exact this
          have b5 : Below w4.heap.size w4 W5 := by rw [← hW5]; exact ((Below.refl _ w4).alloc (Nat.le_refl _) _).alloc (by simp) _
          have hz5 := b5.size
          have B5 := B4.keep b5
          have hb5 : Below w.heap.size w W5 := hb4.trans (b5.mono (by omega))
          have isL : isP (Ph.pl ⟨ld, .slice lA ld.ms.length la, lps, .slice lB lps.length lb, lzs, .slice lC lzs.length lc, lfr, lea, .slice lD lea.length le, lal⟩) = true := by rw [pl]; exact hmay.1
          have isQ : isP (Ph.pl ⟨qd, .slice qA qd.ms.length qa, qps, .slice qB qps.length qb, qzs, .slice qC qzs.length qc, qfr, qea, .slice qD qea.length qe, qal⟩) = true := by rw [pr]; exact hmay.2
          have hlps : lps = scanP ps Od.E0 key := congrArg Pl.ps pl
          have hqps : qps = scanP ps key Od.E0 := congrArg Pl.ps pr
          have nl : lps.length ≤ 100000 := by rw [hlps]; exact Nat.le_trans (List.length_filter_le _ _) hl1
          have nq : qps.length ≤ 100000 := by rw [hqps]; exact Nat.le_trans (List.length_filter_le _ _) hl1
          have pq : Ph.pl ⟨qd, .slice qA qd.ms.length qa, qps, .slice qB qps.length qb, qzs, .slice qC qzs.length qc, true, qea, .slice qD qea.length qe, qal⟩ = { Ph.pl ⟨d, .slice fA d.ms.length fa, ps, .slice fB ps.length fb, zs, .slice fC zs.length fc, fr, ea, .slice fD ea.length fd, al⟩ with d := y, ps := scanP ps key Od.E0, al := 0, fr := true } := congrArg (fun p : Pl => { p with fr := true }) pr
          have isT : isP (Ph.pl ⟨qd, .slice qA qd.ms.length qa, qps, .slice qB qps.length qb, qzs, .slice qC qzs.length qc, true, qea, .slice qD qea.length qe, qal⟩) = true := isQ
          have cg := fun wx (hb : Below W5.heap.size W5 wx) => get_any ⟨d, .slice fA d.ms.length fa, ps, .slice fB ps.length fb, zs, .slice fC zs.length fc, fr, ea, .slice fD ea.length fd, al⟩ probe wx ((h4.keep b5).keep hb).hp (isP_fit HIP.out hl1) hup
          have cgl := fun wx (hb : Below W5.heap.size W5 wx) => get_any ⟨ld, .slice lA ld.ms.length la, lps, .slice lB lps.length lb, lzs, .slice lC lzs.length lc, lfr, lea, .slice lD lea.length le, lal⟩ probe wx ((hl.keep b5).keep hb).hp (isP_fit isL nl) (isP_up isL)
          have cgq := fun wx (hb : Below W5.heap.size W5 wx) => get_any ⟨qd, .slice qA qd.ms.length qa, qps, .slice qB qps.length qb, qzs, .slice qC qzs.length qc, qfr, qea, .slice qD qea.length qe, qal⟩ probe wx ((hr'.keep b5).keep hb).hp (isP_fit isQ nq) (isP_up isQ)
          have kl0 := fun wx (hb : Below W5.heap.size W5 wx) => check_any ⟨ld, .slice lA ld.ms.length la, lps, .slice lB lps.length lb, lzs, .slice lC lzs.length lc, lfr, lea, .slice lD lea.length le, lal⟩ wx ((hl.keep b5).keep hb).hp (isP_fit isL nl)
          have kr0 := fun wx (hb : Below W5.heap.size W5 wx) => check_any ⟨qd, .slice qA qd.ms.length qa, qps, .slice qB qps.length qb, qzs, .slice qC qzs.length qc, qfr, qea, .slice qD qea.length qe, qal⟩ wx ((hr'.keep b5).keep hb).hp (isP_fit isQ nq)
          simp only [show chkP (Ph.pl ⟨ld, .slice lA ld.ms.length la, lps, .slice lB lps.length lb, lzs, .slice lC lzs.length lc, lfr, lea, .slice lD lea.length le, lal⟩) = 0 from if_pos isL] at kl0
          simp only [show chkP (Ph.pl ⟨qd, .slice qA qd.ms.length qa, qps, .slice qB qps.length qb, qzs, .slice qC qzs.length qc, qfr, qea, .slice qD qea.length qe, qal⟩) = 0 from if_pos isQ] at kr0
          have hvl : ∀ v, getP lps probe = some v → hasB ⟨ld.f.toList, ld.t.toList⟩ probe.toList = true := fun v hv => get_has (p := Ph.pl ⟨ld, .slice lA ld.ms.length la, lps, .slice lB lps.length lb, lzs, .slice lC lzs.length lc, lfr, lea, .slice lD lea.length le, lal⟩) isL hv
          have hvr : ∀ v, getP qps probe = some v → hasB ⟨qd.f.toList, qd.t.toList⟩ probe.toList = true := fun v hv => get_has (p := Ph.pl ⟨qd, .slice qA qd.ms.length qa, qps, .slice qB qps.length qb, qzs, .slice qC qzs.length qc, qfr, qea, .slice qD qea.length qe, qal⟩) isQ hv
          rw [← hlps, ← hqps] at hgot
          have HPL := Lib.hid pl
          have HPQ := Lib.hid pq
          have hcb' : (joinP (Ph.pl ⟨ld, .slice lA ld.ms.length la, lps, .slice lB lps.length lb, lzs, .slice lC lzs.length lc, lfr, lea, .slice lD lea.length le, lal⟩) (Ph.pl ⟨qd, .slice qA qd.ms.length qa, qps, .slice qB qps.length qb, qzs, .slice qC qzs.length qc, true, qea, .slice qD qea.length qe, qal⟩) = (⟨{ d with gen := d.gen + 1 + 1 }, ps, ses zs, false, eatE idn ea, al⟩, 0) ∧ isP ⟨{ d with gen := d.gen + 1 + 1 }, ps, ses zs, false, eatE idn ea, al⟩ = true) ∨ (∃ e, e ≠ 0 ∧ joinP (Ph.pl ⟨ld, .slice lA ld.ms.length la, lps, .slice lB lps.length lb, lzs, .slice lC lzs.length lc, lfr, lea, .slice lD lea.length le, lal⟩) (Ph.pl ⟨qd, .slice qA qd.ms.length qa, qps, .slice qB qps.length qb, qzs, .slice qC qzs.length qc, true, qea, .slice qD qea.length qe, qal⟩) = (Pl.zero, e) ∧ (ea.length = 200 ∨ 1099511627774 ≤ d.gen ∨ idn ∈ ea)) := by
            rw [pl, pq]
            exact hcb
          have HCB := Lib.hid hcb'
          clear cut pl pr pq hcb hcb' hmay hlps hqps hsp hkn hfr

          rcases hgot with ⟨g0, g1, g2⟩ | ⟨v, g0, g1, g2⟩ | ⟨v, g0, g1, g2⟩
          · simp only [g0] at cg
            simp only [g1] at cgl
            simp only [g2] at cgq
            unfold gotV at cg cgl cgq
            simp only at cg cgl cgq
            clear hvl hvr g0 g1 g2
            go_wp2_with (rw [hW5])
            refine (num_any _ _).mono ?_
            rintro e' w' ⟨rfl, rfl⟩
            obtain ⟨p_0, ⟨p_1, p_2, p_3, p_4, p_5, p_6, p_7, p_8, p_9, p_10, p_11⟩, p_12⟩ := _root_.id B5
            go_wp2_with fail
            ((try clear p_0); (try clear p_1); (try clear p_2); (try clear p_3); (try clear p_4); (try clear p_5); (try clear p_6); (try clear p_7); (try clear p_8); (try clear p_9); (try clear p_10); (try clear p_11); (try clear p_12))
            refine (cg W5 (Below.refl _ _)).mono ?_
            rintro e' w6 ⟨rfl, b6⟩
            have BL6 := BL5.keep b6
            obtain ⟨p_0, ⟨p_1, p_2, p_3, p_4, p_5, p_6, p_7, p_8, p_9, p_10, p_11⟩, p_12⟩ := _root_.id BL6
            clear hW5 cg
            go_wp2_with fail
            ((try clear p_0); (try clear p_1); (try clear p_2); (try clear p_3); (try clear p_4); (try clear p_5); (try clear p_6); (try clear p_7); (try clear p_8); (try clear p_9); (try clear p_10); (try clear p_11); (try clear p_12))
            refine (cgl w6 b6).mono ?_
            rintro e' w7 ⟨rfl, b7⟩
            have b57 : Below W5.heap.size W5 w7 := b6.trans (b7.mono b6.size)
            have BQ7 := BQ5.keep b57
            obtain ⟨p_0, ⟨p_1, p_2, p_3, p_4, p_5, p_6, p_7, p_8, p_9, p_10, p_11⟩, p_12⟩ := _root_.id BQ7
            clear cgl b6 b7 BL6
            go_wp2_with fail
            ((try clear p_0); (try clear p_1); (try clear p_2); (try clear p_3); (try clear p_4); (try clear p_5); (try clear p_6); (try clear p_7); (try clear p_8); (try clear p_9); (try clear p_10); (try clear p_11); (try clear p_12))
            refine (cgq w7 b57).mono ?_
            rintro e' wq ⟨rfl, b8⟩
            have b5q : Below W5.heap.size W5 wq := b57.trans (b8.mono b57.size)
            have hzq := b5q.size
            clear cgq b57 b8 BQ7
            have BLq := fun wx (hb : Below wq.heap.size wq wx) => BL5.keep (b5q.trans (hb.mono b5q.size))
            have BRq := fun wx (hb : Below wq.heap.size wq wx) => BQ5.keep (b5q.trans (hb.mono b5q.size))
            have up : ∀ {wx w' : World}, Below wq.heap.size wq wx → Below wx.heap.size wx w' → Below wq.heap.size wq w' := fun hx b => hx.trans (b.mono hx.size)
            have kl : ∀ wx, Below wq.heap.size wq wx → Calls Tryz.prog 14 #[qv ⟨ld, .slice lA ld.ms.length la, lps, .slice lB lps.length lb, lzs, .slice lC lzs.length lc, lfr, lea, .slice lD lea.length le, lal⟩] wx fun e w' => e = .returned (.int .i64 0) ∧ Below wq.heap.size wq w' := fun wx hx => (kl0 wx (b5q.trans (hx.mono b5q.size))).mono fun e w' h => ⟨h.1, up hx h.2⟩
            have kr : ∀ wx, Below wq.heap.size wq wx → Calls Tryz.prog 14 #[qv ⟨qd, .slice qA qd.ms.length qa, qps, .slice qB qps.length qb, qzs, .slice qC qzs.length qc, qfr, qea, .slice qD qea.length qe, qal⟩] wx fun e w' => e = .returned (.int .i64 0) ∧ Below wq.heap.size wq w' := fun wx hx => (kr0 wx (b5q.trans (hx.mono b5q.size))).mono fun e w' h => ⟨h.1, up hx h.2⟩
            have kn : ∀ wx, Below wq.heap.size wq wx → Calls Tryz.prog 13 #[.int .i64 0] wx fun e w' => e = .returned (.int .i64 0) ∧ Below wq.heap.size wq w' := fun wx hx => (num_any 0 wx).mono fun e w' h => ⟨h.1, h.2 ▸ hx⟩
            clear kl0 kr0
            go_wp2_with fail
            refine St.wp_region_mixed (fun _ _ wx => Below wq.heap.size wq wx) (fun i z => match i with | 1 => z = .int .i64 0 | 2 => z = .int .i64 0 | 4 => z = .int .i64 0 | 5 => z = .int .i64 0 | _ => z = .bool true) (by kernel_rfl) (by kernel_rfl) (by kernel_rfl) (Below.refl _ _).drew ?_
            iterate 1
              (apply St.mix_give
               · rfl
               · intro L u' wx hS hcl hrd hag
                 obtain ⟨_, ⟨j0, j1, j2, j3, j4, j5, j6, j7, j8, j9, j10⟩, _⟩ := BLq wx hS
                 clear hcl hrd hag
                 go_simp
                 try with_reducible rfl
               · exact fun L u' wx hS => hS
               simp only [Act.put, List.setIfInBounds_toArray, List.set_cons_zero, List.set_cons_succ])
            apply St.mix_into
            · rfl
            · rfl
            · intro wx
              go_simp
              exact ⟨rfl, rfl⟩
            · exact fun L u' wx hS _ _ _ => kl wx hS
            simp only [Act.put, List.setIfInBounds_toArray, List.set_cons_zero, List.set_cons_succ]
            apply St.mix_into
            · rfl
            · rfl
            · intro wx
              go_simp
              exact ⟨rfl, rfl⟩
            · exact fun L u' wx hS _ _ _ => kn wx hS
            simp only [Act.put, List.setIfInBounds_toArray, List.set_cons_zero, List.set_cons_succ]
            iterate 1
              (apply St.mix_give
               · rfl
               · intro L u' wx hS hcl hrd hag
                 obtain ⟨_, ⟨m0, m1, m2, m3, m4, m5, m6, m7, m8, m9, m10⟩, _⟩ := BRq wx hS
                 clear hcl hrd hag
                 go_simp
                 try with_reducible rfl
               · exact fun L u' wx hS => hS
               simp only [Act.put, List.setIfInBounds_toArray, List.set_cons_zero, List.set_cons_succ])
            apply St.mix_into
            · rfl
            · rfl
            · intro wx
              go_simp
              exact ⟨rfl, rfl⟩
            · exact fun L u' wx hS _ _ _ => kr wx hS
            simp only [Act.put, List.setIfInBounds_toArray, List.set_cons_zero, List.set_cons_succ]
            apply St.mix_into
            · rfl
            · rfl
            · intro wx
              go_simp
              exact ⟨rfl, rfl⟩
            · exact fun L u' wx hS _ _ _ => kn wx hS
            simp only [Act.put, List.setIfInBounds_toArray, List.set_cons_zero, List.set_cons_succ]
            iterate 5
              (apply St.mix_give
               · rfl
               · intro L u' wx hS hcl hrd hag
                 clear hcl hrd hag
                 go_simp
                 try with_reducible rfl
               · exact fun L u' wx hS => hS
               simp only [Act.put, List.setIfInBounds_toArray, List.set_cons_zero, List.set_cons_succ])
            iterate 1
              (apply St.mix_past
               · rfl
               · exact fun L u' wx hS => hS
               simp only [Act.put, List.setIfInBounds_toArray, List.set_cons_zero, List.set_cons_succ])
            iterate 6
              (apply St.mix_give
               · rfl
               · intro L u' wx hS hcl hrd hag
                 clear hcl hrd hag
                 go_simp
                 try with_reducible rfl
               · exact fun L u' wx hS => hS
               simp only [Act.put, List.setIfInBounds_toArray, List.set_cons_zero, List.set_cons_succ])
            iterate 1
              (apply St.mix_give
               · rfl
               · intro L u' wx hS hcl hrd hag
                 clear hcl hrd hag
                 go_simp
                 try with_reducible rfl
               · exact fun L u' wx hS => hS
               simp only [Act.put, List.setIfInBounds_toArray, List.set_cons_zero, List.set_cons_succ])
            iterate 6
              (apply St.mix_give
               · rfl
               · intro L u' wx hS hcl hrd hag
                 clear hcl hrd hag
                 go_simp
                 try with_reducible rfl
               · exact fun L u' wx hS => hS
               simp only [Act.put, List.setIfInBounds_toArray, List.set_cons_zero, List.set_cons_succ])
            iterate 3
              (apply St.mix_past
               · rfl
               · exact fun L u' wx hS => hS
               simp only [Act.put, List.setIfInBounds_toArray, List.set_cons_zero, List.set_cons_succ])
            iterate 5
              (apply St.mix_give
               · rfl
               · intro L u' wx hS hcl hrd hag
                 clear hcl hrd hag
                 go_simp
                 try with_reducible rfl
               · exact fun L u' wx hS => hS
               simp only [Act.put, List.setIfInBounds_toArray, List.set_cons_zero, List.set_cons_succ])
            iterate 3
              (apply St.mix_past
               · rfl
               · exact fun L u' wx hS => hS
               simp only [Act.put, List.setIfInBounds_toArray, List.set_cons_zero, List.set_cons_succ])
            iterate 5
              (apply St.mix_give
               · rfl
               · intro L u' wx hS hcl hrd hag
                 clear hcl hrd hag
                 go_simp
                 try with_reducible rfl
               · exact fun L u' wx hS => hS
               simp only [Act.put, List.setIfInBounds_toArray, List.set_cons_zero, List.set_cons_succ])
            iterate 6
              (apply St.mix_past
               · rfl
               · exact fun L u' wx hS => hS
               simp only [Act.put, List.setIfInBounds_toArray, List.set_cons_zero, List.set_cons_succ])
            iterate 5
              (apply St.mix_give
               · rfl
               · intro L u' wx hS hcl hrd hag
                 clear hcl hrd hag
                 go_simp
                 try with_reducible rfl
               · exact fun L u' wx hS => hS
               simp only [Act.put, List.setIfInBounds_toArray, List.set_cons_zero, List.set_cons_succ])
            iterate 6
              (apply St.mix_past
               · rfl
               · exact fun L u' wx hS => hS
               simp only [Act.put, List.setIfInBounds_toArray, List.set_cons_zero, List.set_cons_succ])
            iterate 2
              (apply St.mix_give
               · rfl
               · intro L u' wx hS hcl hrd hag
                 clear hcl hrd hag
                 go_simp
                 try with_reducible rfl
               · exact fun L u' wx hS => hS
               simp only [Act.put, List.setIfInBounds_toArray, List.set_cons_zero, List.set_cons_succ])
            refine St.mix_last ?_
            intro L9 wz hbz _
            have hbq : Below w.heap.size w wq := hb5.trans (b5q.mono (by omega))
            have hbwz : Below w.heap.size w wz := hbq.trans (hbz.mono (by omega))
            have hzz := hbz.size
            have BLz := BLq wz hbz
            have BQz := BRq wz hbz
            have Bz := B5.keep (b5q.trans (hbz.mono b5q.size))
            have b4z : Below w4.heap.size w4 wz := b5.trans ((b5q.trans (hbz.mono b5q.size)).mono (by omega))
            obtain ⟨W8, hW8⟩ : ∃ W8, wz.setCell ⟨w4.heap.size + 1, 8, none⟩ (.bool true) = W8 := ⟨_, rfl⟩
            have BL8 : BoxP w4.heap.size ⟨ld, .slice lA ld.ms.length la, lps, .slice lB lps.length lb, lzs, .slice lC lzs.length lc, lfr, lea, .slice lD lea.length le, lal⟩ W8 := hW8 ▸ BLz.other (by simp) _
            have BQ8 : BoxP (w4.heap.size + 1) ⟨qd, .slice qA qd.ms.length qa, qps, .slice qB qps.length qb, qzs, .slice qC qzs.length qc, true, qea, .slice qD qea.length qe, qal⟩ W8 := hW8 ▸ BQz.set8 true
            have B8 : BoxP w.heap.size ⟨d, .slice fA d.ms.length fa, ps, .slice fB ps.length fb, zs, .slice fC zs.length fc, fr, ea, .slice fD ea.length fd, al⟩ W8 := hW8 ▸ Bz.other (by simp; omega) _
            have b48 : Below w4.heap.size w4 W8 := hW8 ▸ b4z.setCell (by simp) _
            have hz8 := b48.size
            have hb8 : Below w.heap.size w W8 := hb4.trans (b48.mono (by omega))
            have q0 := hr'.keep b48
            have cj := join_any ⟨ld, .slice lA ld.ms.length la, lps, .slice lB lps.length lb, lzs, .slice lC lzs.length lc, lfr, lea, .slice lD lea.length le, lal⟩ ⟨qd, .slice qA qd.ms.length qa, qps, .slice qB qps.length qb, qzs, .slice qC qzs.length qc, true, qea, .slice qD qea.length qe, qal⟩ W8 (hl.keep b48) ⟨q0.sm, q0.sp, q0.sz, q0.np, q0.se, q0.rp, q0.re⟩ isL isT nl nq
            have h8 := h4.keep b48
            clear BLq BRq up kl kr kn hbz b5q b4z BLz q0 B5 BL5 BQ5
            obtain ⟨o_0, ⟨o_1, o_2, o_3, o_4, o_5, o_6, o_7, o_8, o_9, o_10, o_11⟩, o_12⟩ := _root_.id BQz
            obtain ⟨p_0, ⟨p_1, p_2, p_3, p_4, p_5, p_6, p_7, p_8, p_9, p_10, p_11⟩, p_12⟩ := _root_.id BL8
            obtain ⟨q_0, ⟨q_1, q_2, q_3, q_4, q_5, q_6, q_7, q_8, q_9, q_10, q_11⟩, q_12⟩ := _root_.id BQ8
            go_wp2_with (rw [hW8])
            ((try clear o_0); (try clear o_1); (try clear o_2); (try clear o_3); (try clear o_4); (try clear o_5); (try clear o_6); (try clear o_7); (try clear o_8); (try clear o_9); (try clear o_10); (try clear o_11); (try clear o_12))
            ((try clear p_0); (try clear p_1); (try clear p_2); (try clear p_3); (try clear p_4); (try clear p_5); (try clear p_6); (try clear p_7); (try clear p_8); (try clear p_9); (try clear p_10); (try clear p_11); (try clear p_12))
            ((try clear q_0); (try clear q_1); (try clear q_2); (try clear q_3); (try clear q_4); (try clear q_5); (try clear q_6); (try clear q_7); (try clear q_8); (try clear q_9); (try clear q_10); (try clear q_11); (try clear q_12))
            refine cj.mono ?_
            rintro e' w9 ⟨oj, rfl, pj, hj, b9⟩
            have hz9 := b9.size
            have hb9 : Below w.heap.size w w9 := hb8.trans (b9.mono (by omega))
            have B9 := B8.keep b9
            have h9 := h8.keep b9
            clear cj hW8 BL8 BQ8 BQz b48 h8 B8
            rcases HCB.out with ⟨hjn, hij⟩ | ⟨er, her, hjn, hwhy⟩
            · rw [hjn] at pj ⊢
              simp only at pj ⊢
              clear HCB hjn
              obtain ⟨jA, ja, jB, jb, jC, jc, jD, je, j1, j2, j3, j4⟩ := hj.hp.form
              obtain ⟨jd, jsm, jps, jsp, jzs, jsz, jfr, jea, jse, jal⟩ := oj
              simp only at j1 j2 j3 j4
              subst j1 j2 j3 j4
              obtain rfl : jd = { d with gen := d.gen + 1 + 1 } := congrArg Pl.d pj
              obtain ⟨W10, hW10⟩ : ∃ W10, w9.alloc (.cells #[.int .i64 d.id, .string d.f, .string d.t, .int .i64 (d.gen + 1 + 1), .slice jA d.ms.length ja, .int .i64 d.next, .slice jB jps.length jb, .slice jC jzs.length jc, .bool jfr, .slice jD jea.length je, .int .i64 jal] 31) = W10 := ⟨_, rfl⟩
              have BJ : BoxP w9.heap.size ⟨{ d with gen := d.gen + 1 + 1 }, .slice jA d.ms.length ja, jps, .slice jB jps.length jb, jzs, .slice jC jzs.length jc, jfr, jea, .slice jD jea.length je, jal⟩ W10 := by rw [← hW10]; exact BoxP.new w9 ⟨{ d with gen := d.gen + 1 + 1 }, .slice jA d.ms.length ja, jps, .slice jB jps.length jb, jzs, .slice jC jzs.length jc, jfr, jea, .slice jD jea.length je, jal⟩
              have b10 : Below w9.heap.size w9 W10 := hW10 ▸ (Below.refl _ w9).alloc (Nat.le_refl _) _
              have hz10 := b10.size
              have hb10 : Below w.heap.size w W10 := hb9.trans (b10.mono (by omega))
              have B10 := B9.keep b10
              have h10 := h9.keep b10
              have hj10 := hj.keep b10
              have isJ : isP (Ph.pl ⟨{ d with gen := d.gen + 1 + 1 }, .slice jA d.ms.length ja, jps, .slice jB jps.length jb, jzs, .slice jC jzs.length jc, jfr, jea, .slice jD jea.length je, jal⟩) = true := by rw [pj]; exact hij
              have jx2 : jps = ps := congrArg Pl.ps pj
              have jx3 : ses jzs = ses zs := congrArg Pl.ss pj
              have jx5 : jea = eatE idn ea := congrArg Pl.ea pj
              have jx6 : jal = al := congrArg Pl.al pj
              have jx7 : jzs.length = zs.length := by have := congrArg List.length jx3; simpa using this
              have njl : jps.length ≤ 100000 := by rw [jx2]; exact hl1
              have k1 := Od.pairs_any (.slice jB jps.length jb) (.slice fB ps.length fb) jps ps W10 hj10.sp.sm h10.sp.sm (by omega) (by omega)
              rw [show decide (jps = ps) = true by simpa using jx2] at k1
              have k2 := fun wx (hb : Below W10.heap.size W10 wx) => rhas_any (.slice jD jea.length je) jea idn wx (hj10.keep hb).se.si (by have : jea.length ≤ 200 := isP_ea isJ; omega)
              simp only [show decide (idn ∈ jea) = true by rw [jx5]; simpa using mem_eat.2 (Or.inl rfl)] at k2
              have k3 := fun wx (hb : Below W10.heap.size W10 wx) => check_any ⟨{ d with gen := d.gen + 1 + 1 }, .slice jA d.ms.length ja, jps, .slice jB jps.length jb, jzs, .slice jC jzs.length jc, jfr, jea, .slice jD jea.length je, jal⟩ wx (hj10.keep hb).hp (isP_fit isJ njl)
              simp only [show chkP (Ph.pl ⟨{ d with gen := d.gen + 1 + 1 }, .slice jA d.ms.length ja, jps, .slice jB jps.length jb, jzs, .slice jC jzs.length jc, jfr, jea, .slice jD jea.length je, jal⟩) = 0 from if_pos isJ] at k3
              have e1 : ((jzs.length : Int) == (zs.length : Int)) = true := by rw [jx7]; simp
              have e2 : (jal == al) = true := by rw [jx6]; simp
              have HW10 := Lib.hid hW10
              clear jx2 jx3 jx5 jx6 jx7 pj hij hW10
              go_wp2_with fail
              rw [HW10.out]
              refine (num_any _ _).mono ?_
              rintro e' w' ⟨rfl, rfl⟩
              obtain ⟨p_0, ⟨p_1, p_2, p_3, p_4, p_5, p_6, p_7, p_8, p_9, p_10, p_11⟩, p_12⟩ := _root_.id BJ
              obtain ⟨q_0, ⟨q_1, q_2, q_3, q_4, q_5, q_6, q_7, q_8, q_9, q_10, q_11⟩, q_12⟩ := _root_.id B10
              go_wp2_with fail
              ((try clear p_0); (try clear p_1); (try clear p_2); (try clear p_3); (try clear p_4); (try clear p_5); (try clear p_6); (try clear p_7); (try clear p_8); (try clear p_9); (try clear p_10); (try clear p_11); (try clear p_12))
              ((try clear q_0); (try clear q_1); (try clear q_2); (try clear q_3); (try clear q_4); (try clear q_5); (try clear q_6); (try clear q_7); (try clear q_8); (try clear q_9); (try clear q_10); (try clear q_11); (try clear q_12))
              refine k1.mono ?_
              rintro e' w11 ⟨rfl, b11⟩
              have BJ11 := BJ.keep b11
              have B11 := B10.keep b11
              obtain ⟨p_0, ⟨p_1, p_2, p_3, p_4, p_5, p_6, p_7, p_8, p_9, p_10, p_11⟩, p_12⟩ := _root_.id BJ11
              obtain ⟨q_0, ⟨q_1, q_2, q_3, q_4, q_5, q_6, q_7, q_8, q_9, q_10, q_11⟩, q_12⟩ := _root_.id B11
              clear k1
              go_wp2_with fail
              refine (k2 w11 b11).mono ?_
              rintro e' w' ⟨rfl, rfl⟩
              go_wp2_with fail
              ((try clear p_0); (try clear p_1); (try clear p_2); (try clear p_3); (try clear p_4); (try clear p_5); (try clear p_6); (try clear p_7); (try clear p_8); (try clear p_9); (try clear p_10); (try clear p_11); (try clear p_12))
              ((try clear q_0); (try clear q_1); (try clear q_2); (try clear q_3); (try clear q_4); (try clear q_5); (try clear q_6); (try clear q_7); (try clear q_8); (try clear q_9); (try clear q_10); (try clear q_11); (try clear q_12))
              refine (k3 w11 b11).mono ?_
              rintro e' w12 ⟨rfl, b12⟩
              have hb12 : Below w.heap.size w w12 := hb10.trans ((b11.trans (b12.mono b11.size)).mono (by omega))
              clear k2 k3 BJ BJ11 B11 B10
              go_wp2_with fail
              refine (num_any _ _).mono ?_
              rintro e' w' ⟨rfl, rfl⟩
              go_wp2_with fail
              refine (live_any _ (hg.below hb12)).mono ?_
              rintro e' wl ⟨rfl, bl⟩
              go_wp2_with fail
              go_ret
              exact ⟨rfl, (hb12).trans (bl.mono (by have h9 := (hb12).size; omega))⟩
            · rw [hjn] at pj ⊢
              simp only at pj ⊢
              clear HCB hjn
              obtain ⟨jA, ja, jB, jb, jC, jc, jD, je, ej0⟩ := flat hj pj rfl
              have ej : oj = ⟨De.zero, .slice jA 0 ja, [], .slice jB 0 jb, [], .slice jC 0 jc, false, [], .slice jD 0 je, 0⟩ := ej0
              clear ej0
              subst ej
              have e1 : (er == 0) = false := by simpa using her
              have e2 : (er != 0) = true := by simpa using her
              have e3 : (er = 0) = False := eq_false her
              obtain ⟨W10, hW10⟩ : ∃ W10, w9.alloc (.cells #[.int .i64 De.zero.id, .string De.zero.f, .string De.zero.t, .int .i64 De.zero.gen, .slice jA 0 ja, .int .i64 De.zero.next, .slice jB 0 jb, .slice jC 0 jc, .bool false, .slice jD 0 je, .int .i64 0] 31) = W10 := ⟨_, rfl⟩
              have b10 : Below w9.heap.size w9 W10 := hW10 ▸ (Below.refl _ w9).alloc (Nat.le_refl _) _
              have hz10 := b10.size
              have hb10 : Below w.heap.size w W10 := hb9.trans (b10.mono (by omega))
              have B10 := B9.keep b10
              have h10 := h9.keep b10
              have HW10 := Lib.hid hW10
              have k2 := rhas_any (.slice fD ea.length fd) ea idn W10 h10.se.si (by omega)
              clear her hW10 hj pj
              go_wp2_with fail
              rw [HW10.out]
              refine (num_any _ _).mono ?_
              rintro e' w' ⟨rfl, rfl⟩
              obtain ⟨p_0, ⟨p_1, p_2, p_3, p_4, p_5, p_6, p_7, p_8, p_9, p_10, p_11⟩, p_12⟩ := _root_.id B10
              by_cases c1 : ea.length = 200
              · have x1 : ((ea.length : Int) == 200) = true := by simp; omega
                clear hwhy c1
                go_wp2_with fail
                refine (live_any _ (hg.below hb10)).mono ?_
                rintro e' wl ⟨rfl, bl⟩
                go_wp2_with fail
                go_ret
                exact ⟨rfl, (hb10).trans (bl.mono (by have h9 := (hb10).size; omega))⟩
              · have x1 : ((ea.length : Int) == 200) = false := by simp; omega
                by_cases c2 : 1099511627774 ≤ d.gen
                · have x2 : (d.gen ≥ 1099511627774) = True := eq_true c2
                  have x3 : (1099511627774 ≤ d.gen) = True := eq_true c2
                  clear hwhy c1 c2
                  go_wp2_with fail
                  refine (live_any _ (hg.below hb10)).mono ?_
                  rintro e' wl ⟨rfl, bl⟩
                  go_wp2_with fail
                  go_ret
                  exact ⟨rfl, (hb10).trans (bl.mono (by have h9 := (hb10).size; omega))⟩
                · have x2 : (d.gen ≥ 1099511627774) = False := eq_false c2
                  have x3 : (1099511627774 ≤ d.gen) = False := eq_false c2
                  have x4 : idn ∈ ea := by
                    rcases hwhy with h | h | h
                    · exact absurd h c1
                    · exact absurd h c2
                    · exact h
                  rw [show decide (idn ∈ ea) = true by simpa using x4] at k2
                  clear hwhy c1 c2 x4
                  go_wp2_with fail
                  refine k2.mono ?_
                  rintro e' w' ⟨rfl, rfl⟩
                  go_wp2_with fail
                  refine (live_any _ (hg.below hb10)).mono ?_
                  rintro e' wl ⟨rfl, bl⟩
                  go_wp2_with fail
                  go_ret
                  exact ⟨rfl, (hb10).trans (bl.mono (by have h9 := (hb10).size; omega))⟩
          · simp only [g0] at cg
            simp only [g1] at cgl
            simp only [g2] at cgq
            unfold gotV at cg cgl cgq
            simp only at cg cgl cgq
            have hv := hvl v g1
            clear hvl hvr g0 g1 g2
            go_wp2_with (rw [hW5])
            refine (num_any _ _).mono ?_
            rintro e' w' ⟨rfl, rfl⟩
            obtain ⟨p_0, ⟨p_1, p_2, p_3, p_4, p_5, p_6, p_7, p_8, p_9, p_10, p_11⟩, p_12⟩ := _root_.id B5
            go_wp2_with fail
            ((try clear p_0); (try clear p_1); (try clear p_2); (try clear p_3); (try clear p_4); (try clear p_5); (try clear p_6); (try clear p_7); (try clear p_8); (try clear p_9); (try clear p_10); (try clear p_11); (try clear p_12))
            refine (cg W5 (Below.refl _ _)).mono ?_
            rintro e' w6 ⟨rfl, b6⟩
            have BL6 := BL5.keep b6
            obtain ⟨p_0, ⟨p_1, p_2, p_3, p_4, p_5, p_6, p_7, p_8, p_9, p_10, p_11⟩, p_12⟩ := _root_.id BL6
            clear hW5 cg
            go_wp2_with fail
            ((try clear p_0); (try clear p_1); (try clear p_2); (try clear p_3); (try clear p_4); (try clear p_5); (try clear p_6); (try clear p_7); (try clear p_8); (try clear p_9); (try clear p_10); (try clear p_11); (try clear p_12))
            refine (cgl w6 b6).mono ?_
            rintro e' w7 ⟨rfl, b7⟩
            have b57 : Below W5.heap.size W5 w7 := b6.trans (b7.mono b6.size)
            have BQ7 := BQ5.keep b57
            obtain ⟨p_0, ⟨p_1, p_2, p_3, p_4, p_5, p_6, p_7, p_8, p_9, p_10, p_11⟩, p_12⟩ := _root_.id BQ7
            clear cgl b6 b7 BL6
            go_wp2_with fail
            ((try clear p_0); (try clear p_1); (try clear p_2); (try clear p_3); (try clear p_4); (try clear p_5); (try clear p_6); (try clear p_7); (try clear p_8); (try clear p_9); (try clear p_10); (try clear p_11); (try clear p_12))
            refine (cgq w7 b57).mono ?_
            rintro e' wq ⟨rfl, b8⟩
            have b5q : Below W5.heap.size W5 wq := b57.trans (b8.mono b57.size)
            have hzq := b5q.size
            clear cgq b57 b8 BQ7
            have BLq := fun wx (hb : Below wq.heap.size wq wx) => BL5.keep (b5q.trans (hb.mono b5q.size))
            have BRq := fun wx (hb : Below wq.heap.size wq wx) => BQ5.keep (b5q.trans (hb.mono b5q.size))
            have up : ∀ {wx w' : World}, Below wq.heap.size wq wx → Below wx.heap.size wx w' → Below wq.heap.size wq w' := fun hx b => hx.trans (b.mono hx.size)
            have kl : ∀ wx, Below wq.heap.size wq wx → Calls Tryz.prog 14 #[qv ⟨ld, .slice lA ld.ms.length la, lps, .slice lB lps.length lb, lzs, .slice lC lzs.length lc, lfr, lea, .slice lD lea.length le, lal⟩] wx fun e w' => e = .returned (.int .i64 0) ∧ Below wq.heap.size wq w' := fun wx hx => (kl0 wx (b5q.trans (hx.mono b5q.size))).mono fun e w' h => ⟨h.1, up hx h.2⟩
            have kr : ∀ wx, Below wq.heap.size wq wx → Calls Tryz.prog 14 #[qv ⟨qd, .slice qA qd.ms.length qa, qps, .slice qB qps.length qb, qzs, .slice qC qzs.length qc, qfr, qea, .slice qD qea.length qe, qal⟩] wx fun e w' => e = .returned (.int .i64 0) ∧ Below wq.heap.size wq w' := fun wx hx => (kr0 wx (b5q.trans (hx.mono b5q.size))).mono fun e w' h => ⟨h.1, up hx h.2⟩
            have kn : ∀ wx, Below wq.heap.size wq wx → Calls Tryz.prog 13 #[.int .i64 0] wx fun e w' => e = .returned (.int .i64 0) ∧ Below wq.heap.size wq w' := fun wx hx => (num_any 0 wx).mono fun e w' h => ⟨h.1, h.2 ▸ hx⟩
            have khl : ∀ wx, Below wq.heap.size wq wx → Calls Tryz.prog 31 #[.agg #[.string ld.f, .string ld.t], .string probe] wx fun e w' => e = .returned (.bool true) ∧ Below wq.heap.size wq w' := fun wx hx => (Bnd.rhas_any ld.f ld.t probe wx).mono fun e w' h => ⟨h.1.trans (by rw [show hasB (Bnd.B ld.f ld.t) probe.toList = true from hv]), up hx h.2⟩
            clear hv
            clear kl0 kr0
            go_wp2_with fail
            refine St.wp_region_mixed (fun _ _ wx => Below wq.heap.size wq wx) (fun i z => match i with | 1 => z = .int .i64 0 | 2 => z = .int .i64 0 | 4 => z = .int .i64 0 | 5 => z = .int .i64 0 | _ => z = .bool true) (by kernel_rfl) (by kernel_rfl) (by kernel_rfl) (Below.refl _ _).drew ?_
            iterate 1
              (apply St.mix_give
               · rfl
               · intro L u' wx hS hcl hrd hag
                 obtain ⟨_, ⟨j0, j1, j2, j3, j4, j5, j6, j7, j8, j9, j10⟩, _⟩ := BLq wx hS
                 clear hcl hrd hag
                 go_simp
                 try with_reducible rfl
               · exact fun L u' wx hS => hS
               simp only [Act.put, List.setIfInBounds_toArray, List.set_cons_zero, List.set_cons_succ])
            apply St.mix_into
            · rfl
            · rfl
            · intro wx
              go_simp
              exact ⟨rfl, rfl⟩
            · exact fun L u' wx hS _ _ _ => kl wx hS
            simp only [Act.put, List.setIfInBounds_toArray, List.set_cons_zero, List.set_cons_succ]
            apply St.mix_into
            · rfl
            · rfl
            · intro wx
              go_simp
              exact ⟨rfl, rfl⟩
            · exact fun L u' wx hS _ _ _ => kn wx hS
            simp only [Act.put, List.setIfInBounds_toArray, List.set_cons_zero, List.set_cons_succ]
            iterate 1
              (apply St.mix_give
               · rfl
               · intro L u' wx hS hcl hrd hag
                 obtain ⟨_, ⟨m0, m1, m2, m3, m4, m5, m6, m7, m8, m9, m10⟩, _⟩ := BRq wx hS
                 clear hcl hrd hag
                 go_simp
                 try with_reducible rfl
               · exact fun L u' wx hS => hS
               simp only [Act.put, List.setIfInBounds_toArray, List.set_cons_zero, List.set_cons_succ])
            apply St.mix_into
            · rfl
            · rfl
            · intro wx
              go_simp
              exact ⟨rfl, rfl⟩
            · exact fun L u' wx hS _ _ _ => kr wx hS
            simp only [Act.put, List.setIfInBounds_toArray, List.set_cons_zero, List.set_cons_succ]
            apply St.mix_into
            · rfl
            · rfl
            · intro wx
              go_simp
              exact ⟨rfl, rfl⟩
            · exact fun L u' wx hS _ _ _ => kn wx hS
            simp only [Act.put, List.setIfInBounds_toArray, List.set_cons_zero, List.set_cons_succ]
            iterate 5
              (apply St.mix_give
               · rfl
               · intro L u' wx hS hcl hrd hag
                 clear hcl hrd hag
                 go_simp
                 try with_reducible rfl
               · exact fun L u' wx hS => hS
               simp only [Act.put, List.setIfInBounds_toArray, List.set_cons_zero, List.set_cons_succ])
            iterate 1
              (apply St.mix_give
               · rfl
               · intro L u' wx hS hcl hrd hag
                 clear hcl hrd hag
                 go_simp
                 try with_reducible rfl
               · exact fun L u' wx hS => hS
               simp only [Act.put, List.setIfInBounds_toArray, List.set_cons_zero, List.set_cons_succ])
            iterate 6
              (apply St.mix_give
               · rfl
               · intro L u' wx hS hcl hrd hag
                 clear hcl hrd hag
                 go_simp
                 try with_reducible rfl
               · exact fun L u' wx hS => hS
               simp only [Act.put, List.setIfInBounds_toArray, List.set_cons_zero, List.set_cons_succ])
            iterate 1
              (apply St.mix_past
               · rfl
               · exact fun L u' wx hS => hS
               simp only [Act.put, List.setIfInBounds_toArray, List.set_cons_zero, List.set_cons_succ])
            iterate 6
              (apply St.mix_give
               · rfl
               · intro L u' wx hS hcl hrd hag
                 clear hcl hrd hag
                 go_simp
                 try with_reducible rfl
               · exact fun L u' wx hS => hS
               simp only [Act.put, List.setIfInBounds_toArray, List.set_cons_zero, List.set_cons_succ])
            iterate 3
              (apply St.mix_give
               · rfl
               · intro L u' wx hS hcl hrd hag
                 clear hcl hrd hag
                 go_simp
                 try with_reducible rfl
               · exact fun L u' wx hS => hS
               simp only [Act.put, List.setIfInBounds_toArray, List.set_cons_zero, List.set_cons_succ])
            iterate 5
              (apply St.mix_give
               · rfl
               · intro L u' wx hS hcl hrd hag
                 clear hcl hrd hag
                 go_simp
                 try with_reducible rfl
               · exact fun L u' wx hS => hS
               simp only [Act.put, List.setIfInBounds_toArray, List.set_cons_zero, List.set_cons_succ])
            iterate 3
              (apply St.mix_past
               · rfl
               · exact fun L u' wx hS => hS
               simp only [Act.put, List.setIfInBounds_toArray, List.set_cons_zero, List.set_cons_succ])
            iterate 5
              (apply St.mix_give
               · rfl
               · intro L u' wx hS hcl hrd hag
                 clear hcl hrd hag
                 go_simp
                 try with_reducible rfl
               · exact fun L u' wx hS => hS
               simp only [Act.put, List.setIfInBounds_toArray, List.set_cons_zero, List.set_cons_succ])
            iterate 1
              (apply St.mix_give
               · rfl
               · intro L u' wx hS hcl hrd hag
                 clear hcl hrd hag
                 go_simp
                 try with_reducible rfl
               · exact fun L u' wx hS => hS
               simp only [Act.put, List.setIfInBounds_toArray, List.set_cons_zero, List.set_cons_succ])
            iterate 1
              (apply St.mix_give
               · rfl
               · intro L u' wx hS hcl hrd hag
                 clear hcl hrd hag
                 go_simp
                 try with_reducible rfl
               · exact fun L u' wx hS => hS
               simp only [Act.put, List.setIfInBounds_toArray, List.set_cons_zero, List.set_cons_succ])
            iterate 1
              (apply St.mix_give
               · rfl
               · intro L u' wx hS hcl hrd hag
                 obtain ⟨_, ⟨j0, j1, j2, j3, j4, j5, j6, j7, j8, j9, j10⟩, _⟩ := BLq wx hS
                 clear hcl hrd hag
                 go_simp
                 try with_reducible rfl
               · exact fun L u' wx hS => hS
               simp only [Act.put, List.setIfInBounds_toArray, List.set_cons_zero, List.set_cons_succ])
            iterate 1
              (apply St.mix_give
               · rfl
               · intro L u' wx hS hcl hrd hag
                 clear hcl hrd hag
                 go_simp
                 try with_reducible rfl
               · exact fun L u' wx hS => hS
               simp only [Act.put, List.setIfInBounds_toArray, List.set_cons_zero, List.set_cons_succ])
            apply St.mix_into
            · rfl
            · rfl
            · intro wx
              go_simp
              exact ⟨rfl, rfl⟩
            · exact fun L u' wx hS _ _ _ => khl wx hS
            simp only [Act.put, List.setIfInBounds_toArray, List.set_cons_zero, List.set_cons_succ]
            iterate 1
              (apply St.mix_give
               · rfl
               · intro L u' wx hS hcl hrd hag
                 clear hcl hrd hag
                 go_simp
                 try with_reducible rfl
               · exact fun L u' wx hS => hS
               simp only [Act.put, List.setIfInBounds_toArray, List.set_cons_zero, List.set_cons_succ])
            iterate 5
              (apply St.mix_give
               · rfl
               · intro L u' wx hS hcl hrd hag
                 clear hcl hrd hag
                 go_simp
                 try with_reducible rfl
               · exact fun L u' wx hS => hS
               simp only [Act.put, List.setIfInBounds_toArray, List.set_cons_zero, List.set_cons_succ])
            iterate 6
              (apply St.mix_past
               · rfl
               · exact fun L u' wx hS => hS
               simp only [Act.put, List.setIfInBounds_toArray, List.set_cons_zero, List.set_cons_succ])
            iterate 2
              (apply St.mix_give
               · rfl
               · intro L u' wx hS hcl hrd hag
                 clear hcl hrd hag
                 go_simp
                 try with_reducible rfl
               · exact fun L u' wx hS => hS
               simp only [Act.put, List.setIfInBounds_toArray, List.set_cons_zero, List.set_cons_succ])
            refine St.mix_last ?_
            intro L9 wz hbz _
            have hbq : Below w.heap.size w wq := hb5.trans (b5q.mono (by omega))
            have hbwz : Below w.heap.size w wz := hbq.trans (hbz.mono (by omega))
            have hzz := hbz.size
            have BLz := BLq wz hbz
            have BQz := BRq wz hbz
            have Bz := B5.keep (b5q.trans (hbz.mono b5q.size))
            have b4z : Below w4.heap.size w4 wz := b5.trans ((b5q.trans (hbz.mono b5q.size)).mono (by omega))
            obtain ⟨W8, hW8⟩ : ∃ W8, wz.setCell ⟨w4.heap.size + 1, 8, none⟩ (.bool true) = W8 := ⟨_, rfl⟩
            have BL8 : BoxP w4.heap.size ⟨ld, .slice lA ld.ms.length la, lps, .slice lB lps.length lb, lzs, .slice lC lzs.length lc, lfr, lea, .slice lD lea.length le, lal⟩ W8 := hW8 ▸ BLz.other (by simp) _
            have BQ8 : BoxP (w4.heap.size + 1) ⟨qd, .slice qA qd.ms.length qa, qps, .slice qB qps.length qb, qzs, .slice qC qzs.length qc, true, qea, .slice qD qea.length qe, qal⟩ W8 := hW8 ▸ BQz.set8 true
            have B8 : BoxP w.heap.size ⟨d, .slice fA d.ms.length fa, ps, .slice fB ps.length fb, zs, .slice fC zs.length fc, fr, ea, .slice fD ea.length fd, al⟩ W8 := hW8 ▸ Bz.other (by simp; omega) _
            have b48 : Below w4.heap.size w4 W8 := hW8 ▸ b4z.setCell (by simp) _
            have hz8 := b48.size
            have hb8 : Below w.heap.size w W8 := hb4.trans (b48.mono (by omega))
            have q0 := hr'.keep b48
            have cj := join_any ⟨ld, .slice lA ld.ms.length la, lps, .slice lB lps.length lb, lzs, .slice lC lzs.length lc, lfr, lea, .slice lD lea.length le, lal⟩ ⟨qd, .slice qA qd.ms.length qa, qps, .slice qB qps.length qb, qzs, .slice qC qzs.length qc, true, qea, .slice qD qea.length qe, qal⟩ W8 (hl.keep b48) ⟨q0.sm, q0.sp, q0.sz, q0.np, q0.se, q0.rp, q0.re⟩ isL isT nl nq
            have h8 := h4.keep b48
            clear BLq BRq up kl kr kn hbz b5q b4z BLz q0 B5 BL5 BQ5
            obtain ⟨o_0, ⟨o_1, o_2, o_3, o_4, o_5, o_6, o_7, o_8, o_9, o_10, o_11⟩, o_12⟩ := _root_.id BQz
            obtain ⟨p_0, ⟨p_1, p_2, p_3, p_4, p_5, p_6, p_7, p_8, p_9, p_10, p_11⟩, p_12⟩ := _root_.id BL8
            obtain ⟨q_0, ⟨q_1, q_2, q_3, q_4, q_5, q_6, q_7, q_8, q_9, q_10, q_11⟩, q_12⟩ := _root_.id BQ8
            go_wp2_with (rw [hW8])
            ((try clear o_0); (try clear o_1); (try clear o_2); (try clear o_3); (try clear o_4); (try clear o_5); (try clear o_6); (try clear o_7); (try clear o_8); (try clear o_9); (try clear o_10); (try clear o_11); (try clear o_12))
            ((try clear p_0); (try clear p_1); (try clear p_2); (try clear p_3); (try clear p_4); (try clear p_5); (try clear p_6); (try clear p_7); (try clear p_8); (try clear p_9); (try clear p_10); (try clear p_11); (try clear p_12))
            ((try clear q_0); (try clear q_1); (try clear q_2); (try clear q_3); (try clear q_4); (try clear q_5); (try clear q_6); (try clear q_7); (try clear q_8); (try clear q_9); (try clear q_10); (try clear q_11); (try clear q_12))
            refine cj.mono ?_
            rintro e' w9 ⟨oj, rfl, pj, hj, b9⟩
            have hz9 := b9.size
            have hb9 : Below w.heap.size w w9 := hb8.trans (b9.mono (by omega))
            have B9 := B8.keep b9
            have h9 := h8.keep b9
            clear cj hW8 BL8 BQ8 BQz b48 h8 B8
            rcases HCB.out with ⟨hjn, hij⟩ | ⟨er, her, hjn, hwhy⟩
            · rw [hjn] at pj ⊢
              simp only at pj ⊢
              clear HCB hjn
              obtain ⟨jA, ja, jB, jb, jC, jc, jD, je, j1, j2, j3, j4⟩ := hj.hp.form
              obtain ⟨jd, jsm, jps, jsp, jzs, jsz, jfr, jea, jse, jal⟩ := oj
              simp only at j1 j2 j3 j4
              subst j1 j2 j3 j4
              obtain rfl : jd = { d with gen := d.gen + 1 + 1 } := congrArg Pl.d pj
              obtain ⟨W10, hW10⟩ : ∃ W10, w9.alloc (.cells #[.int .i64 d.id, .string d.f, .string d.t, .int .i64 (d.gen + 1 + 1), .slice jA d.ms.length ja, .int .i64 d.next, .slice jB jps.length jb, .slice jC jzs.length jc, .bool jfr, .slice jD jea.length je, .int .i64 jal] 31) = W10 := ⟨_, rfl⟩
              have BJ : BoxP w9.heap.size ⟨{ d with gen := d.gen + 1 + 1 }, .slice jA d.ms.length ja, jps, .slice jB jps.length jb, jzs, .slice jC jzs.length jc, jfr, jea, .slice jD jea.length je, jal⟩ W10 := by rw [← hW10]; exact BoxP.new w9 ⟨{ d with gen := d.gen + 1 + 1 }, .slice jA d.ms.length ja, jps, .slice jB jps.length jb, jzs, .slice jC jzs.length jc, jfr, jea, .slice jD jea.length je, jal⟩
              have b10 : Below w9.heap.size w9 W10 := hW10 ▸ (Below.refl _ w9).alloc (Nat.le_refl _) _
              have hz10 := b10.size
              have hb10 : Below w.heap.size w W10 := hb9.trans (b10.mono (by omega))
              have B10 := B9.keep b10
              have h10 := h9.keep b10
              have hj10 := hj.keep b10
              have isJ : isP (Ph.pl ⟨{ d with gen := d.gen + 1 + 1 }, .slice jA d.ms.length ja, jps, .slice jB jps.length jb, jzs, .slice jC jzs.length jc, jfr, jea, .slice jD jea.length je, jal⟩) = true := by rw [pj]; exact hij
              have jx2 : jps = ps := congrArg Pl.ps pj
              have jx3 : ses jzs = ses zs := congrArg Pl.ss pj
              have jx5 : jea = eatE idn ea := congrArg Pl.ea pj
              have jx6 : jal = al := congrArg Pl.al pj
              have jx7 : jzs.length = zs.length := by have := congrArg List.length jx3; simpa using this
              have njl : jps.length ≤ 100000 := by rw [jx2]; exact hl1
              have k1 := Od.pairs_any (.slice jB jps.length jb) (.slice fB ps.length fb) jps ps W10 hj10.sp.sm h10.sp.sm (by omega) (by omega)
              rw [show decide (jps = ps) = true by simpa using jx2] at k1
              have k2 := fun wx (hb : Below W10.heap.size W10 wx) => rhas_any (.slice jD jea.length je) jea idn wx (hj10.keep hb).se.si (by have : jea.length ≤ 200 := isP_ea isJ; omega)
              simp only [show decide (idn ∈ jea) = true by rw [jx5]; simpa using mem_eat.2 (Or.inl rfl)] at k2
              have k3 := fun wx (hb : Below W10.heap.size W10 wx) => check_any ⟨{ d with gen := d.gen + 1 + 1 }, .slice jA d.ms.length ja, jps, .slice jB jps.length jb, jzs, .slice jC jzs.length jc, jfr, jea, .slice jD jea.length je, jal⟩ wx (hj10.keep hb).hp (isP_fit isJ njl)
              simp only [show chkP (Ph.pl ⟨{ d with gen := d.gen + 1 + 1 }, .slice jA d.ms.length ja, jps, .slice jB jps.length jb, jzs, .slice jC jzs.length jc, jfr, jea, .slice jD jea.length je, jal⟩) = 0 from if_pos isJ] at k3
              have e1 : ((jzs.length : Int) == (zs.length : Int)) = true := by rw [jx7]; simp
              have e2 : (jal == al) = true := by rw [jx6]; simp
              have HW10 := Lib.hid hW10
              clear jx2 jx3 jx5 jx6 jx7 pj hij hW10
              go_wp2_with fail
              rw [HW10.out]
              refine (num_any _ _).mono ?_
              rintro e' w' ⟨rfl, rfl⟩
              obtain ⟨p_0, ⟨p_1, p_2, p_3, p_4, p_5, p_6, p_7, p_8, p_9, p_10, p_11⟩, p_12⟩ := _root_.id BJ
              obtain ⟨q_0, ⟨q_1, q_2, q_3, q_4, q_5, q_6, q_7, q_8, q_9, q_10, q_11⟩, q_12⟩ := _root_.id B10
              go_wp2_with fail
              ((try clear p_0); (try clear p_1); (try clear p_2); (try clear p_3); (try clear p_4); (try clear p_5); (try clear p_6); (try clear p_7); (try clear p_8); (try clear p_9); (try clear p_10); (try clear p_11); (try clear p_12))
              ((try clear q_0); (try clear q_1); (try clear q_2); (try clear q_3); (try clear q_4); (try clear q_5); (try clear q_6); (try clear q_7); (try clear q_8); (try clear q_9); (try clear q_10); (try clear q_11); (try clear q_12))
              refine k1.mono ?_
              rintro e' w11 ⟨rfl, b11⟩
              have BJ11 := BJ.keep b11
              have B11 := B10.keep b11
              obtain ⟨p_0, ⟨p_1, p_2, p_3, p_4, p_5, p_6, p_7, p_8, p_9, p_10, p_11⟩, p_12⟩ := _root_.id BJ11
              obtain ⟨q_0, ⟨q_1, q_2, q_3, q_4, q_5, q_6, q_7, q_8, q_9, q_10, q_11⟩, q_12⟩ := _root_.id B11
              clear k1
              go_wp2_with fail
              refine (k2 w11 b11).mono ?_
              rintro e' w' ⟨rfl, rfl⟩
              go_wp2_with fail
              ((try clear p_0); (try clear p_1); (try clear p_2); (try clear p_3); (try clear p_4); (try clear p_5); (try clear p_6); (try clear p_7); (try clear p_8); (try clear p_9); (try clear p_10); (try clear p_11); (try clear p_12))
              ((try clear q_0); (try clear q_1); (try clear q_2); (try clear q_3); (try clear q_4); (try clear q_5); (try clear q_6); (try clear q_7); (try clear q_8); (try clear q_9); (try clear q_10); (try clear q_11); (try clear q_12))
              refine (k3 w11 b11).mono ?_
              rintro e' w12 ⟨rfl, b12⟩
              have hb12 : Below w.heap.size w w12 := hb10.trans ((b11.trans (b12.mono b11.size)).mono (by omega))
              clear k2 k3 BJ BJ11 B11 B10
              go_wp2_with fail
              refine (num_any _ _).mono ?_
              rintro e' w' ⟨rfl, rfl⟩
              go_wp2_with fail
              refine (live_any _ (hg.below hb12)).mono ?_
              rintro e' wl ⟨rfl, bl⟩
              go_wp2_with fail
              go_ret
              exact ⟨rfl, (hb12).trans (bl.mono (by have h9 := (hb12).size; omega))⟩
            · rw [hjn] at pj ⊢
              simp only at pj ⊢
              clear HCB hjn
              obtain ⟨jA, ja, jB, jb, jC, jc, jD, je, ej0⟩ := flat hj pj rfl
              have ej : oj = ⟨De.zero, .slice jA 0 ja, [], .slice jB 0 jb, [], .slice jC 0 jc, false, [], .slice jD 0 je, 0⟩ := ej0
              clear ej0
              subst ej
              have e1 : (er == 0) = false := by simpa using her
              have e2 : (er != 0) = true := by simpa using her
              have e3 : (er = 0) = False := eq_false her
              obtain ⟨W10, hW10⟩ : ∃ W10, w9.alloc (.cells #[.int .i64 De.zero.id, .string De.zero.f, .string De.zero.t, .int .i64 De.zero.gen, .slice jA 0 ja, .int .i64 De.zero.next, .slice jB 0 jb, .slice jC 0 jc, .bool false, .slice jD 0 je, .int .i64 0] 31) = W10 := ⟨_, rfl⟩
              have b10 : Below w9.heap.size w9 W10 := hW10 ▸ (Below.refl _ w9).alloc (Nat.le_refl _) _
              have hz10 := b10.size
              have hb10 : Below w.heap.size w W10 := hb9.trans (b10.mono (by omega))
              have B10 := B9.keep b10
              have h10 := h9.keep b10
              have HW10 := Lib.hid hW10
              have k2 := rhas_any (.slice fD ea.length fd) ea idn W10 h10.se.si (by omega)
              clear her hW10 hj pj
              go_wp2_with fail
              rw [HW10.out]
              refine (num_any _ _).mono ?_
              rintro e' w' ⟨rfl, rfl⟩
              obtain ⟨p_0, ⟨p_1, p_2, p_3, p_4, p_5, p_6, p_7, p_8, p_9, p_10, p_11⟩, p_12⟩ := _root_.id B10
              by_cases c1 : ea.length = 200
              · have x1 : ((ea.length : Int) == 200) = true := by simp; omega
                clear hwhy c1
                go_wp2_with fail
                refine (live_any _ (hg.below hb10)).mono ?_
                rintro e' wl ⟨rfl, bl⟩
                go_wp2_with fail
                go_ret
                exact ⟨rfl, (hb10).trans (bl.mono (by have h9 := (hb10).size; omega))⟩
              · have x1 : ((ea.length : Int) == 200) = false := by simp; omega
                by_cases c2 : 1099511627774 ≤ d.gen
                · have x2 : (d.gen ≥ 1099511627774) = True := eq_true c2
                  have x3 : (1099511627774 ≤ d.gen) = True := eq_true c2
                  clear hwhy c1 c2
                  go_wp2_with fail
                  refine (live_any _ (hg.below hb10)).mono ?_
                  rintro e' wl ⟨rfl, bl⟩
                  go_wp2_with fail
                  go_ret
                  exact ⟨rfl, (hb10).trans (bl.mono (by have h9 := (hb10).size; omega))⟩
                · have x2 : (d.gen ≥ 1099511627774) = False := eq_false c2
                  have x3 : (1099511627774 ≤ d.gen) = False := eq_false c2
                  have x4 : idn ∈ ea := by
                    rcases hwhy with h | h | h
                    · exact absurd h c1
                    · exact absurd h c2
                    · exact h
                  rw [show decide (idn ∈ ea) = true by simpa using x4] at k2
                  clear hwhy c1 c2 x4
                  go_wp2_with fail
                  refine k2.mono ?_
                  rintro e' w' ⟨rfl, rfl⟩
                  go_wp2_with fail
                  refine (live_any _ (hg.below hb10)).mono ?_
                  rintro e' wl ⟨rfl, bl⟩
                  go_wp2_with fail
                  go_ret
                  exact ⟨rfl, (hb10).trans (bl.mono (by have h9 := (hb10).size; omega))⟩
          · simp only [g0] at cg
            simp only [g1] at cgl
            simp only [g2] at cgq
            unfold gotV at cg cgl cgq
            simp only at cg cgl cgq
            have hv := hvr v g2
            clear hvl hvr g0 g1 g2
            go_wp2_with (rw [hW5])
            refine (num_any _ _).mono ?_
            rintro e' w' ⟨rfl, rfl⟩
            obtain ⟨p_0, ⟨p_1, p_2, p_3, p_4, p_5, p_6, p_7, p_8, p_9, p_10, p_11⟩, p_12⟩ := _root_.id B5
            go_wp2_with fail
            ((try clear p_0); (try clear p_1); (try clear p_2); (try clear p_3); (try clear p_4); (try clear p_5); (try clear p_6); (try clear p_7); (try clear p_8); (try clear p_9); (try clear p_10); (try clear p_11); (try clear p_12))
            refine (cg W5 (Below.refl _ _)).mono ?_
            rintro e' w6 ⟨rfl, b6⟩
            have BL6 := BL5.keep b6
            obtain ⟨p_0, ⟨p_1, p_2, p_3, p_4, p_5, p_6, p_7, p_8, p_9, p_10, p_11⟩, p_12⟩ := _root_.id BL6
            clear hW5 cg
            go_wp2_with fail
            ((try clear p_0); (try clear p_1); (try clear p_2); (try clear p_3); (try clear p_4); (try clear p_5); (try clear p_6); (try clear p_7); (try clear p_8); (try clear p_9); (try clear p_10); (try clear p_11); (try clear p_12))
            refine (cgl w6 b6).mono ?_
            rintro e' w7 ⟨rfl, b7⟩
            have b57 : Below W5.heap.size W5 w7 := b6.trans (b7.mono b6.size)
            have BQ7 := BQ5.keep b57
            obtain ⟨p_0, ⟨p_1, p_2, p_3, p_4, p_5, p_6, p_7, p_8, p_9, p_10, p_11⟩, p_12⟩ := _root_.id BQ7
            clear cgl b6 b7 BL6
            go_wp2_with fail
            ((try clear p_0); (try clear p_1); (try clear p_2); (try clear p_3); (try clear p_4); (try clear p_5); (try clear p_6); (try clear p_7); (try clear p_8); (try clear p_9); (try clear p_10); (try clear p_11); (try clear p_12))
            refine (cgq w7 b57).mono ?_
            rintro e' wq ⟨rfl, b8⟩
            have b5q : Below W5.heap.size W5 wq := b57.trans (b8.mono b57.size)
            have hzq := b5q.size
            clear cgq b57 b8 BQ7
            have BLq := fun wx (hb : Below wq.heap.size wq wx) => BL5.keep (b5q.trans (hb.mono b5q.size))
            have BRq := fun wx (hb : Below wq.heap.size wq wx) => BQ5.keep (b5q.trans (hb.mono b5q.size))
            have up : ∀ {wx w' : World}, Below wq.heap.size wq wx → Below wx.heap.size wx w' → Below wq.heap.size wq w' := fun hx b => hx.trans (b.mono hx.size)
            have kl : ∀ wx, Below wq.heap.size wq wx → Calls Tryz.prog 14 #[qv ⟨ld, .slice lA ld.ms.length la, lps, .slice lB lps.length lb, lzs, .slice lC lzs.length lc, lfr, lea, .slice lD lea.length le, lal⟩] wx fun e w' => e = .returned (.int .i64 0) ∧ Below wq.heap.size wq w' := fun wx hx => (kl0 wx (b5q.trans (hx.mono b5q.size))).mono fun e w' h => ⟨h.1, up hx h.2⟩
            have kr : ∀ wx, Below wq.heap.size wq wx → Calls Tryz.prog 14 #[qv ⟨qd, .slice qA qd.ms.length qa, qps, .slice qB qps.length qb, qzs, .slice qC qzs.length qc, qfr, qea, .slice qD qea.length qe, qal⟩] wx fun e w' => e = .returned (.int .i64 0) ∧ Below wq.heap.size wq w' := fun wx hx => (kr0 wx (b5q.trans (hx.mono b5q.size))).mono fun e w' h => ⟨h.1, up hx h.2⟩
            have kn : ∀ wx, Below wq.heap.size wq wx → Calls Tryz.prog 13 #[.int .i64 0] wx fun e w' => e = .returned (.int .i64 0) ∧ Below wq.heap.size wq w' := fun wx hx => (num_any 0 wx).mono fun e w' h => ⟨h.1, h.2 ▸ hx⟩
            have khr : ∀ wx, Below wq.heap.size wq wx → Calls Tryz.prog 31 #[.agg #[.string qd.f, .string qd.t], .string probe] wx fun e w' => e = .returned (.bool true) ∧ Below wq.heap.size wq w' := fun wx hx => (Bnd.rhas_any qd.f qd.t probe wx).mono fun e w' h => ⟨h.1.trans (by rw [show hasB (Bnd.B qd.f qd.t) probe.toList = true from hv]), up hx h.2⟩
            clear hv
            clear kl0 kr0
            go_wp2_with fail
            refine St.wp_region_mixed (fun _ _ wx => Below wq.heap.size wq wx) (fun i z => match i with | 1 => z = .int .i64 0 | 2 => z = .int .i64 0 | 4 => z = .int .i64 0 | 5 => z = .int .i64 0 | _ => z = .bool true) (by kernel_rfl) (by kernel_rfl) (by kernel_rfl) (Below.refl _ _).drew ?_
            iterate 1
              (apply St.mix_give
               · rfl
               · intro L u' wx hS hcl hrd hag
                 obtain ⟨_, ⟨j0, j1, j2, j3, j4, j5, j6, j7, j8, j9, j10⟩, _⟩ := BLq wx hS
                 clear hcl hrd hag
                 go_simp
                 try with_reducible rfl
               · exact fun L u' wx hS => hS
               simp only [Act.put, List.setIfInBounds_toArray, List.set_cons_zero, List.set_cons_succ])
            apply St.mix_into
            · rfl
            · rfl
            · intro wx
              go_simp
              exact ⟨rfl, rfl⟩
            · exact fun L u' wx hS _ _ _ => kl wx hS
            simp only [Act.put, List.setIfInBounds_toArray, List.set_cons_zero, List.set_cons_succ]
            apply St.mix_into
            · rfl
            · rfl
            · intro wx
              go_simp
              exact ⟨rfl, rfl⟩
            · exact fun L u' wx hS _ _ _ => kn wx hS
            simp only [Act.put, List.setIfInBounds_toArray, List.set_cons_zero, List.set_cons_succ]
            iterate 1
              (apply St.mix_give
               · rfl
               · intro L u' wx hS hcl hrd hag
                 obtain ⟨_, ⟨m0, m1, m2, m3, m4, m5, m6, m7, m8, m9, m10⟩, _⟩ := BRq wx hS
                 clear hcl hrd hag
                 go_simp
                 try with_reducible rfl
               · exact fun L u' wx hS => hS
               simp only [Act.put, List.setIfInBounds_toArray, List.set_cons_zero, List.set_cons_succ])
            apply St.mix_into
            · rfl
            · rfl
            · intro wx
              go_simp
              exact ⟨rfl, rfl⟩
            · exact fun L u' wx hS _ _ _ => kr wx hS
            simp only [Act.put, List.setIfInBounds_toArray, List.set_cons_zero, List.set_cons_succ]
            apply St.mix_into
            · rfl
            · rfl
            · intro wx
              go_simp
              exact ⟨rfl, rfl⟩
            · exact fun L u' wx hS _ _ _ => kn wx hS
            simp only [Act.put, List.setIfInBounds_toArray, List.set_cons_zero, List.set_cons_succ]
            iterate 5
              (apply St.mix_give
               · rfl
               · intro L u' wx hS hcl hrd hag
                 clear hcl hrd hag
                 go_simp
                 try with_reducible rfl
               · exact fun L u' wx hS => hS
               simp only [Act.put, List.setIfInBounds_toArray, List.set_cons_zero, List.set_cons_succ])
            iterate 1
              (apply St.mix_past
               · rfl
               · exact fun L u' wx hS => hS
               simp only [Act.put, List.setIfInBounds_toArray, List.set_cons_zero, List.set_cons_succ])
            iterate 6
              (apply St.mix_give
               · rfl
               · intro L u' wx hS hcl hrd hag
                 clear hcl hrd hag
                 go_simp
                 try with_reducible rfl
               · exact fun L u' wx hS => hS
               simp only [Act.put, List.setIfInBounds_toArray, List.set_cons_zero, List.set_cons_succ])
            iterate 1
              (apply St.mix_give
               · rfl
               · intro L u' wx hS hcl hrd hag
                 clear hcl hrd hag
                 go_simp
                 try with_reducible rfl
               · exact fun L u' wx hS => hS
               simp only [Act.put, List.setIfInBounds_toArray, List.set_cons_zero, List.set_cons_succ])
            iterate 6
              (apply St.mix_give
               · rfl
               · intro L u' wx hS hcl hrd hag
                 clear hcl hrd hag
                 go_simp
                 try with_reducible rfl
               · exact fun L u' wx hS => hS
               simp only [Act.put, List.setIfInBounds_toArray, List.set_cons_zero, List.set_cons_succ])
            iterate 3
              (apply St.mix_past
               · rfl
               · exact fun L u' wx hS => hS
               simp only [Act.put, List.setIfInBounds_toArray, List.set_cons_zero, List.set_cons_succ])
            iterate 5
              (apply St.mix_give
               · rfl
               · intro L u' wx hS hcl hrd hag
                 clear hcl hrd hag
                 go_simp
                 try with_reducible rfl
               · exact fun L u' wx hS => hS
               simp only [Act.put, List.setIfInBounds_toArray, List.set_cons_zero, List.set_cons_succ])
            iterate 3
              (apply St.mix_give
               · rfl
               · intro L u' wx hS hcl hrd hag
                 clear hcl hrd hag
                 go_simp
                 try with_reducible rfl
               · exact fun L u' wx hS => hS
               simp only [Act.put, List.setIfInBounds_toArray, List.set_cons_zero, List.set_cons_succ])
            iterate 5
              (apply St.mix_give
               · rfl
               · intro L u' wx hS hcl hrd hag
                 clear hcl hrd hag
                 go_simp
                 try with_reducible rfl
               · exact fun L u' wx hS => hS
               simp only [Act.put, List.setIfInBounds_toArray, List.set_cons_zero, List.set_cons_succ])
            iterate 6
              (apply St.mix_past
               · rfl
               · exact fun L u' wx hS => hS
               simp only [Act.put, List.setIfInBounds_toArray, List.set_cons_zero, List.set_cons_succ])
            iterate 5
              (apply St.mix_give
               · rfl
               · intro L u' wx hS hcl hrd hag
                 clear hcl hrd hag
                 go_simp
                 try with_reducible rfl
               · exact fun L u' wx hS => hS
               simp only [Act.put, List.setIfInBounds_toArray, List.set_cons_zero, List.set_cons_succ])
            iterate 1
              (apply St.mix_give
               · rfl
               · intro L u' wx hS hcl hrd hag
                 clear hcl hrd hag
                 go_simp
                 try with_reducible rfl
               · exact fun L u' wx hS => hS
               simp only [Act.put, List.setIfInBounds_toArray, List.set_cons_zero, List.set_cons_succ])
            iterate 1
              (apply St.mix_give
               · rfl
               · intro L u' wx hS hcl hrd hag
                 clear hcl hrd hag
                 go_simp
                 try with_reducible rfl
               · exact fun L u' wx hS => hS
               simp only [Act.put, List.setIfInBounds_toArray, List.set_cons_zero, List.set_cons_succ])
            iterate 1
              (apply St.mix_give
               · rfl
               · intro L u' wx hS hcl hrd hag
                 obtain ⟨_, ⟨m0, m1, m2, m3, m4, m5, m6, m7, m8, m9, m10⟩, _⟩ := BRq wx hS
                 clear hcl hrd hag
                 go_simp
                 try with_reducible rfl
               · exact fun L u' wx hS => hS
               simp only [Act.put, List.setIfInBounds_toArray, List.set_cons_zero, List.set_cons_succ])
            iterate 1
              (apply St.mix_give
               · rfl
               · intro L u' wx hS hcl hrd hag
                 clear hcl hrd hag
                 go_simp
                 try with_reducible rfl
               · exact fun L u' wx hS => hS
               simp only [Act.put, List.setIfInBounds_toArray, List.set_cons_zero, List.set_cons_succ])
            apply St.mix_into
            · rfl
            · rfl
            · intro wx
              go_simp
              exact ⟨rfl, rfl⟩
            · exact fun L u' wx hS _ _ _ => khr wx hS
            simp only [Act.put, List.setIfInBounds_toArray, List.set_cons_zero, List.set_cons_succ]
            iterate 1
              (apply St.mix_give
               · rfl
               · intro L u' wx hS hcl hrd hag
                 clear hcl hrd hag
                 go_simp
                 try with_reducible rfl
               · exact fun L u' wx hS => hS
               simp only [Act.put, List.setIfInBounds_toArray, List.set_cons_zero, List.set_cons_succ])
            iterate 2
              (apply St.mix_give
               · rfl
               · intro L u' wx hS hcl hrd hag
                 clear hcl hrd hag
                 go_simp
                 try with_reducible rfl
               · exact fun L u' wx hS => hS
               simp only [Act.put, List.setIfInBounds_toArray, List.set_cons_zero, List.set_cons_succ])
            refine St.mix_last ?_
            intro L9 wz hbz _
            have hbq : Below w.heap.size w wq := hb5.trans (b5q.mono (by omega))
            have hbwz : Below w.heap.size w wz := hbq.trans (hbz.mono (by omega))
            have hzz := hbz.size
            have BLz := BLq wz hbz
            have BQz := BRq wz hbz
            have Bz := B5.keep (b5q.trans (hbz.mono b5q.size))
            have b4z : Below w4.heap.size w4 wz := b5.trans ((b5q.trans (hbz.mono b5q.size)).mono (by omega))
            obtain ⟨W8, hW8⟩ : ∃ W8, wz.setCell ⟨w4.heap.size + 1, 8, none⟩ (.bool true) = W8 := ⟨_, rfl⟩
            have BL8 : BoxP w4.heap.size ⟨ld, .slice lA ld.ms.length la, lps, .slice lB lps.length lb, lzs, .slice lC lzs.length lc, lfr, lea, .slice lD lea.length le, lal⟩ W8 := hW8 ▸ BLz.other (by simp) _
            have BQ8 : BoxP (w4.heap.size + 1) ⟨qd, .slice qA qd.ms.length qa, qps, .slice qB qps.length qb, qzs, .slice qC qzs.length qc, true, qea, .slice qD qea.length qe, qal⟩ W8 := hW8 ▸ BQz.set8 true
            have B8 : BoxP w.heap.size ⟨d, .slice fA d.ms.length fa, ps, .slice fB ps.length fb, zs, .slice fC zs.length fc, fr, ea, .slice fD ea.length fd, al⟩ W8 := hW8 ▸ Bz.other (by simp; omega) _
            have b48 : Below w4.heap.size w4 W8 := hW8 ▸ b4z.setCell (by simp) _
            have hz8 := b48.size
            have hb8 : Below w.heap.size w W8 := hb4.trans (b48.mono (by omega))
            have q0 := hr'.keep b48
            have cj := join_any ⟨ld, .slice lA ld.ms.length la, lps, .slice lB lps.length lb, lzs, .slice lC lzs.length lc, lfr, lea, .slice lD lea.length le, lal⟩ ⟨qd, .slice qA qd.ms.length qa, qps, .slice qB qps.length qb, qzs, .slice qC qzs.length qc, true, qea, .slice qD qea.length qe, qal⟩ W8 (hl.keep b48) ⟨q0.sm, q0.sp, q0.sz, q0.np, q0.se, q0.rp, q0.re⟩ isL isT nl nq
            have h8 := h4.keep b48
            clear BLq BRq up kl kr kn hbz b5q b4z BLz q0 B5 BL5 BQ5
            obtain ⟨o_0, ⟨o_1, o_2, o_3, o_4, o_5, o_6, o_7, o_8, o_9, o_10, o_11⟩, o_12⟩ := _root_.id BQz
            obtain ⟨p_0, ⟨p_1, p_2, p_3, p_4, p_5, p_6, p_7, p_8, p_9, p_10, p_11⟩, p_12⟩ := _root_.id BL8
            obtain ⟨q_0, ⟨q_1, q_2, q_3, q_4, q_5, q_6, q_7, q_8, q_9, q_10, q_11⟩, q_12⟩ := _root_.id BQ8
            go_wp2_with (rw [hW8])
            ((try clear o_0); (try clear o_1); (try clear o_2); (try clear o_3); (try clear o_4); (try clear o_5); (try clear o_6); (try clear o_7); (try clear o_8); (try clear o_9); (try clear o_10); (try clear o_11); (try clear o_12))
            ((try clear p_0); (try clear p_1); (try clear p_2); (try clear p_3); (try clear p_4); (try clear p_5); (try clear p_6); (try clear p_7); (try clear p_8); (try clear p_9); (try clear p_10); (try clear p_11); (try clear p_12))
            ((try clear q_0); (try clear q_1); (try clear q_2); (try clear q_3); (try clear q_4); (try clear q_5); (try clear q_6); (try clear q_7); (try clear q_8); (try clear q_9); (try clear q_10); (try clear q_11); (try clear q_12))
            refine cj.mono ?_
            rintro e' w9 ⟨oj, rfl, pj, hj, b9⟩
            have hz9 := b9.size
            have hb9 : Below w.heap.size w w9 := hb8.trans (b9.mono (by omega))
            have B9 := B8.keep b9
            have h9 := h8.keep b9
            clear cj hW8 BL8 BQ8 BQz b48 h8 B8
            rcases HCB.out with ⟨hjn, hij⟩ | ⟨er, her, hjn, hwhy⟩
            · rw [hjn] at pj ⊢
              simp only at pj ⊢
              clear HCB hjn
              obtain ⟨jA, ja, jB, jb, jC, jc, jD, je, j1, j2, j3, j4⟩ := hj.hp.form
              obtain ⟨jd, jsm, jps, jsp, jzs, jsz, jfr, jea, jse, jal⟩ := oj
              simp only at j1 j2 j3 j4
              subst j1 j2 j3 j4
              obtain rfl : jd = { d with gen := d.gen + 1 + 1 } := congrArg Pl.d pj
              obtain ⟨W10, hW10⟩ : ∃ W10, w9.alloc (.cells #[.int .i64 d.id, .string d.f, .string d.t, .int .i64 (d.gen + 1 + 1), .slice jA d.ms.length ja, .int .i64 d.next, .slice jB jps.length jb, .slice jC jzs.length jc, .bool jfr, .slice jD jea.length je, .int .i64 jal] 31) = W10 := ⟨_, rfl⟩
              have BJ : BoxP w9.heap.size ⟨{ d with gen := d.gen + 1 + 1 }, .slice jA d.ms.length ja, jps, .slice jB jps.length jb, jzs, .slice jC jzs.length jc, jfr, jea, .slice jD jea.length je, jal⟩ W10 := by rw [← hW10]; exact BoxP.new w9 ⟨{ d with gen := d.gen + 1 + 1 }, .slice jA d.ms.length ja, jps, .slice jB jps.length jb, jzs, .slice jC jzs.length jc, jfr, jea, .slice jD jea.length je, jal⟩
              have b10 : Below w9.heap.size w9 W10 := hW10 ▸ (Below.refl _ w9).alloc (Nat.le_refl _) _
              have hz10 := b10.size
              have hb10 : Below w.heap.size w W10 := hb9.trans (b10.mono (by omega))
              have B10 := B9.keep b10
              have h10 := h9.keep b10
              have hj10 := hj.keep b10
              have isJ : isP (Ph.pl ⟨{ d with gen := d.gen + 1 + 1 }, .slice jA d.ms.length ja, jps, .slice jB jps.length jb, jzs, .slice jC jzs.length jc, jfr, jea, .slice jD jea.length je, jal⟩) = true := by rw [pj]; exact hij
              have jx2 : jps = ps := congrArg Pl.ps pj
              have jx3 : ses jzs = ses zs := congrArg Pl.ss pj
              have jx5 : jea = eatE idn ea := congrArg Pl.ea pj
              have jx6 : jal = al := congrArg Pl.al pj
              have jx7 : jzs.length = zs.length := by have := congrArg List.length jx3; simpa using this
              have njl : jps.length ≤ 100000 := by rw [jx2]; exact hl1
              have k1 := Od.pairs_any (.slice jB jps.length jb) (.slice fB ps.length fb) jps ps W10 hj10.sp.sm h10.sp.sm (by omega) (by omega)
              rw [show decide (jps = ps) = true by simpa using jx2] at k1
              have k2 := fun wx (hb : Below W10.heap.size W10 wx) => rhas_any (.slice jD jea.length je) jea idn wx (hj10.keep hb).se.si (by have : jea.length ≤ 200 := isP_ea isJ; omega)
              simp only [show decide (idn ∈ jea) = true by rw [jx5]; simpa using mem_eat.2 (Or.inl rfl)] at k2
              have k3 := fun wx (hb : Below W10.heap.size W10 wx) => check_any ⟨{ d with gen := d.gen + 1 + 1 }, .slice jA d.ms.length ja, jps, .slice jB jps.length jb, jzs, .slice jC jzs.length jc, jfr, jea, .slice jD jea.length je, jal⟩ wx (hj10.keep hb).hp (isP_fit isJ njl)
              simp only [show chkP (Ph.pl ⟨{ d with gen := d.gen + 1 + 1 }, .slice jA d.ms.length ja, jps, .slice jB jps.length jb, jzs, .slice jC jzs.length jc, jfr, jea, .slice jD jea.length je, jal⟩) = 0 from if_pos isJ] at k3
              have e1 : ((jzs.length : Int) == (zs.length : Int)) = true := by rw [jx7]; simp
              have e2 : (jal == al) = true := by rw [jx6]; simp
              have HW10 := Lib.hid hW10
              clear jx2 jx3 jx5 jx6 jx7 pj hij hW10
              go_wp2_with fail
              rw [HW10.out]
              refine (num_any _ _).mono ?_
              rintro e' w' ⟨rfl, rfl⟩
              obtain ⟨p_0, ⟨p_1, p_2, p_3, p_4, p_5, p_6, p_7, p_8, p_9, p_10, p_11⟩, p_12⟩ := _root_.id BJ
              obtain ⟨q_0, ⟨q_1, q_2, q_3, q_4, q_5, q_6, q_7, q_8, q_9, q_10, q_11⟩, q_12⟩ := _root_.id B10
              go_wp2_with fail
              ((try clear p_0); (try clear p_1); (try clear p_2); (try clear p_3); (try clear p_4); (try clear p_5); (try clear p_6); (try clear p_7); (try clear p_8); (try clear p_9); (try clear p_10); (try clear p_11); (try clear p_12))
              ((try clear q_0); (try clear q_1); (try clear q_2); (try clear q_3); (try clear q_4); (try clear q_5); (try clear q_6); (try clear q_7); (try clear q_8); (try clear q_9); (try clear q_10); (try clear q_11); (try clear q_12))
              refine k1.mono ?_
              rintro e' w11 ⟨rfl, b11⟩
              have BJ11 := BJ.keep b11
              have B11 := B10.keep b11
              obtain ⟨p_0, ⟨p_1, p_2, p_3, p_4, p_5, p_6, p_7, p_8, p_9, p_10, p_11⟩, p_12⟩ := _root_.id BJ11
              obtain ⟨q_0, ⟨q_1, q_2, q_3, q_4, q_5, q_6, q_7, q_8, q_9, q_10, q_11⟩, q_12⟩ := _root_.id B11
              clear k1
              go_wp2_with fail
              refine (k2 w11 b11).mono ?_
              rintro e' w' ⟨rfl, rfl⟩
              go_wp2_with fail
              ((try clear p_0); (try clear p_1); (try clear p_2); (try clear p_3); (try clear p_4); (try clear p_5); (try clear p_6); (try clear p_7); (try clear p_8); (try clear p_9); (try clear p_10); (try clear p_11); (try clear p_12))
              ((try clear q_0); (try clear q_1); (try clear q_2); (try clear q_3); (try clear q_4); (try clear q_5); (try clear q_6); (try clear q_7); (try clear q_8); (try clear q_9); (try clear q_10); (try clear q_11); (try clear q_12))
              refine (k3 w11 b11).mono ?_
              rintro e' w12 ⟨rfl, b12⟩
              have hb12 : Below w.heap.size w w12 := hb10.trans ((b11.trans (b12.mono b11.size)).mono (by omega))
              clear k2 k3 BJ BJ11 B11 B10
              go_wp2_with fail
              refine (num_any _ _).mono ?_
              rintro e' w' ⟨rfl, rfl⟩
              go_wp2_with fail
              refine (live_any _ (hg.below hb12)).mono ?_
              rintro e' wl ⟨rfl, bl⟩
              go_wp2_with fail
              go_ret
              exact ⟨rfl, (hb12).trans (bl.mono (by have h9 := (hb12).size; omega))⟩
            · rw [hjn] at pj ⊢
              simp only at pj ⊢
              clear HCB hjn
              obtain ⟨jA, ja, jB, jb, jC, jc, jD, je, ej0⟩ := flat hj pj rfl
              have ej : oj = ⟨De.zero, .slice jA 0 ja, [], .slice jB 0 jb, [], .slice jC 0 jc, false, [], .slice jD 0 je, 0⟩ := ej0
              clear ej0
              subst ej
              have e1 : (er == 0) = false := by simpa using her
              have e2 : (er != 0) = true := by simpa using her
              have e3 : (er = 0) = False := eq_false her
              obtain ⟨W10, hW10⟩ : ∃ W10, w9.alloc (.cells #[.int .i64 De.zero.id, .string De.zero.f, .string De.zero.t, .int .i64 De.zero.gen, .slice jA 0 ja, .int .i64 De.zero.next, .slice jB 0 jb, .slice jC 0 jc, .bool false, .slice jD 0 je, .int .i64 0] 31) = W10 := ⟨_, rfl⟩
              have b10 : Below w9.heap.size w9 W10 := hW10 ▸ (Below.refl _ w9).alloc (Nat.le_refl _) _
              have hz10 := b10.size
              have hb10 : Below w.heap.size w W10 := hb9.trans (b10.mono (by omega))
              have B10 := B9.keep b10
              have h10 := h9.keep b10
              have HW10 := Lib.hid hW10
              have k2 := rhas_any (.slice fD ea.length fd) ea idn W10 h10.se.si (by omega)
              clear her hW10 hj pj
              go_wp2_with fail
              rw [HW10.out]
              refine (num_any _ _).mono ?_
              rintro e' w' ⟨rfl, rfl⟩
              obtain ⟨p_0, ⟨p_1, p_2, p_3, p_4, p_5, p_6, p_7, p_8, p_9, p_10, p_11⟩, p_12⟩ := _root_.id B10
              by_cases c1 : ea.length = 200
              · have x1 : ((ea.length : Int) == 200) = true := by simp; omega
                clear hwhy c1
                go_wp2_with fail
                refine (live_any _ (hg.below hb10)).mono ?_
                rintro e' wl ⟨rfl, bl⟩
                go_wp2_with fail
                go_ret
                exact ⟨rfl, (hb10).trans (bl.mono (by have h9 := (hb10).size; omega))⟩
              · have x1 : ((ea.length : Int) == 200) = false := by simp; omega
                by_cases c2 : 1099511627774 ≤ d.gen
                · have x2 : (d.gen ≥ 1099511627774) = True := eq_true c2
                  have x3 : (1099511627774 ≤ d.gen) = True := eq_true c2
                  clear hwhy c1 c2
                  go_wp2_with fail
                  refine (live_any _ (hg.below hb10)).mono ?_
                  rintro e' wl ⟨rfl, bl⟩
                  go_wp2_with fail
                  go_ret
                  exact ⟨rfl, (hb10).trans (bl.mono (by have h9 := (hb10).size; omega))⟩
                · have x2 : (d.gen ≥ 1099511627774) = False := eq_false c2
                  have x3 : (1099511627774 ≤ d.gen) = False := eq_false c2
                  have x4 : idn ∈ ea := by
                    rcases hwhy with h | h | h
                    · exact absurd h c1
                    · exact absurd h c2
                    · exact h
                  rw [show decide (idn ∈ ea) = true by simpa using x4] at k2
                  clear hwhy c1 c2 x4
                  go_wp2_with fail
                  refine k2.mono ?_
                  rintro e' w' ⟨rfl, rfl⟩
                  go_wp2_with fail
                  refine (live_any _ (hg.below hb10)).mono ?_
                  rintro e' wl ⟨rfl, bl⟩
                  go_wp2_with fail
                  go_ret
                  exact ⟨rfl, (hb10).trans (bl.mono (by have h9 := (hb10).size; omega))⟩
end Go.Proofs.YtpedalilamloaaaGreatDoor.Dp
