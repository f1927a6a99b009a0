/-
  The document's Same at lists that are the same; the law's own num and own. Conditions: sessions without pairs, at most a million (own: any pairs).
  The laws' own live, of sessions: it answers true. Condition: the library's variables hold what their types allow.
-/
import Derived.Test.YticikmkehobblaaDoorSsRows
import Derived.Test.YticikmkehobblaaDoorOdSame
import Derived.Test.YticikmkehobblaaDoorRegA
import Derived.Test.YticikmkehobblaaDoorSsMNA
import Derived.Test.YticikmkehobblaaDoorSsPSA
import Derived.Test.YticikmkehobblaaDoorSsParW
import Derived.Test.YticikmkehobblaaDoorSsFAA
namespace Go.Proofs.YticikmkehobblaaDoor.Ss
open Go.RowKit Bnd
open Go.Proofs.YticikmkehobblaaDoor.Od (Rep SP ArgP OwnP rv BoxR)

theorem num_any (n : Int) (w : World) : Calls Tryd.prog 19 #[.int .i64 n] w fun e w' => e = .returned (.int .i64 n) ∧ w = w' := by
  go_enter Tryd.func19, Tryd.ntmps19
  go_wp2_with fail
  go_ret
  exact ⟨rfl, rfl⟩
set_option maxHeartbeats 2000000 in
/-- the law's own: a list of its own, of the same sessions -/
theorem own_any (v : Value) (zs : List Zs) (w : World) (hv : ArgZ w v zs) (hone : ∀ z ∈ zs, z.2.oneCell' = true) (hl : zs.length ≤ 100000) :
    Calls Tryd.prog 11 #[v] w fun e w' => ∃ v', e = .returned v' ∧ ArgZ w' v' zs ∧ Below w.heap.size w w' := by
  go_enter Tryd.func11, Tryd.ntmps11
  go_wp2_with (at_builtin; refine wpList_append_zs rfl _ _ rfl w.heap.size _ [] rfl (ownZ_empty w) (by simp) v zs rfl (hv.keep ((Below.refl _ w).alloc (Nat.le_refl _) _)) hone (by simp; omega) ?_)
  intro v' w1 hown hb1 _
  have hb : Below w.heap.size w w1 := ((Below.refl _ w).alloc (Nat.le_refl _) _).trans hb1
  have HO := Lib.hid hown
  clear hown hb1
  go_wp2_with fail
  go_ret
  exact ⟨_, rfl, ArgZ.of_own HO.out, hb⟩
set_option maxHeartbeats 8000000 in
set_option maxRecDepth 100000 in
theorem rsame_yes (va vb : Value) (za zb : List Zs) (w : World) (hva : SZ w w.heap.size va za) (hvb : SZ w w.heap.size vb zb) (hpa : NoP za) (hpb : NoP zb) (he : ses za = ses zb) (hl : za.length ≤ 1000000) :
    Calls Tryd.prog 17 #[va, vb] w fun e w' => e = .returned (.bool true) ∧ Below w.heap.size w w' := by
  obtain ⟨A, ca, rfl⟩ := hva.form
  obtain ⟨D, cb, rfl⟩ := hvb.form
  have hlen : zb.length = za.length := by
    have := congrArg List.length he
    simpa using this.symm
  obtain ⟨n, hn⟩ : ∃ n, za.length = n := ⟨_, rfl⟩
  have HN := Lib.hid hn
  have HB := Lib.hid (hlen.trans hn)
  have HVA := Lib.hid hva
  have HVB := Lib.hid hvb
  have HE := Lib.hid he
  rw [hlen, hn]
  rw [hn] at hl
  clear hn hlen hva hvb he
  go_enter Tryd.func17, Tryd.ntmps17
  go_wp2_with fail
  go_loopw [5] (fun vi wr => ∃ k : Nat, k ≤ n ∧ vi = .int .i64 (k : Int) ∧ Below w.heap.size w wr) (fun vi _ => n - (intOf vi).toNat)
  case atStart => exact ⟨0, Nat.zero_le _, rfl, Below.refl _ _⟩
  case round =>
    obtain ⟨k, hk, rfl, hbw⟩ := hrel
    have hz := hbw.size
    by_cases hlt : k < n
    · have hka : k < za.length := by rw [HN.out]; exact hlt
      have hkb : k < zb.length := by rw [HB.out]; exact hlt
      have hv1 := HVA.out.below hbw
      have hv2 := HVB.out.below hbw
      rw [HN.out] at hv1
      rw [HB.out] at hv2
      obtain ⟨b, o, rfl, hb, q0, q1, q2, q3, q4, q5, q6⟩ := hv1.at_ hka
      obtain ⟨d, p, rfl, hd, r0, r1, r2, r3, r4, r5, r6⟩ := hv2.at_ hkb
      obtain ⟨hps, pa, pc, hpv⟩ := hpa za[k] (List.getElem_mem hka)
      obtain ⟨hqs, qa, qc, hqv⟩ := hpb zb[k] (List.getElem_mem hkb)
      have hs : za[k].1 = zb[k].1 := by
        have e1 : (ses za)[k]'(by simpa using hka) = za[k].1 := by simp
        have e2 : (ses zb)[k]'(by simpa using hkb) = zb[k].1 := by simp
        have e3 : (ses za)[k]? = (ses zb)[k]? := by rw [HE.out]
        rw [List.getElem?_eq_getElem (by simpa using hka), List.getElem?_eq_getElem (by simpa using hkb), e1, e2] at e3
        exact Option.some.inj e3
      rw [hpv] at q6
      rw [hqv] at r6
      rw [← hs] at r0 r1 r2 r3 r4 r5 hqs
      obtain ⟨⟨cl, sq, r⟩, hzk⟩ : ∃ z, za[k].1 = z := ⟨_, rfl⟩
      rw [hzk] at q0 q1 q2 q3 q4 q5 r0 r1 r2 r3 r4 r5 hps
      simp only at q0 q1 q2 q3 q4 q5 r0 r1 r2 r3 r4 r5 hps
      have k0 : (0 ≤ (k : Int)) = True := eq_true (by omega)
      have k1 : ((k : Int) < (n : Int)) = True := eq_true (by omega)
      have hk1 : (k : Int) < (n : Int) := by omega
      have hbz : b < wr.heap.size := by omega
      have hdz : d < wr.heap.size := by omega
      have cs : ∀ wx, Below wr.heap.size wr wx → Calls Tryd.prog 18 #[rv r (.slice pa 0 pc), rv r (.slice qa 0 qc)] wx fun e w' => e = .returned (.bool true) ∧ Below wr.heap.size wr w' := by
        intro wx hx
        have h1 : SP wx wx.heap.size (.slice pa 0 pc) r.ps := by rw [hps]; exact ⟨_, _, rfl, fun h => absurd h (by simp)⟩
        have h2 : SP wx wx.heap.size (.slice qa 0 qc) r.ps := by rw [hps]; exact ⟨_, _, rfl, fun h => absurd h (by simp)⟩
        have h3 : r.ps.length ≤ 1000000000 := by rw [hps]; simp
        have := Od.rsameR_any r r (.slice pa 0 pc) (.slice qa 0 qc) wx h1 h2 h3 h3
        rw [(Od.sameR_iff r r).2 rfl] at this
        refine this.mono ?_
        rintro e w' ⟨rfl, b⟩
        exact ⟨rfl, hx.trans (b.mono hx.size)⟩
      have hca : ∀ wx, Below wr.heap.size wr wx → Cs wx b (o + k * 7) (⟨cl, sq, r⟩, .slice pa 0 pc) := fun wx hx => Cs.keep (w := wr) ⟨q0, q1, q2, q3, q4, q5, q6⟩ (fun i => hx.cell (p := ⟨b, i, none⟩) hbz)
      have hcb : ∀ wx, Below wr.heap.size wr wx → Cs wx d (p + k * 7) (⟨cl, sq, r⟩, .slice qa 0 qc) := fun wx hx => Cs.keep (w := wr) ⟨r0, r1, r2, r3, r4, r5, r6⟩ (fun i => hx.cell (p := ⟨d, i, none⟩) hdz)
      clear hs hzk hps hqs hpv hqv hka hkb hv1 hv2 q0 q1 q2 q3 q4 q5 q6 r0 r1 r2 r3 r4 r5 r6
      go_wp2_with fail
      refine St.wp_region_stage (fun _ wx => Below wr.heap.size wr wx) (by kernel_rfl) (by kernel_rfl) (by kernel_rfl) (Below.refl _ _).drew ?_
      repeat (first
        | (apply St.step_give
           · rfl
           · intro L wx hS hcl hrd
             obtain ⟨q0, q1, q2, q3, q4, q5, q6⟩ := hca wx hS
             obtain ⟨r0, r1, r2, r3, r4, r5, r6⟩ := hcb wx hS
             simp only at q0 q1 q2 q3 q4 q5 q6 r0 r1 r2 r3 r4 r5 r6
             go_simp
             try with_reducible rfl
           · exact fun L wx hS => hS
           simp only [Act.put, List.setIfInBounds_toArray, List.set_cons_zero, List.set_cons_succ])
        | (apply St.step_into
           · rfl
           · intro wx
             go_simp
             exact ⟨rfl, rfl⟩
           · exact fun L wx hS hcl hrd => cs wx hS
           simp only [Act.put, List.setIfInBounds_toArray, List.set_cons_zero, List.set_cons_succ]))
      refine St.step_last ?_
      intro L wx hS _
      clear cs hca hcb
      go_wp2_with fail
      go_roundw
      case rel => exact ⟨k + 1, by omega, by go_num, hbw.trans (hS.mono hz)⟩
      case measure => simp [intOf]; omega
    · obtain rfl : k = n := by omega
      go_wp2_with fail
      go_ret
      exact ⟨rfl, hbw⟩
end Go.Proofs.YticikmkehobblaaDoor.Ss

namespace Go.Proofs.YticikmkehobblaaDoor.Ss
open Go.RowKit Bnd
open Go.Proofs.YticikmkehobblaaDoor.M (tieT untieT intT numT inR)
open Go.Proofs.YticikmkehobblaaDoor.Od (Rep SP ArgP OwnP rv BoxR FitR putR isR kX rsameR_any)

abbrev rX : Rep := ⟨0, 0, false, kX, []⟩
abbrev sL : Ses := ⟨3, 5, rX⟩
theorem fit_rX : FitR rX := ⟨by decide, by decide, by decide, by decide, by decide⟩
theorem fits_sL : fitsB sL = true := by kernel_rfl
theorem is_sL : isS [sL] = true := by rw [one_is]; exact fits_sL
theorem note_sL : noteS [] sL = ([sL], 0) := by
  unfold noteS
  rw [is_sL, if_pos rfl]
  unfold mergeS
  rw [bothS_end]
  rfl
theorem put_rX : (putR rX).length ≤ 300 := by
  have h := Od.putR_length fit_rX
  have e : 200 + 44 * rX.ps.length + rX.val.size + Od.sumP rX.ps = 201 := rfl
  omega
theorem put_sL : (putS [sL]).length ≤ 1000 := by
  unfold putS
  have h1 := M.tie_length (strandsS [sL]) (by
    intro x hx
    have a1 := M.numT_length (show inR 3 by decide)
    have a2 := M.numT_length (show inR 5 by decide)
    have a3 := put_rX
    simp only [strandsS, sesT, List.map_cons, List.map_nil, List.flatten_cons, List.flatten_nil, List.append_nil, List.mem_cons, List.not_mem_nil, or_false] at hx
    rcases hx with rfl | rfl | rfl <;> omega)
  have h2 : (strandsS [sL]).length = 3 := rfl
  have h3 : ((strandsS [sL]).map List.length).sum ≤ 340 := by
    have a1 := M.numT_length (show inR 3 by decide)
    have a2 := M.numT_length (show inR 5 by decide)
    have a3 := put_rX
    simp only [strandsS, sesT, List.map_cons, List.map_nil, List.flatten_cons, List.flatten_nil, List.append_nil, List.sum_cons, List.sum_nil]
    omega
  omega
theorem live_parse : parseS (putS [sL]) = ([sL], 0) := by
  refine parse_putS is_sL ⟨fun s hs => ?_, fun s hs => ?_⟩ (fun s hs => ?_) (by have := put_sL; omega)
  all_goals
    simp only [List.mem_singleton] at hs
    subst hs
  · exact ⟨by decide, by decide⟩
  · exact ⟨by decide, by decide⟩
  · exact Nat.le_trans put_rX (by decide)
theorem chk_zero : chkS [Ses.zero] = 80 := by kernel_rfl

set_option maxHeartbeats 16000000 in
set_option maxRecDepth 100000 in
theorem live_any (w : World) (hg : Good w) : Calls Tryd.prog 9 #[] w fun e w' => e = .returned (.bool true) ∧ Below w.heap.size w w' := by
  obtain ⟨T, hT⟩ : ∃ T : ByteArray, T = ⟨(putS [sL]).toArray⟩ := ⟨_, rfl⟩
  have hTd : T.data.toList = putS [sL] := by rw [hT]
  have hTs : T.size ≤ 140737488355328 := by
    have h1 := put_sL
    have h2 : T.size = (putS [sL]).length := by rw [hT]; simp [ByteArray.size]
    omega
  have cN : ∀ w, Calls Tryd.prog 15 #[.slice none 0 0, sv (sL, .slice none 0 0)] w fun e w' => NoteOut w ([sL], 0) e w' := by
    intro w
    have := note_any (.slice none 0 0) [] sL (.slice none 0 0) w (SZ.nil _ _) (fun z hz => by cases hz) (by simp) (SP.nil _ _) ⟨by decide, by decide, by decide⟩
    rw [show ses [] = [] from rfl, note_sL] at this
    exact this
  have cA : ∀ (zs : List Zs) (v : Value) (q : Int) (o : Rep × Bool) w, ses zs = [sL] → NoP zs → ArgZ w v zs → askS [sL] 3 q = o → Calls Tryd.prog 13 #[v, .int .i64 3, .int .i64 q] w fun e w' => AskedZ o e ∧ Below w.heap.size w w' := by
    intro zs v q o w hs hp hv ho
    have hl := congrArg List.length hs
    simp only [List.length_map, List.length_singleton] at hl
    have := ask_any v zs 3 q w hv.sz (by rw [hs]; exact ((isS_iff _).1 is_sL).2) hp (by omega)
    rw [hs, ho] at this
    exact this
  have cP : ∀ (zs : List Zs) (v : Value) w, ses zs = [sL] → NoP zs → ArgZ w v zs → Calls Tryd.prog 25 #[v] w fun e w' => e = .returned (.string T) ∧ Below w.heap.size w w' := by
    intro zs v w hs hp hv
    have hl := congrArg List.length hs
    simp only [List.length_map, List.length_singleton] at hl
    have := put_any v zs w hv.sz (hp.pz w _) (by rw [hs]; intro s hs; simp only [List.mem_singleton] at hs; subst hs; exact ⟨by decide, by decide, fit_rX, Nat.le_trans put_rX (by decide)⟩) (by omega)
    rw [hs] at this
    rw [hT]
    exact this
  have cR : ∀ w, Good w → Calls Tryd.prog 24 #[.string T] w fun e w' => NoteOut w ([sL], 0) e w' := by
    intro w hg
    have := parse_any T w hTs hg
    rw [hTd, live_parse] at this
    exact this
  have cO : ∀ s s' w, SP w w.heap.size s [] → SP w w.heap.size s' [] → Calls Tryd.prog 18 #[rv rX s, rv rX s'] w fun e w' => e = .returned (.bool true) ∧ Below w.heap.size w w' := by
    intro s s' w h h'
    have := rsameR_any rX rX s s' w h h' (by decide) (by decide)
    rw [(Od.sameR_iff rX rX).2 rfl] at this
    exact this
  have cS : ∀ (za zb : List Zs) (va vb : Value) w, ses za = [sL] → ses zb = [sL] → NoP za → NoP zb → ArgZ w va za → ArgZ w vb zb → Calls Tryd.prog 17 #[va, vb] w fun e w' => e = .returned (.bool true) ∧ Below w.heap.size w w' := by
    intro za zb va vb w h1 h2 p1 p2 a1 a2
    have hl := congrArg List.length h1
    simp only [List.length_map, List.length_singleton] at hl
    exact rsame_yes va vb za zb w a1.sz a2.sz p1 p2 (h1.trans h2.symm) (by omega)
  have cC : ∀ (w : World), Calls Tryd.prog 22 #[.slice (some ⟨w.heap.size, 0, none⟩) 1 1] (w.alloc (.cells #[.int .i64 0, .int .i64 0, .int .i64 0, .int .i64 0, .bool false, .string Od.E0, .slice none 0 0] 28)) fun e w' => e = .returned (.int .i64 80) ∧ Below (w.heap.size + 1) (w.alloc (.cells #[.int .i64 0, .int .i64 0, .int .i64 0, .int .i64 0, .bool false, .string Od.E0, .slice none 0 0] 28)) w' := by
    intro w
    have h := (argZ_one w zeroZ)
    have := check_any _ [zeroZ] (w.alloc (.cells #[.int .i64 0, .int .i64 0, .int .i64 0, .int .i64 0, .bool false, .string Od.E0, .slice none 0 0] 28)) h.sz (fun z hz => by simp only [List.mem_singleton] at hz; subst hz; exact SP.nil _ _) (fun z hz => by simp only [List.mem_singleton] at hz; subst hz; exact ⟨by decide, by decide, by decide⟩) (by simp)
    rw [show ses [zeroZ] = [Ses.zero] from rfl, chk_zero, World.size_alloc] at this
    exact this
  have e5 : askS [sL] 3 5 = (rX, true) := by rfl
  have e4 : askS [sL] 3 4 = (⟨3, 0, false, Od.E0, []⟩, true) := by rfl
  have e6 : askS [sL] 3 6 = (Od.Rep.zero, false) := by rfl
  have cA5 := fun zs v w h1 h2 h3 => cA zs v 5 (rX, true) w h1 h2 h3 e5
  have cA4 := fun zs v w h1 h2 h3 => cA zs v 4 (⟨3, 0, false, Od.E0, []⟩, true) w h1 h2 h3 e4
  have cA6 := fun zs v w h1 h2 h3 => cA zs v 6 (Od.Rep.zero, false) w h1 h2 h3 e6
  have B1 := BoxR.new w rX (.slice none 0 0)
  clear hTd hTs hT cA e4 e5 e6
  go_enter Tryd.func9, Tryd.ntmps9
  obtain ⟨p_0, ⟨p_1, p_2, p_3, p_4, p_5⟩, p_6⟩ := _root_.id B1
  go_wp2_with fail
  refine (cN _).mono ?_
  rintro e w1 ⟨v1, zs1, rfl, hs1, ha1, hp1, b1⟩
  have B2 := B1.keep b1
  have hb1 : Below w.heap.size w w1 := (show Below w.heap.size w _ from (by (repeat' (first | with_reducible assumption | with_reducible exact Below.refl _ _ | with_reducible refine Below.alloc ?_ ?_ _ | with_reducible refine Below.setCell ?_ ?_ _ | with_reducible refine Below.drew ?_ | omega | (simp; done) | (simp; omega))))).trans (b1.mono (by simp))
  have hz1 := hb1.size
  have hl1 : zs1.length = 1 := by have := congrArg List.length hs1; simpa using this
  obtain ⟨A1, c1, hv1⟩ := ha1.form
  rw [hl1] at hv1
  subst hv1
  have HS1 := Lib.hid hs1
  have HA1 : ∀ w', Below w1.heap.size w1 w' → ArgZ w' (.slice A1 1 c1) zs1 := fun w' hb => ha1.keep hb
  clear b1 hs1 hl1 ha1
  clear p_0 p_1 p_2 p_3 p_4 p_5 p_6
  go_wp2_with fail
  refine (cA5 zs1 _ _ HS1.out hp1 (HA1 _ (Below.refl _ _))).mono ?_
  rintro e w2 ⟨⟨A2, c2, rfl⟩, b2⟩
  have hb2 : Below w1.heap.size w1 w2 := b2
  have B4 := BoxR.new w2 rX (.slice A2 0 c2)
  have B3 := (B2.keep b2).alloc (.cells #[.int .i64 rX.code, .int .i64 rX.err, .bool rX.has, .string rX.val, .slice A2 0 c2] 26)
  have hz2 := hb2.size
  have hbw2 : Below w.heap.size w w2 := hb1.trans (hb2.mono hz1)
  clear b2 B2
  go_wp2_with fail
  refine (cA4 zs1 _ _ HS1.out hp1 (HA1 _ (by (repeat' (first | with_reducible assumption | with_reducible exact Below.refl _ _ | with_reducible refine Below.alloc ?_ ?_ _ | with_reducible refine Below.setCell ?_ ?_ _ | with_reducible refine Below.drew ?_ | omega | (simp; done) | (simp; omega)))))).mono ?_
  rintro e w3 ⟨⟨A3, c3, rfl⟩, b3⟩
  have hb3 : Below w1.heap.size w1 w3 := (show Below w1.heap.size w1 _ from (by (repeat' (first | with_reducible assumption | with_reducible exact Below.refl _ _ | with_reducible refine Below.alloc ?_ ?_ _ | with_reducible refine Below.setCell ?_ ?_ _ | with_reducible refine Below.drew ?_ | omega | (simp; done) | (simp; omega))))).trans (b3.mono (by simp; omega))
  have hbw3 : Below w.heap.size w w3 := (show Below w.heap.size w _ from (by (repeat' (first | with_reducible assumption | with_reducible exact Below.refl _ _ | with_reducible refine Below.alloc ?_ ?_ _ | with_reducible refine Below.setCell ?_ ?_ _ | with_reducible refine Below.drew ?_ | omega | (simp; done) | (simp; omega))))).trans (b3.mono (by simp; omega))
  have C6 := BoxR.new w3 ⟨3, 0, false, Od.E0, []⟩ (.slice A3 0 c3)
  have C3 := (B3.keep b3).alloc (.cells #[.int .i64 3, .int .i64 0, .bool false, .string Od.E0, .slice A3 0 c3] 26)
  have C4 := (B4.keep b3).alloc (.cells #[.int .i64 3, .int .i64 0, .bool false, .string Od.E0, .slice A3 0 c3] 26)
  have hz3 := hb3.size
  clear b3 B3 B4
  go_wp2_with fail
  refine (cA6 zs1 _ _ HS1.out hp1 (HA1 _ (by (repeat' (first | with_reducible assumption | with_reducible exact Below.refl _ _ | with_reducible refine Below.alloc ?_ ?_ _ | with_reducible refine Below.setCell ?_ ?_ _ | with_reducible refine Below.drew ?_ | omega | (simp; done) | (simp; omega)))))).mono ?_
  rintro e w4 ⟨⟨A4, c4, rfl⟩, b4⟩
  have hb4 : Below w1.heap.size w1 w4 := (show Below w1.heap.size w1 _ from (by (repeat' (first | with_reducible assumption | with_reducible exact Below.refl _ _ | with_reducible refine Below.alloc ?_ ?_ _ | with_reducible refine Below.setCell ?_ ?_ _ | with_reducible refine Below.drew ?_ | omega | (simp; done) | (simp; omega))))).trans (b4.mono (by simp; omega))
  have hbw4 : Below w.heap.size w w4 := (show Below w.heap.size w _ from (by (repeat' (first | with_reducible assumption | with_reducible exact Below.refl _ _ | with_reducible refine Below.alloc ?_ ?_ _ | with_reducible refine Below.setCell ?_ ?_ _ | with_reducible refine Below.drew ?_ | omega | (simp; done) | (simp; omega))))).trans (b4.mono (by simp; omega))
  have D6 := (C6.keep b4).alloc (.cells #[.int .i64 0, .int .i64 0, .bool false, .string Od.E0, .slice A4 0 c4] 26)
  have D3 := (C3.keep b4).alloc (.cells #[.int .i64 0, .int .i64 0, .bool false, .string Od.E0, .slice A4 0 c4] 26)
  have D4 := (C4.keep b4).alloc (.cells #[.int .i64 0, .int .i64 0, .bool false, .string Od.E0, .slice A4 0 c4] 26)
  have hz4 := hb4.size
  clear b4 C3 C4 C6
  go_wp2_with fail
  refine (cP zs1 _ _ HS1.out hp1 (HA1 _ (by (repeat' (first | with_reducible assumption | with_reducible exact Below.refl _ _ | with_reducible refine Below.alloc ?_ ?_ _ | with_reducible refine Below.setCell ?_ ?_ _ | with_reducible refine Below.drew ?_ | omega | (simp; done) | (simp; omega)))))).mono ?_
  rintro e w5 ⟨rfl, b5⟩
  have hb5 : Below w1.heap.size w1 w5 := (show Below w1.heap.size w1 _ from (by (repeat' (first | with_reducible assumption | with_reducible exact Below.refl _ _ | with_reducible refine Below.alloc ?_ ?_ _ | with_reducible refine Below.setCell ?_ ?_ _ | with_reducible refine Below.drew ?_ | omega | (simp; done) | (simp; omega))))).trans (b5.mono (by simp; omega))
  have hbw5 : Below w.heap.size w w5 := (show Below w.heap.size w _ from (by (repeat' (first | with_reducible assumption | with_reducible exact Below.refl _ _ | with_reducible refine Below.alloc ?_ ?_ _ | with_reducible refine Below.setCell ?_ ?_ _ | with_reducible refine Below.drew ?_ | omega | (simp; done) | (simp; omega))))).trans (b5.mono (by simp; omega))
  have E6 := D6.keep b5
  have E3 := D3.keep b5
  have E4 := D4.keep b5
  have hz5 := hb5.size
  clear b5 D3 D4 D6
  go_wp2_with fail
  refine (cR _ (hg.below hbw5)).mono ?_
  rintro e w6 ⟨v6, zs6, rfl, hs6, ha6, hp6, b6⟩
  have hb6 : Below w1.heap.size w1 w6 := hb5.trans (b6.mono hz5)
  have hbw6 : Below w.heap.size w w6 := hbw5.trans (b6.mono (by omega))
  have F6 := E6.keep b6
  have F3 := E3.keep b6
  have F4 := E4.keep b6
  have hl6 : zs6.length = 1 := by have := congrArg List.length hs6; simpa using this
  obtain ⟨A6, c6, hv6⟩ := ha6.form
  rw [hl6] at hv6
  subst hv6
  have HS6 := Lib.hid hs6
  have HA6 : ∀ w', Below w6.heap.size w6 w' → ArgZ w' (.slice A6 1 c6) zs6 := fun w' hb => ha6.keep hb
  have hz6 := hb6.size
  clear b6 hs6 hl6 ha6 E3 E4 E6
  obtain ⟨p_0, ⟨p_1, p_2, p_3, p_4, p_5⟩, p_6⟩ := _root_.id F3
  obtain ⟨q_0, ⟨q_1, q_2, q_3, q_4, q_5⟩, q_6⟩ := _root_.id F4
  obtain ⟨r_0, ⟨r_1, r_2, r_3, r_4, r_5⟩, r_6⟩ := _root_.id F6
  go_wp2_with fail
  refine (num_any _ _).mono ?_
  rintro e w' ⟨rfl, rfl⟩
  go_wp2_with fail
  refine (num_any _ _).mono ?_
  rintro e w' ⟨rfl, rfl⟩
  go_wp2_with fail
  refine (cO _ _ _ ⟨_, _, rfl, fun h => absurd h (by simp)⟩ ⟨_, _, rfl, fun h => absurd h (by simp)⟩).mono ?_
  rintro e w7 ⟨rfl, b7⟩
  have hb7 : Below w1.heap.size w1 w7 := hb6.trans (b7.mono hz6)
  have hb67 : Below w6.heap.size w6 w7 := b7
  have hbw7 : Below w.heap.size w w7 := hbw6.trans (b7.mono (by omega))
  have G6 := F6.keep b7
  have hz7 := hb7.size
  clear p_0 p_1 p_2 p_3 p_4 p_5 p_6
  clear q_0 q_1 q_2 q_3 q_4 q_5 q_6
  clear r_0 r_1 r_2 r_3 r_4 r_5 r_6
  obtain ⟨r_0, ⟨r_1, r_2, r_3, r_4, r_5⟩, r_6⟩ := _root_.id G6
  clear b7 F3 F4 F6
  go_wp2_with fail
  refine (cS zs6 zs1 _ _ _ HS6.out HS1.out hp6 hp1 (HA6 _ hb67) (HA1 _ hb7)).mono ?_
  rintro e w8 ⟨rfl, b8⟩
  have hbw8 : Below w.heap.size w w8 := hbw7.trans (b8.mono (by omega))
  clear b8 G6
  clear r_0 r_1 r_2 r_3 r_4 r_5 r_6
  go_wp2_with fail
  refine (cC w8).mono ?_
  rintro e w9 ⟨rfl, b9⟩
  have hz8 := hbw8.size
  have hbw9 : Below w.heap.size w w9 := (hbw8.alloc hz8 _).trans (b9.mono (by omega))
  clear b9
  go_wp2_with fail
  refine (num_any _ _).mono ?_
  rintro e w' ⟨rfl, rfl⟩
  go_wp2_with fail
  go_ret
  exact ⟨rfl, hbw9⟩
end Go.Proofs.YticikmkehobblaaDoor.Ss
