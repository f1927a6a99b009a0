/-
  The document's Note and Merge. Conditions: sessions without pairs, at most 5,000.
-/
import Derived.Test.YticikmkehobblaaDoorSsSet
import Derived.Test.YticikmkehobblaaDoorSsRBool
import Derived.Test.YticikmkehobblaaDoorSsMA
namespace Go.Proofs.YticikmkehobblaaDoor.Ss
open Go.RowKit Bnd
open Go.Proofs.YticikmkehobblaaDoor.Od (Rep SP ArgP OwnP rv BoxR)

/-- what Note and Merge answer -/
def NoteOut (W : World) (o : List Ses × Int) (e : Ending) (w' : World) : Prop := ∃ v' zs', e = .returned (.tuple #[v', .int .i64 o.2]) ∧ ses zs' = o.1 ∧ ArgZ w' v' zs' ∧ NoP zs' ∧ Below W.heap.size W w'
theorem NoteOut.none {W w' : World} {n : Int} (h : Below W.heap.size W w') : NoteOut W ([], n) (.returned (.tuple #[.slice none 0 0, .int .i64 n])) w' := ⟨_, [], rfl, rfl, .nil, (fun z hz => by cases hz), h⟩
set_option maxHeartbeats 8000000 in
set_option maxRecDepth 100000 in
theorem rnote_any (v : Value) (zs : List Zs) (s : Ses) (p : Value) (w : World) (hv : ArgZ w v zs) (hp : NoP zs) (hl : zs.length ≤ 5000) (hsp : SP w w.heap.size p s.rep.ps) (f : FitZ s) :
    Calls Tryd.prog 16 #[v, sv (s, p)] w fun e w' => NoteOut w (noteS (ses zs) s) e w' := by
  obtain ⟨pA, pc, rfl⟩ := hsp.form
  have c1 := fun w h => rone_any (s, .slice pA s.rep.ps.length pc) w h f
  have kp : ∀ wx, Below w.heap.size w wx → SP wx wx.heap.size (.slice pA s.rep.ps.length pc) s.rep.ps := fun wx h => (hsp.below h).more h.size
  have kv : ∀ wx, Below w.heap.size w wx → ArgZ wx v zs := fun wx h => hv.keep h
  have B0 := BoxS.new w (s, .slice pA s.rep.ps.length pc)
  cases hf : fitsB s with
  | false =>
    rw [show noteS (ses zs) s = ([], 80) by unfold noteS; rw [one_is, hf]; rfl]
    simp only [hf] at c1
    clear hf
    go_enter Tryd.func16, Tryd.ntmps16
    go_wp2_with fail
    refine (c1 _ (kp _ (by (repeat' (first | with_reducible assumption | with_reducible exact Below.refl _ _ | with_reducible refine Below.alloc ?_ ?_ _ | with_reducible refine Below.setCell ?_ ?_ _ | with_reducible refine Below.drew ?_ | omega | (simp; done) | (simp; omega)))))).mono ?_
    rintro e w1 ⟨rfl, b1⟩
    have hb1 : Below w.heap.size w w1 := (show Below w.heap.size w _ from (by (repeat' (first | with_reducible assumption | with_reducible exact Below.refl _ _ | with_reducible refine Below.alloc ?_ ?_ _ | with_reducible refine Below.setCell ?_ ?_ _ | with_reducible refine Below.drew ?_ | omega | (simp; done) | (simp; omega))))).trans (b1.mono (by simp))
    clear b1
    go_wp2_with fail
    go_ret2
    exact NoteOut.none hb1
  | true =>
    have hps := fits_ps hf
    simp only [hf] at c1
    have c2 := fun w h => rset_any v zs s pA pc true w h hp hps (by omega)
    have hlen : s.rep.ps.length = 0 := by rw [hps]; rfl
    rw [hlen] at c1 kp B0 ⊢
    have hn : noteS (ses zs) s = if (setS s true (ses zs)).length ≤ 64 then (setS s true (ses zs), 0) else ([], 6) := by
      unfold noteS
      rw [one_is, hf, if_pos rfl, set_true]
      rfl
    obtain ⟨l, hl0⟩ : ∃ l, setS s true (ses zs) = l := ⟨_, rfl⟩
    rw [hl0] at c2 hn
    rw [hn]
    clear hn hl0 hf hlen hps
    by_cases h64 : l.length ≤ 64
    · rw [if_pos h64]
      go_enter Tryd.func16, Tryd.ntmps16
      go_wp2_with fail
      refine (c1 _ (kp _ (by (repeat' (first | with_reducible assumption | with_reducible exact Below.refl _ _ | with_reducible refine Below.alloc ?_ ?_ _ | with_reducible refine Below.setCell ?_ ?_ _ | with_reducible refine Below.drew ?_ | omega | (simp; done) | (simp; omega)))))).mono ?_
      rintro e w1 ⟨rfl, b1⟩
      have B1 := B0.keep b1
      have hb1 : Below w.heap.size w w1 := (show Below w.heap.size w _ from (by (repeat' (first | with_reducible assumption | with_reducible exact Below.refl _ _ | with_reducible refine Below.alloc ?_ ?_ _ | with_reducible refine Below.setCell ?_ ?_ _ | with_reducible refine Below.drew ?_ | omega | (simp; done) | (simp; omega))))).trans (b1.mono (by simp))
      have hz1 := hb1.size
      clear b1 B0
      obtain ⟨p_0, ⟨p_1, p_2, p_3, p_4, p_5, p_6, p_7⟩, p_8⟩ := _root_.id B1
      go_wp2_with fail
      refine (c2 _ (kv _ hb1)).mono ?_
      rintro e w2 ⟨v', zs', rfl, hs, ha, hq, b2⟩
      obtain ⟨A', c', rfl⟩ := ha.form
      have hb2 : Below w.heap.size w w2 := hb1.trans (b2.mono hz1)
      have hlz : zs'.length = l.length := by rw [← hs]; simp
      have g1 : ((zs'.length : Int) > 64) = False := eq_false (by omega)
      have HA := Lib.hid ha
      have HS := Lib.hid hs
      clear p_0 p_1 p_2 p_3 p_4 p_5 p_6 p_7 p_8
      clear b2 ha hs hlz
      go_wp2_with fail
      go_ret2
      exact ⟨_, zs', rfl, HS.out, HA.out, hq, hb2⟩
    · rw [if_neg h64]
      go_enter Tryd.func16, Tryd.ntmps16
      go_wp2_with fail
      refine (c1 _ (kp _ (by (repeat' (first | with_reducible assumption | with_reducible exact Below.refl _ _ | with_reducible refine Below.alloc ?_ ?_ _ | with_reducible refine Below.setCell ?_ ?_ _ | with_reducible refine Below.drew ?_ | omega | (simp; done) | (simp; omega)))))).mono ?_
      rintro e w1 ⟨rfl, b1⟩
      have B1 := B0.keep b1
      have hb1 : Below w.heap.size w w1 := (show Below w.heap.size w _ from (by (repeat' (first | with_reducible assumption | with_reducible exact Below.refl _ _ | with_reducible refine Below.alloc ?_ ?_ _ | with_reducible refine Below.setCell ?_ ?_ _ | with_reducible refine Below.drew ?_ | omega | (simp; done) | (simp; omega))))).trans (b1.mono (by simp))
      have hz1 := hb1.size
      clear b1 B0
      obtain ⟨p_0, ⟨p_1, p_2, p_3, p_4, p_5, p_6, p_7⟩, p_8⟩ := _root_.id B1
      go_wp2_with fail
      refine (c2 _ (kv _ hb1)).mono ?_
      rintro e w2 ⟨v', zs', rfl, hs, ha, hq, b2⟩
      obtain ⟨A', c', rfl⟩ := ha.form
      have hb2 : Below w.heap.size w w2 := hb1.trans (b2.mono hz1)
      have hlz : zs'.length = l.length := by rw [← hs]; simp
      have g1 : ((zs'.length : Int) > 64) = True := eq_true (by omega)
      clear p_0 p_1 p_2 p_3 p_4 p_5 p_6 p_7 p_8
      clear b2 ha hs hlz
      go_wp2_with fail
      go_ret2
      exact NoteOut.none hb2
theorem set_len (s : Ses) (over : Bool) : ∀ l : List Ses, (setS s over l).length ≤ l.length + 1
  | [] => by simp [setS]
  | x :: l => by
    have ih := set_len s over l
    rw [setS]
    split
    · simp only [List.length_cons]; omega
    · split
      · split <;> simp
      · simp
set_option maxHeartbeats 8000000 in
set_option maxRecDepth 100000 in
theorem rmerge_any (va vb : Value) (za zb : List Zs) (w : World) (hva : ArgZ w va za) (hvb : SZ w w.heap.size vb zb) (hpa : NoP za) (hpb : NoP zb) (hla : za.length ≤ 2000) (hlb : zb.length ≤ 2000) (hr : riseB 0 (ses zb) = true) :
    Calls Tryd.prog 21 #[va, vb] w fun e w' => NoteOut w (mergeS (ses za) (ses zb)) e w' := by
  obtain ⟨Aa, ca, rfl⟩ := hva.form
  obtain ⟨Ab, cb, rfl⟩ := hvb.form
  obtain ⟨n, hn⟩ : ∃ n, zb.length = n := ⟨_, rfl⟩
  have HN := Lib.hid hn
  have hvh := Lib.hid hvb
  obtain ⟨ans, hans⟩ : ∃ l, mergeS (ses za) (ses zb) = l := ⟨_, rfl⟩
  have HANS := Lib.hid hans
  have HR := Lib.hid hr
  have HVA := Lib.hid hva
  rw [hn] at hlb ⊢
  rw [hans]
  clear hn hvb hans hr hva
  go_enter Tryd.func21, Tryd.ntmps21
  go_wp2_with fail
  go_loopw [0, 6] (fun v0 vi wr => ∃ (k : Nat) (A : Option Addr) (c : Nat) (zs : List Zs), k ≤ n ∧ vi = .int .i64 (k : Int) ∧ v0 = .slice A zs.length c ∧ Hid (ses zs = ((ses zb).take k).foldl (fun a y => setS y false a) (ses za)) ∧ Hid (zs.length ≤ za.length + k) ∧ ArgZ wr (.slice A zs.length c) zs ∧ NoP zs ∧ Below w.heap.size w wr) (fun _ vi _ => n - (intOf vi).toNat)
  case atStart => exact ⟨0, Aa, ca, za, Nat.zero_le _, rfl, rfl, Lib.hid (by simp), Lib.hid (by omega), HVA.out, hpa, Below.refl _ _⟩
  case round =>
    obtain ⟨k, A, c, zs, hk, rfl, rfl, HZ, HL, haz, hpz, hbw⟩ := hrel
    have hz := hbw.size
    have hlz := HL.out
    by_cases hlt : k < n
    · have hkx : k < zb.length := by rw [HN.out]; exact hlt
      have hv1 := hvh.out.below hbw
      rw [HN.out] at hv1
      obtain ⟨b, o, rfl, hb, q0, q1, q2, q3, q4, q5, q6⟩ := hv1.at_ hkx
      obtain ⟨hps, pa, pc, hpv⟩ := hpb zb[k] (List.getElem_mem hkx)
      obtain ⟨⟨⟨cl, sq, r⟩, pv⟩, hzk⟩ : ∃ z, zb[k] = z := ⟨_, rfl⟩
      rw [hzk] at q0 q1 q2 q3 q4 q5 q6 hps hpv
      simp only at q0 q1 q2 q3 q4 q5 q6 hps hpv
      subst hpv
      have c2 := rset_any (.slice A zs.length c) zs ⟨cl, sq, r⟩ pa pc false wr haz hpz hps (by omega)
      have hstep : ((ses zb).take (k + 1)).foldl (fun a y => setS y false a) (ses za) = setS ⟨cl, sq, r⟩ false (ses zs) := by
        have e : (ses zb).take (k + 1) = (ses zb).take k ++ [⟨cl, sq, r⟩] := by
          rw [List.take_succ_eq_append_getElem (by simpa using hkx)]
          simp [hzk]
        rw [e, List.foldl_append, ← HZ.out]
        rfl
      have HST := Lib.hid hstep
      have hsl := set_len ⟨cl, sq, r⟩ false (ses zs)
      have HSL := Lib.hid hsl
      have k0 : (0 ≤ (k : Int)) = True := eq_true (by omega)
      have k1 : ((k : Int) < (n : Int)) = True := eq_true (by omega)
      have hk1 : (k : Int) < (n : Int) := by omega
      have hbz : b < wr.heap.size := by omega
      clear hstep hsl hzk hv1 hkx hps HZ haz hlz
      go_wp2_with fail
      refine c2.mono ?_
      rintro e w2 ⟨v', zs', rfl, hs, ha, hq, b2⟩
      obtain ⟨A', c', rfl⟩ := ha.form
      have hb2 : Below w.heap.size w w2 := hbw.trans (b2.mono hz)
      have HA := Lib.hid ha
      have HS := Lib.hid hs
      have HLL : Hid (zs'.length ≤ za.length + (k + 1)) := Lib.hid (by
        have e : zs'.length = (ses zs').length := by simp
        have h1 := HSL.out
        rw [← HS.out] at h1
        have h2 := HL.out
        have h3 : (ses zs).length = zs.length := by simp
        omega)
      clear b2 ha hs c2
      go_wp2_with fail
      go_roundw
      case rel => exact ⟨k + 1, A', c', zs', by omega, by go_num, rfl, Lib.hid (by rw [HS.out, HST.out]), HLL, HA.out, hq, hb2⟩
      case measure => simp [intOf]; omega
    · obtain rfl : k = n := by omega
      have hz2 : ses zs = bothS (ses za) (ses zb) := by
        rw [HZ.out, List.take_of_length_le (by have := HN.out; simp; omega)]
        exact sets_both _ _ 0 HR.out
      have HA := Lib.hid haz
      by_cases h64 : zs.length ≤ 64
      · have g1 : ((zs.length : Int) > 64) = False := eq_false (by omega)
        have HE : Hid (ans = (ses zs, 0)) := Lib.hid (by
          rw [← HANS.out]; unfold mergeS; rw [← hz2, if_pos (by simpa using h64)])
        clear hz2 h64 haz
        go_wp2_with fail
        go_ret2
        rw [HE.out]
        exact ⟨_, zs, rfl, rfl, HA.out, hpz, hbw⟩
      · have g1 : ((zs.length : Int) > 64) = True := eq_true (by omega)
        have HE : Hid (ans = ([], 6)) := Lib.hid (by
          rw [← HANS.out]; unfold mergeS; rw [← hz2, if_neg (by simpa using h64)])
        clear hz2 h64 haz
        go_wp2_with fail
        go_ret2
        rw [HE.out]
        exact NoteOut.none hbw
end Go.Proofs.YticikmkehobblaaDoor.Ss
