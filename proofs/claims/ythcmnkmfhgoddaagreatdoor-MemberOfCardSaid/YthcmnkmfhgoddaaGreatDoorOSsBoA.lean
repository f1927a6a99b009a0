/-
  The document's own word on whether a reply may be. Conditions: texts at most 2^47 bytes, at most 2^47 pairs.
  Whether sessions may be: the program's isSeq, isKept, fits, Check; the document's one, Is. Conditions: lengths at most 2^47.
-/
import Derived.Test.YthcmnkmfhgoddaaGreatDoorOOdPCA
import Derived.Test.YthcmnkmfhgoddaaGreatDoorOBndA
import Derived.BigQuiet
import Derived.Test.YthcmnkmfhgoddaaGreatDoorOSsMRA
namespace Go.Proofs.YthcmnkmfhgoddaaGreatDoor.Od
open Go.RowKit Bnd
open Go.Proofs.YthcmnkmfhgoddaaGreatDoor.O (Bd isB keyB)
end Go.Proofs.YthcmnkmfhgoddaaGreatDoor.Od

namespace Go.Proofs.YthcmnkmfhgoddaaGreatDoor.Ss
open Go.RowKit Bnd
open Go.Proofs.YthcmnkmfhgoddaaGreatDoor.Od (Rep SP isR seqB amongB rv BoxR)
structure FitZ (s : Ses) : Prop where
  val : s.rep.val.size ≤ 140737488355328
  n : s.rep.ps.length ≤ 140737488355328
  ps : ∀ p ∈ s.rep.ps, p.1.size ≤ 140737488355328 ∧ p.2.size ≤ 140737488355328
theorem isSeq_any (n : Int) (w : World) : Calls Tryz.prog 227 #[.int .i64 n] w fun e w' => e = .returned (.bool (seqB n)) ∧ w = w' := by
  by_cases h1 : 1 ≤ n
  · have g1 : ((1 : Int) ≤ n) = True := eq_true h1
    go_enter Tryz.func227, Tryz.ntmps227
    go_wp2_with fail
    go_ret
    exact ⟨ret_bool (by unfold seqB amongB; simp [h1]), rfl⟩
  · have g1 : ((1 : Int) ≤ n) = False := eq_false h1
    rw [show seqB n = false by unfold seqB amongB; exact decide_eq_false (fun h => h1 h.1)]
    go_enter Tryz.func227, Tryz.ntmps227
    go_wp2_with fail
    go_ret
    exact ⟨rfl, rfl⟩
set_option maxHeartbeats 4000000 in
set_option maxRecDepth 100000 in
theorem isKept_any (s : Ses) (p : Value) (w : World) (hp : SP w w.heap.size p s.rep.ps) (f : FitZ s) :
    Calls Tryz.prog 228 #[rv s.rep p] w fun e w' => e = .returned (.bool (keptB s.rep)) ∧ Below w.heap.size w w' := by
  obtain ⟨f1, f2, f3⟩ := f
  obtain ⟨r, hr⟩ : ∃ r, s.rep = r := ⟨_, rfl⟩
  rw [hr] at hp f1 f2 f3 ⊢
  clear hr
  obtain ⟨A, c, rfl⟩ := hp.form
  have cc := fun w h => Od.checkR_any r (.slice A r.ps.length c) w h f1 f2 f3
  have kp : ∀ wx, Below w.heap.size w wx → SP wx wx.heap.size (.slice A r.ps.length c) r.ps := fun wx h => (hp.below h).more h.size
  cases h : isR r with
  | false =>
    rw [show keptB r = false by unfold keptB; rw [h]; rfl]
    rw [show Od.chkR r = 70 by unfold Od.chkR; rw [h]; rfl] at cc
    clear h
    go_enter Tryz.func228, Tryz.ntmps228
    go_wp2_with fail
    refine (cc _ (kp _ (by (repeat' (first | with_reducible assumption | with_reducible exact Below.refl _ _ | with_reducible refine Below.alloc ?_ ?_ _ | with_reducible refine Below.setCell ?_ ?_ _ | with_reducible refine Below.drew ?_ | omega | (simp; done) | (simp; omega)))))).mono ?_
    rintro e w1 ⟨rfl, b1⟩
    have hb : Below w.heap.size w w1 := (show Below w.heap.size w _ from (by (repeat' (first | with_reducible assumption | with_reducible exact Below.refl _ _ | with_reducible refine Below.alloc ?_ ?_ _ | with_reducible refine Below.setCell ?_ ?_ _ | with_reducible refine Below.drew ?_ | omega | (simp; done) | (simp; omega))))).trans (b1.mono (by simp))
    clear b1
    go_wp2_with fail
    go_ret
    exact ⟨rfl, hb⟩
  | true =>
    rw [show Od.chkR r = 0 by unfold Od.chkR; rw [h]; rfl] at cc
    by_cases h1 : r.val.size ≤ 512
    · rw [show keptB r = decide (r.ps.length = 0) by unfold keptB; rw [h]; simp [h1]]
      have g1 : ((r.val.size : Int) ≤ 512) = True := eq_true (by omega)
      have B0 := BoxR.new w r (.slice A r.ps.length c)
      clear h h1
      go_enter Tryz.func228, Tryz.ntmps228
      go_wp2_with fail
      refine (cc _ (kp _ (by (repeat' (first | with_reducible assumption | with_reducible exact Below.refl _ _ | with_reducible refine Below.alloc ?_ ?_ _ | with_reducible refine Below.setCell ?_ ?_ _ | with_reducible refine Below.drew ?_ | omega | (simp; done) | (simp; omega)))))).mono ?_
      rintro e w1 ⟨rfl, b1⟩
      have B1 := B0.keep b1
      have hb : Below w.heap.size w w1 := (show Below w.heap.size w _ from (by (repeat' (first | with_reducible assumption | with_reducible exact Below.refl _ _ | with_reducible refine Below.alloc ?_ ?_ _ | with_reducible refine Below.setCell ?_ ?_ _ | with_reducible refine Below.drew ?_ | omega | (simp; done) | (simp; omega))))).trans (b1.mono (by simp))
      clear b1 B0
      obtain ⟨p_0, ⟨p_1, p_2, p_3, p_4, p_5⟩, p_6⟩ := _root_.id B1
      go_wp2_with fail
      go_ret
      exact ⟨ret_bool (by rw [Bool.eq_iff_iff]; simp), hb⟩
    · rw [show keptB r = false by unfold keptB; rw [h]; simp [h1]]
      have g1 : ((r.val.size : Int) ≤ 512) = False := eq_false (by omega)
      have B0 := BoxR.new w r (.slice A r.ps.length c)
      clear h h1
      go_enter Tryz.func228, Tryz.ntmps228
      go_wp2_with fail
      refine (cc _ (kp _ (by (repeat' (first | with_reducible assumption | with_reducible exact Below.refl _ _ | with_reducible refine Below.alloc ?_ ?_ _ | with_reducible refine Below.setCell ?_ ?_ _ | with_reducible refine Below.drew ?_ | omega | (simp; done) | (simp; omega)))))).mono ?_
      rintro e w1 ⟨rfl, b1⟩
      have B1 := B0.keep b1
      have hb : Below w.heap.size w w1 := (show Below w.heap.size w _ from (by (repeat' (first | with_reducible assumption | with_reducible exact Below.refl _ _ | with_reducible refine Below.alloc ?_ ?_ _ | with_reducible refine Below.setCell ?_ ?_ _ | with_reducible refine Below.drew ?_ | omega | (simp; done) | (simp; omega))))).trans (b1.mono (by simp))
      clear b1 B0
      obtain ⟨p_0, ⟨p_1, p_2, p_3, p_4, p_5⟩, p_6⟩ := _root_.id B1
      go_wp2_with fail
      go_ret
      exact ⟨rfl, hb⟩
set_option maxHeartbeats 4000000 in
set_option maxRecDepth 100000 in
theorem fits_any (z : Zs) (w : World) (hp : SP w w.heap.size z.2 z.1.rep.ps) (f : FitZ z.1) :
    Calls Tryz.prog 161 #[sv z] w fun e w' => e = .returned (.bool (fitsB z.1)) ∧ Below w.heap.size w w' := by
  have c1 := fun w => isSeq_any z.1.client w
  have c2 := fun w => isSeq_any z.1.seq w
  have c3 := fun w h => isKept_any z.1 z.2 w h f
  have kp : ∀ wx, Below w.heap.size w wx → SP wx wx.heap.size z.2 z.1.rep.ps := fun wx h => (hp.below h).more h.size
  obtain ⟨⟨cl, sq, r⟩, p⟩ := z
  simp only at c1 c2 c3 kp
  obtain ⟨pa, pc, rfl⟩ : ∃ A c, p = .slice A r.ps.length c := hp.form
  cases h1 : seqB cl with
  | false =>
    rw [show fitsB ⟨cl, sq, r⟩ = false by unfold fitsB; simp [h1]]
    rw [h1] at c1
    clear h1
    go_enter Tryz.func161, Tryz.ntmps161
    go_wp2_with fail
    refine (c1 _).mono ?_
    rintro e w1 ⟨rfl, rfl⟩
    go_wp2_with fail
    go_ret
    exact ⟨rfl, (by (repeat' (first | with_reducible assumption | with_reducible exact Below.refl _ _ | with_reducible refine Below.alloc ?_ ?_ _ | with_reducible refine Below.setCell ?_ ?_ _ | with_reducible refine Below.drew ?_ | omega | (simp; done) | (simp; omega))))⟩
  | true =>
    rw [h1] at c1
    cases h2 : seqB sq with
    | false =>
      rw [show fitsB ⟨cl, sq, r⟩ = false by unfold fitsB; simp [h2]]
      rw [h2] at c2
      clear h1 h2
      go_enter Tryz.func161, Tryz.ntmps161
      go_wp2_with fail
      refine (c1 _).mono ?_
      rintro e w1 ⟨rfl, rfl⟩
      go_wp2_with fail
      refine (c2 _).mono ?_
      rintro e w1 ⟨rfl, rfl⟩
      go_wp2_with fail
      go_ret
      exact ⟨rfl, (by (repeat' (first | with_reducible assumption | with_reducible exact Below.refl _ _ | with_reducible refine Below.alloc ?_ ?_ _ | with_reducible refine Below.setCell ?_ ?_ _ | with_reducible refine Below.drew ?_ | omega | (simp; done) | (simp; omega))))⟩
    | true =>
      rw [show fitsB ⟨cl, sq, r⟩ = keptB r by unfold fitsB; simp [h1, h2]]
      rw [h2] at c2
      clear h1 h2
      go_enter Tryz.func161, Tryz.ntmps161
      go_wp2_with fail
      refine (c1 _).mono ?_
      rintro e w1 ⟨rfl, rfl⟩
      go_wp2_with fail
      refine (c2 _).mono ?_
      rintro e w1 ⟨rfl, rfl⟩
      go_wp2_with fail
      refine (c3 _ (kp _ (by (repeat' (first | with_reducible assumption | with_reducible exact Below.refl _ _ | with_reducible refine Below.alloc ?_ ?_ _ | with_reducible refine Below.setCell ?_ ?_ _ | with_reducible refine Below.drew ?_ | omega | (simp; done) | (simp; omega)))))).mono ?_
      rintro e w1 ⟨rfl, b1⟩
      have hb : Below w.heap.size w w1 := (show Below w.heap.size w _ from (by (repeat' (first | with_reducible assumption | with_reducible exact Below.refl _ _ | with_reducible refine Below.alloc ?_ ?_ _ | with_reducible refine Below.setCell ?_ ?_ _ | with_reducible refine Below.drew ?_ | omega | (simp; done) | (simp; omega))))).trans (b1.mono (by simp))
      clear b1
      go_wp2_with fail
      go_ret
      exact ⟨rfl, hb⟩
theorem ses_drop (zs : List Zs) (k : Nat) (h : k < zs.length) : (ses zs).drop k = zs[k].1 :: (ses zs).drop (k + 1) := by
  rw [List.drop_eq_getElem_cons (by simpa using h)]
  simp
set_option maxHeartbeats 8000000 in
set_option maxRecDepth 100000 in
theorem check_any (v : Value) (zs : List Zs) (w : World) (hv : SZ w w.heap.size v zs) (hp : PZ w w.heap.size zs) (hf : ∀ z ∈ zs, FitZ z.1) (hl : zs.length ≤ 140737488355328) :
    Calls Tryz.prog 85 #[v] w fun e w' => e = .returned (.int .i64 (chkS (ses zs))) ∧ Below w.heap.size w w' := by
  obtain ⟨A, c, rfl⟩ := hv.form
  by_cases h64 : zs.length ≤ 64
  rotate_left
  · rw [show chkS (ses zs) = 80 by unfold chkS isS; simp [h64]]
    have g1 : ((zs.length : Int) > 64) = True := eq_true (by omega)
    go_enter Tryz.func85, Tryz.ntmps85
    go_wp2_with fail
    go_ret
    exact ⟨rfl, (by (repeat' (first | with_reducible assumption | with_reducible exact Below.refl _ _ | with_reducible refine Below.alloc ?_ ?_ _ | with_reducible refine Below.setCell ?_ ?_ _ | with_reducible refine Below.drew ?_ | omega | (simp; done) | (simp; omega))))⟩
  have g1 : ((zs.length : Int) > 64) = False := eq_false (by omega)
  obtain ⟨R, hR⟩ : ∃ R, riseB 0 ((ses zs).drop 0) = R := ⟨_, rfl⟩
  have he : chkS (ses zs) = if R = true then 0 else 80 := by
    rw [← hR]
    unfold chkS isS
    simp [h64]
  rw [he]
  have HR0 := Lib.hid hR
  obtain ⟨n, hn⟩ : ∃ n, n = zs.length := ⟨_, rfl⟩
  have HN := Lib.hid hn
  rw [← hn] at g1 hl h64 ⊢
  have hv2 := Lib.hid hv
  clear he hR hn hv
  go_enter Tryz.func85, Tryz.ntmps85
  go_wp2_with fail
  go_loopw [3, 5, 11] (fun v3 _ vi wr => ∃ (k : Nat) (last : Int), k ≤ n ∧ vi = .int .i64 (k : Int) ∧ v3 = .int .i64 last ∧ Hid (riseB last ((ses zs).drop k) = R) ∧ Below w.heap.size w wr) (fun _ _ vi _ => n - (intOf vi).toNat)
  case atStart => exact ⟨0, 0, Nat.zero_le _, rfl, rfl, HR0, (by (repeat' (first | with_reducible assumption | with_reducible exact Below.refl _ _ | with_reducible refine Below.alloc ?_ ?_ _ | with_reducible refine Below.setCell ?_ ?_ _ | with_reducible refine Below.drew ?_ | omega | (simp; done) | (simp; omega))))⟩
  case round =>
    obtain ⟨k, last, hk, rfl, rfl, HR, hbw⟩ := hrel
    have hz := hbw.size
    by_cases hlt : k < n
    · have hkx : k < zs.length := by rw [← HN.out]; exact hlt
      have hv3 := hv2.out
      rw [← HN.out] at hv3
      obtain ⟨b, o, rfl, hb, q0, q1, q2, q3, q4, q5, q6⟩ := (hv3.below hbw).at_ hkx
      have hpk := hp zs[k] (List.getElem_mem hkx)
      have hfk := hf zs[k] (List.getElem_mem hkx)
      have hd := ses_drop zs k hkx
      obtain ⟨z, hzk⟩ : ∃ z, zs[k] = z := ⟨_, rfl⟩
      rw [hzk] at q0 q1 q2 q3 q4 q5 q6 hpk hfk hd
      have kp : ∀ wx, Below w.heap.size w wx → SP wx wx.heap.size z.2 z.1.rep.ps := fun wx h => (hpk.below h).more h.size
      have cf := fun w h => fits_any z w h hfk
      have HD := Lib.hid (show riseB last (z.1 :: (ses zs).drop (k + 1)) = R by rw [← hd]; exact HR.out)
      obtain ⟨⟨cl, sq, r⟩, pv⟩ := z
      simp only at q0 q1 q2 q3 q4 q5 q6 cf kp
      obtain ⟨pa, pc, rfl⟩ : ∃ A c, pv = .slice A r.ps.length c := hpk.form
      have hk1 : (k : Int) < (n : Int) := by omega
      have hbz : b < wr.heap.size := by omega
      clear hd hzk hpk hfk hv3 hkx HR
      by_cases hc : cl ≤ last
      · have hRf : R = false := by rw [← HD.out, riseB, if_neg (by simp only; omega)]
        subst hRf
        clear HD
        have e1 : (cl ≤ last) = True := eq_true hc
        clear hc
        go_wp2_with fail
        go_ret
        exact ⟨rfl, (by (repeat' (first | with_reducible assumption | with_reducible exact Below.refl _ _ | with_reducible refine Below.alloc ?_ ?_ _ | with_reducible refine Below.setCell ?_ ?_ _ | with_reducible refine Below.drew ?_ | omega | (simp; done) | (simp; omega))))⟩
      · have e1 : (cl ≤ last) = False := eq_false hc
        cases hfb : fitsB ⟨cl, sq, r⟩ with
        | false =>
          have hRf : R = false := by rw [← HD.out, riseB, if_neg (by rw [hfb]; simp)]
          subst hRf
          rw [hfb] at cf
          clear HD hfb hc
          go_wp2_with fail
          refine (cf _ (kp _ (by (repeat' (first | with_reducible assumption | with_reducible exact Below.refl _ _ | with_reducible refine Below.alloc ?_ ?_ _ | with_reducible refine Below.setCell ?_ ?_ _ | with_reducible refine Below.drew ?_ | omega | (simp; done) | (simp; omega)))))).mono ?_
          rintro e w1 ⟨rfl, b1⟩
          have hb1 : Below w.heap.size w w1 := (show Below w.heap.size w _ from (by (repeat' (first | with_reducible assumption | with_reducible exact Below.refl _ _ | with_reducible refine Below.alloc ?_ ?_ _ | with_reducible refine Below.setCell ?_ ?_ _ | with_reducible refine Below.drew ?_ | omega | (simp; done) | (simp; omega))))).trans (b1.mono (by simp; omega))
          clear b1
          go_wp2_with fail
          go_ret
          exact ⟨rfl, hb1⟩
        | true =>
          have HS := Lib.hid (show riseB cl ((ses zs).drop (k + 1)) = R by rw [← HD.out, riseB, if_pos ⟨by simp only; omega, hfb⟩])
          rw [hfb] at cf
          clear HD hfb hc
          go_wp2_with fail
          refine (cf _ (kp _ (by (repeat' (first | with_reducible assumption | with_reducible exact Below.refl _ _ | with_reducible refine Below.alloc ?_ ?_ _ | with_reducible refine Below.setCell ?_ ?_ _ | with_reducible refine Below.drew ?_ | omega | (simp; done) | (simp; omega)))))).mono ?_
          rintro e w1 ⟨rfl, b1⟩
          have hb1 : Below w.heap.size w w1 := (show Below w.heap.size w _ from (by (repeat' (first | with_reducible assumption | with_reducible exact Below.refl _ _ | with_reducible refine Below.alloc ?_ ?_ _ | with_reducible refine Below.setCell ?_ ?_ _ | with_reducible refine Below.drew ?_ | omega | (simp; done) | (simp; omega))))).trans (b1.mono (by simp; omega))
          have y0 : w1.cell? ⟨wr.heap.size, 0, none⟩ = some (.int .i64 cl) := by rw [b1.cell (p := ⟨wr.heap.size, 0, none⟩) (by simp)]; simp [go_sem]
          have hy : wr.heap.size < w1.heap.size := by have := b1.size; simp at this; omega
          clear b1
          go_wp2_with fail
          go_roundw
          case rel => exact ⟨k + 1, cl, by omega, by go_num, rfl, HS, hb1⟩
          case measure => simp [intOf]; omega
    · obtain rfl : k = n := by omega
      have hRt : R = true := by
        rw [← HR.out, HN.out]
        have : (ses zs).drop zs.length = [] := by simp
        rw [this]; rfl
      subst hRt
      clear HR
      go_wp2_with fail
      go_ret
      exact ⟨rfl, (by (repeat' (first | with_reducible assumption | with_reducible exact Below.refl _ _ | with_reducible refine Below.alloc ?_ ?_ _ | with_reducible refine Below.setCell ?_ ?_ _ | with_reducible refine Below.drew ?_ | omega | (simp; done) | (simp; omega))))⟩
end Go.Proofs.YthcmnkmfhgoddaaGreatDoor.Ss
