/-
  The document's set: a session in the place of an earlier one. Conditions: sessions without pairs, at most 100,000.
  The document's word on whether sessions may be: one, Is. Conditions: lengths at most 2^47.
  The document's Note and Merge. Conditions: sessions without pairs, at most 5,000.
-/
import Derived.Test.YthcmnkmfhgoddaaGreatDoorKSsBFA
import Derived.Test.YthcmnkmfhgoddaaGreatDoorKRegA
import Derived.Test.YthcmnkmfhgoddaaGreatDoorKDsPNA
import Derived.Test.YthcmnkmfhgoddaaGreatDoorKSsBoA
import Derived.Test.YthcmnkmfhgoddaaGreatDoorKSfA
namespace Go.Proofs.YthcmnkmfhgoddaaGreatDoor.Ss
open Go.RowKit Bnd
open Go.Proofs.YthcmnkmfhgoddaaGreatDoor.Od (Rep SP ArgP OwnP rv BoxR)
open Ds (run_append2)
structure RW (W : World) (xs : List Zs) (z : Zs) (ys : List Zs) (L : Nat -> Bool) (u : Nat -> Value) (wx : World) : Prop where
 b : Below W.heap.size W wx
 o0 : L 0 = true -> L 4 = false -> ∃ h : Nat, u 0 = .slice (some ⟨h, 0, none⟩) 0 0 /\ OwnZ wx W.heap.size (u 0) [] /\ h < wx.heap.size /\ (L 6 = true -> u 6 ≠ .slice (some ⟨h, 0, none⟩) 1 1)
 o4 : L 4 = true -> L 7 = false -> OwnZ wx W.heap.size (u 4) xs
 o6 : L 6 = true -> L 7 = false -> ∃ g : Nat, u 6 = .slice (some ⟨g, 0, none⟩) 1 1 /\ g < wx.heap.size /\ Cs wx g (0 + 0 * 7) z
 o7 : L 7 = true -> L 9 = false -> OwnZ wx W.heap.size (u 7) (xs ++ [z])
 o9 : L 9 = true -> OwnZ wx W.heap.size (u 9) (xs ++ [z] ++ ys)
theorem RW.made {W wx : World} {xs ys : List Zs} {z : Zs} {L : Nat -> Bool} {u : Nat -> Value} (h : RW W xs z ys L u wx) (h4 : L 4 = false) (h7 : L 7 = false) (h9 : L 9 = false) :
  RW W xs z ys (St.mark L 0) (St.upd u 0 (.slice (some ⟨wx.heap.size, 0, none⟩) 0 0)) (wx.alloc (.cells #[] 89)) := by
 have hz := h.b.size
 refine ⟨h.b.alloc hz _, fun _ _ => ⟨wx.heap.size, rfl, ownZ_base (ownZ_empty wx) hz, by simp, fun h6 e => ?_⟩, fun h' => ?_, fun h6 _ => ?_, fun h' => ?_, fun h' => ?_⟩
 ·have h6 : L 6 = true := h6
  obtain ⟨g, g1, g2, _⟩ := h.o6 h6 h7
  have e : u 6 = .slice (some ⟨wx.heap.size, 0, none⟩) 1 1 := e
  rw [g1] at e
  injection e with e _ _
  injection e with e
  injection e with e _ _
  omega
 ·rw [show St.mark L 0 4 = L 4 from rfl, h4] at h'; cases h'
 ·have h6 : L 6 = true := h6
  obtain ⟨g, g1, g2, g3⟩ := h.o6 h6 h7
  exact ⟨g, g1, by simp; omega, g3.keep fun i => World.cell?_alloc_lt wx _ ⟨g, i, none⟩ g2⟩
 ·rw [show St.mark L 0 7 = L 7 from rfl, h7] at h'; cases h'
 ·rw [show St.mark L 0 9 = L 9 from rfl, h9] at h'; cases h'
theorem RW.one {W wx : World} {xs ys : List Zs} {z : Zs} {L : Nat -> Bool} {u : Nat -> Value} (h : RW W xs z ys L u wx) (h7 : L 7 = false) (h9 : L 9 = false) :
  RW W xs z ys (St.mark L 6) (St.upd u 6 (.slice (some ⟨wx.heap.size, 0, none⟩) 1 1)) (wx.alloc (.cells #[.int .i64 z.1.client, .int .i64 z.1.seq, .int .i64 z.1.rep.code, .int .i64 z.1.rep.err, .bool z.1.rep.has, .string z.1.rep.val, z.2] 89)) := by
 have hz := h.b.size
 refine ⟨h.b.alloc hz _, fun h0 h4 => ?_, fun h4 _ => ownZ_alloc (h.o4 h4 h7) _, fun _ _ => ⟨wx.heap.size, rfl, by simp, ?_⟩, fun h' => ?_, fun h' => ?_⟩
 ·obtain ⟨g, g1, g2, g3, _⟩ := h.o0 h0 h4
  refine ⟨g, g1, ownZ_alloc g2 _, by simp; omega, fun _ e => ?_⟩
  have e : (Value.slice (some ⟨wx.heap.size, 0, none⟩) 1 1) = .slice (some ⟨g, 0, none⟩) 1 1 := e
  injection e with e _ _
  injection e with e
  injection e with e _ _
  omega
 ·exact ⟨by simp, by simp, by simp, by simp, by simp, by simp, by simp⟩
 ·rw [show St.mark L 6 7 = L 7 from rfl, h7] at h'; cases h'
 ·rw [show St.mark L 6 9 = L 9 from rfl, h9] at h'; cases h'
theorem RW.app {W wx : World} {xs ys : List Zs} {z : Zs} {L : Nat -> Bool} {u : Nat -> Value} (h : RW W xs z ys L u wx) (h0 : L 0 = true) (h4 : L 4 = false) (h7 : L 7 = false) (h9 : L 9 = false)
  {v : Value} (hv : ArgZ W v xs) (hone : ∀ z ∈ xs, z.2.oneCell' = true) (hl : xs.length <= 100000) (ty : TypeId) :
  ∃ v' w', (∃ A c, v' = .slice A xs.length c) /\ (Builtin.append_ #[35, 35] ty #[u 0, v]).run Tryz.prog wx = .ok v' w' /\ RW W xs z ys (St.mark L 4) (St.upd u 4 v') w' := by
 have hz := h.b.size
 obtain ⟨q, q1, q2, q3, q4⟩ := h.o0 h0 h4
 obtain ⟨v', w', k1, k2, k3, k4⟩ := run_append_arg q2 hz (hv.keep h.b) hone (by simp; omega) ty
 rw [List.nil_append] at k2
 refine ⟨v', w', (SZ.of_own k2).form, k1, h.b.trans k3, fun _ h' => (by simp [St.mark] at h'), fun _ _ => k2, fun h6 _ => ?_, fun h' => ?_, fun h' => ?_⟩
 ·have h6 : L 6 = true := h6
  obtain ⟨g, g1, g2, g3⟩ := h.o6 h6 h7
  have hne : (u 0).ownBlock ≠ some g := by
   intro e
   rw [q1] at e
   have e' : q = g := by simpa [Value.ownBlock] using e
   exact q4 h6 (by rw [g1, e'])
  exact ⟨g, g1, Nat.lt_of_lt_of_le g2 k4.size, g3.keep fun i => World.cell?_of_block (a := ⟨g, i, none⟩) (k4.block g g2 (fun e => hne e.symm))⟩
 ·rw [show St.mark L 4 7 = L 7 from rfl, h7] at h'; cases h'
 ·rw [show St.mark L 4 9 = L 9 from rfl, h9] at h'; cases h'
theorem NoP.take {k : Nat} {zs : List Zs} (h : NoP zs) : NoP (zs.take k) := fun z hz => h z (List.mem_of_mem_take hz)
theorem NoP.drop {k : Nat} {zs : List Zs} (h : NoP zs) : NoP (zs.drop k) := fun z hz => h z (List.mem_of_mem_drop hz)
theorem NoP.app {a b : List Zs} (h : NoP a) (h' : NoP b) : NoP (a ++ b) := fun z hz => by
 rcases List.mem_append.1 hz with hz | hz
 ·exact h z hz
 ·exact h' z hz
theorem NoP.one {zs : List Zs} (h : NoP zs) : ∀ z ∈ zs, z.2.oneCell' = true := fun z hz => by
 obtain ⟨_, A, c, e⟩ := h z hz
 rw [e]; rfl
end Go.Proofs.YthcmnkmfhgoddaaGreatDoor.Ss

namespace Go.Proofs.YthcmnkmfhgoddaaGreatDoor.Ss
open Go.RowKit Bnd
open Go.Proofs.YthcmnkmfhgoddaaGreatDoor.Od (Rep SP isR seqB amongB rv BoxR)
theorem fits_iff (s : Ses) : fitsB s = true ↔ ((1 <= s.client /\ s.client <= 1099511627776) /\ (1 <= s.seq /\ s.seq <= 1099511627776)) /\ (isR s.rep = true /\ s.rep.val.size <= 512) /\ s.rep.ps.length = 0 := by
  unfold fitsB keptB seqB amongB
  simp only [Bool.and_eq_true, decide_eq_true_eq]
set_option maxHeartbeats 8000000 in
set_option maxRecDepth 100000 in
theorem rone_any (z : Zs) (w : World) (hp : SP w w.heap.size z.2 z.1.rep.ps) (f : FitZ z.1) :
    Calls Tryz.prog 103 #[sv z] w fun e w' => e = .returned (.bool (fitsB z.1)) /\ Below w.heap.size w w' := by
  obtain ⟨f1, f2, f3⟩ := f
  obtain ⟨⟨cl, sq, r⟩, pv⟩ := z
  simp only at hp f1 f2 f3 ⊢
  obtain ⟨pa, pc, rfl⟩ : ∃ A c, pv = .slice A r.ps.length c := hp.form
  have cc := fun w h => Od.risR_any r (.slice pa r.ps.length pc) w h f1 f2 f3
  have kp : ∀ wx, Below w.heap.size w wx -> SP wx wx.heap.size (.slice pa r.ps.length pc) r.ps := fun wx h => (hp.below h).more h.size
  obtain ⟨R, hR⟩ : ∃ R, fitsB ⟨cl, sq, r⟩ = R := ⟨_, rfl⟩
  have hno : ¬ (((1 <= cl /\ cl <= 1099511627776) /\ (1 <= sq /\ sq <= 1099511627776)) /\ (isR r = true /\ r.val.size <= 512) /\ r.ps.length = 0) -> R = false := fun h => by
    rw [<- hR]
    cases hx : fitsB ⟨cl, sq, r⟩ with
    | false => rfl
    | true => exact absurd ((fits_iff _).1 hx) h
  have hye : (((1 <= cl /\ cl <= 1099511627776) /\ (1 <= sq /\ sq <= 1099511627776)) /\ (isR r = true /\ r.val.size <= 512) /\ r.ps.length = 0) -> R = true := fun h => by rw [<- hR]; exact (fits_iff _).2 h
  rw [hR]
  clear hR
  by_cases a1 : 1 <= cl
  rotate_left
  · have e : R = false := hno (fun h => a1 h.1.1.1)
    subst e
    have g0 : (cl >= 1) = False := eq_false (by omega)
    clear hno hye a1
    go_enter Tryz.func103, Tryz.ntmps103
    go_wp2_with fail
    go_ret
    exact ⟨rfl, (by exact bex0)⟩
  by_cases a2 : cl <= 1099511627776
  rotate_left
  · have e : R = false := hno (fun h => a2 h.1.1.2)
    subst e
    have g0 : (cl >= 1) = True := eq_true (by omega)
    have g1 : (cl <= 1099511627776) = False := eq_false (by omega)
    clear hno hye a1 a2
    go_enter Tryz.func103, Tryz.ntmps103
    go_wp2_with fail
    go_ret
    exact ⟨rfl, (by exact bex0)⟩
  by_cases a3 : 1 <= sq
  rotate_left
  · have e : R = false := hno (fun h => a3 h.1.2.1)
    subst e
    have g0 : (cl >= 1) = True := eq_true (by omega)
    have g1 : (cl <= 1099511627776) = True := eq_true (by omega)
    have g2 : (sq >= 1) = False := eq_false (by omega)
    clear hno hye a1 a2 a3
    go_enter Tryz.func103, Tryz.ntmps103
    go_wp2_with fail
    go_ret
    exact ⟨rfl, (by exact bex0)⟩
  by_cases a4 : sq <= 1099511627776
  rotate_left
  · have e : R = false := hno (fun h => a4 h.1.2.2)
    subst e
    have g0 : (cl >= 1) = True := eq_true (by omega)
    have g1 : (cl <= 1099511627776) = True := eq_true (by omega)
    have g2 : (sq >= 1) = True := eq_true (by omega)
    have g3 : (sq <= 1099511627776) = False := eq_false (by omega)
    clear hno hye a1 a2 a3 a4
    go_enter Tryz.func103, Tryz.ntmps103
    go_wp2_with fail
    go_ret
    exact ⟨rfl, (by exact bex0)⟩
  have g0 : (cl >= 1) = True := eq_true (by omega)
  have g1 : (cl <= 1099511627776) = True := eq_true (by omega)
  have g2 : (sq >= 1) = True := eq_true (by omega)
  have g3 : (sq <= 1099511627776) = True := eq_true (by omega)
  cases hb : isR r with
  | false =>
    have e : R = false := hno (fun h => by have := h.2.1.1; rw [hb] at this; cases this)
    subst e
    rw [hb] at cc
    clear hno hye hb a1 a2 a3 a4
    go_enter Tryz.func103, Tryz.ntmps103
    go_wp2_with fail
    refine (cc _ (kp _ (by exact bex0))).mono ?_
    rintro e w1 ⟨rfl, b1⟩
    obtain ⟨_, ⟨q0, q1, q2, q3, q4, q5, q6⟩, _⟩ := (BoxS.new w (⟨cl, sq, r⟩, .slice pa r.ps.length pc)).keep b1
    have hb : Below w.heap.size w w1 := (show Below w.heap.size w _ from (by exact bex0)).trans (b1.mono (by simp))
    have hz : w.heap.size < w1.heap.size := by have := b1.size; simp at this; omega
    clear b1
    go_wp2_with fail
    go_ret
    exact ⟨rfl, hb⟩
  | true =>
    rw [hb] at cc
    by_cases h5 : r.val.size <= 512
    · have g5 : ((r.val.size : Int) <= 512) = True := eq_true (by omega)
      have hRd : R = decide (r.ps.length = 0) := by
        by_cases h6 : r.ps.length = 0
        · rw [hye ⟨⟨⟨a1, a2⟩, a3, a4⟩, ⟨hb, h5⟩, h6⟩, decide_eq_true h6]
        · rw [hno (fun h => h6 h.2.2), decide_eq_false h6]
      subst hRd
      clear hno hye hb a1 a2 a3 a4 h5
      go_enter Tryz.func103, Tryz.ntmps103
      go_wp2_with fail
      refine (cc _ (kp _ (by exact bex0))).mono ?_
      rintro e w1 ⟨rfl, b1⟩
      obtain ⟨_, ⟨q0, q1, q2, q3, q4, q5, q6⟩, _⟩ := (BoxS.new w (⟨cl, sq, r⟩, .slice pa r.ps.length pc)).keep b1
      have hb : Below w.heap.size w w1 := (show Below w.heap.size w _ from (by exact bex0)).trans (b1.mono (by simp))
      have hz : w.heap.size < w1.heap.size := by have := b1.size; simp at this; omega
      clear b1
      go_wp2_with fail
      go_ret
      exact ⟨ret_bool (by rw [Bool.eq_iff_iff]; simp), hb⟩
    · have g5 : ((r.val.size : Int) <= 512) = False := eq_false (by omega)
      have e : R = false := hno (fun h => h5 h.2.1.2)
      subst e
      clear hno hye hb a1 a2 a3 a4 h5
      go_enter Tryz.func103, Tryz.ntmps103
      go_wp2_with fail
      refine (cc _ (kp _ (by exact bex0))).mono ?_
      rintro e w1 ⟨rfl, b1⟩
      obtain ⟨_, ⟨q0, q1, q2, q3, q4, q5, q6⟩, _⟩ := (BoxS.new w (⟨cl, sq, r⟩, .slice pa r.ps.length pc)).keep b1
      have hb : Below w.heap.size w w1 := (show Below w.heap.size w _ from (by exact bex0)).trans (b1.mono (by simp))
      have hz : w.heap.size < w1.heap.size := by have := b1.size; simp at this; omega
      clear b1
      go_wp2_with fail
      go_ret
      exact ⟨rfl, hb⟩
def prevC (zs : List Zs) (k : Nat) : Int := if k = 0 then 0 else (zs.getD (k - 1) (Ses.zero, undef)).1.client
set_option maxHeartbeats 8000000 in
set_option maxRecDepth 100000 in
theorem ris_any (v : Value) (zs : List Zs) (w : World) (hv : SZ w w.heap.size v zs) (hp : PZ w w.heap.size zs) (hf : ∀ z ∈ zs, FitZ z.1) (hl : zs.length <= 140737488355328) :
    Calls Tryz.prog 49 #[v] w fun e w' => e = .returned (.bool (isS (ses zs))) /\ Below w.heap.size w w' := by
  obtain ⟨A, c, rfl⟩ := hv.form
  by_cases h64 : zs.length <= 64
  rotate_left
  · rw [show isS (ses zs) = false by unfold isS; simp [h64]]
    have g1 : ((zs.length : Int) > 64) = True := eq_true (by omega)
    go_enter Tryz.func49, Tryz.ntmps49
    go_wp2_with fail
    go_ret
    exact ⟨rfl, (by exact bex0)⟩
  have g1 : ((zs.length : Int) > 64) = False := eq_false (by omega)
  obtain ⟨R, hR⟩ : ∃ R, riseB 0 ((ses zs).drop 0) = R := ⟨_, rfl⟩
  have he : isS (ses zs) = R := by
    rw [<- hR]
    unfold isS
    simp [h64]
  rw [he]
  have HR0 := Lib.hid (show riseB (prevC zs 0) ((ses zs).drop 0) = R from hR)
  obtain ⟨n, hn⟩ : ∃ n, n = zs.length := ⟨_, rfl⟩
  have HN := Lib.hid hn
  rw [<- hn] at g1 hl h64 ⊢
  have hv2 := Lib.hid hv
  clear he hR hn hv
  go_enter Tryz.func49, Tryz.ntmps49
  go_wp2_with fail
  go_loopw [3] (fun vi wr => ∃ (k : Nat), k <= n /\ vi = .int .i64 (k : Int) /\ Hid (riseB (prevC zs k) ((ses zs).drop k) = R) /\ Hid (∀ z ∈ zs.take k, fitsB z.1 = true) /\ Below w.heap.size w wr) (fun vi _ => n - (intOf vi).toNat)
  case atStart => exact ⟨0, Nat.zero_le _, rfl, HR0, Lib.hid (fun z hz => by cases hz), (by exact bex0)⟩
  case round =>
    obtain ⟨k, hk, rfl, HR, HF, hbw⟩ := hrel
    have hz := hbw.size
    by_cases hlt : k < n
    · have hkx : k < zs.length := by rw [<- HN.out]; exact hlt
      have hv3 := hv2.out
      rw [<- HN.out] at hv3
      obtain ⟨b, o, rfl, hb, q0, q1, q2, q3, q4, q5, q6⟩ := (hv3.below hbw).at_ hkx
      have hprev : ∀ k', k' + 1 = k -> wr.cell? ⟨b, o + k' * 7, none⟩ = some (.int .i64 (prevC zs k)) := by
        intro k' hk'
        have hkl : k' < zs.length := by omega
        obtain ⟨b', o', hA', hb', m0, _⟩ := (hv3.below hbw).at_ hkl
        injection hA' with hA'
        injection hA' with hA1 hA2 _
        subst hA1 hA2
        rw [m0]
        unfold prevC
        rw [if_neg (by omega)]
        rw [show k - 1 = k' by omega, List.getD_eq_getElem?_getD, List.getElem?_eq_getElem hkl]
        rfl
      have hpk := hp zs[k] (List.getElem_mem hkx)
      have hfk := hf zs[k] (List.getElem_mem hkx)
      have hd := ses_drop zs k hkx
      have hnx : prevC zs (k + 1) = zs[k].1.client := by
        unfold prevC
        rw [if_neg (by omega), List.getD_eq_getElem?_getD, List.getElem?_eq_getElem (show k + 1 - 1 < zs.length by omega)]
        rfl
      have htk : zs.take (k + 1) = zs.take k ++ [zs[k]] := List.take_succ_eq_append_getElem hkx
      obtain ⟨z, hzk⟩ : ∃ z, zs[k] = z := ⟨_, rfl⟩
      rw [hzk] at q0 q1 q2 q3 q4 q5 q6 hpk hfk hd hnx htk
      have kp : ∀ wx, Below wr.heap.size wr wx -> SP wx wx.heap.size z.2 z.1.rep.ps := fun wx h => (hpk.below (hbw.trans (h.mono hbw.size))).more (by have := h.size; omega)
      have cf : ∀ wx, Below wr.heap.size wr wx -> Calls Tryz.prog 103 #[sv z] wx fun e w' => e = .returned (.bool (fitsB z.1)) /\ Below wr.heap.size wr w' := by
        intro wx hx
        refine (rone_any z wx (kp wx hx) hfk).mono ?_
        rintro e w' ⟨rfl, b⟩
        exact ⟨rfl, hx.trans (b.mono hx.size)⟩
      have HD := Lib.hid (show riseB (prevC zs k) (z.1 :: (ses zs).drop (k + 1)) = R by rw [<- hd]; exact HR.out)
      have HNX := Lib.hid hnx
      have HTK := Lib.hid htk
      obtain ⟨pc0, hpc0⟩ : ∃ x, prevC zs k = x := ⟨_, rfl⟩
      rw [hpc0] at HD hprev
      have HP0 := Lib.hid hpc0
      obtain ⟨⟨cl, sq, r⟩, pv⟩ := z
      simp only at q0 q1 q2 q3 q4 q5 q6 cf kp
      obtain ⟨pa, pc, rfl⟩ : ∃ A c, pv = .slice A r.ps.length c := hpk.form
      have hbz : b < wr.heap.size := by omega
      have k0 : (0 <= (k : Int)) = True := eq_true (by omega)
      have k1 : ((k : Int) < (n : Int)) = True := eq_true (by omega)
      have hcell : ∀ wx, Below wr.heap.size wr wx -> Cs wx b (o + k * 7) (⟨cl, sq, r⟩, .slice pa r.ps.length pc) := fun wx hx => Cs.keep (w := wr) ⟨q0, q1, q2, q3, q4, q5, q6⟩ (fun i => hx.cell (p := ⟨b, i, none⟩) hbz)
      clear hd hzk hpk hfk hv3 hkx HR hpc0 hnx htk q0 q1 q2 q3 q4 q5 q6
      cases hfb : fitsB ⟨cl, sq, r⟩ with
      | false =>
        have hRf : R = false := by rw [<- HD.out, riseB, if_neg (by rw [hfb]; simp)]
        subst hRf
        rw [hfb] at cf
        clear HD hfb hprev HNX HTK HP0 HF
        go_wp2_with fail
        refine St.wp_region_stage (fun _ wx => Below wr.heap.size wr wx) (by kernel_rfl) (by kernel_rfl) (by kernel_rfl) (Below.refl _ _).drew ?_
        repeat (first
          | (apply St.step_past
             · rfl
             · exact fun L wx hS => hS
             simp only [Act.put, St.pu])
          | (apply St.step_give
             · rfl
             · intro L wx hS hcl hrd
               obtain ⟨q0, q1, q2, q3, q4, q5, q6⟩ := hcell wx hS
               simp only at q0 q1 q2 q3 q4 q5 q6
               go_simp
               try with_reducible rfl
             · exact fun L wx hS => hS
             simp only [Act.put, St.pu])
          | (apply St.step_into
             · rfl
             · intro wx
               go_simp
               exact ⟨rfl, rfl⟩
             · exact fun L wx hS hcl hrd => cf wx hS
             simp only [Act.put, St.pu]))
        refine St.step_last ?_
        intro L wx hS _
        clear cf hcell
        go_wp2_with fail
        go_ret
        exact ⟨rfl, hbw.trans (hS.mono hz)⟩
      | true =>
        rw [hfb] at cf
        have HF2 : Hid (∀ z ∈ zs.take (k + 1), fitsB z.1 = true) := Lib.hid (by
          rw [HTK.out]
          intro z hz
          rcases List.mem_append.1 hz with hz | hz
          · exact HF.out z hz
          · rw [List.mem_singleton] at hz; subst hz; exact hfb)
        by_cases hk0 : k = 0
        · have HS : Hid (riseB (prevC zs (k + 1)) ((ses zs).drop (k + 1)) = R) := Lib.hid (by
            have h0 : prevC zs k = 0 := by rw [hk0]; rfl
            rw [HNX.out, <- HD.out, riseB, if_pos ⟨by have := fits_client hfb; have h1 := HP0.out; simp only at this ⊢; omega, hfb⟩])
          have e1 : ((k : Int) > 0) = False := eq_false (by omega)
          have e4 : ((0 : Int) < (k : Int)) = False := eq_false (by omega)
          have e5 : (0 < k) = False := eq_false (by omega)
          clear hk0
          clear HD hfb hprev HNX HTK HP0 HF
          go_wp2_with fail
          refine St.wp_region_stage (fun _ wx => Below wr.heap.size wr wx) (by kernel_rfl) (by kernel_rfl) (by kernel_rfl) (Below.refl _ _).drew ?_
          repeat (first
            | (apply St.step_past
               · rfl
               · exact fun L wx hS => hS
               simp only [Act.put, St.pu])
            | (apply St.step_give
               · rfl
               · intro L wx hS hcl hrd
                 obtain ⟨q0, q1, q2, q3, q4, q5, q6⟩ := hcell wx hS
                 simp only at q0 q1 q2 q3 q4 q5 q6
                 go_simp
                 try with_reducible rfl
               · exact fun L wx hS => hS
               simp only [Act.put, St.pu])
            | (apply St.step_into
               · rfl
               · intro wx
                 go_simp
                 exact ⟨rfl, rfl⟩
               · exact fun L wx hS hcl hrd => cf wx hS
               simp only [Act.put, St.pu]))
          refine St.step_last ?_
          intro L wx hS _
          clear cf hcell
          go_wp2_with fail
          go_roundw
          case rel => exact ⟨k + 1, by omega, by go_num, HS, HF2, hbw.trans (hS.mono hz)⟩
          case measure => simp [intOf]; omega
        · obtain ⟨k', hk'⟩ : ∃ k', k' + 1 = k := ⟨k - 1, by omega⟩
          have hpr := hprev k' hk'
          have e1 : ((k : Int) > 0) = True := eq_true (by omega)
          have e4 : ((0 : Int) < (k : Int)) = True := eq_true (by omega)
          have e5 : (0 < k) = True := eq_true (by omega)
          have w4 : IntKind.i64.wrap ((k : Int) - 1) = (k' : Int) := by rw [IntKind.wrap_i64]; omega
          have w2 : (0 <= (k' : Int)) = True := eq_true (by omega)
          have w3 : ((k' : Int) < (n : Int)) = True := eq_true (by omega)
          have hpw : ∀ wx, Below wr.heap.size wr wx -> wx.cell? ⟨b, o + k' * 7, none⟩ = some (.int .i64 pc0) := fun wx hx => (hx.cell (p := ⟨b, o + k' * 7, none⟩) hbz).trans hpr
          clear hprev hpr
          by_cases hc : cl <= pc0
          · have hRf : R = false := by rw [<- HD.out, riseB, if_neg (by simp only; omega)]
            subst hRf
            have e3 : (cl <= pc0) = True := eq_true hc
            clear HD hfb HNX HTK HP0 HF HF2 hc hk' hk0
            go_wp2_with fail
            refine St.wp_region_stage (fun _ wx => Below wr.heap.size wr wx) (by kernel_rfl) (by kernel_rfl) (by kernel_rfl) (Below.refl _ _).drew ?_
            repeat (first
              | (apply St.step_past
                 · rfl
                 · exact fun L wx hS => hS
                 simp only [Act.put, St.pu])
              | (apply St.step_give
                 · rfl
                 · intro L wx hS hcl hrd
                   obtain ⟨q0, q1, q2, q3, q4, q5, q6⟩ := hcell wx hS
                   simp only at q0 q1 q2 q3 q4 q5 q6
                   have hpv := hpw wx hS
                   go_simp
                   try with_reducible rfl
                 · exact fun L wx hS => hS
                 simp only [Act.put, St.pu])
              | (apply St.step_into
                 · rfl
                 · intro wx
                   go_simp
                   exact ⟨rfl, rfl⟩
                 · exact fun L wx hS hcl hrd => cf wx hS
                 simp only [Act.put, St.pu]))
            refine St.step_last ?_
            intro L wx hS _
            clear hpw
            clear cf hcell
            go_wp2_with fail
            go_ret
            exact ⟨rfl, hbw.trans (hS.mono hz)⟩
          · have e3 : (cl <= pc0) = False := eq_false hc
            have HS : Hid (riseB (prevC zs (k + 1)) ((ses zs).drop (k + 1)) = R) := Lib.hid (by
              rw [HNX.out, <- HD.out, riseB, if_pos ⟨by simp only; omega, hfb⟩])
            clear HD hfb HNX HTK HP0 HF hc hk' hk0
            go_wp2_with fail
            refine St.wp_region_stage (fun _ wx => Below wr.heap.size wr wx) (by kernel_rfl) (by kernel_rfl) (by kernel_rfl) (Below.refl _ _).drew ?_
            repeat (first
              | (apply St.step_past
                 · rfl
                 · exact fun L wx hS => hS
                 simp only [Act.put, St.pu])
              | (apply St.step_give
                 · rfl
                 · intro L wx hS hcl hrd
                   obtain ⟨q0, q1, q2, q3, q4, q5, q6⟩ := hcell wx hS
                   simp only at q0 q1 q2 q3 q4 q5 q6
                   have hpv := hpw wx hS
                   go_simp
                   try with_reducible rfl
                 · exact fun L wx hS => hS
                 simp only [Act.put, St.pu])
              | (apply St.step_into
                 · rfl
                 · intro wx
                   go_simp
                   exact ⟨rfl, rfl⟩
                 · exact fun L wx hS hcl hrd => cf wx hS
                 simp only [Act.put, St.pu]))
            refine St.step_last ?_
            intro L wx hS _
            clear hpw
            clear cf hcell
            go_wp2_with fail
            go_roundw
            case rel => exact ⟨k + 1, by omega, by go_num, HS, HF2, hbw.trans (hS.mono hz)⟩
            case measure => simp [intOf]; omega
    · obtain rfl : k = n := by omega
      have hRt : R = true := by
        rw [<- HR.out, HN.out]
        have : (ses zs).drop zs.length = [] := by simp
        rw [this]; rfl
      subst hRt
      clear HR
      go_wp2_with fail
      go_ret
      exact ⟨rfl, (by exact bex0)⟩
end Go.Proofs.YthcmnkmfhgoddaaGreatDoor.Ss

namespace Go.Proofs.YthcmnkmfhgoddaaGreatDoor.Ss
open Go.RowKit Bnd
open Go.Proofs.YthcmnkmfhgoddaaGreatDoor.Od (Rep SP ArgP OwnP rv BoxR)
def NoteOut (W : World) (o : List Ses × Int) (e : Ending) (w' : World) : Prop := ∃ v' zs', e = .returned (.tuple #[v', .int .i64 o.2]) /\ ses zs' = o.1 /\ ArgZ w' v' zs' /\ NoP zs' /\ Below W.heap.size W w'
theorem NoteOut.none {W w' : World} {n : Int} (h : Below W.heap.size W w') : NoteOut W ([], n) (.returned (.tuple #[.slice none 0 0, .int .i64 n])) w' := ⟨_, [], rfl, rfl, .nil, (fun z hz => by cases hz), h⟩
end Go.Proofs.YthcmnkmfhgoddaaGreatDoor.Ss
