/-
  Put, the program's: an order's text. Conditions: its texts at most 2^20 bytes; its numbers such as a program can hold.
  Check, the program's: whether an order may be. Conditions: lengths at most 2^47; the library's variables hold what their types allow.
  The program's answers of replies: tells, CheckReply, Same, the library's Equal at pairs; the document's Same. Conditions: lengths at most 2^47, at most a million pairs.
-/
import Derived.Test.YthcmnkmfhgoddaaGreatDoorKOdA
import Derived.Test.YthcmnkmfhgoddaaGreatDoorKDsPNA
import Derived.Test.YthcmnkmfhgoddaaGreatDoorKRegA
import Derived.Test.YthcmnkmfhgoddaaGreatDoorKOdOFA
namespace Go.Proofs.YthcmnkmfhgoddaaGreatDoor.Od
open Go.RowKit Bnd
open Go.Proofs.YthcmnkmfhgoddaaGreatDoor.M (tieT numT inR)
open Ds (nb nb_size own_new)
theorem BoxA.kept {N n : Nat} {o : Ask} {w1 w2 : World} (h : BoxA n o w1) (hn : n < N) (hb : Below N w1 w2) : BoxA n o w2 := by
 obtain ⟨h0, ⟨h1, h2, h3, h4, h5, h6, h7, h8, h9, h10, h11⟩, hf⟩ := h
 have hc : ∀ o, w2.cell? ⟨n, o, none⟩ = w1.cell? ⟨n, o, none⟩ := fun o => hb.cell (p := ⟨n, o, none⟩) hn
 refine ⟨Nat.lt_of_lt_of_le h0 hb.size, ⟨?_, ?_, ?_, ?_, ?_, ?_, ?_, ?_, ?_, ?_, ?_⟩, fun o => (hb.frozen (p := ⟨n, o, none⟩) hn).trans (hf o)⟩
 all_goals rw [hc]; assumption
theorem BoxR.kept {N n : Nat} {o : Rep} {s : Value} {w1 w2 : World} (h : BoxR n o s w1) (hn : n < N) (hb : Below N w1 w2) : BoxR n o s w2 := by
 obtain ⟨h0, ⟨h1, h2, h3, h4, h5⟩, hf⟩ := h
 have hc : ∀ o, w2.cell? ⟨n, o, none⟩ = w1.cell? ⟨n, o, none⟩ := fun o => hb.cell (p := ⟨n, o, none⟩) hn
 refine ⟨Nat.lt_of_lt_of_le h0 hb.size, ⟨?_, ?_, ?_, ?_, ?_⟩, fun o => (hb.frozen (p := ⟨n, o, none⟩) hn).trans (hf o)⟩
 all_goals rw [hc]; assumption
abbrev tb (b : Bool) : ByteArray := ⟨(truthT b).toArray⟩
theorem tb_size (b : Bool) : (tb b).size = 1 := by cases b <;> rfl
structure FitA (o : Ask) : Prop where
 r : InA o
 key : o.key.size <= 1048576
 til : o.til.size <= 1048576
 val : o.val.size <= 1048576
 old : o.old.size <= 1048576
end Go.Proofs.YthcmnkmfhgoddaaGreatDoor.Od

namespace Go.Proofs.YthcmnkmfhgoddaaGreatDoor.Od
open Go.RowKit Bnd
open Go.Proofs.YthcmnkmfhgoddaaGreatDoor.O (Bd isB keyB)
theorem ba_iff (a b : ByteArray) : a.toList = b.toList ↔ a = b := ⟨fun h => Ds.ba_ext h, fun h => by rw [h]⟩
end Go.Proofs.YthcmnkmfhgoddaaGreatDoor.Od

namespace Go.Proofs.YthcmnkmfhgoddaaGreatDoor.Od
open Go.RowKit Bnd
open Go.Proofs.YthcmnkmfhgoddaaGreatDoor.O (Bd isB keyB)
open Go.Proofs.YthcmnkmfhgoddaaGreatDoor.Bnd (keyE)
theorem tells_any (c e : Int) (w : World) : Calls Tryz.prog 266 #[.int .i64 c, .int .i64 e] w fun x w' => x = .returned (.bool (tellsB c e)) /\ w = w' := by
 have ca := among_any e 1 999 w
 by_cases h : c = 4
 ·subst h
  rw [show tellsB 4 e = amongB e 1 999 from rfl]
  go_enter Tryz.func266, Tryz.ntmps266
  go_wp2_with fail
  refine ca.mono ?_
  rintro x w' ⟨rfl, rfl⟩
  go_wp2_with fail
  go_ret
  exact ⟨rfl, rfl⟩
 ·rw [show tellsB c e = decide (e = 0) from if_neg h]
  have g : (c == 4) = false := by simpa using h
  clear h ca
  by_cases h : e = 0
  all_goals
   go_enter Tryz.func266, Tryz.ntmps266
   go_wp2_with fail
   go_ret
   exact ⟨ret_bool (by simp [h]), rfl⟩
theorem all_at {P : List Pr} {k : Nat} (h : k < P.length) : (P.drop k).all pairB = (pairB P[k] && (P.drop (k + 1)).all pairB) := by
 rw [List.drop_eq_getElem_cons h, List.all_cons]
set_option maxHeartbeats 8000000 in
set_option maxRecDepth 100000 in
theorem checkR_any (r : Rep) (s : Value) (w : World) (hs : SP w w.heap.size s r.ps) (hv : r.val.size <= 140737488355328) (hl : r.ps.length <= 140737488355328) (hsz : ∀ p ∈ r.ps, p.1.size <= 140737488355328 /\ p.2.size <= 140737488355328) :
  Calls Tryz.prog 245 #[rv r s] w fun e w' => e = .returned (.int .i64 (chkR r)) /\ Below w.heap.size w w' := by
 obtain ⟨A, c, rfl⟩ := hs.form
 have ca := fun w => among_any r.code 0 4 w
 have ct := fun w => tells_any r.code r.err w
 obtain ⟨ps, hps⟩ : ∃ ps, r.ps = ps := ⟨_, rfl⟩
 rw [hps] at hs hl hsz ⊢
 cases h1 : amongB r.code 0 4 with
 | false =>
  rw [show chkR r = 70 by unfold chkR isR; rw [h1]; rfl]
  rw [h1] at ca
  clear h1 hps
  go_enter Tryz.func245, Tryz.ntmps245
  go_wp2_with fail
  refine (ca _).mono ?_
  rintro e w1 ⟨rfl, rfl⟩
  go_wp2_with fail
  go_ret
  exact ⟨rfl, (by exact bex0)⟩
 | true =>
  rw [h1] at ca
  cases h2 : tellsB r.code r.err with
  | false =>
   rw [show chkR r = 70 by unfold chkR isR; rw [h1, h2]; rfl]
   rw [h2] at ct
   clear h1 h2 hps
   go_enter Tryz.func245, Tryz.ntmps245
   go_wp2_with fail
   refine (ca _).mono ?_
   rintro e w1 ⟨rfl, rfl⟩
   go_wp2_with fail
   refine (ct _).mono ?_
   rintro e w1 ⟨rfl, rfl⟩
   go_wp2_with fail
   go_ret
   exact ⟨rfl, (by exact bex0)⟩
  | true =>
   rw [h2] at ct
   by_cases h3 : r.val.size <= 65536
   rotate_left
   ·rw [show chkR r = 70 by unfold chkR isR; rw [h1, h2]; simp [h3]]
    have g1 : ((r.val.size : Int) > 65536) = True := eq_true (by omega)
    clear h1 h2 hps h3
    go_enter Tryz.func245, Tryz.ntmps245
    go_wp2_with fail
    refine (ca _).mono ?_
    rintro e w1 ⟨rfl, rfl⟩
    go_wp2_with fail
    refine (ct _).mono ?_
    rintro e w1 ⟨rfl, rfl⟩
    go_wp2_with fail
    go_ret
    exact ⟨rfl, (by exact bex0)⟩
   have g1 : ((r.val.size : Int) > 65536) = False := eq_false (by omega)
   by_cases h4 : ps.length <= 100
   rotate_left
   ·rw [show chkR r = 70 by unfold chkR isR; rw [h1, h2, hps]; simp [h4]]
    have g2 : ((ps.length : Int) > 100) = True := eq_true (by omega)
    clear h1 h2 hps h3 h4
    go_enter Tryz.func245, Tryz.ntmps245
    go_wp2_with fail
    refine (ca _).mono ?_
    rintro e w1 ⟨rfl, rfl⟩
    go_wp2_with fail
    refine (ct _).mono ?_
    rintro e w1 ⟨rfl, rfl⟩
    go_wp2_with fail
    go_ret
    exact ⟨rfl, (by exact bex0)⟩
   have g2 : ((ps.length : Int) > 100) = False := eq_false (by omega)
   obtain ⟨R, hR⟩ : ∃ R, (ps.drop 0).all pairB = R := ⟨_, rfl⟩
   have he : chkR r = if R = true then 0 else 70 := by
    unfold chkR isR
    rw [h1, h2, hps, <- hR]
    rw [decide_eq_true h3, decide_eq_true h4]
    rfl
   rw [he]
   have HR0 := Lib.hid hR
   clear h1 h2 h3 hps he hR
   go_enter Tryz.func245, Tryz.ntmps245
   go_wp2_with fail
   refine (ca _).mono ?_
   rintro e w1 ⟨rfl, rfl⟩
   go_wp2_with fail
   refine (ct _).mono ?_
   rintro e w1 ⟨rfl, rfl⟩
   go_wp2_with fail
   clear ca ct
   go_loopw [4, 30] (fun _ vi wr => ∃ k : Nat, k <= ps.length /\ vi = .int .i64 (k : Int) /\ Hid ((ps.drop k).all pairB = R) /\ Below w.heap.size w wr) (fun _ vi _ => ps.length - (intOf vi).toNat)
   case atStart => exact ⟨0, Nat.zero_le _, rfl, HR0, (by exact bex0)⟩
   case round =>
    obtain ⟨k, hk, rfl, HR, hbw⟩ := hrel
    have hz := hbw.size
    by_cases hlt : k < ps.length
    ·obtain ⟨b, o, rfl, hb, hc1, hc2⟩ := (hs.below hbw).at_ hlt
     have hbz : b < wr.heap.size := by omega
     have hp := hsz _ (List.getElem_mem hlt)
     have hst := all_at hlt
     obtain ⟨⟨x, y⟩, hm⟩ : ∃ m, ps[k] = m := ⟨_, rfl⟩
     rw [hm] at hc1 hc2 hp hst
     have ck := fun w => key_any x w hp.1
     have HP := Lib.hid hp
     rw [HR.out] at hst
     have HS := Lib.hid hst
     have hk1 : (k : Int) < (ps.length : Int) := by omega
     have hk0 : (0 : Int) <= (k : Int) := by omega
     clear hm hst hp HR
     unfold keyE at ck
     cases hkb : keyB x.toList with
     | false =>
      have hRf : R = false := by rw [HS.out]; unfold pairB; simp [hkb]
      subst hRf
      rw [hkb] at ck
      simp only [Bool.false_eq_true, if_false] at ck ⊢
      clear hkb HS
      go_wp2_with fail
      refine (ck _).mono ?_
      rintro e w1 ⟨rfl, rfl⟩
      go_wp2_with fail
      go_ret
      exact ⟨rfl, (by exact bex0)⟩
     | true =>
      rw [hkb] at ck
      simp only [if_true] at ck
      by_cases hy : y.size <= 512
      ·have HN := Lib.hid (show (ps.drop (k + 1)).all pairB = R by rw [HS.out]; unfold pairB; simp [hkb, hy])
       have g3 : ((y.size : Int) > 512) = False := eq_false (by omega)
       clear hkb HS hy
       go_wp2_with fail
       refine (ck _).mono ?_
       rintro e w1 ⟨rfl, rfl⟩
       go_wp2_with fail
       go_roundw
       case rel => exact ⟨k + 1, by omega, by go_num, HN, (by exact bex0)⟩
       case measure => simp [intOf]; omega
      ·have hRf : R = false := by rw [HS.out]; unfold pairB; simp [hkb, hy]
       subst hRf
       have g3 : ((y.size : Int) > 512) = True := eq_true (by omega)
       clear hkb HS hy
       go_wp2_with fail
       refine (ck _).mono ?_
       rintro e w1 ⟨rfl, rfl⟩
       go_wp2_with fail
       go_ret
       exact ⟨rfl, (by exact bex0)⟩
    ·obtain rfl : k = ps.length := by omega
     have hRt : R = true := by rw [<- HR.out]; simp
     subst hRt
     clear HR
     go_wp2_with fail
     go_ret
     exact ⟨rfl, (by exact bex0)⟩
end Go.Proofs.YthcmnkmfhgoddaaGreatDoor.Od
