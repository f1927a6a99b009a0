/-
  The document's own word on whether a reply may be. Conditions: texts at most 2^47 bytes,at most 2^47 pairs.
  Whether sessions may be: the program's isSeq,isKept,fits,Check; the document's one,Is. Conditions: lengths at most 2^47.
  How a session and a list of sessions come in,out of the form's own reading. No condition.
-/
import Derived.Test.YthcmnkmfhgoddaaGreatDoorVOdPCA
import Derived.Test.YthcmnkmfhgoddaaGreatDoorVBndA
import Derived.BigQuiet
import Derived.Test.YthcmnkmfhgoddaaGreatDoorVSsMRA
import Derived.Test.YthcmnkmfhgoddaaGreatDoorVOdLA
namespace Go.Proofs.YthcmnkmfhgoddaaGreatDoor.Od
open Go.RowKit Bnd
open Go.Proofs.YthcmnkmfhgoddaaGreatDoor.O (Bd isB keyB)
theorem isR_head (r : Rep) : isR r = ((decide (0 <= r.code) && (decide (r.code <= 4) && (tellsB r.code r.err && (decide (r.val.size <= 65536) && decide (r.ps.length <= 100))))) && r.ps.all pairB):=by
 unfold isR amongB
 rw [Bool.eq_iff_iff]
 simp only [Bool.and_eq_true,decide_eq_true_eq]
 constructor
 ·rintro ⟨⟨⟨⟨h1,h2⟩,h3⟩,h4,h5⟩,h6⟩; exact ⟨⟨h1,h2,h3,h4,h5⟩,h6⟩
 ·rintro ⟨⟨h1,h2,h3,h4,h5⟩,h6⟩; exact ⟨⟨⟨⟨h1,h2⟩,h3⟩,h4,h5⟩,h6⟩
theorem isR_no {r : Rep} (h : ¬ (0 <= r.code /\ r.code <= 4 /\ tellsB r.code r.err = true /\ r.val.size <= 65536 /\ r.ps.length <= 100)) : isR r = false:=by
 rw [isR_head]
 cases e : (decide (0 <= r.code) && (decide (r.code <= 4) && (tellsB r.code r.err && (decide (r.val.size <= 65536) && decide (r.ps.length <= 100))))) with
 | false => rfl
 | true =>
  simp only [Bool.and_eq_true,decide_eq_true_eq] at e
  exact absurd e h
set_option maxHeartbeats 8000000 in
set_option maxRecDepth 100000 in
theorem risR_any (r : Rep) (s : Value) (w : World) (hs : SP w w.heap.size s r.ps) (hv : r.val.size <= 140737488355328) (hl : r.ps.length <= 140737488355328) (hp : ∀ p ∈ r.ps,p.1.size <= 140737488355328 /\ p.2.size <= 140737488355328) :
  Calls Tryz.prog 177 #[rv r s] w fun e w' => e = .returned (.bool (isR r)) /\ Below w.heap.size w w':=by
 obtain ⟨A,c,rfl⟩:=hs.form
 obtain ⟨code,err,has,val,ps⟩:=r
 simp only at hs hv hl hp ⊢
 obtain ⟨R,hR⟩ : ∃ R,isR ⟨code,err,has,val,ps⟩ = R:=⟨_,rfl⟩
 have hno:=isR_no (r:=⟨code,err,has,val,ps⟩)
 rw [hR] at hno ⊢
 simp only at hno
 by_cases h1 : 0 <= code
 rotate_left
 ·have e : R = false:=hno (fun h => h1 h.1)
  subst e
  have g1 : (code < 0) = True:=eq_true (by omega)
  clear h1 hno hR
  go_enter Tryz.func177,Tryz.ntmps177
  go_wp2_with fail
  go_ret
  exact ⟨rfl,(by exact bex0)⟩
 by_cases h2 : code <= 4
 rotate_left
 ·have e : R = false:=hno (fun h => h2 h.2.1)
  subst e
  have g1 : (code < 0) = False:=eq_false (by omega)
  have g2 : (code > 4) = True:=eq_true (by omega)
  clear h1 h2 hno hR
  go_enter Tryz.func177,Tryz.ntmps177
  go_wp2_with fail
  go_ret
  exact ⟨rfl,(by exact bex0)⟩
 have g1 : (code < 0) = False:=eq_false (by omega)
 have g2 : (code > 4) = False:=eq_false (by omega)
 by_cases ht : tellsB code err = true
 rotate_left
 ·have e : R = false:=hno (fun h => ht h.2.2.1)
  subst e
  clear hno hR
  by_cases h4 : code = 4
  ·subst h4
   have hx : ¬ (1 <= err /\ err <= 999):=fun h => ht (by unfold tellsB amongB; simp; omega)
   clear ht h1 h2 g1 g2
   by_cases x1 : 1 <= err
   ·have y1 : (err >= 1) = True:=eq_true (by omega)
    have y2 : (err <= 999) = False:=eq_false (by omega)
    clear hx x1
    go_enter Tryz.func177,Tryz.ntmps177
    go_wp2_with fail
    go_ret
    exact ⟨rfl,(by exact bex0)⟩
   ·have y1 : (err >= 1) = False:=eq_false (by omega)
    clear hx x1
    go_enter Tryz.func177,Tryz.ntmps177
    go_wp2_with fail
    go_ret
    exact ⟨rfl,(by exact bex0)⟩
  ·have hx : err ≠ 0:=fun h => ht (by unfold tellsB; rw [if_neg h4]; simpa using h)
   have g3 : (code == 4) = false:=by simpa using h4
   have g4 : (code != 4) = true:=by simpa using h4
   have g5 : (err != 0) = true:=by simpa using hx
   clear ht h1 h2 h4
   by_cases x1 : 1 <= err
   ·have y1 : (err >= 1) = True:=eq_true (by omega)
    by_cases x2 : err <= 999
    ·have y2 : (err <= 999) = True:=eq_true (by omega)
     clear hx x1 x2
     go_enter Tryz.func177,Tryz.ntmps177
     go_wp2_with fail
     go_ret
     exact ⟨rfl,(by exact bex0)⟩
    ·have y2 : (err <= 999) = False:=eq_false (by omega)
     clear hx x1 x2
     go_enter Tryz.func177,Tryz.ntmps177
     go_wp2_with fail
     go_ret
     exact ⟨rfl,(by exact bex0)⟩
   ·have y1 : (err >= 1) = False:=eq_false (by omega)
    clear hx x1
    go_enter Tryz.func177,Tryz.ntmps177
    go_wp2_with fail
    go_ret
    exact ⟨rfl,(by exact bex0)⟩
 have hE : ∃ E4 : Bool,(code == 4) = E4 /\ (code != 4) = !E4 /\ ((E4 = true /\ (err >= 1) = True /\ (err <= 999) = True) \/ (E4 = false /\ (err >= 1) = False /\ (err != 0) = false)):=by
  unfold tellsB at ht
  by_cases h4 : code = 4
  ·rw [if_pos h4] at ht
   unfold amongB at ht
   rw [decide_eq_true_eq] at ht
   exact ⟨true,by simpa using h4,by simpa using h4,.inl ⟨rfl,eq_true (by omega),eq_true (by omega)⟩⟩
  ·rw [if_neg h4,decide_eq_true_eq] at ht
   exact ⟨false,by simpa using h4,by simpa using h4,.inr ⟨rfl,eq_false (by omega),by simpa using ht⟩⟩
 obtain ⟨E4,k1,k2,k3⟩:=hE
 by_cases h3 : val.size <= 65536
 rotate_left
 ·have e : R = false:=hno (fun h => h3 h.2.2.2.1)
  subst e
  have g3 : ((val.size : Int) > 65536) = True:=eq_true (by omega)
  clear hno hR ht h1 h2 h3
  rcases k3 with ⟨rfl,y1,y2⟩ | ⟨rfl,y1,y2⟩
  all_goals
   go_enter Tryz.func177,Tryz.ntmps177
   go_wp2_with fail
   go_ret
   exact ⟨rfl,(by exact bex0)⟩
 have g3 : ((val.size : Int) > 65536) = False:=eq_false (by omega)
 by_cases h4 : ps.length <= 100
 rotate_left
 ·have e : R = false:=hno (fun h => h4 h.2.2.2.2)
  subst e
  have g4 : ((ps.length : Int) > 100) = True:=eq_true (by omega)
  clear hno hR ht h1 h2 h3 h4
  rcases k3 with ⟨rfl,y1,y2⟩ | ⟨rfl,y1,y2⟩
  all_goals
   go_enter Tryz.func177,Tryz.ntmps177
   go_wp2_with fail
   go_ret
   exact ⟨rfl,(by exact bex0)⟩
 have g4 : ((ps.length : Int) > 100) = False:=eq_false (by omega)
 have hR' : R = ps.all pairB:=by
  rw [<- hR,isR_head]
  simp only
  rw [ht,decide_eq_true h1,decide_eq_true h2,decide_eq_true h3,decide_eq_true h4]
  simp
 have HR:=Lib.hid hR'
 have HL:=Lib.hid h4
 clear hno hR ht h1 h2 h3 h4 hR' hv hl
 have B0 : BoxR w.heap.size ⟨code,err,has,val,ps⟩ (.slice A ps.length c) (w.alloc (.cells #[.int .i64 code,.int .i64 err,.bool has,.string val,.slice A ps.length c] 87)):=BoxR.new w ⟨code,err,has,val,ps⟩ (.slice A ps.length c)
 have hs1 : SP (w.alloc (.cells #[.int .i64 code,.int .i64 err,.bool has,.string val,.slice A ps.length c] 87)) w.heap.size (.slice A ps.length c) ps:=hs.below ((Below.refl _ w).alloc (Nat.le_refl _) _)
 have hbw : Below w.heap.size w (w.alloc (.cells #[.int .i64 code,.int .i64 err,.bool has,.string val,.slice A ps.length c] 87)):=(Below.refl _ w).alloc (Nat.le_refl _) _
 obtain ⟨W1,hW1⟩ : ∃ W1,w.alloc (.cells #[.int .i64 code,.int .i64 err,.bool has,.string val,.slice A ps.length c] 87) = W1:=⟨_,rfl⟩
 rw [hW1] at B0 hs1 hbw
 obtain ⟨z,hz⟩ : ∃ z,z = ps.length:=⟨_,rfl⟩
 have HZ:=Lib.hid hz
 have hz100 : z <= 100:=by have:=HL.out; omega
 rw [<- hz] at B0 hs1 hW1 g4 ⊢
 clear hz
 rcases k3 with ⟨rfl,y1,y2⟩ | ⟨rfl,y1,y2⟩
 all_goals
  obtain ⟨p_0,⟨p_1,p_2,p_3,p_4,p_5⟩,p_6⟩:=_root_.id B0
  simp only at p_1 p_2 p_3 p_4 p_5
  go_enter Tryz.func177,Tryz.ntmps177
  go_wp2_with fail
  try rw [hW1]
  clear p_0 p_1 p_2 p_3 p_4 p_5 p_6
  go_loopw [3] (fun vi wr => ∃ k,k <= z /\ vi = .int .i64 (k : Int) /\ Hid ((ps.take k).all pairB = true) /\ wr = W1) (fun vi _ => z - (intOf vi).toNat)
  case atStart => exact ⟨0,Nat.zero_le _,rfl,Lib.hid rfl,rfl⟩
  case round =>
   obtain ⟨k,hk,rfl,HP,rfl⟩:=hrel
   have B1:=B0
   obtain ⟨p_0,⟨p_1,p_2,p_3,p_4,p_5⟩,p_6⟩:=_root_.id B1
   simp only at p_1 p_2 p_3 p_4 p_5
   by_cases hlt : k < z
   ·have hkx : k < ps.length:=by rw [<- HZ.out]; exact hlt
    obtain ⟨b,o,rfl,hb,hc1,hc2⟩:=hs1.at_ hkx
    have hsz:=hp _ (List.getElem_mem hkx)
    have hall : (ps.take (k + 1)).all pairB = pairB ps[k]:=by
     rw [List.take_succ_eq_append_getElem hkx,List.all_append,HP.out]
     simp
    have hfull : pairB ps[k] = false -> ps.all pairB = false:=by
     intro h
     cases e : ps.all pairB with
     | false => rfl
     | true => rw [List.all_eq_true] at e; rw [e _ (List.getElem_mem hkx)] at h; cases h
    obtain ⟨⟨x,y⟩,hm⟩ : ∃ m,ps[k] = m:=⟨_,rfl⟩
    rw [hm] at hc1 hc2 hsz hall hfull
    simp only at hc1 hc2 hsz
    have ck:=fun w => rkey_any x w hsz.1
    have hk0 : (0 : Int) <= (k : Int):=by omega
    have hk1 : (k : Int) < (z : Int):=by omega
    clear hm
    unfold pairB at hall hfull
    simp only at hall hfull
    cases hkey : keyB x.toList with
    | false =>
     rw [hkey] at ck hfull
     have HF:=Lib.hid (HR.out.trans (hfull rfl))
     clear hkey hall hfull hsz
     go_wp2_with fail
     refine (ck _).mono ?_
     rintro e w1 ⟨rfl,rfl⟩
     go_wp2_with fail
     go_ret
     exact ⟨ret_bool (by rw [HF.out]),hbw⟩
    | true =>
     rw [hkey] at ck hfull hall
     by_cases hy : y.size <= 512
     ·have j1 : ((y.size : Int) > 512) = False:=eq_false (by omega)
      rw [decide_eq_true hy] at hall
      have HN:=Lib.hid (show (ps.take (k + 1)).all pairB = true from hall)
      clear hkey hall hfull hsz hy
      go_wp2_with fail
      refine (ck _).mono ?_
      rintro e w1 ⟨rfl,rfl⟩
      go_wp2_with fail
      go_roundw
      case rel => exact ⟨k + 1,by omega,by go_num,HN,trivial⟩
      case measure => simp [intOf]; omega
     ·have j1 : ((y.size : Int) > 512) = True:=eq_true (by omega)
      rw [decide_eq_false hy] at hfull
      have HF:=Lib.hid (HR.out.trans (hfull rfl))
      clear hkey hall hfull hsz hy
      go_wp2_with fail
      refine (ck _).mono ?_
      rintro e w1 ⟨rfl,rfl⟩
      go_wp2_with fail
      go_ret
      exact ⟨ret_bool (by rw [HF.out]),hbw⟩
   ·obtain rfl : k = z:=by omega
    have HF:=Lib.hid (show R = true by rw [HR.out,<- HP.out,HZ.out,List.take_length])
    have l0 : ((k : Int) < (k : Int)) = False:=eq_false (by omega)
    go_wp2_with fail
    go_ret
    exact ⟨ret_bool (by rw [HF.out]),hbw⟩
end Go.Proofs.YthcmnkmfhgoddaaGreatDoor.Od

namespace Go.Proofs.YthcmnkmfhgoddaaGreatDoor.Ss
open Go.RowKit Bnd
open Go.Proofs.YthcmnkmfhgoddaaGreatDoor.Od (Rep SP isR seqB amongB rv BoxR)
structure FitZ (s : Ses) : Prop where
 val : s.rep.val.size <= 140737488355328
 n : s.rep.ps.length <= 140737488355328
 ps : ∀ p ∈ s.rep.ps,p.1.size <= 140737488355328 /\ p.2.size <= 140737488355328
theorem isSeq_any (n : Int) (w : World) : Calls Tryz.prog 227 #[.int .i64 n] w fun e w' => e = .returned (.bool (seqB n)) /\ w = w':=by
 by_cases h1 : 1 <= n
 ·have g1 : ((1 : Int) <= n) = True:=eq_true h1
  go_enter Tryz.func227,Tryz.ntmps227
  go_wp2_with fail
  go_ret
  exact ⟨ret_bool (by unfold seqB amongB; simp [h1]),rfl⟩
 ·have g1 : ((1 : Int) <= n) = False:=eq_false h1
  rw [show seqB n = false by unfold seqB amongB; exact decide_eq_false (fun h => h1 h.1)]
  go_enter Tryz.func227,Tryz.ntmps227
  go_wp2_with fail
  go_ret
  exact ⟨rfl,rfl⟩
set_option maxHeartbeats 4000000 in
set_option maxRecDepth 100000 in
theorem isKept_any (s : Ses) (p : Value) (w : World) (hp : SP w w.heap.size p s.rep.ps) (f : FitZ s) :
  Calls Tryz.prog 228 #[rv s.rep p] w fun e w' => e = .returned (.bool (keptB s.rep)) /\ Below w.heap.size w w':=by
 obtain ⟨f1,f2,f3⟩:=f
 obtain ⟨r,hr⟩ : ∃ r,s.rep = r:=⟨_,rfl⟩
 rw [hr] at hp f1 f2 f3 ⊢
 clear hr
 obtain ⟨A,c,rfl⟩:=hp.form
 have cc:=fun w h => Od.checkR_any r (.slice A r.ps.length c) w h f1 f2 f3
 have kp : ∀ wx,Below w.heap.size w wx -> SP wx wx.heap.size (.slice A r.ps.length c) r.ps:=fun wx h => (hp.below h).more h.size
 cases h : isR r with
 | false =>
  rw [show keptB r = false by unfold keptB; rw [h]; rfl]
  rw [show Od.chkR r = 70 by unfold Od.chkR; rw [h]; rfl] at cc
  clear h
  go_enter Tryz.func228,Tryz.ntmps228
  go_wp2_with fail
  refine (cc _ (kp _ (by exact bex0))).mono ?_
  rintro e w1 ⟨rfl,b1⟩
  have hb : Below w.heap.size w w1:=(show Below w.heap.size w _ from (by exact bex0)).trans (b1.mono (by simp))
  clear b1
  go_wp2_with fail
  go_ret
  exact ⟨rfl,hb⟩
 | true =>
  rw [show Od.chkR r = 0 by unfold Od.chkR; rw [h]; rfl] at cc
  by_cases h1 : r.val.size <= 512
  ·rw [show keptB r = decide (r.ps.length = 0) by unfold keptB; rw [h]; simp [h1]]
   have g1 : ((r.val.size : Int) <= 512) = True:=eq_true (by omega)
   have B0:=BoxR.new w r (.slice A r.ps.length c)
   clear h h1
   go_enter Tryz.func228,Tryz.ntmps228
   go_wp2_with fail
   refine (cc _ (kp _ (by exact bex0))).mono ?_
   rintro e w1 ⟨rfl,b1⟩
   have B1:=B0.keep b1
   have hb : Below w.heap.size w w1:=(show Below w.heap.size w _ from (by exact bex0)).trans (b1.mono (by simp))
   clear b1 B0
   obtain ⟨p_0,⟨p_1,p_2,p_3,p_4,p_5⟩,p_6⟩:=_root_.id B1
   go_wp2_with fail
   go_ret
   exact ⟨ret_bool (by rw [Bool.eq_iff_iff]; simp),hb⟩
  ·rw [show keptB r = false by unfold keptB; rw [h]; simp [h1]]
   have g1 : ((r.val.size : Int) <= 512) = False:=eq_false (by omega)
   have B0:=BoxR.new w r (.slice A r.ps.length c)
   clear h h1
   go_enter Tryz.func228,Tryz.ntmps228
   go_wp2_with fail
   refine (cc _ (kp _ (by exact bex0))).mono ?_
   rintro e w1 ⟨rfl,b1⟩
   have B1:=B0.keep b1
   have hb : Below w.heap.size w w1:=(show Below w.heap.size w _ from (by exact bex0)).trans (b1.mono (by simp))
   clear b1 B0
   obtain ⟨p_0,⟨p_1,p_2,p_3,p_4,p_5⟩,p_6⟩:=_root_.id B1
   go_wp2_with fail
   go_ret
   exact ⟨rfl,hb⟩
set_option maxHeartbeats 4000000 in
set_option maxRecDepth 100000 in
theorem fits_any (z : Zs) (w : World) (hp : SP w w.heap.size z.2 z.1.rep.ps) (f : FitZ z.1) :
  Calls Tryz.prog 161 #[sv z] w fun e w' => e = .returned (.bool (fitsB z.1)) /\ Below w.heap.size w w':=by
 have c1:=fun w => isSeq_any z.1.client w
 have c2:=fun w => isSeq_any z.1.seq w
 have c3:=fun w h => isKept_any z.1 z.2 w h f
 have kp : ∀ wx,Below w.heap.size w wx -> SP wx wx.heap.size z.2 z.1.rep.ps:=fun wx h => (hp.below h).more h.size
 obtain ⟨⟨cl,sq,r⟩,p⟩:=z
 simp only at c1 c2 c3 kp
 obtain ⟨pa,pc,rfl⟩ : ∃ A c,p = .slice A r.ps.length c:=hp.form
 cases h1 : seqB cl with
 | false =>
  rw [show fitsB ⟨cl,sq,r⟩ = false by unfold fitsB; simp [h1]]
  rw [h1] at c1
  clear h1
  go_enter Tryz.func161,Tryz.ntmps161
  go_wp2_with fail
  refine (c1 _).mono ?_
  rintro e w1 ⟨rfl,rfl⟩
  go_wp2_with fail
  go_ret
  exact ⟨rfl,(by exact bex0)⟩
 | true =>
  rw [h1] at c1
  cases h2 : seqB sq with
  | false =>
   rw [show fitsB ⟨cl,sq,r⟩ = false by unfold fitsB; simp [h2]]
   rw [h2] at c2
   clear h1 h2
   go_enter Tryz.func161,Tryz.ntmps161
   go_wp2_with fail
   refine (c1 _).mono ?_
   rintro e w1 ⟨rfl,rfl⟩
   go_wp2_with fail
   refine (c2 _).mono ?_
   rintro e w1 ⟨rfl,rfl⟩
   go_wp2_with fail
   go_ret
   exact ⟨rfl,(by exact bex0)⟩
  | true =>
   rw [show fitsB ⟨cl,sq,r⟩ = keptB r by unfold fitsB; simp [h1,h2]]
   rw [h2] at c2
   clear h1 h2
   go_enter Tryz.func161,Tryz.ntmps161
   go_wp2_with fail
   refine (c1 _).mono ?_
   rintro e w1 ⟨rfl,rfl⟩
   go_wp2_with fail
   refine (c2 _).mono ?_
   rintro e w1 ⟨rfl,rfl⟩
   go_wp2_with fail
   refine (c3 _ (kp _ (by exact bex0))).mono ?_
   rintro e w1 ⟨rfl,b1⟩
   have hb : Below w.heap.size w w1:=(show Below w.heap.size w _ from (by exact bex0)).trans (b1.mono (by simp))
   clear b1
   go_wp2_with fail
   go_ret
   exact ⟨rfl,hb⟩
theorem ses_drop (zs : List Zs) (k : Nat) (h : k < zs.length) : (ses zs).drop k = zs[k].1 :: (ses zs).drop (k + 1):=by
 rw [List.drop_eq_getElem_cons (by simpa using h)]
 simp
set_option maxHeartbeats 8000000 in
set_option maxRecDepth 100000 in
theorem check_any (v : Value) (zs : List Zs) (w : World) (hv : SZ w w.heap.size v zs) (hp : PZ w w.heap.size zs) (hf : ∀ z ∈ zs,FitZ z.1) (hl : zs.length <= 140737488355328) :
  Calls Tryz.prog 85 #[v] w fun e w' => e = .returned (.int .i64 (chkS (ses zs))) /\ Below w.heap.size w w':=by
 obtain ⟨A,c,rfl⟩:=hv.form
 by_cases h64 : zs.length <= 64
 rotate_left
 ·rw [show chkS (ses zs) = 80 by unfold chkS isS; simp [h64]]
  have g1 : ((zs.length : Int) > 64) = True:=eq_true (by omega)
  go_enter Tryz.func85,Tryz.ntmps85
  go_wp2_with fail
  go_ret
  exact ⟨rfl,(by exact bex0)⟩
 have g1 : ((zs.length : Int) > 64) = False:=eq_false (by omega)
 obtain ⟨R,hR⟩ : ∃ R,riseB 0 ((ses zs).drop 0) = R:=⟨_,rfl⟩
 have he : chkS (ses zs) = if R = true then 0 else 80:=by
  rw [<- hR]
  unfold chkS isS
  simp [h64]
 rw [he]
 have HR0:=Lib.hid hR
 obtain ⟨n,hn⟩ : ∃ n,n = zs.length:=⟨_,rfl⟩
 have HN:=Lib.hid hn
 rw [<- hn] at g1 hl h64 ⊢
 have hv2:=Lib.hid hv
 clear he hR hn hv
 go_enter Tryz.func85,Tryz.ntmps85
 go_wp2_with fail
 go_loopw [3,5,11] (fun v3 _ vi wr => ∃ (k : Nat) (last : Int),k <= n /\ vi = .int .i64 (k : Int) /\ v3 = .int .i64 last /\ Hid (riseB last ((ses zs).drop k) = R) /\ Below w.heap.size w wr) (fun _ _ vi _ => n - (intOf vi).toNat)
 case atStart => exact ⟨0,0,Nat.zero_le _,rfl,rfl,HR0,(by exact bex0)⟩
 case round =>
  obtain ⟨k,last,hk,rfl,rfl,HR,hbw⟩:=hrel
  have hz:=hbw.size
  by_cases hlt : k < n
  ·have hkx : k < zs.length:=by rw [<- HN.out]; exact hlt
   have hv3:=hv2.out
   rw [<- HN.out] at hv3
   obtain ⟨b,o,rfl,hb,q0,q1,q2,q3,q4,q5,q6⟩:=(hv3.below hbw).at_ hkx
   have hpk:=hp zs[k] (List.getElem_mem hkx)
   have hfk:=hf zs[k] (List.getElem_mem hkx)
   have hd:=ses_drop zs k hkx
   obtain ⟨z,hzk⟩ : ∃ z,zs[k] = z:=⟨_,rfl⟩
   rw [hzk] at q0 q1 q2 q3 q4 q5 q6 hpk hfk hd
   have kp : ∀ wx,Below w.heap.size w wx -> SP wx wx.heap.size z.2 z.1.rep.ps:=fun wx h => (hpk.below h).more h.size
   have cf:=fun w h => fits_any z w h hfk
   have HD:=Lib.hid (show riseB last (z.1 :: (ses zs).drop (k + 1)) = R by rw [<- hd]; exact HR.out)
   obtain ⟨⟨cl,sq,r⟩,pv⟩:=z
   simp only at q0 q1 q2 q3 q4 q5 q6 cf kp
   obtain ⟨pa,pc,rfl⟩ : ∃ A c,pv = .slice A r.ps.length c:=hpk.form
   have hk1 : (k : Int) < (n : Int):=by omega
   have hbz : b < wr.heap.size:=by omega
   clear hd hzk hpk hfk hv3 hkx HR
   by_cases hc : cl <= last
   ·have hRf : R = false:=by rw [<- HD.out,riseB,if_neg (by simp only; omega)]
    subst hRf
    clear HD
    have e1 : (cl <= last) = True:=eq_true hc
    clear hc
    go_wp2_with fail
    go_ret
    exact ⟨rfl,(by exact bex0)⟩
   ·have e1 : (cl <= last) = False:=eq_false hc
    cases hfb : fitsB ⟨cl,sq,r⟩ with
    | false =>
     have hRf : R = false:=by rw [<- HD.out,riseB,if_neg (by rw [hfb]; simp)]
     subst hRf
     rw [hfb] at cf
     clear HD hfb hc
     go_wp2_with fail
     refine (cf _ (kp _ (by exact bex0))).mono ?_
     rintro e w1 ⟨rfl,b1⟩
     have hb1 : Below w.heap.size w w1:=(show Below w.heap.size w _ from (by exact bex0)).trans (b1.mono (by simp; omega))
     clear b1
     go_wp2_with fail
     go_ret
     exact ⟨rfl,hb1⟩
    | true =>
     have HS:=Lib.hid (show riseB cl ((ses zs).drop (k + 1)) = R by rw [<- HD.out,riseB,if_pos ⟨by simp only; omega,hfb⟩])
     rw [hfb] at cf
     clear HD hfb hc
     go_wp2_with fail
     refine (cf _ (kp _ (by exact bex0))).mono ?_
     rintro e w1 ⟨rfl,b1⟩
     have hb1 : Below w.heap.size w w1:=(show Below w.heap.size w _ from (by exact bex0)).trans (b1.mono (by simp; omega))
     have y0 : w1.cell? ⟨wr.heap.size,0,none⟩ = some (.int .i64 cl):=by rw [b1.cell (p:=⟨wr.heap.size,0,none⟩) (by simp)]; simp [go_sem]
     have hy : wr.heap.size < w1.heap.size:=by have:=b1.size; simp at this; omega
     clear b1
     go_wp2_with fail
     go_roundw
     case rel => exact ⟨k + 1,cl,by omega,by go_num,rfl,HS,hb1⟩
     case measure => simp [intOf]; omega
  ·obtain rfl : k = n:=by omega
   have hRt : R = true:=by
    rw [<- HR.out,HN.out]
    have : (ses zs).drop zs.length = []:=by simp
    rw [this]; rfl
   subst hRt
   clear HR
   go_wp2_with fail
   go_ret
   exact ⟨rfl,(by exact bex0)⟩
end Go.Proofs.YthcmnkmfhgoddaaGreatDoor.Ss

namespace Go.Proofs.YthcmnkmfhgoddaaGreatDoor.Ss
open Go.ChangeShapes Go.WideShapes Go.ChangeAt Go.RowKit Go.Joins Go.Deep
open Go.Proofs.YthcmnkmfhgoddaaGreatDoor.Ds (lt_cell weight_mem cells9' cells3' cells2')
open Go.Proofs.YthcmnkmfhgoddaaGreatDoor.Od (Rep SP ArgP OwnP rv LimR cellsR cells4' cellsE cellsPs arg_prs)
theorem cellsZ : Tryz.prog.cellsOf 89 = 7:=by kernel_rfl
theorem bytesZ : Tryz.prog.bytesOf 89 = 80:=by kernel_rfl
structure LimZ (s : Ses) : Prop where
 client : M.inR s.client
 seq : M.inR s.seq
 rep : LimR s.rep
theorem LimZ.fit {s : Ses} (h : LimZ s) : FitZ s:=⟨h.rep.val,h.rep.n,h.rep.ps⟩
instance : Inhabited Zs:=⟨(Ses.zero,.slice none 0 0)⟩
section
variable {H : Type} {enc : TypeId × Value -> H} {W : World}
set_option maxRecDepth 100000 in
set_option maxHeartbeats 4000000 in
theorem rep_of {n : Nat} {cs : List Value} {x : DataW H × List MemPlace} (h : DataW.trod enc Tryz.prog W 0 (fun _ => true) true n 87 cs = some x) (hwt : ∀ n ∈ x.1.weights Tryz.prog 87,n <= reachBytes) :
  ∃ (o : Rep) (s : Value),cs = [.int .i64 o.code,.int .i64 o.err,.bool o.has,.string o.val,s] /\ ArgP W s o.ps /\ LimR o:=by
 have hrb:=reachBytes_lt
 obtain ⟨ys,m,_,rfl,hl,hlen,hfs⟩:=DataW.trod_struct Tryz.underlying87 h
 rw [cellsR] at hl
 have g0:=hfs 0 _ rfl
 have g1:=hfs 1 _ rfl
 have g2:=hfs 2 _ rfl
 have g3:=hfs 3 _ rfl
 have g4:=hfs 4 _ rfl
 clear hfs
 match ys,hlen,cs,hl with
 | [y0,y1,y2,y3,y4],_,[c0,c1,c2,c3,c4],_ =>
  simp [cells3',cells9',cells4',cellsE,cellsPs] at g0 g1 g2 g3 g4
  obtain ⟨x0,e0,e0',w0⟩:=DataW.trod_int Tryz.underlying3 g0
  obtain ⟨x1,e1,e1',w1⟩:=DataW.trod_int Tryz.underlying48 g1
  obtain ⟨x2,e2,e2'⟩:=DataW.trod_bool Tryz.underlying4 g2
  obtain ⟨x3,e3,e3',w3⟩:=DataW.trod_string Tryz.underlying9 g3
  simp only [List.cons.injEq,and_true] at e0 e1 e2 e3
  subst e0 e1 e2 e3
  have hw4 : ∀ n ∈ y4.1.weights Tryz.prog 34,n <= reachBytes:=fun n hn => hwt n (by
   simp only [DataW.weights,Tryz.underlying87,List.map_cons,List.map_nil,DataW.weightsEach,List.mem_append]
   first
    | exact .inr (.inr (.inr (.inr (.inl hn))))
    | simp [hn])
  obtain ⟨ms,ha,hl1,hl2⟩:=arg_prs g4 hw4
  have hwf : x3.size <= 140737488355328:=by
   subst e0' e1' e2' e3'
   simp only [DataW.weights,Tryz.underlying87,List.map_cons,List.map_nil,DataW.weightsEach] at hwt
   have h3:=hwt x3.data.toList.length (by simp)
   have k3 : x3.data.toList.length = x3.size:=by simp
   omega
  exact ⟨⟨x0,x1,x2,x3,ms⟩,c4,rfl,ha,⟨bounds_i64 w0,bounds_i64 w1,hwf,hl1,hl2⟩⟩
set_option maxRecDepth 100000 in
set_option maxHeartbeats 4000000 in
theorem ses_of {n : Nat} {cs : List Value} {x : DataW H × List MemPlace} (h : DataW.trod enc Tryz.prog W 0 (fun _ => true) true n 89 cs = some x) (hwt : ∀ n ∈ x.1.weights Tryz.prog 89,n <= reachBytes) :
  ∃ z : Zs,cs = [.int .i64 z.1.client,.int .i64 z.1.seq,.int .i64 z.1.rep.code,.int .i64 z.1.rep.err,.bool z.1.rep.has,.string z.1.rep.val,z.2] /\ ArgP W z.2 z.1.rep.ps /\ LimZ z.1:=by
 obtain ⟨ys,m,_,rfl,hl,hlen,hfs⟩:=DataW.trod_struct Tryz.underlying89 h
 rw [cellsZ] at hl
 have g0:=hfs 0 _ rfl
 have g1:=hfs 1 _ rfl
 have g2:=hfs 2 _ rfl
 clear hfs
 match ys,hlen,cs,hl with
 | [y0,y1,y2],_,[c0,c1,c2,c3,c4,c5,c6],_ =>
  simp [cells2',cellsR] at g0 g1 g2
  obtain ⟨x0,e0,e0',w0⟩:=DataW.trod_int Tryz.underlying2 g0
  obtain ⟨x1,e1,e1',w1⟩:=DataW.trod_int Tryz.underlying2 g1
  simp only [List.cons.injEq,and_true] at e0 e1
  subst e0 e1
  have hw2 : ∀ n ∈ y2.1.weights Tryz.prog 87,n <= reachBytes:=fun n hn => hwt n (by
   simp only [DataW.weights,Tryz.underlying89,List.map_cons,List.map_nil,DataW.weightsEach,List.mem_append]
   first
    | exact .inr (.inr (.inl hn))
    | simp [hn])
  obtain ⟨o,s,e2,ha,hl⟩:=rep_of g2 hw2
  simp only [List.cons.injEq,and_true] at e2
  obtain ⟨rfl,rfl,rfl,rfl,rfl⟩:=e2
  exact ⟨(⟨x0,x1,o⟩,c6),rfl,ha,⟨bounds_i64 w0,bounds_i64 w1,hl⟩⟩
set_option maxRecDepth 100000 in
theorem arg_zss {n : Nat} {v : Value} {x : DataW H × List MemPlace}
  (hf : DataW.trod enc Tryz.prog W 0 (fun _ => true) true n 35 [v] = some x) (hwt : ∀ n ∈ x.1.weights Tryz.prog 35,n <= reachBytes) :
  ∃ zs,ArgZ W v zs /\ PZ W W.heap.size zs /\ zs.length <= 140737488355328 /\ ∀ z ∈ zs,LimZ z.1:=by
 have hrb:=reachBytes_lt
 rcases open_slice Tryz.underlying35 hf with ⟨hcs,hx⟩ | ⟨a,len,cap,m,n,D,Pl,hcs,_,hl,hm,hmm,hx,hi⟩
 ·simp only [List.cons.injEq,and_true] at hcs
  subst hcs
  exact ⟨[],.nil,PZ.nil _ _,by simp,by simp⟩
 ·simp only [List.cons.injEq,and_true] at hcs
  subst hcs
  subst hx
  simp only [if_true] at hmm
  subst hmm
  have each : ∀ i,i < len -> ∃ z : Zs,(W.cell? (a.add (i * 7)) = some (.int .i64 z.1.client) /\ W.cell? (a.add (i * 7 + 1)) = some (.int .i64 z.1.seq) /\ W.cell? (a.add (i * 7 + 2)) = some (.int .i64 z.1.rep.code) /\ W.cell? (a.add (i * 7 + 3)) = some (.int .i64 z.1.rep.err) /\ W.cell? (a.add (i * 7 + 4)) = some (.bool z.1.rep.has) /\ W.cell? (a.add (i * 7 + 5)) = some (.string z.1.rep.val) /\ W.cell? (a.add (i * 7 + 6)) = some z.2) /\ ArgP W z.2 z.1.rep.ps /\ LimZ z.1:=by
   intro i hi0
   obtain ⟨cs',hc,ht⟩:=hi i (by omega)
   rw [cellsZ] at hc
   have mem : ∀ x ∈ (D i).weights Tryz.prog 89,x <= reachBytes:=fun x hx => hwt x (by
    simp only [DataW.weights,Tryz.underlying35]
    exact List.mem_cons.2 (.inr (List.mem_append.2 (.inl (weight_mem hi0 x hx)))))
   obtain ⟨z,rfl,ha,hl⟩:=ses_of ht mem
   obtain ⟨_,_,hat⟩:=World.cells?_some hc
   have a0:=hat 0 (by omega)
   have a1:=hat 1 (by omega)
   have a2:=hat 2 (by omega)
   have a3:=hat 3 (by omega)
   have a4:=hat 4 (by omega)
   have a5:=hat 5 (by omega)
   have a6:=hat 6 (by omega)
   rw [Go.Deep.add_add] at a0 a1 a2 a3 a4 a5 a6
   exact ⟨z,⟨a0,a1,a2,a3,a4,a5,a6⟩,ha,hl⟩
  obtain ⟨F,hF⟩:=choose_lt each
  have hlen : ((List.range len).map F).length = len:=by simp
  refine ⟨(List.range len).map F,?_,?_,?_,?_⟩
  ·by_cases h0 : 0 < len
   ·have g0:=(hF 0 h0).1.1
    have hcl:=lt_cell g0
    rw [add_block] at hcl
    have hsp : a.spot = none:=by
     rw [Nat.zero_mul,Addr.add_zero'] at g0
     cases hs : a.spot with
     | none => rfl
     | some q =>
      unfold World.cell? at g0
      rw [hs] at g0
      split at g0 <;> simp at g0
    obtain ⟨b,o,q⟩:=a
    have hq : q = none:=hsp
    subst hq
    have key : ArgZ W (.slice (some ⟨b,o,none⟩) ((List.range len).map F).length m) ((List.range len).map F):=by
     refine .some b o m _ (by rw [hlen]; exact hl) ⟨_,_,rfl,fun _ => ⟨b,o,rfl,hcl,fun i hi => ?_⟩⟩
     have hi' : i < len:=by rwa [hlen] at hi
     obtain ⟨⟨e0,e1,e2,e3,e4,e5,e6⟩,_⟩:=hF i hi'
     rw [Addr.add_lit] at e0 e1 e2 e3 e4 e5 e6
     simp only [List.getElem_map,List.getElem_range]
     exact ⟨e0,e1,e2,e3,e4,e5,e6⟩
    rw [hlen] at key
    exact key
   ·obtain rfl : len = 0:=by omega
    exact .empty a m
  ·intro z hz
   obtain ⟨i,hi',rfl⟩:=List.mem_map.1 hz
   exact (hF i (List.mem_range.1 hi')).2.1.sm
  ·have:=hwt ((((List.range len).map D).length + ((List.range (m - len)).map fun j => D (len + j)).length) * 80) (by
    simp only [DataW.weights,Tryz.underlying35,bytesZ]
    exact List.mem_cons_self)
   simp at this ⊢
   omega
  ·intro z hz
   obtain ⟨i,hi',rfl⟩:=List.mem_map.1 hz
   exact (hF i (List.mem_range.1 hi')).2.2
end
end Go.Proofs.YthcmnkmfhgoddaaGreatDoor.Ss
