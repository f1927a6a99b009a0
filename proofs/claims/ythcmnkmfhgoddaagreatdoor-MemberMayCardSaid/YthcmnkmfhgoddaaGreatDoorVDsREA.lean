/-
  The document's last word on what a change comes to: the descriptor,if it may be. Conditions: texts at most 2^47 bytes.
  The document's Remove. Conditions: a descriptor that is fit.
  The document's Add. Conditions: a descriptor that is fit.
-/
import Derived.Test.YthcmnkmfhgoddaaGreatDoorVDpRIA
import Derived.Test.YthcmnkmfhgoddaaGreatDoorVDsPaA
import Derived.Test.YthcmnkmfhgoddaaGreatDoorVDsPNA
namespace Go.Proofs.YthcmnkmfhgoddaaGreatDoor.Ds
open Go.RowKit Bnd
set_option maxHeartbeats 2000000 in
theorem right_any (d : De) (s : Value) (w : World) (hs : SM w w.heap.size s d.ms) (hl : d.ms.length <= 140737488355328) (hf : d.f.size <= 140737488355328) (ht : d.t.size <= 140737488355328) :
  Calls Tryz.prog 101 #[dv d s] w fun e w' => e = .returned (okV d s) /\ Below w.heap.size w w':=by
 obtain ⟨A,c,rfl⟩:=hs.form
 have cc:=fun w hs => ris_any d (.slice A d.ms.length c) w hs hf ht hl
 have hst : ∀ w1,Below w.heap.size w w1 -> SM w1 w1.heap.size (.slice A d.ms.length c) d.ms:=fun w1 hb => (hs.below hb).more hb.size
 cases hd : isD d with
 | false =>
  have hr : okV d (.slice A d.ms.length c) = .tuple #[dv De.zero (.slice none 0 0),.int .i64 60]:=by unfold okV; rw [if_neg (by simp [hd])]
  rw [hr]
  rw [hd] at cc
  clear hr hd
  go_enter Tryz.func101,Tryz.ntmps101
  go_wp2_with fail
  refine (cc _ (hst _ (by exact Ds.bex1))).mono ?_
  rintro e w1 ⟨rfl,b1⟩
  have B2:=(BoxD.zero (w.alloc (.cells #[.int .i64 d.id,.string d.f,.string d.t,.int .i64 d.gen,.slice A d.ms.length c,.int .i64 d.next] 26))).keep b1
  rw [World.size_alloc] at B2
  obtain ⟨z2,⟨f1,f2,f3,f4,f5,f6⟩,f7⟩:=id B2
  have hb : Below w.heap.size w w1:=(((Below.refl _ w).alloc (Nat.le_refl _) _).alloc (by simp) _).trans (b1.mono (by simp; omega))
  clear b1
  go_wp2_with fail
  refine bodyPost_ret (v:=.tuple #[dv De.zero (.slice none 0 0),.int .i64 60]) (res_box_tmp Tryz.results101 rfl rfl (BoxD.put B2 De.zero (.slice none 0 0))) rfl ⟨rfl,?_⟩
  (exact Ds.bex1)
 | true =>
  have hr : okV d (.slice A d.ms.length c) = .tuple #[dv d (.slice A d.ms.length c),.int .i64 0]:=by unfold okV; rw [if_pos hd]
  rw [hr]
  rw [hd] at cc
  clear hr hd
  go_enter Tryz.func101,Tryz.ntmps101
  go_wp2_with fail
  refine (cc _ (hst _ (by exact Ds.bex1))).mono ?_
  rintro e w1 ⟨rfl,b1⟩
  have B1:=((BoxD.new w d (.slice A d.ms.length c)).alloc (.cells #[.int .i64 0,.string ⟨#[]⟩,.string ⟨#[]⟩,.int .i64 0,.slice none 0 0,.int .i64 0] 26)).keep b1
  have B2:=(BoxD.zero (w.alloc (.cells #[.int .i64 d.id,.string d.f,.string d.t,.int .i64 d.gen,.slice A d.ms.length c,.int .i64 d.next] 26))).keep b1
  rw [World.size_alloc] at B2
  obtain ⟨z1,⟨e1,e2,e3,e4,e5,e6⟩,e7⟩:=id B1
  obtain ⟨z2,⟨f1,f2,f3,f4,f5,f6⟩,f7⟩:=id B2
  have hb : Below w.heap.size w w1:=(((Below.refl _ w).alloc (Nat.le_refl _) _).alloc (by simp) _).trans (b1.mono (by simp; omega))
  clear b1
  go_wp2_with fail
  refine bodyPost_ret (v:=.tuple #[dv d (.slice A d.ms.length c),.int .i64 0]) (res_box_tmp Tryz.results101 rfl rfl (BoxD.put B2 d (.slice A d.ms.length c))) rfl ⟨rfl,?_⟩
  (exact Ds.bex1)
end Go.Proofs.YthcmnkmfhgoddaaGreatDoor.Ds

namespace Go.Proofs.YthcmnkmfhgoddaaGreatDoor.Ds
open Go.RowKit Bnd
theorem drop_snoc {i : Int} {l : List Mem} {k : Nat} (h : k < l.length) : dropM i (l.take (k + 1)) = dropM i (l.take k) ++ (if l[k].2 ≠ i then [l[k]] else []):=by
 unfold dropM
 rw [List.take_succ_eq_append_getElem h,List.filter_append]
 by_cases he : l[k].2 = i <;> simp [he]
theorem drop_le (i : Int) (l : List Mem) (k : Nat) : (dropM i (l.take k)).length <= l.length:=by
 unfold dropM
 exact Nat.le_trans (List.length_filter_le _ _) (by simp; omega)
set_option maxHeartbeats 8000000 in
set_option maxRecDepth 100000 in
theorem rremove_any (d : De) (s : Value) (i : Int) (w : World) (hl : ArgM w s d.ms) (fl : Fit d) :
  Calls Tryz.prog 48 #[dv d s,.int .i64 i] w (Gave w (removeD d i)):=by
 obtain ⟨A,c,rfl⟩:=hl.form
 have hn:=fl.n
 have ch:=fun w h => rhas_any d (.slice A d.ms.length c) i w h (by omega)
 have ci:=fun w h => ris_any d (.slice A d.ms.length c) w h fl.f fl.t (by omega)
 have hst : ∀ w1,Below w.heap.size w w1 -> SM w1 w1.heap.size (.slice A d.ms.length c) d.ms:=fun w1 hb => (hl.keep hb).sm
 obtain ⟨u,v,z,hV,hz⟩ : ∃ (u v : Int) (z : Bool),optV (hasM i d.ms) = .tuple #[.agg #[.int .i64 u,.int .i64 v],.bool z] /\ z = (hasM i d.ms).isSome:=by
  cases h : hasM i d.ms with
  | none => exact ⟨0,0,false,rfl,rfl⟩
  | some m => exact ⟨m.1,m.2,true,rfl,rfl⟩
 rw [hV] at ch
 clear hV
 cases hd : isD d with
 | false =>
  have hr : removeD d i = (De.zero,60):=by unfold removeD; rw [if_neg (by simp [hd])]
  rw [hr]
  rw [hd] at ci
  clear hr hd hz
  go_enter Tryz.func48,Tryz.ntmps48
  go_wp2_with fail
  refine (ch _ (hst _ (by exact Ds.bex1))).mono ?_
  rintro e w1 ⟨rfl,b1⟩
  obtain ⟨B0,B1,hb1⟩:=boxes2 d (.slice A d.ms.length c) b1
  obtain ⟨p_0,⟨p_1,p_2,p_3,p_4,p_5,p_6⟩,p_7⟩:=id B0
  obtain ⟨q_0,⟨q_1,q_2,q_3,q_4,q_5,q_6⟩,q_7⟩:=id B1
  clear b1
  go_wp2_with fail
  refine (ci _ (hst _ (hb1.alloc hb1.size _))).mono ?_
  rintro e w2 ⟨rfl,b2⟩
  have hb2 : Below w.heap.size w w2:=(hb1.alloc hb1.size _).trans (b2.mono (by have:=hb1.size; simp; omega))
  have B1:=(B1.alloc _).keep b2
  clear p_0 p_1 p_2 p_3 p_4 p_5 p_6 p_7
  clear q_0 q_1 q_2 q_3 q_4 q_5 q_6 q_7
  obtain ⟨q_0,⟨q_1,q_2,q_3,q_4,q_5,q_6⟩,q_7⟩:=id B1
  clear b2 B0
  go_wp2_with fail
  exact bodyPost_ret (res_box_tmp Tryz.results48 rfl rfl (BoxD.put B1 De.zero (.slice none 0 0))) rfl (Gave.zero (by exact Ds.bex1))
 | true =>
  rw [hd] at ci
  have short : ∀ q : Int,(z = false /\ q = 7 \/ z = true /\ d.ms.length = 1 /\ q = 2) -> removeD d i = (De.zero,q):=by
   rintro q (⟨h1,rfl⟩ | ⟨h1,h2,rfl⟩)
   ·unfold removeD; rw [if_pos hd,if_neg (by rw [<- hz,h1]; simp)]
   ·unfold removeD; rw [if_pos hd,if_pos (by rw [<- hz,h1]),if_pos h2]
  cases hzz : z with
  | false =>
   rw [short 7 (.inl ⟨hzz,rfl⟩)]
   rw [hzz] at ch
   clear short hz hzz hd
   go_enter Tryz.func48,Tryz.ntmps48
   go_wp2_with fail
   refine (ch _ (hst _ (by exact Ds.bex1))).mono ?_
   rintro e w1 ⟨rfl,b1⟩
   obtain ⟨B0,B1,hb1⟩:=boxes2 d (.slice A d.ms.length c) b1
   obtain ⟨p_0,⟨p_1,p_2,p_3,p_4,p_5,p_6⟩,p_7⟩:=id B0
   obtain ⟨q_0,⟨q_1,q_2,q_3,q_4,q_5,q_6⟩,q_7⟩:=id B1
   clear b1
   go_wp2_with fail
   refine (ci _ (hst _ (hb1.alloc hb1.size _))).mono ?_
   rintro e w2 ⟨rfl,b2⟩
   have hb2 : Below w.heap.size w w2:=(hb1.alloc hb1.size _).trans (b2.mono (by have:=hb1.size; simp; omega))
   have B1:=(B1.alloc _).keep b2
   have B0:=(B0.alloc _).keep b2
   clear p_0 p_1 p_2 p_3 p_4 p_5 p_6 p_7
   clear q_0 q_1 q_2 q_3 q_4 q_5 q_6 q_7
   obtain ⟨p_0,⟨p_1,p_2,p_3,p_4,p_5,p_6⟩,p_7⟩:=id B0
   obtain ⟨q_0,⟨q_1,q_2,q_3,q_4,q_5,q_6⟩,q_7⟩:=id B1
   clear b2
   go_wp2_with fail
   exact bodyPost_ret (res_box_tmp Tryz.results48 rfl rfl (BoxD.put B1 De.zero (.slice none 0 0))) rfl (Gave.zero (by exact Ds.bex1))
  | true =>
   by_cases h1 : d.ms.length = 1
   ·rw [short 2 (.inr ⟨hzz,h1,rfl⟩)]
    rw [hzz] at ch
    have e1 : ((d.ms.length : Int) == 1) = true:=by simp [h1]
    have e2 : ((d.ms.length : Int) = 1) = True:=eq_true (by omega)
    clear short hz hzz hd h1
    go_enter Tryz.func48,Tryz.ntmps48
    go_wp2_with fail
    refine (ch _ (hst _ (by exact Ds.bex1))).mono ?_
    rintro e w1 ⟨rfl,b1⟩
    obtain ⟨B0,B1,hb1⟩:=boxes2 d (.slice A d.ms.length c) b1
    obtain ⟨p_0,⟨p_1,p_2,p_3,p_4,p_5,p_6⟩,p_7⟩:=id B0
    obtain ⟨q_0,⟨q_1,q_2,q_3,q_4,q_5,q_6⟩,q_7⟩:=id B1
    clear b1
    go_wp2_with fail
    refine (ci _ (hst _ (hb1.alloc hb1.size _))).mono ?_
    rintro e w2 ⟨rfl,b2⟩
    have hb2 : Below w.heap.size w w2:=(hb1.alloc hb1.size _).trans (b2.mono (by have:=hb1.size; simp; omega))
    have B1:=(B1.alloc _).keep b2
    have B0:=(B0.alloc _).keep b2
    clear p_0 p_1 p_2 p_3 p_4 p_5 p_6 p_7
    clear q_0 q_1 q_2 q_3 q_4 q_5 q_6 q_7
    obtain ⟨p_0,⟨p_1,p_2,p_3,p_4,p_5,p_6⟩,p_7⟩:=id B0
    obtain ⟨q_0,⟨q_1,q_2,q_3,q_4,q_5,q_6⟩,q_7⟩:=id B1
    clear b2
    go_wp2_with fail
    exact bodyPost_ret (res_box_tmp Tryz.results48 rfl rfl (BoxD.put B1 De.zero (.slice none 0 0))) rfl (Gave.zero (by exact Ds.bex1))
   ·have hr : removeD d i = okD { d with ms:=dropM i d.ms,gen:=d.gen + 1 }:=by unfold removeD; rw [if_pos hd,if_pos (by rw [<- hz,hzz]),if_neg h1]
    obtain ⟨p,q,hpq⟩ : ∃ p q,removeD d i = (p,q):=⟨_,_,rfl⟩
    rw [hpq]
    rw [hpq] at hr
    have HR:=Lib.hid hr
    have HGN:=Lib.hid (isD_gen hd)
    rw [hzz] at ch
    have e1 : ((d.ms.length : Int) == 1) = false:=by simp; omega
    have e2 : ((d.ms.length : Int) = 1) = False:=eq_false (by omega)
    clear short hz hzz hd h1 hr hpq
    go_enter Tryz.func48,Tryz.ntmps48
    go_wp2_with fail
    refine (ch _ (hst _ (by exact Ds.bex1))).mono ?_
    rintro e w1 ⟨rfl,b1⟩
    obtain ⟨B0,B1,hb1⟩:=boxes2 d (.slice A d.ms.length c) b1
    obtain ⟨p_0,⟨p_1,p_2,p_3,p_4,p_5,p_6⟩,p_7⟩:=id B0
    obtain ⟨q_0,⟨q_1,q_2,q_3,q_4,q_5,q_6⟩,q_7⟩:=id B1
    clear b1
    go_wp2_with fail
    refine (ci _ (hst _ (hb1.alloc hb1.size _))).mono ?_
    rintro e w2 ⟨rfl,b2⟩
    have hb2 : Below w.heap.size w w2:=(hb1.alloc hb1.size _).trans (b2.mono (by have:=hb1.size; simp; omega))
    have B1:=(B1.alloc _).keep b2
    have B0:=(B0.alloc _).keep b2
    clear p_0 p_1 p_2 p_3 p_4 p_5 p_6 p_7
    clear q_0 q_1 q_2 q_3 q_4 q_5 q_6 q_7
    obtain ⟨p_0,⟨p_1,p_2,p_3,p_4,p_5,p_6⟩,p_7⟩:=id B0
    obtain ⟨q_0,⟨q_1,q_2,q_3,q_4,q_5,q_6⟩,q_7⟩:=id B1
    clear b2
    have hlt2 : w.heap.size + 1 < w2.heap.size:=B1.1
    go_wp2_with fail
    have hs2 : ArgM w2 (.slice A d.ms.length c) d.ms:=hl.keep hb2
    clear p_0 p_1 p_2 p_3 p_4 p_5 p_6 p_7
    clear q_0 q_1 q_2 q_3 q_4 q_5 q_6 q_7
    go_loopw [8,9] (fun v8 vi wr => ∃ k : Nat,k <= d.ms.length /\ vi = .int .i64 (k : Int) /\ OwnM wr w2.heap.size v8 (dropM i (d.ms.take k)) /\ Below w2.heap.size w2 wr) (fun _ vi _ => d.ms.length - (intOf vi).toNat)
    case atStart => exact ⟨0,Nat.zero_le _,rfl,own_nil _ _,Below.refl _ _⟩
    case round =>
     obtain ⟨k,hk,rfl,hown,hbw⟩:=hrel
     have Bd:=B0.keep hbw
     obtain ⟨p_0,⟨p_1,p_2,p_3,p_4,p_5,p_6⟩,p_7⟩:=id Bd
     by_cases hlt : k < d.ms.length
     rotate_left
     ·obtain rfl : k = d.ms.length:=by omega
      rw [List.take_length] at hown
      obtain ⟨A8,c8,rfl⟩:=(SM.of_own hown).form
      obtain ⟨s',hs',ha'⟩:=okV_spec { d with ms:=dropM i d.ms,gen:=d.gen + 1 } (.slice A8 (dropM i d.ms).length c8)
      have hdl : (dropM i d.ms).length <= 1000:=by have:=drop_le i d.ms d.ms.length; rw [List.take_length] at this; omega
      have cc:=fun wx h => right_any { d with ms:=dropM i d.ms,gen:=d.gen + 1 } (.slice A8 (dropM i d.ms).length c8) wx h (by simp only; omega) fl.f fl.t
      rw [hs'] at cc
      rw [<- HR.out] at cc ha'
      have ha : ArgM wr (.slice A8 (dropM i d.ms).length c8) (dropM i d.ms):=ArgM.of_own hown
      obtain ⟨A2,c2,rfl⟩:=(ha' _ ha).form
      have HA:=Lib.hid ha'
      have HO:=Lib.hid hown
      have Bz:=B1.keep hbw
      obtain ⟨q_0,⟨q_1,q_2,q_3,q_4,q_5,q_6⟩,q_7⟩:=id Bz
      obtain ⟨e3,e4⟩:=HGN.out
      have hbr : Below w.heap.size w wr:=hb2.trans (hbw.mono hb2.size)
      have hbz:=hbw.size
      simp only at cc
      clear hs' ha' ha hown
      go_wp2_with fail
      refine (cc _ (SM.of_own (base:=w2.heap.size) ?_)).mono ?_
      ·have:=HO.out
       (repeat' (first | with_reducible assumption | with_reducible refine own_set ?_ ?_ _ | with_reducible refine own_alloc ?_ _ | with_reducible refine own_drew ?_ | omega | (simp; done) | (simp; omega)))
      rintro e w4 ⟨rfl,b4⟩
      have F1 : BoxD (w.heap.size + 1) De.zero (.slice none 0 0) w4:=BoxD.keep (by (repeat' (first | with_reducible assumption | with_reducible refine BoxD.other ?_ ?_ _ | with_reducible refine BoxD.alloc ?_ _ | with_reducible refine BoxD.drew ?_ | omega | (simp; done) | (simp; omega)))) b4
      have hO4 : OwnM w4 w2.heap.size (.slice A8 (dropM i d.ms).length c8) (dropM i d.ms):=own_keep (by
       have:=HO.out
       (repeat' (first | with_reducible assumption | with_reducible refine own_set ?_ ?_ _ | with_reducible refine own_alloc ?_ _ | with_reducible refine own_drew ?_ | omega | (simp; done) | (simp; omega)))) b4
      have hb4 : Below w.heap.size w w4:=(show Below w.heap.size w _ from (by exact Ds.bex1)).trans (b4.mono (by have:=hbr.size; simp; omega))
      have HO4:=Lib.hid hO4
      clear p_0 p_1 p_2 p_3 p_4 p_5 p_6 p_7
      clear q_0 q_1 q_2 q_3 q_4 q_5 q_6 q_7
      obtain ⟨q_0,⟨q_1,q_2,q_3,q_4,q_5,q_6⟩,q_7⟩:=id F1
      clear b4 cc hO4
      go_wp2_with fail
      refine bodyPost_ret (res_box_tmp Tryz.results48 rfl rfl (BoxD.put F1 p (.slice A2 p.ms.length c2))) rfl ⟨_,rfl,HA.out _ (ArgM.of_own (base:=w2.heap.size) ?_),(by exact Ds.bex1)⟩
      show OwnM _ _ _ (dropM i d.ms)
      have:=HO4.out
      (repeat' (first | with_reducible assumption | with_reducible refine own_set ?_ ?_ _ | with_reducible refine own_alloc ?_ _ | with_reducible refine own_drew ?_ | omega | (simp; done) | (simp; omega)))
     ·obtain ⟨b,o,rfl,hb,m1,m2⟩:=(hs2.sm.below hbw).at_ hlt
      obtain ⟨⟨x,y⟩,hm⟩ : ∃ m,d.ms[k] = m:=⟨_,rfl⟩
      rw [hm] at m1 m2
      simp only at m1 m2
      have hsn:=drop_snoc (i:=i) hlt
      rw [hm] at hsn
      simp only at hsn
      clear hm
      have hO:=Lib.hid hown
      by_cases hy : y = i
      ·rw [if_neg (by simp [hy]),List.append_nil] at hsn
       have HS:=Lib.hid hsn
       have y1 : (y == i) = true:=by simpa using hy
       have y2 : (y = i) = True:=eq_true hy
       have y3 : (y != i) = false:=by simp [hy]
       clear hsn hy hown
       go_wp2_with fail
       go_roundw
       case rel => exact ⟨k + 1,by omega,by go_num,by rw [HS.out]; exact hO.out,hbw⟩
       case measure => simp [intOf]; omega
      ·rw [if_pos hy] at hsn
       have HS:=Lib.hid hsn
       have y1 : (y == i) = false:=by simpa using hy
       have y2 : (y = i) = False:=eq_false hy
       have y3 : (y != i) = true:=by simpa using hy
       have hle:=drop_le i d.ms k
       have hbz:=hbw.size
       clear hsn hy hown
       go_wp2_with (at_builtin; refine wpList_append_ms rfl _ _ rfl w2.heap.size _ (dropM i (d.ms.take k)) rfl (own_alloc hO.out _) (by simp; omega) _ [(x,y)] rfl (arg_one wr (x,y)) (by simp; omega) ?_)
       intro v' w3 hown3 hb3 _
       have hbn : Below w2.heap.size w2 w3:=(hbw.alloc hbz _).trans hb3
       clear hb3
       go_wp2_with fail
       go_roundw
       case rel => exact ⟨k + 1,by omega,by go_num,by rw [HS.out]; exact hown3,hbn⟩
       case measure => simp [intOf]; omega
end Go.Proofs.YthcmnkmfhgoddaaGreatDoor.Ds

namespace Go.Proofs.YthcmnkmfhgoddaaGreatDoor.Ds
open Go.RowKit Bnd
structure RD (W : World) (n : Nat) (ms : List Mem) (m : Mem) (L : Nat -> Bool) (u : Nat -> Value) (wx : World) : Prop where
 b : L 11 = false -> Below W.heap.size W wx
 o0 : L 0 = true -> L 3 = false -> ∃ h : Nat,u 0 = .slice (some ⟨h,0,none⟩) 0 0 /\ OwnM wx W.heap.size (u 0) [] /\ h < wx.heap.size /\ (L 8 = true -> u 8 ≠ .slice (some ⟨h,0,none⟩) 1 1)
 o3 : L 3 = true -> L 9 = false -> OwnM wx W.heap.size (u 3) ms
 o8 : L 8 = true -> L 9 = false -> ∃ g : Nat,u 8 = .slice (some ⟨g,0,none⟩) 1 1 /\ g < wx.heap.size /\ wx.cell? ⟨g,0,none⟩ = some (.int .i64 m.1) /\ wx.cell? ⟨g,1,none⟩ = some (.int .i64 m.2)
 o9 : L 9 = true -> L 11 = false -> OwnM wx W.heap.size (u 9) (ms ++ [m])
 z : L 11 = true -> ∃ w',(Below W.heap.size W w' /\ OwnM w' W.heap.size (u 9) (ms ++ [m])) /\ wx = w'.setCell ⟨n,4,none⟩ (u 9)
theorem RD.made {W wx : World} {n : Nat} {ms : List Mem} {m : Mem} {L : Nat -> Bool} {u : Nat -> Value} (h : RD W n ms m L u wx) (h3 : L 3 = false) (h9 : L 9 = false) (h11 : L 11 = false) :
  RD W n ms m (St.mark L 0) (St.upd u 0 (.slice (some ⟨wx.heap.size,0,none⟩) 0 0)) (wx.alloc (.cells #[] 70)):=by
 have hb:=h.b h11
 have hz:=hb.size
 refine ⟨fun _ => hb.alloc hz _,fun _ _ => ⟨wx.heap.size,rfl,own_base (own_empty wx) hz,by simp,fun h8 e => ?_⟩,fun h' => ?_,fun h8 _ => ?_,fun h' => ?_,fun h' => ?_⟩
 ·have h8 : L 8 = true:=h8
  obtain ⟨g,g1,g2,_⟩:=h.o8 h8 h9
  have e : u 8 = .slice (some ⟨wx.heap.size,0,none⟩) 1 1:=e
  rw [g1] at e
  injection e with e _ _
  injection e with e
  injection e with e _ _
  omega
 ·rw [show St.mark L 0 3 = L 3 from rfl,h3] at h'; cases h'
 ·have h8 : L 8 = true:=h8
  obtain ⟨g,g1,g2,g3,g4⟩:=h.o8 h8 h9
  exact ⟨g,g1,by simp; omega,(World.cell?_alloc_lt wx _ ⟨g,0,none⟩ g2).trans g3,(World.cell?_alloc_lt wx _ ⟨g,1,none⟩ g2).trans g4⟩
 ·rw [show St.mark L 0 9 = L 9 from rfl,h9] at h'; cases h'
 ·rw [show St.mark L 0 11 = L 11 from rfl,h11] at h'; cases h'
theorem RD.one {W wx : World} {n : Nat} {ms : List Mem} {m : Mem} {L : Nat -> Bool} {u : Nat -> Value} (h : RD W n ms m L u wx) (h9 : L 9 = false) (h11 : L 11 = false) :
  RD W n ms m (St.mark L 8) (St.upd u 8 (.slice (some ⟨wx.heap.size,0,none⟩) 1 1)) (wx.alloc (.cells #[.int .i64 m.1,.int .i64 m.2] 70)):=by
 have hb:=h.b h11
 have hz:=hb.size
 refine ⟨fun _ => hb.alloc hz _,fun h0 h3 => ?_,fun h3 _ => own_alloc (h.o3 h3 h9) _,fun _ _ => ⟨wx.heap.size,rfl,by simp,World.cell?_alloc_new wx _ _ 0,World.cell?_alloc_new wx _ _ 1⟩,fun h' => ?_,fun h' => ?_⟩
 ·obtain ⟨g,g1,g2,g3,_⟩:=h.o0 h0 h3
  refine ⟨g,g1,own_alloc g2 _,by simp; omega,fun _ e => ?_⟩
  have e : (Value.slice (some ⟨wx.heap.size,0,none⟩) 1 1) = .slice (some ⟨g,0,none⟩) 1 1:=e
  injection e with e _ _
  injection e with e
  injection e with e _ _
  omega
 ·rw [show St.mark L 8 9 = L 9 from rfl,h9] at h'; cases h'
 ·rw [show St.mark L 8 11 = L 11 from rfl,h11] at h'; cases h'
theorem RD.app {W wx : World} {n : Nat} {ms : List Mem} {m : Mem} {L : Nat -> Bool} {u : Nat -> Value} (h : RD W n ms m L u wx) (h0 : L 0 = true) (h3 : L 3 = false) (h9 : L 9 = false) (h11 : L 11 = false)
  {v : Value} (hv : ArgM W v ms) (hl : ms.length <= 100000) (ty : TypeId) :
  ∃ v' w',(∃ A c,v' = .slice A ms.length c) /\ (Builtin.append_ #[24,24] ty #[u 0,v]).run Tryz.prog wx = .ok v' w' /\ RD W n ms m (St.mark L 3) (St.upd u 3 v') w':=by
 obtain ⟨i0,hi,hz0,hz1,hz2⟩:=info_parts infoM
 have hb:=h.b h11
 have hz:=hb.size
 obtain ⟨q,q1,q2,q3,q4⟩:=h.o0 h0 h3
 have hvx : ArgM wx v ms:=hv.keep hb
 have key : ∃ v' w',(Builtin.append_ #[24,24] ty #[u 0,v]).run Tryz.prog wx = .ok v' w' /\ OwnM w' W.heap.size v' ms /\ wx.grownBy w' (u 0).ownBlock:=by
  cases hvx with
  | nil =>
   have hrun:=run_append_owned_none (P:=Tryz.prog) (w:=wx) W.heap.size 24 ty 70 i0 2 Tryz.underlying24 hi (u 0) 0 [] q2
   exact ⟨u 0,wx,hrun,q2,⟨rfl,rfl,rfl,Nat.le_refl _,fun _ _ _ => rfl⟩⟩
  | some b o c ms hn =>
   obtain ⟨v',w',k1,k2,k3,_⟩:=run_append_own (P:=Tryz.prog) (w:=wx) W.heap.size 24 ty 70 i0 (.agg #[.int .i64 0,.int .i64 0]) 2 16 Tryz.underlying24 hi hz0 hz1 hz2 rfl (by decide) (u 0) 0 [] q2 ⟨b,o,none⟩ ms.length c (mcells ms) (mcells_length ms) (news_of hn) (mcells_one ms) (by unfold maxLen; omega) (by omega) hz
   refine ⟨v',w',k1,?_,k3⟩
   show w'.ownsRow _ _ _ _ _ _
   rw [Nat.zero_add] at k2
   exact k2
  | empty ad c =>
   obtain ⟨v',w',k1,k2,k3,_⟩:=run_append_own (P:=Tryz.prog) (w:=wx) W.heap.size 24 ty 70 i0 (.agg #[.int .i64 0,.int .i64 0]) 2 16 Tryz.underlying24 hi hz0 hz1 hz2 rfl (by decide) (u 0) 0 [] q2 ad 0 c [] rfl (fun j u h => by simp at h) (fun u h => by simp at h) (by unfold maxLen; omega) (by omega) hz
   exact ⟨v',w',k1,k2,k3⟩
 obtain ⟨v',w',k1,k2,k3⟩:=key
 have hbe : Below W.heap.size wx w':=(Below.refl _ wx).grown k3 hz (fun k hk => (q2.lt k hk).1)
 refine ⟨v',w',(SM.of_own k2).form,k1,fun _ => hb.trans hbe,fun _ h' => (by simp [St.mark] at h'),fun _ _ => k2,fun h8 _ => ?_,fun h' => ?_,fun h' => ?_⟩
 ·have h8 : L 8 = true:=h8
  obtain ⟨g,g1,g2,g3,g4⟩:=h.o8 h8 h9
  have hne : (u 0).ownBlock ≠ some g:=by
   intro e
   rw [q1] at e
   have e' : q = g:=by simpa [Value.ownBlock] using e
   exact q4 h8 (by rw [g1,e'])
  have hc : ∀ i,w'.cell? ⟨g,i,none⟩ = wx.cell? ⟨g,i,none⟩:=fun i => by
   exact World.cell?_of_block (a:=⟨g,i,none⟩) (k3.block g g2 (fun e => hne e.symm))
  exact ⟨g,g1,Nat.lt_of_lt_of_le g2 hbe.size,by rw [hc]; exact g3,by rw [hc]; exact g4⟩
 ·rw [show St.mark L 3 9 = L 9 from rfl,h9] at h'; cases h'
 ·rw [show St.mark L 3 11 = L 11 from rfl,h11] at h'; cases h'
theorem RD.app2 {W wx : World} {n : Nat} {ms : List Mem} {m : Mem} {L : Nat -> Bool} {u : Nat -> Value} (h : RD W n ms m L u wx) (h3 : L 3 = true) (h8 : L 8 = true) (h9 : L 9 = false) (h11 : L 11 = false) (hl : ms.length <= 100000) (ty : TypeId) :
  ∃ v' w',(∃ A c,v' = .slice A (ms.length + 1) c) /\ (Builtin.append_ #[24,24] ty #[u 3,u 8]).run Tryz.prog wx = .ok v' w' /\ RD W n ms m (St.mark L 9) (St.upd u 9 v') w':=by
 obtain ⟨i0,hi,hz0,hz1,hz2⟩:=info_parts infoM
 have hb:=h.b h11
 have hz:=hb.size
 have q3:=h.o3 h3 h9
 obtain ⟨g,g1,g2,g3,g4⟩:=h.o8 h8 h9
 obtain ⟨v',w',k1,k2,k3,_⟩:=run_append_own (P:=Tryz.prog) (w:=wx) W.heap.size 24 ty 70 i0 (.agg #[.int .i64 0,.int .i64 0]) 2 16 Tryz.underlying24 hi hz0 hz1 hz2 rfl (by decide) (u 3) ms.length (mcells ms) q3 ⟨g,0,none⟩ 1 1 [.int .i64 m.1,.int .i64 m.2] rfl
  (fun j z hz => by
   match j with
   | 0 => simp at hz; subst hz; exact g3
   | 1 => simp at hz; subst hz; exact g4
   | j + 2 => simp at hz) (fun z hz => by simp at hz; rcases hz with rfl | rfl <;> rfl) (by unfold maxLen; omega) (by omega) hz
 rw [<- g1] at k1
 have k2' : OwnM w' W.heap.size v' (ms ++ [m]):=by
  show w'.ownsRow _ _ _ _ _ _
  rw [List.length_append,mcells_append]
  exact k2
 have hbe : Below W.heap.size wx w':=(Below.refl _ wx).grown k3 hz (fun k hk => (q3.lt k hk).1)
 have hf:=(SM.of_own k2').form
 rw [List.length_append] at hf
 refine ⟨v',w',hf,k1,fun _ => hb.trans hbe,fun _ h' => ?_,fun _ h' => (by simp [St.mark] at h'),fun _ h' => (by simp [St.mark] at h'),fun _ _ => k2',fun h' => ?_⟩
 ·rw [show St.mark L 9 3 = L 3 from rfl,h3] at h'; cases h'
 ·rw [show St.mark L 9 11 = L 11 from rfl,h11] at h'; cases h'
theorem RD.set {W wx : World} {n : Nat} {ms : List Mem} {m : Mem} {L : Nat -> Bool} {u : Nat -> Value} (h : RD W n ms m L u wx) (h9 : L 9 = true) (h3 : L 3 = true) (_h8 : L 8 = true) (h11 : L 11 = false) :
  RD W n ms m (St.mark L 11) (St.upd u 11 undef) (wx.setCell ⟨n,4,none⟩ (u 9)):=by
 refine ⟨fun h' => (by simp [St.mark] at h'),fun _ h' => ?_,fun _ h' => ?_,fun _ h' => ?_,fun _ h' => (by simp [St.mark] at h'),fun _ => ⟨wx,⟨h.b h11,h.o9 h9 h11⟩,rfl⟩⟩
 ·rw [show St.mark L 11 3 = L 3 from rfl,h3] at h'; cases h'
 ·rw [show St.mark L 11 9 = L 9 from rfl,h9] at h'; cases h'
 ·rw [show St.mark L 11 9 = L 9 from rfl,h9] at h'; cases h'
theorem isD_nx {d : De} (h : isD d = true) : IntKind.i64.wrap (d.next + 1) = d.next + 1 /\ d.next + 1 <= 1099511627777:=by
 have h1:=isD_next h
 exact ⟨by rw [IntKind.wrap_i64] <;> omega,by omega⟩
set_option maxHeartbeats 8000000 in
set_option maxRecDepth 100000 in
theorem radd_any (d : De) (s : Value) (n : Int) (w : World) (hl : ArgM w s d.ms) (fl : Fit d) :
  Calls Tryz.prog 47 #[dv d s,.int .i64 n] w (Gave w (addD d n)):=by
 obtain ⟨A,c,rfl⟩:=hl.form
 have hn:=fl.n
 have ch:=fun w h => ron_any d (.slice A d.ms.length c) n w h (by omega)
 have ci:=fun w h => ris_any d (.slice A d.ms.length c) w h fl.f fl.t (by omega)
 have hst : ∀ w1,Below w.heap.size w w1 -> SM w1 w1.heap.size (.slice A d.ms.length c) d.ms:=fun w1 hb => (hl.keep hb).sm
 obtain ⟨u,v,z,hV,hz⟩ : ∃ (u v : Int) (z : Bool),optV (onM n d.ms) = .tuple #[.agg #[.int .i64 u,.int .i64 v],.bool z] /\ z = (onM n d.ms).isSome:=by
  cases h : onM n d.ms with
  | none => exact ⟨0,0,false,rfl,rfl⟩
  | some m => exact ⟨m.1,m.2,true,rfl,rfl⟩
 rw [hV] at ch
 clear hV
 cases hd : isD d with
 | false =>
  have hr : addD d n = (De.zero,60):=by unfold addD; rw [if_neg (by simp [hd])]
  rw [hr]
  rw [hd] at ci
  clear hr hd hz
  go_enter Tryz.func47,Tryz.ntmps47
  go_wp2_with fail
  refine (ch _ (hst _ (by exact bex0))).mono ?_
  rintro e w1 ⟨rfl,b1⟩
  obtain ⟨B0,B1,hb1⟩:=boxes2 d (.slice A d.ms.length c) b1
  obtain ⟨p_0,⟨p_1,p_2,p_3,p_4,p_5,p_6⟩,p_7⟩:=id B0
  obtain ⟨q_0,⟨q_1,q_2,q_3,q_4,q_5,q_6⟩,q_7⟩:=id B1
  clear b1
  go_wp2_with fail
  refine (ci _ (hst _ (hb1.alloc hb1.size _))).mono ?_
  rintro e w2 ⟨rfl,b2⟩
  have hb2 : Below w.heap.size w w2:=(hb1.alloc hb1.size _).trans (b2.mono (by have:=hb1.size; simp; omega))
  have B1:=(B1.alloc _).keep b2
  have B0:=(B0.alloc _).keep b2
  clear p_0 p_1 p_2 p_3 p_4 p_5 p_6 p_7
  clear q_0 q_1 q_2 q_3 q_4 q_5 q_6 q_7
  obtain ⟨p_0,⟨p_1,p_2,p_3,p_4,p_5,p_6⟩,p_7⟩:=id B0
  obtain ⟨q_0,⟨q_1,q_2,q_3,q_4,q_5,q_6⟩,q_7⟩:=id B1
  clear b2
  go_wp2_with fail
  exact bodyPost_ret (res_box_tmp Tryz.results47 rfl rfl (BoxD.put B1 De.zero (.slice none 0 0))) rfl (Gave.zero (by exact bex0))
 | true =>
  rw [hd] at ci
  by_cases hnb : nodeB n = true
  rotate_left
  ·have hr : addD d n = (De.zero,2):=by unfold addD; rw [if_pos hd,if_neg hnb]
   rw [hr]
   unfold nodeB at hnb
   simp only [decide_eq_true_eq] at hnb
   have hc : (n < 1) \/ (¬ n < 1 /\ 7 < n):=by omega
   clear hr hd hz hnb
   rcases hc with h1 | ⟨h1,h2⟩
   ·have e1 : (n < 1) = True:=eq_true h1
    go_enter Tryz.func47,Tryz.ntmps47
    go_wp2_with fail
    refine (ch _ (hst _ (by exact bex0))).mono ?_
    rintro e w1 ⟨rfl,b1⟩
    obtain ⟨B0,B1,hb1⟩:=boxes2 d (.slice A d.ms.length c) b1
    obtain ⟨p_0,⟨p_1,p_2,p_3,p_4,p_5,p_6⟩,p_7⟩:=id B0
    obtain ⟨q_0,⟨q_1,q_2,q_3,q_4,q_5,q_6⟩,q_7⟩:=id B1
    clear b1
    go_wp2_with fail
    refine (ci _ (hst _ (hb1.alloc hb1.size _))).mono ?_
    rintro e w2 ⟨rfl,b2⟩
    have hb2 : Below w.heap.size w w2:=(hb1.alloc hb1.size _).trans (b2.mono (by have:=hb1.size; simp; omega))
    have B1:=(B1.alloc _).keep b2
    have B0:=(B0.alloc _).keep b2
    clear p_0 p_1 p_2 p_3 p_4 p_5 p_6 p_7
    clear q_0 q_1 q_2 q_3 q_4 q_5 q_6 q_7
    obtain ⟨p_0,⟨p_1,p_2,p_3,p_4,p_5,p_6⟩,p_7⟩:=id B0
    obtain ⟨q_0,⟨q_1,q_2,q_3,q_4,q_5,q_6⟩,q_7⟩:=id B1
    clear b2
    go_wp2_with fail
    exact bodyPost_ret (res_box_tmp Tryz.results47 rfl rfl (BoxD.put B1 De.zero (.slice none 0 0))) rfl (Gave.zero (by exact bex0))
   ·have e1 : (n < 1) = False:=eq_false h1
    have e2 : (n > 7) = True:=eq_true h2
    go_enter Tryz.func47,Tryz.ntmps47
    go_wp2_with fail
    refine (ch _ (hst _ (by exact bex0))).mono ?_
    rintro e w1 ⟨rfl,b1⟩
    obtain ⟨B0,B1,hb1⟩:=boxes2 d (.slice A d.ms.length c) b1
    obtain ⟨p_0,⟨p_1,p_2,p_3,p_4,p_5,p_6⟩,p_7⟩:=id B0
    obtain ⟨q_0,⟨q_1,q_2,q_3,q_4,q_5,q_6⟩,q_7⟩:=id B1
    clear b1
    go_wp2_with fail
    refine (ci _ (hst _ (hb1.alloc hb1.size _))).mono ?_
    rintro e w2 ⟨rfl,b2⟩
    have hb2 : Below w.heap.size w w2:=(hb1.alloc hb1.size _).trans (b2.mono (by have:=hb1.size; simp; omega))
    have B1:=(B1.alloc _).keep b2
    have B0:=(B0.alloc _).keep b2
    clear p_0 p_1 p_2 p_3 p_4 p_5 p_6 p_7
    clear q_0 q_1 q_2 q_3 q_4 q_5 q_6 q_7
    obtain ⟨p_0,⟨p_1,p_2,p_3,p_4,p_5,p_6⟩,p_7⟩:=id B0
    obtain ⟨q_0,⟨q_1,q_2,q_3,q_4,q_5,q_6⟩,q_7⟩:=id B1
    clear b2
    go_wp2_with fail
    exact bodyPost_ret (res_box_tmp Tryz.results47 rfl rfl (BoxD.put B1 De.zero (.slice none 0 0))) rfl (Gave.zero (by exact bex0))
  have hnb':=hnb
  unfold nodeB at hnb'
  simp only [decide_eq_true_eq] at hnb'
  have g1 : (n < 1) = False:=eq_false (by omega)
  have g2 : (n > 7) = False:=eq_false (by omega)
  cases hzz : z with
  | true =>
   have hr : addD d n = (De.zero,8):=by unfold addD; rw [if_pos hd,if_pos hnb,if_pos (by rw [<- hz,hzz])]
   rw [hr]
   rw [hzz] at ch
   clear hr hd hz hzz hnb hnb'
   go_enter Tryz.func47,Tryz.ntmps47
   go_wp2_with fail
   refine (ch _ (hst _ (by exact bex0))).mono ?_
   rintro e w1 ⟨rfl,b1⟩
   obtain ⟨B0,B1,hb1⟩:=boxes2 d (.slice A d.ms.length c) b1
   obtain ⟨p_0,⟨p_1,p_2,p_3,p_4,p_5,p_6⟩,p_7⟩:=id B0
   obtain ⟨q_0,⟨q_1,q_2,q_3,q_4,q_5,q_6⟩,q_7⟩:=id B1
   clear b1
   go_wp2_with fail
   refine (ci _ (hst _ (hb1.alloc hb1.size _))).mono ?_
   rintro e w2 ⟨rfl,b2⟩
   have hb2 : Below w.heap.size w w2:=(hb1.alloc hb1.size _).trans (b2.mono (by have:=hb1.size; simp; omega))
   have B1:=(B1.alloc _).keep b2
   have B0:=(B0.alloc _).keep b2
   clear p_0 p_1 p_2 p_3 p_4 p_5 p_6 p_7
   clear q_0 q_1 q_2 q_3 q_4 q_5 q_6 q_7
   obtain ⟨p_0,⟨p_1,p_2,p_3,p_4,p_5,p_6⟩,p_7⟩:=id B0
   obtain ⟨q_0,⟨q_1,q_2,q_3,q_4,q_5,q_6⟩,q_7⟩:=id B1
   clear b2
   go_wp2_with fail
   exact bodyPost_ret (res_box_tmp Tryz.results47 rfl rfl (BoxD.put B1 De.zero (.slice none 0 0))) rfl (Gave.zero (by exact bex0))
  | false =>
   rw [hzz] at ch
   by_cases h5 : d.ms.length = 5
   ·have hr : addD d n = (De.zero,6):=by unfold addD; rw [if_pos hd,if_pos hnb,if_neg (by rw [<- hz,hzz]; simp),if_pos h5]
    rw [hr]
    have e1 : ((d.ms.length : Int) == 5) = true:=by simp [h5]
    have e2 : ((d.ms.length : Int) = 5) = True:=eq_true (by omega)
    clear hr hd hz hzz hnb hnb' h5
    go_enter Tryz.func47,Tryz.ntmps47
    go_wp2_with fail
    refine (ch _ (hst _ (by exact bex0))).mono ?_
    rintro e w1 ⟨rfl,b1⟩
    obtain ⟨B0,B1,hb1⟩:=boxes2 d (.slice A d.ms.length c) b1
    obtain ⟨p_0,⟨p_1,p_2,p_3,p_4,p_5,p_6⟩,p_7⟩:=id B0
    obtain ⟨q_0,⟨q_1,q_2,q_3,q_4,q_5,q_6⟩,q_7⟩:=id B1
    clear b1
    go_wp2_with fail
    refine (ci _ (hst _ (hb1.alloc hb1.size _))).mono ?_
    rintro e w2 ⟨rfl,b2⟩
    have hb2 : Below w.heap.size w w2:=(hb1.alloc hb1.size _).trans (b2.mono (by have:=hb1.size; simp; omega))
    have B1:=(B1.alloc _).keep b2
    have B0:=(B0.alloc _).keep b2
    clear p_0 p_1 p_2 p_3 p_4 p_5 p_6 p_7
    clear q_0 q_1 q_2 q_3 q_4 q_5 q_6 q_7
    obtain ⟨p_0,⟨p_1,p_2,p_3,p_4,p_5,p_6⟩,p_7⟩:=id B0
    obtain ⟨q_0,⟨q_1,q_2,q_3,q_4,q_5,q_6⟩,q_7⟩:=id B1
    clear b2
    go_wp2_with fail
    exact bodyPost_ret (res_box_tmp Tryz.results47 rfl rfl (BoxD.put B1 De.zero (.slice none 0 0))) rfl (Gave.zero (by exact bex0))
   ·have hr : addD d n = okD { d with ms:=d.ms ++ [(n,d.next)],next:=d.next + 1,gen:=d.gen + 1 }:=by unfold addD; rw [if_pos hd,if_pos hnb,if_neg (by rw [<- hz,hzz]; simp),if_neg h5]
    obtain ⟨p,q,hpq⟩ : ∃ p q,addD d n = (p,q):=⟨_,_,rfl⟩
    rw [hpq]
    rw [hpq] at hr
    have HR:=Lib.hid hr
    have HGN:=Lib.hid (isD_gen hd)
    have HNX:=Lib.hid (isD_nx hd)
    have e1 : ((d.ms.length : Int) == 5) = false:=by simp; omega
    have e2 : ((d.ms.length : Int) = 5) = False:=eq_false (by omega)
    clear hz hzz hd h5 hr hpq hnb hnb'
    go_enter Tryz.func47,Tryz.ntmps47
    go_wp2_with fail
    refine (ch _ (hst _ (by exact bex0))).mono ?_
    rintro e w1 ⟨rfl,b1⟩
    obtain ⟨B0,B1,hb1⟩:=boxes2 d (.slice A d.ms.length c) b1
    obtain ⟨p_0,⟨p_1,p_2,p_3,p_4,p_5,p_6⟩,p_7⟩:=id B0
    obtain ⟨q_0,⟨q_1,q_2,q_3,q_4,q_5,q_6⟩,q_7⟩:=id B1
    clear b1
    go_wp2_with fail
    refine (ci _ (hst _ (hb1.alloc hb1.size _))).mono ?_
    rintro e w2 ⟨rfl,b2⟩
    have hb2 : Below w.heap.size w w2:=(hb1.alloc hb1.size _).trans (b2.mono (by have:=hb1.size; simp; omega))
    have B1:=(B1.alloc _).keep b2
    have B0:=(B0.alloc _).keep b2
    clear p_0 p_1 p_2 p_3 p_4 p_5 p_6 p_7
    clear q_0 q_1 q_2 q_3 q_4 q_5 q_6 q_7
    obtain ⟨p_0,⟨p_1,p_2,p_3,p_4,p_5,p_6⟩,p_7⟩:=id B0
    obtain ⟨q_0,⟨q_1,q_2,q_3,q_4,q_5,q_6⟩,q_7⟩:=id B1
    clear b2
    have hlt2 : w.heap.size + 1 < w2.heap.size:=B1.1
    have hs2 : ArgM w2 (.slice A d.ms.length c) d.ms:=hl.keep hb2
    have hn5 : d.ms.length <= 100000:=by omega
    go_wp2_with fail
    refine St.wp_region_mixed (RD w2 w.heap.size d.ms (n,d.next)) (fun _ _ => False) (by kernel_rfl) (by kernel_rfl) (by kernel_rfl) ⟨fun _ => (Below.refl _ w2).drew,fun h => (by cases h),fun h => (by cases h),fun h => (by cases h),fun h => (by cases h),fun h => (by cases h)⟩ ?_
    refine St.mix_free (fun z => ∃ h : Nat,z = .slice (some ⟨h,0,none⟩) 0 0) rfl ?_ ?_
    ·intro L u' wx hS hcl hrd hag
     refine ⟨_,_,⟨wx.heap.size,rfl⟩,?_,hS.made (St.not_yet hcl hrd 40 3 (by kernel_rfl)) (St.not_yet hcl hrd 40 9 (by kernel_rfl)) (St.not_yet hcl hrd 40 11 (by kernel_rfl))⟩
     go_simp
     try with_reducible rfl
    rintro _ ⟨h0,rfl⟩
    simp only [Act.put,St.pu]
    iterate 2
     apply St.mix_give
     ·rfl
     ·intro L u' wx hS hcl hrd hag
      have hbx:=hS.b (St.not_yet hcl hrd 40 11 (by kernel_rfl))
      obtain ⟨_,⟨d0,d1,d2,d3,d4,d5⟩,_⟩:=B0.keep hbx
      go_simp
      try with_reducible rfl
     ·exact fun L u' wx hS => ⟨hS.b,hS.o0,hS.o3,hS.o8,hS.o9,hS.z⟩
     simp only [Act.put,St.pu]
    refine St.mix_free (fun z => ∃ A c,z = .slice A d.ms.length c) rfl ?_ ?_
    ·intro L u' wx hS hcl hrd hag
     obtain ⟨v',w',hv',k1,k2⟩:=hS.app (St.before_ready hcl hrd 40 0 (by kernel_rfl)) hrd.1 (St.not_yet hcl hrd 40 9 (by kernel_rfl)) (St.not_yet hcl hrd 40 11 (by kernel_rfl)) hs2 hn5 24
     rw [show u' 0 = .slice (some ⟨h0,0,none⟩) 0 0 from hag 40 0 (by kernel_rfl)] at k1
     exact ⟨v',w',hv',run_append2 rfl rfl rfl k1,k2⟩
    rintro _ ⟨A3,c3,rfl⟩
    simp only [Act.put,St.pu]
    iterate 4
     apply St.mix_give
     ·rfl
     ·intro L u' wx hS hcl hrd hag
      have hbx:=hS.b (St.not_yet hcl hrd 40 11 (by kernel_rfl))
      obtain ⟨_,⟨d0,d1,d2,d3,d4,d5⟩,_⟩:=B0.keep hbx
      go_simp
      try with_reducible rfl
     ·exact fun L u' wx hS => ⟨hS.b,hS.o0,hS.o3,hS.o8,hS.o9,hS.z⟩
     simp only [Act.put,St.pu]
    refine St.mix_free (fun z => ∃ g : Nat,z = .slice (some ⟨g,0,none⟩) 1 1) rfl ?_ ?_
    ·intro L u' wx hS hcl hrd hag
     refine ⟨_,_,⟨wx.heap.size,rfl⟩,?_,hS.one (St.not_yet hcl hrd 40 9 (by kernel_rfl)) (St.not_yet hcl hrd 40 11 (by kernel_rfl))⟩
     go_simp
     try with_reducible rfl
    rintro _ ⟨g8,rfl⟩
    simp only [Act.put,St.pu]
    refine St.mix_free (fun z => ∃ A c,z = .slice A (d.ms.length + 1) c) rfl ?_ ?_
    ·intro L u' wx hS hcl hrd hag
     obtain ⟨v',w',hv',k1,k2⟩:=hS.app2 (St.before_ready hcl hrd 40 3 (by kernel_rfl)) (St.before_ready hcl hrd 40 8 (by kernel_rfl)) hrd.1 (St.not_yet hcl hrd 40 11 (by kernel_rfl)) hn5 24
     rw [show u' 3 = .slice A3 d.ms.length c3 from hag 40 3 (by kernel_rfl),show u' 8 = .slice (some ⟨g8,0,none⟩) 1 1 from hag 40 8 (by kernel_rfl)] at k1
     exact ⟨v',w',hv',run_append2 rfl rfl rfl k1,k2⟩
    rintro _ ⟨A9,c9,rfl⟩
    simp only [Act.put,St.pu]
    iterate 1
     apply St.mix_give
     ·rfl
     ·intro L u' wx hS hcl hrd hag
      have hbx:=hS.b (St.not_yet hcl hrd 40 11 (by kernel_rfl))
      obtain ⟨_,⟨d0,d1,d2,d3,d4,d5⟩,_⟩:=B0.keep hbx
      go_simp
      try with_reducible rfl
     ·exact fun L u' wx hS => ⟨hS.b,hS.o0,hS.o3,hS.o8,hS.o9,hS.z⟩
     simp only [Act.put,St.pu]
    refine St.mix_skip rfl ?_ ?_
    ·intro L u' wx hS hcl hrd hag
     have h9:=St.before_ready hcl hrd 40 9 (by kernel_rfl)
     have h3:=St.before_ready hcl hrd 40 3 (by kernel_rfl)
     have h8:=St.before_ready hcl hrd 40 8 (by kernel_rfl)
     have hu : u' 9 = .slice A9 (d.ms.length + 1) c9:=hag 40 9 (by kernel_rfl)
     have hbx:=hS.b hrd.1
     obtain ⟨_,⟨d0,d1,d2,d3,d4,d5⟩,dz⟩:=B0.keep hbx
     have f2:=dz 4
     refine ⟨wx.setCell ⟨w.heap.size,4,none⟩ (u' 9),?_,hS.set h9 h3 h8 hrd.1⟩
     rw [hu]
     go_simp
     try with_reducible rfl
    simp only [Act.put]
    refine St.mix_last ?_
    intro L w3 hS hall
    obtain ⟨w4,⟨hb4,o4⟩,hw3⟩:=hS.z (hall 11 (by decide))
    have o4' : OwnM w4 w2.heap.size (.slice A9 (d.ms.length + 1) c9) (d.ms ++ [(n,d.next)]):=o4
    have hw3' : w3 = w4.setCell ⟨w.heap.size,4,none⟩ (.slice A9 (d.ms.length + 1) c9):=hw3
    subst hw3'
    have F0:=B0.keep hb4
    have F1:=B1.keep hb4
    have hbr:=hb2.trans (hb4.mono hb2.size)
    have hz4:=hb4.size
    have HO:=Lib.hid o4'
    clear hS hall o4 o4' hw3
    clear p_0 p_1 p_2 p_3 p_4 p_5 p_6 p_7
    clear q_0 q_1 q_2 q_3 q_4 q_5 q_6 q_7
    obtain ⟨p_0,⟨p_1,p_2,p_3,p_4,p_5,p_6⟩,p_7⟩:=id F0
    obtain ⟨q_0,⟨q_1,q_2,q_3,q_4,q_5,q_6⟩,q_7⟩:=id F1
    obtain ⟨s',hs',ha'⟩:=okV_spec { d with ms:=d.ms ++ [(n,d.next)],next:=d.next + 1,gen:=d.gen + 1 } (.slice A9 (d.ms.length + 1) c9)
    have cc:=fun wx h => right_any { d with ms:=d.ms ++ [(n,d.next)],next:=d.next + 1,gen:=d.gen + 1 } (.slice A9 (d.ms.length + 1) c9) wx h (by simp only [List.length_append,List.length_cons,List.length_nil]; omega) fl.f fl.t
    rw [hs'] at cc
    rw [<- HR.out] at cc ha'
    obtain ⟨e3,e4⟩:=HGN.out
    obtain ⟨e5,e6⟩:=HNX.out
    have ha : ArgM w4 (.slice A9 (d.ms.length + 1) c9) (d.ms ++ [(n,d.next)]):=ArgM.of_own HO.out
    obtain ⟨A2,c2,rfl⟩:=(ha' _ ha).form
    have HA:=Lib.hid ha'
    simp only at cc
    clear hs' ha' ha
    go_wp2_with fail
    refine (cc _ (SM.of_own (base:=w2.heap.size) ?_)).mono ?_
    ·have:=HO.out
     show OwnM _ _ _ (d.ms ++ [(n,d.next)])
     (repeat' (first | with_reducible assumption | with_reducible refine own_set ?_ ?_ _ | with_reducible refine own_alloc ?_ _ | with_reducible refine own_drew ?_ | omega | (simp; done) | (simp; omega)))
    rintro e w5 ⟨rfl,b5⟩
    have G1 : BoxD (w.heap.size + 1) De.zero (.slice none 0 0) w5:=BoxD.keep (by (repeat' (first | with_reducible assumption | with_reducible refine BoxD.other ?_ ?_ _ | with_reducible refine BoxD.alloc ?_ _ | with_reducible refine BoxD.drew ?_ | omega | (simp; done) | (simp; omega)))) b5
    have hO5 : OwnM w5 w2.heap.size (.slice A9 (d.ms.length + 1) c9) (d.ms ++ [(n,d.next)]):=own_keep (by
     have:=HO.out
     (repeat' (first | with_reducible assumption | with_reducible refine own_set ?_ ?_ _ | with_reducible refine own_alloc ?_ _ | with_reducible refine own_drew ?_ | omega | (simp; done) | (simp; omega)))) b5
    have hb5 : Below w.heap.size w w5:=(show Below w.heap.size w _ from (by exact bex0)).trans (b5.mono (by have:=hbr.size; simp; omega))
    have HO5:=Lib.hid hO5
    clear p_0 p_1 p_2 p_3 p_4 p_5 p_6 p_7
    clear q_0 q_1 q_2 q_3 q_4 q_5 q_6 q_7
    obtain ⟨q_0,⟨q_1,q_2,q_3,q_4,q_5,q_6⟩,q_7⟩:=id G1
    clear b5 cc hO5
    go_wp2_with fail
    refine bodyPost_ret (res_box_tmp Tryz.results47 rfl rfl (BoxD.put G1 p (.slice A2 p.ms.length c2))) rfl ⟨_,rfl,HA.out _ (ArgM.of_own (base:=w2.heap.size) ?_),(by exact bex0)⟩
    show OwnM _ _ _ (d.ms ++ [(n,d.next)])
    have:=HO5.out
    (repeat' (first | with_reducible assumption | with_reducible refine own_set ?_ ?_ _ | with_reducible refine own_alloc ?_ _ | with_reducible refine own_drew ?_ | omega | (simp; done) | (simp; omega)))
end Go.Proofs.YthcmnkmfhgoddaaGreatDoor.Ds
