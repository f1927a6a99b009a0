/-
  The document's May. Conditions: plots that may be; lengths at most 2^47.
  MemberMay,walked. Conditions: lengths at most 2^47; numbers such as a program can hold; the library's variables hold what their types allow.
-/
import Derived.Test.YthcmnkmfhgoddaaGreatDoorVPtRApply
import Derived.Test.YthcmnkmfhgoddaaGreatDoorVMbOfA
import Derived.Test.YthcmnkmfhgoddaaGreatDoorVMbLRA
import Derived.Test.YthcmnkmfhgoddaaGreatDoorVDpPA
import Derived.Test.YthcmnkmfhgoddaaGreatDoorVDpRIA
import Derived.Test.YthcmnkmfhgoddaaGreatDoorVOdLA
import Derived.Test.YthcmnkmfhgoddaaGreatDoorVDpLA
namespace Go.Proofs.YthcmnkmfhgoddaaGreatDoor.Mb
open Go.RowKit Bnd
open Go.Proofs.YthcmnkmfhgoddaaGreatDoor.Ds (De SM ArgM isD sameD BoxD dv)
open Go.Proofs.YthcmnkmfhgoddaaGreatDoor.Od (Rep BoxR BoxA rv av)
open Go.Proofs.YthcmnkmfhgoddaaGreatDoor.Dp (Ph Pl BoxP qv HA HP isP)
open Go.Proofs.YthcmnkmfhgoddaaGreatDoor.Pt (Oc Fh fv ApplyOut applyC mayP BoxF)
theorem sameD_comm (a b : De) : sameD a b = sameD b a:=by
 rw [Bool.eq_iff_iff,Ds.sameD_iff,Ds.sameD_iff]
 exact eq_comm
theorem rsame_flip (a b : De) (sa sb : Value) (w : World) (ha : SM w w.heap.size sa a.ms) (hb : SM w w.heap.size sb b.ms) (hx : a.ms.length <= 1000000000) (hy : b.ms.length <= 1000000000) :
  Calls Tryz.prog 12 #[dv a sa,dv b sb] w fun e w' => e = .returned (.bool (sameD b a)) /\ Below w.heap.size w w':=by
 rw [sameD_comm]
 exact Ds.rsame_any a b sa sb w ha hb hx hy
theorem may_bad {p : Pl} {x : Od.Ask} (h : Od.isA x = false) : mayP p x = false:=by
 have ha : Pt.atOnceP p x = some (Pt.badR 70):=by
  unfold Pt.atOnceP
  rw [if_neg (show ¬ Od.chkA x = 0 by unfold Od.chkA; rw [h]; decide)]
 have hc : (applyC p x).2.1.code = 4:=by
  unfold Pt.applyC
  rw [ha]
 unfold Pt.mayP
 rw [hc]
 cases isCh x <;> rfl
set_option maxHeartbeats 32000000 in
set_option maxRecDepth 100000 in
theorem rmay_any (o : Ph) (x : Od.Ask) (w : World) (h : HA w o) (hP : isP o.pl = true)
  (hk : x.key.size <= 140737488355328) (ht : x.til.size <= 140737488355328) (hv : x.val.size <= 140737488355328) (hf : Dp.FitP o) :
  Calls Tryz.prog 18 #[qv o,av x] w fun e w' => e = .returned (.bool (mayP o.pl x)) /\ Below w.heap.size w w':=by
 have hp:=h.hp
 have hd : isD o.d = true:=Dp.isP_d hP
 obtain ⟨W0,hW0⟩ : ∃ W0,(w.alloc (.cells #[.int .i64 o.d.id,.string o.d.f,.string o.d.t,.int .i64 o.d.gen,o.sm,.int .i64 o.d.next,o.sp,o.sz,.bool o.fr,o.se,.int .i64 o.al] 38)).alloc (.cells #[.int .i64 x.kind,.int .i64 x.client,.int .i64 x.seq,.string x.key,.string x.til,.string x.val,.string x.old,.bool x.has,.int .i64 x.lim,.int .i64 x.id,.int .i64 x.node] 40) = W0:=⟨_,rfl⟩
 have BP : BoxP w.heap.size o W0:=hW0 ▸ (BoxP.new w o).alloc _
 have BA : BoxA (w.heap.size + 1) x W0:=by
  have:=BoxA.new (w.alloc (.cells #[.int .i64 o.d.id,.string o.d.f,.string o.d.t,.int .i64 o.d.gen,o.sm,.int .i64 o.d.next,o.sp,o.sz,.bool o.fr,o.se,.int .i64 o.al] 38)) x
  rw [World.size_alloc] at this
  rw [<- hW0]
  exact this
 have hb0 : Below w.heap.size w W0:=hW0 ▸ (by exact bex0)
 cases hc : isCh x with
 | false =>
  obtain ⟨h10,h11⟩:=isCh_no hc
  have n1 : (x.kind != 10) = true:=by simpa using h10
  have n2 : (x.kind != 11) = true:=by simpa using h11
  have n3 : (x.kind == 10) = false:=by simpa using h10
  have n4 : (x.kind == 11) = false:=by simpa using h11
  rw [show mayP o.pl x = false by unfold Pt.mayP; rw [hc]; rfl]
  obtain ⟨d,ps,zs,fr,ea,al,A,B,C,D,a,b,c,e,rfl⟩:=hp.open
  obtain ⟨k,client,seq,key,til,val,old,has,lim,id,node⟩:=x
  simp only at n1 n2 n3 n4
  clear h hP hk ht hv hf hp hd hc h10 h11
  obtain ⟨q_0,⟨q_1,q_2,q_3,q_4,q_5,q_6,q_7,q_8,q_9,q_10,q_11⟩,q_12⟩:=_root_.id BA
  go_enter Tryz.func18,Tryz.ntmps18
  go_wp2_with fail
  go_ret
  exact ⟨rfl,hb0⟩
 | true =>
  have cO:=fun w' => Od.ris_any x w' hk ht hv
  obtain ⟨IA,hIA⟩ : ∃ i,Od.isA x = i:=⟨_,rfl⟩
  rw [hIA] at cO
  cases IA with
  | false =>
   rw [show mayP o.pl x = false from may_bad hIA]
   have hcc:=isCh_yes hc
   obtain ⟨d,ps,zs,fr,ea,al,A,B,C,D,a,b,c,e,rfl⟩:=hp.open
   obtain ⟨k,client,seq,key,til,val,old,has,lim,id,node⟩:=x
   simp only at hcc
   clear h hP hk ht hv hf hp hd hc hIA
   rcases hcc with rfl | rfl
   all_goals
    obtain ⟨q_0,⟨q_1,q_2,q_3,q_4,q_5,q_6,q_7,q_8,q_9,q_10,q_11⟩,q_12⟩:=_root_.id BA
    go_enter Tryz.func18,Tryz.ntmps18
    go_wp2_with fail
    try rw [hW0]
    refine (cO _).mono ?_
    rintro e' w1 ⟨rfl,b⟩
    have hb1:=hb0.trans (b.mono hb0.size)
    clear q_0 q_1 q_2 q_3 q_4 q_5 q_6 q_7 q_8 q_9 q_10 q_11 q_12
    clear b cO hW0 BA BP hb0
    go_wp2_with fail
    go_ret
    exact ⟨rfl,hb1⟩
  | true =>
  have cA:=fun w' (hb : Below w.heap.size w w') => Pt.rapply_any o x w' (h.keep hb) hP hf hc hIA hk ht hv
  have cS:=fun (oc : Oc) w' (h1 : SM w' w'.heap.size oc.p.sm oc.p.d.ms) (h2 : SM w' w'.heap.size o.sm o.d.ms) (hl : oc.p.d.ms.length <= 1000000000) => rsame_flip o.d oc.p.d o.sm oc.p.sm w' h2 h1 (by have:=(Dp.isD_sizes hd).2.2; omega) hl
  have hme:=fun oc => may_end (o:=o) (x:=x) (oc:=oc) hc
  have HME:=Lib.hid hme
  have HHA:=Lib.hid h
  have hisf : ∀ oc : Oc,oc.out = applyC o.pl x -> isD oc.p.d = true:=fun oc e => by
   have:=applyC_is (p:=o.pl) (x:=x) hd
   rw [<- e] at this
   exact this
  have HIS:=Lib.hid hisf
  have hcc:=isCh_yes hc
  obtain ⟨d,ps,zs,fr,ea,al,A,B,C,D,a,b,c,e,rfl⟩:=hp.open
  obtain ⟨k,client,seq,key,til,val,old,has,lim,id,node⟩:=x
  simp only at hcc cS
  obtain ⟨nm,hnm⟩ : ∃ n,d.ms.length = n:=⟨_,rfl⟩
  obtain ⟨np,hnp⟩ : ∃ n,ps.length = n:=⟨_,rfl⟩
  obtain ⟨nz,hnz⟩ : ∃ n,zs.length = n:=⟨_,rfl⟩
  obtain ⟨ne,hne⟩ : ∃ n,ea.length = n:=⟨_,rfl⟩
  rw [hnm,hnp,hnz,hne] at cA BP HHA HME HIS hW0 ⊢
  rw [hnm] at cS
  obtain ⟨MY,hMY⟩ : ∃ m,mayP (Ph.pl ⟨d,.slice A nm a,ps,.slice B np b,zs,.slice C nz c,fr,ea,.slice D ne e,al⟩) ⟨k,client,seq,key,til,val,old,has,lim,id,node⟩ = m:=⟨_,rfl⟩
  rw [hMY] at HME ⊢
  clear h hP hk ht hv hf hp hd hc hme hisf hnm hnp hnz hne hMY hIA
  rcases hcc with rfl | rfl
  all_goals
   obtain ⟨p_0,⟨p_1,p_2,p_3,p_4,p_5,p_6,p_7,p_8,p_9,p_10,p_11⟩,p_12⟩:=_root_.id BP
   obtain ⟨q_0,⟨q_1,q_2,q_3,q_4,q_5,q_6,q_7,q_8,q_9,q_10,q_11⟩,q_12⟩:=_root_.id BA
   go_enter Tryz.func18,Tryz.ntmps18
   go_wp2_with fail
   try rw [hW0]
   refine (cO _).mono ?_
   rintro e' w0 ⟨rfl,b0⟩
   clear p_0 p_1 p_2 p_3 p_4 p_5 p_6 p_7 p_8 p_9 p_10 p_11 p_12
   clear q_0 q_1 q_2 q_3 q_4 q_5 q_6 q_7 q_8 q_9 q_10 q_11 q_12
   replace BP:=BP.keep b0
   replace BA:=BA.keep b0
   replace hb0:=hb0.trans (b0.mono hb0.size)
   clear b0 cO hW0
   obtain ⟨p_0,⟨p_1,p_2,p_3,p_4,p_5,p_6,p_7,p_8,p_9,p_10,p_11⟩,p_12⟩:=_root_.id BP
   obtain ⟨q_0,⟨q_1,q_2,q_3,q_4,q_5,q_6,q_7,q_8,q_9,q_10,q_11⟩,q_12⟩:=_root_.id BA
   go_wp2_with fail
   refine (cA _ hb0).mono ?_
   rintro e' w1 ⟨oc,rfl,ho,ha,hri,hrs,b1⟩
   have hmy:=HME.out oc ho
   have hisd:=HIS.out oc ho
   obtain ⟨d1,ps1,zs1,fr1,ea1,al1,A1,B1,C1,D1,a1,b1',c1,e1,hoc⟩:=ha.hp.open
   obtain ⟨d2,ps2,zs2,fr2,ea2,al2,A2,B2,C2,D2,a2,b2',c2,e2,hri'⟩:=hri.hp.open
   obtain ⟨A3,c3,hrs'⟩:=hrs
   obtain ⟨ocp,⟨rcode,rerr,rhas,rval,rps⟩,ocrs,⟨sl,ocri,eaten⟩⟩:=oc
   simp only at hoc hri' hrs' hmy ha hisd
   subst hoc hri' hrs'
   have cS1:=cS ⟨⟨d1,.slice A1 d1.ms.length a1,ps1,.slice B1 ps1.length b1',zs1,.slice C1 zs1.length c1,fr1,ea1,.slice D1 ea1.length e1,al1⟩,⟨rcode,rerr,rhas,rval,rps⟩,.slice A3 rps.length c3,⟨sl,⟨d2,.slice A2 d2.ms.length a2,ps2,.slice B2 ps2.length b2',zs2,.slice C2 zs2.length c2,fr2,ea2,.slice D2 ea2.length e2,al2⟩,eaten⟩⟩
   have hl1 : d1.ms.length <= 1000000000:=by have : d1.ms.length <= 5:=(Dp.isD_sizes hisd).2.2; omega
   obtain ⟨n1,hn1⟩ : ∃ n,d1.ms.length = n:=⟨_,rfl⟩
   obtain ⟨m1,hm1⟩ : ∃ n,ps1.length = n:=⟨_,rfl⟩
   obtain ⟨l1,hl1'⟩ : ∃ n,zs1.length = n:=⟨_,rfl⟩
   obtain ⟨k1,hk1⟩ : ∃ n,ea1.length = n:=⟨_,rfl⟩
   obtain ⟨n2,hn2⟩ : ∃ n,d2.ms.length = n:=⟨_,rfl⟩
   obtain ⟨m2,hm2⟩ : ∃ n,ps2.length = n:=⟨_,rfl⟩
   obtain ⟨l2,hl2'⟩ : ∃ n,zs2.length = n:=⟨_,rfl⟩
   obtain ⟨k2,hk2⟩ : ∃ n,ea2.length = n:=⟨_,rfl⟩
   obtain ⟨n3,hn3⟩ : ∃ n,rps.length = n:=⟨_,rfl⟩
   have hsm1:=ha.hp.sm
   have hsm0:=HHA.out.hp.sm
   simp only at cS1 hsm1 hsm0
   rw [hn1,hm1,hl1',hk1,hn2,hm2,hl2',hk2,hn3]
   rw [hn1] at cS1 hsm1 hl1
   clear hn1 hm1 hl1' hk1 hn2 hm2 hl2' hk2 hn3 ho ha hri hisd HHA HME HIS cA cS
   have hb1:=hb0.trans (b1.mono hb0.size)
   obtain ⟨W2,hW2⟩ : ∃ W2,((w1.alloc (.cells #[.int .i64 d1.id,.string d1.f,.string d1.t,.int .i64 d1.gen,.slice A1 n1 a1,.int .i64 d1.next,.slice B1 m1 b1',.slice C1 l1 c1,.bool fr1,.slice D1 k1 e1,.int .i64 al1] 38)).alloc (.cells #[.int .i64 rcode,.int .i64 rerr,.bool rhas,.string rval,.slice A3 n3 c3] 87)).alloc (.cells #[.bool sl,.int .i64 d2.id,.string d2.f,.string d2.t,.int .i64 d2.gen,.slice A2 n2 a2,.int .i64 d2.next,.slice B2 m2 b2',.slice C2 l2 c2,.bool fr2,.slice D2 k2 e2,.int .i64 al2,.int .i64 eaten] 93) = W2:=⟨_,rfl⟩
   have h12 : Below w1.heap.size w1 W2:=hW2 ▸ (by exact bex0)
   have BP2:=(BP.keep b1).keep h12
   have BN : BoxP w1.heap.size ⟨d1,.slice A1 n1 a1,ps1,.slice B1 m1 b1',zs1,.slice C1 l1 c1,fr1,ea1,.slice D1 k1 e1,al1⟩ W2:=hW2 ▸ ((BoxP.new w1 ⟨d1,.slice A1 n1 a1,ps1,.slice B1 m1 b1',zs1,.slice C1 l1 c1,fr1,ea1,.slice D1 k1 e1,al1⟩).alloc _).alloc _
   have BR : BoxR (w1.heap.size + 1) ⟨rcode,rerr,rhas,rval,rps⟩ (.slice A3 n3 c3) W2:=by
    have:=(BoxR.new (w1.alloc (.cells #[.int .i64 d1.id,.string d1.f,.string d1.t,.int .i64 d1.gen,.slice A1 n1 a1,.int .i64 d1.next,.slice B1 m1 b1',.slice C1 l1 c1,.bool fr1,.slice D1 k1 e1,.int .i64 al1] 38)) ⟨rcode,rerr,rhas,rval,rps⟩ (.slice A3 n3 c3)).alloc (.cells #[.bool sl,.int .i64 d2.id,.string d2.f,.string d2.t,.int .i64 d2.gen,.slice A2 n2 a2,.int .i64 d2.next,.slice B2 m2 b2',.slice C2 l2 c2,.bool fr2,.slice D2 k2 e2,.int .i64 al2,.int .i64 eaten] 93)
    rw [World.size_alloc] at this
    rw [<- hW2]
    exact this
   have hb2:=hb1.trans (h12.mono hb1.size)
   have cS2:=cS1 W2 ((hsm1.below h12).more h12.size) ((hsm0.below hb2).more hb2.size) hl1
   clear p_0 p_1 p_2 p_3 p_4 p_5 p_6 p_7 p_8 p_9 p_10 p_11 p_12
   clear q_0 q_1 q_2 q_3 q_4 q_5 q_6 q_7 q_8 q_9 q_10 q_11 q_12
   clear cS1 hsm1 hsm0 hl1 BA BP b1 hb0 hb1
   obtain ⟨p_0,⟨p_1,p_2,p_3,p_4,p_5,p_6,p_7,p_8,p_9,p_10,p_11⟩,p_12⟩:=_root_.id BP2
   obtain ⟨q_0,⟨q_1,q_2,q_3,q_4,q_5,q_6,q_7,q_8,q_9,q_10,q_11⟩,q_12⟩:=_root_.id BN
   obtain ⟨r_0,⟨r_1,r_2,r_3,r_4,r_5⟩,r_6⟩:=_root_.id BR
   by_cases hcode : rcode = 0
   ·subst hcode
    unfold endM at hmy
    simp only [decide_true,Bool.true_and] at hmy
    go_wp2_with fail
    try rw [hW2]
    clear hW2 h12
    go_wp2_with fail
    refine cS2.mono ?_
    rintro e' w3 ⟨rfl,b3⟩
    have hb3:=hb2.trans (b3.mono hb2.size)
    obtain ⟨SD,hSD⟩ : ∃ s,sameD d1 d = s:=⟨_,rfl⟩
    rw [hSD] at hmy ⊢
    subst hmy
    clear cS2 b3 hSD
    clear p_0 p_1 p_2 p_3 p_4 p_5 p_6 p_7 p_8 p_9 p_10 p_11 p_12
    clear q_0 q_1 q_2 q_3 q_4 q_5 q_6 q_7 q_8 q_9 q_10 q_11 q_12
    clear r_0 r_1 r_2 r_3 r_4 r_5 r_6
    clear BP2 BN BR hb2
    go_wp2_with fail
    go_ret
    exact ⟨rfl,hb3⟩
   ·have n9 : (rcode == 0) = false:=by simpa using hcode
    have n8 : (rcode = 0) = False:=eq_false hcode
    unfold endM at hmy
    rw [show decide (rcode = 0) = false from decide_eq_false hcode] at hmy
    simp only [Bool.false_and] at hmy
    subst hmy
    clear hcode cS2
    go_wp2_with fail
    try rw [hW2]
    clear hW2 h12
    go_wp2_with fail
    go_ret
    exact ⟨rfl,hb2⟩
end Go.Proofs.YthcmnkmfhgoddaaGreatDoor.Mb

namespace Go.Proofs.YthcmnkmfhgoddaaGreatDoor.Mb
open Go.RowKit Bnd
open Go.Proofs.YthcmnkmfhgoddaaGreatDoor.Ds (De SM ArgM isD dv sameD)
open Go.Proofs.YthcmnkmfhgoddaaGreatDoor.Od (BoxA av LimA isA)
open Go.Proofs.YthcmnkmfhgoddaaGreatDoor.Dp (Ph HA HB HP FitP qv BoxP isP)
open Go.Proofs.YthcmnkmfhgoddaaGreatDoor.Pt (mayP)
set_option maxHeartbeats 32000000 in
set_option maxRecDepth 100000 in
theorem mayl_walk (o : Ph) (x : Od.Ask) (w : World) (h : HB w o) (hf : FitP o) (hx : LimA x) (hg : Good w) :
  Calls Tryz.prog 4 #[qv o,av x] w fun e w' => e = .returned (.bool true) /\ Below w.heap.size w w':=by
 have HX:=Lib.hid hx
 have HG:=Lib.hid hg
 have HH:=Lib.hid h
 have HF:=Lib.hid hf
 have hp:=h.hp
 obtain ⟨d,ps,zs,fr,ea,al,A,B,C,D,ka,kb,kc,kg,rfl⟩:=hp.open
 obtain ⟨nm,hnm⟩ : ∃ n,d.ms.length = n:=⟨_,rfl⟩
 obtain ⟨np,hnp⟩ : ∃ n,ps.length = n:=⟨_,rfl⟩
 obtain ⟨nz,hnz⟩ : ∃ n,zs.length = n:=⟨_,rfl⟩
 obtain ⟨ne,hne⟩ : ∃ n,ea.length = n:=⟨_,rfl⟩
 rw [hnm,hnp,hnz,hne] at HH HF ⊢
 obtain ⟨W0,hW0⟩ : ∃ W0,(w.alloc (.cells #[.int .i64 d.id,.string d.f,.string d.t,.int .i64 d.gen,.slice A nm ka,.int .i64 d.next,.slice B np kb,.slice C nz kc,.bool fr,.slice D ne kg,.int .i64 al] 38)).alloc (.cells #[.int .i64 x.kind,.int .i64 x.client,.int .i64 x.seq,.string x.key,.string x.til,.string x.val,.string x.old,.bool x.has,.int .i64 x.lim,.int .i64 x.id,.int .i64 x.node] 40) = W0:=⟨_,rfl⟩
 have hb0 : Below w.heap.size w W0:=hW0 ▸ (by exact bex0)
 have BP : BoxP w.heap.size ⟨d,.slice A nm ka,ps,.slice B np kb,zs,.slice C nz kc,fr,ea,.slice D ne kg,al⟩ W0:=hW0 ▸ (BoxP.new w ⟨d,.slice A nm ka,ps,.slice B np kb,zs,.slice C nz kc,fr,ea,.slice D ne kg,al⟩).alloc _
 have BO : BoxA (w.heap.size + 1) x W0:=by
  have h:=BoxA.new (w.alloc (.cells #[.int .i64 d.id,.string d.f,.string d.t,.int .i64 d.gen,.slice A nm ka,.int .i64 d.next,.slice B np kb,.slice C nz kc,.bool fr,.slice D ne kg,.int .i64 al] 38)) x
  rw [hW0] at h
  simpa using h
 have KH:=fun w' (h : Below W0.heap.size W0 w') => HH.out.keep (hb0.trans (h.mono hb0.size))
 have cP:=fun w' (h : Below W0.heap.size W0 w') => plot_any ⟨d,.slice A nm ka,ps,.slice B np kb,zs,.slice C nz kc,fr,ea,.slice D ne kg,al⟩ w' (KH w' h).hp HF.out
 have cI:=fun w' (h : Below W0.heap.size W0 w') => Dp.ris_any ⟨d,.slice A nm ka,ps,.slice B np kb,zs,.slice C nz kc,fr,ea,.slice D ne kg,al⟩ w' (KH w' h).hp HF.out
 have cL:=fun w' (h : Below W0.heap.size W0 w') => live_any w' (HG.out.below (hb0.trans (h.mono hb0.size)))
 obtain ⟨IP,hIP⟩ : ∃ b,isP (Ph.pl ⟨d,.slice A nm ka,ps,.slice B np kb,zs,.slice C nz kc,fr,ea,.slice D ne kg,al⟩) = b:=⟨_,rfl⟩
 have HIP:=Lib.hid hIP
 rw [hIP] at cI
 have h0:=Below.refl W0.heap.size W0
 have hbox : ∀ wx,Below W0.heap.size W0 wx -> BoxP w.heap.size ⟨d,.slice A nm ka,ps,.slice B np kb,zs,.slice C nz kc,fr,ea,.slice D ne kg,al⟩ wx /\ BoxA (w.heap.size + 1) x wx:=fun wx h => ⟨BP.keep h,BO.keep h⟩
 have s1 : IntKind.i64.wrap ((x.val.size : Int) + (x.key.size : Int)) = (x.val.size : Int) + (x.key.size : Int):=by have:=hx.val; have:=hx.key; rw [IntKind.wrap_i64]; omega
 have s2 : IntKind.i64.wrap ((x.val.size : Int) + (x.key.size : Int) + (x.til.size : Int)) = (x.val.size : Int) + (x.key.size : Int) + (x.til.size : Int):=by have:=hx.val; have:=hx.key; have:=hx.til; rw [IntKind.wrap_i64]; omega
 have s3 : IntKind.i64.wrap ((x.val.size : Int) + (x.key.size : Int) + (x.til.size : Int) + (x.old.size : Int)) = (x.val.size : Int) + (x.key.size : Int) + (x.til.size : Int) + (x.old.size : Int):=by have:=hx.val; have:=hx.key; have:=hx.til; have:=hx.old; rw [IntKind.wrap_i64]; omega
 clear h hp hf hx hg hnm hnp hnz hne hIP BP BO
 obtain ⟨⟨_,⟨p0,p1,p2,p3,p4,p5,p6,p7,p8,p9,p10⟩,y0⟩,⟨_,⟨o0,o1,o2,o3,o4,o5,o6,o7,o8,o9,o10⟩,y1⟩⟩:=hbox _ h0
 go_enter Tryz.func4,Tryz.ntmps4
 go_wp2_with fail
 try rw [hW0]
 clear hW0
 try go_wp2_with fail
 refine (cP _ h0).mono ?_
 rintro e w1 ⟨⟨x1,rfl⟩,b⟩
 have h1:=h0.trans (b.mono h0.size)
 clear p0 p1 p2 p3 p4 p5 p6 p7 p8 p9 p10 y0 o0 o1 o2 o3 o4 o5 o6 o7 o8 o9 o10 y1
 clear b cP
 cases x1 with
 | false =>
  go_wp2_with fail
  refine (cL _ h1).mono ?_
  rintro e wz ⟨rfl,b⟩
  have hz:=(h1).trans (b.mono (h1).size)
  go_wp2_with fail
  go_ret
  exact ⟨rfl,hb0.trans (hz.mono hb0.size)⟩
 | true =>
 obtain ⟨⟨_,⟨p0,p1,p2,p3,p4,p5,p6,p7,p8,p9,p10⟩,y0⟩,⟨_,⟨o0,o1,o2,o3,o4,o5,o6,o7,o8,o9,o10⟩,y1⟩⟩:=hbox _ h1
 go_wp2_with fail
 refine (cI _ h1).mono ?_
 rintro e w2 ⟨rfl,b⟩
 have h2:=h1.trans (b.mono h1.size)
 clear p0 p1 p2 p3 p4 p5 p6 p7 p8 p9 p10 y0 o0 o1 o2 o3 o4 o5 o6 o7 o8 o9 o10 y1
 clear b cI
 cases IP with
 | false =>
  go_wp2_with fail
  refine (cL _ h2).mono ?_
  rintro e wz ⟨rfl,b⟩
  have hz:=(h2).trans (b.mono (h2).size)
  go_wp2_with fail
  go_ret
  exact ⟨rfl,hb0.trans (hz.mono hb0.size)⟩
 | true =>
 obtain ⟨⟨_,⟨p0,p1,p2,p3,p4,p5,p6,p7,p8,p9,p10⟩,y0⟩,⟨_,⟨o0,o1,o2,o3,o4,o5,o6,o7,o8,o9,o10⟩,y1⟩⟩:=hbox _ h2
 by_cases hv : (10000 : Int) < (x.val.size : Int) + (x.key.size : Int) + (x.til.size : Int) + (x.old.size : Int)
 ·have v1 : ((10000 : Int) < (x.val.size : Int) + (x.key.size : Int) + (x.til.size : Int) + (x.old.size : Int)) = True:=eq_true hv
  have v2 : ((x.val.size : Int) + (x.key.size : Int) + (x.til.size : Int) + (x.old.size : Int) > 10000) = True:=eq_true hv
  clear hv
  go_wp2_with fail
  refine (cL _ h2).mono ?_
  rintro e wz ⟨rfl,b⟩
  have hz:=(h2).trans (b.mono (h2).size)
  go_wp2_with fail
  go_ret
  exact ⟨rfl,hb0.trans (hz.mono hb0.size)⟩
 have v1 : ((10000 : Int) < (x.val.size : Int) + (x.key.size : Int) + (x.til.size : Int) + (x.old.size : Int)) = False:=eq_false hv
 have v2 : ((x.val.size : Int) + (x.key.size : Int) + (x.til.size : Int) + (x.old.size : Int) > 10000) = False:=eq_false hv
 have hip:=HIP.out
 have cM:=fun w' (h : Below W0.heap.size W0 w') => may_any ⟨d,.slice A nm ka,ps,.slice B np kb,zs,.slice C nz kc,fr,ea,.slice D ne kg,al⟩ x w' ((KH w' h).ha hip) hip HX.out.key HX.out.til HX.out.val (HG.out.below (hb0.trans (h.mono hb0.size)))
 have cR:=fun w' (h : Below W0.heap.size W0 w') => rmay_any ⟨d,.slice A nm ka,ps,.slice B np kb,zs,.slice C nz kc,fr,ea,.slice D ne kg,al⟩ x w' ((KH w' h).ha hip) hip HX.out.key HX.out.til HX.out.val HF.out
 obtain ⟨MY,hMY⟩ : ∃ b,mayP (Ph.pl ⟨d,.slice A nm ka,ps,.slice B np kb,zs,.slice C nz kc,fr,ea,.slice D ne kg,al⟩) x = b:=⟨_,rfl⟩
 rw [hMY] at cM cR
 clear hip hMY hv
 go_wp2_with fail
 clear p0 p1 p2 p3 p4 p5 p6 p7 p8 p9 p10 y0 o0 o1 o2 o3 o4 o5 o6 o7 o8 o9 o10 y1
 clear v1 v2 s1 s2 s3
 have hlow : ∀ wx,Below W0.heap.size W0 wx -> Below W0.heap.size W0 wx:=fun _ h => h
 refine St.wp_region_mixed (RT W0 (fun _ => none)) (fun j x => match j with | 2 => x = .bool MY | 5 => x = .bool MY | 8 => x = .bool true | _ => True) (by kernel_rfl) (by kernel_rfl) (by kernel_rfl) (RT.start h2) ?_
 iterate 2
  apply St.mix_give
  ·rfl
  ·intro L u' wx hS hcl hrd hag
   obtain ⟨⟨_,⟨p0,p1,p2,p3,p4,p5,p6,p7,p8,p9,p10⟩,y0⟩,⟨_,⟨o0,o1,o2,o3,o4,o5,o6,o7,o8,o9,o10⟩,y1⟩⟩:=hbox _ (hlow _ hS.low)
   go_simp
   try with_reducible rfl
  ·exact fun L u' wx hS => hS.plain rfl _
  simp only [Act.put,St.pu]
 refine St.mix_into (f:=17) (args:=#[qv ⟨d,.slice A nm ka,ps,.slice B np kb,zs,.slice C nz kc,fr,ea,.slice D ne kg,al⟩,av x]) rfl rfl ?_ ?_ ?_
 ·intro wx
  go_simp
  try with_reducible rfl
 ·intro L u' wx hS hcl hrd hag
  refine (cM wx hS.low).mono ?_
  rintro e w' ⟨rfl,b⟩
  exact ⟨rfl,hS.into rfl b _⟩
 simp only [Act.put,St.pu]
 iterate 2
  apply St.mix_give
  ·rfl
  ·intro L u' wx hS hcl hrd hag
   obtain ⟨⟨_,⟨p0,p1,p2,p3,p4,p5,p6,p7,p8,p9,p10⟩,y0⟩,⟨_,⟨o0,o1,o2,o3,o4,o5,o6,o7,o8,o9,o10⟩,y1⟩⟩:=hbox _ (hlow _ hS.low)
   go_simp
   try with_reducible rfl
  ·exact fun L u' wx hS => hS.plain rfl _
  simp only [Act.put,St.pu]
 refine St.mix_into (f:=18) (args:=#[qv ⟨d,.slice A nm ka,ps,.slice B np kb,zs,.slice C nz kc,fr,ea,.slice D ne kg,al⟩,av x]) rfl rfl ?_ ?_ ?_
 ·intro wx
  go_simp
  try with_reducible rfl
 ·intro L u' wx hS hcl hrd hag
  refine (cR wx hS.low).mono ?_
  rintro e w' ⟨rfl,b⟩
  exact ⟨rfl,hS.into rfl b _⟩
 simp only [Act.put,St.pu]
 iterate 2
  apply St.mix_give
  ·rfl
  ·intro L u' wx hS hcl hrd hag
   go_simp
   try with_reducible rfl
  ·exact fun L u' wx hS => hS.plain rfl _
  simp only [Act.put,St.pu]
 refine St.mix_into (f:=11) (args:=#[]) rfl rfl ?_ ?_ ?_
 ·intro wx
  go_simp
  try with_reducible rfl
 ·intro L u' wx hS hcl hrd hag
  refine (cL wx hS.low).mono ?_
  rintro e w' ⟨rfl,b⟩
  exact ⟨rfl,hS.into rfl b _⟩
 simp only [Act.put,St.pu]
 iterate 2
  apply St.mix_give
  ·rfl
  ·intro L u' wx hS hcl hrd hag
   go_simp
   try with_reducible rfl
  ·exact fun L u' wx hS => hS.plain rfl _
  simp only [Act.put,St.pu]
 refine St.mix_last ?_
 intro L w5 hS hall
 have h5:=hS.low
 go_wp2_with fail
 go_ret
 exact ⟨rfl,hb0.trans (h5.mono hb0.size)⟩
end Go.Proofs.YthcmnkmfhgoddaaGreatDoor.Mb
