/-
  The document's own word on whether an order may be: all kinds. Conditions: lengths at most 2^47.
  The document's Apply,at changes of members. Conditions: plots that may be.
  The document's May. Conditions: plots that may be; lengths at most 2^47.
  MemberMay,walked. Conditions: lengths at most 2^47; numbers such as a program can hold; the library's variables hold what their types allow.
-/
import Derived.Test.YthcmnkmfhgoddaaGreatDoorVOdRA
import Derived.Test.YthcmnkmfhgoddaaGreatDoorVOdRIsC
import Derived.Test.YthcmnkmfhgoddaaGreatDoorVOdRIsD
import Derived.Test.YthcmnkmfhgoddaaGreatDoorVOdRIsE
import Derived.Test.YthcmnkmfhgoddaaGreatDoorVPtRA
import Derived.Test.YthcmnkmfhgoddaaGreatDoorVSsSRA
import Derived.Test.YthcmnkmfhgoddaaGreatDoorVMbOfA
import Derived.Test.YthcmnkmfhgoddaaGreatDoorVMbLRA
import Derived.Test.YthcmnkmfhgoddaaGreatDoorVDpPA
import Derived.Test.YthcmnkmfhgoddaaGreatDoorVDpRIA
import Derived.Test.YthcmnkmfhgoddaaGreatDoorVOdLA
import Derived.Test.YthcmnkmfhgoddaaGreatDoorVDpLA
namespace Go.Proofs.YthcmnkmfhgoddaaGreatDoor.Od
open Go.RowKit Bnd
open Go.Proofs.YthcmnkmfhgoddaaGreatDoor.O (Bd isB keyB)
open Go.Proofs.YthcmnkmfhgoddaaGreatDoor.Bnd (levelT)
theorem ris_any (o : Ask) (w : World) (hk : o.key.size <= 140737488355328) (ht : o.til.size <= 140737488355328) (hv : o.val.size <= 140737488355328) : Calls Tryz.prog 19 #[av o] w fun e w' => e = .returned (.bool (isA o)) /\ Below w.heap.size w w':=by
 obtain ⟨kind,client,seq,key,til,val,old,has,lim,id,node⟩:=o
 by_cases hr : kind < 0 \/ 13 < kind
 ·exact ris_o kind client seq key til val old has lim id node w hr
 have hc : kind = 0 \/ kind = 1 \/ kind = 2 \/ kind = 3 \/ kind = 4 \/ kind = 5 \/ kind = 6 \/ kind = 7 \/ kind = 8 \/ kind = 9 \/ kind = 10 \/ kind = 11 \/ kind = 12 \/ kind = 13:=by omega
 rcases hc with rfl | rfl | rfl | rfl | rfl | rfl | rfl | rfl | rfl | rfl | rfl | rfl | rfl | rfl
 ·exact ris_0 client seq key til val old has lim id node w
 ·exact ris_1 client seq key til val old has lim id node w hk
 ·exact ris_2 client seq key til val old has lim id node w hk
 ·exact ris_3 client seq key til val old has lim id node w hk
 ·exact ris_4 client seq key til val old has lim id node w hk
 ·exact ris_5 client seq key til val old has lim id node w hk ht
 ·exact ris_6 client seq key til val old has lim id node w
 ·exact ris_7 client seq key til val old has lim id node w hk
 ·exact ris_8 client seq key til val old has lim id node w hk
 ·exact ris_9 client seq key til val old has lim id node w hk
 ·exact ris_10 client seq key til val old has lim id node w hk
 ·exact ris_11 client seq key til val old has lim id node w hk
 ·exact ris_12 client seq key til val old has lim id node w hk
 ·exact ris_13 client seq key til val old has lim id node w hv
end Go.Proofs.YthcmnkmfhgoddaaGreatDoor.Od

namespace Go.Proofs.YthcmnkmfhgoddaaGreatDoor.Pt
open Go.RowKit Bnd
open Go.Proofs.YthcmnkmfhgoddaaGreatDoor.O (hasB)
open Go.Proofs.YthcmnkmfhgoddaaGreatDoor.Ds (De SM ArgM putT isD dv addD removeD BoxE BoxD)
open Go.Proofs.YthcmnkmfhgoddaaGreatDoor.Od (Rep BoxR BoxA rv E0 av SP chkA keyedK)
open Go.Proofs.YthcmnkmfhgoddaaGreatDoor.Dp (Ph Pl BoxP qv HA HP isP Room)
open Go.Proofs.YthcmnkmfhgoddaaGreatDoor.Ss (Ses Zs ses SZ NoP askS riseB noteS isS ArgZ FitZ)
open Go.Proofs.YthcmnkmfhgoddaaGreatDoor.Mb (isCh changeD)
theorem rdoes_any (o : Ph) (x : Od.Ask) (w : World) (h : HA w o) (hd : isD o.d = true) (hf : Dp.FitP o) (hc : isCh x = true) :
  Calls Tryz.prog 116 #[qv o,av x] w fun e w' => ∃ s,e = .returned (tc (turnOc o (changeD o.d x) s)) /\ ArgM w' s (changeD o.d x).1.ms /\ Below w.heap.size w w':=by
 unfold Mb.isCh at hc
 have hc:=of_decide_eq_true hc
 unfold Mb.changeD
 by_cases h10 : x.kind = 10
 ·rw [if_pos h10]
  exact rdoes_add o x w h hd hf h10
 ·rw [if_neg h10]
  exact rdoes_remove o x w h hd hf (by omega)
theorem ask_no {l : List Ses} {c q : Int} (h : (askS l c q).2 = false) : (askS l c q).1 = Od.Rep.zero:=by
 unfold Ss.askS at h ⊢
 split at h
 ·rfl
 ·split at h
  ·rw [if_pos ‹_›]
  ·split at h <;> cases h
def zRs (A : Option Addr) (c : Nat) : Array Value:=#[.int .i64 0,.int .i64 0,.bool false,.string ⟨#[]⟩,.slice A 0 c]
theorem zRs_ints (A : Option Addr) (c : Nat) (i : Nat) (x y : Int) (h0 : (zRs A c)[i]? = some (.int .i64 x)) (h1 : (zRs A c)[i + 1]? = some (.int .i64 y)) : x = 0:=by
 match i,h0,h1 with
 | 0,h0,_ => cases h0; rfl
 | 1,h0,_ => cases h0; rfl
 | 2,h0,_ => cases h0
 | 3,h0,_ => cases h0
 | 4,h0,_ => cases h0
 | i + 5,h0,_ => simp [zRs] at h0
theorem box_zRs (w : World) (A : Option Addr) (c : Nat) : (putR (w.alloc (.cells #[.int .i64 0,.int .i64 0,.bool false,.string ⟨#[]⟩,.slice none 0 0] 87)) w.heap.size Od.Rep.zero (.slice A 0 c)).heap[w.heap.size]? = some (.cells (zRs A c) 87 (0,0)):=by
 have h0 : (w.alloc (.cells #[.int .i64 0,.int .i64 0,.bool false,.string ⟨#[]⟩,.slice none 0 0] 87)).heap[w.heap.size]? = some (.cells [.int .i64 0,.int .i64 0,.bool false,.string ⟨#[]⟩,.slice none 0 0].toArray 87 (0,0)):=heap_alloc_new w _
 exact heap_set (heap_set (heap_set (heap_set (heap_set h0 _) _) _) _) _
theorem boxP_s7 {n : Nat} {o : Ph} {w1 : World} (h : BoxP n o w1) (v : Value) (zs : List Zs) : BoxP n { o with zs:=zs,sz:=v } (w1.setCell ⟨n,7,none⟩ v):=by
 obtain ⟨h0,⟨h1,h2,h3,h4,h5,h6,h7,h8,h9,h10,h11⟩,hf⟩:=h
 refine ⟨by simpa using h0,⟨?_,?_,?_,?_,?_,?_,?_,?_,?_,?_,?_⟩,fun o => by simp [World.frozen?_setCell,hf]⟩
 all_goals simp [go_sem,h1,h2,h3,h4,h5,h6,h7,h8,h9,h10,h11]
set_option maxHeartbeats 64000000 in
set_option maxRecDepth 100000 in
theorem rapply_any (o : Ph) (x : Od.Ask) (w : World) (h : HA w o) (hP : isP o.pl = true) (hf : Dp.FitP o) (hc : isCh x = true) (hA : Od.isA x = true)
  (hk : x.key.size <= 140737488355328) (ht : x.til.size <= 140737488355328) (hv : x.val.size <= 140737488355328) :
  Calls Tryz.prog 53 #[qv o,av x] w (ApplyOut w (applyC o.pl x)):=by
 have hp:=h.hp
 have hd : isD o.d = true:=Dp.isP_d hP
 have hiS : isS (ses o.zs) = true:=Dp.isP_s hP
 have hl : o.zs.length <= 64:=by have:=Dp.isS_len hiS; simpa using this
 have hcc : x.kind = 10 \/ x.kind = 11:=by unfold Mb.isCh at hc; simpa using hc
 have c1:=fun w' => Od.ris_any x w' hk ht hv
 have c2:=fun w' (hb : Below w.heap.size w w') => Ss.rask_any o.sz o.zs x.client x.seq w' ((hp.sz.below hb).more hb.size) h.np (by omega)
 have c3:=fun w' => Od.rkeyed_any x.kind w'
 have c4:=fun w' => Bnd.rhas_any o.d.f o.d.t x.key w'
 have c5:=fun w' (hb : Below w.heap.size w w') => rmoved_any o w' ((hp.below hb).more hb.size) hd
 have c6:=fun w' (hb : Below w.heap.size w w') => rput_is o.d o.sm w' ((hp.sm.below hb).more hb.size) hd
 have c7:=fun w' (hb : Below w.heap.size w w') => rdoes_any o x w' (h.keep hb) hd hf hc
 have c8:=fun w' => Od.rreads_any x.kind w'
 have c9:=fun n w' => rbad_any n w'
 have hky : keyedK x.kind = true:=by rcases hcc with h | h <;> rw [h] <;> rfl
 have hrk : Od.readsK x.kind = false:=by rcases hcc with h | h <;> rw [h] <;> rfl
 rw [hA] at c1
 rw [hky] at c3
 rw [hrk] at c8
 have k0 : (x.kind == 0) = false:=by rcases hcc with h | h <;> rw [h] <;> rfl
 have k8 : (x.kind == 8) = false:=by rcases hcc with h | h <;> rw [h] <;> rfl
 have k12 : (x.kind == 12) = false:=by rcases hcc with h | h <;> rw [h] <;> rfl
 have j0 : (x.kind = 0) = False:=eq_false (by omega)
 have j8 : (x.kind = 8) = False:=eq_false (by omega)
 have j12 : (x.kind = 12) = False:=eq_false (by omega)
 have hfz : frozenP o.pl x.kind = toldR 2 false (putT o.d):=by unfold frozenP; rw [if_neg (by omega),if_neg (by omega)]; rfl
 have hat : atOnceP o.pl x = if (askS (ses o.zs) x.client x.seq).2 = true then some (askS (ses o.zs) x.client x.seq).1 else if hasB (B o.d.f o.d.t) x.key.toList = false then some (toldR 1 false (putT o.d)) else if o.fr = true then some (toldR 2 false (putT o.d)) else none:=by
  unfold atOnceP
  rw [if_pos (show chkA x = 0 by unfold Od.chkA; rw [if_pos hA]),if_neg (show ¬ x.kind = 0 by omega),hky,hfz]
  simp only [true_and]
  rfl
 have hps:=ask_ps (nop_ps h.np) x.client x.seq
 have hno:=ask_no (l:=ses o.zs) (c:=x.client) (q:=x.seq)
 have hnt:=fun c => noted_ch (x:=x) hc (c:=c)
 have hnd:=change_nodes o.d x
 obtain ⟨CH,hCH⟩ : ∃ p,changeD o.d x = p:=⟨_,rfl⟩
 have hap : applyC o.pl x = match atOnceP o.pl x with | some r => (o.pl,r,Eff.zero) | none => endP o.pl x (becameP o.pl CH):=by unfold applyC; rw [show changeD o.pl.d x = CH from hCH]; cases atOnceP o.pl x <;> rfl
 rw [hap,hat]
 rw [hCH] at c7 hnd
 have HD : Hid (CH.2 = 0 -> isD CH.1 = true):=Lib.hid (fun e0 => (Mb.change_is (d:=o.d) (x:=CH.1) (o:=x) (by rw [hCH,<- e0])).1)
 have HND:=Lib.hid hnd
 have HHA:=Lib.hid h
 have HNT:=Lib.hid hnt
 obtain ⟨⟨rp,kn⟩,hask⟩ : ∃ p,askS (ses o.zs) x.client x.seq = p:=⟨_,rfl⟩
 obtain ⟨H,hH⟩ : ∃ H,hasB (B o.d.f o.d.t) x.key.toList = H:=⟨_,rfl⟩
 obtain ⟨TX,hTX⟩ : ∃ T,txt (putT o.d) = T:=⟨_,rfl⟩
 rw [hask] at c2 hps hno
 rw [hH] at c4
 rw [show toldR 1 false (putT o.d) = (⟨1,0,false,TX,[]⟩ : Rep) by rw [<- hTX]] at c5 ⊢
 rw [show toldR 2 false (putT o.d) = (⟨2,0,false,TX,[]⟩ : Rep) by rw [<- hTX]]
 rw [hTX] at c6
 rw [hask,hH]
 simp only at hps hno
 have HPS:=Lib.hid hps
 have HNO:=Lib.hid hno
 clear hap hCH hat hask hH hTX hps hno hnd hP hiS hk ht hv hnt hcc hky hrk hfz hf hA hc hd
 obtain ⟨k,client,seq,key,til,val,old,has,lim,id,node⟩:=x
 obtain ⟨d,ps,zs,fr,ea,al,A,B,C,D,a,b,c,e,rfl⟩:=hp.open
 simp only at c1 c2 c3 c4 c5 c6 c7 c8 k0 k8 k12 j0 j8 j12 hl ⊢
 obtain ⟨nm,hnm⟩ : ∃ n,d.ms.length = n:=⟨_,rfl⟩
 obtain ⟨np,hnp⟩ : ∃ n,ps.length = n:=⟨_,rfl⟩
 obtain ⟨nz,hnz⟩ : ∃ n,zs.length = n:=⟨_,rfl⟩
 obtain ⟨ne,hne⟩ : ∃ n,ea.length = n:=⟨_,rfl⟩
 rw [hnz] at c2
 rw [hnm] at c6
 rw [hnm,hnp,hnz,hne] at c5 c7 HHA ⊢
 clear h hp hnm hnp hnz hne
 obtain ⟨W0,hW0⟩ : ∃ W0,(((((w.alloc (.cells #[.int .i64 d.id,.string d.f,.string d.t,.int .i64 d.gen,.slice A nm a,.int .i64 d.next,.slice B np b,.slice C nz c,.bool fr,.slice D ne e,.int .i64 al] 38)).alloc (.cells #[.int .i64 k,.int .i64 client,.int .i64 seq,.string key,.string til,.string val,.string old,.bool has,.int .i64 lim,.int .i64 id,.int .i64 node] 40)).alloc (.cells zP 38)).alloc (.cells zR 87)).alloc (.cells zF 93)).alloc (.cells zF 93) = W0:=⟨_,rfl⟩
 obtain ⟨W1,hW1⟩ : ∃ W1,(((((((((((((W0).setCell ⟨w.heap.size + 5,0,none⟩ (.bool false)).setCell ⟨w.heap.size + 5,1,none⟩ (.int .i64 0)).setCell ⟨w.heap.size + 5,2,none⟩ (.string ⟨#[]⟩)).setCell ⟨w.heap.size + 5,3,none⟩ (.string ⟨#[]⟩)).setCell ⟨w.heap.size + 5,4,none⟩ (.int .i64 0)).setCell ⟨w.heap.size + 5,5,none⟩ (.slice none 0 0)).setCell ⟨w.heap.size + 5,6,none⟩ (.int .i64 0)).setCell ⟨w.heap.size + 5,7,none⟩ (.slice none 0 0)).setCell ⟨w.heap.size + 5,8,none⟩ (.slice none 0 0)).setCell ⟨w.heap.size + 5,9,none⟩ (.bool false)).setCell ⟨w.heap.size + 5,10,none⟩ (.slice none 0 0)).setCell ⟨w.heap.size + 5,11,none⟩ (.int .i64 0)).setCell ⟨w.heap.size + 5,12,none⟩ (.int .i64 0) = W1:=⟨_,rfl⟩
 have hb0 : Below w.heap.size w W0:=hW0 ▸ (by exact bex0)
 have hz0 : W0.heap.size = w.heap.size + 6:=by rw [<- hW0]; simp
 have BQ0 : BoxQ w.heap.size ⟨d,.slice A nm a,ps,.slice B np b,zs,.slice C nz c,fr,ea,.slice D ne e,al⟩ W0:=hW0 ▸ (((((BoxQ.new w ⟨d,.slice A nm a,ps,.slice B np b,zs,.slice C nz c,fr,ea,.slice D ne e,al⟩).alloc _).alloc _).alloc _).alloc _).alloc _
 have BA0 : Od.BoxA (w.heap.size + 1) ⟨k,client,seq,key,til,val,old,has,lim,id,node⟩ W0:=by
  rw [<- hW0,<- World.size_alloc w (.cells #[.int .i64 d.id,.string d.f,.string d.t,.int .i64 d.gen,.slice A nm a,.int .i64 d.next,.slice B np b,.slice C nz c,.bool fr,.slice D ne e,.int .i64 al] 38)]
  exact ((((Od.BoxA.new _ ⟨k,client,seq,key,til,val,old,has,lim,id,node⟩).alloc _).alloc _).alloc _).alloc _
 obtain ⟨HB0,BF0⟩:=held_start w ⟨d,.slice A nm a,ps,.slice B np b,zs,.slice C nz c,fr,ea,.slice D ne e,al⟩ ⟨k,client,seq,key,til,val,old,has,lim,id,node⟩ hW0
 have e1 : putF W0 (w.heap.size + 5) Fh.zero = W1:=hW1
 have hbut1 : But [w.heap.size + 5] W0 W1:=e1 ▸ but_putF (But.refl _ _) (by simp) Fh.zero
 have BQ1 : BoxQ w.heap.size ⟨d,.slice A nm a,ps,.slice B np b,zs,.slice C nz c,fr,ea,.slice D ne e,al⟩ W1:=hbut1.boxQ BQ0 (by simp)
 have BA1 : Od.BoxA (w.heap.size + 1) ⟨k,client,seq,key,til,val,old,has,lim,id,node⟩ W1:=hbut1.boxA BA0 (by simp)
 have HB1 : Held3 w ⟨d,.slice A nm a,ps,.slice B np b,zs,.slice C nz c,fr,ea,.slice D ne e,al⟩ W1:=HB0.butl hbut1 (by simp)
 have BF1 : BoxF (w.heap.size + 5) ⟨false,⟨⟨0,⟨#[]⟩,⟨#[]⟩,0,[],0⟩,.slice none 0 0,[],.slice none 0 0,[],.slice none 0 0,false,[],.slice none 0 0,0⟩,0⟩ W1:=e1 ▸ BF0.put Fh.zero
 have hb1 : Below w.heap.size w W1:=hb0.trans (hbut1.below (by omega) (by simp))
 have hz1 : w.heap.size + 6 <= W1.heap.size:=by have:=hbut1.size; omega
 obtain ⟨u_0,⟨u_1,u_2,u_3,u_4,u_5,u_6,u_7,u_8,u_9,u_10,u_11,u_12,u_13⟩,u_14⟩:=_root_.id BF0
 simp only [Fh.zero,Dp.Ph.zero,De.zero] at u_1 u_2 u_3 u_4 u_5 u_6 u_7 u_8 u_9 u_10 u_11 u_12 u_13
 clear e1 hbut1 BQ0 BA0 HB0 BF0 hb0 hz0
 have BP:=BQ1.1
 obtain ⟨p_0,⟨p_1,p_2,p_3,p_4,p_5,p_6,p_7,p_8,p_9,p_10,p_11⟩,p_12⟩:=_root_.id BP
 obtain ⟨q_0,⟨q_1,q_2,q_3,q_4,q_5,q_6,q_7,q_8,q_9,q_10,q_11⟩,q_12⟩:=_root_.id BA1
 simp only [zP,zR,zF] at hW0
 go_enter Tryz.func53,Tryz.ntmps53
 go_wp2_with fail
 try rw [hW0]
 try go_wp2_with fail
 try rw [hW1]
 try go_wp2_with fail
 refine (c1 _).mono ?_
 rintro e' w2 ⟨rfl,b2⟩
 have BQ2:=BQ1.keep b2
 have BA2:=BA1.keep b2
 have HB2:=HB1.keep b2
 have BF2:=BF1.keep b2
 have hb2:=hb1.trans (b2.mono hb1.size)
 have hz2 : w.heap.size + 6 <= w2.heap.size:=Nat.le_trans hz1 b2.size
 clear p_0 p_1 p_2 p_3 p_4 p_5 p_6 p_7 p_8 p_9 p_10 p_11 p_12
 clear q_0 q_1 q_2 q_3 q_4 q_5 q_6 q_7 q_8 q_9 q_10 q_11 q_12
 clear b2 c1 BQ1 BA1 HB1 BF1 hb1 hz1 hW0 hW1 BP u_0 u_1 u_2 u_3 u_4 u_5 u_6 u_7 u_8 u_9 u_10 u_11 u_12 u_13 u_14
 have BP:=BQ2.1
 obtain ⟨p_0,⟨p_1,p_2,p_3,p_4,p_5,p_6,p_7,p_8,p_9,p_10,p_11⟩,p_12⟩:=_root_.id BP
 obtain ⟨q_0,⟨q_1,q_2,q_3,q_4,q_5,q_6,q_7,q_8,q_9,q_10,q_11⟩,q_12⟩:=_root_.id BA2
 go_wp2_with fail
 refine (c2 _ hb2).mono ?_
 rintro e' w3 ⟨⟨A',c',rfl⟩,b3⟩
 have BQ3:=BQ2.keep b3
 have BA3:=BA2.keep b3
 have HB3:=HB2.keep b3
 have BF3:=BF2.keep b3
 have hb3:=hb2.trans (b3.mono hb2.size)
 have hz3 : w.heap.size + 6 <= w3.heap.size:=Nat.le_trans hz2 b3.size
 clear p_0 p_1 p_2 p_3 p_4 p_5 p_6 p_7 p_8 p_9 p_10 p_11 p_12
 clear q_0 q_1 q_2 q_3 q_4 q_5 q_6 q_7 q_8 q_9 q_10 q_11 q_12
 clear b3 c2 BQ2 BA2 HB2 BF2 hb2 hz2 BP
 obtain ⟨W4,hW4⟩ : ∃ W4,w3.alloc (.cells #[.int .i64 0,.int .i64 0,.bool false,.string ⟨#[]⟩,.slice none 0 0] 87) = W4:=⟨_,rfl⟩
 obtain ⟨W5,hW5⟩ : ∃ W5,(((((W4).setCell ⟨w3.heap.size,0,none⟩ (.int .i64 rp.code)).setCell ⟨w3.heap.size,1,none⟩ (.int .i64 rp.err)).setCell ⟨w3.heap.size,2,none⟩ (.bool rp.has)).setCell ⟨w3.heap.size,3,none⟩ (.string rp.val)).setCell ⟨w3.heap.size,4,none⟩ (.slice A' 0 c') = W5:=⟨_,rfl⟩
 have e5 : putR W4 w3.heap.size rp (.slice A' 0 c') = W5:=hW5
 have h34 : Below w3.heap.size w3 W4:=hW4 ▸ (Below.refl _ w3).alloc (Nat.le_refl _) _
 have BR4 : BoxR w3.heap.size Od.Rep.zero (.slice none 0 0) W4:=hW4 ▸ BoxR.new w3 Od.Rep.zero (.slice none 0 0)
 have BR5 : BoxR w3.heap.size rp (.slice A' 0 c') W5:=e5 ▸ BR4.put rp (.slice A' 0 c')
 have hbut5 : But [w3.heap.size] W4 W5:=e5 ▸ but_putR (But.refl _ _) (by simp) rp (.slice A' 0 c')
 have hz8 : rp = Od.Rep.zero -> W5.heap[w3.heap.size]? = some (.cells (zRs A' c') 87 (0,0)):=fun er => by rw [<- hW5,<- hW4,er]; exact box_zRs w3 A' c'
 have BQ5:=hbut5.boxQ (BQ3.keep h34) (by simp; omega)
 have BA5:=hbut5.boxA (BA3.keep h34) (by simp; omega)
 have HB5:=(HB3.keep h34).butl hbut5 (by simp; omega)
 have BF5:=hbut5.boxF (BF3.keep h34) (by simp; omega)
 have hb5 : Below w.heap.size w W5:=(hb3.trans (h34.mono hb3.size)).trans (hbut5.below (by have:=hb3.size; have:=h34.size; omega) (by simp; omega))
 have hs5 : w3.heap.size < W5.heap.size:=BR5.1
 have HZ8:=Lib.hid hz8
 obtain ⟨v_0,⟨v_1,v_2,v_3,v_4,v_5⟩,v_6⟩:=_root_.id BR4
 simp only at v_1 v_2 v_3 v_4 v_5
 have hB4:=zP_box HB5.z4
 have hB5:=zR_box HB5.z5
 have hB6:=zF_box HB5.z6
 clear hbut5 h34 BQ3 BA3 HB3 BF3 hb3 BR4 hz8 e5
 have BP:=BQ5.1
 obtain ⟨p_0,⟨p_1,p_2,p_3,p_4,p_5,p_6,p_7,p_8,p_9,p_10,p_11⟩,p_12⟩:=_root_.id BP
 obtain ⟨q_0,⟨q_1,q_2,q_3,q_4,q_5,q_6,q_7,q_8,q_9,q_10,q_11⟩,q_12⟩:=_root_.id BA5
 cases kn with
 | true =>
  try simp only
  go_wp2_with fail
  try rw [hW4]
  try go_wp2_with fail
  try rw [hW5]
  try go_wp2_with fail
  clear p_0 p_1 p_2 p_3 p_4 p_5 p_6 p_7 p_8 p_9 p_10 p_11 p_12
  clear q_0 q_1 q_2 q_3 q_4 q_5 q_6 q_7 q_8 q_9 q_10 q_11 q_12
  clear v_0 v_1 v_2 v_3 v_4 v_5 v_6 hW4 hW5
  refine St.wp_region_mixed (R3 W5 (w.heap.size + 2) (w.heap.size + 3) (w.heap.size + 4) 3 4 5 ⟨d,.slice A nm a,ps,.slice B np b,zs,.slice C nz c,fr,ea,.slice D ne e,al⟩ rp (.slice A' 0 c') ⟨false,⟨⟨0,⟨#[]⟩,⟨#[]⟩,0,[],0⟩,.slice none 0 0,[],.slice none 0 0,[],.slice none 0 0,false,[],.slice none 0 0,0⟩,0⟩) (fun _ _ => False) (by kernel_rfl) (by kernel_rfl) (by kernel_rfl) (R3.start W5 hB4 hB5 hB6) ?_
  apply St.mix_give
  ·rfl
  ·intro L u' wx hS hcl hrd hag
   obtain ⟨_,⟨d0,d1,d2,d3,d4,d5,d6,d7,d8,d9,d10⟩,_⟩:=hS.but.boxP BP (by first | (simp; done) | (simp; omega))
   go_simp
   try with_reducible rfl
  ·exact fun L u' wx hS => hS.give (by decide) (by decide) (by decide) _
  simp only [Act.put,St.pu]
  apply St.mix_give
  ·rfl
  ·intro L u' wx hS hcl hrd hag
   obtain ⟨_,⟨d0,d1,d2,d3,d4⟩,_⟩:=hS.but.boxR BR5 (by first | (simp; done) | (simp; omega))
   go_simp
   try with_reducible rfl
  ·exact fun L u' wx hS => hS.give (by decide) (by decide) (by decide) _
  simp only [Act.put,St.pu]
  apply St.mix_give
  ·rfl
  ·intro L u' wx hS hcl hrd hag
   obtain ⟨_,⟨d0,d1,d2,d3,d4,d5,d6,d7,d8,d9,d10,d11,d12⟩,_⟩:=hS.but.boxF BF5 (by first | (simp; done) | (simp; omega))
   go_simp
   try with_reducible rfl
  ·exact fun L u' wx hS => hS.give (by decide) (by decide) (by decide) _
  simp only [Act.put,St.pu]
  refine St.mix_skip rfl ?_ ?_
  ·intro L u' wx hS hcl hrd hag
   have hbx:=hS.b4
   rw [hrd.1] at hbx
   obtain ⟨z0,⟨z1,z2,z3,z4,z5,z6,z7,z8,z9,z10,z11⟩,zf⟩:=hbx
   refine ⟨putP wx (w.heap.size + 2) ⟨d,.slice A nm a,ps,.slice B np b,zs,.slice C nz c,fr,ea,.slice D ne e,al⟩,?_,hS.put4 (by decide) (by decide) (by omega) (by omega) _⟩
   go_simp
   first | with_reducible rfl | rfl | skip
  simp only [Act.put]
  refine St.mix_skip rfl ?_ ?_
  ·intro L u' wx hS hcl hrd hag
   have hbx:=hS.b5
   rw [hrd.1] at hbx
   obtain ⟨z0,⟨z1,z2,z3,z4,z5⟩,zf⟩:=hbx
   refine ⟨putR wx (w.heap.size + 3) rp (.slice A' 0 c'),?_,hS.put5 (by decide) (by decide) (by omega) (by omega) _⟩
   go_simp
   first | with_reducible rfl | rfl | skip
  simp only [Act.put]
  refine St.mix_skip rfl ?_ ?_
  ·intro L u' wx hS hcl hrd hag
   have hbx:=hS.b6
   rw [hrd.1] at hbx
   obtain ⟨z0,⟨z1,z2,z3,z4,z5,z6,z7,z8,z9,z10,z11,z12,z13⟩,zf⟩:=hbx
   refine ⟨putF wx (w.heap.size + 4) ⟨false,⟨⟨0,⟨#[]⟩,⟨#[]⟩,0,[],0⟩,.slice none 0 0,[],.slice none 0 0,[],.slice none 0 0,false,[],.slice none 0 0,0⟩,0⟩,?_,hS.put6 (by decide) (by decide) (by omega) (by omega) _⟩
   go_simp
   first | with_reducible rfl | rfl | skip
  simp only [Act.put]
  refine St.mix_last ?_
  intro L wx hS hall
  obtain ⟨hbut,hX4,hX5,hX6⟩:=hS.fin (hall 3 (by decide)) (hall 4 (by decide)) (hall 5 (by decide))
  have hbw:=hbut.below (N:=w.heap.size) hb5.size (by simp)
  go_wp2_with fail
  refine bodyPost_ret (res_three Tryz.results53 rfl rfl rfl hX4 hX5 hX6) rfl ⟨⟨⟨d,.slice A nm a,ps,.slice B np b,zs,.slice C nz c,fr,ea,.slice D ne e,al⟩,rp,.slice A' 0 c',⟨false,⟨⟨0,⟨#[]⟩,⟨#[]⟩,0,[],0⟩,.slice none 0 0,[],.slice none 0 0,[],.slice none 0 0,false,[],.slice none 0 0,0⟩,0⟩⟩,rfl,rfl,HHA.out.keep (hb5.trans hbw),HA.zero _,⟨A',c',by rw [HPS.out]; rfl⟩,hb5.trans hbw⟩
 | false =>
  obtain rfl : rp = Od.Rep.zero:=HNO.out rfl
  have HZ9:=Lib.hid (HZ8.out rfl)
  try simp only
  clear HZ8 HNO HPS hB4 hB5 hB6
  simp only at hW5
  go_wp2_with fail
  try rw [hW4]
  try go_wp2_with fail
  try rw [hW5]
  try go_wp2_with fail
  refine (c3 _).mono ?_
  rintro e' w6 ⟨rfl,rfl⟩
  clear v_0 v_1 v_2 v_3 v_4 v_5 v_6 hW4 hW5 c3
  go_wp2_with fail
  refine (c4 _).mono ?_
  rintro e' w6 ⟨rfl,b6⟩
  have BQ6:=BQ5.keep b6
  have BA6:=BA5.keep b6
  have HB6:=HB5.keep b6
  have BF6:=BF5.keep b6
  have BR6:=BR5.keep b6
  have hb6:=hb5.trans (b6.mono hb5.size)
  have hs6 : w3.heap.size < w6.heap.size:=Nat.lt_of_lt_of_le hs5 b6.size
  have HZ6:=Lib.hid ((b6.block _ hs5).trans HZ9.out)
  clear p_0 p_1 p_2 p_3 p_4 p_5 p_6 p_7 p_8 p_9 p_10 p_11 p_12
  clear q_0 q_1 q_2 q_3 q_4 q_5 q_6 q_7 q_8 q_9 q_10 q_11 q_12
  clear b6 c4 BQ5 BA5 HB5 BF5 BR5 hb5 hs5 BP HZ9
  have hB4:=zP_box HB6.z4
  have hB5:=zR_box HB6.z5
  have hB6:=zF_box HB6.z6
  have BP:=BQ6.1
  obtain ⟨p_0,⟨p_1,p_2,p_3,p_4,p_5,p_6,p_7,p_8,p_9,p_10,p_11⟩,p_12⟩:=_root_.id BP
  obtain ⟨q_0,⟨q_1,q_2,q_3,q_4,q_5,q_6,q_7,q_8,q_9,q_10,q_11⟩,q_12⟩:=_root_.id BA6
  cases H with
  | false =>
   try simp only
   go_wp2_with fail
   clear p_0 p_1 p_2 p_3 p_4 p_5 p_6 p_7 p_8 p_9 p_10 p_11 p_12
   clear q_0 q_1 q_2 q_3 q_4 q_5 q_6 q_7 q_8 q_9 q_10 q_11 q_12
   refine St.wp_region_mixed (R3 w6 (w.heap.size + 2) (w.heap.size + 3) (w.heap.size + 4) 4 5 6 ⟨d,.slice A nm a,ps,.slice B np b,zs,.slice C nz c,fr,ea,.slice D ne e,al⟩ (⟨1,0,false,TX,[]⟩ : Rep) (.slice none 0 0) ⟨false,⟨⟨0,⟨#[]⟩,⟨#[]⟩,0,[],0⟩,.slice none 0 0,[],.slice none 0 0,[],.slice none 0 0,false,[],.slice none 0 0,0⟩,0⟩) (fun _ x => x = rv (⟨1,0,false,TX,[]⟩ : Rep) (.slice none 0 0)) (by kernel_rfl) (by kernel_rfl) (by kernel_rfl) (R3.start w6 hB4 hB5 hB6) ?_
   iterate 2
    apply St.mix_give
    ·rfl
    ·intro L u' wx hS hcl hrd hag
     obtain ⟨_,⟨d0,d1,d2,d3,d4,d5,d6,d7,d8,d9,d10⟩,_⟩:=hS.but.boxP BP (by first | (simp; done) | (simp; omega))
     go_simp
     try with_reducible rfl
    ·exact fun L u' wx hS => hS.give (by decide) (by decide) (by decide) _
    simp only [Act.put,St.pu]
   refine St.mix_into (v:=rv (⟨1,0,false,TX,[]⟩ : Rep) (.slice none 0 0)) (f:=113) (args:=#[qv ⟨d,.slice A nm a,ps,.slice B np b,zs,.slice C nz c,fr,ea,.slice D ne e,al⟩]) rfl rfl ?_ ?_ ?_
   ·intro wx
    go_simp
    try with_reducible rfl
   ·intro L u' wx hS hcl hrd hag
    refine (c5 wx (hb6.trans (hS.but.below hb6.size (by simp)))).mono ?_
    rintro e' w' ⟨rfl,b⟩
    exact ⟨rfl,hS.call (by decide) (by decide) (by decide) b _⟩
   simp only [Act.put,St.pu]
   apply St.mix_give
   ·rfl
   ·intro L u' wx hS hcl hrd hag
    obtain ⟨_,⟨d0,d1,d2,d3,d4,d5,d6,d7,d8,d9,d10,d11,d12⟩,_⟩:=hS.but.boxF BF6 (by first | (simp; done) | (simp; omega))
    go_simp
    try with_reducible rfl
   ·exact fun L u' wx hS => hS.give (by decide) (by decide) (by decide) _
   simp only [Act.put,St.pu]
   refine St.mix_skip rfl ?_ ?_
   ·intro L u' wx hS hcl hrd hag
    have hbx:=hS.b4
    rw [hrd.1] at hbx
    obtain ⟨z0,⟨z1,z2,z3,z4,z5,z6,z7,z8,z9,z10,z11⟩,zf⟩:=hbx
    refine ⟨putP wx (w.heap.size + 2) ⟨d,.slice A nm a,ps,.slice B np b,zs,.slice C nz c,fr,ea,.slice D ne e,al⟩,?_,hS.put4 (by decide) (by decide) (by omega) (by omega) _⟩
    go_simp
    first | with_reducible rfl | rfl | skip
   simp only [Act.put]
   refine St.mix_skip rfl ?_ ?_
   ·intro L u' wx hS hcl hrd hag
    have hbx:=hS.b5
    rw [hrd.1] at hbx
    obtain ⟨z0,⟨z1,z2,z3,z4,z5⟩,zf⟩:=hbx
    refine ⟨putR wx (w.heap.size + 3) (⟨1,0,false,TX,[]⟩ : Rep) (.slice none 0 0),?_,hS.put5 (by decide) (by decide) (by omega) (by omega) _⟩
    go_simp
    first | with_reducible rfl | rfl | skip
   simp only [Act.put]
   refine St.mix_skip rfl ?_ ?_
   ·intro L u' wx hS hcl hrd hag
    have hbx:=hS.b6
    rw [hrd.1] at hbx
    obtain ⟨z0,⟨z1,z2,z3,z4,z5,z6,z7,z8,z9,z10,z11,z12,z13⟩,zf⟩:=hbx
    refine ⟨putF wx (w.heap.size + 4) ⟨false,⟨⟨0,⟨#[]⟩,⟨#[]⟩,0,[],0⟩,.slice none 0 0,[],.slice none 0 0,[],.slice none 0 0,false,[],.slice none 0 0,0⟩,0⟩,?_,hS.put6 (by decide) (by decide) (by omega) (by omega) _⟩
    go_simp
    first | with_reducible rfl | rfl | skip
   simp only [Act.put]
   refine St.mix_last ?_
   intro L wx hS hall
   obtain ⟨hbut,hX4,hX5,hX6⟩:=hS.fin (hall 4 (by decide)) (hall 5 (by decide)) (hall 6 (by decide))
   have hbw:=hbut.below (N:=w.heap.size) hb6.size (by simp)
   go_wp2_with fail
   refine bodyPost_ret (res_three Tryz.results53 rfl rfl rfl hX4 hX5 hX6) rfl ⟨⟨⟨d,.slice A nm a,ps,.slice B np b,zs,.slice C nz c,fr,ea,.slice D ne e,al⟩,⟨1,0,false,TX,[]⟩,.slice none 0 0,⟨false,⟨⟨0,⟨#[]⟩,⟨#[]⟩,0,[],0⟩,.slice none 0 0,[],.slice none 0 0,[],.slice none 0 0,false,[],.slice none 0 0,0⟩,0⟩⟩,rfl,rfl,HHA.out.keep (hb6.trans hbw),HA.zero _,⟨none,0,rfl⟩,hb6.trans hbw⟩
  | true =>
   try simp only
   cases fr with
   | true =>
    try simp only
    go_wp2_with fail
    clear p_0 p_1 p_2 p_3 p_4 p_5 p_6 p_7 p_8 p_9 p_10 p_11 p_12
    clear q_0 q_1 q_2 q_3 q_4 q_5 q_6 q_7 q_8 q_9 q_10 q_11 q_12
    refine St.wp_region_mixed (R3 w6 (w.heap.size + 2) (w.heap.size + 3) (w.heap.size + 4) 6 7 8 ⟨d,.slice A nm a,ps,.slice B np b,zs,.slice C nz c,true,ea,.slice D ne e,al⟩ (⟨2,0,false,TX,[]⟩ : Rep) (.slice none 0 0) ⟨false,⟨⟨0,⟨#[]⟩,⟨#[]⟩,0,[],0⟩,.slice none 0 0,[],.slice none 0 0,[],.slice none 0 0,false,[],.slice none 0 0,0⟩,0⟩) (fun _ x => x = .string TX) (by kernel_rfl) (by kernel_rfl) (by kernel_rfl) (R3.start w6 hB4 hB5 hB6) ?_
    apply St.mix_give
    ·rfl
    ·intro L u' wx hS hcl hrd hag
     obtain ⟨_,⟨d0,d1,d2,d3,d4,d5,d6,d7,d8,d9,d10⟩,_⟩:=hS.but.boxP BP (by first | (simp; done) | (simp; omega))
     go_simp
     try with_reducible rfl
    ·exact fun L u' wx hS => hS.give (by decide) (by decide) (by decide) _
    simp only [Act.put,St.pu]
    apply St.mix_give
    ·rfl
    ·intro L u' wx hS hcl hrd hag
     skip
     go_simp
     try with_reducible rfl
    ·exact fun L u' wx hS => hS.give (by decide) (by decide) (by decide) _
    simp only [Act.put,St.pu]
    apply St.mix_give
    ·rfl
    ·intro L u' wx hS hcl hrd hag
     obtain ⟨_,⟨d0,d1,d2,d3,d4,d5,d6,d7,d8,d9,d10⟩,_⟩:=hS.but.boxP BP (by first | (simp; done) | (simp; omega))
     go_simp
     try with_reducible rfl
    ·exact fun L u' wx hS => hS.give (by decide) (by decide) (by decide) _
    simp only [Act.put,St.pu]
    refine St.mix_into (v:=.string TX) (f:=115) (args:=#[dv d (.slice A nm a)]) rfl rfl ?_ ?_ ?_
    ·intro wx
     go_simp
     try with_reducible rfl
    ·intro L u' wx hS hcl hrd hag
     refine (c6 wx (hb6.trans (hS.but.below hb6.size (by simp)))).mono ?_
     rintro e' w' ⟨rfl,b⟩
     exact ⟨rfl,hS.call (by decide) (by decide) (by decide) b _⟩
    simp only [Act.put,St.pu]
    apply St.mix_give
    ·rfl
    ·intro L u' wx hS hcl hrd hag
     skip
     go_simp
     try with_reducible rfl
    ·exact fun L u' wx hS => hS.give (by decide) (by decide) (by decide) _
    simp only [Act.put,St.pu]
    apply St.mix_give
    ·rfl
    ·intro L u' wx hS hcl hrd hag
     obtain ⟨_,⟨d0,d1,d2,d3,d4,d5,d6,d7,d8,d9,d10,d11,d12⟩,_⟩:=hS.but.boxF BF6 (by first | (simp; done) | (simp; omega))
     go_simp
     try with_reducible rfl
    ·exact fun L u' wx hS => hS.give (by decide) (by decide) (by decide) _
    simp only [Act.put,St.pu]
    refine St.mix_skip rfl ?_ ?_
    ·intro L u' wx hS hcl hrd hag
     have hbx:=hS.b4
     rw [hrd.1] at hbx
     obtain ⟨z0,⟨z1,z2,z3,z4,z5,z6,z7,z8,z9,z10,z11⟩,zf⟩:=hbx
     refine ⟨putP wx (w.heap.size + 2) ⟨d,.slice A nm a,ps,.slice B np b,zs,.slice C nz c,true,ea,.slice D ne e,al⟩,?_,hS.put4 (by decide) (by decide) (by omega) (by omega) _⟩
     go_simp
     first | with_reducible rfl | rfl | skip
    simp only [Act.put]
    refine St.mix_skip rfl ?_ ?_
    ·intro L u' wx hS hcl hrd hag
     have hbx:=hS.b5
     rw [hrd.1] at hbx
     obtain ⟨z0,⟨z1,z2,z3,z4,z5⟩,zf⟩:=hbx
     refine ⟨putR wx (w.heap.size + 3) (⟨2,0,false,TX,[]⟩ : Rep) (.slice none 0 0),?_,hS.put5 (by decide) (by decide) (by omega) (by omega) _⟩
     go_simp
     first | with_reducible rfl | rfl | skip
    simp only [Act.put]
    refine St.mix_skip rfl ?_ ?_
    ·intro L u' wx hS hcl hrd hag
     have hbx:=hS.b6
     rw [hrd.1] at hbx
     obtain ⟨z0,⟨z1,z2,z3,z4,z5,z6,z7,z8,z9,z10,z11,z12,z13⟩,zf⟩:=hbx
     refine ⟨putF wx (w.heap.size + 4) ⟨false,⟨⟨0,⟨#[]⟩,⟨#[]⟩,0,[],0⟩,.slice none 0 0,[],.slice none 0 0,[],.slice none 0 0,false,[],.slice none 0 0,0⟩,0⟩,?_,hS.put6 (by decide) (by decide) (by omega) (by omega) _⟩
     go_simp
     first | with_reducible rfl | rfl | skip
    simp only [Act.put]
    refine St.mix_last ?_
    intro L wx hS hall
    obtain ⟨hbut,hX4,hX5,hX6⟩:=hS.fin (hall 6 (by decide)) (hall 7 (by decide)) (hall 8 (by decide))
    have hbw:=hbut.below (N:=w.heap.size) hb6.size (by simp)
    go_wp2_with fail
    refine bodyPost_ret (res_three Tryz.results53 rfl rfl rfl hX4 hX5 hX6) rfl ⟨⟨⟨d,.slice A nm a,ps,.slice B np b,zs,.slice C nz c,true,ea,.slice D ne e,al⟩,⟨2,0,false,TX,[]⟩,.slice none 0 0,⟨false,⟨⟨0,⟨#[]⟩,⟨#[]⟩,0,[],0⟩,.slice none 0 0,[],.slice none 0 0,[],.slice none 0 0,false,[],.slice none 0 0,0⟩,0⟩⟩,rfl,rfl,HHA.out.keep (hb6.trans hbw),HA.zero _,⟨none,0,rfl⟩,hb6.trans hbw⟩
   | false =>
    try simp only
    clear c5 c6 hB4 hB5 hB6
    go_wp2_with fail
    refine (c7 _ hb6).mono ?_
    rintro e' w7 ⟨s,rfl,ha,b7⟩
    have BQ7:=BQ6.keep b7
    have BA7:=BA6.keep b7
    have HB7:=HB6.keep b7
    have BF7:=BF6.keep b7
    have BR7:=BR6.keep b7
    have hb7:=hb6.trans (b7.mono hb6.size)
    have hs7 : w3.heap.size < w7.heap.size:=Nat.lt_of_lt_of_le hs6 b7.size
    have hz8:=(b7.block _ hs6).trans HZ6.out
    clear p_0 p_1 p_2 p_3 p_4 p_5 p_6 p_7 p_8 p_9 p_10 p_11 p_12
    clear q_0 q_1 q_2 q_3 q_4 q_5 q_6 q_7 q_8 q_9 q_10 q_11 q_12
    clear b7 c7 BQ6 BA6 HB6 BF6 BR6 hb6 hs6 BP
    have hoff8:=argM_off ha hz8 (zRs_ints _ _) HND.out
    have hoffA : ∀ n ∈ [w.heap.size + 2,w.heap.size + 3,w.heap.size + 4,w3.heap.size],OffV n s:=fun n hn => by
     have hB:=HB7.offM ha HND.out
     simp only [List.mem_cons,List.not_mem_nil,or_false] at hn hB
     rcases hn with rfl | rfl | rfl | rfl
     ·exact hB _ (Or.inl rfl)
     ·exact hB _ (Or.inr (Or.inl rfl))
     ·exact hB _ (Or.inr (Or.inr rfl))
     ·exact hoff8
    obtain ⟨gd,sm',r',hT,hsm,hoffM,hrps,hcode,hval⟩:=turn_form ⟨d,.slice A nm a,ps,.slice B np b,zs,.slice C nz c,false,ea,.slice D ne e,al⟩ CH s w w7 [w.heap.size + 2,w.heap.size + 3,w.heap.size + 4,w3.heap.size] HHA.out.sm (fun n hn => by simp only [List.mem_cons,List.not_mem_nil,or_false] at hn; omega) hb7 ha hoffA HD.out
    obtain ⟨rcode,rerr,rhas,rval,rps⟩:=r'
    simp only at hrps hcode hval
    subst hrps
    obtain ⟨G,cg,rfl⟩:=hsm.form
    obtain ⟨ng,hng⟩ : ∃ n,gd.ms.length = n:=⟨_,rfl⟩
    rw [hng] at hT hsm hoffM
    have HT:=Lib.hid hT
    rw [show turnOc ⟨d,.slice A nm a,ps,.slice B np b,zs,.slice C nz c,false,ea,.slice D ne e,al⟩ CH s = (⟨⟨gd,.slice G ng cg,ps,.slice B np b,zs,.slice C nz c,false,ea,.slice D ne e,al⟩,(⟨rcode,rerr,rhas,rval,[]⟩ : Rep),.slice none 0 0,⟨false,⟨⟨0,⟨#[]⟩,⟨#[]⟩,0,[],0⟩,.slice none 0 0,[],.slice none 0 0,[],.slice none 0 0,false,[],.slice none 0 0,0⟩,0⟩⟩ : Oc) from hT]
    simp only [tc]
    have n1 : (rcode == 1) = false:=by simpa using hcode
    have n2 : (rcode = 1) = False:=eq_false hcode
    have hbec : becameP (Ph.pl ⟨d,.slice A nm a,ps,.slice B np b,zs,.slice C nz c,false,ea,.slice D ne e,al⟩) CH = ({ Ph.pl ⟨d,.slice A nm a,ps,.slice B np b,zs,.slice C nz c,false,ea,.slice D ne e,al⟩ with d:=gd },(⟨rcode,rerr,rhas,rval,[]⟩ : Rep),Eff.zero):=by
     rw [<- turnOc_out _ CH s,HT.out]; rfl
    obtain ⟨⟨l2,E2⟩,hN⟩ : ∃ p,noteS (ses zs) ⟨client,seq,(⟨rcode,rerr,rhas,rval,[]⟩ : Rep)⟩ = p:=⟨_,rfl⟩
    have hend:=end_is (p:=Ph.pl ⟨d,.slice A nm a,ps,.slice B np b,zs,.slice C nz c,false,ea,.slice D ne e,al⟩) (q:={ Ph.pl ⟨d,.slice A nm a,ps,.slice B np b,zs,.slice C nz c,false,ea,.slice D ne e,al⟩ with d:=gd }) (x:=⟨k,client,seq,key,til,val,old,has,lim,id,node⟩) (r:=(⟨rcode,rerr,rhas,rval,[]⟩ : Rep)) (HNT.out rcode hcode) hN
    rw [<- hbec] at hend
    have HEND:=Lib.hid hend
    have HOFF:=Lib.hid hoffM
    have HSM:=Lib.hid hsm
    have HFZ : FitZ ⟨client,seq,(⟨rcode,rerr,rhas,rval,[]⟩ : Rep)⟩:=⟨by show rval.size <= _; omega,by show (0 : Nat) <= _; omega,fun p hp => by cases hp⟩
    obtain ⟨W8,hW8⟩ : ∃ W8,(w7.alloc (.cells zP 38)).alloc (.cells zF 93) = W8:=⟨_,rfl⟩
    obtain ⟨W9,hW9⟩ : ∃ W9,(((((((((((W8).setCell ⟨w7.heap.size,0,none⟩ (.int .i64 gd.id)).setCell ⟨w7.heap.size,1,none⟩ (.string gd.f)).setCell ⟨w7.heap.size,2,none⟩ (.string gd.t)).setCell ⟨w7.heap.size,3,none⟩ (.int .i64 gd.gen)).setCell ⟨w7.heap.size,4,none⟩ (.slice G ng cg)).setCell ⟨w7.heap.size,5,none⟩ (.int .i64 gd.next)).setCell ⟨w7.heap.size,6,none⟩ (.slice B np b)).setCell ⟨w7.heap.size,7,none⟩ (.slice C nz c)).setCell ⟨w7.heap.size,8,none⟩ (.bool false)).setCell ⟨w7.heap.size,9,none⟩ (.slice D ne e)).setCell ⟨w7.heap.size,10,none⟩ (.int .i64 al) = W9:=⟨_,rfl⟩
    obtain ⟨W10,hW10⟩ : ∃ W10,(((((W9).setCell ⟨w3.heap.size,0,none⟩ (.int .i64 rcode)).setCell ⟨w3.heap.size,1,none⟩ (.int .i64 rerr)).setCell ⟨w3.heap.size,2,none⟩ (.bool rhas)).setCell ⟨w3.heap.size,3,none⟩ (.string rval)).setCell ⟨w3.heap.size,4,none⟩ (.slice none 0 0) = W10:=⟨_,rfl⟩
    obtain ⟨W11,hW11⟩ : ∃ W11,(((((((((((((W10).setCell ⟨w7.heap.size + 1,0,none⟩ (.bool false)).setCell ⟨w7.heap.size + 1,1,none⟩ (.int .i64 0)).setCell ⟨w7.heap.size + 1,2,none⟩ (.string ⟨#[]⟩)).setCell ⟨w7.heap.size + 1,3,none⟩ (.string ⟨#[]⟩)).setCell ⟨w7.heap.size + 1,4,none⟩ (.int .i64 0)).setCell ⟨w7.heap.size + 1,5,none⟩ (.slice none 0 0)).setCell ⟨w7.heap.size + 1,6,none⟩ (.int .i64 0)).setCell ⟨w7.heap.size + 1,7,none⟩ (.slice none 0 0)).setCell ⟨w7.heap.size + 1,8,none⟩ (.slice none 0 0)).setCell ⟨w7.heap.size + 1,9,none⟩ (.bool false)).setCell ⟨w7.heap.size + 1,10,none⟩ (.slice none 0 0)).setCell ⟨w7.heap.size + 1,11,none⟩ (.int .i64 0)).setCell ⟨w7.heap.size + 1,12,none⟩ (.int .i64 0) = W11:=⟨_,rfl⟩
    have h78 : Below w7.heap.size w7 W8:=by rw [<- hW8]; exact ((Below.refl _ w7).alloc (Nat.le_refl _) _).alloc (by simp) _
    have hz8s : W8.heap.size = w7.heap.size + 2:=by rw [<- hW8]; simp
    have BQ10 : BoxQ w7.heap.size Dp.Ph.zero W8:=by rw [<- hW8]; exact (BoxQ.new w7 Dp.Ph.zero).alloc _
    have BG10 : BoxF (w7.heap.size + 1) Fh.zero W8:=by
     have:=BoxF.new (w7.alloc (.cells zP 38)) Fh.zero
     rw [World.size_alloc] at this
     rw [<- hW8]
     exact this
    have e9 : putP W8 w7.heap.size ⟨gd,.slice G ng cg,ps,.slice B np b,zs,.slice C nz c,false,ea,.slice D ne e,al⟩ = W9:=hW9
    have e10 : putR W9 w3.heap.size (⟨rcode,rerr,rhas,rval,[]⟩ : Rep) (.slice none 0 0) = W10:=hW10
    have e11 : putF W10 (w7.heap.size + 1) Fh.zero = W11:=hW11
    have hbut9 : But [w7.heap.size] W8 W9:=e9 ▸ but_putP (But.refl _ _) (by simp) ⟨gd,.slice G ng cg,ps,.slice B np b,zs,.slice C nz c,false,ea,.slice D ne e,al⟩
    have hbut10 : But [w3.heap.size] W9 W10:=e10 ▸ but_putR (But.refl _ _) (by simp) (⟨rcode,rerr,rhas,rval,[]⟩ : Rep) (.slice none 0 0)
    have hbut11 : But [w7.heap.size + 1] W10 W11:=e11 ▸ but_putF (But.refl _ _) (by simp) Fh.zero
    have hz7 : w.heap.size + 6 <= w3.heap.size:=hz3
    have BR9:=hbut9.boxR (BR7.keep h78) (by first | (simp; done) | (simp; omega))
    have BG10b:=hbut10.boxF (hbut9.boxF BG10 (by first | (simp; done) | (simp; omega))) (by first | (simp; done) | (simp; omega))
    have BQ11 : BoxQ w7.heap.size ⟨gd,.slice G ng cg,ps,.slice B np b,zs,.slice C nz c,false,ea,.slice D ne e,al⟩ W11:=hbut11.boxQ (hbut10.boxQ (e9 ▸ BQ10.put ⟨gd,.slice G ng cg,ps,.slice B np b,zs,.slice C nz c,false,ea,.slice D ne e,al⟩ : BoxQ w7.heap.size ⟨gd,.slice G ng cg,ps,.slice B np b,zs,.slice C nz c,false,ea,.slice D ne e,al⟩ W9) (by first | (simp; done) | (simp; omega))) (by first | (simp; done) | (simp; omega))
    have BR11 : BoxR w3.heap.size (⟨rcode,rerr,rhas,rval,[]⟩ : Rep) (.slice none 0 0) W11:=hbut11.boxR (e10 ▸ BR9.put (⟨rcode,rerr,rhas,rval,[]⟩ : Rep) (.slice none 0 0) : BoxR w3.heap.size (⟨rcode,rerr,rhas,rval,[]⟩ : Rep) (.slice none 0 0) W10) (by first | (simp; done) | (simp; omega))
    have BG11 : BoxF (w7.heap.size + 1) ⟨false,⟨⟨0,⟨#[]⟩,⟨#[]⟩,0,[],0⟩,.slice none 0 0,[],.slice none 0 0,[],.slice none 0 0,false,[],.slice none 0 0,0⟩,0⟩ W11:=e11 ▸ BG10b.put Fh.zero
    have BQT : BoxQ w.heap.size ⟨d,.slice A nm a,ps,.slice B np b,zs,.slice C nz c,false,ea,.slice D ne e,al⟩ W11:=hbut11.boxQ (hbut10.boxQ (hbut9.boxQ (BQ7.keep h78) (by first | (simp; done) | (simp; omega))) (by first | (simp; done) | (simp; omega))) (by first | (simp; done) | (simp; omega))
    have BAT:=hbut11.boxA (hbut10.boxA (hbut9.boxA (BA7.keep h78) (by first | (simp; done) | (simp; omega))) (by first | (simp; done) | (simp; omega))) (by first | (simp; done) | (simp; omega))
    have HBT:=(((HB7.keep h78).butl hbut9 (by first | (simp; done) | (simp; omega))).butl hbut10 (by first | (simp; done) | (simp; omega))).butl hbut11 (by first | (simp; done) | (simp; omega))
    have BFT:=hbut11.boxF (hbut10.boxF (hbut9.boxF (BF7.keep h78) (by first | (simp; done) | (simp; omega))) (by first | (simp; done) | (simp; omega))) (by first | (simp; done) | (simp; omega))
    have hb8:=hb7.trans (h78.mono hb7.size)
    have hb11 : Below w.heap.size w W11:=((hb8.trans (hbut9.below hb8.size (by first | (simp; done) | (simp; omega)))).trans (hbut10.below (Nat.le_trans hb8.size hbut9.size) (by first | (simp; done) | (simp; omega)))).trans (hbut11.below (Nat.le_trans hb8.size (Nat.le_trans hbut9.size hbut10.size)) (by first | (simp; done) | (simp; omega)))
    have hs11 : w7.heap.size + 2 <= W11.heap.size:=by have:=hbut9.size; have:=hbut10.size; have:=hbut11.size; omega
    have hsm11 : ArgM W11 (.slice G ng cg) gd.ms:=by
     refine argM_but (argM_but (argM_but (hsm.keep h78) (fun n hn => ?_) hbut9) (fun n hn => ?_) hbut10) (fun n hn => ?_) hbut11
     ·simp only [List.mem_singleton] at hn; subst hn; exact argM_low hsm (Nat.le_refl _)
     ·simp only [List.mem_singleton] at hn; subst hn; exact hoffM _ (by simp)
     ·simp only [List.mem_singleton] at hn; subst hn; exact argM_low hsm (Nat.le_succ _)
    have HSM11:=Lib.hid hsm11
    have cN:=Ss.rnote_any (.slice C nz c) zs ⟨client,seq,(⟨rcode,rerr,rhas,rval,[]⟩ : Rep)⟩ (.slice none 0 0) W11 (HHA.out.sz.keep hb11) HHA.out.np (Nat.le_trans hl (by decide)) (SP.nil _ _) HFZ
    rw [hN] at cN
    obtain ⟨a_0,⟨a_1,a_2,a_3,a_4,a_5,a_6,a_7,a_8,a_9,a_10,a_11⟩,a_12⟩:=_root_.id BQ10.1
    obtain ⟨b_0,⟨b_1,b_2,b_3,b_4,b_5⟩,b_6⟩:=_root_.id BR9
    obtain ⟨c_0,⟨c_1,c_2,c_3,c_4,c_5,c_6,c_7,c_8,c_9,c_10,c_11,c_12,c_13⟩,c_14⟩:=_root_.id BG10b
    obtain ⟨f_0,⟨f_1,f_2,f_3,f_4,f_5,f_6,f_7,f_8,f_9,f_10,f_11⟩,f_12⟩:=_root_.id BQ11.1
    obtain ⟨g_0,⟨g_1,g_2,g_3,g_4,g_5⟩,g_6⟩:=_root_.id BR11
    simp only [Fh.zero,Dp.Ph.zero,De.zero] at a_1 a_2 a_3 a_4 a_5 a_6 a_7 a_8 a_9 a_10 a_11 b_1 b_2 b_3 b_4 b_5 c_1 c_2 c_3 c_4 c_5 c_6 c_7 c_8 c_9 c_10 c_11 c_12 c_13
    simp only [zP,zF] at hW8
    clear hT hbec hend hN hng hoffM hsm hcode hval hoff8 hoffA ha e9 e10 e11 hbut9 hbut10 hbut11 h78 BQ7 BA7 HB7 BF7 BR7 hb7 hb8 BQ10 BG10 BR9 BG10b hz8 hsm11 HZ6 HFZ HND HD
    obtain ⟨q_0,⟨q_1,q_2,q_3,q_4,q_5,q_6,q_7,q_8,q_9,q_10,q_11⟩,q_12⟩:=_root_.id BAT
    go_wp2_with fail
    try rw [hW8]
    try go_wp2_with fail
    try rw [hW9]
    try go_wp2_with fail
    try rw [hW10]
    try go_wp2_with fail
    try rw [hW11]
    try go_wp2_with fail
    refine (c8 _).mono ?_
    rintro e' w11 ⟨rfl,rfl⟩
    clear hW8 hW9 hW10 hW11 a_0 a_1 a_2 a_3 a_4 a_5 a_6 a_7 a_8 a_9 a_10 a_11 a_12 b_0 b_1 b_2 b_3 b_4 b_5 b_6 c_0 c_1 c_2 c_3 c_4 c_5 c_6 c_7 c_8 c_9 c_10 c_11 c_12 c_13 c_14
    go_wp2_with fail
    refine cN.mono ?_
    rintro e' w12 ⟨v,zs2,rfl,hs2,hzz,hq,b12⟩
    clear q_0 q_1 q_2 q_3 q_4 q_5 q_6 q_7 q_8 q_9 q_10 q_11 q_12
    clear f_0 f_1 f_2 f_3 f_4 f_5 f_6 f_7 f_8 f_9 f_10 f_11 f_12 g_0 g_1 g_2 g_3 g_4 g_5 g_6
    have BQ12:=BQ11.keep b12
    have BR12:=BR11.keep b12
    have BG12:=BG11.keep b12
    have BQU:=BQT.keep b12
    have HBU:=HBT.keep b12
    have BFU:=BFT.keep b12
    have hb12:=hb11.trans (b12.mono hb11.size)
    have hsm12:=HSM11.out.keep b12
    clear cN c8 b12 BQ11 BR11 BG11 BQT HBT BFT hb11 HSM11 BAT
    have BP:=BQU.1
    have hB4:=zP_box HBU.z4
    have hB5:=zR_box HBU.z5
    have hB6:=zF_box HBU.z6
    obtain ⟨V,cv2,rfl⟩:=hzz.form
    obtain ⟨nv,hnv⟩ : ∃ n,zs2.length = n:=⟨_,rfl⟩
    rw [hnv] at hzz
    simp only [hnv]
    clear hnv
    by_cases hE : E2 = 0
    rotate_left
    ·have HX : endP (Ph.pl ⟨d,.slice A nm a,ps,.slice B np b,zs,.slice C nz c,false,ea,.slice D ne e,al⟩) ⟨k,client,seq,key,til,val,old,has,lim,id,node⟩ (becameP (Ph.pl ⟨d,.slice A nm a,ps,.slice B np b,zs,.slice C nz c,false,ea,.slice D ne e,al⟩) CH) = (Ph.pl ⟨d,.slice A nm a,ps,.slice B np b,zs,.slice C nz c,false,ea,.slice D ne e,al⟩,badR E2,Eff.zero):=by rw [HEND.out,if_neg hE]
     have HX2:=Lib.hid HX
     have m1 : (E2 == 0) = false:=by simpa using hE
     have m2 : (E2 != 0) = true:=by simpa using hE
     have m3 : (E2 = 0) = False:=eq_false hE
     clear HX HEND HBU hE hzz hs2 hsm12 BQ12 BR12 BG12 BQU
     go_wp2_with fail
     refine St.wp_region_mixed (R3 w12 (w.heap.size + 2) (w.heap.size + 3) (w.heap.size + 4) 4 5 6 ⟨d,.slice A nm a,ps,.slice B np b,zs,.slice C nz c,false,ea,.slice D ne e,al⟩ (badR E2) (.slice none 0 0) ⟨false,⟨⟨0,⟨#[]⟩,⟨#[]⟩,0,[],0⟩,.slice none 0 0,[],.slice none 0 0,[],.slice none 0 0,false,[],.slice none 0 0,0⟩,0⟩) (fun _ x => x = rv (badR E2) (.slice none 0 0)) (by kernel_rfl) (by kernel_rfl) (by kernel_rfl) (R3.start w12 hB4 hB5 hB6) ?_
     apply St.mix_give
     ·rfl
     ·intro L u' wx hS hcl hrd hag
      obtain ⟨_,⟨d0,d1,d2,d3,d4,d5,d6,d7,d8,d9,d10⟩,_⟩:=hS.but.boxP BP (by first | (simp; done) | (simp; omega))
      go_simp
      try with_reducible rfl
     ·exact fun L u' wx hS => hS.give (by decide) (by decide) (by decide) _
     simp only [Act.put,St.pu]
     apply St.mix_give
     ·rfl
     ·intro L u' wx hS hcl hrd hag
      skip
      go_simp
      try with_reducible rfl
     ·exact fun L u' wx hS => hS.give (by decide) (by decide) (by decide) _
     simp only [Act.put,St.pu]
     refine St.mix_into (v:=rv (badR E2) (.slice none 0 0)) (f:=110) (args:=#[.int .i64 E2]) rfl rfl ?_ ?_ ?_
     ·intro wx
      go_simp
      try with_reducible rfl
     ·intro L u' wx hS hcl hrd hag
      refine (c9 E2 wx).mono ?_
      rintro e' w' ⟨rfl,b⟩
      exact ⟨rfl,hS.call (by decide) (by decide) (by decide) b _⟩
     simp only [Act.put,St.pu]
     apply St.mix_give
     ·rfl
     ·intro L u' wx hS hcl hrd hag
      obtain ⟨_,⟨d0,d1,d2,d3,d4,d5,d6,d7,d8,d9,d10,d11,d12⟩,_⟩:=hS.but.boxF BFU (by first | (simp; done) | (simp; omega))
      go_simp
      try with_reducible rfl
     ·exact fun L u' wx hS => hS.give (by decide) (by decide) (by decide) _
     simp only [Act.put,St.pu]
     refine St.mix_skip rfl ?_ ?_
     ·intro L u' wx hS hcl hrd hag
      have hbx:=hS.b4
      rw [hrd.1] at hbx
      obtain ⟨z0,⟨z1,z2,z3,z4,z5,z6,z7,z8,z9,z10,z11⟩,zf⟩:=hbx
      refine ⟨putP wx (w.heap.size + 2) ⟨d,.slice A nm a,ps,.slice B np b,zs,.slice C nz c,false,ea,.slice D ne e,al⟩,?_,hS.put4 (by decide) (by decide) (by omega) (by omega) _⟩
      go_simp
      first | with_reducible rfl | rfl | skip
     simp only [Act.put]
     refine St.mix_skip rfl ?_ ?_
     ·intro L u' wx hS hcl hrd hag
      have hbx:=hS.b5
      rw [hrd.1] at hbx
      obtain ⟨z0,⟨z1,z2,z3,z4,z5⟩,zf⟩:=hbx
      refine ⟨putR wx (w.heap.size + 3) (badR E2) (.slice none 0 0),?_,hS.put5 (by decide) (by decide) (by omega) (by omega) _⟩
      go_simp
      first | with_reducible rfl | rfl | skip
     simp only [Act.put]
     refine St.mix_skip rfl ?_ ?_
     ·intro L u' wx hS hcl hrd hag
      have hbx:=hS.b6
      rw [hrd.1] at hbx
      obtain ⟨z0,⟨z1,z2,z3,z4,z5,z6,z7,z8,z9,z10,z11,z12,z13⟩,zf⟩:=hbx
      refine ⟨putF wx (w.heap.size + 4) ⟨false,⟨⟨0,⟨#[]⟩,⟨#[]⟩,0,[],0⟩,.slice none 0 0,[],.slice none 0 0,[],.slice none 0 0,false,[],.slice none 0 0,0⟩,0⟩,?_,hS.put6 (by decide) (by decide) (by omega) (by omega) _⟩
      go_simp
      first | with_reducible rfl | rfl | skip
     simp only [Act.put]
     refine St.mix_last ?_
     intro L wx hS hall
     obtain ⟨hbut,hX4,hX5,hX6⟩:=hS.fin (hall 4 (by decide)) (hall 5 (by decide)) (hall 6 (by decide))
     have hbw:=hbut.below (N:=w.heap.size) hb12.size (by simp)
     go_wp2_with fail
     refine bodyPost_ret (res_three Tryz.results53 rfl rfl rfl hX4 hX5 hX6) rfl (by rw [HX2.out]; exact ⟨⟨⟨d,.slice A nm a,ps,.slice B np b,zs,.slice C nz c,false,ea,.slice D ne e,al⟩,badR E2,.slice none 0 0,⟨false,⟨⟨0,⟨#[]⟩,⟨#[]⟩,0,[],0⟩,.slice none 0 0,[],.slice none 0 0,[],.slice none 0 0,false,[],.slice none 0 0,0⟩,0⟩⟩,rfl,rfl,HHA.out.keep (hb12.trans hbw),HA.zero _,⟨none,0,rfl⟩,hb12.trans hbw⟩)
    subst hE
    have HX : endP (Ph.pl ⟨d,.slice A nm a,ps,.slice B np b,zs,.slice C nz c,false,ea,.slice D ne e,al⟩) ⟨k,client,seq,key,til,val,old,has,lim,id,node⟩ (becameP (Ph.pl ⟨d,.slice A nm a,ps,.slice B np b,zs,.slice C nz c,false,ea,.slice D ne e,al⟩) CH) = ({ Ph.pl ⟨d,.slice A nm a,ps,.slice B np b,zs,.slice C nz c,false,ea,.slice D ne e,al⟩ with d:=gd,ss:=l2 },(⟨rcode,rerr,rhas,rval,[]⟩ : Rep),Eff.zero):=by rw [HEND.out]; rfl
    have HX2:=Lib.hid HX
    obtain ⟨W13,hW13⟩ : ∃ W13,w12.setCell ⟨w7.heap.size,7,none⟩ (.slice V nv cv2) = W13:=⟨_,rfl⟩
    have hbut13 : But [w7.heap.size] w12 W13:=hW13 ▸ (But.refl _ _).set (by simp) _
    have BP13 : BoxP w7.heap.size ⟨gd,.slice G ng cg,ps,.slice B np b,zs2,.slice V nv cv2,false,ea,.slice D ne e,al⟩ W13:=hW13 ▸ boxP_s7 BQ12.1 (.slice V nv cv2) zs2
    have BR13:=hbut13.boxR BR12 (by first | (simp; done) | (simp; omega))
    have BG13:=hbut13.boxF BG12 (by first | (simp; done) | (simp; omega))
    have hb13 : Below w.heap.size w W13:=hb12.trans (hbut13.below hb12.size (by first | (simp; done) | (simp; omega)))
    have hsm13 : ArgM W13 (.slice G ng cg) gd.ms:=argM_but hsm12 (fun n hn => by simp only [List.mem_singleton] at hn; subst hn; exact argM_low HSM.out (Nat.le_refl _)) hbut13
    have hzz13 : ArgZ W13 (.slice V nv cv2) zs2:=argZ_but hzz (fun n hn => by simp only [List.mem_singleton] at hn; subst hn; exact BQ12.offZ ⟨_,_,_,rfl⟩ ⟨_,_,_,rfl⟩ ⟨_,_,_,rfl⟩ hzz) hbut13
    have HOFZ:=Lib.hid (HBU.offZ hzz)
    have HM13:=Lib.hid hsm13
    have HZ13:=Lib.hid hzz13
    have hB4':=hbut13.boxP hB4 (by first | (simp; done) | (simp; omega))
    have hB5':=hbut13.boxR hB5 (by first | (simp; done) | (simp; omega))
    have hB6':=hbut13.boxF hB6 (by first | (simp; done) | (simp; omega))
    have HS2:=Lib.hid hs2
    obtain ⟨a_0,⟨a_1,a_2,a_3,a_4,a_5,a_6,a_7,a_8,a_9,a_10,a_11⟩,a_12⟩:=_root_.id BQ12.1
    obtain ⟨c_0,⟨c_1,c_2,c_3,c_4,c_5,c_6,c_7,c_8,c_9,c_10,c_11,c_12,c_13⟩,c_14⟩:=_root_.id BG13
    clear HX HEND HBU hzz hs2 hsm12 BR12 BG12 BQU hsm13 hzz13 hb12 hbut13 BP hB4 hB5 hB6 BFU HSM
    go_wp2_with fail
    try rw [hW13]
    try go_wp2_with fail
    clear hW13 a_0 a_1 a_2 a_3 a_4 a_5 a_6 a_7 a_8 a_9 a_10 a_11 a_12 c_0 c_1 c_2 c_3 c_4 c_5 c_6 c_7 c_8 c_9 c_10 c_11 c_12 c_13 c_14 BQ12
    have hB4:=hB4'
    have hB5:=hB5'
    have hB6:=hB6'
    clear hB4' hB5' hB6'
    refine St.wp_region_mixed (R3 W13 (w.heap.size + 2) (w.heap.size + 3) (w.heap.size + 4) 3 4 5 ⟨gd,.slice G ng cg,ps,.slice B np b,zs2,.slice V nv cv2,false,ea,.slice D ne e,al⟩ (⟨rcode,rerr,rhas,rval,[]⟩ : Rep) (.slice none 0 0) ⟨false,⟨⟨0,⟨#[]⟩,⟨#[]⟩,0,[],0⟩,.slice none 0 0,[],.slice none 0 0,[],.slice none 0 0,false,[],.slice none 0 0,0⟩,0⟩) (fun _ _ => False) (by kernel_rfl) (by kernel_rfl) (by kernel_rfl) (R3.start W13 hB4 hB5 hB6) ?_
    apply St.mix_give
    ·rfl
    ·intro L u' wx hS hcl hrd hag
     obtain ⟨_,⟨d0,d1,d2,d3,d4,d5,d6,d7,d8,d9,d10⟩,_⟩:=hS.but.boxP BP13 (by first | (simp; done) | (simp; omega))
     go_simp
     try with_reducible rfl
    ·exact fun L u' wx hS => hS.give (by decide) (by decide) (by decide) _
    simp only [Act.put,St.pu]
    apply St.mix_give
    ·rfl
    ·intro L u' wx hS hcl hrd hag
     obtain ⟨_,⟨d0,d1,d2,d3,d4⟩,_⟩:=hS.but.boxR BR13 (by first | (simp; done) | (simp; omega))
     go_simp
     try with_reducible rfl
    ·exact fun L u' wx hS => hS.give (by decide) (by decide) (by decide) _
    simp only [Act.put,St.pu]
    apply St.mix_give
    ·rfl
    ·intro L u' wx hS hcl hrd hag
     obtain ⟨_,⟨d0,d1,d2,d3,d4,d5,d6,d7,d8,d9,d10,d11,d12⟩,_⟩:=hS.but.boxF BG13 (by first | (simp; done) | (simp; omega))
     go_simp
     try with_reducible rfl
    ·exact fun L u' wx hS => hS.give (by decide) (by decide) (by decide) _
    simp only [Act.put,St.pu]
    refine St.mix_skip rfl ?_ ?_
    ·intro L u' wx hS hcl hrd hag
     have hbx:=hS.b4
     rw [hrd.1] at hbx
     obtain ⟨z0,⟨z1,z2,z3,z4,z5,z6,z7,z8,z9,z10,z11⟩,zf⟩:=hbx
     refine ⟨putP wx (w.heap.size + 2) ⟨gd,.slice G ng cg,ps,.slice B np b,zs2,.slice V nv cv2,false,ea,.slice D ne e,al⟩,?_,hS.put4 (by decide) (by decide) (by omega) (by omega) _⟩
     go_simp
     first | with_reducible rfl | rfl | skip
    simp only [Act.put]
    refine St.mix_skip rfl ?_ ?_
    ·intro L u' wx hS hcl hrd hag
     have hbx:=hS.b5
     rw [hrd.1] at hbx
     obtain ⟨z0,⟨z1,z2,z3,z4,z5⟩,zf⟩:=hbx
     refine ⟨putR wx (w.heap.size + 3) (⟨rcode,rerr,rhas,rval,[]⟩ : Rep) (.slice none 0 0),?_,hS.put5 (by decide) (by decide) (by omega) (by omega) _⟩
     go_simp
     first | with_reducible rfl | rfl | skip
    simp only [Act.put]
    refine St.mix_skip rfl ?_ ?_
    ·intro L u' wx hS hcl hrd hag
     have hbx:=hS.b6
     rw [hrd.1] at hbx
     obtain ⟨z0,⟨z1,z2,z3,z4,z5,z6,z7,z8,z9,z10,z11,z12,z13⟩,zf⟩:=hbx
     refine ⟨putF wx (w.heap.size + 4) ⟨false,⟨⟨0,⟨#[]⟩,⟨#[]⟩,0,[],0⟩,.slice none 0 0,[],.slice none 0 0,[],.slice none 0 0,false,[],.slice none 0 0,0⟩,0⟩,?_,hS.put6 (by decide) (by decide) (by omega) (by omega) _⟩
     go_simp
     first | with_reducible rfl | rfl | skip
    simp only [Act.put]
    refine St.mix_last ?_
    intro L wx hS hall
    obtain ⟨hbut,hX4,hX5,hX6⟩:=hS.fin (hall 3 (by decide)) (hall 4 (by decide)) (hall 5 (by decide))
    have hbw:=hbut.below (N:=w.heap.size) hb13.size (by simp)
    have hof3 : ∀ n ∈ [w.heap.size + 2,w.heap.size + 3,w.heap.size + 4],OffV n (.slice G ng cg):=fun n hn => HOFF.out n (by simp only [List.mem_cons,List.not_mem_nil,or_false] at hn ⊢; omega)
    have hfin : HA wx ⟨gd,.slice G ng cg,ps,.slice B np b,zs2,.slice V nv cv2,false,ea,.slice D ne e,al⟩:=⟨argM_but HM13.out hof3 hbut,(HHA.out.keep (hb13.trans hbw)).sp,argZ_but HZ13.out HOFZ.out hbut,hq,(HHA.out.keep (hb13.trans hbw)).se,HHA.out.rp,HHA.out.re⟩
    go_wp2_with fail
    refine bodyPost_ret (res_three Tryz.results53 rfl rfl rfl hX4 hX5 hX6) rfl (by rw [HX2.out]; exact ⟨⟨⟨gd,.slice G ng cg,ps,.slice B np b,zs2,.slice V nv cv2,false,ea,.slice D ne e,al⟩,(⟨rcode,rerr,rhas,rval,[]⟩ : Rep),.slice none 0 0,⟨false,⟨⟨0,⟨#[]⟩,⟨#[]⟩,0,[],0⟩,.slice none 0 0,[],.slice none 0 0,[],.slice none 0 0,false,[],.slice none 0 0,0⟩,0⟩⟩,rfl,by rw [<- HS2.out]; rfl,hfin,HA.zero _,⟨none,0,rfl⟩,hb13.trans hbw⟩)
end Go.Proofs.YthcmnkmfhgoddaaGreatDoor.Pt

namespace Go.Proofs.YthcmnkmfhgoddaaGreatDoor.Mb
open Go.RowKit Bnd
open Go.Proofs.YthcmnkmfhgoddaaGreatDoor.Ds (De SM ArgM isD sameD BoxD dv)
open Go.Proofs.YthcmnkmfhgoddaaGreatDoor.Od (Rep BoxR BoxA rv av)
open Go.Proofs.YthcmnkmfhgoddaaGreatDoor.Dp (Ph Pl BoxP qv HA HP isP)
open Go.Proofs.YthcmnkmfhgoddaaGreatDoor.Pt (Oc Fh fv ApplyOut applyC mayP BoxF)
theorem sameD_comm (a b : De) : sameD a b = sameD b a:=by
 rw [Bool.eq_iff_iff,Ds.sameD_iff,Ds.sameD_iff]
 exact eq_comm
theorem rsame_flip (a b : De) (sa sb : Value) (w : World) (ha : SM w w.heap.size sa a.ms) (hb : SM w w.heap.size sb b.ms) (hx : a.ms.length <= 1000000000) (hy : b.ms.length <= 1000000000) :
  Calls Tryz.prog 12 #[dv a sa,dv b sb] w fun e w' => e = .returned (.bool (sameD b a)) /\ Below w.heap.size w w':=by
 rw [sameD_comm]
 exact Ds.rsame_any a b sa sb w ha hb hx hy
theorem may_bad {p : Pl} {x : Od.Ask} (h : Od.isA x = false) : mayP p x = false:=by
 have ha : Pt.atOnceP p x = some (Pt.badR 70):=by
  unfold Pt.atOnceP
  rw [if_neg (show ¬ Od.chkA x = 0 by unfold Od.chkA; rw [h]; decide)]
 have hc : (applyC p x).2.1.code = 4:=by
  unfold Pt.applyC
  rw [ha]
 unfold Pt.mayP
 rw [hc]
 cases isCh x <;> rfl
set_option maxHeartbeats 32000000 in
set_option maxRecDepth 100000 in
theorem rmay_any (o : Ph) (x : Od.Ask) (w : World) (h : HA w o) (hP : isP o.pl = true)
  (hk : x.key.size <= 140737488355328) (ht : x.til.size <= 140737488355328) (hv : x.val.size <= 140737488355328) (hf : Dp.FitP o) :
  Calls Tryz.prog 18 #[qv o,av x] w fun e w' => e = .returned (.bool (mayP o.pl x)) /\ Below w.heap.size w w':=by
 have hp:=h.hp
 have hd : isD o.d = true:=Dp.isP_d hP
 obtain ⟨W0,hW0⟩ : ∃ W0,(w.alloc (.cells #[.int .i64 o.d.id,.string o.d.f,.string o.d.t,.int .i64 o.d.gen,o.sm,.int .i64 o.d.next,o.sp,o.sz,.bool o.fr,o.se,.int .i64 o.al] 38)).alloc (.cells #[.int .i64 x.kind,.int .i64 x.client,.int .i64 x.seq,.string x.key,.string x.til,.string x.val,.string x.old,.bool x.has,.int .i64 x.lim,.int .i64 x.id,.int .i64 x.node] 40) = W0:=⟨_,rfl⟩
 have BP : BoxP w.heap.size o W0:=hW0 ▸ (BoxP.new w o).alloc _
 have BA : BoxA (w.heap.size + 1) x W0:=by
  have:=BoxA.new (w.alloc (.cells #[.int .i64 o.d.id,.string o.d.f,.string o.d.t,.int .i64 o.d.gen,o.sm,.int .i64 o.d.next,o.sp,o.sz,.bool o.fr,o.se,.int .i64 o.al] 38)) x
  rw [World.size_alloc] at this
  rw [<- hW0]
  exact this
 have hb0 : Below w.heap.size w W0:=hW0 ▸ (by exact bex0)
 cases hc : isCh x with
 | false =>
  obtain ⟨h10,h11⟩:=isCh_no hc
  have n1 : (x.kind != 10) = true:=by simpa using h10
  have n2 : (x.kind != 11) = true:=by simpa using h11
  have n3 : (x.kind == 10) = false:=by simpa using h10
  have n4 : (x.kind == 11) = false:=by simpa using h11
  rw [show mayP o.pl x = false by unfold Pt.mayP; rw [hc]; rfl]
  obtain ⟨d,ps,zs,fr,ea,al,A,B,C,D,a,b,c,e,rfl⟩:=hp.open
  obtain ⟨k,client,seq,key,til,val,old,has,lim,id,node⟩:=x
  simp only at n1 n2 n3 n4
  clear h hP hk ht hv hf hp hd hc h10 h11
  obtain ⟨q_0,⟨q_1,q_2,q_3,q_4,q_5,q_6,q_7,q_8,q_9,q_10,q_11⟩,q_12⟩:=_root_.id BA
  go_enter Tryz.func18,Tryz.ntmps18
  go_wp2_with fail
  go_ret
  exact ⟨rfl,hb0⟩
 | true =>
  have cO:=fun w' => Od.ris_any x w' hk ht hv
  obtain ⟨IA,hIA⟩ : ∃ i,Od.isA x = i:=⟨_,rfl⟩
  rw [hIA] at cO
  cases IA with
  | false =>
   rw [show mayP o.pl x = false from may_bad hIA]
   have hcc:=isCh_yes hc
   obtain ⟨d,ps,zs,fr,ea,al,A,B,C,D,a,b,c,e,rfl⟩:=hp.open
   obtain ⟨k,client,seq,key,til,val,old,has,lim,id,node⟩:=x
   simp only at hcc
   clear h hP hk ht hv hf hp hd hc hIA
   rcases hcc with rfl | rfl
   all_goals
    obtain ⟨q_0,⟨q_1,q_2,q_3,q_4,q_5,q_6,q_7,q_8,q_9,q_10,q_11⟩,q_12⟩:=_root_.id BA
    go_enter Tryz.func18,Tryz.ntmps18
    go_wp2_with fail
    try rw [hW0]
    refine (cO _).mono ?_
    rintro e' w1 ⟨rfl,b⟩
    have hb1:=hb0.trans (b.mono hb0.size)
    clear q_0 q_1 q_2 q_3 q_4 q_5 q_6 q_7 q_8 q_9 q_10 q_11 q_12
    clear b cO hW0 BA BP hb0
    go_wp2_with fail
    go_ret
    exact ⟨rfl,hb1⟩
  | true =>
  have cA:=fun w' (hb : Below w.heap.size w w') => Pt.rapply_any o x w' (h.keep hb) hP hf hc hIA hk ht hv
  have cS:=fun (oc : Oc) w' (h1 : SM w' w'.heap.size oc.p.sm oc.p.d.ms) (h2 : SM w' w'.heap.size o.sm o.d.ms) (hl : oc.p.d.ms.length <= 1000000000) => rsame_flip o.d oc.p.d o.sm oc.p.sm w' h2 h1 (by have:=(Dp.isD_sizes hd).2.2; omega) hl
  have hme:=fun oc => may_end (o:=o) (x:=x) (oc:=oc) hc
  have HME:=Lib.hid hme
  have HHA:=Lib.hid h
  have hisf : ∀ oc : Oc,oc.out = applyC o.pl x -> isD oc.p.d = true:=fun oc e => by
   have:=applyC_is (p:=o.pl) (x:=x) hd
   rw [<- e] at this
   exact this
  have HIS:=Lib.hid hisf
  have hcc:=isCh_yes hc
  obtain ⟨d,ps,zs,fr,ea,al,A,B,C,D,a,b,c,e,rfl⟩:=hp.open
  obtain ⟨k,client,seq,key,til,val,old,has,lim,id,node⟩:=x
  simp only at hcc cS
  obtain ⟨nm,hnm⟩ : ∃ n,d.ms.length = n:=⟨_,rfl⟩
  obtain ⟨np,hnp⟩ : ∃ n,ps.length = n:=⟨_,rfl⟩
  obtain ⟨nz,hnz⟩ : ∃ n,zs.length = n:=⟨_,rfl⟩
  obtain ⟨ne,hne⟩ : ∃ n,ea.length = n:=⟨_,rfl⟩
  rw [hnm,hnp,hnz,hne] at cA BP HHA HME HIS hW0 ⊢
  rw [hnm] at cS
  obtain ⟨MY,hMY⟩ : ∃ m,mayP (Ph.pl ⟨d,.slice A nm a,ps,.slice B np b,zs,.slice C nz c,fr,ea,.slice D ne e,al⟩) ⟨k,client,seq,key,til,val,old,has,lim,id,node⟩ = m:=⟨_,rfl⟩
  rw [hMY] at HME ⊢
  clear h hP hk ht hv hf hp hd hc hme hisf hnm hnp hnz hne hMY hIA
  rcases hcc with rfl | rfl
  all_goals
   obtain ⟨p_0,⟨p_1,p_2,p_3,p_4,p_5,p_6,p_7,p_8,p_9,p_10,p_11⟩,p_12⟩:=_root_.id BP
   obtain ⟨q_0,⟨q_1,q_2,q_3,q_4,q_5,q_6,q_7,q_8,q_9,q_10,q_11⟩,q_12⟩:=_root_.id BA
   go_enter Tryz.func18,Tryz.ntmps18
   go_wp2_with fail
   try rw [hW0]
   refine (cO _).mono ?_
   rintro e' w0 ⟨rfl,b0⟩
   clear p_0 p_1 p_2 p_3 p_4 p_5 p_6 p_7 p_8 p_9 p_10 p_11 p_12
   clear q_0 q_1 q_2 q_3 q_4 q_5 q_6 q_7 q_8 q_9 q_10 q_11 q_12
   replace BP:=BP.keep b0
   replace BA:=BA.keep b0
   replace hb0:=hb0.trans (b0.mono hb0.size)
   clear b0 cO hW0
   obtain ⟨p_0,⟨p_1,p_2,p_3,p_4,p_5,p_6,p_7,p_8,p_9,p_10,p_11⟩,p_12⟩:=_root_.id BP
   obtain ⟨q_0,⟨q_1,q_2,q_3,q_4,q_5,q_6,q_7,q_8,q_9,q_10,q_11⟩,q_12⟩:=_root_.id BA
   go_wp2_with fail
   refine (cA _ hb0).mono ?_
   rintro e' w1 ⟨oc,rfl,ho,ha,hri,hrs,b1⟩
   have hmy:=HME.out oc ho
   have hisd:=HIS.out oc ho
   obtain ⟨d1,ps1,zs1,fr1,ea1,al1,A1,B1,C1,D1,a1,b1',c1,e1,hoc⟩:=ha.hp.open
   obtain ⟨d2,ps2,zs2,fr2,ea2,al2,A2,B2,C2,D2,a2,b2',c2,e2,hri'⟩:=hri.hp.open
   obtain ⟨A3,c3,hrs'⟩:=hrs
   obtain ⟨ocp,⟨rcode,rerr,rhas,rval,rps⟩,ocrs,⟨sl,ocri,eaten⟩⟩:=oc
   simp only at hoc hri' hrs' hmy ha hisd
   subst hoc hri' hrs'
   have cS1:=cS ⟨⟨d1,.slice A1 d1.ms.length a1,ps1,.slice B1 ps1.length b1',zs1,.slice C1 zs1.length c1,fr1,ea1,.slice D1 ea1.length e1,al1⟩,⟨rcode,rerr,rhas,rval,rps⟩,.slice A3 rps.length c3,⟨sl,⟨d2,.slice A2 d2.ms.length a2,ps2,.slice B2 ps2.length b2',zs2,.slice C2 zs2.length c2,fr2,ea2,.slice D2 ea2.length e2,al2⟩,eaten⟩⟩
   have hl1 : d1.ms.length <= 1000000000:=by have : d1.ms.length <= 5:=(Dp.isD_sizes hisd).2.2; omega
   obtain ⟨n1,hn1⟩ : ∃ n,d1.ms.length = n:=⟨_,rfl⟩
   obtain ⟨m1,hm1⟩ : ∃ n,ps1.length = n:=⟨_,rfl⟩
   obtain ⟨l1,hl1'⟩ : ∃ n,zs1.length = n:=⟨_,rfl⟩
   obtain ⟨k1,hk1⟩ : ∃ n,ea1.length = n:=⟨_,rfl⟩
   obtain ⟨n2,hn2⟩ : ∃ n,d2.ms.length = n:=⟨_,rfl⟩
   obtain ⟨m2,hm2⟩ : ∃ n,ps2.length = n:=⟨_,rfl⟩
   obtain ⟨l2,hl2'⟩ : ∃ n,zs2.length = n:=⟨_,rfl⟩
   obtain ⟨k2,hk2⟩ : ∃ n,ea2.length = n:=⟨_,rfl⟩
   obtain ⟨n3,hn3⟩ : ∃ n,rps.length = n:=⟨_,rfl⟩
   have hsm1:=ha.hp.sm
   have hsm0:=HHA.out.hp.sm
   simp only at cS1 hsm1 hsm0
   rw [hn1,hm1,hl1',hk1,hn2,hm2,hl2',hk2,hn3]
   rw [hn1] at cS1 hsm1 hl1
   clear hn1 hm1 hl1' hk1 hn2 hm2 hl2' hk2 hn3 ho ha hri hisd HHA HME HIS cA cS
   have hb1:=hb0.trans (b1.mono hb0.size)
   obtain ⟨W2,hW2⟩ : ∃ W2,((w1.alloc (.cells #[.int .i64 d1.id,.string d1.f,.string d1.t,.int .i64 d1.gen,.slice A1 n1 a1,.int .i64 d1.next,.slice B1 m1 b1',.slice C1 l1 c1,.bool fr1,.slice D1 k1 e1,.int .i64 al1] 38)).alloc (.cells #[.int .i64 rcode,.int .i64 rerr,.bool rhas,.string rval,.slice A3 n3 c3] 87)).alloc (.cells #[.bool sl,.int .i64 d2.id,.string d2.f,.string d2.t,.int .i64 d2.gen,.slice A2 n2 a2,.int .i64 d2.next,.slice B2 m2 b2',.slice C2 l2 c2,.bool fr2,.slice D2 k2 e2,.int .i64 al2,.int .i64 eaten] 93) = W2:=⟨_,rfl⟩
   have h12 : Below w1.heap.size w1 W2:=hW2 ▸ (by exact bex0)
   have BP2:=(BP.keep b1).keep h12
   have BN : BoxP w1.heap.size ⟨d1,.slice A1 n1 a1,ps1,.slice B1 m1 b1',zs1,.slice C1 l1 c1,fr1,ea1,.slice D1 k1 e1,al1⟩ W2:=hW2 ▸ ((BoxP.new w1 ⟨d1,.slice A1 n1 a1,ps1,.slice B1 m1 b1',zs1,.slice C1 l1 c1,fr1,ea1,.slice D1 k1 e1,al1⟩).alloc _).alloc _
   have BR : BoxR (w1.heap.size + 1) ⟨rcode,rerr,rhas,rval,rps⟩ (.slice A3 n3 c3) W2:=by
    have:=(BoxR.new (w1.alloc (.cells #[.int .i64 d1.id,.string d1.f,.string d1.t,.int .i64 d1.gen,.slice A1 n1 a1,.int .i64 d1.next,.slice B1 m1 b1',.slice C1 l1 c1,.bool fr1,.slice D1 k1 e1,.int .i64 al1] 38)) ⟨rcode,rerr,rhas,rval,rps⟩ (.slice A3 n3 c3)).alloc (.cells #[.bool sl,.int .i64 d2.id,.string d2.f,.string d2.t,.int .i64 d2.gen,.slice A2 n2 a2,.int .i64 d2.next,.slice B2 m2 b2',.slice C2 l2 c2,.bool fr2,.slice D2 k2 e2,.int .i64 al2,.int .i64 eaten] 93)
    rw [World.size_alloc] at this
    rw [<- hW2]
    exact this
   have hb2:=hb1.trans (h12.mono hb1.size)
   have cS2:=cS1 W2 ((hsm1.below h12).more h12.size) ((hsm0.below hb2).more hb2.size) hl1
   clear p_0 p_1 p_2 p_3 p_4 p_5 p_6 p_7 p_8 p_9 p_10 p_11 p_12
   clear q_0 q_1 q_2 q_3 q_4 q_5 q_6 q_7 q_8 q_9 q_10 q_11 q_12
   clear cS1 hsm1 hsm0 hl1 BA BP b1 hb0 hb1
   obtain ⟨p_0,⟨p_1,p_2,p_3,p_4,p_5,p_6,p_7,p_8,p_9,p_10,p_11⟩,p_12⟩:=_root_.id BP2
   obtain ⟨q_0,⟨q_1,q_2,q_3,q_4,q_5,q_6,q_7,q_8,q_9,q_10,q_11⟩,q_12⟩:=_root_.id BN
   obtain ⟨r_0,⟨r_1,r_2,r_3,r_4,r_5⟩,r_6⟩:=_root_.id BR
   by_cases hcode : rcode = 0
   ·subst hcode
    unfold endM at hmy
    simp only [decide_true,Bool.true_and] at hmy
    go_wp2_with fail
    try rw [hW2]
    clear hW2 h12
    go_wp2_with fail
    refine cS2.mono ?_
    rintro e' w3 ⟨rfl,b3⟩
    have hb3:=hb2.trans (b3.mono hb2.size)
    obtain ⟨SD,hSD⟩ : ∃ s,sameD d1 d = s:=⟨_,rfl⟩
    rw [hSD] at hmy ⊢
    subst hmy
    clear cS2 b3 hSD
    clear p_0 p_1 p_2 p_3 p_4 p_5 p_6 p_7 p_8 p_9 p_10 p_11 p_12
    clear q_0 q_1 q_2 q_3 q_4 q_5 q_6 q_7 q_8 q_9 q_10 q_11 q_12
    clear r_0 r_1 r_2 r_3 r_4 r_5 r_6
    clear BP2 BN BR hb2
    go_wp2_with fail
    go_ret
    exact ⟨rfl,hb3⟩
   ·have n9 : (rcode == 0) = false:=by simpa using hcode
    have n8 : (rcode = 0) = False:=eq_false hcode
    unfold endM at hmy
    rw [show decide (rcode = 0) = false from decide_eq_false hcode] at hmy
    simp only [Bool.false_and] at hmy
    subst hmy
    clear hcode cS2
    go_wp2_with fail
    try rw [hW2]
    clear hW2 h12
    go_wp2_with fail
    go_ret
    exact ⟨rfl,hb2⟩
end Go.Proofs.YthcmnkmfhgoddaaGreatDoor.Mb

namespace Go.Proofs.YthcmnkmfhgoddaaGreatDoor.Mb
open Go.RowKit Bnd
open Go.Proofs.YthcmnkmfhgoddaaGreatDoor.Ds (De SM ArgM isD dv sameD)
open Go.Proofs.YthcmnkmfhgoddaaGreatDoor.Od (BoxA av LimA isA)
open Go.Proofs.YthcmnkmfhgoddaaGreatDoor.Dp (Ph HA HB HP FitP qv BoxP isP)
open Go.Proofs.YthcmnkmfhgoddaaGreatDoor.Pt (mayP)
set_option maxHeartbeats 32000000 in
set_option maxRecDepth 100000 in
theorem mayl_walk (o : Ph) (x : Od.Ask) (w : World) (h : HB w o) (hf : FitP o) (hx : LimA x) (hg : Good w) :
  Calls Tryz.prog 4 #[qv o,av x] w fun e w' => e = .returned (.bool true) /\ Below w.heap.size w w':=by
 have HX:=Lib.hid hx
 have HG:=Lib.hid hg
 have HH:=Lib.hid h
 have HF:=Lib.hid hf
 have hp:=h.hp
 obtain ⟨d,ps,zs,fr,ea,al,A,B,C,D,ka,kb,kc,kg,rfl⟩:=hp.open
 obtain ⟨nm,hnm⟩ : ∃ n,d.ms.length = n:=⟨_,rfl⟩
 obtain ⟨np,hnp⟩ : ∃ n,ps.length = n:=⟨_,rfl⟩
 obtain ⟨nz,hnz⟩ : ∃ n,zs.length = n:=⟨_,rfl⟩
 obtain ⟨ne,hne⟩ : ∃ n,ea.length = n:=⟨_,rfl⟩
 rw [hnm,hnp,hnz,hne] at HH HF ⊢
 obtain ⟨W0,hW0⟩ : ∃ W0,(w.alloc (.cells #[.int .i64 d.id,.string d.f,.string d.t,.int .i64 d.gen,.slice A nm ka,.int .i64 d.next,.slice B np kb,.slice C nz kc,.bool fr,.slice D ne kg,.int .i64 al] 38)).alloc (.cells #[.int .i64 x.kind,.int .i64 x.client,.int .i64 x.seq,.string x.key,.string x.til,.string x.val,.string x.old,.bool x.has,.int .i64 x.lim,.int .i64 x.id,.int .i64 x.node] 40) = W0:=⟨_,rfl⟩
 have hb0 : Below w.heap.size w W0:=hW0 ▸ (by exact bex0)
 have BP : BoxP w.heap.size ⟨d,.slice A nm ka,ps,.slice B np kb,zs,.slice C nz kc,fr,ea,.slice D ne kg,al⟩ W0:=hW0 ▸ (BoxP.new w ⟨d,.slice A nm ka,ps,.slice B np kb,zs,.slice C nz kc,fr,ea,.slice D ne kg,al⟩).alloc _
 have BO : BoxA (w.heap.size + 1) x W0:=by
  have h:=BoxA.new (w.alloc (.cells #[.int .i64 d.id,.string d.f,.string d.t,.int .i64 d.gen,.slice A nm ka,.int .i64 d.next,.slice B np kb,.slice C nz kc,.bool fr,.slice D ne kg,.int .i64 al] 38)) x
  rw [hW0] at h
  simpa using h
 have KH:=fun w' (h : Below W0.heap.size W0 w') => HH.out.keep (hb0.trans (h.mono hb0.size))
 have cP:=fun w' (h : Below W0.heap.size W0 w') => plot_any ⟨d,.slice A nm ka,ps,.slice B np kb,zs,.slice C nz kc,fr,ea,.slice D ne kg,al⟩ w' (KH w' h).hp HF.out
 have cI:=fun w' (h : Below W0.heap.size W0 w') => Dp.ris_any ⟨d,.slice A nm ka,ps,.slice B np kb,zs,.slice C nz kc,fr,ea,.slice D ne kg,al⟩ w' (KH w' h).hp HF.out
 have cL:=fun w' (h : Below W0.heap.size W0 w') => live_any w' (HG.out.below (hb0.trans (h.mono hb0.size)))
 obtain ⟨IP,hIP⟩ : ∃ b,isP (Ph.pl ⟨d,.slice A nm ka,ps,.slice B np kb,zs,.slice C nz kc,fr,ea,.slice D ne kg,al⟩) = b:=⟨_,rfl⟩
 have HIP:=Lib.hid hIP
 rw [hIP] at cI
 have h0:=Below.refl W0.heap.size W0
 have hbox : ∀ wx,Below W0.heap.size W0 wx -> BoxP w.heap.size ⟨d,.slice A nm ka,ps,.slice B np kb,zs,.slice C nz kc,fr,ea,.slice D ne kg,al⟩ wx /\ BoxA (w.heap.size + 1) x wx:=fun wx h => ⟨BP.keep h,BO.keep h⟩
 have s1 : IntKind.i64.wrap ((x.val.size : Int) + (x.key.size : Int)) = (x.val.size : Int) + (x.key.size : Int):=by have:=hx.val; have:=hx.key; rw [IntKind.wrap_i64]; omega
 have s2 : IntKind.i64.wrap ((x.val.size : Int) + (x.key.size : Int) + (x.til.size : Int)) = (x.val.size : Int) + (x.key.size : Int) + (x.til.size : Int):=by have:=hx.val; have:=hx.key; have:=hx.til; rw [IntKind.wrap_i64]; omega
 have s3 : IntKind.i64.wrap ((x.val.size : Int) + (x.key.size : Int) + (x.til.size : Int) + (x.old.size : Int)) = (x.val.size : Int) + (x.key.size : Int) + (x.til.size : Int) + (x.old.size : Int):=by have:=hx.val; have:=hx.key; have:=hx.til; have:=hx.old; rw [IntKind.wrap_i64]; omega
 clear h hp hf hx hg hnm hnp hnz hne hIP BP BO
 obtain ⟨⟨_,⟨p0,p1,p2,p3,p4,p5,p6,p7,p8,p9,p10⟩,y0⟩,⟨_,⟨o0,o1,o2,o3,o4,o5,o6,o7,o8,o9,o10⟩,y1⟩⟩:=hbox _ h0
 go_enter Tryz.func4,Tryz.ntmps4
 go_wp2_with fail
 try rw [hW0]
 clear hW0
 try go_wp2_with fail
 refine (cP _ h0).mono ?_
 rintro e w1 ⟨⟨x1,rfl⟩,b⟩
 have h1:=h0.trans (b.mono h0.size)
 clear p0 p1 p2 p3 p4 p5 p6 p7 p8 p9 p10 y0 o0 o1 o2 o3 o4 o5 o6 o7 o8 o9 o10 y1
 clear b cP
 cases x1 with
 | false =>
  go_wp2_with fail
  refine (cL _ h1).mono ?_
  rintro e wz ⟨rfl,b⟩
  have hz:=(h1).trans (b.mono (h1).size)
  go_wp2_with fail
  go_ret
  exact ⟨rfl,hb0.trans (hz.mono hb0.size)⟩
 | true =>
 obtain ⟨⟨_,⟨p0,p1,p2,p3,p4,p5,p6,p7,p8,p9,p10⟩,y0⟩,⟨_,⟨o0,o1,o2,o3,o4,o5,o6,o7,o8,o9,o10⟩,y1⟩⟩:=hbox _ h1
 go_wp2_with fail
 refine (cI _ h1).mono ?_
 rintro e w2 ⟨rfl,b⟩
 have h2:=h1.trans (b.mono h1.size)
 clear p0 p1 p2 p3 p4 p5 p6 p7 p8 p9 p10 y0 o0 o1 o2 o3 o4 o5 o6 o7 o8 o9 o10 y1
 clear b cI
 cases IP with
 | false =>
  go_wp2_with fail
  refine (cL _ h2).mono ?_
  rintro e wz ⟨rfl,b⟩
  have hz:=(h2).trans (b.mono (h2).size)
  go_wp2_with fail
  go_ret
  exact ⟨rfl,hb0.trans (hz.mono hb0.size)⟩
 | true =>
 obtain ⟨⟨_,⟨p0,p1,p2,p3,p4,p5,p6,p7,p8,p9,p10⟩,y0⟩,⟨_,⟨o0,o1,o2,o3,o4,o5,o6,o7,o8,o9,o10⟩,y1⟩⟩:=hbox _ h2
 by_cases hv : (10000 : Int) < (x.val.size : Int) + (x.key.size : Int) + (x.til.size : Int) + (x.old.size : Int)
 ·have v1 : ((10000 : Int) < (x.val.size : Int) + (x.key.size : Int) + (x.til.size : Int) + (x.old.size : Int)) = True:=eq_true hv
  have v2 : ((x.val.size : Int) + (x.key.size : Int) + (x.til.size : Int) + (x.old.size : Int) > 10000) = True:=eq_true hv
  clear hv
  go_wp2_with fail
  refine (cL _ h2).mono ?_
  rintro e wz ⟨rfl,b⟩
  have hz:=(h2).trans (b.mono (h2).size)
  go_wp2_with fail
  go_ret
  exact ⟨rfl,hb0.trans (hz.mono hb0.size)⟩
 have v1 : ((10000 : Int) < (x.val.size : Int) + (x.key.size : Int) + (x.til.size : Int) + (x.old.size : Int)) = False:=eq_false hv
 have v2 : ((x.val.size : Int) + (x.key.size : Int) + (x.til.size : Int) + (x.old.size : Int) > 10000) = False:=eq_false hv
 have hip:=HIP.out
 have cM:=fun w' (h : Below W0.heap.size W0 w') => may_any ⟨d,.slice A nm ka,ps,.slice B np kb,zs,.slice C nz kc,fr,ea,.slice D ne kg,al⟩ x w' ((KH w' h).ha hip) hip HX.out.key HX.out.til HX.out.val (HG.out.below (hb0.trans (h.mono hb0.size)))
 have cR:=fun w' (h : Below W0.heap.size W0 w') => rmay_any ⟨d,.slice A nm ka,ps,.slice B np kb,zs,.slice C nz kc,fr,ea,.slice D ne kg,al⟩ x w' ((KH w' h).ha hip) hip HX.out.key HX.out.til HX.out.val HF.out
 obtain ⟨MY,hMY⟩ : ∃ b,mayP (Ph.pl ⟨d,.slice A nm ka,ps,.slice B np kb,zs,.slice C nz kc,fr,ea,.slice D ne kg,al⟩) x = b:=⟨_,rfl⟩
 rw [hMY] at cM cR
 clear hip hMY hv
 go_wp2_with fail
 clear p0 p1 p2 p3 p4 p5 p6 p7 p8 p9 p10 y0 o0 o1 o2 o3 o4 o5 o6 o7 o8 o9 o10 y1
 clear v1 v2 s1 s2 s3
 have hlow : ∀ wx,Below W0.heap.size W0 wx -> Below W0.heap.size W0 wx:=fun _ h => h
 refine St.wp_region_mixed (RT W0 (fun _ => none)) (fun j x => match j with | 2 => x = .bool MY | 5 => x = .bool MY | 8 => x = .bool true | _ => True) (by kernel_rfl) (by kernel_rfl) (by kernel_rfl) (RT.start h2) ?_
 iterate 2
  apply St.mix_give
  ·rfl
  ·intro L u' wx hS hcl hrd hag
   obtain ⟨⟨_,⟨p0,p1,p2,p3,p4,p5,p6,p7,p8,p9,p10⟩,y0⟩,⟨_,⟨o0,o1,o2,o3,o4,o5,o6,o7,o8,o9,o10⟩,y1⟩⟩:=hbox _ (hlow _ hS.low)
   go_simp
   try with_reducible rfl
  ·exact fun L u' wx hS => hS.plain rfl _
  simp only [Act.put,St.pu]
 refine St.mix_into (f:=17) (args:=#[qv ⟨d,.slice A nm ka,ps,.slice B np kb,zs,.slice C nz kc,fr,ea,.slice D ne kg,al⟩,av x]) rfl rfl ?_ ?_ ?_
 ·intro wx
  go_simp
  try with_reducible rfl
 ·intro L u' wx hS hcl hrd hag
  refine (cM wx hS.low).mono ?_
  rintro e w' ⟨rfl,b⟩
  exact ⟨rfl,hS.into rfl b _⟩
 simp only [Act.put,St.pu]
 iterate 2
  apply St.mix_give
  ·rfl
  ·intro L u' wx hS hcl hrd hag
   obtain ⟨⟨_,⟨p0,p1,p2,p3,p4,p5,p6,p7,p8,p9,p10⟩,y0⟩,⟨_,⟨o0,o1,o2,o3,o4,o5,o6,o7,o8,o9,o10⟩,y1⟩⟩:=hbox _ (hlow _ hS.low)
   go_simp
   try with_reducible rfl
  ·exact fun L u' wx hS => hS.plain rfl _
  simp only [Act.put,St.pu]
 refine St.mix_into (f:=18) (args:=#[qv ⟨d,.slice A nm ka,ps,.slice B np kb,zs,.slice C nz kc,fr,ea,.slice D ne kg,al⟩,av x]) rfl rfl ?_ ?_ ?_
 ·intro wx
  go_simp
  try with_reducible rfl
 ·intro L u' wx hS hcl hrd hag
  refine (cR wx hS.low).mono ?_
  rintro e w' ⟨rfl,b⟩
  exact ⟨rfl,hS.into rfl b _⟩
 simp only [Act.put,St.pu]
 iterate 2
  apply St.mix_give
  ·rfl
  ·intro L u' wx hS hcl hrd hag
   go_simp
   try with_reducible rfl
  ·exact fun L u' wx hS => hS.plain rfl _
  simp only [Act.put,St.pu]
 refine St.mix_into (f:=11) (args:=#[]) rfl rfl ?_ ?_ ?_
 ·intro wx
  go_simp
  try with_reducible rfl
 ·intro L u' wx hS hcl hrd hag
  refine (cL wx hS.low).mono ?_
  rintro e w' ⟨rfl,b⟩
  exact ⟨rfl,hS.into rfl b _⟩
 simp only [Act.put,St.pu]
 iterate 2
  apply St.mix_give
  ·rfl
  ·intro L u' wx hS hcl hrd hag
   go_simp
   try with_reducible rfl
  ·exact fun L u' wx hS => hS.plain rfl _
  simp only [Act.put,St.pu]
 refine St.mix_last ?_
 intro L w5 hS hall
 have h5:=hS.low
 go_wp2_with fail
 go_ret
 exact ⟨rfl,hb0.trans (h5.mono hb0.size)⟩
end Go.Proofs.YthcmnkmfhgoddaaGreatDoor.Mb
