/-
  Slices of entries,as a walk finds them; rolls as values; append onto a row of entries that the call owns,and onto one that has no room. No condition.
  The program's May. Conditions: plots that may be; lengths at most 2^47; the library's variables hold what their types allow.
  A descriptor's box that is written again while members are held. No condition.
  The program's changed,Of. Conditions: descriptors that may be; at most 1,000,000 entries; lengths at most 2^47; the library's variables hold what their types allow.
-/
import Derived.Test.YthcmnkmfhgoddaaGreatDoorVRoM
import Derived.Test.YthcmnkmfhgoddaaGreatDoorVDsPNA
import Derived.Laws.OwnMore
import Derived.Maps.AppendAt
import Derived.Deep.RegionHeld
import Derived.Deep.Upon
import Derived.ArgAppend
import Derived.Test.YthcmnkmfhgoddaaGreatDoorVPtNOA
import Derived.Test.YthcmnkmfhgoddaaGreatDoorVDsSMA
import Derived.Test.YthcmnkmfhgoddaaGreatDoorVDsPaA
import Derived.Test.YthcmnkmfhgoddaaGreatDoorVMbMA
import Derived.Test.YthcmnkmfhgoddaaGreatDoorVDsDRA
import Derived.Test.YthcmnkmfhgoddaaGreatDoorVOdPaA
import Derived.Test.YthcmnkmfhgoddaaGreatDoorVDpHHA
namespace Go.Proofs.YthcmnkmfhgoddaaGreatDoor.Ro
open Go.RowKit
def SE (w : World) (N : Nat) (v : Value) (ms : List En) : Prop :=
 ∃ (A : Option Addr) (c : Nat),v = .slice A ms.length c /\ (0 < ms.length -> ∃ b o : Nat,A = some ⟨b,o,none⟩ /\ b < N /\ ∀ i (h : i < ms.length),w.cell? ⟨b,o + i * 2,none⟩ = some (.int .i64 ms[i].1) /\ w.cell? ⟨b,o + i * 2 + 1,none⟩ = some (.string ms[i].2))
theorem SE.nil (w : World) (N : Nat) : SE w N (.slice none 0 0) []:=⟨none,0,rfl,fun h => absurd h (by simp)⟩
theorem SE.keep {w w' : World} {N : Nat} {v : Value} {ms : List En} (h : SE w N v ms) (hk : ∀ p : Addr,p.block < N -> w'.cell? p = w.cell? p) : SE w' N v ms:=by
 obtain ⟨A,c,hv,h⟩:=h
 refine ⟨A,c,hv,fun h0 => ?_⟩
 obtain ⟨b,o,e,hb,hc⟩:=h h0
 exact ⟨b,o,e,hb,fun i hi => by rw [hk ⟨b,o + i * 2,none⟩ hb,hk ⟨b,o + i * 2 + 1,none⟩ hb]; exact hc i hi⟩
theorem SE.below {w w' : World} {N : Nat} {v : Value} {ms : List En} (h : SE w N v ms) (hb : Below N w w') : SE w' N v ms:=h.keep fun _ hp => hb.cell hp
theorem SE.more {w : World} {N N' : Nat} {v : Value} {ms : List En} (h : SE w N v ms) (hB : N <= N') : SE w N' v ms:=by
 obtain ⟨A,c,hv,h⟩:=h
 refine ⟨A,c,hv,fun h0 => ?_⟩
 obtain ⟨b,o,e,hb,hc⟩:=h h0
 exact ⟨b,o,e,by omega,hc⟩
theorem SE.at_ {w : World} {N k : Nat} {A : Option Addr} {n c : Nat} {ms : List En} (h : SE w N (.slice A n c) ms) (hk : k < ms.length) :
  ∃ b o : Nat,A = some ⟨b,o,none⟩ /\ b < N /\ w.cell? ⟨b,o + k * 2,none⟩ = some (.int .i64 ms[k].1) /\ w.cell? ⟨b,o + k * 2 + 1,none⟩ = some (.string ms[k].2):=by
 obtain ⟨A',c',hv,h⟩:=h
 injection hv with h1 h2 h3
 subst h1
 obtain ⟨b,o,e,hb,hc⟩:=h (by omega)
 exact ⟨b,o,e,hb,hc k hk⟩
theorem SE.form {w : World} {N : Nat} {v : Value} {ms : List En} (h : SE w N v ms) : ∃ A c,v = .slice A ms.length c:=by
 obtain ⟨A,c,hv,_⟩:=h; exact ⟨A,c,hv⟩
def ecells : List En -> List Value
 | [] => []
 | p :: l => .int .i64 p.1 :: .string p.2 :: ecells l
theorem ecells_get : ∀ (l : List En) (i : Nat) (h : i < l.length),(ecells l)[i * 2]? = some (.int .i64 l[i].1) /\ (ecells l)[i * 2 + 1]? = some (.string l[i].2)
 | p :: l,0,_ => ⟨rfl,rfl⟩
 | p :: l,i + 1,h => by
  have:=ecells_get l i (by simpa using h)
  have e : (i + 1) * 2 = i * 2 + 1 + 1:=by omega
  rw [e]
  exact this
abbrev OwnE (w : World) (base : Nat) (v : Value) (ms : List En) : Prop:=w.ownsRow base 47 2 v ms.length (ecells ms)
theorem SE.of_own {w : World} {base : Nat} {v : Value} {ms : List En} (h : OwnE w base v ms) : SE w w.heap.size v ms:=by
 rcases h.2 with ⟨rfl,h0⟩ | ⟨g,cap,cur,rfl,_,hh,_⟩
 ·have : ms = []:=List.length_eq_zero_iff.1 h0
  subst this
  exact SE.nil w _
 ·refine ⟨_,_,rfl,fun h0 => ⟨g,0,rfl,?_,fun i hi => ?_⟩⟩
  ·exact (Array.getElem?_eq_some_iff.1 hh).1
  ·obtain ⟨g1,g2⟩:=ecells_get ms i hi
   have e1:=h.cells (g:=g) rfl (i * 2) _ g1
   have e2:=h.cells (g:=g) rfl (i * 2 + 1) _ g2
   rw [Addr.add_lit] at e1 e2
   exact ⟨e1,e2⟩
inductive ArgE (w : World) : Value -> List En -> Prop
 | nil : ArgE w (.slice none 0 0) []
 | some (b o : Nat) (c : Nat) (ms : List En) (hc : ms.length <= c) (h : SE w w.heap.size (.slice (some ⟨b,o,none⟩) ms.length c) ms) : ArgE w (.slice (some ⟨b,o,none⟩) ms.length c) ms
 | empty (a : Addr) (c : Nat) : ArgE w (.slice (some a) 0 c) []
theorem ArgE.sm {w : World} {v : Value} {ms : List En} (h : ArgE w v ms) : SE w w.heap.size v ms:=by
 cases h with
 | nil => exact SE.nil _ _
 | some b o c ms hc h => exact h
 | empty a c => exact ⟨_,_,rfl,fun h => absurd h (by simp)⟩
theorem ArgE.keep {w w' : World} {v : Value} {ms : List En} (h : ArgE w v ms) (hb : Below w.heap.size w w') : ArgE w' v ms:=by
 cases h with
 | nil => exact .nil
 | some b o c ms hc h => exact .some b o c ms hc ((h.below hb).more hb.size)
 | empty a c => exact .empty a c
theorem ArgE.form {w : World} {v : Value} {ms : List En} (h : ArgE w v ms) : ∃ A c,v = .slice A ms.length c:=h.sm.form
theorem ArgE.of_own {w : World} {base : Nat} {v : Value} {ms : List En} (h : OwnE w base v ms) : ArgE w v ms:=by
 have hs:=SE.of_own h
 rcases h.2 with ⟨rfl,h0⟩ | ⟨g,cap,cur,rfl,_,_,hn,_⟩
 ·have : ms = []:=List.length_eq_zero_iff.1 h0
  subst this
  exact .nil
 ·exact .some _ _ _ _ hn hs
theorem ArgE.room {w : World} {v : Value} {ms : List En} (h : ArgE w v ms) : ∃ A c,v = .slice A ms.length c /\ ms.length <= c:=by
 cases h with
 | nil => exact ⟨_,_,rfl,Nat.le_refl _⟩
 | some b o c ms hc h => exact ⟨_,_,rfl,hc⟩
 | empty a c => exact ⟨_,_,rfl,Nat.zero_le _⟩
def Off (n : Nat) (v : Value) : Prop:=∀ b o k c,v = .slice (some ⟨b,o,none⟩) k c -> 0 < k -> b ≠ n
def New (B : Nat) (v : Value) : Prop:=∀ b o k c,v = .slice (some ⟨b,o,none⟩) k c -> 0 < k -> B <= b
theorem New.off {B n : Nat} {v : Value} (h : New B v) (hn : n < B) : Off n v:=fun b o k c e hk => by have:=h b o k c e hk; omega
theorem New.more {B B' : Nat} {v : Value} (h : New B v) (hn : B' <= B) : New B' v:=fun b o k c e hk => Nat.le_trans hn (h b o k c e hk)
theorem New.of_own {w : World} {base : Nat} {v : Value} {ms : List En} (h : OwnE w base v ms) : New base v:=fun b o k c e hk => by
 rcases h.2 with ⟨e1,_⟩ | ⟨g,cap,cur,e1,hb,_⟩
 ·rw [e1] at e; cases e
 ·rw [e1] at e
  injection e with e2
  injection e2 with e3
  injection e3 with e4
  omega
theorem SE.off {w : World} {N n : Nat} {v : Value} {ms : List En} (h : SE w N v ms) (hn : N <= n) : Off n v:=fun b o k c e hk => by
 obtain ⟨A,c',e1,h1⟩:=h
 rw [e1] at e
 injection e with e2 e3 e4
 obtain ⟨b',o',e5,hb,_⟩:=h1 (by omega)
 rw [e2] at e5
 injection e5 with e6
 injection e6 with e7
 omega
theorem ArgE.set {w : World} {v : Value} {ms : List En} (h : ArgE w v ms) {n i : Nat} (ho : Off n v) (u : Value) : ArgE (w.setCell ⟨n,i,none⟩ u) v ms:=by
 cases h with
 | nil => exact .nil
 | empty a c => exact .empty a c
 | some b o c ms hc h =>
  refine .some b o c ms hc ?_
  obtain ⟨A,c',e,h1⟩:=h
  injection e with e1 e2 e3
  subst e1 e3
  refine ⟨_,_,rfl,fun h0 => ?_⟩
  obtain ⟨b',o',e',hb,hq⟩:=h1 h0
  cases e'
  have hne : b ≠ n:=ho b o _ c rfl h0
  refine ⟨b,o,rfl,by simpa using hb,fun i hi => ?_⟩
  rw [World.cell?_setCell_far w _ _ u (Ne.symm hne),World.cell?_setCell_far w _ _ u (Ne.symm hne)]
  exact hq i hi
def BoxL (n : Nat) (r : Lg) (s : Value) (w' : World) : Prop:=n < w'.heap.size /\ (w'.cell? ⟨n,0,none⟩ = some (.int .i64 r.base) /\ w'.cell? ⟨n,1,none⟩ = some (.int .i64 r.bt) /\ w'.cell? ⟨n,2,none⟩ = some s) /\ ∀ o,w'.frozen? ⟨n,o,none⟩ = false
theorem BoxL.keep {n : Nat} {r : Lg} {s : Value} {w1 w2 : World} (h : BoxL n r s w1) (hb : Below w1.heap.size w1 w2) : BoxL n r s w2:=by
 obtain ⟨h0,⟨h1,h2,h3⟩,hf⟩:=h
 have hc : ∀ o,w2.cell? ⟨n,o,none⟩ = w1.cell? ⟨n,o,none⟩:=fun o => hb.cell (p:=⟨n,o,none⟩) h0
 refine ⟨Nat.lt_of_lt_of_le h0 hb.size,⟨?_,?_,?_⟩,fun o => (hb.frozen (p:=⟨n,o,none⟩) h0).trans (hf o)⟩
 all_goals rw [hc]; assumption
theorem BoxL.kept {N n : Nat} {r : Lg} {s : Value} {w1 w2 : World} (h : BoxL n r s w1) (hn : n < N) (hb : Below N w1 w2) : BoxL n r s w2:=by
 obtain ⟨h0,⟨h1,h2,h3⟩,hf⟩:=h
 have hc : ∀ o,w2.cell? ⟨n,o,none⟩ = w1.cell? ⟨n,o,none⟩:=fun o => hb.cell (p:=⟨n,o,none⟩) hn
 refine ⟨Nat.lt_of_lt_of_le h0 hb.size,⟨?_,?_,?_⟩,fun o => (hb.frozen (p:=⟨n,o,none⟩) hn).trans (hf o)⟩
 all_goals rw [hc]; assumption
theorem BoxL.alloc {n : Nat} {r : Lg} {s : Value} {w1 : World} (h : BoxL n r s w1) (o : Obj) : BoxL n r s (w1.alloc o) :=
 h.keep ((Below.refl _ w1).alloc (Nat.le_refl _) o)
theorem BoxL.drew {n : Nat} {r : Lg} {s : Value} {w1 : World} (h : BoxL n r s w1) : BoxL n r s w1.drew:=h
theorem BoxL.other {n : Nat} {r : Lg} {s : Value} {w1 : World} (h : BoxL n r s w1) {a : Addr} (ha : a.block ≠ n) (u : Value) : BoxL n r s (w1.setCell a u):=by
 obtain ⟨h0,⟨h1,h2,h3⟩,hf⟩:=h
 have hc : ∀ o,(w1.setCell a u).cell? ⟨n,o,none⟩ = w1.cell? ⟨n,o,none⟩:=fun o => World.cell?_setCell_far w1 a _ u ha
 refine ⟨by simpa using h0,⟨?_,?_,?_⟩,fun o => by rw [World.frozen?_setCell]; exact hf o⟩
 all_goals rw [hc]; assumption
theorem BoxL.put {n : Nat} {r0 : Lg} {s0 : Value} {w1 : World} (h : BoxL n r0 s0 w1) (r : Lg) (s : Value) :
  BoxL n r s (((w1.setCell ⟨n,0,none⟩ (.int .i64 r.base)).setCell ⟨n,1,none⟩ (.int .i64 r.bt)).setCell ⟨n,2,none⟩ s):=by
 obtain ⟨h0,⟨h1,h2,h3⟩,hf⟩:=h
 refine ⟨by simpa using h0,⟨?_,?_,?_⟩,fun o => by simp [World.frozen?_setCell,hf]⟩
 all_goals simp [go_sem,h1,h2,h3]
end Go.Proofs.YthcmnkmfhgoddaaGreatDoor.Ro

namespace Go.Proofs.YthcmnkmfhgoddaaGreatDoor.Mb
open Go.RowKit Bnd
open Go.Proofs.YthcmnkmfhgoddaaGreatDoor.Ds (De SM ArgM isD sameD BoxD)
open Go.Proofs.YthcmnkmfhgoddaaGreatDoor.Od (Rep BoxR BoxA rv av)
open Go.Proofs.YthcmnkmfhgoddaaGreatDoor.Dp (Ph Pl BoxP qv HA HP isP)
open Go.Proofs.YthcmnkmfhgoddaaGreatDoor.Pt (Oc Fh fv ApplyOut applyC mayP BoxF)
theorem isCh_no {x : Od.Ask} (h : isCh x = false) : x.kind ≠ 10 /\ x.kind ≠ 11:=by
 unfold isCh at h
 have:=of_decide_eq_false h
 omega
theorem isCh_yes {x : Od.Ask} (h : isCh x = true) : x.kind = 10 \/ x.kind = 11:=by
 unfold isCh at h
 exact of_decide_eq_true h
def endM (oc : Oc) (d : De) : Bool:=decide (oc.r.code = 0) && !sameD oc.p.d d
theorem may_end {o : Ph} {x : Od.Ask} {oc : Oc} (h : isCh x = true) (ho : oc.out = applyC o.pl x) : mayP o.pl x = endM oc o.d:=by
 unfold Pt.mayP endM
 rw [h,<- ho]
 rfl
theorem applyC_is {p : Pl} {x : Od.Ask} (hd : isD p.d = true) : isD (applyC p x).1.d = true:=by
 have hb : isD (Pt.becameP p (changeD p.d x)).1.d = true:=by
  unfold Pt.becameP
  by_cases h0 : (changeD p.d x).2 = 0
  ·rw [if_pos h0]
   exact (change_is (d:=p.d) (x:=(changeD p.d x).1) (o:=x) (by rw [<- h0])).1
  ·rw [if_neg h0]
   exact hd
 unfold Pt.applyC
 split
 ·exact hd
 ·unfold Pt.endP Pt.noteP
  (repeat' split) <;> first | exact hb | exact hd
set_option maxHeartbeats 32000000 in
set_option maxRecDepth 100000 in
theorem may_any (o : Ph) (x : Od.Ask) (w : World) (h : HA w o) (hP : isP o.pl = true)
  (hk : x.key.size <= 140737488355328) (ht : x.til.size <= 140737488355328) (hv : x.val.size <= 140737488355328) (hg : Good w) :
  Calls Tryz.prog 17 #[qv o,av x] w fun e w' => e = .returned (.bool (mayP o.pl x)) /\ Below w.heap.size w w':=by
 have hp:=h.hp
 have hd : isD o.d = true:=Dp.isP_d hP
 obtain ⟨W0,hW0⟩ : ∃ W0,(w.alloc (.cells #[.int .i64 o.d.id,.string o.d.f,.string o.d.t,.int .i64 o.d.gen,o.sm,.int .i64 o.d.next,o.sp,o.sz,.bool o.fr,o.se,.int .i64 o.al] 38)).alloc (.cells #[.int .i64 x.kind,.int .i64 x.client,.int .i64 x.seq,.string x.key,.string x.til,.string x.val,.string x.old,.bool x.has,.int .i64 x.lim,.int .i64 x.id,.int .i64 x.node] 40) = W0:=⟨_,rfl⟩
 have BP : BoxP w.heap.size o W0:=hW0 ▸ (BoxP.new w o).alloc _
 have BA : BoxA (w.heap.size + 1) x W0:=by
  have:=BoxA.new (w.alloc (.cells #[.int .i64 o.d.id,.string o.d.f,.string o.d.t,.int .i64 o.d.gen,o.sm,.int .i64 o.d.next,o.sp,o.sz,.bool o.fr,o.se,.int .i64 o.al] 38)) x
  rw [World.size_alloc] at this
  rw [<- hW0]
  exact this
 have hb0 : Below w.heap.size w W0:=hW0 ▸ (by exact bex0)
 cases hc : isCh x with
 | false =>
  obtain ⟨h10,h11⟩:=isCh_no hc
  have n1 : (x.kind != 10) = true:=by simpa using h10
  have n2 : (x.kind != 11) = true:=by simpa using h11
  have n3 : (x.kind == 10) = false:=by simpa using h10
  have n4 : (x.kind == 11) = false:=by simpa using h11
  rw [show mayP o.pl x = false by unfold Pt.mayP; rw [hc]; rfl]
  obtain ⟨d,ps,zs,fr,ea,al,A,B,C,D,a,b,c,e,rfl⟩:=hp.open
  obtain ⟨k,client,seq,key,til,val,old,has,lim,id,node⟩:=x
  simp only at n1 n2 n3 n4
  clear h hP hk ht hv hg hp hd hc h10 h11
  obtain ⟨q_0,⟨q_1,q_2,q_3,q_4,q_5,q_6,q_7,q_8,q_9,q_10,q_11⟩,q_12⟩:=_root_.id BA
  go_enter Tryz.func17,Tryz.ntmps17
  go_wp2_with fail
  go_ret
  exact ⟨rfl,hb0⟩
 | true =>
  have cA:=fun w' (hb : Below w.heap.size w w') => Pt.apply_any o x w' (h.keep hb) hP hc hk ht hv (hg.below hb)
  have cS:=fun (oc : Oc) w' (h1 : SM w' w'.heap.size oc.p.sm oc.p.d.ms) (h2 : SM w' w'.heap.size o.sm o.d.ms) (hl : oc.p.d.ms.length <= 1000000000) => Ds.same_any oc.p.d o.d oc.p.sm o.sm w' h1 h2 hl (by have:=(Dp.isD_sizes hd).2.2; omega)
  have hme:=fun oc => may_end (o:=o) (x:=x) (oc:=oc) hc
  have HME:=Lib.hid hme
  have HHA:=Lib.hid h
  have hisf : ∀ oc : Oc,oc.out = applyC o.pl x -> isD oc.p.d = true:=fun oc e => by
   have:=applyC_is (p:=o.pl) (x:=x) hd
   rw [<- e] at this
   exact this
  have HIS:=Lib.hid hisf
  have hcc:=isCh_yes hc
  obtain ⟨d,ps,zs,fr,ea,al,A,B,C,D,a,b,c,e,rfl⟩:=hp.open
  obtain ⟨k,client,seq,key,til,val,old,has,lim,id,node⟩:=x
  simp only at hcc cS
  obtain ⟨nm,hnm⟩ : ∃ n,d.ms.length = n:=⟨_,rfl⟩
  obtain ⟨np,hnp⟩ : ∃ n,ps.length = n:=⟨_,rfl⟩
  obtain ⟨nz,hnz⟩ : ∃ n,zs.length = n:=⟨_,rfl⟩
  obtain ⟨ne,hne⟩ : ∃ n,ea.length = n:=⟨_,rfl⟩
  rw [hnm,hnp,hnz,hne] at cA BP HHA HME HIS hW0 ⊢
  rw [hnm] at cS
  obtain ⟨MY,hMY⟩ : ∃ m,mayP (Ph.pl ⟨d,.slice A nm a,ps,.slice B np b,zs,.slice C nz c,fr,ea,.slice D ne e,al⟩) ⟨k,client,seq,key,til,val,old,has,lim,id,node⟩ = m:=⟨_,rfl⟩
  rw [hMY] at HME ⊢
  clear h hP hk ht hv hg hp hd hc hme hisf hnm hnp hnz hne hMY
  rcases hcc with rfl | rfl
  all_goals
   obtain ⟨p_0,⟨p_1,p_2,p_3,p_4,p_5,p_6,p_7,p_8,p_9,p_10,p_11⟩,p_12⟩:=_root_.id BP
   obtain ⟨q_0,⟨q_1,q_2,q_3,q_4,q_5,q_6,q_7,q_8,q_9,q_10,q_11⟩,q_12⟩:=_root_.id BA
   go_enter Tryz.func17,Tryz.ntmps17
   go_wp2_with fail
   try rw [hW0]
   refine (cA _ hb0).mono ?_
   rintro e' w1 ⟨oc,rfl,ho,ha,hri,hrs,b1⟩
   have hmy:=HME.out oc ho
   have hisd:=HIS.out oc ho
   obtain ⟨d1,ps1,zs1,fr1,ea1,al1,A1,B1,C1,D1,a1,b1',c1,e1,hoc⟩:=ha.hp.open
   obtain ⟨d2,ps2,zs2,fr2,ea2,al2,A2,B2,C2,D2,a2,b2',c2,e2,hri'⟩:=hri.hp.open
   obtain ⟨A3,c3,hrs'⟩:=hrs
   obtain ⟨ocp,⟨rcode,rerr,rhas,rval,rps⟩,ocrs,⟨sl,ocri,eaten⟩⟩:=oc
   simp only at hoc hri' hrs' hmy ha hisd
   subst hoc hri' hrs'
   have cS1:=cS ⟨⟨d1,.slice A1 d1.ms.length a1,ps1,.slice B1 ps1.length b1',zs1,.slice C1 zs1.length c1,fr1,ea1,.slice D1 ea1.length e1,al1⟩,⟨rcode,rerr,rhas,rval,rps⟩,.slice A3 rps.length c3,⟨sl,⟨d2,.slice A2 d2.ms.length a2,ps2,.slice B2 ps2.length b2',zs2,.slice C2 zs2.length c2,fr2,ea2,.slice D2 ea2.length e2,al2⟩,eaten⟩⟩
   have hl1 : d1.ms.length <= 1000000000:=by have : d1.ms.length <= 5:=(Dp.isD_sizes hisd).2.2; omega
   obtain ⟨n1,hn1⟩ : ∃ n,d1.ms.length = n:=⟨_,rfl⟩
   obtain ⟨m1,hm1⟩ : ∃ n,ps1.length = n:=⟨_,rfl⟩
   obtain ⟨l1,hl1'⟩ : ∃ n,zs1.length = n:=⟨_,rfl⟩
   obtain ⟨k1,hk1⟩ : ∃ n,ea1.length = n:=⟨_,rfl⟩
   obtain ⟨n2,hn2⟩ : ∃ n,d2.ms.length = n:=⟨_,rfl⟩
   obtain ⟨m2,hm2⟩ : ∃ n,ps2.length = n:=⟨_,rfl⟩
   obtain ⟨l2,hl2'⟩ : ∃ n,zs2.length = n:=⟨_,rfl⟩
   obtain ⟨k2,hk2⟩ : ∃ n,ea2.length = n:=⟨_,rfl⟩
   obtain ⟨n3,hn3⟩ : ∃ n,rps.length = n:=⟨_,rfl⟩
   have hsm1:=ha.hp.sm
   have hsm0:=HHA.out.hp.sm
   simp only at cS1 hsm1 hsm0
   rw [hn1,hm1,hl1',hk1,hn2,hm2,hl2',hk2,hn3]
   rw [hn1] at cS1 hsm1 hl1
   clear hn1 hm1 hl1' hk1 hn2 hm2 hl2' hk2 hn3 ho ha hri hisd HHA HME HIS cA cS
   have hb1:=hb0.trans (b1.mono hb0.size)
   obtain ⟨W2,hW2⟩ : ∃ W2,((w1.alloc (.cells #[.int .i64 d1.id,.string d1.f,.string d1.t,.int .i64 d1.gen,.slice A1 n1 a1,.int .i64 d1.next,.slice B1 m1 b1',.slice C1 l1 c1,.bool fr1,.slice D1 k1 e1,.int .i64 al1] 38)).alloc (.cells #[.int .i64 rcode,.int .i64 rerr,.bool rhas,.string rval,.slice A3 n3 c3] 87)).alloc (.cells #[.bool sl,.int .i64 d2.id,.string d2.f,.string d2.t,.int .i64 d2.gen,.slice A2 n2 a2,.int .i64 d2.next,.slice B2 m2 b2',.slice C2 l2 c2,.bool fr2,.slice D2 k2 e2,.int .i64 al2,.int .i64 eaten] 93) = W2:=⟨_,rfl⟩
   have h12 : Below w1.heap.size w1 W2:=hW2 ▸ (by exact bex0)
   have BP2:=(BP.keep b1).keep h12
   have BN : BoxP w1.heap.size ⟨d1,.slice A1 n1 a1,ps1,.slice B1 m1 b1',zs1,.slice C1 l1 c1,fr1,ea1,.slice D1 k1 e1,al1⟩ W2:=hW2 ▸ ((BoxP.new w1 ⟨d1,.slice A1 n1 a1,ps1,.slice B1 m1 b1',zs1,.slice C1 l1 c1,fr1,ea1,.slice D1 k1 e1,al1⟩).alloc _).alloc _
   have BR : BoxR (w1.heap.size + 1) ⟨rcode,rerr,rhas,rval,rps⟩ (.slice A3 n3 c3) W2:=by
    have:=(BoxR.new (w1.alloc (.cells #[.int .i64 d1.id,.string d1.f,.string d1.t,.int .i64 d1.gen,.slice A1 n1 a1,.int .i64 d1.next,.slice B1 m1 b1',.slice C1 l1 c1,.bool fr1,.slice D1 k1 e1,.int .i64 al1] 38)) ⟨rcode,rerr,rhas,rval,rps⟩ (.slice A3 n3 c3)).alloc (.cells #[.bool sl,.int .i64 d2.id,.string d2.f,.string d2.t,.int .i64 d2.gen,.slice A2 n2 a2,.int .i64 d2.next,.slice B2 m2 b2',.slice C2 l2 c2,.bool fr2,.slice D2 k2 e2,.int .i64 al2,.int .i64 eaten] 93)
    rw [World.size_alloc] at this
    rw [<- hW2]
    exact this
   have hb2:=hb1.trans (h12.mono hb1.size)
   have cS2:=cS1 W2 ((hsm1.below h12).more h12.size) ((hsm0.below hb2).more hb2.size) hl1
   clear p_0 p_1 p_2 p_3 p_4 p_5 p_6 p_7 p_8 p_9 p_10 p_11 p_12
   clear q_0 q_1 q_2 q_3 q_4 q_5 q_6 q_7 q_8 q_9 q_10 q_11 q_12
   clear cS1 hsm1 hsm0 hl1 BA BP b1 hb0 hb1 hW0
   obtain ⟨p_0,⟨p_1,p_2,p_3,p_4,p_5,p_6,p_7,p_8,p_9,p_10,p_11⟩,p_12⟩:=_root_.id BP2
   obtain ⟨q_0,⟨q_1,q_2,q_3,q_4,q_5,q_6,q_7,q_8,q_9,q_10,q_11⟩,q_12⟩:=_root_.id BN
   obtain ⟨r_0,⟨r_1,r_2,r_3,r_4,r_5⟩,r_6⟩:=_root_.id BR
   by_cases hcode : rcode = 0
   ·subst hcode
    unfold endM at hmy
    simp only [decide_true,Bool.true_and] at hmy
    go_wp2_with fail
    try rw [hW2]
    clear hW2 h12
    go_wp2_with fail
    refine cS2.mono ?_
    rintro e' w3 ⟨rfl,b3⟩
    have hb3:=hb2.trans (b3.mono hb2.size)
    obtain ⟨SD,hSD⟩ : ∃ s,sameD d1 d = s:=⟨_,rfl⟩
    rw [hSD] at hmy ⊢
    subst hmy
    clear cS2 b3 hSD
    clear p_0 p_1 p_2 p_3 p_4 p_5 p_6 p_7 p_8 p_9 p_10 p_11 p_12
    clear q_0 q_1 q_2 q_3 q_4 q_5 q_6 q_7 q_8 q_9 q_10 q_11 q_12
    clear r_0 r_1 r_2 r_3 r_4 r_5 r_6
    clear BP2 BN BR hb2
    go_wp2_with fail
    go_ret
    exact ⟨rfl,hb3⟩
   ·have n9 : (rcode == 0) = false:=by simpa using hcode
    have n8 : (rcode = 0) = False:=eq_false hcode
    unfold endM at hmy
    rw [show decide (rcode = 0) = false from decide_eq_false hcode] at hmy
    simp only [Bool.false_and] at hmy
    subst hmy
    clear hcode cS2
    go_wp2_with fail
    try rw [hW2]
    clear hW2 h12
    go_wp2_with fail
    go_ret
    exact ⟨rfl,hb2⟩
end Go.Proofs.YthcmnkmfhgoddaaGreatDoor.Mb

namespace Go.Proofs.YthcmnkmfhgoddaaGreatDoor.Ds
open Go.RowKit Bnd
def BoxE (n : Nat) (d : De) (s : Value) (w : World) : Prop:=BoxD n d s w /\ ∀ o,6 <= o -> w.cell? ⟨n,o,none⟩ = none
theorem BoxE.keep {n : Nat} {d : De} {s : Value} {w1 w2 : World} (h : BoxE n d s w1) (hb : Below w1.heap.size w1 w2) : BoxE n d s w2 :=
 ⟨h.1.keep hb,fun o ho => by rw [hb.cell (p:=⟨n,o,none⟩) h.1.1]; exact h.2 o ho⟩
theorem BoxE.alloc {n : Nat} {d : De} {s : Value} {w1 : World} (h : BoxE n d s w1) (o : Obj) : BoxE n d s (w1.alloc o) :=
 h.keep ((Below.refl _ w1).alloc (Nat.le_refl _) o)
theorem BoxE.new (w : World) (d : De) (s : Value) : BoxE w.heap.size d s (w.alloc (.cells #[.int .i64 d.id,.string d.f,.string d.t,.int .i64 d.gen,s,.int .i64 d.next] 26)):=by
 refine ⟨BoxD.new w d s,fun o ho => ?_⟩
 rw [World.cell?_alloc_new]
 match o,ho with
 | o + 6,_ => rfl
theorem BoxE.put {n : Nat} {d0 : De} {s0 : Value} {w1 : World} (h : BoxE n d0 s0 w1) (d : De) (s : Value) : BoxE n d s (putW w1 n d s):=by
 refine ⟨h.1.put d s,fun o ho => ?_⟩
 have e : ∀ (w : World) (j : Nat) (u : Value),j < 6 -> (w.setCell ⟨n,j,none⟩ u).cell? ⟨n,o,none⟩ = w.cell? ⟨n,o,none⟩:=by
  intro w j u hj
  simp [go_sem]
 unfold putW
 rw [e _ _ _ (by decide),e _ _ _ (by decide),e _ _ _ (by decide),e _ _ _ (by decide),e _ _ _ (by decide),e _ _ _ (by decide)]
 exact h.2 o ho
theorem BoxE.no_pair {n : Nat} {d : De} {s : Value} {w : World} (h : BoxE n d s w) {o : Nat} {x y : Int} (h1 : w.cell? ⟨n,o,none⟩ = some (.int .i64 x)) (h2 : w.cell? ⟨n,o + 1,none⟩ = some (.int .i64 y)) (hs : ∃ A l c,s = .slice A l c) : False:=by
 obtain ⟨⟨_,⟨c1,c2,c3,c4,c5,c6⟩,_⟩,hn⟩:=h
 obtain ⟨A,l,c,rfl⟩:=hs
 match o,h1,h2 with
 | 0,h1,h2 => rw [c2] at h2; cases h2
 | 1,h1,h2 => rw [c2] at h1; cases h1
 | 2,h1,h2 => rw [c3] at h1; cases h1
 | 3,h1,h2 => rw [c5] at h2; cases h2
 | 4,h1,h2 => rw [c5] at h1; cases h1
 | 5,h1,h2 => rw [hn 6 (by omega)] at h2; cases h2
 | o + 6,h1,h2 => rw [hn (o + 6) (by omega)] at h1; cases h1
theorem putW_far {w : World} {n : Nat} {d : De} {s : Value} {p : Addr} (hp : p.block ≠ n) : (putW w n d s).cell? p = w.cell? p:=by
 unfold putW
 rw [World.cell?_setCell_far _ _ _ _ (fun e => hp e.symm),World.cell?_setCell_far _ _ _ _ (fun e => hp e.symm),World.cell?_setCell_far _ _ _ _ (fun e => hp e.symm),World.cell?_setCell_far _ _ _ _ (fun e => hp e.symm),World.cell?_setCell_far _ _ _ _ (fun e => hp e.symm),World.cell?_setCell_far _ _ _ _ (fun e => hp e.symm)]
theorem putW_size (w : World) (n : Nat) (d : De) (s : Value) : (putW w n d s).heap.size = w.heap.size:=by unfold putW; simp
theorem BoxE.put_arg {n : Nat} {d0 d : De} {s0 s v : Value} {w : World} {ms : List Mem} (h : BoxE n d0 s0 w) (hs : ∃ A l c,s0 = .slice A l c) (ha : ArgM w v ms) : ArgM (putW w n d s) v ms:=by
 cases ha with
 | nil => exact .nil
 | empty a c => exact .empty a c
 | some b o c ms hm =>
  refine .some b o c ms ?_
  obtain ⟨A',c',hv,hc⟩:=hm
  refine ⟨A',c',hv,fun h0 => ?_⟩
  obtain ⟨b',o',e,hb,hcc⟩:=hc h0
  refine ⟨b',o',e,by rw [putW_size]; exact hb,fun i hi => ?_⟩
  obtain ⟨g1,g2⟩:=hcc i hi
  have hne : b' ≠ n:=fun e => by subst e; exact h.no_pair g1 g2 hs
  rw [putW_far (p:=⟨b',o' + i * 2,none⟩) hne,putW_far (p:=⟨b',o' + i * 2 + 1,none⟩) hne]
  exact ⟨g1,g2⟩
end Go.Proofs.YthcmnkmfhgoddaaGreatDoor.Ds

namespace Go.Proofs.YthcmnkmfhgoddaaGreatDoor.Mb
open Go.RowKit Bnd
open Go.Proofs.YthcmnkmfhgoddaaGreatDoor.Ds (De SM ArgM OwnM isD dv addD removeD BoxE BoxD putW)
open Go.Proofs.YthcmnkmfhgoddaaGreatDoor.Od (BoxA av parseA)
open Go.Proofs.YthcmnkmfhgoddaaGreatDoor.Ro (SE)
def GaveX (w : World) (d : De) (e : Ending) (w' : World) : Prop:=∃ s',e = .returned (dv d s') /\ ArgM w' s' d.ms /\ Below w.heap.size w w'
theorem boxE_far {n m : Nat} {d0 g : De} {s0 s : Value} {w : World} (h : BoxE m d0 s0 w) (hne : m ≠ n) : BoxE m d0 s0 (putW w n g s):=by
 refine ⟨?_,fun o ho => by rw [Ds.putW_far (p:=⟨m,o,none⟩) hne]; exact h.2 o ho⟩
 unfold putW
 iterate 6 refine BoxD.other ?_ (by simpa using Ne.symm hne) _
 exact h.1
theorem putW_low {N n : Nat} {w0 w1 : World} {d : De} {s : Value} (h : Below N w0 w1) (hn : N <= n) : Below N w0 (putW w1 n d s):=by
 unfold putW
 iterate 6 refine Below.setCell ?_ hn _
 exact h
set_option maxHeartbeats 16000000 in
set_option maxRecDepth 100000 in
theorem changed_any (d : De) (s : Value) (x : Od.Ask) (w : World) (h : ArgM w s d.ms) (hd : isD d = true) : Calls Tryz.prog 45 #[dv d s,av x] w (GaveX w (turnD d x)):=by
 obtain ⟨A,c,rfl⟩:=h.form
 obtain ⟨nm,hnm⟩ : ∃ n,d.ms.length = n:=⟨_,rfl⟩
 obtain ⟨kind,client,seq,key,til,val,old,has,lim,id,node⟩:=x
 by_cases hk : kind = 10
 ·subst hk
  have cc:=fun w' (hb : Below w.heap.size w w') => Ds.add_any d (.slice A d.ms.length c) node w' (h.keep hb) (Dp.isD_fit hd)
  have hturn : turnD d ⟨10,client,seq,key,til,val,old,has,lim,id,node⟩ = if (addD d node).2 = 0 then (addD d node).1 else d:=by unfold turnD changeD; rfl
  obtain ⟨⟨g,en⟩,hG⟩ : ∃ p,addD d node = p:=⟨_,rfl⟩
  rw [hG] at cc hturn
  simp only at hturn
  have HA0:=Lib.hid h
  rw [hnm] at cc HA0 ⊢
  clear h hd hG
  obtain ⟨TD,hTD⟩ : ∃ t,turnD d ⟨10,client,seq,key,til,val,old,has,lim,id,node⟩ = t:=⟨_,rfl⟩
  rw [hTD] at hturn ⊢
  have HT:=Lib.hid hturn
  clear hTD hturn hnm
  obtain ⟨W0,hW0⟩ : ∃ W0,(((w.alloc (.cells #[.int .i64 d.id,.string d.f,.string d.t,.int .i64 d.gen,(.slice A nm c),.int .i64 d.next] 26)).alloc (.cells #[.int .i64 10,.int .i64 client,.int .i64 seq,.string key,.string til,.string val,.string old,.bool has,.int .i64 lim,.int .i64 id,.int .i64 node] 40)).alloc (.cells #[.int .i64 0,.string ⟨#[]⟩,.string ⟨#[]⟩,.int .i64 0,.slice none 0 0,.int .i64 0] 26)).alloc (.cells #[.int .i64 d.id,.string d.f,.string d.t,.int .i64 d.gen,(.slice A nm c),.int .i64 d.next] 26) = W0:=⟨_,rfl⟩
  have hb0 : Below w.heap.size w W0:=hW0 ▸ (by exact bex0)
  have BD : BoxE w.heap.size d (.slice A nm c) W0:=hW0 ▸ (((BoxE.new w d (.slice A nm c)).alloc _).alloc _).alloc _
  have BA : BoxA (w.heap.size + 1) ⟨10,client,seq,key,til,val,old,has,lim,id,node⟩ W0:=by
   have:=((BoxA.new (w.alloc (.cells #[.int .i64 d.id,.string d.f,.string d.t,.int .i64 d.gen,(.slice A nm c),.int .i64 d.next] 26)) ⟨10,client,seq,key,til,val,old,has,lim,id,node⟩).alloc (.cells #[.int .i64 0,.string ⟨#[]⟩,.string ⟨#[]⟩,.int .i64 0,.slice none 0 0,.int .i64 0] 26)).alloc (.cells #[.int .i64 d.id,.string d.f,.string d.t,.int .i64 d.gen,(.slice A nm c),.int .i64 d.next] 26)
   rw [World.size_alloc] at this
   rw [<- hW0]
   exact this
  have B4 : BoxE (w.heap.size + 2) De.zero (.slice none 0 0) W0:=by
   have:=(BoxE.new ((w.alloc (.cells #[.int .i64 d.id,.string d.f,.string d.t,.int .i64 d.gen,(.slice A nm c),.int .i64 d.next] 26)).alloc (.cells #[.int .i64 10,.int .i64 client,.int .i64 seq,.string key,.string til,.string val,.string old,.bool has,.int .i64 lim,.int .i64 id,.int .i64 node] 40)) De.zero (.slice none 0 0)).alloc (.cells #[.int .i64 d.id,.string d.f,.string d.t,.int .i64 d.gen,(.slice A nm c),.int .i64 d.next] 26)
   rw [World.size_alloc,World.size_alloc] at this
   rw [<- hW0]
   exact this
  have B5 : BoxE (w.heap.size + 3) d (.slice A nm c) W0:=by
   have:=BoxE.new (((w.alloc (.cells #[.int .i64 d.id,.string d.f,.string d.t,.int .i64 d.gen,(.slice A nm c),.int .i64 d.next] 26)).alloc (.cells #[.int .i64 10,.int .i64 client,.int .i64 seq,.string key,.string til,.string val,.string old,.bool has,.int .i64 lim,.int .i64 id,.int .i64 node] 40)).alloc (.cells #[.int .i64 0,.string ⟨#[]⟩,.string ⟨#[]⟩,.int .i64 0,.slice none 0 0,.int .i64 0] 26)) d (.slice A nm c)
   rw [World.size_alloc,World.size_alloc,World.size_alloc] at this
   rw [<- hW0]
   exact this
  obtain ⟨⟨p_0,⟨p_1,p_2,p_3,p_4,p_5,p_6⟩,p_7⟩,-⟩:=_root_.id BD
  obtain ⟨q_0,⟨q_1,q_2,q_3,q_4,q_5,q_6,q_7,q_8,q_9,q_10,q_11⟩,q_12⟩:=_root_.id BA
  go_enter Tryz.func45,Tryz.ntmps45
  go_wp2_with fail
  try rw [hW0]
  refine (cc _ hb0).mono ?_
  rintro e' w1 ⟨s',rfl,ha,b1⟩
  obtain ⟨G,cg,rfl⟩:=ha.form
  obtain ⟨ng,hng⟩ : ∃ n,g.ms.length = n:=⟨_,rfl⟩
  simp only at ha
  rw [hng] at ha
  simp only [hng]
  have BD1:=BD.keep b1
  have B41:=B4.keep b1
  have B51:=B5.keep b1
  have hb1:=hb0.trans (b1.mono hb0.size)
  clear p_0 p_1 p_2 p_3 p_4 p_5 p_6 p_7
  clear q_0 q_1 q_2 q_3 q_4 q_5 q_6 q_7 q_8 q_9 q_10 q_11 q_12
  clear cc b1 BD BA B4 B5 hb0 hW0 hng
  obtain ⟨W2,hW2⟩ : ∃ W2,(((((w1.setCell ⟨w.heap.size + 3,0,none⟩ (.int .i64 g.id)).setCell ⟨w.heap.size + 3,1,none⟩ (.string g.f)).setCell ⟨w.heap.size + 3,2,none⟩ (.string g.t)).setCell ⟨w.heap.size + 3,3,none⟩ (.int .i64 g.gen)).setCell ⟨w.heap.size + 3,4,none⟩ (.slice G ng cg)).setCell ⟨w.heap.size + 3,5,none⟩ (.int .i64 g.next) = W2:=⟨_,rfl⟩
  have e2 : putW w1 (w.heap.size + 3) g (.slice G ng cg) = W2:=hW2
  have B52 : BoxE (w.heap.size + 3) g (.slice G ng cg) W2:=e2 ▸ B51.put g (.slice G ng cg)
  have ha2 : ArgM W2 (.slice G ng cg) g.ms:=e2 ▸ B51.put_arg ⟨_,_,_,rfl⟩ ha
  have BD2 : BoxE w.heap.size d (.slice A nm c) W2:=e2 ▸ boxE_far BD1 (by omega)
  have B42 : BoxE (w.heap.size + 2) De.zero (.slice none 0 0) W2:=e2 ▸ boxE_far B41 (by omega)
  have hb2 : Below w.heap.size w W2:=e2 ▸ putW_low hb1 (by omega)
  obtain ⟨⟨p_0,⟨p_1,p_2,p_3,p_4,p_5,p_6⟩,p_7⟩,-⟩:=_root_.id B51
  have hE : en = 0 \/ ¬ en = 0:=by omega
  rcases hE with rfl | hE
  ·have hT : TD = g:=HT.out
   clear HT
   obtain ⟨⟨q_0,⟨q_1,q_2,q_3,q_4,q_5,q_6⟩,q_7⟩,-⟩:=_root_.id B52
   obtain ⟨⟨r_0,⟨r_1,r_2,r_3,r_4,r_5,r_6⟩,r_7⟩,-⟩:=_root_.id B42
   go_wp2_with fail
   try rw [hW2]
   clear hW2 e2
   go_wp2_with fail
   clear p_0 p_1 p_2 p_3 p_4 p_5 p_6 p_7
   exact bodyPost_ret (Ds.res_box Tryz.results45 rfl (B42.put g (.slice G ng cg)).1) rfl ⟨_,by rw [hT],by rw [hT]; exact B42.put_arg ⟨_,_,_,rfl⟩ ha2,putW_low hb2 (by omega)⟩
  ·have hT : TD = d:=HT.out.trans (if_neg hE)
   have n1 : (en == 0) = false:=by simpa using hE
   have n2 : (en != 0) = true:=by simpa using hE
   have n3 : (en = 0) = False:=eq_false hE
   clear HT hE
   obtain ⟨⟨q_0,⟨q_1,q_2,q_3,q_4,q_5,q_6⟩,q_7⟩,-⟩:=_root_.id BD2
   obtain ⟨⟨r_0,⟨r_1,r_2,r_3,r_4,r_5,r_6⟩,r_7⟩,-⟩:=_root_.id B42
   go_wp2_with fail
   try rw [hW2]
   clear hW2 e2
   go_wp2_with fail
   clear p_0 p_1 p_2 p_3 p_4 p_5 p_6 p_7
   exact bodyPost_ret (Ds.res_box Tryz.results45 rfl (B42.put d (.slice A nm c)).1) rfl ⟨_,by rw [hT],by rw [hT]; exact HA0.out.keep (putW_low (n:=w.heap.size + 2) hb2 (by omega)),putW_low hb2 (by omega)⟩
 by_cases hk2 : kind = 11
 ·clear hk
  have hk:=hk2
  subst hk
  have cc:=fun w' (hb : Below w.heap.size w w') => Ds.remove_any d (.slice A d.ms.length c) id w' (h.keep hb) (Dp.isD_fit hd)
  have hturn : turnD d ⟨11,client,seq,key,til,val,old,has,lim,id,node⟩ = if (removeD d id).2 = 0 then (removeD d id).1 else d:=by unfold turnD changeD; rfl
  obtain ⟨⟨g,en⟩,hG⟩ : ∃ p,removeD d id = p:=⟨_,rfl⟩
  rw [hG] at cc hturn
  simp only at hturn
  have HA0:=Lib.hid h
  rw [hnm] at cc HA0 ⊢
  clear h hd hG
  obtain ⟨TD,hTD⟩ : ∃ t,turnD d ⟨11,client,seq,key,til,val,old,has,lim,id,node⟩ = t:=⟨_,rfl⟩
  rw [hTD] at hturn ⊢
  have HT:=Lib.hid hturn
  clear hTD hturn hnm
  obtain ⟨W0,hW0⟩ : ∃ W0,(((w.alloc (.cells #[.int .i64 d.id,.string d.f,.string d.t,.int .i64 d.gen,(.slice A nm c),.int .i64 d.next] 26)).alloc (.cells #[.int .i64 11,.int .i64 client,.int .i64 seq,.string key,.string til,.string val,.string old,.bool has,.int .i64 lim,.int .i64 id,.int .i64 node] 40)).alloc (.cells #[.int .i64 0,.string ⟨#[]⟩,.string ⟨#[]⟩,.int .i64 0,.slice none 0 0,.int .i64 0] 26)).alloc (.cells #[.int .i64 d.id,.string d.f,.string d.t,.int .i64 d.gen,(.slice A nm c),.int .i64 d.next] 26) = W0:=⟨_,rfl⟩
  have hb0 : Below w.heap.size w W0:=hW0 ▸ (by exact bex0)
  have BD : BoxE w.heap.size d (.slice A nm c) W0:=hW0 ▸ (((BoxE.new w d (.slice A nm c)).alloc _).alloc _).alloc _
  have BA : BoxA (w.heap.size + 1) ⟨11,client,seq,key,til,val,old,has,lim,id,node⟩ W0:=by
   have:=((BoxA.new (w.alloc (.cells #[.int .i64 d.id,.string d.f,.string d.t,.int .i64 d.gen,(.slice A nm c),.int .i64 d.next] 26)) ⟨11,client,seq,key,til,val,old,has,lim,id,node⟩).alloc (.cells #[.int .i64 0,.string ⟨#[]⟩,.string ⟨#[]⟩,.int .i64 0,.slice none 0 0,.int .i64 0] 26)).alloc (.cells #[.int .i64 d.id,.string d.f,.string d.t,.int .i64 d.gen,(.slice A nm c),.int .i64 d.next] 26)
   rw [World.size_alloc] at this
   rw [<- hW0]
   exact this
  have B4 : BoxE (w.heap.size + 2) De.zero (.slice none 0 0) W0:=by
   have:=(BoxE.new ((w.alloc (.cells #[.int .i64 d.id,.string d.f,.string d.t,.int .i64 d.gen,(.slice A nm c),.int .i64 d.next] 26)).alloc (.cells #[.int .i64 11,.int .i64 client,.int .i64 seq,.string key,.string til,.string val,.string old,.bool has,.int .i64 lim,.int .i64 id,.int .i64 node] 40)) De.zero (.slice none 0 0)).alloc (.cells #[.int .i64 d.id,.string d.f,.string d.t,.int .i64 d.gen,(.slice A nm c),.int .i64 d.next] 26)
   rw [World.size_alloc,World.size_alloc] at this
   rw [<- hW0]
   exact this
  have B5 : BoxE (w.heap.size + 3) d (.slice A nm c) W0:=by
   have:=BoxE.new (((w.alloc (.cells #[.int .i64 d.id,.string d.f,.string d.t,.int .i64 d.gen,(.slice A nm c),.int .i64 d.next] 26)).alloc (.cells #[.int .i64 11,.int .i64 client,.int .i64 seq,.string key,.string til,.string val,.string old,.bool has,.int .i64 lim,.int .i64 id,.int .i64 node] 40)).alloc (.cells #[.int .i64 0,.string ⟨#[]⟩,.string ⟨#[]⟩,.int .i64 0,.slice none 0 0,.int .i64 0] 26)) d (.slice A nm c)
   rw [World.size_alloc,World.size_alloc,World.size_alloc] at this
   rw [<- hW0]
   exact this
  obtain ⟨⟨p_0,⟨p_1,p_2,p_3,p_4,p_5,p_6⟩,p_7⟩,-⟩:=_root_.id BD
  obtain ⟨q_0,⟨q_1,q_2,q_3,q_4,q_5,q_6,q_7,q_8,q_9,q_10,q_11⟩,q_12⟩:=_root_.id BA
  go_enter Tryz.func45,Tryz.ntmps45
  go_wp2_with fail
  try rw [hW0]
  refine (cc _ hb0).mono ?_
  rintro e' w1 ⟨s',rfl,ha,b1⟩
  obtain ⟨G,cg,rfl⟩:=ha.form
  obtain ⟨ng,hng⟩ : ∃ n,g.ms.length = n:=⟨_,rfl⟩
  simp only at ha
  rw [hng] at ha
  simp only [hng]
  have BD1:=BD.keep b1
  have B41:=B4.keep b1
  have B51:=B5.keep b1
  have hb1:=hb0.trans (b1.mono hb0.size)
  clear p_0 p_1 p_2 p_3 p_4 p_5 p_6 p_7
  clear q_0 q_1 q_2 q_3 q_4 q_5 q_6 q_7 q_8 q_9 q_10 q_11 q_12
  clear cc b1 BD BA B4 B5 hb0 hW0 hng
  obtain ⟨W2,hW2⟩ : ∃ W2,(((((w1.setCell ⟨w.heap.size + 3,0,none⟩ (.int .i64 g.id)).setCell ⟨w.heap.size + 3,1,none⟩ (.string g.f)).setCell ⟨w.heap.size + 3,2,none⟩ (.string g.t)).setCell ⟨w.heap.size + 3,3,none⟩ (.int .i64 g.gen)).setCell ⟨w.heap.size + 3,4,none⟩ (.slice G ng cg)).setCell ⟨w.heap.size + 3,5,none⟩ (.int .i64 g.next) = W2:=⟨_,rfl⟩
  have e2 : putW w1 (w.heap.size + 3) g (.slice G ng cg) = W2:=hW2
  have B52 : BoxE (w.heap.size + 3) g (.slice G ng cg) W2:=e2 ▸ B51.put g (.slice G ng cg)
  have ha2 : ArgM W2 (.slice G ng cg) g.ms:=e2 ▸ B51.put_arg ⟨_,_,_,rfl⟩ ha
  have BD2 : BoxE w.heap.size d (.slice A nm c) W2:=e2 ▸ boxE_far BD1 (by omega)
  have B42 : BoxE (w.heap.size + 2) De.zero (.slice none 0 0) W2:=e2 ▸ boxE_far B41 (by omega)
  have hb2 : Below w.heap.size w W2:=e2 ▸ putW_low hb1 (by omega)
  obtain ⟨⟨p_0,⟨p_1,p_2,p_3,p_4,p_5,p_6⟩,p_7⟩,-⟩:=_root_.id B51
  have hE : en = 0 \/ ¬ en = 0:=by omega
  rcases hE with rfl | hE
  ·have hT : TD = g:=HT.out
   clear HT
   obtain ⟨⟨q_0,⟨q_1,q_2,q_3,q_4,q_5,q_6⟩,q_7⟩,-⟩:=_root_.id B52
   obtain ⟨⟨r_0,⟨r_1,r_2,r_3,r_4,r_5,r_6⟩,r_7⟩,-⟩:=_root_.id B42
   go_wp2_with fail
   try rw [hW2]
   clear hW2 e2
   go_wp2_with fail
   clear p_0 p_1 p_2 p_3 p_4 p_5 p_6 p_7
   exact bodyPost_ret (Ds.res_box Tryz.results45 rfl (B42.put g (.slice G ng cg)).1) rfl ⟨_,by rw [hT],by rw [hT]; exact B42.put_arg ⟨_,_,_,rfl⟩ ha2,putW_low hb2 (by omega)⟩
  ·have hT : TD = d:=HT.out.trans (if_neg hE)
   have n1 : (en == 0) = false:=by simpa using hE
   have n2 : (en != 0) = true:=by simpa using hE
   have n3 : (en = 0) = False:=eq_false hE
   clear HT hE
   obtain ⟨⟨q_0,⟨q_1,q_2,q_3,q_4,q_5,q_6⟩,q_7⟩,-⟩:=_root_.id BD2
   obtain ⟨⟨r_0,⟨r_1,r_2,r_3,r_4,r_5,r_6⟩,r_7⟩,-⟩:=_root_.id B42
   go_wp2_with fail
   try rw [hW2]
   clear hW2 e2
   go_wp2_with fail
   clear p_0 p_1 p_2 p_3 p_4 p_5 p_6 p_7
   exact bodyPost_ret (Ds.res_box Tryz.results45 rfl (B42.put d (.slice A nm c)).1) rfl ⟨_,by rw [hT],by rw [hT]; exact HA0.out.keep (putW_low (n:=w.heap.size + 2) hb2 (by omega)),putW_low hb2 (by omega)⟩
 have k10 : (kind == 10) = false:=by simpa using hk
 have k11 : (kind == 11) = false:=by simpa using hk2
 rw [show turnD d ⟨kind,client,seq,key,til,val,old,has,lim,id,node⟩ = d by unfold turnD isCh; rw [if_neg (by simp; omega)]]
 have HA0:=Lib.hid h
 rw [hnm] at HA0 ⊢
 clear h hd hnm hk hk2
 obtain ⟨W0,hW0⟩ : ∃ W0,(((w.alloc (.cells #[.int .i64 d.id,.string d.f,.string d.t,.int .i64 d.gen,(.slice A nm c),.int .i64 d.next] 26)).alloc (.cells #[.int .i64 kind,.int .i64 client,.int .i64 seq,.string key,.string til,.string val,.string old,.bool has,.int .i64 lim,.int .i64 id,.int .i64 node] 40)).alloc (.cells #[.int .i64 0,.string ⟨#[]⟩,.string ⟨#[]⟩,.int .i64 0,.slice none 0 0,.int .i64 0] 26)).alloc (.cells #[.int .i64 d.id,.string d.f,.string d.t,.int .i64 d.gen,(.slice A nm c),.int .i64 d.next] 26) = W0:=⟨_,rfl⟩
 have hb0 : Below w.heap.size w W0:=hW0 ▸ (by exact bex0)
 have BD : BoxE w.heap.size d (.slice A nm c) W0:=hW0 ▸ (((BoxE.new w d (.slice A nm c)).alloc _).alloc _).alloc _
 have BA : BoxA (w.heap.size + 1) ⟨kind,client,seq,key,til,val,old,has,lim,id,node⟩ W0:=by
  have:=((BoxA.new (w.alloc (.cells #[.int .i64 d.id,.string d.f,.string d.t,.int .i64 d.gen,(.slice A nm c),.int .i64 d.next] 26)) ⟨kind,client,seq,key,til,val,old,has,lim,id,node⟩).alloc (.cells #[.int .i64 0,.string ⟨#[]⟩,.string ⟨#[]⟩,.int .i64 0,.slice none 0 0,.int .i64 0] 26)).alloc (.cells #[.int .i64 d.id,.string d.f,.string d.t,.int .i64 d.gen,(.slice A nm c),.int .i64 d.next] 26)
  rw [World.size_alloc] at this
  rw [<- hW0]
  exact this
 have B4 : BoxE (w.heap.size + 2) De.zero (.slice none 0 0) W0:=by
  have:=(BoxE.new ((w.alloc (.cells #[.int .i64 d.id,.string d.f,.string d.t,.int .i64 d.gen,(.slice A nm c),.int .i64 d.next] 26)).alloc (.cells #[.int .i64 kind,.int .i64 client,.int .i64 seq,.string key,.string til,.string val,.string old,.bool has,.int .i64 lim,.int .i64 id,.int .i64 node] 40)) De.zero (.slice none 0 0)).alloc (.cells #[.int .i64 d.id,.string d.f,.string d.t,.int .i64 d.gen,(.slice A nm c),.int .i64 d.next] 26)
  rw [World.size_alloc,World.size_alloc] at this
  rw [<- hW0]
  exact this
 have B5 : BoxE (w.heap.size + 3) d (.slice A nm c) W0:=by
  have:=BoxE.new (((w.alloc (.cells #[.int .i64 d.id,.string d.f,.string d.t,.int .i64 d.gen,(.slice A nm c),.int .i64 d.next] 26)).alloc (.cells #[.int .i64 kind,.int .i64 client,.int .i64 seq,.string key,.string til,.string val,.string old,.bool has,.int .i64 lim,.int .i64 id,.int .i64 node] 40)).alloc (.cells #[.int .i64 0,.string ⟨#[]⟩,.string ⟨#[]⟩,.int .i64 0,.slice none 0 0,.int .i64 0] 26)) d (.slice A nm c)
  rw [World.size_alloc,World.size_alloc,World.size_alloc] at this
  rw [<- hW0]
  exact this
 obtain ⟨q_0,⟨q_1,q_2,q_3,q_4,q_5,q_6,q_7,q_8,q_9,q_10,q_11⟩,q_12⟩:=_root_.id BA
 obtain ⟨⟨p_0,⟨p_1,p_2,p_3,p_4,p_5,p_6⟩,p_7⟩,-⟩:=_root_.id B5
 obtain ⟨⟨r_0,⟨r_1,r_2,r_3,r_4,r_5,r_6⟩,r_7⟩,-⟩:=_root_.id B4
 go_enter Tryz.func45,Tryz.ntmps45
 go_wp2_with fail
 try rw [hW0]
 clear hW0
 go_wp2_with fail
 exact bodyPost_ret (Ds.res_box Tryz.results45 rfl (B4.put d (.slice A nm c)).1) rfl ⟨_,rfl,HA0.out.keep (putW_low (n:=w.heap.size + 2) hb0 (by omega)),putW_low hb0 (by omega)⟩
theorem boxE_set4 {n : Nat} {d : De} {s0 : Value} {w : World} (h : BoxE n d s0 w) (s : Value) : BoxE n d s (w.setCell ⟨n,4,none⟩ s):=by
 obtain ⟨⟨h0,⟨h1,h2,h3,h4,h5,h6⟩,hf⟩,hz⟩:=h
 refine ⟨⟨by simpa using h0,⟨?_,?_,?_,?_,?_,?_⟩,fun o => by simp [World.frozen?_setCell,hf]⟩,fun o ho => ?_⟩
 all_goals first | (simp [go_sem,h1,h2,h3,h4,h5,h6]; done) | skip
 have : (w.setCell ⟨n,4,none⟩ s).cell? ⟨n,o,none⟩ = w.cell? ⟨n,o,none⟩:=by
  simp [go_sem]
 rw [this]
 exact hz o ho
theorem boxE_other {n : Nat} {d : De} {s0 : Value} {w : World} (h : BoxE n d s0 w) {a : Addr} (ha : a.block ≠ n) (u : Value) : BoxE n d s0 (w.setCell a u) :=
 ⟨h.1.other ha u,fun o ho => by rw [World.cell?_setCell_far w a ⟨n,o,none⟩ u ha]; exact h.2 o ho⟩
theorem boxE_arg4 {n : Nat} {d : De} {w : World} {A : Option Addr} {a c : Nat} {v : Value} {ms : List Ds.Mem} (h : BoxE n d (.slice A a c) w) (ha : ArgM w v ms) (u : Value) : ArgM (w.setCell ⟨n,4,none⟩ u) v ms:=by
 cases ha with
 | nil => exact .nil
 | empty a c => exact .empty a c
 | some b o c ms hm =>
  refine .some b o _ ms ?_
  obtain ⟨A',c',hv,hc⟩:=hm
  refine ⟨A',c',hv,fun h0 => ?_⟩
  obtain ⟨b',o',e,hb,hcc⟩:=hc h0
  refine ⟨b',o',e,by simpa using hb,fun i hi => ?_⟩
  obtain ⟨g1,g2⟩:=hcc i hi
  have hne : n ≠ b':=fun e => by subst e; exact h.no_pair g1 g2 ⟨_,_,_,rfl⟩
  rw [World.cell?_setCell_far w ⟨n,4,none⟩ ⟨b',o' + i * 2,none⟩ _ hne,World.cell?_setCell_far w ⟨n,4,none⟩ ⟨b',o' + i * 2 + 1,none⟩ _ hne]
  exact ⟨g1,g2⟩
set_option maxHeartbeats 16000000 in
set_option maxRecDepth 100000 in
theorem of_any (d : De) (s : Value) (v : Value) (l : List En) (w : World) (h : ArgM w s d.ms) (hd : isD d = true) (hl : SE w w.heap.size v l) (hn : l.length <= 1000000) (ht : ∀ e ∈ l,e.2.size <= 140737488355328) (hg : Good w) :
  Calls Tryz.prog 13 #[dv d s,v] w (GaveX w (ofD d l)):=by
 obtain ⟨A,c,rfl⟩:=h.form
 obtain ⟨V,cv,rfl⟩:=hl.form
 have cC:=fun w' (hb : Below w.heap.size w w') => Ds.clone_any (.slice A d.ms.length c) d.ms w' (h.keep hb) (by have:=(Dp.isD_sizes hd).2.2; omega)
 obtain ⟨nm,hnm⟩ : ∃ n,d.ms.length = n:=⟨_,rfl⟩
 obtain ⟨nl,hnl⟩ : ∃ n,l.length = n:=⟨_,rfl⟩
 rw [hnm] at cC
 have HNL:=Lib.hid hnl
 have HSE:=Lib.hid hl
 have HHD:=Lib.hid hd
 have HTX:=Lib.hid ht
 have HG:=Lib.hid hg
 rw [hnl] at hn HSE ⊢
 rw [hnm]
 obtain ⟨W0,hW0⟩ : ∃ W0,(w.alloc (.cells #[.int .i64 d.id,.string d.f,.string d.t,.int .i64 d.gen,(.slice A nm c),.int .i64 d.next] 26)).alloc (.cells #[.int .i64 0,.string ⟨#[]⟩,.string ⟨#[]⟩,.int .i64 0,.slice none 0 0,.int .i64 0] 26) = W0:=⟨_,rfl⟩
 have hb0 : Below w.heap.size w W0:=hW0 ▸ (by exact bex0)
 have BD : BoxE w.heap.size d (.slice A nm c) W0:=hW0 ▸ (BoxE.new w d (.slice A nm c)).alloc _
 have B4 : BoxE (w.heap.size + 1) De.zero (.slice none 0 0) W0:=by
  have:=BoxE.new (w.alloc (.cells #[.int .i64 d.id,.string d.f,.string d.t,.int .i64 d.gen,(.slice A nm c),.int .i64 d.next] 26)) De.zero (.slice none 0 0)
  rw [World.size_alloc] at this
  rw [<- hW0]
  exact this
 clear h hd hl ht hg hnm hnl
 obtain ⟨⟨p_0,⟨p_1,p_2,p_3,p_4,p_5,p_6⟩,p_7⟩,-⟩:=_root_.id BD
 go_enter Tryz.func13,Tryz.ntmps13
 go_wp2_with fail
 try rw [hW0]
 refine (cC _ hb0).mono ?_
 rintro e' w1 ⟨v',rfl,ho,b1⟩
 have ha:=ArgM.of_own ho
 obtain ⟨G,cg,rfl⟩:=ha.form
 obtain ⟨ng,hng⟩ : ∃ n,d.ms.length = n:=⟨_,rfl⟩
 rw [hng] at ha ⊢
 have BD1:=BD.keep b1
 have B41:=B4.keep b1
 have hb1:=hb0.trans (b1.mono hb0.size)
 clear p_0 p_1 p_2 p_3 p_4 p_5 p_6 p_7
 clear cC b1 BD B4 hb0 hW0 hng ho
 have hst : ArgM (w1.setCell ⟨w.heap.size,4,none⟩ (.slice G ng cg)) (.slice G ng cg) d.ms /\ BoxE w.heap.size d (.slice G ng cg) (w1.setCell ⟨w.heap.size,4,none⟩ (.slice G ng cg)) /\ BoxE (w.heap.size + 1) De.zero (.slice none 0 0) (w1.setCell ⟨w.heap.size,4,none⟩ (.slice G ng cg)) /\ Below w.heap.size w (w1.setCell ⟨w.heap.size,4,none⟩ (.slice G ng cg)):=by
  refine ⟨boxE_arg4 BD1 ha _,boxE_set4 BD1 (.slice G ng cg),boxE_other B41 (by simp) _,hb1.setCell (p:=⟨w.heap.size,4,none⟩) (Nat.le_refl _) _⟩
 obtain ⟨W1,hW1⟩ : ∃ W1,w1.setCell ⟨w.heap.size,4,none⟩ (.slice G ng cg) = W1:=⟨_,rfl⟩
 rw [hW1] at hst
 obtain ⟨⟨p_0,⟨p_1,p_2,p_3,p_4,p_5,p_6⟩,p_7⟩,-⟩:=_root_.id BD1
 go_wp2_with fail
 try rw [hW1]
 clear p_0 p_1 p_2 p_3 p_4 p_5 p_6 p_7
 clear hW1 BD1 B41 hb1 ha
 go_loopw [15] (fun vi wr => ∃ (k : Nat) (B : Option Addr) (nb cb : Nat),k <= nl /\ vi = .int .i64 (k : Int) /\ Hid (ArgM wr (.slice B nb cb) (ofD d (l.take k)).ms) /\ BoxE w.heap.size (ofD d (l.take k)) (.slice B nb cb) wr /\ BoxE (w.heap.size + 1) De.zero (.slice none 0 0) wr /\ Below w.heap.size w wr) (fun vi _ => nl - (intOf vi).toNat)
 case atStart => exact ⟨0,G,ng,cg,Nat.zero_le _,rfl,Lib.hid hst.1,hst.2.1,hst.2.2.1,hst.2.2.2⟩
 case round =>
  obtain ⟨k,B,nb,cb,hk,rfl,HAR,BD,B4,hbw⟩:=hrel
  by_cases hlt : k < nl
  ·have hkl : k < l.length:=by rw [HNL.out]; exact hlt
   have hta:=ofD_take d l k hkl
   obtain ⟨b,o,hV,hb,q0,q1⟩:=HSE.out.at_ hkl
   have htx:=HTX.out _ (List.getElem_mem hkl)
   obtain ⟨⟨tm,tx⟩,hx⟩ : ∃ e,l[k] = e:=⟨_,rfl⟩
   rw [hx] at q0 q1 hta htx
   simp only at q0 q1 hta htx
   have hisD : isD (ofD d (l.take k)) = true:=of_is HHD.out
   obtain ⟨DK,hDK⟩ : ∃ e,ofD d (l.take k) = e:=⟨_,rfl⟩
   rw [hDK] at hta HAR BD hisD
   obtain ⟨⟨x',E⟩,hp⟩ : ∃ e,parseA tx.data.toList = e:=⟨_,rfl⟩
   have hstep : ofD d (l.take (k + 1)) = if E = 0 then turnD DK x' else DK:=by rw [hta]; unfold stepD; rw [hp]
   have g0:=(hbw.cell (p:=⟨b,o + k * 2,none⟩) hb).trans q0
   have g1:=(hbw.cell (p:=⟨b,o + k * 2 + 1,none⟩) hb).trans q1
   have hwz:=hbw.size
   have hbz : b < wr.heap.size:=by omega
   have k0 : (0 <= (k : Int)) = True:=eq_true (by omega)
   have k1 : ((k : Int) < (nl : Int)) = True:=eq_true (by omega)
   have hx1 : Below wr.heap.size wr (wr.alloc (.cells #[.int .i64 tm,.string tx] 47)):=(Below.refl _ wr).alloc (Nat.le_refl _) _
   have cP:=Od.parse_any tx (wr.alloc (.cells #[.int .i64 tm,.string tx] 47)) htx (HG.out.below (hbw.trans (hx1.mono hwz)))
   rw [hp] at cP
   simp only at cP
   have HST:=Lib.hid hstep
   have HIS:=Lib.hid hisD
   clear hta hx hDK hp hstep q0 q1 hst htx hkl hisD
   subst hV
   go_wp2_with fail
   refine cP.mono ?_
   rintro e' w3 ⟨rfl,b3⟩
   have h13:=hx1.trans (b3.mono hx1.size)
   have BD3:=BD.keep h13
   have B43:=B4.keep h13
   have hb3:=hbw.trans (h13.mono hwz)
   have HA3:=Lib.hid (HAR.out.keep h13)
   clear cP b3 hx1 g0 g1 hbz hb BD B4 HAR
   obtain ⟨W4,hW4⟩ : ∃ W4,w3.alloc (.cells #[.int .i64 x'.kind,.int .i64 x'.client,.int .i64 x'.seq,.string x'.key,.string x'.til,.string x'.val,.string x'.old,.bool x'.has,.int .i64 x'.lim,.int .i64 x'.id,.int .i64 x'.node] 40) = W4:=⟨_,rfl⟩
   have h34 : Below w3.heap.size w3 W4:=hW4 ▸ (Below.refl _ w3).alloc (Nat.le_refl _) _
   have BO : BoxA w3.heap.size x' W4:=hW4 ▸ BoxA.new w3 x'
   have BD4:=BD3.keep h34
   have B44:=B43.keep h34
   have hb4:=hb3.trans (h34.mono hb3.size)
   have HA4:=Lib.hid (HA3.out.keep h34)
   have hlt3:=BD3.1.1
   have hz4:=hb4.size
   clear h34 BD3 B43 hb3 HA3
   obtain ⟨⟨p_0,⟨p_1,p_2,p_3,p_4,p_5,p_6⟩,p_7⟩,-⟩:=_root_.id BD4
   obtain ⟨q_0,⟨q_1,q_2,q_3,q_4,q_5,q_6,q_7,q_8,q_9,q_10,q_11⟩,q_12⟩:=_root_.id BO
   by_cases hE : E = 0
   ·subst hE
    have hT : ofD d (l.take (k + 1)) = turnD DK x':=HST.out
    have HT:=Lib.hid hT
    have cC:=changed_any DK (.slice B nb cb) x' W4 HA4.out HIS.out
    clear HST hT
    go_wp2_with fail
    try rw [hW4]
    clear hW4
    go_wp2_with fail
    refine cC.mono ?_
    rintro e' w5 ⟨s5,rfl,ha5,b5⟩
    obtain ⟨G5,c5,rfl⟩:=ha5.form
    obtain ⟨TD,hTD⟩ : ∃ t,turnD DK x' = t:=⟨_,rfl⟩
    rw [hTD] at ha5
    simp only [hTD]
    rw [hTD] at HT
    obtain ⟨n5,hn5⟩ : ∃ n,TD.ms.length = n:=⟨_,rfl⟩
    rw [hn5] at ha5
    simp only [hn5]
    have BD5:=BD4.keep b5
    have B45:=B44.keep b5
    have hb5:=hb4.trans (b5.mono hb4.size)
    clear p_0 p_1 p_2 p_3 p_4 p_5 p_6 p_7
    clear q_0 q_1 q_2 q_3 q_4 q_5 q_6 q_7 q_8 q_9 q_10 q_11 q_12
    clear cC b5 BD4 B44 hb4 BO HA4 hn5 hTD
    have e6:=Lib.hid (show ∃ W6,putW w5 w.heap.size TD (.slice G5 n5 c5) = W6 from ⟨_,rfl⟩)
    obtain ⟨⟨p_0,⟨p_1,p_2,p_3,p_4,p_5,p_6⟩,p_7⟩,-⟩:=_root_.id BD5
    go_wp2_with fail
    go_roundw
    case rel =>
     refine ⟨k + 1,G5,n5,c5,by omega,by go_num,Lib.hid ?_,?_,?_,?_⟩
     ·rw [HT.out]; exact BD5.put_arg (d:=TD) (s:=.slice G5 n5 c5) ⟨_,_,_,rfl⟩ ha5
     ·rw [HT.out]; exact BD5.put TD (.slice G5 n5 c5)
     ·exact boxE_far (n:=w.heap.size) (g:=TD) (s:=.slice G5 n5 c5) B45 (by omega)
     ·exact putW_low (n:=w.heap.size) (d:=TD) (s:=.slice G5 n5 c5) hb5 (Nat.le_refl _)
    case measure => simp [intOf]; omega
   ·have hT : ofD d (l.take (k + 1)) = DK:=by rw [HST.out,if_neg hE]
    have HT:=Lib.hid hT
    have n1 : (E == 0) = false:=by simpa using hE
    have n2 : (E = 0) = False:=eq_false hE
    clear HST hT hE
    go_wp2_with fail
    try rw [hW4]
    clear hW4
    go_wp2_with fail
    go_roundw
    case rel => exact ⟨k + 1,B,nb,cb,by omega,by go_num,Lib.hid (by rw [HT.out]; exact HA4.out),by rw [HT.out]; exact BD4,B44,hb4⟩
    case measure => simp [intOf]; omega
  ·obtain rfl : k = nl:=by omega
   have htk : l.take k = l:=by rw [<- HNL.out]; exact List.take_length
   rw [htk] at HAR BD
   clear hlt hst htk
   obtain ⟨⟨p_0,⟨p_1,p_2,p_3,p_4,p_5,p_6⟩,p_7⟩,-⟩:=_root_.id BD
   obtain ⟨⟨r_0,⟨r_1,r_2,r_3,r_4,r_5,r_6⟩,r_7⟩,-⟩:=_root_.id B4
   obtain ⟨DD,hDD⟩ : ∃ t,ofD d l = t:=⟨_,rfl⟩
   rw [hDD] at HAR p_1 p_2 p_3 p_4 p_6
   have HDD:=Lib.hid hDD
   clear hDD
   go_wp2_with fail
   exact bodyPost_ret (Ds.res_box Tryz.results13 rfl (B4.put DD (.slice B nb cb)).1) rfl ⟨_,by rw [HDD.out],by rw [HDD.out]; exact B4.put_arg (d:=DD) (s:=.slice B nb cb) ⟨_,_,_,rfl⟩ HAR.out,putW_low (n:=w.heap.size + 1) hbw (by omega)⟩
end Go.Proofs.YthcmnkmfhgoddaaGreatDoor.Mb
