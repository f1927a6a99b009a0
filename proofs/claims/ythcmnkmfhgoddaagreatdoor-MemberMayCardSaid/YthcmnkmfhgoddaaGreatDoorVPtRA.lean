/-
  The document's moved; a plot's box in which no two integers stand side by side. Conditions: descriptors that may be.
  The document's does,at changes of members. Conditions: plots that may be.
-/
import Derived.Test.YthcmnkmfhgoddaaGreatDoorVPtNOA
import Derived.Test.YthcmnkmfhgoddaaGreatDoorVDpRfA
import Derived.Test.YthcmnkmfhgoddaaGreatDoorVDsREA
import Derived.Test.YthcmnkmfhgoddaaGreatDoorVMbOfA
namespace Go.Proofs.YthcmnkmfhgoddaaGreatDoor.Pt
open Go.RowKit Bnd
open Go.Proofs.YthcmnkmfhgoddaaGreatDoor.Ds (De SM ArgM putT isD dv BoxE BoxD)
open Go.Proofs.YthcmnkmfhgoddaaGreatDoor.Od (Rep BoxR rv E0)
open Go.Proofs.YthcmnkmfhgoddaaGreatDoor.Dp (Ph BoxP qv HA HP)
open Go.Proofs.YthcmnkmfhgoddaaGreatDoor.Ss (Zs SZ ArgZ)
set_option maxHeartbeats 4000000 in
theorem rmoved_any (o : Ph) (w : World) (h : HP w w.heap.size o) (hd : isD o.d = true) : Calls Tryz.prog 113 #[qv o] w fun e w' => e = .returned (rv (toldR 1 false (putT o.d)) (.slice none 0 0)) /\ Below w.heap.size w w':=by
 have cp:=fun w' (hb : Below w.heap.size w w') => rput_is o.d o.sm w' ((h.sm.below hb).more hb.size) hd
 obtain ⟨d,ps,zs,fr,ea,al,A,B,C,D,a,b,c,e,rfl⟩:=h.open
 simp only at cp hd ⊢
 obtain ⟨T,hT⟩ : ∃ T,txt (putT d) = T:=⟨_,rfl⟩
 rw [hT] at cp
 have hT' : toldR 1 false (putT d) = ⟨1,0,false,T,[]⟩:=by rw [<- hT]
 rw [hT']
 have R0:=BoxR.new (w.alloc (.cells #[.int .i64 d.id,.string d.f,.string d.t,.int .i64 d.gen,.slice A d.ms.length a,.int .i64 d.next,.slice B ps.length b,.slice C zs.length c,.bool fr,.slice D ea.length e,.int .i64 al] 38)) Od.Rep.zero (.slice none 0 0)
 rw [World.size_alloc] at R0
 obtain ⟨nm,hnm⟩ : ∃ n,d.ms.length = n:=⟨_,rfl⟩
 rw [hnm] at cp R0 ⊢
 clear h hd hT hT' hnm
 go_enter Tryz.func113,Tryz.ntmps113
 go_wp2_with fail
 refine (cp _ (by exact bex0)).mono ?_
 rintro e1 w1 ⟨rfl,b1⟩
 have R1:=R0.keep b1
 have hb1 : Below w.heap.size w w1:=(show Below w.heap.size w _ from (by exact bex0)).trans (b1.mono (by simp; omega))
 have hlt:=R1.1
 clear b1 R0 cp
 obtain ⟨q_0,⟨q_1,q_2,q_3,q_4,q_5⟩,q_6⟩:=_root_.id R1
 go_wp2_with fail
 exact bodyPost_ret (Od.res_BoxR Tryz.results113 rfl (BoxR.put R1 ⟨1,0,false,T,[]⟩ (.slice none 0 0))) rfl ⟨rfl,(by exact bex0)⟩
def BoxQ (n : Nat) (o : Ph) (w : World) : Prop:=BoxP n o w /\ ∀ i,11 <= i -> w.cell? ⟨n,i,none⟩ = none
theorem BoxQ.keep {n : Nat} {o : Ph} {w1 w2 : World} (h : BoxQ n o w1) (hb : Below w1.heap.size w1 w2) : BoxQ n o w2 :=
 ⟨h.1.keep hb,fun i hi => by rw [hb.cell (p:=⟨n,i,none⟩) h.1.1]; exact h.2 i hi⟩
theorem BoxQ.alloc {n : Nat} {o : Ph} {w1 : World} (h : BoxQ n o w1) (x : Obj) : BoxQ n o (w1.alloc x) :=
 h.keep ((Below.refl _ w1).alloc (Nat.le_refl _) x)
theorem BoxQ.new (w : World) (o : Ph) : BoxQ w.heap.size o (w.alloc (.cells #[.int .i64 o.d.id,.string o.d.f,.string o.d.t,.int .i64 o.d.gen,o.sm,.int .i64 o.d.next,o.sp,o.sz,.bool o.fr,o.se,.int .i64 o.al] 38)):=by
 refine ⟨BoxP.new w o,fun i hi => ?_⟩
 rw [World.cell?_alloc_new]
 match i,hi with
 | i + 11,_ => rfl
theorem BoxQ.other {n : Nat} {o : Ph} {w1 : World} (h : BoxQ n o w1) {a : Addr} (ha : a.block ≠ n) (u : Value) : BoxQ n o (w1.setCell a u) :=
 ⟨h.1.other ha u,fun i hi => by rw [World.cell?_setCell_far _ _ _ _ ha]; exact h.2 i hi⟩
theorem BoxQ.tail {n j : Nat} {w : World} {u : Value} (hj : j < 11) (h : ∀ i,11 <= i -> w.cell? ⟨n,i,none⟩ = none) : ∀ i,11 <= i -> (w.setCell ⟨n,j,none⟩ u).cell? ⟨n,i,none⟩ = none:=by
 intro i hi
 have e : (w.setCell ⟨n,j,none⟩ u).cell? ⟨n,i,none⟩ = w.cell? ⟨n,i,none⟩:=by simp [go_sem]
 rw [e]
 exact h i hi
theorem BoxQ.put {n : Nat} {o0 : Ph} {w1 : World} (h : BoxQ n o0 w1) (o : Ph) : BoxQ n o (putP w1 n o):=by
 refine ⟨h.1.put o,?_⟩
 unfold putP
 iterate 11 refine BoxQ.tail (by decide) ?_
 exact h.2
theorem BoxQ.d6 {n : Nat} {o : Ph} {w1 : World} (h : BoxQ n o w1) (d : De) (s : Value) : BoxQ n { o with d:=d,sm:=s } (Ds.putW w1 n d s):=by
 refine ⟨boxP_d6 h.1 d s,?_⟩
 unfold Ds.putW
 iterate 6 refine BoxQ.tail (by decide) ?_
 exact h.2
theorem BoxQ.no_pair {n : Nat} {o : Ph} {w : World} (h : BoxQ n o w) (h1 : ∃ A l c,o.sm = .slice A l c) (h2 : ∃ A l c,o.sp = .slice A l c) (h3 : ∃ A l c,o.se = .slice A l c) {i : Nat} {x y : Int} (g1 : w.cell? ⟨n,i,none⟩ = some (.int .i64 x)) (g2 : w.cell? ⟨n,i + 1,none⟩ = some (.int .i64 y)) : False:=by
 obtain ⟨⟨_,⟨c0,c1,c2,c3,c4,c5,c6,c7,c8,c9,c10⟩,_⟩,ht⟩:=h
 obtain ⟨A,l,c,h1⟩:=h1
 obtain ⟨A2,l2,c2',h2⟩:=h2
 obtain ⟨A3,l3,c3',h3⟩:=h3
 rw [h1] at c4
 rw [h2] at c6
 rw [h3] at c9
 match i,g1,g2 with
 | 0,_,g => rw [c1] at g; cases g
 | 1,g,_ => rw [c1] at g; cases g
 | 2,g,_ => rw [c2] at g; cases g
 | 3,_,g => rw [c4] at g; cases g
 | 4,g,_ => rw [c4] at g; cases g
 | 5,_,g => rw [c6] at g; cases g
 | 6,g,_ => rw [c6] at g; cases g
 | 7,_,g => rw [c8] at g; cases g
 | 8,g,_ => rw [c8] at g; cases g
 | 9,g,_ => rw [c9] at g; cases g
 | 10,_,g => rw [ht 11 (by omega)] at g; cases g
 | i + 11,g,_ => rw [ht (i + 11) (by omega)] at g; cases g
theorem BoxQ.offM {n : Nat} {o : Ph} {w : World} (h : BoxQ n o w) (h1 : ∃ A l c,o.sm = .slice A l c) (h2 : ∃ A l c,o.sp = .slice A l c) (h3 : ∃ A l c,o.se = .slice A l c) {s : Value} {ms : List Ds.Mem} (ha : ArgM w s ms) : OffV n s:=by
 cases ha with
 | nil => intro b o k c e hk; cases e
 | empty a c => intro b o k c' e hk; injection e with _ e2; omega
 | some b o c ms hm =>
  intro b1 o1 k c1 e hk hbn
  injection e with e1 e2 e3
  injection e1 with e1
  injection e1 with e4 e5
  subst e2
  obtain ⟨b',o2,e,hlt,q0,q1⟩:=hm.at_ (k:=0) hk
  cases e
  have hb : b = n:=by omega
  subst hb
  exact h.no_pair h1 h2 h3 q0 q1
theorem BoxQ.offZ {n : Nat} {o : Ph} {w : World} (h : BoxQ n o w) (h1 : ∃ A l c,o.sm = .slice A l c) (h2 : ∃ A l c,o.sp = .slice A l c) (h3 : ∃ A l c,o.se = .slice A l c) {s : Value} {zs : List Zs} (ha : ArgZ w s zs) : OffV n s :=
 argZ_off ha fun _ _ _ _ _ g0 g1 _ _ => h.no_pair h1 h2 h3 g0 g1
theorem but_putW {ns : List Nat} {W w : World} (h : But ns W w) {n : Nat} (hn : n ∈ ns) (d : De) (s : Value) : But ns W (Ds.putW w n d s):=by
 unfold Ds.putW
 iterate 6 refine But.set ?_ hn _
 exact h
theorem but_putF {ns : List Nat} {W w : World} (h : But ns W w) {n : Nat} (hn : n ∈ ns) (f : Fh) : But ns W (putF w n f):=by
 unfold putF
 iterate 13 refine But.set ?_ hn _
 exact h
theorem but_putP {ns : List Nat} {W w : World} (h : But ns W w) {n : Nat} (hn : n ∈ ns) (f : Ph) : But ns W (putP w n f):=by
 unfold putP
 iterate 11 refine But.set ?_ hn _
 exact h
theorem but_putR {ns : List Nat} {W w : World} (h : But ns W w) {n : Nat} (hn : n ∈ ns) (f : Rep) (s : Value) : But ns W (putR w n f s):=by
 unfold putR
 iterate 5 refine But.set ?_ hn _
 exact h
theorem But.boxE {ns : List Nat} {W w : World} (h : But ns W w) {n : Nat} {d : De} {s : Value} (hb : BoxE n d s W) (hn : n ∉ ns) : BoxE n d s w:=by
 obtain ⟨⟨h0,hc,hf⟩,ht⟩:=hb
 have e : ∀ o,w.cell? ⟨n,o,none⟩ = W.cell? ⟨n,o,none⟩:=fun o => h.cell (p:=⟨n,o,none⟩) h0 hn
 refine ⟨⟨Nat.lt_of_lt_of_le h0 h.size,?_,fun o => (h.frozen (p:=⟨n,o,none⟩) h0 hn).trans (hf o)⟩,fun i hi => (e i).trans (ht i hi)⟩
 simp only [e]
 exact hc
theorem But.boxA {ns : List Nat} {W w : World} (h : But ns W w) {n : Nat} {x : Od.Ask} (hb : Od.BoxA n x W) (hn : n ∉ ns) : Od.BoxA n x w:=by
 obtain ⟨h0,hc,hf⟩:=hb
 have e : ∀ o,w.cell? ⟨n,o,none⟩ = W.cell? ⟨n,o,none⟩:=fun o => h.cell (p:=⟨n,o,none⟩) h0 hn
 refine ⟨Nat.lt_of_lt_of_le h0 h.size,?_,fun o => (h.frozen (p:=⟨n,o,none⟩) h0 hn).trans (hf o)⟩
 simp only [e]
 exact hc
theorem But.boxQ {ns : List Nat} {W w : World} (h : But ns W w) {n : Nat} {o : Ph} (hb : BoxQ n o W) (hn : n ∉ ns) : BoxQ n o w :=
 ⟨h.boxP hb.1 hn,fun i hi => (h.cell (p:=⟨n,i,none⟩) hb.1.1 hn).trans (hb.2 i hi)⟩
theorem Held3.butl {w W W' : World} {o : Ph} {ns : List Nat} (h : Held3 w o W) (hb : But ns W W') (hn : ∀ n ∈ ns,w.heap.size + 4 < n) : Held3 w o W':=by
 have e : ∀ k,k <= w.heap.size + 4 -> k ∉ ns:=fun k hk hm => by have:=hn k hm; omega
 exact ⟨hb.boxP h.bp (e _ (by omega)),(hb.block _ (Array.getElem?_eq_some_iff.1 h.z4).1 (e _ (by omega))).trans h.z4,(hb.block _ (Array.getElem?_eq_some_iff.1 h.z5).1 (e _ (by omega))).trans h.z5,(hb.block _ (Array.getElem?_eq_some_iff.1 h.z6).1 (e _ (by omega))).trans h.z6⟩
end Go.Proofs.YthcmnkmfhgoddaaGreatDoor.Pt

namespace Go.Proofs.YthcmnkmfhgoddaaGreatDoor.Pt
open Go.RowKit Bnd
open Go.Proofs.YthcmnkmfhgoddaaGreatDoor.Ds (De SM ArgM putT isD dv addD removeD BoxE BoxD)
open Go.Proofs.YthcmnkmfhgoddaaGreatDoor.Od (Rep BoxR rv E0 av)
open Go.Proofs.YthcmnkmfhgoddaaGreatDoor.Dp (Ph BoxP qv HA HP)
theorem got_form (x : Option ByteArray) : ∃ v b,Dp.gotV x = .tuple #[.string v,.bool b]:=by
 cases x with
 | none => exact ⟨_,_,rfl⟩
 | some v => exact ⟨_,_,rfl⟩
def tc (o : Oc) : Value:=.tuple #[qv o.p,rv o.r o.rs,fv o.f]
theorem held_start (w : World) (o : Ph) (x : Od.Ask) {W0 : World} (hW0 : (((((w.alloc (.cells #[.int .i64 o.d.id,.string o.d.f,.string o.d.t,.int .i64 o.d.gen,o.sm,.int .i64 o.d.next,o.sp,o.sz,.bool o.fr,o.se,.int .i64 o.al] 38)).alloc (.cells #[.int .i64 x.kind,.int .i64 x.client,.int .i64 x.seq,.string x.key,.string x.til,.string x.val,.string x.old,.bool x.has,.int .i64 x.lim,.int .i64 x.id,.int .i64 x.node] 40)).alloc (.cells zP 38)).alloc (.cells zR 87)).alloc (.cells zF 93)).alloc (.cells zF 93) = W0) :
  Held3 w o W0 /\ BoxF (w.heap.size + 5) Fh.zero W0:=by
 have k : ∀ (w : World) (x y : Obj),((w.alloc x).alloc y).heap[w.heap.size]? = some x:=fun w x y => by
  rw [Below.heap_alloc _ _ _ (by simp)]; exact heap_alloc_new w x
 refine ⟨⟨?_,?_,?_,?_⟩,?_⟩
 ·rw [<- hW0]; exact (((((BoxP.new w o).alloc _).alloc _).alloc _).alloc _).alloc _
 ·rw [<- hW0,Below.heap_alloc _ _ _ (by simp),Below.heap_alloc _ _ _ (by simp),Below.heap_alloc _ _ _ (by simp)]
  have:=heap_alloc_new ((w.alloc (.cells #[.int .i64 o.d.id,.string o.d.f,.string o.d.t,.int .i64 o.d.gen,o.sm,.int .i64 o.d.next,o.sp,o.sz,.bool o.fr,o.se,.int .i64 o.al] 38)).alloc (.cells #[.int .i64 x.kind,.int .i64 x.client,.int .i64 x.seq,.string x.key,.string x.til,.string x.val,.string x.old,.bool x.has,.int .i64 x.lim,.int .i64 x.id,.int .i64 x.node] 40)) (.cells zP 38)
  simpa using this
 ·rw [<- hW0,Below.heap_alloc _ _ _ (by simp),Below.heap_alloc _ _ _ (by simp)]
  have:=heap_alloc_new (((w.alloc (.cells #[.int .i64 o.d.id,.string o.d.f,.string o.d.t,.int .i64 o.d.gen,o.sm,.int .i64 o.d.next,o.sp,o.sz,.bool o.fr,o.se,.int .i64 o.al] 38)).alloc (.cells #[.int .i64 x.kind,.int .i64 x.client,.int .i64 x.seq,.string x.key,.string x.til,.string x.val,.string x.old,.bool x.has,.int .i64 x.lim,.int .i64 x.id,.int .i64 x.node] 40)).alloc (.cells zP 38)) (.cells zR 87)
  simpa using this
 ·rw [<- hW0,Below.heap_alloc _ _ _ (by simp)]
  have:=heap_alloc_new ((((w.alloc (.cells #[.int .i64 o.d.id,.string o.d.f,.string o.d.t,.int .i64 o.d.gen,o.sm,.int .i64 o.d.next,o.sp,o.sz,.bool o.fr,o.se,.int .i64 o.al] 38)).alloc (.cells #[.int .i64 x.kind,.int .i64 x.client,.int .i64 x.seq,.string x.key,.string x.til,.string x.val,.string x.old,.bool x.has,.int .i64 x.lim,.int .i64 x.id,.int .i64 x.node] 40)).alloc (.cells zP 38)).alloc (.cells zR 87)) (.cells zF 93)
  simpa using this
 ·have:=BoxF.new (((((w.alloc (.cells #[.int .i64 o.d.id,.string o.d.f,.string o.d.t,.int .i64 o.d.gen,o.sm,.int .i64 o.d.next,o.sp,o.sz,.bool o.fr,o.se,.int .i64 o.al] 38)).alloc (.cells #[.int .i64 x.kind,.int .i64 x.client,.int .i64 x.seq,.string x.key,.string x.til,.string x.val,.string x.old,.bool x.has,.int .i64 x.lim,.int .i64 x.id,.int .i64 x.node] 40)).alloc (.cells zP 38)).alloc (.cells zR 87)).alloc (.cells zF 93)) Fh.zero
  rw [World.size_alloc,World.size_alloc,World.size_alloc,World.size_alloc,World.size_alloc] at this
  rw [<- hW0]
  exact this
set_option maxHeartbeats 32000000 in
set_option maxRecDepth 100000 in
theorem rdoes_add (o : Ph) (x : Od.Ask) (w : World) (h : HA w o) (hd : isD o.d = true) (hf : Dp.FitP o) (hk : x.kind = 10) :
  Calls Tryz.prog 116 #[qv o,av x] w fun e w' => ∃ s,e = .returned (tc (turnOc o (addD o.d x.node) s)) /\ ArgM w' s (addD o.d x.node).1.ms /\ Below w.heap.size w w':=by
 have hp:=h.hp
 have cG:=fun w' (hb : Below w.heap.size w w') => Dp.rget_any o x.key w' ((hp.below hb).more hb.size) hf
 obtain ⟨gv,gb,hgv⟩:=got_form (Sf.getP o.ps x.key)
 rw [hgv] at cG
 clear hgv hf
 have c1:=fun w' (hb : Below w.heap.size w w') => Ds.radd_any o.d o.sm x.node w' (h.sm.keep hb) (Dp.isD_fit hd)
 have hg : ∀ n,(addD o.d x.node).2 = n -> n = 0 -> isD (addD o.d x.node).1 = true:=fun n e h0 => (Mb.change_is (d:=o.d) (x:=(addD o.d x.node).1) (o:=x) (by unfold Mb.changeD; rw [hk]; simp; rw [<- h0,<- e])).1
 obtain ⟨⟨g,en⟩,hG⟩ : ∃ p,addD o.d x.node = p:=⟨_,rfl⟩
 have hnd:=add_nodes o.d x.node
 rw [hG] at c1 hg hnd ⊢
 have HND:=Lib.hid hnd
 clear hnd
 simp only at hg
 have c3:=fun n w' => rbad_any n w'
 have c4:=fun s w' (hs : SM w' w'.heap.size s g.ms) (h0 : en = 0) => rput_is g s w' hs (hg en rfl h0)
 clear hG hg h hd
 obtain ⟨kind,client,seq,key,til,val,old,has,lim,id,node⟩:=x
 simp only at hk c1 cG ⊢
 subst hk
 obtain ⟨d,ps,zs,fr,ea,al,A,B,C,D,a,b,c,e,rfl⟩:=hp.open
 simp only at c1 cG ⊢
 obtain ⟨nm,hnm⟩ : ∃ n,d.ms.length = n:=⟨_,rfl⟩
 obtain ⟨np,hnp⟩ : ∃ n,ps.length = n:=⟨_,rfl⟩
 obtain ⟨nz,hnz⟩ : ∃ n,zs.length = n:=⟨_,rfl⟩
 obtain ⟨ne,hne⟩ : ∃ n,ea.length = n:=⟨_,rfl⟩
 rw [hnm] at c1
 rw [hnm,hnp,hnz,hne] at cG ⊢
 clear hp hnm hnp hnz hne
 obtain ⟨W0,hW0⟩ : ∃ W0,(((((w.alloc (.cells #[.int .i64 d.id,.string d.f,.string d.t,.int .i64 d.gen,.slice A nm a,.int .i64 d.next,.slice B np b,.slice C nz c,.bool fr,.slice D ne e,.int .i64 al] 38)).alloc (.cells #[.int .i64 10,.int .i64 client,.int .i64 seq,.string key,.string til,.string val,.string old,.bool has,.int .i64 lim,.int .i64 id,.int .i64 node] 40)).alloc (.cells zP 38)).alloc (.cells zR 87)).alloc (.cells zF 93)).alloc (.cells zF 93) = W0:=⟨_,rfl⟩
 obtain ⟨W1,hW1⟩ : ∃ W1,(((((((((((((W0).setCell ⟨w.heap.size + 5,0,none⟩ (.bool false)).setCell ⟨w.heap.size + 5,1,none⟩ (.int .i64 0)).setCell ⟨w.heap.size + 5,2,none⟩ (.string ⟨#[]⟩)).setCell ⟨w.heap.size + 5,3,none⟩ (.string ⟨#[]⟩)).setCell ⟨w.heap.size + 5,4,none⟩ (.int .i64 0)).setCell ⟨w.heap.size + 5,5,none⟩ (.slice none 0 0)).setCell ⟨w.heap.size + 5,6,none⟩ (.int .i64 0)).setCell ⟨w.heap.size + 5,7,none⟩ (.slice none 0 0)).setCell ⟨w.heap.size + 5,8,none⟩ (.slice none 0 0)).setCell ⟨w.heap.size + 5,9,none⟩ (.bool false)).setCell ⟨w.heap.size + 5,10,none⟩ (.slice none 0 0)).setCell ⟨w.heap.size + 5,11,none⟩ (.int .i64 0)).setCell ⟨w.heap.size + 5,12,none⟩ (.int .i64 0) = W1:=⟨_,rfl⟩
 have hb0 : Below w.heap.size w W0:=hW0 ▸ (by exact bex0)
 have hz0 : W0.heap.size = w.heap.size + 6:=by rw [<- hW0]; simp
 have BQ0 : BoxQ w.heap.size ⟨d,.slice A nm a,ps,.slice B np b,zs,.slice C nz c,fr,ea,.slice D ne e,al⟩ W0:=hW0 ▸ (((((BoxQ.new w ⟨d,.slice A nm a,ps,.slice B np b,zs,.slice C nz c,fr,ea,.slice D ne e,al⟩).alloc _).alloc _).alloc _).alloc _).alloc _
 have BA0 : Od.BoxA (w.heap.size + 1) ⟨10,client,seq,key,til,val,old,has,lim,id,node⟩ W0:=by
  rw [<- hW0,<- World.size_alloc w (.cells #[.int .i64 d.id,.string d.f,.string d.t,.int .i64 d.gen,.slice A nm a,.int .i64 d.next,.slice B np b,.slice C nz c,.bool fr,.slice D ne e,.int .i64 al] 38)]
  exact ((((Od.BoxA.new _ ⟨10,client,seq,key,til,val,old,has,lim,id,node⟩).alloc _).alloc _).alloc _).alloc _
 obtain ⟨HB0,BF0⟩:=held_start w ⟨d,.slice A nm a,ps,.slice B np b,zs,.slice C nz c,fr,ea,.slice D ne e,al⟩ ⟨10,client,seq,key,til,val,old,has,lim,id,node⟩ hW0
 have e1 : putF W0 (w.heap.size + 5) Fh.zero = W1:=hW1
 have hbut1 : But [w.heap.size + 5] W0 W1:=e1 ▸ but_putF (But.refl _ _) (by simp) Fh.zero
 have BQ : BoxQ w.heap.size ⟨d,.slice A nm a,ps,.slice B np b,zs,.slice C nz c,fr,ea,.slice D ne e,al⟩ W1:=hbut1.boxQ BQ0 (by simp)
 have BA : Od.BoxA (w.heap.size + 1) ⟨10,client,seq,key,til,val,old,has,lim,id,node⟩ W1:=hbut1.boxA BA0 (by simp)
 have HB : Held3 w ⟨d,.slice A nm a,ps,.slice B np b,zs,.slice C nz c,fr,ea,.slice D ne e,al⟩ W1:=HB0.butl hbut1 (by simp)
 have BF : BoxF (w.heap.size + 5) ⟨false,⟨⟨0,⟨#[]⟩,⟨#[]⟩,0,[],0⟩,.slice none 0 0,[],.slice none 0 0,[],.slice none 0 0,false,[],.slice none 0 0,0⟩,0⟩ W1:=e1 ▸ BF0.put Fh.zero
 have hb1 : Below w.heap.size w W1:=hb0.trans (hbut1.below (by omega) (by simp))
 have hz1 : w.heap.size + 6 <= W1.heap.size:=by have:=hbut1.size; omega
 obtain ⟨u_0,⟨u_1,u_2,u_3,u_4,u_5,u_6,u_7,u_8,u_9,u_10,u_11,u_12,u_13⟩,u_14⟩:=_root_.id BF0
 simp only [Fh.zero,Dp.Ph.zero,De.zero] at u_1 u_2 u_3 u_4 u_5 u_6 u_7 u_8 u_9 u_10 u_11 u_12 u_13
 clear e1 hbut1 BQ0 BA0 HB0 BF0 hb0 hz0
 have BP:=BQ.1
 obtain ⟨p_0,⟨p_1,p_2,p_3,p_4,p_5,p_6,p_7,p_8,p_9,p_10,p_11⟩,p_12⟩:=_root_.id BP
 obtain ⟨q_0,⟨q_1,q_2,q_3,q_4,q_5,q_6,q_7,q_8,q_9,q_10,q_11⟩,q_12⟩:=_root_.id BA
 simp only [zP,zR,zF] at hW0
 go_enter Tryz.func116,Tryz.ntmps116
 go_wp2_with fail
 try rw [hW0]
 try go_wp2_with fail
 try rw [hW1]
 try go_wp2_with fail
 refine (cG _ hb1).mono ?_
 rintro e' w2 ⟨rfl,b2⟩
 have BQ2:=BQ.keep b2
 have BA2:=BA.keep b2
 have HB2:=HB.keep b2
 have BF2:=BF.keep b2
 have hb2:=hb1.trans (b2.mono hb1.size)
 have hz2 : w.heap.size + 6 <= w2.heap.size:=Nat.le_trans hz1 b2.size
 clear p_0 p_1 p_2 p_3 p_4 p_5 p_6 p_7 p_8 p_9 p_10 p_11 p_12
 clear q_0 q_1 q_2 q_3 q_4 q_5 q_6 q_7 q_8 q_9 q_10 q_11 q_12
 clear b2 cG BQ BA HB BF hb1 hz1 hW0 hW1 BP u_0 u_1 u_2 u_3 u_4 u_5 u_6 u_7 u_8 u_9 u_10 u_11 u_12 u_13 u_14
 have BP:=BQ2.1
 obtain ⟨p_0,⟨p_1,p_2,p_3,p_4,p_5,p_6,p_7,p_8,p_9,p_10,p_11⟩,p_12⟩:=_root_.id BP
 obtain ⟨q_0,⟨q_1,q_2,q_3,q_4,q_5,q_6,q_7,q_8,q_9,q_10,q_11⟩,q_12⟩:=_root_.id BA2
 go_wp2_with fail
 refine (c1 _ hb2).mono ?_
 rintro e' w3 ⟨s,rfl,ha,b3⟩
 obtain ⟨G,cg,rfl⟩:=ha.form
 have BQ3:=BQ2.keep b3
 have BA3:=BA2.keep b3
 have HB3:=HB2.keep b3
 have BF3:=BF2.keep b3
 have hb3:=hb2.trans (b3.mono hb2.size)
 have hz3 : w.heap.size + 6 <= w3.heap.size:=Nat.le_trans hz2 b3.size
 clear p_0 p_1 p_2 p_3 p_4 p_5 p_6 p_7 p_8 p_9 p_10 p_11 p_12
 clear q_0 q_1 q_2 q_3 q_4 q_5 q_6 q_7 q_8 q_9 q_10 q_11 q_12
 clear b3 c1 BQ2 BA2 HB2 BF2 hb2 hz2 BP
 simp only at ha
 obtain ⟨ng,hng⟩ : ∃ n,g.ms.length = n:=⟨_,rfl⟩
 rw [hng] at ha
 simp only [hng]
 clear hng
 obtain ⟨W4,hW4⟩ : ∃ W4,w3.alloc (.cells #[.int .i64 0,.string ⟨#[]⟩,.string ⟨#[]⟩,.int .i64 0,.slice none 0 0,.int .i64 0] 26) = W4:=⟨_,rfl⟩
 obtain ⟨W5,hW5⟩ : ∃ W5,((((((W4).setCell ⟨w3.heap.size,0,none⟩ (.int .i64 g.id)).setCell ⟨w3.heap.size,1,none⟩ (.string g.f)).setCell ⟨w3.heap.size,2,none⟩ (.string g.t)).setCell ⟨w3.heap.size,3,none⟩ (.int .i64 g.gen)).setCell ⟨w3.heap.size,4,none⟩ (.slice G ng cg)).setCell ⟨w3.heap.size,5,none⟩ (.int .i64 g.next) = W5:=⟨_,rfl⟩
 have h34 : Below w3.heap.size w3 W4:=hW4 ▸ (Below.refl _ w3).alloc (Nat.le_refl _) _
 have e5 : Ds.putW W4 w3.heap.size g (.slice G ng cg) = W5:=hW5
 have BX0 : BoxE w3.heap.size De.zero (.slice none 0 0) W4:=hW4 ▸ BoxE.new w3 De.zero (.slice none 0 0)
 have BX : BoxE w3.heap.size g (.slice G ng cg) W5:=e5 ▸ BX0.put g (.slice G ng cg)
 have hbut5 : But [w3.heap.size] W4 W5:=e5 ▸ but_putW (But.refl _ _) (by simp) g (.slice G ng cg)
 have BQ5:=hbut5.boxQ (BQ3.keep h34) (by simp; omega)
 have BA5:=hbut5.boxA (BA3.keep h34) (by simp; omega)
 have HB5:=(HB3.keep h34).butl hbut5 (by simp; omega)
 have BF5:=hbut5.boxF (BF3.keep h34) (by simp; omega)
 have hb5 : Below w.heap.size w W5:=(hb3.trans (h34.mono hb3.size)).trans (hbut5.below (by have:=hb3.size; have:=h34.size; omega) (by simp; omega))
 have hs5 : w3.heap.size < W5.heap.size:=BX.1.1
 have HS5 : ArgM W5 (.slice G ng cg) g.ms:=argM_but (ha.keep h34) (fun n hn => by simp only [List.mem_singleton] at hn; subst hn; exact argM_low ha (Nat.le_refl _)) hbut5
 have hb3z:=hb3.size
 clear e5 hbut5 h34 BQ3 BA3 HB3 BF3 hb3 ha
 have BP:=BQ5.1
 obtain ⟨p_0,⟨p_1,p_2,p_3,p_4,p_5,p_6,p_7,p_8,p_9,p_10,p_11⟩,p_12⟩:=_root_.id BP
 obtain ⟨q_0,⟨q_1,q_2,q_3,q_4,q_5,q_6,q_7,q_8,q_9,q_10,q_11⟩,q_12⟩:=_root_.id BA5
 obtain ⟨⟨v_0,⟨v_1,v_2,v_3,v_4,v_5,v_6⟩,v_7⟩,-⟩:=_root_.id BX0
 simp only [De.zero] at v_1 v_2 v_3 v_4 v_5 v_6
 clear BX0
 have BQ:=BQ5
 have HB:=HB5
 have BF:=BF5
 have hb:=hb5
 have HS:=HS5
 clear HB5 BF5 hb5 HS5
 have hoff:=HB.offM HS HND.out
 have hB4:=zP_box HB.z4
 have hB5:=zR_box HB.z5
 have hB6:=zF_box HB.z6
 have HSH:=Lib.hid HS
 have HOF:=Lib.hid hoff
 clear HB HS hoff
 by_cases hn : en = 0
 rotate_left
 ·have hT : turnOc ⟨d,.slice A nm a,ps,.slice B np b,zs,.slice C nz c,fr,ea,.slice D ne e,al⟩ (g,en) (.slice G ng cg) = ⟨⟨d,.slice A nm a,ps,.slice B np b,zs,.slice C nz c,fr,ea,.slice D ne e,al⟩,badR en,.slice none 0 0,⟨false,⟨⟨0,⟨#[]⟩,⟨#[]⟩,0,[],0⟩,.slice none 0 0,[],.slice none 0 0,[],.slice none 0 0,false,[],.slice none 0 0,0⟩,0⟩⟩:=if_neg hn
  have HT:=Lib.hid hT
  have n1 : (en == 0) = false:=by simpa using hn
  have n2 : (en != 0) = true:=by simpa using hn
  have n3 : (en = 0) = False:=eq_false hn
  clear hT hn c4
  have BPV:=BQ.1
  go_wp2_with fail
  try rw [hW4]
  try go_wp2_with fail
  try rw [hW5]
  try go_wp2_with fail
  clear p_0 p_1 p_2 p_3 p_4 p_5 p_6 p_7 p_8 p_9 p_10 p_11 p_12
  clear q_0 q_1 q_2 q_3 q_4 q_5 q_6 q_7 q_8 q_9 q_10 q_11 q_12
  clear v_0 v_1 v_2 v_3 v_4 v_5 v_6 v_7
  clear hW4 hW5 BP
  have BP:=BPV
  refine St.wp_region_mixed (R3 W5 (w.heap.size + 2) (w.heap.size + 3) (w.heap.size + 4) 4 5 6 ⟨d,.slice A nm a,ps,.slice B np b,zs,.slice C nz c,fr,ea,.slice D ne e,al⟩ (badR en) (.slice none 0 0) ⟨false,⟨⟨0,⟨#[]⟩,⟨#[]⟩,0,[],0⟩,.slice none 0 0,[],.slice none 0 0,[],.slice none 0 0,false,[],.slice none 0 0,0⟩,0⟩) (fun _ x => x = rv (badR en) (.slice none 0 0)) (by kernel_rfl) (by kernel_rfl) (by kernel_rfl) (R3.start W5 hB4 hB5 hB6) ?_
  apply St.mix_give
  ·rfl
  ·intro L u' wx hS hcl hrd hag
   obtain ⟨_,⟨d0,d1,d2,d3,d4,d5,d6,d7,d8,d9,d10⟩,_⟩:=hS.but.boxP BP (by simp)
   go_simp
   try with_reducible rfl
  ·exact fun L u' wx hS => hS.give (by decide) (by decide) (by decide) _
  simp only [Act.put,St.pu]
  apply St.mix_give
  ·rfl
  ·intro L u' wx hS hcl hrd hag
   skip
   go_simp
   try with_reducible rfl
  ·exact fun L u' wx hS => hS.give (by decide) (by decide) (by decide) _
  simp only [Act.put,St.pu]
  refine St.mix_into (v:=rv (badR en) (.slice none 0 0)) (f:=110) (args:=#[.int .i64 en]) rfl rfl ?_ ?_ ?_
  ·intro wx
   go_simp
   try with_reducible rfl
  ·intro L u' wx hS hcl hrd hag
   refine (c3 en wx).mono ?_
   rintro e' w' ⟨rfl,b⟩
   exact ⟨rfl,hS.call (by decide) (by decide) (by decide) b _⟩
  simp only [Act.put,St.pu]
  apply St.mix_give
  ·rfl
  ·intro L u' wx hS hcl hrd hag
   obtain ⟨_,⟨d0,d1,d2,d3,d4,d5,d6,d7,d8,d9,d10,d11,d12⟩,_⟩:=hS.but.boxF BF (by simp)
   go_simp
   try with_reducible rfl
  ·exact fun L u' wx hS => hS.give (by decide) (by decide) (by decide) _
  simp only [Act.put,St.pu]
  refine St.mix_skip rfl ?_ ?_
  ·intro L u' wx hS hcl hrd hag
   have hbx:=hS.b4
   rw [hrd.1] at hbx
   obtain ⟨z0,⟨z1,z2,z3,z4,z5,z6,z7,z8,z9,z10,z11⟩,zf⟩:=hbx
   refine ⟨putP wx (w.heap.size + 2) ⟨d,.slice A nm a,ps,.slice B np b,zs,.slice C nz c,fr,ea,.slice D ne e,al⟩,?_,hS.put4 (by decide) (by decide) (by omega) (by omega) _⟩
   go_simp
   first | with_reducible rfl | rfl | skip
  simp only [Act.put]
  refine St.mix_skip rfl ?_ ?_
  ·intro L u' wx hS hcl hrd hag
   have hbx:=hS.b5
   rw [hrd.1] at hbx
   obtain ⟨z0,⟨z1,z2,z3,z4,z5⟩,zf⟩:=hbx
   refine ⟨putR wx (w.heap.size + 3) (badR en) (.slice none 0 0),?_,hS.put5 (by decide) (by decide) (by omega) (by omega) _⟩
   go_simp
   first | with_reducible rfl | rfl | skip
  simp only [Act.put]
  refine St.mix_skip rfl ?_ ?_
  ·intro L u' wx hS hcl hrd hag
   have hbx:=hS.b6
   rw [hrd.1] at hbx
   obtain ⟨z0,⟨z1,z2,z3,z4,z5,z6,z7,z8,z9,z10,z11,z12,z13⟩,zf⟩:=hbx
   refine ⟨putF wx (w.heap.size + 4) ⟨false,⟨⟨0,⟨#[]⟩,⟨#[]⟩,0,[],0⟩,.slice none 0 0,[],.slice none 0 0,[],.slice none 0 0,false,[],.slice none 0 0,0⟩,0⟩,?_,hS.put6 (by decide) (by decide) (by omega) (by omega) _⟩
   go_simp
   first | with_reducible rfl | rfl | skip
  simp only [Act.put]
  refine St.mix_last ?_
  intro L wx hS hall
  obtain ⟨hbut,hX4,hX5,hX6⟩:=hS.fin (hall 4 (by decide)) (hall 5 (by decide)) (hall 6 (by decide))
  have hbw:=hbut.below (N:=w.heap.size) hb.size (by simp)
  go_wp2_with fail
  refine bodyPost_ret (res_three Tryz.results116 rfl rfl rfl hX4 hX5 hX6) rfl ⟨.slice G ng cg,by rw [HT.out]; rfl,argM_but HSH.out HOF.out hbut,hb.trans hbw⟩
 subst hn
 obtain ⟨TX,hTX⟩ : ∃ T,txt (putT g) = T:=⟨_,rfl⟩
 have hT : turnOc ⟨d,.slice A nm a,ps,.slice B np b,zs,.slice C nz c,fr,ea,.slice D ne e,al⟩ (g,0) (.slice G ng cg) = ⟨⟨g,.slice G ng cg,ps,.slice B np b,zs,.slice C nz c,fr,ea,.slice D ne e,al⟩,⟨0,0,false,TX,[]⟩,.slice none 0 0,⟨false,⟨⟨0,⟨#[]⟩,⟨#[]⟩,0,[],0⟩,.slice none 0 0,[],.slice none 0 0,[],.slice none 0 0,false,[],.slice none 0 0,0⟩,0⟩⟩:=by rw [<- hTX]; rfl
 have HT:=Lib.hid hT
 rw [hTX] at c4
 obtain ⟨W8,hW8⟩ : ∃ W8,((((((W5).setCell ⟨w.heap.size,0,none⟩ (.int .i64 g.id)).setCell ⟨w.heap.size,1,none⟩ (.string g.f)).setCell ⟨w.heap.size,2,none⟩ (.string g.t)).setCell ⟨w.heap.size,3,none⟩ (.int .i64 g.gen)).setCell ⟨w.heap.size,4,none⟩ (.slice G ng cg)).setCell ⟨w.heap.size,5,none⟩ (.int .i64 g.next) = W8:=⟨_,rfl⟩
 have e8 : Ds.putW W5 w.heap.size g (.slice G ng cg) = W8:=hW8
 have hbut8 : But [w.heap.size] W5 W8:=e8 ▸ but_putW (But.refl _ _) (by simp) g (.slice G ng cg)
 have BQ8 : BoxQ w.heap.size ⟨g,.slice G ng cg,ps,.slice B np b,zs,.slice C nz c,fr,ea,.slice D ne e,al⟩ W8:=e8 ▸ BQ.d6 g (.slice G ng cg)
 have BX8:=hbut8.boxE BX (by simp; omega)
 have BF8:=hbut8.boxF BF (by simp)
 have HS8 : ArgM W8 (.slice G ng cg) g.ms:=argM_but HSH.out (fun n hn => by simp only [List.mem_singleton] at hn; subst hn; exact BQ.offM ⟨_,_,_,rfl⟩ ⟨_,_,_,rfl⟩ ⟨_,_,_,rfl⟩ HSH.out) hbut8
 have hb8 : Below w.heap.size w W8:=hb.trans (hbut8.below hb.size (by simp))
 have hB48:=hbut8.boxP hB4 (by simp)
 have hB58:=hbut8.boxR hB5 (by simp)
 have hB68:=hbut8.boxF hB6 (by simp)
 have cp:=fun wx (hx : But [w.heap.size + 2,w.heap.size + 3,w.heap.size + 4] W8 wx) => c4 (.slice G ng cg) wx (argM_but HS8 HOF.out hx).sm rfl
 have HS8H:=Lib.hid HS8
 have hb8H:=Lib.hid hb8
 obtain ⟨⟨y_0,⟨y_1,y_2,y_3,y_4,y_5,y_6⟩,y_7⟩,-⟩:=_root_.id BX
 have e0 : (0 : Int) = 0:=rfl
 clear hT hTX c3 c4 e8 hbut8 HS8 hb8 hB4 hB5 hB6 BF BQ BX
 go_wp2_with fail
 try rw [hW4]
 try go_wp2_with fail
 try rw [hW5]
 try go_wp2_with fail
 try rw [hW8]
 try go_wp2_with fail
 clear p_0 p_1 p_2 p_3 p_4 p_5 p_6 p_7 p_8 p_9 p_10 p_11 p_12
 clear q_0 q_1 q_2 q_3 q_4 q_5 q_6 q_7 q_8 q_9 q_10 q_11 q_12
 clear v_0 v_1 v_2 v_3 v_4 v_5 v_6 v_7
 clear hW4 hW5 BP hW8 y_0 y_1 y_2 y_3 y_4 y_5 y_6 y_7
 have hB4:=hB48
 have hB5:=hB58
 have hB6:=hB68
 have BP:=BQ8.1
 have BF:=BF8
 clear hB48 hB58 hB68
 refine St.wp_region_mixed (R3 W8 (w.heap.size + 2) (w.heap.size + 3) (w.heap.size + 4) 5 6 7 ⟨g,.slice G ng cg,ps,.slice B np b,zs,.slice C nz c,fr,ea,.slice D ne e,al⟩ (⟨0,0,false,TX,[]⟩ : Rep) (.slice none 0 0) ⟨false,⟨⟨0,⟨#[]⟩,⟨#[]⟩,0,[],0⟩,.slice none 0 0,[],.slice none 0 0,[],.slice none 0 0,false,[],.slice none 0 0,0⟩,0⟩) (fun _ x => x = .string TX) (by kernel_rfl) (by kernel_rfl) (by kernel_rfl) (R3.start W8 hB4 hB5 hB6) ?_
 apply St.mix_give
 ·rfl
 ·intro L u' wx hS hcl hrd hag
  obtain ⟨_,⟨d0,d1,d2,d3,d4,d5,d6,d7,d8,d9,d10⟩,_⟩:=hS.but.boxP BP (by simp)
  go_simp
  try with_reducible rfl
 ·exact fun L u' wx hS => hS.give (by decide) (by decide) (by decide) _
 simp only [Act.put,St.pu]
 apply St.mix_give
 ·rfl
 ·intro L u' wx hS hcl hrd hag
  obtain ⟨_,⟨d0,d1,d2,d3,d4,d5⟩,_⟩:=(hS.but.boxE BX8 (by simp; omega)).1
  go_simp
  try with_reducible rfl
 ·exact fun L u' wx hS => hS.give (by decide) (by decide) (by decide) _
 simp only [Act.put,St.pu]
 refine St.mix_into (v:=.string TX) (f:=115) (args:=#[dv g (.slice G ng cg)]) rfl rfl ?_ ?_ ?_
 ·intro wx
  go_simp
  try with_reducible rfl
 ·intro L u' wx hS hcl hrd hag
  refine (cp wx hS.but).mono ?_
  rintro e' w' ⟨rfl,b⟩
  exact ⟨rfl,hS.call (by decide) (by decide) (by decide) b _⟩
 simp only [Act.put,St.pu]
 apply St.mix_give
 ·rfl
 ·intro L u' wx hS hcl hrd hag
  skip
  go_simp
  try with_reducible rfl
 ·exact fun L u' wx hS => hS.give (by decide) (by decide) (by decide) _
 simp only [Act.put,St.pu]
 apply St.mix_give
 ·rfl
 ·intro L u' wx hS hcl hrd hag
  obtain ⟨_,⟨d0,d1,d2,d3,d4,d5,d6,d7,d8,d9,d10,d11,d12⟩,_⟩:=hS.but.boxF BF (by simp)
  go_simp
  try with_reducible rfl
 ·exact fun L u' wx hS => hS.give (by decide) (by decide) (by decide) _
 simp only [Act.put,St.pu]
 refine St.mix_skip rfl ?_ ?_
 ·intro L u' wx hS hcl hrd hag
  have hbx:=hS.b4
  rw [hrd.1] at hbx
  obtain ⟨z0,⟨z1,z2,z3,z4,z5,z6,z7,z8,z9,z10,z11⟩,zf⟩:=hbx
  refine ⟨putP wx (w.heap.size + 2) ⟨g,.slice G ng cg,ps,.slice B np b,zs,.slice C nz c,fr,ea,.slice D ne e,al⟩,?_,hS.put4 (by decide) (by decide) (by omega) (by omega) _⟩
  go_simp
  first | with_reducible rfl | rfl | skip
 simp only [Act.put]
 refine St.mix_skip rfl ?_ ?_
 ·intro L u' wx hS hcl hrd hag
  have hbx:=hS.b5
  rw [hrd.1] at hbx
  obtain ⟨z0,⟨z1,z2,z3,z4,z5⟩,zf⟩:=hbx
  refine ⟨putR wx (w.heap.size + 3) (⟨0,0,false,TX,[]⟩ : Rep) (.slice none 0 0),?_,hS.put5 (by decide) (by decide) (by omega) (by omega) _⟩
  go_simp
  first | with_reducible rfl | rfl | skip
 simp only [Act.put]
 refine St.mix_skip rfl ?_ ?_
 ·intro L u' wx hS hcl hrd hag
  have hbx:=hS.b6
  rw [hrd.1] at hbx
  obtain ⟨z0,⟨z1,z2,z3,z4,z5,z6,z7,z8,z9,z10,z11,z12,z13⟩,zf⟩:=hbx
  refine ⟨putF wx (w.heap.size + 4) ⟨false,⟨⟨0,⟨#[]⟩,⟨#[]⟩,0,[],0⟩,.slice none 0 0,[],.slice none 0 0,[],.slice none 0 0,false,[],.slice none 0 0,0⟩,0⟩,?_,hS.put6 (by decide) (by decide) (by omega) (by omega) _⟩
  go_simp
  first | with_reducible rfl | rfl | skip
 simp only [Act.put]
 refine St.mix_last ?_
 intro L wx hS hall
 obtain ⟨hbut,hX4,hX5,hX6⟩:=hS.fin (hall 5 (by decide)) (hall 6 (by decide)) (hall 7 (by decide))
 have hbw:=hbut.below (N:=w.heap.size) hb8H.out.size (by simp)
 go_wp2_with fail
 refine bodyPost_ret (res_three Tryz.results116 rfl rfl rfl hX4 hX5 hX6) rfl ⟨.slice G ng cg,by rw [HT.out]; rfl,argM_but HS8H.out HOF.out hbut,hb8H.out.trans hbw⟩
set_option maxHeartbeats 32000000 in
set_option maxRecDepth 100000 in
theorem rdoes_remove (o : Ph) (x : Od.Ask) (w : World) (h : HA w o) (hd : isD o.d = true) (hf : Dp.FitP o) (hk : x.kind = 11) :
  Calls Tryz.prog 116 #[qv o,av x] w fun e w' => ∃ s,e = .returned (tc (turnOc o (removeD o.d x.id) s)) /\ ArgM w' s (removeD o.d x.id).1.ms /\ Below w.heap.size w w':=by
 have hp:=h.hp
 have cG:=fun w' (hb : Below w.heap.size w w') => Dp.rget_any o x.key w' ((hp.below hb).more hb.size) hf
 obtain ⟨gv,gb,hgv⟩:=got_form (Sf.getP o.ps x.key)
 rw [hgv] at cG
 clear hgv hf
 have c1:=fun w' (hb : Below w.heap.size w w') => Ds.radd_any o.d o.sm x.node w' (h.sm.keep hb) (Dp.isD_fit hd)
 have c2:=fun w' (hb : Below w.heap.size w w') => Ds.rremove_any o.d o.sm x.id w' (h.sm.keep hb) (Dp.isD_fit hd)
 have hg : ∀ n,(removeD o.d x.id).2 = n -> n = 0 -> isD (removeD o.d x.id).1 = true:=fun n e h0 => (Mb.change_is (d:=o.d) (x:=(removeD o.d x.id).1) (o:=x) (by unfold Mb.changeD; rw [hk]; simp; rw [<- h0,<- e])).1
 obtain ⟨⟨g,en⟩,hG⟩ : ∃ p,removeD o.d x.id = p:=⟨_,rfl⟩
 have hnd:=remove_nodes o.d x.id
 rw [hG] at c2 hg hnd ⊢
 have HND:=Lib.hid hnd
 clear hnd
 obtain ⟨⟨g0,en0⟩,hG0⟩ : ∃ p,addD o.d x.node = p:=⟨_,rfl⟩
 rw [hG0] at c1
 clear hG0
 simp only at hg
 have c3:=fun n w' => rbad_any n w'
 have c4:=fun s w' (hs : SM w' w'.heap.size s g.ms) (h0 : en = 0) => rput_is g s w' hs (hg en rfl h0)
 clear hG hg h hd
 obtain ⟨kind,client,seq,key,til,val,old,has,lim,id,node⟩:=x
 simp only at hk c1 cG c2 ⊢
 subst hk
 obtain ⟨d,ps,zs,fr,ea,al,A,B,C,D,a,b,c,e,rfl⟩:=hp.open
 simp only at c1 cG c2 ⊢
 obtain ⟨nm,hnm⟩ : ∃ n,d.ms.length = n:=⟨_,rfl⟩
 obtain ⟨np,hnp⟩ : ∃ n,ps.length = n:=⟨_,rfl⟩
 obtain ⟨nz,hnz⟩ : ∃ n,zs.length = n:=⟨_,rfl⟩
 obtain ⟨ne,hne⟩ : ∃ n,ea.length = n:=⟨_,rfl⟩
 rw [hnm] at c1 c2
 rw [hnm,hnp,hnz,hne] at cG ⊢
 clear hp hnm hnp hnz hne
 obtain ⟨W0,hW0⟩ : ∃ W0,(((((w.alloc (.cells #[.int .i64 d.id,.string d.f,.string d.t,.int .i64 d.gen,.slice A nm a,.int .i64 d.next,.slice B np b,.slice C nz c,.bool fr,.slice D ne e,.int .i64 al] 38)).alloc (.cells #[.int .i64 11,.int .i64 client,.int .i64 seq,.string key,.string til,.string val,.string old,.bool has,.int .i64 lim,.int .i64 id,.int .i64 node] 40)).alloc (.cells zP 38)).alloc (.cells zR 87)).alloc (.cells zF 93)).alloc (.cells zF 93) = W0:=⟨_,rfl⟩
 obtain ⟨W1,hW1⟩ : ∃ W1,(((((((((((((W0).setCell ⟨w.heap.size + 5,0,none⟩ (.bool false)).setCell ⟨w.heap.size + 5,1,none⟩ (.int .i64 0)).setCell ⟨w.heap.size + 5,2,none⟩ (.string ⟨#[]⟩)).setCell ⟨w.heap.size + 5,3,none⟩ (.string ⟨#[]⟩)).setCell ⟨w.heap.size + 5,4,none⟩ (.int .i64 0)).setCell ⟨w.heap.size + 5,5,none⟩ (.slice none 0 0)).setCell ⟨w.heap.size + 5,6,none⟩ (.int .i64 0)).setCell ⟨w.heap.size + 5,7,none⟩ (.slice none 0 0)).setCell ⟨w.heap.size + 5,8,none⟩ (.slice none 0 0)).setCell ⟨w.heap.size + 5,9,none⟩ (.bool false)).setCell ⟨w.heap.size + 5,10,none⟩ (.slice none 0 0)).setCell ⟨w.heap.size + 5,11,none⟩ (.int .i64 0)).setCell ⟨w.heap.size + 5,12,none⟩ (.int .i64 0) = W1:=⟨_,rfl⟩
 have hb0 : Below w.heap.size w W0:=hW0 ▸ (by exact bex0)
 have hz0 : W0.heap.size = w.heap.size + 6:=by rw [<- hW0]; simp
 have BQ0 : BoxQ w.heap.size ⟨d,.slice A nm a,ps,.slice B np b,zs,.slice C nz c,fr,ea,.slice D ne e,al⟩ W0:=hW0 ▸ (((((BoxQ.new w ⟨d,.slice A nm a,ps,.slice B np b,zs,.slice C nz c,fr,ea,.slice D ne e,al⟩).alloc _).alloc _).alloc _).alloc _).alloc _
 have BA0 : Od.BoxA (w.heap.size + 1) ⟨11,client,seq,key,til,val,old,has,lim,id,node⟩ W0:=by
  rw [<- hW0,<- World.size_alloc w (.cells #[.int .i64 d.id,.string d.f,.string d.t,.int .i64 d.gen,.slice A nm a,.int .i64 d.next,.slice B np b,.slice C nz c,.bool fr,.slice D ne e,.int .i64 al] 38)]
  exact ((((Od.BoxA.new _ ⟨11,client,seq,key,til,val,old,has,lim,id,node⟩).alloc _).alloc _).alloc _).alloc _
 obtain ⟨HB0,BF0⟩:=held_start w ⟨d,.slice A nm a,ps,.slice B np b,zs,.slice C nz c,fr,ea,.slice D ne e,al⟩ ⟨11,client,seq,key,til,val,old,has,lim,id,node⟩ hW0
 have e1 : putF W0 (w.heap.size + 5) Fh.zero = W1:=hW1
 have hbut1 : But [w.heap.size + 5] W0 W1:=e1 ▸ but_putF (But.refl _ _) (by simp) Fh.zero
 have BQ : BoxQ w.heap.size ⟨d,.slice A nm a,ps,.slice B np b,zs,.slice C nz c,fr,ea,.slice D ne e,al⟩ W1:=hbut1.boxQ BQ0 (by simp)
 have BA : Od.BoxA (w.heap.size + 1) ⟨11,client,seq,key,til,val,old,has,lim,id,node⟩ W1:=hbut1.boxA BA0 (by simp)
 have HB : Held3 w ⟨d,.slice A nm a,ps,.slice B np b,zs,.slice C nz c,fr,ea,.slice D ne e,al⟩ W1:=HB0.butl hbut1 (by simp)
 have BF : BoxF (w.heap.size + 5) ⟨false,⟨⟨0,⟨#[]⟩,⟨#[]⟩,0,[],0⟩,.slice none 0 0,[],.slice none 0 0,[],.slice none 0 0,false,[],.slice none 0 0,0⟩,0⟩ W1:=e1 ▸ BF0.put Fh.zero
 have hb1 : Below w.heap.size w W1:=hb0.trans (hbut1.below (by omega) (by simp))
 have hz1 : w.heap.size + 6 <= W1.heap.size:=by have:=hbut1.size; omega
 obtain ⟨u_0,⟨u_1,u_2,u_3,u_4,u_5,u_6,u_7,u_8,u_9,u_10,u_11,u_12,u_13⟩,u_14⟩:=_root_.id BF0
 simp only [Fh.zero,Dp.Ph.zero,De.zero] at u_1 u_2 u_3 u_4 u_5 u_6 u_7 u_8 u_9 u_10 u_11 u_12 u_13
 clear e1 hbut1 BQ0 BA0 HB0 BF0 hb0 hz0
 have BP:=BQ.1
 obtain ⟨p_0,⟨p_1,p_2,p_3,p_4,p_5,p_6,p_7,p_8,p_9,p_10,p_11⟩,p_12⟩:=_root_.id BP
 obtain ⟨q_0,⟨q_1,q_2,q_3,q_4,q_5,q_6,q_7,q_8,q_9,q_10,q_11⟩,q_12⟩:=_root_.id BA
 simp only [zP,zR,zF] at hW0
 go_enter Tryz.func116,Tryz.ntmps116
 go_wp2_with fail
 try rw [hW0]
 try go_wp2_with fail
 try rw [hW1]
 try go_wp2_with fail
 refine (cG _ hb1).mono ?_
 rintro e' w2 ⟨rfl,b2⟩
 have BQ2:=BQ.keep b2
 have BA2:=BA.keep b2
 have HB2:=HB.keep b2
 have BF2:=BF.keep b2
 have hb2:=hb1.trans (b2.mono hb1.size)
 have hz2 : w.heap.size + 6 <= w2.heap.size:=Nat.le_trans hz1 b2.size
 clear p_0 p_1 p_2 p_3 p_4 p_5 p_6 p_7 p_8 p_9 p_10 p_11 p_12
 clear q_0 q_1 q_2 q_3 q_4 q_5 q_6 q_7 q_8 q_9 q_10 q_11 q_12
 clear b2 cG BQ BA HB BF hb1 hz1 hW0 hW1 BP u_0 u_1 u_2 u_3 u_4 u_5 u_6 u_7 u_8 u_9 u_10 u_11 u_12 u_13 u_14
 have BP:=BQ2.1
 obtain ⟨p_0,⟨p_1,p_2,p_3,p_4,p_5,p_6,p_7,p_8,p_9,p_10,p_11⟩,p_12⟩:=_root_.id BP
 obtain ⟨q_0,⟨q_1,q_2,q_3,q_4,q_5,q_6,q_7,q_8,q_9,q_10,q_11⟩,q_12⟩:=_root_.id BA2
 go_wp2_with fail
 refine (c1 _ hb2).mono ?_
 rintro e' w3 ⟨s,rfl,ha,b3⟩
 obtain ⟨G0,cg0,rfl⟩:=ha.form
 have BQ3:=BQ2.keep b3
 have BA3:=BA2.keep b3
 have HB3:=HB2.keep b3
 have BF3:=BF2.keep b3
 have hb3:=hb2.trans (b3.mono hb2.size)
 have hz3 : w.heap.size + 6 <= w3.heap.size:=Nat.le_trans hz2 b3.size
 clear p_0 p_1 p_2 p_3 p_4 p_5 p_6 p_7 p_8 p_9 p_10 p_11 p_12
 clear q_0 q_1 q_2 q_3 q_4 q_5 q_6 q_7 q_8 q_9 q_10 q_11 q_12
 clear b3 c1 BQ2 BA2 HB2 BF2 hb2 hz2 BP
 simp only at ha
 obtain ⟨ng0,hng⟩ : ∃ n,g0.ms.length = n:=⟨_,rfl⟩
 rw [hng] at ha
 simp only [hng]
 clear hng
 obtain ⟨W4,hW4⟩ : ∃ W4,w3.alloc (.cells #[.int .i64 0,.string ⟨#[]⟩,.string ⟨#[]⟩,.int .i64 0,.slice none 0 0,.int .i64 0] 26) = W4:=⟨_,rfl⟩
 obtain ⟨W5,hW5⟩ : ∃ W5,((((((W4).setCell ⟨w3.heap.size,0,none⟩ (.int .i64 g0.id)).setCell ⟨w3.heap.size,1,none⟩ (.string g0.f)).setCell ⟨w3.heap.size,2,none⟩ (.string g0.t)).setCell ⟨w3.heap.size,3,none⟩ (.int .i64 g0.gen)).setCell ⟨w3.heap.size,4,none⟩ (.slice G0 ng0 cg0)).setCell ⟨w3.heap.size,5,none⟩ (.int .i64 g0.next) = W5:=⟨_,rfl⟩
 have h34 : Below w3.heap.size w3 W4:=hW4 ▸ (Below.refl _ w3).alloc (Nat.le_refl _) _
 have e5 : Ds.putW W4 w3.heap.size g0 (.slice G0 ng0 cg0) = W5:=hW5
 have BX0 : BoxE w3.heap.size De.zero (.slice none 0 0) W4:=hW4 ▸ BoxE.new w3 De.zero (.slice none 0 0)
 have BX : BoxE w3.heap.size g0 (.slice G0 ng0 cg0) W5:=e5 ▸ BX0.put g0 (.slice G0 ng0 cg0)
 have hbut5 : But [w3.heap.size] W4 W5:=e5 ▸ but_putW (But.refl _ _) (by simp) g0 (.slice G0 ng0 cg0)
 have BQ5:=hbut5.boxQ (BQ3.keep h34) (by simp; omega)
 have BA5:=hbut5.boxA (BA3.keep h34) (by simp; omega)
 have HB5:=(HB3.keep h34).butl hbut5 (by simp; omega)
 have BF5:=hbut5.boxF (BF3.keep h34) (by simp; omega)
 have hb5 : Below w.heap.size w W5:=(hb3.trans (h34.mono hb3.size)).trans (hbut5.below (by have:=hb3.size; have:=h34.size; omega) (by simp; omega))
 have hs5 : w3.heap.size < W5.heap.size:=BX.1.1
 have HS5 : ArgM W5 (.slice G0 ng0 cg0) g0.ms:=argM_but (ha.keep h34) (fun n hn => by simp only [List.mem_singleton] at hn; subst hn; exact argM_low ha (Nat.le_refl _)) hbut5
 have hb3z:=hb3.size
 clear e5 hbut5 h34 BQ3 BA3 HB3 BF3 hb3 ha
 have BP:=BQ5.1
 obtain ⟨p_0,⟨p_1,p_2,p_3,p_4,p_5,p_6,p_7,p_8,p_9,p_10,p_11⟩,p_12⟩:=_root_.id BP
 obtain ⟨q_0,⟨q_1,q_2,q_3,q_4,q_5,q_6,q_7,q_8,q_9,q_10,q_11⟩,q_12⟩:=_root_.id BA5
 obtain ⟨⟨v_0,⟨v_1,v_2,v_3,v_4,v_5,v_6⟩,v_7⟩,-⟩:=_root_.id BX0
 simp only [De.zero] at v_1 v_2 v_3 v_4 v_5 v_6
 clear BX0
 go_wp2_with fail
 try rw [hW4]
 try go_wp2_with fail
 try rw [hW5]
 try go_wp2_with fail
 refine (c2 _ hb5).mono ?_
 rintro e' w6 ⟨s,rfl,ha,b6⟩
 obtain ⟨G,cg,rfl⟩:=ha.form
 clear p_0 p_1 p_2 p_3 p_4 p_5 p_6 p_7 p_8 p_9 p_10 p_11 p_12
 clear q_0 q_1 q_2 q_3 q_4 q_5 q_6 q_7 q_8 q_9 q_10 q_11 q_12
 clear v_0 v_1 v_2 v_3 v_4 v_5 v_6 v_7
 have BQ6:=BQ5.keep b6
 have BA6:=BA5.keep b6
 have HB6:=HB5.keep b6
 have BF6:=BF5.keep b6
 have BX6:=BX.keep b6
 have hb6:=hb5.trans (b6.mono hb5.size)
 have hs6 : w3.heap.size < w6.heap.size:=Nat.lt_of_lt_of_le hs5 b6.size
 clear hW4 hW5 b6 c2 BQ5 BA5 HB5 BF5 BX hb5 hs5 HS5 BP
 simp only at ha
 obtain ⟨ng,hng⟩ : ∃ n,g.ms.length = n:=⟨_,rfl⟩
 rw [hng] at ha
 simp only [hng]
 clear hng
 obtain ⟨W7,hW7⟩ : ∃ W7,((((((w6).setCell ⟨w3.heap.size,0,none⟩ (.int .i64 g.id)).setCell ⟨w3.heap.size,1,none⟩ (.string g.f)).setCell ⟨w3.heap.size,2,none⟩ (.string g.t)).setCell ⟨w3.heap.size,3,none⟩ (.int .i64 g.gen)).setCell ⟨w3.heap.size,4,none⟩ (.slice G ng cg)).setCell ⟨w3.heap.size,5,none⟩ (.int .i64 g.next) = W7:=⟨_,rfl⟩
 have e7 : Ds.putW w6 w3.heap.size g (.slice G ng cg) = W7:=hW7
 have BX : BoxE w3.heap.size g (.slice G ng cg) W7:=e7 ▸ BX6.put g (.slice G ng cg)
 have hbut7 : But [w3.heap.size] w6 W7:=e7 ▸ but_putW (But.refl _ _) (by simp) g (.slice G ng cg)
 have BQ:=hbut7.boxQ BQ6 (by simp; omega)
 have HB:=HB6.butl hbut7 (by simp; omega)
 have BF:=hbut7.boxF BF6 (by simp; omega)
 have hb : Below w.heap.size w W7:=hb6.trans (hbut7.below hb6.size (by simp; omega))
 have HS : ArgM W7 (.slice G ng cg) g.ms:=e7 ▸ BX6.put_arg ⟨_,_,_,rfl⟩ ha
 obtain ⟨⟨v_0,⟨v_1,v_2,v_3,v_4,v_5,v_6⟩,v_7⟩,-⟩:=_root_.id BX6
 have BP:=BQ6.1
 obtain ⟨p_0,⟨p_1,p_2,p_3,p_4,p_5,p_6,p_7,p_8,p_9,p_10,p_11⟩,p_12⟩:=_root_.id BP
 obtain ⟨q_0,⟨q_1,q_2,q_3,q_4,q_5,q_6,q_7,q_8,q_9,q_10,q_11⟩,q_12⟩:=_root_.id BA6
 clear e7 hbut7 HB6 BF6 hb6 ha BX6
 have hoff:=HB.offM HS HND.out
 have hB4:=zP_box HB.z4
 have hB5:=zR_box HB.z5
 have hB6:=zF_box HB.z6
 have HSH:=Lib.hid HS
 have HOF:=Lib.hid hoff
 clear HB HS hoff
 by_cases hn : en = 0
 rotate_left
 ·have hT : turnOc ⟨d,.slice A nm a,ps,.slice B np b,zs,.slice C nz c,fr,ea,.slice D ne e,al⟩ (g,en) (.slice G ng cg) = ⟨⟨d,.slice A nm a,ps,.slice B np b,zs,.slice C nz c,fr,ea,.slice D ne e,al⟩,badR en,.slice none 0 0,⟨false,⟨⟨0,⟨#[]⟩,⟨#[]⟩,0,[],0⟩,.slice none 0 0,[],.slice none 0 0,[],.slice none 0 0,false,[],.slice none 0 0,0⟩,0⟩⟩:=if_neg hn
  have HT:=Lib.hid hT
  have n1 : (en == 0) = false:=by simpa using hn
  have n2 : (en != 0) = true:=by simpa using hn
  have n3 : (en = 0) = False:=eq_false hn
  clear hT hn c4
  have BPV:=BQ.1
  go_wp2_with fail
  try rw [hW7]
  try go_wp2_with fail
  clear p_0 p_1 p_2 p_3 p_4 p_5 p_6 p_7 p_8 p_9 p_10 p_11 p_12
  clear q_0 q_1 q_2 q_3 q_4 q_5 q_6 q_7 q_8 q_9 q_10 q_11 q_12
  clear v_0 v_1 v_2 v_3 v_4 v_5 v_6 v_7
  clear hW7 BP
  have BP:=BPV
  refine St.wp_region_mixed (R3 W7 (w.heap.size + 2) (w.heap.size + 3) (w.heap.size + 4) 4 5 6 ⟨d,.slice A nm a,ps,.slice B np b,zs,.slice C nz c,fr,ea,.slice D ne e,al⟩ (badR en) (.slice none 0 0) ⟨false,⟨⟨0,⟨#[]⟩,⟨#[]⟩,0,[],0⟩,.slice none 0 0,[],.slice none 0 0,[],.slice none 0 0,false,[],.slice none 0 0,0⟩,0⟩) (fun _ x => x = rv (badR en) (.slice none 0 0)) (by kernel_rfl) (by kernel_rfl) (by kernel_rfl) (R3.start W7 hB4 hB5 hB6) ?_
  apply St.mix_give
  ·rfl
  ·intro L u' wx hS hcl hrd hag
   obtain ⟨_,⟨d0,d1,d2,d3,d4,d5,d6,d7,d8,d9,d10⟩,_⟩:=hS.but.boxP BP (by simp)
   go_simp
   try with_reducible rfl
  ·exact fun L u' wx hS => hS.give (by decide) (by decide) (by decide) _
  simp only [Act.put,St.pu]
  apply St.mix_give
  ·rfl
  ·intro L u' wx hS hcl hrd hag
   skip
   go_simp
   try with_reducible rfl
  ·exact fun L u' wx hS => hS.give (by decide) (by decide) (by decide) _
  simp only [Act.put,St.pu]
  refine St.mix_into (v:=rv (badR en) (.slice none 0 0)) (f:=110) (args:=#[.int .i64 en]) rfl rfl ?_ ?_ ?_
  ·intro wx
   go_simp
   try with_reducible rfl
  ·intro L u' wx hS hcl hrd hag
   refine (c3 en wx).mono ?_
   rintro e' w' ⟨rfl,b⟩
   exact ⟨rfl,hS.call (by decide) (by decide) (by decide) b _⟩
  simp only [Act.put,St.pu]
  apply St.mix_give
  ·rfl
  ·intro L u' wx hS hcl hrd hag
   obtain ⟨_,⟨d0,d1,d2,d3,d4,d5,d6,d7,d8,d9,d10,d11,d12⟩,_⟩:=hS.but.boxF BF (by simp)
   go_simp
   try with_reducible rfl
  ·exact fun L u' wx hS => hS.give (by decide) (by decide) (by decide) _
  simp only [Act.put,St.pu]
  refine St.mix_skip rfl ?_ ?_
  ·intro L u' wx hS hcl hrd hag
   have hbx:=hS.b4
   rw [hrd.1] at hbx
   obtain ⟨z0,⟨z1,z2,z3,z4,z5,z6,z7,z8,z9,z10,z11⟩,zf⟩:=hbx
   refine ⟨putP wx (w.heap.size + 2) ⟨d,.slice A nm a,ps,.slice B np b,zs,.slice C nz c,fr,ea,.slice D ne e,al⟩,?_,hS.put4 (by decide) (by decide) (by omega) (by omega) _⟩
   go_simp
   first | with_reducible rfl | rfl | skip
  simp only [Act.put]
  refine St.mix_skip rfl ?_ ?_
  ·intro L u' wx hS hcl hrd hag
   have hbx:=hS.b5
   rw [hrd.1] at hbx
   obtain ⟨z0,⟨z1,z2,z3,z4,z5⟩,zf⟩:=hbx
   refine ⟨putR wx (w.heap.size + 3) (badR en) (.slice none 0 0),?_,hS.put5 (by decide) (by decide) (by omega) (by omega) _⟩
   go_simp
   first | with_reducible rfl | rfl | skip
  simp only [Act.put]
  refine St.mix_skip rfl ?_ ?_
  ·intro L u' wx hS hcl hrd hag
   have hbx:=hS.b6
   rw [hrd.1] at hbx
   obtain ⟨z0,⟨z1,z2,z3,z4,z5,z6,z7,z8,z9,z10,z11,z12,z13⟩,zf⟩:=hbx
   refine ⟨putF wx (w.heap.size + 4) ⟨false,⟨⟨0,⟨#[]⟩,⟨#[]⟩,0,[],0⟩,.slice none 0 0,[],.slice none 0 0,[],.slice none 0 0,false,[],.slice none 0 0,0⟩,0⟩,?_,hS.put6 (by decide) (by decide) (by omega) (by omega) _⟩
   go_simp
   first | with_reducible rfl | rfl | skip
  simp only [Act.put]
  refine St.mix_last ?_
  intro L wx hS hall
  obtain ⟨hbut,hX4,hX5,hX6⟩:=hS.fin (hall 4 (by decide)) (hall 5 (by decide)) (hall 6 (by decide))
  have hbw:=hbut.below (N:=w.heap.size) hb.size (by simp)
  go_wp2_with fail
  refine bodyPost_ret (res_three Tryz.results116 rfl rfl rfl hX4 hX5 hX6) rfl ⟨.slice G ng cg,by rw [HT.out]; rfl,argM_but HSH.out HOF.out hbut,hb.trans hbw⟩
 subst hn
 obtain ⟨TX,hTX⟩ : ∃ T,txt (putT g) = T:=⟨_,rfl⟩
 have hT : turnOc ⟨d,.slice A nm a,ps,.slice B np b,zs,.slice C nz c,fr,ea,.slice D ne e,al⟩ (g,0) (.slice G ng cg) = ⟨⟨g,.slice G ng cg,ps,.slice B np b,zs,.slice C nz c,fr,ea,.slice D ne e,al⟩,⟨0,0,false,TX,[]⟩,.slice none 0 0,⟨false,⟨⟨0,⟨#[]⟩,⟨#[]⟩,0,[],0⟩,.slice none 0 0,[],.slice none 0 0,[],.slice none 0 0,false,[],.slice none 0 0,0⟩,0⟩⟩:=by rw [<- hTX]; rfl
 have HT:=Lib.hid hT
 rw [hTX] at c4
 obtain ⟨W8,hW8⟩ : ∃ W8,((((((W7).setCell ⟨w.heap.size,0,none⟩ (.int .i64 g.id)).setCell ⟨w.heap.size,1,none⟩ (.string g.f)).setCell ⟨w.heap.size,2,none⟩ (.string g.t)).setCell ⟨w.heap.size,3,none⟩ (.int .i64 g.gen)).setCell ⟨w.heap.size,4,none⟩ (.slice G ng cg)).setCell ⟨w.heap.size,5,none⟩ (.int .i64 g.next) = W8:=⟨_,rfl⟩
 have e8 : Ds.putW W7 w.heap.size g (.slice G ng cg) = W8:=hW8
 have hbut8 : But [w.heap.size] W7 W8:=e8 ▸ but_putW (But.refl _ _) (by simp) g (.slice G ng cg)
 have BQ8 : BoxQ w.heap.size ⟨g,.slice G ng cg,ps,.slice B np b,zs,.slice C nz c,fr,ea,.slice D ne e,al⟩ W8:=e8 ▸ BQ.d6 g (.slice G ng cg)
 have BX8:=hbut8.boxE BX (by simp; omega)
 have BF8:=hbut8.boxF BF (by simp)
 have HS8 : ArgM W8 (.slice G ng cg) g.ms:=argM_but HSH.out (fun n hn => by simp only [List.mem_singleton] at hn; subst hn; exact BQ.offM ⟨_,_,_,rfl⟩ ⟨_,_,_,rfl⟩ ⟨_,_,_,rfl⟩ HSH.out) hbut8
 have hb8 : Below w.heap.size w W8:=hb.trans (hbut8.below hb.size (by simp))
 have hB48:=hbut8.boxP hB4 (by simp)
 have hB58:=hbut8.boxR hB5 (by simp)
 have hB68:=hbut8.boxF hB6 (by simp)
 have cp:=fun wx (hx : But [w.heap.size + 2,w.heap.size + 3,w.heap.size + 4] W8 wx) => c4 (.slice G ng cg) wx (argM_but HS8 HOF.out hx).sm rfl
 have HS8H:=Lib.hid HS8
 have hb8H:=Lib.hid hb8
 obtain ⟨⟨y_0,⟨y_1,y_2,y_3,y_4,y_5,y_6⟩,y_7⟩,-⟩:=_root_.id BX
 obtain ⟨z_0,⟨z_1,z_2,z_3,z_4,z_5,z_6,z_7,z_8,z_9,z_10,z_11⟩,z_12⟩:=_root_.id BQ.1
 have e0 : (0 : Int) = 0:=rfl
 clear hT hTX c3 c4 e8 hbut8 HS8 hb8 hB4 hB5 hB6 BF BQ BX
 go_wp2_with fail
 try rw [hW7]
 try go_wp2_with fail
 try rw [hW8]
 try go_wp2_with fail
 clear p_0 p_1 p_2 p_3 p_4 p_5 p_6 p_7 p_8 p_9 p_10 p_11 p_12
 clear q_0 q_1 q_2 q_3 q_4 q_5 q_6 q_7 q_8 q_9 q_10 q_11 q_12
 clear v_0 v_1 v_2 v_3 v_4 v_5 v_6 v_7
 clear hW7 BP hW8 y_0 y_1 y_2 y_3 y_4 y_5 y_6 y_7 z_0 z_1 z_2 z_3 z_4 z_5 z_6 z_7 z_8 z_9 z_10 z_11 z_12
 have hB4:=hB48
 have hB5:=hB58
 have hB6:=hB68
 have BP:=BQ8.1
 have BF:=BF8
 clear hB48 hB58 hB68
 refine St.wp_region_mixed (R3 W8 (w.heap.size + 2) (w.heap.size + 3) (w.heap.size + 4) 5 6 7 ⟨g,.slice G ng cg,ps,.slice B np b,zs,.slice C nz c,fr,ea,.slice D ne e,al⟩ (⟨0,0,false,TX,[]⟩ : Rep) (.slice none 0 0) ⟨false,⟨⟨0,⟨#[]⟩,⟨#[]⟩,0,[],0⟩,.slice none 0 0,[],.slice none 0 0,[],.slice none 0 0,false,[],.slice none 0 0,0⟩,0⟩) (fun _ x => x = .string TX) (by kernel_rfl) (by kernel_rfl) (by kernel_rfl) (R3.start W8 hB4 hB5 hB6) ?_
 apply St.mix_give
 ·rfl
 ·intro L u' wx hS hcl hrd hag
  obtain ⟨_,⟨d0,d1,d2,d3,d4,d5,d6,d7,d8,d9,d10⟩,_⟩:=hS.but.boxP BP (by simp)
  go_simp
  try with_reducible rfl
 ·exact fun L u' wx hS => hS.give (by decide) (by decide) (by decide) _
 simp only [Act.put,St.pu]
 apply St.mix_give
 ·rfl
 ·intro L u' wx hS hcl hrd hag
  obtain ⟨_,⟨d0,d1,d2,d3,d4,d5⟩,_⟩:=(hS.but.boxE BX8 (by simp; omega)).1
  go_simp
  try with_reducible rfl
 ·exact fun L u' wx hS => hS.give (by decide) (by decide) (by decide) _
 simp only [Act.put,St.pu]
 refine St.mix_into (v:=.string TX) (f:=115) (args:=#[dv g (.slice G ng cg)]) rfl rfl ?_ ?_ ?_
 ·intro wx
  go_simp
  try with_reducible rfl
 ·intro L u' wx hS hcl hrd hag
  refine (cp wx hS.but).mono ?_
  rintro e' w' ⟨rfl,b⟩
  exact ⟨rfl,hS.call (by decide) (by decide) (by decide) b _⟩
 simp only [Act.put,St.pu]
 apply St.mix_give
 ·rfl
 ·intro L u' wx hS hcl hrd hag
  skip
  go_simp
  try with_reducible rfl
 ·exact fun L u' wx hS => hS.give (by decide) (by decide) (by decide) _
 simp only [Act.put,St.pu]
 apply St.mix_give
 ·rfl
 ·intro L u' wx hS hcl hrd hag
  obtain ⟨_,⟨d0,d1,d2,d3,d4,d5,d6,d7,d8,d9,d10,d11,d12⟩,_⟩:=hS.but.boxF BF (by simp)
  go_simp
  try with_reducible rfl
 ·exact fun L u' wx hS => hS.give (by decide) (by decide) (by decide) _
 simp only [Act.put,St.pu]
 refine St.mix_skip rfl ?_ ?_
 ·intro L u' wx hS hcl hrd hag
  have hbx:=hS.b4
  rw [hrd.1] at hbx
  obtain ⟨z0,⟨z1,z2,z3,z4,z5,z6,z7,z8,z9,z10,z11⟩,zf⟩:=hbx
  refine ⟨putP wx (w.heap.size + 2) ⟨g,.slice G ng cg,ps,.slice B np b,zs,.slice C nz c,fr,ea,.slice D ne e,al⟩,?_,hS.put4 (by decide) (by decide) (by omega) (by omega) _⟩
  go_simp
  first | with_reducible rfl | rfl | skip
 simp only [Act.put]
 refine St.mix_skip rfl ?_ ?_
 ·intro L u' wx hS hcl hrd hag
  have hbx:=hS.b5
  rw [hrd.1] at hbx
  obtain ⟨z0,⟨z1,z2,z3,z4,z5⟩,zf⟩:=hbx
  refine ⟨putR wx (w.heap.size + 3) (⟨0,0,false,TX,[]⟩ : Rep) (.slice none 0 0),?_,hS.put5 (by decide) (by decide) (by omega) (by omega) _⟩
  go_simp
  first | with_reducible rfl | rfl | skip
 simp only [Act.put]
 refine St.mix_skip rfl ?_ ?_
 ·intro L u' wx hS hcl hrd hag
  have hbx:=hS.b6
  rw [hrd.1] at hbx
  obtain ⟨z0,⟨z1,z2,z3,z4,z5,z6,z7,z8,z9,z10,z11,z12,z13⟩,zf⟩:=hbx
  refine ⟨putF wx (w.heap.size + 4) ⟨false,⟨⟨0,⟨#[]⟩,⟨#[]⟩,0,[],0⟩,.slice none 0 0,[],.slice none 0 0,[],.slice none 0 0,false,[],.slice none 0 0,0⟩,0⟩,?_,hS.put6 (by decide) (by decide) (by omega) (by omega) _⟩
  go_simp
  first | with_reducible rfl | rfl | skip
 simp only [Act.put]
 refine St.mix_last ?_
 intro L wx hS hall
 obtain ⟨hbut,hX4,hX5,hX6⟩:=hS.fin (hall 5 (by decide)) (hall 6 (by decide)) (hall 7 (by decide))
 have hbw:=hbut.below (N:=w.heap.size) hb8H.out.size (by simp)
 go_wp2_with fail
 refine bodyPost_ret (res_three Tryz.results116 rfl rfl rfl hX4 hX5 hX6) rfl ⟨.slice G ng cg,by rw [HT.out]; rfl,argM_but HS8H.out HOF.out hbut,hb8H.out.trans hbw⟩
end Go.Proofs.YthcmnkmfhgoddaaGreatDoor.Pt
