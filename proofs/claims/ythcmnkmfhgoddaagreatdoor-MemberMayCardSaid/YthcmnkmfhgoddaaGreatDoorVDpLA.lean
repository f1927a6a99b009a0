/-
  A plot as it comes into a law. No condition.
  How a plot comes in,out of the form's own reading. No condition.
-/
import Derived.Test.YthcmnkmfhgoddaaGreatDoorVDpHHA
import Derived.Test.YthcmnkmfhgoddaaGreatDoorVSsBoA
namespace Go.Proofs.YthcmnkmfhgoddaaGreatDoor.Dp
open Go.RowKit Bnd
open Go.Proofs.YthcmnkmfhgoddaaGreatDoor.Ds (ArgM)
open Go.Proofs.YthcmnkmfhgoddaaGreatDoor.Ss (PZ ArgZ)
open Go.Proofs.YthcmnkmfhgoddaaGreatDoor.Od (ArgP)
structure HB (w : World) (o : Ph) : Prop where
 sm : ArgM w o.sm o.d.ms
 sp : ArgP w o.sp o.ps
 sz : ArgZ w o.sz o.zs
 pz : PZ w w.heap.size o.zs
 se : ArgI w o.se o.ea
 rp : Room o.sp
 re : Room o.se
theorem HB.keep {w w' : World} {o : Ph} (h : HB w o) (hb : Below w.heap.size w w') : HB w' o:=⟨h.sm.keep hb,h.sp.keep hb,h.sz.keep hb,(h.pz.below hb).more hb.size,h.se.keep hb,h.rp,h.re⟩
theorem HB.hp {w : World} {o : Ph} (h : HB w o) : HP w w.heap.size o:=⟨h.sm.sm,h.sp.sm,h.sz.sz,h.pz,h.se.si⟩
theorem HB.ha {w : World} {o : Ph} (h : HB w o) (hp : isP o.pl = true) : HA w o:=isP_hp hp h.sm h.sp h.sz h.pz h.se h.rp h.re
theorem HA.hb {w : World} {o : Ph} (h : HA w o) : HB w o:=⟨h.sm,h.sp,h.sz,h.np.pz w _,h.se,h.rp,h.re⟩
end Go.Proofs.YthcmnkmfhgoddaaGreatDoor.Dp

namespace Go.Proofs.YthcmnkmfhgoddaaGreatDoor.Dp
open Go.ChangeShapes Go.WideShapes Go.ChangeAt Go.RowKit Go.Joins Go.Deep
open Go.Proofs.YthcmnkmfhgoddaaGreatDoor.Ds (De SM Lim ArgM dv lt_cell weight_mem cells9' cells3' cells2' cellsB cellsMs cellsD arg_ms)
open Go.Proofs.YthcmnkmfhgoddaaGreatDoor.Od (Pr ArgP cells4' cellsPs arg_prs array11)
open Go.Proofs.YthcmnkmfhgoddaaGreatDoor.Ss (Zs ArgZ PZ LimZ arg_zss)
theorem cellsPl : Tryz.prog.cellsOf 38 = 11:=by kernel_rfl
theorem cellsZs : Tryz.prog.cellsOf 35 = 1:=by kernel_rfl
theorem cellsIs : Tryz.prog.cellsOf 36 = 1:=by kernel_rfl
theorem bytesI8 : Tryz.prog.bytesOf 2 = 8:=by kernel_rfl
section
variable {H : Type} {enc : TypeId × Value -> H} {W : World}
theorem room_of {n : Nat} {t e : TypeId} {v : Value} {x : DataW H × List MemPlace} (hu : Tryz.prog.underlying t = some (.slice e)) (hf : DataW.trod enc Tryz.prog W 0 (fun _ => true) true n t [v] = some x) : Room v:=by
 rcases open_slice hu hf with ⟨hcs,hx⟩ | ⟨a,len,cap,m,n,D,Pl,hcs,_,hl,hm,hmm,hx,hi⟩
 ·simp only [List.cons.injEq,and_true] at hcs
  subst hcs
  exact Room.nil
 ·simp only [List.cons.injEq,and_true] at hcs
  subst hcs
  simp only [if_true] at hmm
  subst hmm
  intro A n' c e
  injection e with _ e1 e2
  omega
set_option maxRecDepth 100000 in
set_option maxHeartbeats 4000000 in
theorem desc_of {n : Nat} {cs : List Value} {x : DataW H × List MemPlace} (h : DataW.trod enc Tryz.prog W 0 (fun _ => true) true n 26 cs = some x) (hwt : ∀ n ∈ x.1.weights Tryz.prog 26,n <= reachBytes) :
  ∃ (D : De) (s : Value),cs = [.int .i64 D.id,.string D.f,.string D.t,.int .i64 D.gen,s,.int .i64 D.next] /\ ArgM W s D.ms /\ Lim D:=by
 have hrb:=reachBytes_lt
 obtain ⟨ys,m,_,hx,hl,hlen,hfs⟩:=DataW.trod_struct Tryz.underlying26 h
 rw [cellsD] at hl
 have g0:=hfs 0 _ rfl
 have g1:=hfs 1 _ rfl
 have g2:=hfs 2 _ rfl
 have g3:=hfs 3 _ rfl
 have g4:=hfs 4 _ rfl
 clear hfs
 match ys,hlen,cs,hl with
 | [y0,y1,y2,y3,y4],_,[c0,c1,c2,c3,c4,c5],_ =>
  simp [cells2',cellsB,cellsMs] at g0 g1 g2 g3 g4
  obtain ⟨a,e0,e0',w0⟩:=DataW.trod_int Tryz.underlying2 g0
  obtain ⟨g,e2,e2',w2⟩:=DataW.trod_int Tryz.underlying2 g2
  obtain ⟨n,e4,e4',w4⟩:=DataW.trod_int Tryz.underlying2 g4
  obtain ⟨z0,z1,m',hz,_,f0,f1⟩:=trod_struct2 Tryz.underlying23 g1
  simp [cells9'] at f0 f1
  obtain ⟨f,e5,e5',w5⟩:=DataW.trod_string Tryz.underlying9 f0
  obtain ⟨t,e6,e6',w6⟩:=DataW.trod_string Tryz.underlying9 f1
  simp only [List.cons.injEq,and_true] at e0 e2 e4 e5 e6
  subst e0 e2 e4 e5 e6 hx
  have hw3 : ∀ n ∈ y3.1.weights Tryz.prog 24,n <= reachBytes:=fun n hn => hwt n (by
   simp only [DataW.weights,Tryz.underlying26,List.map_cons,List.map_nil,DataW.weightsEach,List.mem_append]
   first
    | exact .inr (.inr (.inr (.inl hn)))
    | simp [hn])
  obtain ⟨ms,ha,hl1,hl2⟩:=arg_ms g3 hw3
  have hwf : f.size <= 140737488355328 /\ t.size <= 140737488355328:=by
   subst hz e5' e6'
   simp only [DataW.weights,Tryz.underlying26,Tryz.underlying23,List.map_cons,List.map_nil,DataW.weightsEach] at hwt
   have h1:=hwt f.data.toList.length (by simp)
   have h2:=hwt t.data.toList.length (by simp)
   have e3 : f.data.toList.length = f.size:=by simp
   have e4 : t.data.toList.length = t.size:=by simp
   exact ⟨by omega,by omega⟩
  exact ⟨⟨a,f,t,g,ms,n⟩,c4,rfl,ha,⟨hwf.1,hwf.2,hl1,⟨bounds_i64 w0,bounds_i64 w2,bounds_i64 w4,hl2⟩⟩⟩
set_option maxRecDepth 100000 in
theorem arg_i64s {n : Nat} {v : Value} {x : DataW H × List MemPlace}
  (hf : DataW.trod enc Tryz.prog W 0 (fun _ => true) true n 36 [v] = some x) (hwt : ∀ n ∈ x.1.weights Tryz.prog 36,n <= reachBytes) :
  ∃ xs,ArgI W v xs /\ xs.length <= 140737488355328 /\ ∀ n ∈ xs,M.inR n:=by
 have hrb:=reachBytes_lt
 rcases open_slice Tryz.underlying36 hf with ⟨hcs,hx⟩ | ⟨a,len,cap,m,n,D,Pl,hcs,_,hl,hm,hmm,hx,hi⟩
 ·simp only [List.cons.injEq,and_true] at hcs
  subst hcs
  exact ⟨[],.nil,by simp,by simp⟩
 ·simp only [List.cons.injEq,and_true] at hcs
  subst hcs
  subst hx
  simp only [if_true] at hmm
  subst hmm
  have each : ∀ i,i < len -> ∃ x : Int,W.cell? (a.add i) = some (.int .i64 x) /\ M.inR x:=by
   intro i hi0
   obtain ⟨cs',hc,ht⟩:=hi i (by omega)
   rw [cells2'] at hc
   obtain ⟨x,e0,_,w0⟩:=DataW.trod_int Tryz.underlying2 ht
   subst e0
   obtain ⟨_,hcl,hat⟩:=World.cells?_some hc
   have j0:=hat 0 (by omega)
   rw [Go.Deep.add_add,Nat.mul_one] at j0
   exact ⟨x,j0,bounds_i64 w0⟩
  obtain ⟨F,hF⟩:=choose_lt each
  have hlen : ((List.range len).map F).length = len:=by simp
  refine ⟨(List.range len).map F,?_,?_,?_⟩
  ·by_cases h0 : 0 < len
   ·have g0:=(hF 0 h0).1
    have hcl:=lt_cell g0
    rw [add_block] at hcl
    have hsp : a.spot = none:=by
     rw [Addr.add_zero'] at g0
     cases hs : a.spot with
     | none => rfl
     | some q =>
      unfold World.cell? at g0
      rw [hs] at g0
      split at g0 <;> simp at g0
    obtain ⟨b,o,q⟩:=a
    have hq : q = none:=hsp
    subst hq
    have key : ArgI W (.slice (some ⟨b,o,none⟩) ((List.range len).map F).length m) ((List.range len).map F):=by
     refine .some b o m _ ⟨_,_,rfl,fun _ => ⟨b,o,rfl,hcl,fun i hi => ?_⟩⟩
     have hi' : i < len:=by rwa [hlen] at hi
     have e0:=(hF i hi').1
     rw [Addr.add_lit] at e0
     simp only [List.getElem_map,List.getElem_range]
     exact e0
    rw [hlen] at key
    exact key
   ·obtain rfl : len = 0:=by omega
    exact .empty a m
  ·have:=hwt ((((List.range len).map D).length + ((List.range (m - len)).map fun j => D (len + j)).length) * 8) (by
    simp only [DataW.weights,Tryz.underlying36,bytesI8]
    exact List.mem_cons_self)
   simp at this ⊢
   omega
  ·intro z hz
   obtain ⟨i,hi',rfl⟩:=List.mem_map.1 hz
   exact (hF i (List.mem_range.1 hi')).2
structure LimP (o : Ph) : Prop where
 fit : FitP o
 d : Ds.InR o.d
 zs : ∀ z ∈ o.zs,LimZ z.1
 ea : ∀ n ∈ o.ea,M.inR n
 al : M.inR o.al
set_option maxRecDepth 100000 in
set_option maxHeartbeats 4000000 in
theorem arg_plot {base : Nat} {r : Reach} {v : Value} {d : DataW H} {ps : List MemPlace} (hv : Value.okWide Tryz.prog W r base 38 v) (h : DataW.Trod enc Tryz.prog W 0 (fun _ => true) true 38 v d ps) (hwt : ∀ n ∈ d.weights Tryz.prog 38,n <= reachBytes) :
  ∃ o : Ph,v = qv o /\ HB W o /\ LimP o:=by
 obtain ⟨cs,rfl,hsz⟩:=okWide_struct Tryz.underlying38 hv
 obtain ⟨c0,c1,c2,c3,c4,c5,c6,c7,c8,c9,c10,rfl⟩:=array11 (hsz.trans cellsPl)
 obtain ⟨fuel,hf⟩:=h
 obtain ⟨ys,m,_,hx,hl,hlen,hfs⟩:=DataW.trod_struct Tryz.underlying38 hf
 have g0:=hfs 0 _ rfl
 have g1:=hfs 1 _ rfl
 have g2:=hfs 2 _ rfl
 have g3:=hfs 3 _ rfl
 have g4:=hfs 4 _ rfl
 have g5:=hfs 5 _ rfl
 clear hfs
 match ys,hlen with
 | [y0,y1,y2,y3,y4,y5],_ =>
  simp [Value.cells,cells2',cellsD,cellsPs,cellsZs,cells4',cellsIs] at g0 g1 g2 g3 g4 g5
  simp only [Prod.mk.injEq] at hx
  obtain ⟨rfl,_⟩:=hx
  have mem : ∀ n,(n ∈ y0.1.weights Tryz.prog 26 \/ n ∈ y1.1.weights Tryz.prog 34 \/ n ∈ y2.1.weights Tryz.prog 35 \/ n ∈ y4.1.weights Tryz.prog 36) -> n <= reachBytes:=fun n hn => hwt n (by
   simp only [DataW.weights,Tryz.underlying38,List.map_cons,List.map_nil,DataW.weightsEach,List.mem_append]
   rcases hn with hn | hn | hn | hn
   ·exact .inl hn
   ·exact .inr (.inl hn)
   ·exact .inr (.inr (.inl hn))
   ·exact .inr (.inr (.inr (.inr (.inl hn)))))
  obtain ⟨D,s,e0,ha0,hl0⟩:=desc_of g0 fun n hn => mem n (.inl hn)
  obtain ⟨ms,ha1,hl1,hl1'⟩:=arg_prs g1 fun n hn => mem n (.inr (.inl hn))
  obtain ⟨zs,ha2,hp2,hl2,hl2'⟩:=arg_zss g2 fun n hn => mem n (.inr (.inr (.inl hn)))
  obtain ⟨fr,e3,e3'⟩:=DataW.trod_bool Tryz.underlying4 g3
  obtain ⟨ns,ha4,hl4,hl4'⟩:=arg_i64s g4 fun n hn => mem n (.inr (.inr (.inr hn)))
  obtain ⟨al,e5,e5',w5⟩:=DataW.trod_int Tryz.underlying2 g5
  have r1:=room_of Tryz.underlying34 g1
  have r4:=room_of Tryz.underlying36 g4
  simp only [List.cons.injEq,and_true] at e0 e3 e5
  obtain ⟨rfl,rfl,rfl,rfl,rfl,rfl⟩:=e0
  subst e3 e5
  exact ⟨⟨D,c4,ms,c6,zs,c7,fr,ns,c9,al⟩,rfl,⟨ha0,ha1,ha2,hp2,ha4,r1,r4⟩,⟨⟨hl0.f,hl0.t,hl0.n,hl1,hl1',hl2,fun z hz => ⟨(hl2' z hz).rep.val,(hl2' z hz).rep.n,(hl2' z hz).rep.ps⟩,hl4⟩,hl0.r,hl2',hl4',bounds_i64 w5⟩⟩
end
end Go.Proofs.YthcmnkmfhgoddaaGreatDoor.Dp
