/-
  The laws' own functions of orders: num,small,light,live: live answers true. Conditions: lengths at most 2^47; the library's variables hold what their types allow.
  OrderBack,walked: there and back; unlike orders have unlike texts; cut off,a text is none. Conditions: lengths at most 2^47; numbers such as a program can hold; the library's variables hold what their types allow.
  How an order,a reply and a list of pairs come in,out of the form's own reading. No condition.
-/
import Derived.Test.YthcmnkmfhgoddaaGreatDoorVOdPaA
import Derived.Test.YthcmnkmfhgoddaaGreatDoorVDsLiftA
namespace Go.Proofs.YthcmnkmfhgoddaaGreatDoor.Od
open Go.RowKit Bnd
open Go.Proofs.YthcmnkmfhgoddaaGreatDoor.M (numT inR tieT intT untieT)
open Ds (nb nb_size)
theorem putA_length {o : Ask} (h : FitA o) : (putA o).length <= 400 + o.key.size + o.til.size + o.val.size + o.old.size:=by
 have hf:=few_strS h
 unfold putA
 rw [<- texts_strS]
 have h1:=M.tie_length (texts (strS o)) (by
  intro x hx
  obtain ⟨s,hs,rfl⟩:=List.mem_map.1 hx
  have:=hf.short s hs
  simp; omega)
 have h2 : (texts (strS o)).length = 11:=by simp [texts,strS]
 have h3 : ((texts (strS o)).map List.length).sum <= 121 + o.key.size + o.til.size + o.val.size + o.old.size:=by
  have a1:=M.numT_length h.r.kind
  have a2:=M.numT_length h.r.client
  have a3:=M.numT_length h.r.seq
  have a4:=M.numT_length h.r.lim
  have a5:=M.numT_length h.r.id
  have a6:=M.numT_length h.r.node
  have a7 : (truthT o.has).length = 1:=by cases o.has <;> rfl
  simp only [texts,strS,List.map_cons,List.map_nil,List.sum_cons,List.sum_nil,Array.length_toList]
  have b1 : ∀ x : ByteArray,x.data.size = x.size:=fun x => rfl
  simp only [b1] at *
  omega
 omega
def smallA (o : Ask) : Bool:=decide (o.key.size <= 20000 /\ o.til.size <= 20000 /\ o.val.size <= 131072 /\ o.old.size <= 20000)
end Go.Proofs.YthcmnkmfhgoddaaGreatDoor.Od

namespace Go.Proofs.YthcmnkmfhgoddaaGreatDoor.Od
open Go.RowKit Bnd
structure LimA (o : Ask) : Prop where
 r : InA o
 key : o.key.size <= 140737488355328
 til : o.til.size <= 140737488355328
 val : o.val.size <= 140737488355328
 old : o.old.size <= 140737488355328
theorem LimA.fit {o : Ask} (h : LimA o) (hs : smallA o = true) : FitA o:=by
 unfold smallA at hs
 simp only [decide_eq_true_eq] at hs
 exact ⟨h.r,by omega,by omega,by omega,by omega⟩
end Go.Proofs.YthcmnkmfhgoddaaGreatDoor.Od

namespace Go.Proofs.YthcmnkmfhgoddaaGreatDoor.Od
open Go.ChangeShapes Go.WideShapes Go.ChangeAt Go.RowKit Go.Joins Go.Deep
open Ds (lt_cell weight_mem cells9' cells3' cells2')
theorem cellsO : Tryz.prog.cellsOf 40 = 11:=by kernel_rfl
theorem cellsR : Tryz.prog.cellsOf 87 = 5:=by kernel_rfl
theorem cellsP : Tryz.prog.cellsOf 85 = 2:=by kernel_rfl
theorem cellsPs : Tryz.prog.cellsOf 34 = 1:=by kernel_rfl
theorem cells4' : Tryz.prog.cellsOf 4 = 1:=by kernel_rfl
theorem cellsE : Tryz.prog.cellsOf 48 = 1:=by kernel_rfl
theorem bytesP : Tryz.prog.bytesOf 85 = 32:=by kernel_rfl
theorem array11 {α : Type} {cs : Array α} (h : cs.size = 11) : ∃ c0 c1 c2 c3 c4 c5 c6 c7 c8 c9 c10,cs = #[c0,c1,c2,c3,c4,c5,c6,c7,c8,c9,c10]:=by
 obtain ⟨l⟩:=cs
 simp at h
 match l,h with
 | [c0,c1,c2,c3,c4,c5,c6,c7,c8,c9,c10],_ => exact ⟨c0,c1,c2,c3,c4,c5,c6,c7,c8,c9,c10,rfl⟩
structure LimR (r : Rep) : Prop where
 code : M.inR r.code
 err : M.inR r.err
 val : r.val.size <= 140737488355328
 n : r.ps.length <= 140737488355328
 ps : ∀ p ∈ r.ps,p.1.size <= 140737488355328 /\ p.2.size <= 140737488355328
section
variable {H : Type} {enc : TypeId × Value -> H} {W : World}
set_option maxRecDepth 100000 in
set_option maxHeartbeats 4000000 in
theorem arg_ask {base : Nat} {r : Reach} {v : Value} {d : DataW H} {ps : List MemPlace} (hv : Value.okWide Tryz.prog W r base 40 v) (h : DataW.Trod enc Tryz.prog W 0 (fun _ => true) true 40 v d ps) (hwt : ∀ n ∈ d.weights Tryz.prog 40,n <= reachBytes) :
  ∃ o : Ask,v = av o /\ LimA o:=by
 have hrb:=reachBytes_lt
 obtain ⟨cs,rfl,hsz⟩:=okWide_struct Tryz.underlying40 hv
 obtain ⟨c0,c1,c2,c3,c4,c5,c6,c7,c8,c9,c10,rfl⟩:=array11 (hsz.trans cellsO)
 obtain ⟨fuel,hf⟩:=h
 obtain ⟨ys,m,_,hx,hl,hlen,hfs⟩:=DataW.trod_struct Tryz.underlying40 hf
 have g0:=hfs 0 _ rfl
 have g1:=hfs 1 _ rfl
 have g2:=hfs 2 _ rfl
 have g3:=hfs 3 _ rfl
 have g4:=hfs 4 _ rfl
 have g5:=hfs 5 _ rfl
 have g6:=hfs 6 _ rfl
 have g7:=hfs 7 _ rfl
 have g8:=hfs 8 _ rfl
 have g9:=hfs 9 _ rfl
 have g10:=hfs 10 _ rfl
 clear hfs
 match ys,hlen with
 | [y0,y1,y2,y3,y4,y5,y6,y7,y8,y9,y10],_ =>
  simp [Value.cells,cells2',cells3',cells9',cells4'] at g0 g1 g2 g3 g4 g5 g6 g7 g8 g9 g10
  obtain ⟨x0,e0,e0',w0⟩:=DataW.trod_int Tryz.underlying3 g0
  obtain ⟨x1,e1,e1',w1⟩:=DataW.trod_int Tryz.underlying2 g1
  obtain ⟨x2,e2,e2',w2⟩:=DataW.trod_int Tryz.underlying2 g2
  obtain ⟨x3,e3,e3',w3⟩:=DataW.trod_string Tryz.underlying9 g3
  obtain ⟨x4,e4,e4',w4⟩:=DataW.trod_string Tryz.underlying9 g4
  obtain ⟨x5,e5,e5',w5⟩:=DataW.trod_string Tryz.underlying9 g5
  obtain ⟨x6,e6,e6',w6⟩:=DataW.trod_string Tryz.underlying9 g6
  obtain ⟨x7,e7,e7'⟩:=DataW.trod_bool Tryz.underlying4 g7
  obtain ⟨x8,e8,e8',w8⟩:=DataW.trod_int Tryz.underlying3 g8
  obtain ⟨x9,e9,e9',w9⟩:=DataW.trod_int Tryz.underlying2 g9
  obtain ⟨x10,e10,e10',w10⟩:=DataW.trod_int Tryz.underlying3 g10
  simp only [List.cons.injEq,and_true] at e0 e1 e2 e3 e4 e5 e6 e7 e8 e9 e10
  subst e0 e1 e2 e3 e4 e5 e6 e7 e8 e9 e10
  simp only [Prod.mk.injEq] at hx
  obtain ⟨rfl,_⟩:=hx
  have hwf : x3.size <= 140737488355328 /\ x4.size <= 140737488355328 /\ x5.size <= 140737488355328 /\ x6.size <= 140737488355328:=by
   subst e0' e1' e2' e3' e4' e5' e6' e7' e8' e9' e10'
   simp only [DataW.weights,Tryz.underlying40,List.map_cons,List.map_nil,DataW.weightsEach] at hwt
   have h3:=hwt x3.data.toList.length (by simp)
   have k3 : x3.data.toList.length = x3.size:=by simp
   have h4:=hwt x4.data.toList.length (by simp)
   have k4 : x4.data.toList.length = x4.size:=by simp
   have h5:=hwt x5.data.toList.length (by simp)
   have k5 : x5.data.toList.length = x5.size:=by simp
   have h6:=hwt x6.data.toList.length (by simp)
   have k6 : x6.data.toList.length = x6.size:=by simp
   exact ⟨by omega,by omega,by omega,by omega⟩
  exact ⟨⟨x0,x1,x2,x3,x4,x5,x6,x7,x8,x9,x10⟩,rfl,⟨⟨bounds_i64 w0,bounds_i64 w1,bounds_i64 w2,bounds_i64 w8,bounds_i64 w9,bounds_i64 w10⟩,hwf.1,hwf.2.1,hwf.2.2.1,hwf.2.2.2⟩⟩
set_option maxRecDepth 100000 in
theorem arg_prs {n : Nat} {v : Value} {x : DataW H × List MemPlace}
  (hf : DataW.trod enc Tryz.prog W 0 (fun _ => true) true n 34 [v] = some x) (hwt : ∀ n ∈ x.1.weights Tryz.prog 34,n <= reachBytes) :
  ∃ ms,ArgP W v ms /\ ms.length <= 140737488355328 /\ ∀ m ∈ ms,m.1.size <= 140737488355328 /\ m.2.size <= 140737488355328:=by
 have hrb:=reachBytes_lt
 rcases open_slice Tryz.underlying34 hf with ⟨hcs,hx⟩ | ⟨a,len,cap,m,n,D,Pl,hcs,_,hl,hm,hmm,hx,hi⟩
 ·simp only [List.cons.injEq,and_true] at hcs
  subst hcs
  exact ⟨[],.nil,by simp,by simp⟩
 ·simp only [List.cons.injEq,and_true] at hcs
  subst hcs
  subst hx
  simp only [if_true] at hmm
  subst hmm
  have each : ∀ i,i < len -> ∃ p : Pr,W.cell? (a.add (i * 2)) = some (.string p.1) /\ W.cell? (a.add (i * 2 + 1)) = some (.string p.2) /\ D i = .agg [.lit (.string p.1.data.toList),.lit (.string p.2.data.toList)]:=by
   intro i hi0
   obtain ⟨cs',hc,ht⟩:=hi i (by omega)
   rw [cellsP] at hc
   obtain ⟨y0,y1,n',hy,hlen,g0,g1⟩:=trod_struct2 Tryz.underlying85 ht
   obtain ⟨_,hcl,hat⟩:=World.cells?_some hc
   rw [cells9'] at g0 g1
   match cs',hcl with
   | [u0,u1],_ =>
    obtain ⟨f,e0,rfl,_⟩:=DataW.trod_string Tryz.underlying9 g0
    obtain ⟨t,e1,rfl,_⟩:=DataW.trod_string Tryz.underlying9 g1
    simp at e0 e1
    subst e0 e1
    have a0:=hat 0 (by omega)
    have a1:=hat 1 (by omega)
    rw [Go.Deep.add_add] at a0 a1
    simp only [Prod.mk.injEq] at hy
    exact ⟨(f,t),a0,a1,hy.1⟩
  obtain ⟨F,hF⟩:=choose_lt each
  have hlen : ((List.range len).map F).length = len:=by simp
  refine ⟨(List.range len).map F,?_,?_,?_⟩
  ·by_cases h0 : 0 < len
   ·have g0:=(hF 0 h0).1
    have hcl:=lt_cell g0
    rw [add_block] at hcl
    have hsp : a.spot = none:=by
     rw [Nat.zero_mul,Addr.add_zero'] at g0
     cases hs : a.spot with
     | none => rfl
     | some q =>
      unfold World.cell? at g0
      rw [hs] at g0
      split at g0 <;> simp at g0
    obtain ⟨b,o,q⟩:=a
    have hq : q = none:=hsp
    subst hq
    have key : ArgP W (.slice (some ⟨b,o,none⟩) ((List.range len).map F).length m) ((List.range len).map F):=by
     refine .some b o m _ ⟨_,_,rfl,fun _ => ⟨b,o,rfl,hcl,fun i hi => ?_⟩⟩
     have hi' : i < len:=by rwa [hlen] at hi
     obtain ⟨e0,e1,_⟩:=hF i hi'
     rw [Addr.add_lit] at e0 e1
     simp only [List.getElem_map,List.getElem_range]
     exact ⟨e0,e1⟩
    rw [hlen] at key
    exact key
   ·obtain rfl : len = 0:=by omega
    exact .empty a m
  ·have:=hwt ((((List.range len).map D).length + ((List.range (m - len)).map fun j => D (len + j)).length) * 32) (by
    simp only [DataW.weights,Tryz.underlying34,bytesP]
    exact List.mem_cons_self)
   simp at this ⊢
   omega
  ·intro p hp
   obtain ⟨i,hi',rfl⟩:=List.mem_map.1 hp
   have hi':=List.mem_range.1 hi'
   obtain ⟨_,_,e⟩:=hF i hi'
   have mem : ∀ x ∈ (D i).weights Tryz.prog 85,x <= reachBytes:=fun x hx => hwt x (by
    simp only [DataW.weights,Tryz.underlying34]
    exact List.mem_cons.2 (.inr (List.mem_append.2 (.inl (weight_mem hi' x hx)))))
   rw [e] at mem
   simp only [DataW.weights,Tryz.underlying85,List.map_cons,List.map_nil,DataW.weightsEach] at mem
   have h1:=mem (F i).1.data.toList.length (by simp)
   have h2:=mem (F i).2.data.toList.length (by simp)
   have e3 : (F i).1.data.toList.length = (F i).1.size:=by simp
   have e4 : (F i).2.data.toList.length = (F i).2.size:=by simp
   exact ⟨by omega,by omega⟩
end
end Go.Proofs.YthcmnkmfhgoddaaGreatDoor.Od
