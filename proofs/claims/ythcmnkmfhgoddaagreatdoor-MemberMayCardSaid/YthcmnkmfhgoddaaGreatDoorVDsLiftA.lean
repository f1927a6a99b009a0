/-
  The law's own functions: num,small,own,live: live answers true. Conditions: the library's variables hold what their types allow.
  What each row of this seat gives the walks: the library's variables; and a state that fits. No condition.
  The law's own small and own: what is asked of a descriptor that comes in. Condition: lengths at most 2^47.
  How a descriptor,and a list of members,come in,out of the form's own reading. No condition.
-/
import Derived.Test.YthcmnkmfhgoddaaGreatDoorVDsPaA
import Derived.Test.YthcmnkmfhgoddaaGreatDoorVDsA
import Derived.Test.YthcmnkmfhgoddaaGreatDoorCards
import Derived.Test.YthcmnkmfhgoddaaGreatDoorTie
import Derived.ProofKit
import Derived.OpenShut
import Derived.LaidMore
import Derived.SizedLaws
import Derived.Deep.DeepHandedRow
import Derived.Deep.DeepWitnessRowRef
import Derived.Lib.LaidTab
import Derived.Stop.LaidErr
import Derived.Stop.Joined
import Derived.Shelf.LaysM
import Derived.Lib.SmallJoins
import Derived.Deep.Slices
import Derived.Deep.Fields
import Derived.ChangeSame
import Derived.Carry
namespace Go.Proofs.YthcmnkmfhgoddaaGreatDoor.Ds
open Go.RowKit Bnd
open Go.Proofs.YthcmnkmfhgoddaaGreatDoor.M (numT inR tieT intT untieT)
end Go.Proofs.YthcmnkmfhgoddaaGreatDoor.Ds

namespace Go.Proofs.YthcmnkmfhgoddaaGreatDoor
open Go.ChangeShapes Go.WideShapes Go.ChangeAt Go.RowKit
abbrev laidL : List (String × DataW Unit):=Rows.memberOfRow.laid
theorem own : ownKnob Tryz.prog.godebug = none:=by kernel_rfl
theorem gSyn : Tryz.prog.globalNamed "strconv.ErrSyntax" = some 1 := by kernel_rfl
theorem gSynT : (Tryz.prog.globals[1]?).map (·.type) = some 252:=by kernel_rfl
theorem gRng : Tryz.prog.globalNamed "strconv.ErrRange" = some 2 := by kernel_rfl
theorem gRngT : (Tryz.prog.globals[2]?).map (·.type) = some 252:=by kernel_rfl
theorem star : ("*errors.errorString" : String) = "*" ++ "errors.errorString" := by decide
theorem rowErr (u : TypeId) (h : Tryz.prog.typeName? 3 u = some "*errors.errorString") : u = 335 :=
 typeName_ptr_named (nm := "errors.errorString") (by rw [<- star]; kernel_rfl) (by kernel_rfl) (by decide) u (by rw [<- star]; exact h)
theorem cellsErr : Tryz.prog.cellsOf 337 = 1:=by kernel_rfl
theorem cells9 : Tryz.prog.cellsOf 9 = 1:=by kernel_rfl
theorem good_of {W : World} (h : laidMetH Tryz.prog laidL W) (hsh : W.ShapedOpen Tryz.prog) : Good W:=by
 obtain ⟨m,hm⟩:=Go.Proofs.cell_of_shapedOpen_int (zero:=#[.int .i64 0]) (t:=3) (g:=0) hsh (of_decide_eq_true (by kernel_rfl)) (by kernel_rfl) rfl (by kernel_rfl) (by kernel_rfl) Tryz.underlying3
 rw [MakeChecks.laidMetH_plain _ _ _ (by kernel_rfl)] at h
 have h3:=h.tail.tail.tail
 obtain ⟨a1,s1,hv1,_⟩:=laid_sentinel h3 gRng gRngT Tryz.underlying252 rowErr Tryz.underlying335 Tryz.underlying337 rfl rfl Tryz.underlying9 cellsErr cells9
 obtain ⟨a0,s0,hv0,_⟩:=laid_sentinel h3.tail gSyn gSynT Tryz.underlying252 rowErr Tryz.underlying335 Tryz.underlying337 rfl rfl Tryz.underlying9 cellsErr cells9
 have c0:=World.var?_cell gSyn hv0 0
 have c1:=World.var?_cell gRng hv1 0
 have s0:=Lib.lt_of_cell c0
 have s1:=Lib.lt_of_cell c1
 have s2:=Lib.lt_of_cell hm
 simp only at s0 s1 s2
 exact ⟨by omega,⟨_,c0,.inr ⟨_,_,rfl⟩⟩,⟨_,c1,.inr ⟨_,_,rfl⟩⟩,⟨m,hm⟩⟩
theorem door_met (os : Os) (args : Array Value) : laidMetH Tryz.prog laidL ((World.doorLaid Tryz.prog 400 os).forCall (fun _ _ => 0) ⟨#[],args,[]⟩).memory :=
 laidMetH_of_parts3 (fuel:=8) (laidMet_of_run' 8 (by kernel_rfl) (by kernel_rfl)) (by kernel_rfl) (by kernel_rfl)
end Go.Proofs.YthcmnkmfhgoddaaGreatDoor

namespace Go.Proofs.YthcmnkmfhgoddaaGreatDoor.Ds
open Go.RowKit Bnd
open Go.Proofs.YthcmnkmfhgoddaaGreatDoor.M (numT inR tieT intT untieT)
structure Lim (d : De) : Prop where
 f : d.f.size <= 140737488355328
 t : d.t.size <= 140737488355328
 n : d.ms.length <= 140737488355328
 r : InR d
def smallD (d : De) : Bool:=decide (d.ms.length <= 30 /\ d.f.size <= 2000 /\ d.t.size <= 2000)
theorem small_iff {d : De} : smallD d = true ↔ d.ms.length <= 30 /\ d.f.size <= 2000 /\ d.t.size <= 2000:=by simp [smallD]
theorem Lim.fit {d : De} (h : Lim d) (hs : smallD d = true) : Fit d:=⟨h.f,h.t,by have:=(small_iff.1 hs).1; omega,h.r⟩
end Go.Proofs.YthcmnkmfhgoddaaGreatDoor.Ds

namespace Go.Proofs.YthcmnkmfhgoddaaGreatDoor.Ds
open Go.ChangeShapes Go.WideShapes Go.ChangeAt Go.RowKit Go.Joins Go.Deep
theorem laidOutAll : laidOutB Tryz.prog = true:=by kernel_rfl
theorem cellsD : Tryz.prog.cellsOf 26 = 6:=by kernel_rfl
theorem cellsB : Tryz.prog.cellsOf 23 = 2:=by kernel_rfl
theorem cellsM : Tryz.prog.cellsOf 70 = 2:=by kernel_rfl
theorem cellsMs : Tryz.prog.cellsOf 24 = 1:=by kernel_rfl
theorem cells9' : Tryz.prog.cellsOf 9 = 1:=by kernel_rfl
theorem cells3' : Tryz.prog.cellsOf 3 = 1:=by kernel_rfl
theorem cells2' : Tryz.prog.cellsOf 2 = 1:=by kernel_rfl
theorem bytesM : Tryz.prog.bytesOf 70 = 16:=by kernel_rfl
theorem lt_cell {w : World} {a : Addr} {v : Value} (h : w.cell? a = some v) : a.block < w.heap.size:=by
 rcases Nat.lt_or_ge a.block w.heap.size with h1 | h1
 ·exact h1
 ·simp [World.cell?,Array.getElem?_eq_none h1] at h
section
variable {H : Type} {enc : TypeId × Value -> H} {W : World}
theorem weight_mem {D : Nat -> DataW H} {n k : Nat} {e : TypeId} (h : k < n) (x : Nat) (hx : x ∈ (D k).weights Tryz.prog e) : x ∈ DataW.weightsAll Tryz.prog e ((List.range n).map D):=by
 have : ∀ l : List (DataW H),D k ∈ l -> x ∈ DataW.weightsAll Tryz.prog e l:=by
  intro l
  induction l with
  | nil => intro h; cases h
  | cons y l ih =>
   intro h
   simp only [DataW.weightsAll,List.mem_append]
   rcases List.mem_cons.1 h with rfl | h
   ·exact .inl hx
   ·exact .inr (ih h)
 exact this _ (List.mem_map.2 ⟨k,List.mem_range.2 h,rfl⟩)
set_option maxRecDepth 100000 in
theorem mem_of {n : Nat} {cs : List Value} {x : DataW H × List MemPlace} (h : DataW.trod enc Tryz.prog W 0 (fun _ => true) true n 70 cs = some x) :
  ∃ m : Mem,(M.inR m.1 /\ M.inR m.2) /\ cs[0]? = some (.int .i64 m.1) /\ cs[1]? = some (.int .i64 m.2):=by
 obtain ⟨y0,y1,n',hx,hl,g0,g1⟩:=trod_struct2 Tryz.underlying70 h
 rw [cellsM] at hl
 match cs,hl with
 | [c0,c1],_ =>
  simp [cells3',cells2'] at g0 g1
  obtain ⟨a,e0,_,w0⟩:=DataW.trod_int Tryz.underlying3 g0
  obtain ⟨b,e1,_,w1⟩:=DataW.trod_int Tryz.underlying2 g1
  simp only [List.cons.injEq,and_true] at e0 e1
  subst e0 e1
  exact ⟨(a,b),⟨bounds_i64 w0,bounds_i64 w1⟩,rfl,rfl⟩
set_option maxRecDepth 100000 in
theorem arg_ms {n : Nat} {v : Value} {x : DataW H × List MemPlace}
  (hf : DataW.trod enc Tryz.prog W 0 (fun _ => true) true n 24 [v] = some x) (hwt : ∀ n ∈ x.1.weights Tryz.prog 24,n <= reachBytes) :
  ∃ ms,ArgM W v ms /\ ms.length <= 140737488355328 /\ ∀ m ∈ ms,M.inR m.1 /\ M.inR m.2:=by
 have hrb:=reachBytes_lt
 rcases open_slice Tryz.underlying24 hf with ⟨hcs,hx⟩ | ⟨a,len,cap,m,n,D,Pl,hcs,_,hl,hm,hmm,hx,hi⟩
 ·simp only [List.cons.injEq,and_true] at hcs
  subst hcs
  exact ⟨[],.nil,by simp,by simp⟩
 ·simp only [List.cons.injEq,and_true] at hcs
  subst hcs
  subst hx
  simp only [if_true] at hmm
  subst hmm
  have each : ∀ i,i < len -> ∃ x : Mem,(M.inR x.1 /\ M.inR x.2) /\ W.cell? (a.add (i * 2)) = some (.int .i64 x.1) /\ W.cell? (a.add (i * 2 + 1)) = some (.int .i64 x.2):=by
   intro i hi0
   obtain ⟨cs',hc,ht⟩:=hi i (by omega)
   rw [cellsM] at hc
   obtain ⟨x,hok,h0,h1⟩:=mem_of ht
   obtain ⟨_,hcl,hat⟩:=World.cells?_some hc
   have j0:=hat 0 (by omega)
   have j1:=hat 1 (by omega)
   rw [Go.Deep.add_add] at j0 j1
   exact ⟨x,hok,by rw [<- h0]; exact j0,by rw [<- h1]; exact j1⟩
  obtain ⟨F,hF⟩:=choose_lt each
  have hlen : ((List.range len).map F).length = len:=by simp
  refine ⟨(List.range len).map F,?_,?_,?_⟩
  ·by_cases h0 : 0 < len
   ·have g0:=(hF 0 h0).2.1
    have hcl:=lt_cell g0
    rw [add_block] at hcl
    have hsp : a.spot = none:=by
     rw [Nat.zero_mul,Addr.add_zero'] at g0
     cases hs : a.spot with
     | none => rfl
     | some q =>
      unfold World.cell? at g0
      rw [hs] at g0
      split at g0 <;> simp at g0
    obtain ⟨b,o,q⟩:=a
    have hq : q = none:=hsp
    subst hq
    have key : ArgM W (.slice (some ⟨b,o,none⟩) ((List.range len).map F).length m) ((List.range len).map F):=by
     refine .some b o m _ ⟨_,_,rfl,fun _ => ⟨b,o,rfl,hcl,fun i hi => ?_⟩⟩
     have hi' : i < len:=by rwa [hlen] at hi
     obtain ⟨_,e0,e1⟩:=hF i hi'
     rw [Addr.add_lit] at e0 e1
     simp only [List.getElem_map,List.getElem_range]
     exact ⟨e0,e1⟩
    rw [hlen] at key
    exact key
   ·obtain rfl : len = 0:=by omega
    exact .empty a m
  ·have:=hwt ((((List.range len).map D).length + ((List.range (m - len)).map fun j => D (len + j)).length) * 16) (by
    simp only [DataW.weights,Tryz.underlying24,bytesM]
    exact List.mem_cons_self)
   simp at this ⊢
   omega
  ·intro p hp
   obtain ⟨i,hi',rfl⟩:=List.mem_map.1 hp
   exact (hF i (List.mem_range.1 hi')).1
end
end Go.Proofs.YthcmnkmfhgoddaaGreatDoor.Ds
