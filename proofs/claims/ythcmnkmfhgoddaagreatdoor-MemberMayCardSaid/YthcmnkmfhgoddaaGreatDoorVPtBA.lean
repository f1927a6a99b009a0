/-
  How a program holds what comes of an order,and an effect: their values,boxes that hold one. No condition.
  The small ones: bad,moved,isNoted; the document's bad,moved. Conditions: descriptors that may be.
  What stays when some blocks are written; regions that write three results,in whatever order. No condition.
-/
import Derived.Test.YthcmnkmfhgoddaaGreatDoorVDpHHA
import Derived.Test.YthcmnkmfhgoddaaGreatDoorVMbMA
import Derived.Test.YthcmnkmfhgoddaaGreatDoorVDsPNA
import Derived.Test.YthcmnkmfhgoddaaGreatDoorVRegA
import Derived.Test.YthcmnkmfhgoddaaGreatDoorVDsChA
namespace Go.Proofs.YthcmnkmfhgoddaaGreatDoor.Pt
open Go.RowKit
open Go.Proofs.YthcmnkmfhgoddaaGreatDoor.Od (Rep BoxR rv)
open Go.Proofs.YthcmnkmfhgoddaaGreatDoor.Dp (Ph BoxP qv HA)
structure Fh where
 split : Bool
 ri : Ph
 eaten : Int
def Fh.eff (f : Fh) : Eff:=⟨f.split,f.ri.pl,f.eaten⟩
def Fh.zero : Fh:=⟨false,Ph.zero,0⟩
abbrev fv (o : Fh) : Value:=.agg #[.bool o.split,.int .i64 o.ri.d.id,.string o.ri.d.f,.string o.ri.d.t,.int .i64 o.ri.d.gen,o.ri.sm,.int .i64 o.ri.d.next,o.ri.sp,o.ri.sz,.bool o.ri.fr,o.ri.se,.int .i64 o.ri.al,.int .i64 o.eaten]
structure Oc where
 p : Ph
 r : Rep
 rs : Value
 f : Fh
def Oc.out (o : Oc) : Out:=(o.p.pl,o.r,o.f.eff)
abbrev cv (o : Oc) : Value:=.agg #[.int .i64 o.p.d.id,.string o.p.d.f,.string o.p.d.t,.int .i64 o.p.d.gen,o.p.sm,.int .i64 o.p.d.next,o.p.sp,o.p.sz,.bool o.p.fr,o.p.se,.int .i64 o.p.al,.int .i64 o.r.code,.int .i64 o.r.err,.bool o.r.has,.string o.r.val,o.rs,.bool o.f.split,.int .i64 o.f.ri.d.id,.string o.f.ri.d.f,.string o.f.ri.d.t,.int .i64 o.f.ri.d.gen,o.f.ri.sm,.int .i64 o.f.ri.d.next,o.f.ri.sp,o.f.ri.sz,.bool o.f.ri.fr,o.f.ri.se,.int .i64 o.f.ri.al,.int .i64 o.f.eaten]
abbrev putP (w1 : World) (n : Nat) (o : Ph) : World:=World.setCell (World.setCell (World.setCell (World.setCell (World.setCell (World.setCell (World.setCell (World.setCell (World.setCell (World.setCell (World.setCell w1 ⟨n,0,none⟩ (.int .i64 o.d.id)) ⟨n,1,none⟩ (.string o.d.f)) ⟨n,2,none⟩ (.string o.d.t)) ⟨n,3,none⟩ (.int .i64 o.d.gen)) ⟨n,4,none⟩ (o.sm)) ⟨n,5,none⟩ (.int .i64 o.d.next)) ⟨n,6,none⟩ (o.sp)) ⟨n,7,none⟩ (o.sz)) ⟨n,8,none⟩ (.bool o.fr)) ⟨n,9,none⟩ (o.se)) ⟨n,10,none⟩ (.int .i64 o.al)
abbrev putR (w1 : World) (n : Nat) (o : Rep) (s : Value) : World:=World.setCell (World.setCell (World.setCell (World.setCell (World.setCell w1 ⟨n,0,none⟩ (.int .i64 o.code)) ⟨n,1,none⟩ (.int .i64 o.err)) ⟨n,2,none⟩ (.bool o.has)) ⟨n,3,none⟩ (.string o.val)) ⟨n,4,none⟩ (s)
def BoxF (n : Nat) (o : Fh) (w' : World) : Prop:=n < w'.heap.size /\ (w'.cell? ⟨n,0,none⟩ = some (.bool o.split) /\ w'.cell? ⟨n,1,none⟩ = some (.int .i64 o.ri.d.id) /\ w'.cell? ⟨n,2,none⟩ = some (.string o.ri.d.f) /\ w'.cell? ⟨n,3,none⟩ = some (.string o.ri.d.t) /\ w'.cell? ⟨n,4,none⟩ = some (.int .i64 o.ri.d.gen) /\ w'.cell? ⟨n,5,none⟩ = some (o.ri.sm) /\ w'.cell? ⟨n,6,none⟩ = some (.int .i64 o.ri.d.next) /\ w'.cell? ⟨n,7,none⟩ = some (o.ri.sp) /\ w'.cell? ⟨n,8,none⟩ = some (o.ri.sz) /\ w'.cell? ⟨n,9,none⟩ = some (.bool o.ri.fr) /\ w'.cell? ⟨n,10,none⟩ = some (o.ri.se) /\ w'.cell? ⟨n,11,none⟩ = some (.int .i64 o.ri.al) /\ w'.cell? ⟨n,12,none⟩ = some (.int .i64 o.eaten)) /\ ∀ o,w'.frozen? ⟨n,o,none⟩ = false
theorem BoxF.keep {n : Nat} {o : Fh} {w1 w2 : World} (h : BoxF n o w1) (hb : Below w1.heap.size w1 w2) : BoxF n o w2:=by
 obtain ⟨h0,⟨h1,h2,h3,h4,h5,h6,h7,h8,h9,h10,h11,h12,h13⟩,hf⟩:=h
 have hc : ∀ o,w2.cell? ⟨n,o,none⟩ = w1.cell? ⟨n,o,none⟩:=fun o => hb.cell (p:=⟨n,o,none⟩) h0
 refine ⟨Nat.lt_of_lt_of_le h0 hb.size,⟨?_,?_,?_,?_,?_,?_,?_,?_,?_,?_,?_,?_,?_⟩,fun o => (hb.frozen (p:=⟨n,o,none⟩) h0).trans (hf o)⟩
 all_goals rw [hc]; assumption
theorem BoxF.new (w : World) (o : Fh) : BoxF w.heap.size o (w.alloc (.cells #[.bool o.split,.int .i64 o.ri.d.id,.string o.ri.d.f,.string o.ri.d.t,.int .i64 o.ri.d.gen,o.ri.sm,.int .i64 o.ri.d.next,o.ri.sp,o.ri.sz,.bool o.ri.fr,o.ri.se,.int .i64 o.ri.al,.int .i64 o.eaten] 93)) :=
 ⟨by simp,by simp [go_sem],fun o => by simp [go_sem]⟩
theorem BoxF.alloc {n : Nat} {o : Fh} {w1 : World} (h : BoxF n o w1) (x : Obj) : BoxF n o (w1.alloc x) :=
 h.keep ((Below.refl _ w1).alloc (Nat.le_refl _) x)
theorem BoxF.drew {n : Nat} {o : Fh} {w1 : World} (h : BoxF n o w1) : BoxF n o w1.drew:=h
theorem BoxF.other {n : Nat} {o : Fh} {w1 : World} (h : BoxF n o w1) {a : Addr} (ha : a.block ≠ n) (u : Value) : BoxF n o (w1.setCell a u):=by
 obtain ⟨h0,⟨h1,h2,h3,h4,h5,h6,h7,h8,h9,h10,h11,h12,h13⟩,hf⟩:=h
 have hc : ∀ o,(w1.setCell a u).cell? ⟨n,o,none⟩ = w1.cell? ⟨n,o,none⟩:=fun o => World.cell?_setCell_far w1 a _ u ha
 refine ⟨by simpa using h0,⟨?_,?_,?_,?_,?_,?_,?_,?_,?_,?_,?_,?_,?_⟩,fun o => by rw [World.frozen?_setCell]; exact hf o⟩
 all_goals rw [hc]; assumption
abbrev putF (w1 : World) (n : Nat) (o : Fh) : World:=World.setCell (World.setCell (World.setCell (World.setCell (World.setCell (World.setCell (World.setCell (World.setCell (World.setCell (World.setCell (World.setCell (World.setCell (World.setCell w1 ⟨n,0,none⟩ (.bool o.split)) ⟨n,1,none⟩ (.int .i64 o.ri.d.id)) ⟨n,2,none⟩ (.string o.ri.d.f)) ⟨n,3,none⟩ (.string o.ri.d.t)) ⟨n,4,none⟩ (.int .i64 o.ri.d.gen)) ⟨n,5,none⟩ (o.ri.sm)) ⟨n,6,none⟩ (.int .i64 o.ri.d.next)) ⟨n,7,none⟩ (o.ri.sp)) ⟨n,8,none⟩ (o.ri.sz)) ⟨n,9,none⟩ (.bool o.ri.fr)) ⟨n,10,none⟩ (o.ri.se)) ⟨n,11,none⟩ (.int .i64 o.ri.al)) ⟨n,12,none⟩ (.int .i64 o.eaten)
theorem BoxF.put {n : Nat} {o0 : Fh} {w1 : World} (h : BoxF n o0 w1) (o : Fh) : BoxF n o (putF w1 n o):=by
 obtain ⟨h0,⟨h1,h2,h3,h4,h5,h6,h7,h8,h9,h10,h11,h12,h13⟩,hf⟩:=h
 refine ⟨by simpa [putF] using h0,⟨?_,?_,?_,?_,?_,?_,?_,?_,?_,?_,?_,?_,?_⟩,fun o => by simp [putF,World.frozen?_setCell,hf]⟩
 all_goals simp [putF,go_sem,h1,h2,h3,h4,h5,h6,h7,h8,h9,h10,h11,h12,h13]
theorem run_cells {P : Program} {w : World} {b : Nat} : ∀ (l : List Value) (i : Nat) (acc : Array Value),(∀ j (h : j < l.length),w.cell? ⟨b,i + j,none⟩ = some l[j]) -> (loadCellsFrom ⟨b,0,none⟩ i l.length acc).run P w = .ok (acc ++ l.toArray) w:=by
 intro l
 induction l with
 | nil => intro i acc _; simp [loadCellsFrom,go_sem]
 | cons v l ih =>
  intro i acc h
  have h0:=h 0 (by simp)
  have h2:=ih (i + 1) (acc.push v) (fun j hj => by have:=h (j + 1) (by simp; omega); rw [Nat.add_right_comm,Nat.add_assoc]; simpa using this)
  have e : (Addr.add ⟨b,0,none⟩ i) = ⟨b,i,none⟩:=by rw [Addr.add_lit,Nat.zero_add]
  rw [List.length_cons,loadCellsFrom]
  simp only [List.getElem_cons_zero,Nat.add_zero] at h0
  simp [go_sem,e,h0,h2]
def putL (w : World) (n : Nat) : Nat -> List Value -> World
 | _,[] => w
 | i,v :: vs => putL (w.setCell ⟨n,i,none⟩ v) n (i + 1) vs
theorem heap_set {w : World} {n i : Nat} {l : List Value} {T : TypeId} (h : w.heap[n]? = some (.cells l.toArray T (0,0))) (v : Value) : (w.setCell ⟨n,i,none⟩ v).heap[n]? = some (.cells (l.set i v).toArray T (0,0)):=by
 simp only [World.setCell,Array.getElem?_modify]
 rw [if_pos trivial,h]
 simp
theorem putL_below {N n : Nat} {w0 : World} : ∀ {l : List Value} {i : Nat} {w1 : World},Below N w0 w1 -> N <= n -> Below N w0 (putL w1 n i l)
 | [],_,_,h,_ => h
 | v :: l,i,_,h,hn => putL_below (l:=l) (i:=i + 1) (h.setCell (p:=⟨n,i,none⟩) hn v) hn
theorem putL_heap {w : World} {n : Nat} {T : TypeId} : ∀ (vs l : List Value) (i : Nat),w.heap[n]? = some (.cells l.toArray T (0,0)) -> l.length = i + vs.length -> (putL w n i vs).heap[n]? = some (.cells (l.take i ++ vs).toArray T (0,0)):=by
 intro vs
 induction vs generalizing w with
 | nil => intro l i h hl; rw [putL,List.append_nil,List.take_of_length_le (by simp at hl; omega)]; exact h
 | cons v vs ih =>
  intro l i h hl
  rw [List.length_cons] at hl
  have h2:=ih (w:=w.setCell ⟨n,i,none⟩ v) (l.set i v) (i + 1) (heap_set h v) (by rw [List.length_set]; omega)
  rw [putL,h2]
  congr 2
  rw [List.take_succ_eq_append_getElem (by rw [List.length_set]; omega),List.getElem_set_self,List.take_set_of_le (Nat.le_refl _),List.append_assoc]
  rfl
theorem run_storeL {P : Program} {n : Nat} {T : TypeId} : ∀ (vs l : List Value) (i : Nat) (w : World),w.heap[n]? = some (.cells l.toArray T (0,0)) -> i + vs.length <= l.length -> (∀ v ∈ vs,v.oneCell' = true) -> (storeCells ⟨n,0,none⟩ vs i).run P w = .ok () (putL w n i vs)
 | [],_,_,_,_,_,_ => rfl
 | v :: vs,l,i,w,h,hl,h1 => by
  rw [List.length_cons] at hl
  have hi : i < l.length:=by omega
  have hc : w.cell? ⟨n,i,none⟩ = some l[i]:=by simp [World.cell?,h,hi]
  have hf : w.frozen? ⟨n,i,none⟩ = false:=by simp [World.frozen?,h]
  have ih:=run_storeL (P:=P) vs (l.set i v) (i + 1) (w.setCell ⟨n,i,none⟩ v) (heap_set h v) (by rw [List.length_set]; omega) (fun x hx => h1 x (by simp [hx]))
  rw [storeCells,Sem.run_bind,Addr.add_lit,Nat.zero_add,run_store P w _ v _ (h1 v (by simp)),hc,hf]
  exact ih
def arrBoxC (o : Oc) : Array Value:=#[.int .i64 o.p.d.id,.string o.p.d.f,.string o.p.d.t,.int .i64 o.p.d.gen,o.p.sm,.int .i64 o.p.d.next,o.p.sp,o.p.sz,.bool o.p.fr,o.p.se,.int .i64 o.p.al,.int .i64 o.r.code,.int .i64 o.r.err,.bool o.r.has,.string o.r.val,o.rs,.bool o.f.split,.int .i64 o.f.ri.d.id,.string o.f.ri.d.f,.string o.f.ri.d.t,.int .i64 o.f.ri.d.gen,o.f.ri.sm,.int .i64 o.f.ri.d.next,o.f.ri.sp,o.f.ri.sz,.bool o.f.ri.fr,o.f.ri.se,.int .i64 o.f.ri.al,.int .i64 o.f.eaten]
def BoxC (n : Nat) (o : Oc) (w : World) : Prop:=w.heap[n]? = some (.cells (arrBoxC o) 158 (0,0))
theorem BoxC.lt {n : Nat} {o : Oc} {w : World} (h : BoxC n o w) : n < w.heap.size:=(Array.getElem?_eq_some_iff.1 h).1
theorem BoxC.below {n N : Nat} {o : Oc} {w w' : World} (h : BoxC n o w) (hn : n < N) (hb : Below N w w') : BoxC n o w':=(hb.block n hn).trans h
theorem BoxC.keep {n : Nat} {o : Oc} {w w' : World} (h : BoxC n o w) (hb : Below w.heap.size w w') : BoxC n o w':=h.below h.lt hb
theorem BoxC.new (w : World) (o : Oc) : BoxC w.heap.size o (w.alloc (.cells #[.int .i64 o.p.d.id,.string o.p.d.f,.string o.p.d.t,.int .i64 o.p.d.gen,o.p.sm,.int .i64 o.p.d.next,o.p.sp,o.p.sz,.bool o.p.fr,o.p.se,.int .i64 o.p.al,.int .i64 o.r.code,.int .i64 o.r.err,.bool o.r.has,.string o.r.val,o.rs,.bool o.f.split,.int .i64 o.f.ri.d.id,.string o.f.ri.d.f,.string o.f.ri.d.t,.int .i64 o.f.ri.d.gen,o.f.ri.sm,.int .i64 o.f.ri.d.next,o.f.ri.sp,o.f.ri.sz,.bool o.f.ri.fr,o.f.ri.se,.int .i64 o.f.ri.al,.int .i64 o.f.eaten] 158)):=heap_alloc_new w _
theorem BoxC.drew {n : Nat} {o : Oc} {w1 : World} (h : BoxC n o w1) : BoxC n o w1.drew:=h
theorem BoxC.other {n : Nat} {o : Oc} {w1 : World} (h : BoxC n o w1) {a : Addr} (ha : a.block ≠ n) (u : Value) : BoxC n o (w1.setCell a u):=(Below.heap_setCell w1 a u n (Ne.symm ha)).trans h
theorem BoxC.cell {n : Nat} {o : Oc} {w : World} (h : BoxC n o w) (i : Nat) : w.cell? ⟨n,i,none⟩ = (arrBoxC o)[i]?:=by
 unfold BoxC at h
 simp [World.cell?,h]
theorem BoxC.cells {n : Nat} {o : Oc} {w : World} (h : BoxC n o w) : w.cell? ⟨n,0,none⟩ = some (.int .i64 o.p.d.id) /\ w.cell? ⟨n,1,none⟩ = some (.string o.p.d.f) /\ w.cell? ⟨n,2,none⟩ = some (.string o.p.d.t) /\ w.cell? ⟨n,3,none⟩ = some (.int .i64 o.p.d.gen) /\ w.cell? ⟨n,4,none⟩ = some (o.p.sm) /\ w.cell? ⟨n,5,none⟩ = some (.int .i64 o.p.d.next) /\ w.cell? ⟨n,6,none⟩ = some (o.p.sp) /\ w.cell? ⟨n,7,none⟩ = some (o.p.sz) /\ w.cell? ⟨n,8,none⟩ = some (.bool o.p.fr) /\ w.cell? ⟨n,9,none⟩ = some (o.p.se) /\ w.cell? ⟨n,10,none⟩ = some (.int .i64 o.p.al) /\ w.cell? ⟨n,11,none⟩ = some (.int .i64 o.r.code) /\ w.cell? ⟨n,12,none⟩ = some (.int .i64 o.r.err) /\ w.cell? ⟨n,13,none⟩ = some (.bool o.r.has) /\ w.cell? ⟨n,14,none⟩ = some (.string o.r.val) /\ w.cell? ⟨n,15,none⟩ = some (o.rs) /\ w.cell? ⟨n,16,none⟩ = some (.bool o.f.split) /\ w.cell? ⟨n,17,none⟩ = some (.int .i64 o.f.ri.d.id) /\ w.cell? ⟨n,18,none⟩ = some (.string o.f.ri.d.f) /\ w.cell? ⟨n,19,none⟩ = some (.string o.f.ri.d.t) /\ w.cell? ⟨n,20,none⟩ = some (.int .i64 o.f.ri.d.gen) /\ w.cell? ⟨n,21,none⟩ = some (o.f.ri.sm) /\ w.cell? ⟨n,22,none⟩ = some (.int .i64 o.f.ri.d.next) /\ w.cell? ⟨n,23,none⟩ = some (o.f.ri.sp) /\ w.cell? ⟨n,24,none⟩ = some (o.f.ri.sz) /\ w.cell? ⟨n,25,none⟩ = some (.bool o.f.ri.fr) /\ w.cell? ⟨n,26,none⟩ = some (o.f.ri.se) /\ w.cell? ⟨n,27,none⟩ = some (.int .i64 o.f.ri.al) /\ w.cell? ⟨n,28,none⟩ = some (.int .i64 o.f.eaten):=⟨h.cell 0,h.cell 1,h.cell 2,h.cell 3,h.cell 4,h.cell 5,h.cell 6,h.cell 7,h.cell 8,h.cell 9,h.cell 10,h.cell 11,h.cell 12,h.cell 13,h.cell 14,h.cell 15,h.cell 16,h.cell 17,h.cell 18,h.cell 19,h.cell 20,h.cell 21,h.cell 22,h.cell 23,h.cell 24,h.cell 25,h.cell 26,h.cell 27,h.cell 28⟩
theorem BoxC.frozen {n : Nat} {o : Oc} {w : World} (h : BoxC n o w) (i : Nat) : w.frozen? ⟨n,i,none⟩ = false:=by
 unfold BoxC at h
 simp [World.frozen?,h]
abbrev putC (w1 : World) (n : Nat) (o : Oc) : World:=World.setCell (World.setCell (World.setCell (World.setCell (World.setCell (World.setCell (World.setCell (World.setCell (World.setCell (World.setCell (World.setCell (World.setCell (World.setCell (World.setCell (World.setCell (World.setCell (World.setCell (World.setCell (World.setCell (World.setCell (World.setCell (World.setCell (World.setCell (World.setCell (World.setCell (World.setCell (World.setCell (World.setCell (World.setCell w1 ⟨n,0,none⟩ (.int .i64 o.p.d.id)) ⟨n,1,none⟩ (.string o.p.d.f)) ⟨n,2,none⟩ (.string o.p.d.t)) ⟨n,3,none⟩ (.int .i64 o.p.d.gen)) ⟨n,4,none⟩ (o.p.sm)) ⟨n,5,none⟩ (.int .i64 o.p.d.next)) ⟨n,6,none⟩ (o.p.sp)) ⟨n,7,none⟩ (o.p.sz)) ⟨n,8,none⟩ (.bool o.p.fr)) ⟨n,9,none⟩ (o.p.se)) ⟨n,10,none⟩ (.int .i64 o.p.al)) ⟨n,11,none⟩ (.int .i64 o.r.code)) ⟨n,12,none⟩ (.int .i64 o.r.err)) ⟨n,13,none⟩ (.bool o.r.has)) ⟨n,14,none⟩ (.string o.r.val)) ⟨n,15,none⟩ (o.rs)) ⟨n,16,none⟩ (.bool o.f.split)) ⟨n,17,none⟩ (.int .i64 o.f.ri.d.id)) ⟨n,18,none⟩ (.string o.f.ri.d.f)) ⟨n,19,none⟩ (.string o.f.ri.d.t)) ⟨n,20,none⟩ (.int .i64 o.f.ri.d.gen)) ⟨n,21,none⟩ (o.f.ri.sm)) ⟨n,22,none⟩ (.int .i64 o.f.ri.d.next)) ⟨n,23,none⟩ (o.f.ri.sp)) ⟨n,24,none⟩ (o.f.ri.sz)) ⟨n,25,none⟩ (.bool o.f.ri.fr)) ⟨n,26,none⟩ (o.f.ri.se)) ⟨n,27,none⟩ (.int .i64 o.f.ri.al)) ⟨n,28,none⟩ (.int .i64 o.f.eaten)
theorem BoxC.put {n : Nat} {o0 : Oc} {w1 : World} (h : BoxC n o0 w1) (o : Oc) : BoxC n o (putC w1 n o):=by
 have:=putL_heap (w:=w1) (n:=n) (T:=158) [.int .i64 o.p.d.id,.string o.p.d.f,.string o.p.d.t,.int .i64 o.p.d.gen,o.p.sm,.int .i64 o.p.d.next,o.p.sp,o.p.sz,.bool o.p.fr,o.p.se,.int .i64 o.p.al,.int .i64 o.r.code,.int .i64 o.r.err,.bool o.r.has,.string o.r.val,o.rs,.bool o.f.split,.int .i64 o.f.ri.d.id,.string o.f.ri.d.f,.string o.f.ri.d.t,.int .i64 o.f.ri.d.gen,o.f.ri.sm,.int .i64 o.f.ri.d.next,o.f.ri.sp,o.f.ri.sz,.bool o.f.ri.fr,o.f.ri.se,.int .i64 o.f.ri.al,.int .i64 o.f.eaten] (arrBoxC o0).toList 0 (by rw [Array.toArray_toList]; exact h) (by simp [arrBoxC])
 exact this
theorem BoxC.put' {n : Nat} {o0 : Oc} {w1 : World} (h : BoxC n o0 w1) (o : Oc) : BoxC n o (putL w1 n 0 (arrBoxC o).toList):=h.put o
theorem wpList_storeC {ops : Array Oper} {rest : List Oper} {op : Oper} {a : Act} {w : World} {Q : Exit -> Act -> World -> Prop} {n : Nat} {o0 o : Oc} {p x : Operand} (hw : Region.wanted op (yielded ops a.tmps) = true) (ho : op.op = .store 158 p x)
  (hp : a.eval p = .pointer (some ⟨n,0,none⟩)) (hx : a.eval x = cv o) (h : BoxC n o0 w) (h1 : ∀ v ∈ (arrBoxC o).toList,v.oneCell' = true) (hk : wpList Tryz.prog ops Q rest (a.put op.dst undef) (putL w n 0 (arrBoxC o).toList)) : wpList Tryz.prog ops Q (op :: rest) a w:=by
 have h2:=Tryz.sizeOf158
 have hr : (execOp a.eval op).run Tryz.prog w = .ok .skip (putL w n 0 (arrBoxC o).toList):=by
  have h3:=run_storeL (P:=Tryz.prog) (arrBoxC o).toList (arrBoxC o0).toList 0 w (by rw [Array.toArray_toList]; exact h) (by simp [arrBoxC]) h1
  have h4 : (storeVar 158 ⟨n,0,none⟩ (cv o)).run Tryz.prog w = .ok () (putL w n 0 (arrBoxC o).toList):=by
   unfold storeVar
   rw [Sem.run_bind,h2]
   exact h3
  have h5 : (Instr.storeAt 158 (.pointer (some ⟨n,0,none⟩)) (cv o)).run Tryz.prog w = .ok () (putL w n 0 (arrBoxC o).toList):=h4
  unfold execOp
  rw [ho]
  simp only [hp,hx]
  rw [show ∀ (m : Sem Unit),(do m; pure Next.skip : Sem Next) = (m >>= fun _ => pure Next.skip) from fun m => rfl] <;> first | (rw [Sem.run_bind,h5]; rfl) | skip
 refine wpList_step fun K hK => ?_
 rw [if_pos hw]
 unfold Oper.wp
 rw [hr]
 exact hK _ _ hk
theorem res_BoxC {fn : Func} {a : Tmp} {tmps : Array Value} {n : Nat} {o : Oc} {w1 : World} (hf : fn.results = #[.cell a 158]) (ht : tmps[a]?.getD undef = .pointer (some ⟨n,0,none⟩)) (h : BoxC n o w1) : (results fn tmps).run Tryz.prog w1 = .ok (cv o) w1:=by
 have h1:=Tryz.isAgg158
 have h2:=Tryz.sizeOf158
 have h3 : (loadCells ⟨n,0,none⟩ 29).run Tryz.prog w1 = .ok (arrBoxC o) w1:=by
  have:=run_cells (P:=Tryz.prog) (w:=w1) (b:=n) (arrBoxC o).toList 0 #[] (fun j hj => by rw [Nat.zero_add,h.cell]; simp)
  simpa [loadCells,arrBoxC] using this
 have h4 : (loadVar 158 ⟨n,0,none⟩).run Tryz.prog w1 = .ok (cv o) w1:=by
  unfold loadVar
  rw [Sem.run_bind,h1]
  simp only [Result.andThen]
  rw [if_pos trivial,Sem.run_bind,h2]
  simp only [Result.andThen]
  rw [Sem.run_bind,h3]
  rfl
 simp [results,hf,asAddr,ht,h4]
theorem oneC (o : Oc) (h1 : o.p.sm.oneCell' = true) (h2 : o.p.sp.oneCell' = true) (h3 : o.p.sz.oneCell' = true) (h4 : o.p.se.oneCell' = true) (h5 : o.rs.oneCell' = true) (h6 : o.f.ri.sm.oneCell' = true) (h7 : o.f.ri.sp.oneCell' = true) (h8 : o.f.ri.sz.oneCell' = true) (h9 : o.f.ri.se.oneCell' = true) : ∀ v ∈ (arrBoxC o).toList,v.oneCell' = true:=by
 intro v hv
 simp only [arrBoxC,List.mem_cons,List.not_mem_nil,or_false] at hv
 rcases hv with rfl | rfl | rfl | rfl | rfl | rfl | rfl | rfl | rfl | rfl | rfl | rfl | rfl | rfl | rfl | rfl | rfl | rfl | rfl | rfl | rfl | rfl | rfl | rfl | rfl | rfl | rfl | rfl | rfl <;> first | rfl | assumption
end Go.Proofs.YthcmnkmfhgoddaaGreatDoor.Pt

namespace Go.Proofs.YthcmnkmfhgoddaaGreatDoor.Pt
open Go.RowKit Bnd
open Go.Proofs.YthcmnkmfhgoddaaGreatDoor.Ds (De SM ArgM putT isD dv)
open Go.Proofs.YthcmnkmfhgoddaaGreatDoor.Od (Rep BoxR rv readsK E0)
open Go.Proofs.YthcmnkmfhgoddaaGreatDoor.Dp (Ph BoxP qv HA HP)
set_option maxHeartbeats 4000000 in
theorem bad_any (n : Int) (w : World) : Calls Tryz.prog 108 #[.int .i64 n] w fun e w' => e = .returned (rv (badR n) (.slice none 0 0)) /\ Below w.heap.size w w':=by
 go_enter Tryz.func108,Tryz.ntmps108
 go_wp2_with fail
 exact bodyPost_ret (Od.res_BoxR Tryz.results108 rfl (BoxR.new w (badR n) (.slice none 0 0))) rfl ⟨rfl,(by exact bex0)⟩
set_option maxHeartbeats 4000000 in
theorem rbad_any (n : Int) (w : World) : Calls Tryz.prog 110 #[.int .i64 n] w fun e w' => e = .returned (rv (badR n) (.slice none 0 0)) /\ Below w.heap.size w w':=by
 go_enter Tryz.func110,Tryz.ntmps110
 go_wp2_with fail
 exact bodyPost_ret (Od.res_BoxR Tryz.results110 rfl (BoxR.new w (badR n) (.slice none 0 0))) rfl ⟨rfl,(by exact bex0)⟩
theorem isNoted_any (k c : Int) (w : World) : Calls Tryz.prog 106 #[.int .i64 k,.int .i64 c] w fun e w' => e = .returned (.bool (notedB k c)) /\ w = w':=by
 have ck:=fun w => Od.reads_any k w
 unfold notedB
 cases hr : readsK k with
 | true =>
  rw [hr] at ck
  go_enter Tryz.func106,Tryz.ntmps106
  go_wp2_with fail
  refine (ck _).mono ?_
  rintro e w1 ⟨rfl,rfl⟩
  go_wp2_with fail
  go_ret
  exact ⟨rfl,rfl⟩
 | false =>
  rw [hr] at ck
  by_cases hc : c = 1
  ·have n1 : (c == 1) = true:=by simpa using hc
   have n2 : (c != 1) = false:=by simpa using hc
   rw [show decide (c ≠ 1) = false by simpa using hc]
   clear hc
   go_enter Tryz.func106,Tryz.ntmps106
   go_wp2_with fail
   refine (ck _).mono ?_
   rintro e w1 ⟨rfl,rfl⟩
   go_wp2_with fail
   go_ret
   exact ⟨rfl,rfl⟩
  ·have n1 : (c == 1) = false:=by simpa using hc
   have n2 : (c != 1) = true:=by simpa using hc
   rw [show decide (c ≠ 1) = true by simpa using hc]
   clear hc
   go_enter Tryz.func106,Tryz.ntmps106
   go_wp2_with fail
   refine (ck _).mono ?_
   rintro e w1 ⟨rfl,rfl⟩
   go_wp2_with fail
   go_ret
   exact ⟨rfl,rfl⟩
theorem put_is (d : De) (s : Value) (w : World) (hs : SM w w.heap.size s d.ms) (hd : isD d = true) :
  Calls Tryz.prog 129 #[dv d s] w fun e w' => e = .returned (.string (txt (putT d))) /\ Below w.heap.size w w':=by
 obtain ⟨h1,h2,h3⟩:=Dp.isD_sizes hd
 exact Ds.put_any d s w hs (Dp.isD_fit hd) (by omega) (by omega)
theorem rput_is (d : De) (s : Value) (w : World) (hs : SM w w.heap.size s d.ms) (hd : isD d = true) :
  Calls Tryz.prog 115 #[dv d s] w fun e w' => e = .returned (.string (txt (putT d))) /\ Below w.heap.size w w':=by
 obtain ⟨h1,h2,h3⟩:=Dp.isD_sizes hd
 exact Ds.rput_any d s w hs (Dp.isD_fit hd) (by omega) (by omega)
set_option maxHeartbeats 4000000 in
theorem moved_any (o : Ph) (w : World) (h : HP w w.heap.size o) (hd : isD o.d = true) : Calls Tryz.prog 180 #[qv o] w fun e w' => e = .returned (rv (toldR 1 false (putT o.d)) (.slice none 0 0)) /\ Below w.heap.size w w':=by
 have cp:=fun w' (hb : Below w.heap.size w w') => put_is o.d o.sm w' ((h.sm.below hb).more hb.size) hd
 obtain ⟨d,ps,zs,fr,ea,al,A,B,C,D,a,b,c,e,rfl⟩:=h.open
 simp only at cp hd ⊢
 obtain ⟨T,hT⟩ : ∃ T,txt (putT d) = T:=⟨_,rfl⟩
 rw [hT] at cp
 have hT' : toldR 1 false (putT d) = ⟨1,0,false,T,[]⟩:=by rw [<- hT]
 rw [hT']
 have R0:=BoxR.new (w.alloc (.cells #[.int .i64 d.id,.string d.f,.string d.t,.int .i64 d.gen,.slice A d.ms.length a,.int .i64 d.next,.slice B ps.length b,.slice C zs.length c,.bool fr,.slice D ea.length e,.int .i64 al] 38)) Od.Rep.zero (.slice none 0 0)
 rw [World.size_alloc] at R0
 obtain ⟨nm,hnm⟩ : ∃ n,d.ms.length = n:=⟨_,rfl⟩
 rw [hnm] at cp R0 ⊢
 clear h hd hT hT' hnm
 go_enter Tryz.func180,Tryz.ntmps180
 go_wp2_with fail
 refine (cp _ (by exact bex0)).mono ?_
 rintro e1 w1 ⟨rfl,b1⟩
 have R1:=R0.keep b1
 have hb1 : Below w.heap.size w w1:=(show Below w.heap.size w _ from (by exact bex0)).trans (b1.mono (by simp; omega))
 have hlt:=R1.1
 clear b1 R0 cp
 obtain ⟨q_0,⟨q_1,q_2,q_3,q_4,q_5⟩,q_6⟩:=_root_.id R1
 go_wp2_with fail
 exact bodyPost_ret (Od.res_BoxR Tryz.results180 rfl (BoxR.put R1 ⟨1,0,false,T,[]⟩ (.slice none 0 0))) rfl ⟨rfl,(by exact bex0)⟩
end Go.Proofs.YthcmnkmfhgoddaaGreatDoor.Pt

namespace Go.Proofs.YthcmnkmfhgoddaaGreatDoor.Pt
open Go.RowKit Bnd
open Go.Proofs.YthcmnkmfhgoddaaGreatDoor.Ds (De SM ArgM putT isD dv nodeB)
open Go.Proofs.YthcmnkmfhgoddaaGreatDoor.Ss (Zs SZ ArgZ Cs)
open Go.Proofs.YthcmnkmfhgoddaaGreatDoor.Od (Rep BoxR rv E0 SP ArgP)
open Go.Proofs.YthcmnkmfhgoddaaGreatDoor.Dp (Ph BoxP qv HA HP SI ArgI)
structure But (ns : List Nat) (W w : World) : Prop where
 os : w.os = W.os
 tape : w.tape = W.tape
 output : w.output = W.output
 size : W.heap.size <= w.heap.size
 block : ∀ k,k < W.heap.size -> k ∉ ns -> w.heap[k]? = W.heap[k]?
theorem But.refl (ns : List Nat) (W : World) : But ns W W:=⟨rfl,rfl,rfl,Nat.le_refl _,fun _ _ _ => rfl⟩
theorem But.drew {ns : List Nat} {W w : World} (h : But ns W w) : But ns W w.drew:=⟨h.os,h.tape,h.output,h.size,h.block⟩
theorem But.call {ns : List Nat} {W w w' : World} (h : But ns W w) (hb : Below w.heap.size w w') : But ns W w' :=
 ⟨hb.os.trans h.os,hb.tape.trans h.tape,hb.output.trans h.output,Nat.le_trans h.size hb.size,fun k hk hn => (hb.block k (Nat.lt_of_lt_of_le hk h.size)).trans (h.block k hk hn)⟩
theorem But.set {ns : List Nat} {W w : World} (h : But ns W w) {n i : Nat} (hn : n ∈ ns) (v : Value) : But ns W (w.setCell ⟨n,i,none⟩ v):=by
 have hb : Below 0 w (w.setCell ⟨n,i,none⟩ v):=(Below.refl 0 w).setCell (Nat.zero_le _) v
 exact ⟨hb.os.trans h.os,hb.tape.trans h.tape,hb.output.trans h.output,Nat.le_trans h.size hb.size,fun k hk hm => (Below.heap_setCell w ⟨n,i,none⟩ v k (fun e => hm (e ▸ hn))).trans (h.block k hk hm)⟩
theorem But.below {ns : List Nat} {W w : World} {N : Nat} (h : But ns W w) (hN : N <= W.heap.size) (hn : ∀ n ∈ ns,N <= n) : Below N W w :=
 ⟨h.os,h.tape,h.output,h.size,fun k hk => h.block k (Nat.lt_of_lt_of_le hk hN) fun hm => by have:=hn k hm; omega⟩
theorem But.cell {ns : List Nat} {W w : World} (h : But ns W w) {p : Addr} (hp : p.block < W.heap.size) (hn : p.block ∉ ns) : w.cell? p = W.cell? p:=by
 simp only [World.cell?,h.block p.block hp hn]
theorem But.frozen {ns : List Nat} {W w : World} (h : But ns W w) {p : Addr} (hp : p.block < W.heap.size) (hn : p.block ∉ ns) : w.frozen? p = W.frozen? p:=by
 simp only [World.frozen?,h.block p.block hp hn]
theorem But.boxP {ns : List Nat} {W w : World} (h : But ns W w) {n : Nat} {o : Ph} (hb : BoxP n o W) (hn : n ∉ ns) : BoxP n o w:=by
 obtain ⟨h0,hc,hf⟩:=hb
 have e : ∀ o,w.cell? ⟨n,o,none⟩ = W.cell? ⟨n,o,none⟩:=fun o => h.cell (p:=⟨n,o,none⟩) h0 hn
 refine ⟨Nat.lt_of_lt_of_le h0 h.size,?_,fun o => (h.frozen (p:=⟨n,o,none⟩) h0 hn).trans (hf o)⟩
 simp only [e]
 exact hc
theorem But.boxR {ns : List Nat} {W w : World} (h : But ns W w) {n : Nat} {o : Rep} {s : Value} (hb : BoxR n o s W) (hn : n ∉ ns) : BoxR n o s w:=by
 obtain ⟨h0,hc,hf⟩:=hb
 have e : ∀ o,w.cell? ⟨n,o,none⟩ = W.cell? ⟨n,o,none⟩:=fun o => h.cell (p:=⟨n,o,none⟩) h0 hn
 refine ⟨Nat.lt_of_lt_of_le h0 h.size,?_,fun o => (h.frozen (p:=⟨n,o,none⟩) h0 hn).trans (hf o)⟩
 simp only [e]
 exact hc
theorem But.boxF {ns : List Nat} {W w : World} (h : But ns W w) {n : Nat} {o : Fh} (hb : BoxF n o W) (hn : n ∉ ns) : BoxF n o w:=by
 obtain ⟨h0,hc,hf⟩:=hb
 have e : ∀ o,w.cell? ⟨n,o,none⟩ = W.cell? ⟨n,o,none⟩:=fun o => h.cell (p:=⟨n,o,none⟩) h0 hn
 refine ⟨Nat.lt_of_lt_of_le h0 h.size,?_,fun o => (h.frozen (p:=⟨n,o,none⟩) h0 hn).trans (hf o)⟩
 simp only [e]
 exact hc
theorem But.boxC {ns : List Nat} {W w : World} (h : But ns W w) {n : Nat} {o : Oc} (hb : BoxC n o W) (hn : n ∉ ns) : BoxC n o w:=(h.block n hb.lt hn).trans hb
def OffV (n : Nat) (v : Value) : Prop:=∀ b o k c,v = .slice (some ⟨b,o,none⟩) k c -> 0 < k -> b ≠ n
theorem OffV.nil (n : Nat) (A : Option Addr) (c : Nat) : OffV n (.slice A 0 c):=fun b o k c' e hk => by injection e with _ e2; omega
theorem argM_but {ns : List Nat} {W w : World} {s : Value} {ms : List Ds.Mem} (h : ArgM W s ms) (hoff : ∀ n ∈ ns,OffV n s) (hb : But ns W w) : ArgM w s ms:=by
 cases h with
 | nil => exact .nil
 | empty a c => exact .empty a c
 | some b o c ms h =>
  refine .some b o c ms ⟨_,_,rfl,fun h0 => ?_⟩
  obtain ⟨b',o2,e,hlt,_⟩:=h.at_ (k:=0) h0
  cases e
  have hne : b ∉ ns:=fun hm => hoff b hm b o _ c rfl h0 rfl
  refine ⟨b,o,rfl,by have:=hb.size; omega,fun i hi => ?_⟩
  obtain ⟨b',o2,e,_,q⟩:=h.at_ (k:=i) hi
  cases e
  exact ⟨(hb.cell (p:=⟨b,o + i * 2,none⟩) hlt hne).trans q.1,(hb.cell (p:=⟨b,o + i * 2 + 1,none⟩) hlt hne).trans q.2⟩
theorem argM_low {W : World} {s : Value} {ms : List Ds.Mem} (h : ArgM W s ms) {n : Nat} (hn : W.heap.size <= n) : OffV n s:=by
 cases h with
 | nil => intro b o k c e hk; cases e
 | empty a c => intro b o k c' e hk; injection e with _ e2; omega
 | some b o c ms h =>
  intro b1 o1 k c1 e hk
  injection e with e1 e2 e3
  injection e1 with e1
  injection e1 with e4 e5
  subst e2
  obtain ⟨b',o2,e,hlt,_⟩:=h.at_ (k:=0) hk
  cases e
  omega
theorem argZ_but {ns : List Nat} {W w : World} {s : Value} {ms : List Zs} (h : ArgZ W s ms) (hoff : ∀ n ∈ ns,OffV n s) (hb : But ns W w) : ArgZ w s ms:=by
 cases h with
 | nil => exact .nil
 | empty a c => exact .empty a c
 | some b o c ms hc h =>
  refine .some b o c ms hc ⟨_,_,rfl,fun h0 => ?_⟩
  obtain ⟨b',o2,e,hlt,_⟩:=h.at_ (k:=0) h0
  cases e
  have hne : b ∉ ns:=fun hm => hoff b hm b o _ c rfl h0 rfl
  refine ⟨b,o,rfl,by have:=hb.size; omega,fun i hi => ?_⟩
  obtain ⟨b',o2,e,_,q⟩:=h.at_ (k:=i) hi
  cases e
  exact q.keep fun j => hb.cell (p:=⟨b,j,none⟩) hlt hne
theorem argM_off {W : World} {s : Value} {ms : List Ds.Mem} (h : ArgM W s ms) {n : Nat} {arr : Array Value} {T : TypeId} (hz : W.heap[n]? = some (.cells arr T (0,0)))
  (harr : ∀ i x y,arr[i]? = some (.int .i64 x) -> arr[i + 1]? = some (.int .i64 y) -> x = 0) (hm : ∀ m ∈ ms,m.1 ≠ 0) : OffV n s:=by
 cases h with
 | nil => intro b o k c e hk; cases e
 | empty a c => intro b o k c' e hk; injection e with _ e2; omega
 | some b o c ms h =>
  intro b1 o1 k c1 e hk hbn
  injection e with e1 e2 e3
  injection e1 with e1
  injection e1 with e4 e5
  subst e2
  obtain ⟨b',o2,e,hlt,q0,q1⟩:=h.at_ (k:=0) hk
  cases e
  have hb : b = n:=by omega
  subst hb
  rw [Nat.zero_mul,Nat.add_zero] at q0 q1
  have e0 : ∀ i,W.cell? ⟨b,i,none⟩ = arr[i]?:=fun i => by simp [World.cell?,hz]
  rw [e0] at q0 q1
  exact hm _ (List.getElem_mem hk) (harr _ _ _ q0 q1)
theorem argZ_off {W : World} {s : Value} {zs : List Zs} (h : ArgZ W s zs) {n : Nat} (hn : ∀ i x0 x1 x2 x3,W.cell? ⟨n,i,none⟩ = some (.int .i64 x0) -> W.cell? ⟨n,i + 1,none⟩ = some (.int .i64 x1) -> W.cell? ⟨n,i + 2,none⟩ = some (.int .i64 x2) -> W.cell? ⟨n,i + 3,none⟩ = some (.int .i64 x3) -> False) : OffV n s:=by
 cases h with
 | nil => intro b o k c e hk; cases e
 | empty a c => intro b o k c' e hk; injection e with _ e2; omega
 | some b o c zs hc h =>
  intro b1 o1 k c1 e hk hbn
  injection e with e1 e2 e3
  injection e1 with e1
  injection e1 with e4 e5
  subst e2
  obtain ⟨b',o2,e,hlt,q⟩:=h.at_ (k:=0) hk
  cases e
  have hb : b = n:=by omega
  subst hb
  exact hn _ _ _ _ _ q.1 q.2.1 q.2.2.1 q.2.2.2.1
structure R3 (W1 : World) (n4 n5 n6 i4 i5 i6 : Nat) (o : Ph) (r : Rep) (rs : Value) (f : Fh) (L : Nat -> Bool) (u : Nat -> Value) (wx : World) : Prop where
 but : But [n4,n5,n6] W1 wx
 b4 : BoxP n4 (bif L i4 then o else Ph.zero) wx
 b5 : BoxR n5 (bif L i5 then r else Od.Rep.zero) (bif L i5 then rs else .slice none 0 0) wx
 b6 : BoxF n6 (bif L i6 then f else Fh.zero) wx
section
variable {W1 wx w' : World} {n4 n5 n6 i4 i5 i6 k : Nat} {o : Ph} {r : Rep} {rs : Value} {f : Fh} {L : Nat -> Bool} {u : Nat -> Value}
theorem mark_ne (h : k ≠ i4) : St.mark L k i4 = L i4:=by simp [St.mark,Ne.symm h]
theorem mark_eq : St.mark L k k = true:=by simp [St.mark]
theorem R3.call (h : R3 W1 n4 n5 n6 i4 i5 i6 o r rs f L u wx) (h4 : k ≠ i4) (h5 : k ≠ i5) (h6 : k ≠ i6) (hb : Below wx.heap.size wx w') (v : Value) : R3 W1 n4 n5 n6 i4 i5 i6 o r rs f (St.mark L k) (St.upd u k v) w' :=
 ⟨h.but.call hb,by rw [mark_ne h4]; exact h.b4.keep hb,by rw [mark_ne h5]; exact h.b5.keep hb,by rw [mark_ne h6]; exact h.b6.keep hb⟩
theorem R3.give (h : R3 W1 n4 n5 n6 i4 i5 i6 o r rs f L u wx) (h4 : k ≠ i4) (h5 : k ≠ i5) (h6 : k ≠ i6) (v : Value) : R3 W1 n4 n5 n6 i4 i5 i6 o r rs f (St.mark L k) (St.upd u k v) wx :=
 h.call h4 h5 h6 (Below.refl _ _) v
theorem R3.put4 (h : R3 W1 n4 n5 n6 i4 i5 i6 o r rs f L u wx) (h5 : i4 ≠ i5) (h6 : i4 ≠ i6) (hn5 : n4 ≠ n5) (hn6 : n4 ≠ n6) (v : Value) : R3 W1 n4 n5 n6 i4 i5 i6 o r rs f (St.mark L i4) (St.upd u i4 v) (putP wx n4 o):=by
 refine ⟨?_,?_,?_,?_⟩
 ·unfold putP
  iterate 11 refine But.set ?_ (by simp) _
  exact h.but
 ·rw [mark_eq]; exact h.b4.put o
 ·rw [mark_ne h5]
  unfold putP
  iterate 11 refine BoxR.other ?_ (by simpa using hn5) _
  exact h.b5
 ·rw [mark_ne h6]
  unfold putP
  iterate 11 refine BoxF.other ?_ (by simpa using hn6) _
  exact h.b6
theorem R3.put5 (h : R3 W1 n4 n5 n6 i4 i5 i6 o r rs f L u wx) (h4 : i5 ≠ i4) (h6 : i5 ≠ i6) (hn4 : n5 ≠ n4) (hn6 : n5 ≠ n6) (v : Value) : R3 W1 n4 n5 n6 i4 i5 i6 o r rs f (St.mark L i5) (St.upd u i5 v) (putR wx n5 r rs):=by
 refine ⟨?_,?_,?_,?_⟩
 ·unfold putR
  iterate 5 refine But.set ?_ (by simp) _
  exact h.but
 ·rw [mark_ne h4]
  unfold putR
  iterate 5 refine BoxP.other ?_ (by simpa using hn4) _
  exact h.b4
 ·rw [mark_eq]; exact h.b5.put r rs
 ·rw [mark_ne h6]
  unfold putR
  iterate 5 refine BoxF.other ?_ (by simpa using hn6) _
  exact h.b6
theorem R3.put6 (h : R3 W1 n4 n5 n6 i4 i5 i6 o r rs f L u wx) (h4 : i6 ≠ i4) (h5 : i6 ≠ i5) (hn4 : n6 ≠ n4) (hn5 : n6 ≠ n5) (v : Value) : R3 W1 n4 n5 n6 i4 i5 i6 o r rs f (St.mark L i6) (St.upd u i6 v) (putF wx n6 f):=by
 refine ⟨?_,?_,?_,?_⟩
 ·unfold putF
  iterate 13 refine But.set ?_ (by simp) _
  exact h.but
 ·rw [mark_ne h4]
  unfold putF
  iterate 13 refine BoxP.other ?_ (by simpa using hn4) _
  exact h.b4
 ·rw [mark_ne h5]
  unfold putF
  iterate 13 refine BoxR.other ?_ (by simpa using hn5) _
  exact h.b5
 ·rw [mark_eq]; exact h.b6.put f
theorem R3.start (W1 : World) (h4 : BoxP n4 Ph.zero W1) (h5 : BoxR n5 Od.Rep.zero (.slice none 0 0) W1) (h6 : BoxF n6 Fh.zero W1) : R3 W1 n4 n5 n6 i4 i5 i6 o r rs f (fun _ => false) u W1.drew:=⟨(But.refl _ _).drew,h4,h5,h6⟩
theorem R3.fin (h : R3 W1 n4 n5 n6 i4 i5 i6 o r rs f L u wx) (h4 : L i4 = true) (h5 : L i5 = true) (h6 : L i6 = true) : But [n4,n5,n6] W1 wx /\ BoxP n4 o wx /\ BoxR n5 r rs wx /\ BoxF n6 f wx:=by
 obtain ⟨a,b,c,d⟩:=h
 rw [h4] at b
 rw [h5] at c
 rw [h6] at d
 exact ⟨a,b,c,d⟩
end
theorem res_three {fn : Func} {a b c : Tmp} {tmps : Array Value} {n4 n5 n6 : Nat} {o : Ph} {r : Rep} {rs : Value} {f : Fh} {w1 : World} (hf : fn.results = #[.cell a 38,.cell b 87,.cell c 93]) (ha : tmps[a]?.getD undef = .pointer (some ⟨n4,0,none⟩)) (hb : tmps[b]?.getD undef = .pointer (some ⟨n5,0,none⟩)) (hc : tmps[c]?.getD undef = .pointer (some ⟨n6,0,none⟩)) (h4 : BoxP n4 o w1) (h5 : BoxR n5 r rs w1) (h6 : BoxF n6 f w1) :
  (results fn tmps).run Tryz.prog w1 = .ok (.tuple #[qv o,rv r rs,fv f]) w1:=by
 have a1:=Tryz.isAgg38
 have a2:=Tryz.sizeOf38
 have a3:=Tryz.isAgg87
 have a4:=Tryz.sizeOf87
 have a5:=Tryz.isAgg93
 have a6:=Tryz.sizeOf93
 obtain ⟨_,⟨c1,c2,c3,c4,c5,c6,c7,c8,c9,c10,c11⟩,_⟩:=h4
 obtain ⟨_,⟨d1,d2,d3,d4,d5⟩,_⟩:=h5
 obtain ⟨_,⟨e1,e2,e3,e4,e5,e6,e7,e8,e9,e10,e11,e12,e13⟩,_⟩:=h6
 simp [results,hf,go_sem,ha,hb,hc,a1,a2,a3,a4,a5,a6,c1,c2,c3,c4,c5,c6,c7,c8,c9,c10,c11,d1,d2,d3,d4,d5,e1,e2,e3,e4,e5,e6,e7,e8,e9,e10,e11,e12,e13]
def ApplyOut (w : World) (x : Out) (e : Ending) (w' : World) : Prop:=∃ oc : Oc,e = .returned (.tuple #[qv oc.p,rv oc.r oc.rs,fv oc.f]) /\ oc.out = x /\ HA w' oc.p /\ HA w' oc.f.ri /\ (∃ A c,oc.rs = .slice A oc.r.ps.length c) /\ Below w.heap.size w w'
end Go.Proofs.YthcmnkmfhgoddaaGreatDoor.Pt
