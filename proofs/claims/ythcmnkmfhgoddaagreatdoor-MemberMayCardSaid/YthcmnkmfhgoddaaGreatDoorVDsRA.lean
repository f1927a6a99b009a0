/-
  Slices of members,as lists of pairs of numbers; descriptors as values; append onto a row of members that the call owns. No condition.
  Whether a descriptor may be: the program's answers (isId,isNode,mayBe,Check,checked). Condition: lengths at most 2^47.
  Who is where: On,Has,of the program and of the document; Quorum. Condition: at most 2^47 members.
-/
import Derived.Test.YthcmnkmfhgoddaaGreatDoorVDsA
import Derived.Test.YthcmnkmfhgoddaaGreatDoorVBndA
import Derived.Laws.OwnMore
import Derived.Maps.AppendAt
import Derived.Deep.RegionHeld
namespace Go.Proofs.YthcmnkmfhgoddaaGreatDoor.Ds
open Go.RowKit
open Go.Proofs.YthcmnkmfhgoddaaGreatDoor.O (Bd isB keyB hasB)
abbrev mv (m : Mem) : Value:=.agg #[.int .i64 m.1,.int .i64 m.2]
abbrev dv (d : De) (s : Value) : Value:=.agg #[.int .i64 d.id,.string d.f,.string d.t,.int .i64 d.gen,s,.int .i64 d.next]
def SM (w : World) (N : Nat) (v : Value) (ms : List Mem) : Prop :=
 ∃ (A : Option Addr) (c : Nat),v = .slice A ms.length c /\ (0 < ms.length -> ∃ b o : Nat,A = some ⟨b,o,none⟩ /\ b < N /\ ∀ i (h : i < ms.length),w.cell? ⟨b,o + i * 2,none⟩ = some (.int .i64 ms[i].1) /\ w.cell? ⟨b,o + i * 2 + 1,none⟩ = some (.int .i64 ms[i].2))
theorem SM.nil (w : World) (N : Nat) : SM w N (.slice none 0 0) []:=⟨none,0,rfl,fun h => absurd h (by simp)⟩
theorem SM.keep {w w' : World} {N : Nat} {v : Value} {ms : List Mem} (h : SM w N v ms) (hk : ∀ p : Addr,p.block < N -> w'.cell? p = w.cell? p) : SM w' N v ms:=by
 obtain ⟨A,c,hv,h⟩:=h
 refine ⟨A,c,hv,fun h0 => ?_⟩
 obtain ⟨b,o,e,hb,hc⟩:=h h0
 exact ⟨b,o,e,hb,fun i hi => by rw [hk ⟨b,o + i * 2,none⟩ hb,hk ⟨b,o + i * 2 + 1,none⟩ hb]; exact hc i hi⟩
theorem SM.below {w w' : World} {N : Nat} {v : Value} {ms : List Mem} (h : SM w N v ms) (hb : Below N w w') : SM w' N v ms:=h.keep fun _ hp => hb.cell hp
theorem SM.more {w : World} {N N' : Nat} {v : Value} {ms : List Mem} (h : SM w N v ms) (hB : N <= N') : SM w N' v ms:=by
 obtain ⟨A,c,hv,h⟩:=h
 refine ⟨A,c,hv,fun h0 => ?_⟩
 obtain ⟨b,o,e,hb,hc⟩:=h h0
 exact ⟨b,o,e,by omega,hc⟩
theorem SM.at_ {w : World} {N k : Nat} {A : Option Addr} {n c : Nat} {ms : List Mem} (h : SM w N (.slice A n c) ms) (hk : k < ms.length) :
  ∃ b o : Nat,A = some ⟨b,o,none⟩ /\ b < N /\ w.cell? ⟨b,o + k * 2,none⟩ = some (.int .i64 ms[k].1) /\ w.cell? ⟨b,o + k * 2 + 1,none⟩ = some (.int .i64 ms[k].2):=by
 obtain ⟨A',c',hv,h⟩:=h
 injection hv with h1 h2 h3
 subst h1
 obtain ⟨b,o,e,hb,hc⟩:=h (by omega)
 exact ⟨b,o,e,hb,hc k hk⟩
theorem SM.form {w : World} {N : Nat} {v : Value} {ms : List Mem} (h : SM w N v ms) : ∃ A c,v = .slice A ms.length c:=by
 obtain ⟨A,c,hv,_⟩:=h; exact ⟨A,c,hv⟩
def mcells : List Mem -> List Value
 | [] => []
 | p :: l => .int .i64 p.1 :: .int .i64 p.2 :: mcells l
theorem mcells_length : ∀ l : List Mem,(mcells l).length = l.length * 2
 | [] => rfl
 | p :: l => by simp [mcells,mcells_length l]; omega
theorem mcells_append : ∀ a b : List Mem,mcells (a ++ b) = mcells a ++ mcells b
 | [],_ => rfl
 | p :: a,b => by simp [mcells,mcells_append a b]
theorem mcells_get : ∀ (l : List Mem) (i : Nat) (h : i < l.length),(mcells l)[i * 2]? = some (.int .i64 l[i].1) /\ (mcells l)[i * 2 + 1]? = some (.int .i64 l[i].2)
 | p :: l,0,_ => ⟨rfl,rfl⟩
 | p :: l,i + 1,h => by
  have:=mcells_get l i (by simpa using h)
  have e : (i + 1) * 2 = i * 2 + 1 + 1:=by omega
  rw [e]
  exact this
theorem mcells_one : ∀ (l : List Mem),∀ u ∈ mcells l,u.oneCell' = true
 | p :: l,u,h => by
  simp only [mcells,List.mem_cons] at h
  rcases h with rfl | rfl | h
  ·rfl
  ·rfl
  ·exact mcells_one l u h
theorem mcells_at {l : List Mem} {j : Nat} {u : Value} (h : (mcells l)[j]? = some u) : ∃ i,∃ hi : i < l.length,(j = i * 2 /\ u = .int .i64 l[i].1) \/ (j = i * 2 + 1 /\ u = .int .i64 l[i].2):=by
 have hj : j < (mcells l).length:=(List.getElem?_eq_some_iff.1 h).1
 rw [mcells_length] at hj
 have hi : j / 2 < l.length:=by omega
 obtain ⟨g1,g2⟩:=mcells_get l (j / 2) hi
 refine ⟨j / 2,hi,?_⟩
 rcases Nat.mod_two_eq_zero_or_one j with h0 | h0
 ·have e : j / 2 * 2 = j:=by omega
  rw [e,h] at g1
  exact .inl ⟨e.symm,Option.some.inj g1⟩
 ·have e : j / 2 * 2 + 1 = j:=by omega
  rw [e,h] at g2
  exact .inr ⟨e.symm,Option.some.inj g2⟩
abbrev OwnM (w : World) (base : Nat) (v : Value) (ms : List Mem) : Prop:=w.ownsRow base 70 2 v ms.length (mcells ms)
theorem SM.of_own {w : World} {base : Nat} {v : Value} {ms : List Mem} (h : OwnM w base v ms) : SM w w.heap.size v ms:=by
 rcases h.2 with ⟨rfl,h0⟩ | ⟨g,cap,cur,rfl,_,hh,_⟩
 ·have : ms = []:=List.length_eq_zero_iff.1 h0
  subst this
  exact SM.nil w _
 ·refine ⟨_,_,rfl,fun h0 => ⟨g,0,rfl,?_,fun i hi => ?_⟩⟩
  ·exact (Array.getElem?_eq_some_iff.1 hh).1
  ·obtain ⟨g1,g2⟩:=mcells_get ms i hi
   have e1:=h.cells (g:=g) rfl (i * 2) _ g1
   have e2:=h.cells (g:=g) rfl (i * 2 + 1) _ g2
   rw [Addr.add_lit] at e1 e2
   exact ⟨e1,e2⟩
inductive ArgM (w : World) : Value -> List Mem -> Prop
 | nil : ArgM w (.slice none 0 0) []
 | some (b o : Nat) (c : Nat) (ms : List Mem) (h : SM w w.heap.size (.slice (some ⟨b,o,none⟩) ms.length c) ms) : ArgM w (.slice (some ⟨b,o,none⟩) ms.length c) ms
 | empty (a : Addr) (c : Nat) : ArgM w (.slice (some a) 0 c) []
theorem ArgM.sm {w : World} {v : Value} {ms : List Mem} (h : ArgM w v ms) : SM w w.heap.size v ms:=by
 cases h with
 | nil => exact SM.nil _ _
 | some b o c ms h => exact h
 | empty a c => exact ⟨_,_,rfl,fun h => absurd h (by simp)⟩
theorem ArgM.keep {w w' : World} {v : Value} {ms : List Mem} (h : ArgM w v ms) (hb : Below w.heap.size w w') : ArgM w' v ms:=by
 cases h with
 | nil => exact .nil
 | some b o c ms h => exact .some b o c ms ((h.below hb).more hb.size)
 | empty a c => exact .empty a c
theorem ArgM.form {w : World} {v : Value} {ms : List Mem} (h : ArgM w v ms) : ∃ A c,v = .slice A ms.length c:=h.sm.form
theorem ArgM.of_own {w : World} {base : Nat} {v : Value} {ms : List Mem} (h : OwnM w base v ms) : ArgM w v ms:=by
 have hs:=SM.of_own h
 rcases h.2 with ⟨rfl,h0⟩ | ⟨g,cap,cur,rfl,_⟩
 ·have : ms = []:=List.length_eq_zero_iff.1 h0
  subst this
  exact .nil
 ·exact .some _ _ _ _ hs
theorem own_keep {w w' : World} {base : Nat} {v : Value} {ms : List Mem} (h : OwnM w base v ms) (hb : Below w.heap.size w w') : OwnM w' base v ms :=
 h.kept (row:=none) ⟨hb.os,hb.tape,hb.output,hb.size,fun k hk _ => hb.block k hk⟩ (Classical.em _)
theorem own_base {w : World} {base base' : Nat} {v : Value} {ms : List Mem} (h : OwnM w base v ms) (hb : base' <= base) : OwnM w base' v ms:=by
 refine ⟨h.1,?_⟩
 rcases h.2 with hn | ⟨g,cap,cur,e,h1,rest⟩
 ·exact .inl hn
 ·exact .inr ⟨g,cap,cur,e,Nat.le_trans hb h1,rest⟩
theorem own_set {w : World} {base : Nat} {v : Value} {ms : List Mem} (h : OwnM w base v ms) {a : Addr} (ha : a.block < base) (u : Value) : OwnM (w.setCell a u) base v ms:=ownsRow_setCell_below h ha u
theorem own_alloc {w : World} {base : Nat} {v : Value} {ms : List Mem} (h : OwnM w base v ms) (o : Obj) : OwnM (w.alloc o) base v ms:=own_keep h ((Below.refl _ w).alloc (Nat.le_refl _) o)
theorem own_drew {w : World} {base : Nat} {v : Value} {ms : List Mem} (h : OwnM w base v ms) : OwnM w.drew base v ms:=h
theorem news_of {w : World} {ad : Addr} {c : Nat} {ms : List Mem} (h : SM w w.heap.size (.slice (some ad) ms.length c) ms) : ∀ j u,(mcells ms)[j]? = some u -> w.cell? (ad.add j) = some u:=by
 intro j u hj
 obtain ⟨i,hi,hu⟩:=mcells_at hj
 obtain ⟨b,o,e,_,h1,h2⟩:=h.at_ hi
 obtain rfl:=Option.some.inj e
 rw [Addr.add_lit]
 rcases hu with ⟨rfl,rfl⟩ | ⟨rfl,rfl⟩
 ·exact h1
 ·exact h2
theorem infoM : (Tryz.prog.info? 70).map (fun i => (i.zero,i.size,i.bytes)) = some (some (.agg #[.int .i64 0,.int .i64 0]),2,16):=by kernel_rfl
theorem own_empty (w : World) : OwnM (w.alloc (.cells #[] 70)) w.heap.size (.slice (some ⟨w.heap.size,0,none⟩) 0 0) [] :=
 ⟨rfl,.inr ⟨w.heap.size,0,#[],rfl,Nat.le_refl _,heap_alloc_new w _,Nat.le_refl _,by unfold maxLen; omega,rfl,rfl⟩⟩
theorem own_nil (w : World) (base : Nat) : OwnM w base (.slice none 0 0) []:=⟨rfl,.inl ⟨rfl,rfl⟩⟩
theorem wpList_append_ms {w : World} {ops : Array Oper} {rest : List Oper} {o : Oper} {a : Act} {Q : Exit -> Act -> World -> Prop} (hw : Region.wanted o (yielded ops a.tmps) = true) (s x : Operand)
  (ho : o.op = .call { callee:=.builtin .append,args:=#[s,x],argTypes:=#[24,24] }) (base : Nat) (v : Value) (xs : List Mem) (hs : a.eval s = v)
  (hown : OwnM w base v xs) (hbase : base <= w.heap.size) (y : Value) (ys : List Mem) (hx : a.eval x = y) (hy : ArgM w y ys) (hlen : xs.length + ys.length <= 1000000)
  (h : ∀ v' w',OwnM w' base v' (xs ++ ys) -> Below base w w' -> w.grownBy w' v.ownBlock -> wpList Tryz.prog ops Q rest (a.put o.dst v') w') : wpList Tryz.prog ops Q (o :: rest) a w:=by
 obtain ⟨i0,hi,hz0,hz1,hz2⟩:=info_parts infoM
 refine wpList_step fun K hK => ?_
 rw [if_pos hw]
 cases hy with
 | nil =>
  have hrun:=run_append_owned_none (P:=Tryz.prog) (w:=w) base 24 o.type 70 i0 2 Tryz.underlying24 hi v xs.length (mcells xs) hown
  unfold Oper.wp
  simp [execOp,ho,resolve,invoke,builtin,hs,hx,hrun,Result.andThen]
  exact hK _ _ (h v w (by simpa using hown) (Below.refl _ w) ⟨rfl,rfl,rfl,Nat.le_refl _,fun _ _ _ => rfl⟩)
 | some b o' c ys hn =>
  refine wp_append_own w s x 24 ho base 70 i0 (.agg #[.int .i64 0,.int .i64 0]) 2 16 Tryz.underlying24 hi hz0 hz1 hz2 rfl (by decide) v xs.length (mcells xs) hs hown ⟨b,o',none⟩ ys.length c (mcells ys) hx (mcells_length ys) (news_of hn) (mcells_one ys) (by unfold maxLen; omega) (by omega) hbase ?_
  intro v' w' h2 h3 _
  exact hK _ _ (h v' w' (by show w'.ownsRow _ _ _ _ _ _; rw [List.length_append,mcells_append]; exact h2) ((Below.refl _ w).grown h3 hbase (fun k hk => (hown.lt k hk).1)) h3)
 | empty ad c =>
  refine wp_append_own w s x 24 ho base 70 i0 (.agg #[.int .i64 0,.int .i64 0]) 2 16 Tryz.underlying24 hi hz0 hz1 hz2 rfl (by decide) v xs.length (mcells xs) hs hown ad 0 c [] hx rfl (fun j u h => by simp at h) (fun u h => by simp at h) (by unfold maxLen; simp at hlen; omega) (by simp at hlen; omega) hbase ?_
  intro v' w' h2 h3 _
  exact hK _ _ (h v' w' (by show w'.ownsRow _ _ _ _ _ _; simpa using h2) ((Below.refl _ w).grown h3 hbase (fun k hk => (hown.lt k hk).1)) h3)
theorem arg_one (w : World) (p : Mem) : ArgM (w.alloc (.cells #[.int .i64 p.1,.int .i64 p.2] 70)) (.slice (some ⟨w.heap.size,0,none⟩) 1 1) [p]:=by
 refine .some _ _ 1 [p] ⟨_,_,rfl,fun _ => ⟨w.heap.size,0,rfl,by simp,fun i hi => ?_⟩⟩
 match i,hi with
 | 0,_ => exact ⟨by simp,by simp⟩
def BoxD (n : Nat) (d : De) (s : Value) (w' : World) : Prop:=n < w'.heap.size /\ (w'.cell? ⟨n,0,none⟩ = some (.int .i64 d.id) /\ w'.cell? ⟨n,1,none⟩ = some (.string d.f) /\ w'.cell? ⟨n,2,none⟩ = some (.string d.t) /\ w'.cell? ⟨n,3,none⟩ = some (.int .i64 d.gen) /\ w'.cell? ⟨n,4,none⟩ = some s /\ w'.cell? ⟨n,5,none⟩ = some (.int .i64 d.next)) /\ ∀ o,w'.frozen? ⟨n,o,none⟩ = false
theorem BoxD.keep {n : Nat} {d : De} {s : Value} {w1 w2 : World} (h : BoxD n d s w1) (hb : Below w1.heap.size w1 w2) : BoxD n d s w2:=by
 obtain ⟨h0,⟨h1,h2,h3,h4,h5,h6⟩,hf⟩:=h
 have hc : ∀ o,w2.cell? ⟨n,o,none⟩ = w1.cell? ⟨n,o,none⟩:=fun o => hb.cell (p:=⟨n,o,none⟩) h0
 refine ⟨Nat.lt_of_lt_of_le h0 hb.size,⟨?_,?_,?_,?_,?_,?_⟩,fun o => (hb.frozen (p:=⟨n,o,none⟩) h0).trans (hf o)⟩
 all_goals rw [hc]; assumption
theorem BoxD.new (w : World) (d : De) (s : Value) : BoxD w.heap.size d s (w.alloc (.cells #[.int .i64 d.id,.string d.f,.string d.t,.int .i64 d.gen,s,.int .i64 d.next] 26)) :=
 ⟨by simp,by simp [go_sem],fun o => by simp [go_sem]⟩
theorem BoxD.alloc {n : Nat} {d : De} {s : Value} {w1 : World} (h : BoxD n d s w1) (o : Obj) : BoxD n d s (w1.alloc o) :=
 h.keep ((Below.refl _ w1).alloc (Nat.le_refl _) o)
theorem BoxD.drew {n : Nat} {d : De} {s : Value} {w1 : World} (h : BoxD n d s w1) : BoxD n d s w1.drew:=h
theorem BoxD.zero (w : World) : BoxD w.heap.size De.zero (.slice none 0 0) (w.alloc (.cells #[.int .i64 0,.string ⟨#[]⟩,.string ⟨#[]⟩,.int .i64 0,.slice none 0 0,.int .i64 0] 26)):=BoxD.new w De.zero (.slice none 0 0)
theorem BoxD.other {n : Nat} {d : De} {s : Value} {w1 : World} (h : BoxD n d s w1) {a : Addr} (ha : a.block ≠ n) (u : Value) : BoxD n d s (w1.setCell a u):=by
 obtain ⟨h0,⟨h1,h2,h3,h4,h5,h6⟩,hf⟩:=h
 have hc : ∀ o,(w1.setCell a u).cell? ⟨n,o,none⟩ = w1.cell? ⟨n,o,none⟩:=fun o => World.cell?_setCell_far w1 a _ u ha
 refine ⟨by simpa using h0,⟨?_,?_,?_,?_,?_,?_⟩,fun o => by rw [World.frozen?_setCell]; exact hf o⟩
 all_goals rw [hc]; assumption
theorem BoxD.put {n : Nat} {d0 : De} {s0 : Value} {w1 : World} (h : BoxD n d0 s0 w1) (d : De) (s : Value) :
  BoxD n d s ((((((w1.setCell ⟨n,0,none⟩ (.int .i64 d.id)).setCell ⟨n,1,none⟩ (.string d.f)).setCell ⟨n,2,none⟩ (.string d.t)).setCell ⟨n,3,none⟩ (.int .i64 d.gen)).setCell ⟨n,4,none⟩ s).setCell ⟨n,5,none⟩ (.int .i64 d.next)):=by
 obtain ⟨h0,⟨h1,h2,h3,h4,h5,h6⟩,hf⟩:=h
 refine ⟨by simpa using h0,⟨?_,?_,?_,?_,?_,?_⟩,fun o => by simp [World.frozen?_setCell,hf]⟩
 all_goals simp [go_sem,h1,h2,h3,h4,h5,h6]
theorem res_box {fn : Func} {a : Tmp} {tmps : Array Value} {n : Nat} {d : De} {s : Value} {w1 : World} (hf : fn.results = #[.cell a 26]) (ht : tmps[a]?.getD undef = .pointer (some ⟨n,0,none⟩)) (h : BoxD n d s w1) : (results fn tmps).run Tryz.prog w1 = .ok (dv d s) w1:=by
 have h1:=Tryz.isAgg26
 have h2:=Tryz.sizeOf26
 obtain ⟨_,⟨c1,c2,c3,c4,c5,c6⟩,_⟩:=h
 simp [results,hf,go_sem,ht,h1,h2,c1,c2,c3,c4,c5,c6]
theorem res_box_tmp {fn : Func} {a b : Tmp} {tmps : Array Value} {n : Nat} {d : De} {s v : Value} {w1 : World} (hf : fn.results = #[.cell a 26,.tmp b]) (ht : tmps[a]?.getD undef = .pointer (some ⟨n,0,none⟩)) (hb : tmps[b]?.getD undef = v) (h : BoxD n d s w1) : (results fn tmps).run Tryz.prog w1 = .ok (.tuple #[dv d s,v]) w1:=by
 have h1:=Tryz.isAgg26
 have h2:=Tryz.sizeOf26
 obtain ⟨_,⟨c1,c2,c3,c4,c5,c6⟩,_⟩:=h
 simp [results,hf,go_sem,ht,hb,h1,h2,c1,c2,c3,c4,c5,c6]
structure Fit (d : De) : Prop where
 f : d.f.size <= 140737488355328
 t : d.t.size <= 140737488355328
 n : d.ms.length <= 1000
 r : InR d
theorem bex1 {N : Nat} {w w' : World} (h : Below N w w':=by (repeat' (first | with_reducible assumption | with_reducible exact Below.refl _ _ | with_reducible refine Below.alloc ?_ ?_ _ | with_reducible refine Below.setCell ?_ ?_ _ | with_reducible refine Below.drew ?_ | omega | (simp; done) | (simp; omega)))) : Below N w w':=h
end Go.Proofs.YthcmnkmfhgoddaaGreatDoor.Ds

namespace Go.Proofs.YthcmnkmfhgoddaaGreatDoor.Ds
open Go.RowKit Bnd
open Go.Proofs.YthcmnkmfhgoddaaGreatDoor.O (Bd isB keyB hasB)
theorem isId_any (n : Int) (w : World) : Calls Tryz.prog 158 #[.int .i64 n] w fun e w' => e = .returned (.bool (idB n)) /\ w = w':=by
 by_cases h1 : 1 <= n
 ·by_cases h2 : n <= 1099511627776
  all_goals
   have e : idB n = decide (n <= 1099511627776):=by simp [idB,h1]
   rw [e]
   clear e
   go_enter Tryz.func158,Tryz.ntmps158
   go_wp2_with fail
   go_ret
   exact ⟨ret_bool (by simp [h2]),rfl⟩
 ·have e : idB n = false:=by simp [idB,h1]
  rw [e]
  clear e
  go_enter Tryz.func158,Tryz.ntmps158
  go_wp2_with fail
  go_ret
  exact ⟨rfl,rfl⟩
theorem isNode_any (n : Int) (w : World) : Calls Tryz.prog 171 #[.int .i64 n] w fun e w' => e = .returned (.bool (nodeB n)) /\ w = w':=by
 by_cases h1 : 1 <= n
 ·by_cases h2 : n <= 7
  all_goals
   have e : nodeB n = decide (n <= 7):=by simp [nodeB,h1]
   rw [e]
   clear e
   go_enter Tryz.func171,Tryz.ntmps171
   go_wp2_with fail
   go_ret
   exact ⟨ret_bool (by simp [h2]),rfl⟩
 ·have e : nodeB n = false:=by simp [nodeB,h1]
  rw [e]
  clear e
  go_enter Tryz.func171,Tryz.ntmps171
  go_wp2_with fail
  go_ret
  exact ⟨rfl,rfl⟩
theorem mayGo_no {next last : Int} {tk : List Int} {m : Mem} {l : List Mem} (h : ¬ (nodeB m.1 = true /\ ¬ m.1 ∈ tk /\ last < m.2 /\ m.2 < next)) : mayGo next last tk (m :: l) = false:=by
 rw [mayGo,if_neg h]
theorem mayGo_on {next last : Int} {tk : List Int} {m : Mem} {l : List Mem} (h : nodeB m.1 = true /\ ¬ m.1 ∈ tk /\ last < m.2 /\ m.2 < next) : mayGo next last tk (m :: l) = mayGo next m.2 (m.1 :: tk) l:=by
 rw [mayGo,if_pos h]
set_option maxHeartbeats 2000000 in
theorem mayBe_any (next : Int) (v : Value) (ms : List Mem) (w : World) (hv : SM w w.heap.size v ms) (hl : ms.length <= 140737488355328) :
  Calls Tryz.prog 160 #[.int .i64 next,v] w fun e w' => e = .returned (.bool (mayB next ms)) /\ Below w.heap.size w w':=by
 obtain ⟨A,c,rfl⟩:=hv.form
 by_cases h0 : 1 <= ms.length /\ ms.length <= 5
 ·obtain ⟨R,hR0⟩ : ∃ R,mayGo next 0 [] ms = R:=⟨_,rfl⟩
  have hr : mayB next ms = R:=by unfold mayB; rw [hR0]; simp [h0]
  rw [hr]
  have hR1 : Hid (mayGo next 0 [] (ms.drop 0) = R):=Lib.hid (by simpa using hR0)
  obtain ⟨h1,h2⟩:=h0
  have g1 : ((ms.length : Int) < 1) = False:=eq_false (by omega)
  have g2 : ((ms.length : Int) > 5) = False:=eq_false (by omega)
  clear hR0 hr
  go_enter Tryz.func160,Tryz.ntmps160
  go_wp2_with fail
  go_loopw [4,6,8,19] (fun v4 v6 v8 vi wr => ∃ (k : Nat) (last : Int) (tk : List Int),k <= ms.length /\ vi = .int .i64 (k : Int) /\ v4 = .bool false /\ v6 = .int .i64 last /\
    (∀ j,j < 8 -> wr.cell? ⟨w.heap.size,j,none⟩ = some (.bool (decide ((j : Int) ∈ tk))) /\ wr.frozen? ⟨w.heap.size,j,none⟩ = false) /\ Hid (mayGo next last tk (ms.drop k) = R) /\ Below w.heap.size w wr /\ w.heap.size < wr.heap.size) (fun _ _ _ vi _ => ms.length - (intOf vi).toNat)
  case atStart =>
   refine ⟨0,0,[],by omega,rfl,rfl,rfl,?_,hR1,(Below.refl _ w).alloc (Nat.le_refl _) _,by simp⟩
   intro j hj
   match j,hj with
   | 0,_ => exact ⟨by simp [go_sem],by simp [go_sem]⟩
   | 1,_ => exact ⟨by simp [go_sem],by simp [go_sem]⟩
   | 2,_ => exact ⟨by simp [go_sem],by simp [go_sem]⟩
   | 3,_ => exact ⟨by simp [go_sem],by simp [go_sem]⟩
   | 4,_ => exact ⟨by simp [go_sem],by simp [go_sem]⟩
   | 5,_ => exact ⟨by simp [go_sem],by simp [go_sem]⟩
   | 6,_ => exact ⟨by simp [go_sem],by simp [go_sem]⟩
   | 7,_ => exact ⟨by simp [go_sem],by simp [go_sem]⟩
  case round =>
   clear hR1
   obtain ⟨k,last,tk,hk,rfl,rfl,rfl,hT,hR,hbw,hTz⟩:=hrel
   by_cases hlt : k < ms.length
   ·obtain ⟨b,o,rfl,hb,hc1,hc2⟩:=(hv.below hbw).at_ hlt
    have hd : ms.drop k = ms[k] :: ms.drop (k + 1):=List.drop_eq_getElem_cons hlt
    obtain ⟨⟨x,y⟩,hm⟩ : ∃ m,ms[k] = m:=⟨_,rfl⟩
    rw [hm] at hc1 hc2 hd
    clear hm
    have hbz:=hbw.size
    have ci:=fun w => isNode_any x w
    have hstep:=hR.out
    rw [hd] at hstep
    have HT:=Lib.hid hT
    cases hn : nodeB x with
    | false =>
     rw [mayGo_no (by simp [hn])] at hstep
     rw [hn] at ci
     have HF:=Lib.hid hstep
     clear hstep hd hR hn hT
     go_wp2_with fail
     refine (ci _).mono ?_
     rintro e w1 ⟨rfl,rfl⟩
     go_wp2_with fail
     try rw [Exit.noGoto_ret]
     go_ret
     exact ⟨ret_bool HF.out,hbw.alloc hbz _⟩
    | true =>
     rw [hn] at ci
     obtain ⟨g1,g7⟩:=(nodeB_iff x).1 hn
     obtain ⟨nd,rfl⟩ : ∃ nd : Nat,x = nd:=⟨x.toNat,by omega⟩
     have hnd : nd < 8:=by omega
     have hndz : ((nd : Int) < 0) = False:=eq_false (by omega)
     obtain ⟨t1,t2⟩:=hT nd hnd
     clear g1 g7
     by_cases hin : (nd : Int) ∈ tk
     ·rw [mayGo_no (by simp [hin])] at hstep
      have t1' : wr.cell? ⟨w.heap.size,nd,none⟩ = some (.bool true):=by rw [t1]; simp [hin]
      have HF:=Lib.hid hstep
      clear hstep hd hR hn hT t1 hin
      go_wp2_with fail
      refine (ci _).mono ?_
      rintro e w1 ⟨rfl,rfl⟩
      go_wp2_with fail
      try rw [Exit.noGoto_ret]
      go_ret
      exact ⟨ret_bool HF.out,hbw.alloc hbz _⟩
     ·have t1' : wr.cell? ⟨w.heap.size,nd,none⟩ = some (.bool false):=by rw [t1]; simp [hin]
      have hgo : mayGo next last tk (((nd : Int),y) :: ms.drop (k + 1)) = (if last < y /\ y < next then mayGo next y ((nd : Int) :: tk) (ms.drop (k + 1)) else false):=by
       by_cases hc : last < y /\ y < next
       ·rw [if_pos hc,mayGo_on ⟨hn,hin,hc.1,hc.2⟩]
       ·rw [if_neg hc,mayGo_no (by rintro ⟨_,_,a,b⟩; exact hc ⟨a,b⟩)]
      rw [hgo] at hstep
      clear hgo
      by_cases hc : last < y /\ y < next
      ·rw [if_pos hc] at hstep
       have HN:=Lib.hid hstep
       have c1 : (y <= last) = False:=eq_false (by omega)
       have c2 : (y >= next) = False:=eq_false (by omega)
       have HB : Hid (¬ (nd : Int) ∈ tk):=Lib.hid hin
       clear hstep hd hR hn hT t1 hin hc
       go_wp2_with fail
       refine (ci _).mono ?_
       rintro e w1 ⟨rfl,rfl⟩
       go_wp2_with fail
       go_roundw
       case rel =>
        refine ⟨k + 1,y,(nd : Int) :: tk,by omega,by go_num,rfl,rfl,?_,HN,(hbw.setCell (p:=⟨w.heap.size,nd,none⟩) (Nat.le_refl _) _).alloc (by simp; omega) _,by simp; omega⟩
        intro j hj
        obtain ⟨q1,q2⟩:=HT.out j hj
        refine ⟨?_,by simp [go_sem,q2,hTz]⟩
        by_cases hjn : j = nd
        ·subst hjn
         simp [go_sem,q1,hTz]
        ·have e1 : ((j : Int) = (nd : Int)) = False:=eq_false (by omega)
         simp [go_sem,q1,hTz,e1]
       case measure => simp [intOf]; omega
      ·rw [if_neg hc] at hstep
       have HF:=Lib.hid hstep
       have c12 : (y <= last) = True \/ ((y <= last) = False /\ (y >= next) = True):=by
        by_cases h1 : y <= last
        ·exact .inl (eq_true h1)
        ·exact .inr ⟨eq_false h1,eq_true (by omega)⟩
       clear hstep hd hR hn hT t1 hin hc
       rcases c12 with c1 | ⟨c1,c2⟩
       all_goals
        go_wp2_with fail
        refine (ci _).mono ?_
        rintro e w1 ⟨rfl,rfl⟩
        go_wp2_with fail
        try rw [Exit.noGoto_ret]
        go_ret
        exact ⟨ret_bool HF.out,hbw.alloc hbz _⟩
   ·obtain rfl : k = ms.length:=by omega
    have hfin : R = true:=by
     rw [<- hR.out,List.drop_eq_nil_iff.2 (Nat.le_refl _)]; rfl
    have HF:=Lib.hid hfin
    clear hfin hR
    go_wp2_with fail
    try rw [Exit.noGoto_ret]
    go_ret
    exact ⟨ret_bool HF.out.symm,hbw⟩
 ·have hr : mayB next ms = false:=by unfold mayB; simp [h0]
  rw [hr]
  clear hr
  have g : ((ms.length : Int) < 1) = True \/ (((ms.length : Int) < 1) = False /\ ((ms.length : Int) > 5) = True):=by
   by_cases h1 : (ms.length : Int) < 1
   ·exact .inl (eq_true h1)
   ·exact .inr ⟨eq_false h1,eq_true (by omega)⟩
  clear h0
  rcases g with g1 | ⟨g1,g2⟩
  all_goals
   go_enter Tryz.func160,Tryz.ntmps160
   go_wp2_with fail
   go_ret
   exact ⟨rfl,Below.refl _ _⟩
def chkD (d : De) : Int:=if isD d = true then 0 else 60
set_option maxHeartbeats 2000000 in
theorem check_any (d : De) (s : Value) (w : World) (hs : SM w w.heap.size s d.ms) (hl : d.ms.length <= 140737488355328) (hf : d.f.size <= 140737488355328) (ht : d.t.size <= 140737488355328) :
  Calls Tryz.prog 84 #[dv d s] w fun e w' => e = .returned (.int .i64 (chkD d)) /\ Below w.heap.size w w':=by
 have c1:=fun w => isId_any d.id w
 have c2:=fun w => isId_any d.gen w
 have c3:=fun w => isId_any d.next w
 have c4:=fun w => Bnd.check_any d.f d.t w hf ht
 have hck : chkD d = if (idB d.id && idB d.gen && idB d.next && isB d.b && mayB d.next d.ms) = true then 0 else 60:=rfl
 have e4 : chk (B d.f d.t) = if isB d.b = true then 0 else 20:=rfl
 rw [e4] at c4
 obtain ⟨R,hR⟩ : ∃ R,chkD d = R:=⟨_,rfl⟩
 rw [hR]
 rw [hR] at hck
 clear hR e4
 cases h1 : idB d.id with
 | false =>
  rw [h1] at c1 hck
  have HF:=Lib.hid hck
  clear h1 hck
  go_enter Tryz.func84,Tryz.ntmps84
  go_wp2_with fail
  refine (c1 _).mono ?_
  rintro e w1 ⟨rfl,rfl⟩
  go_wp2_with fail
  go_ret
  exact ⟨ret_int (by rw [HF.out]; rfl),(Below.refl _ _).alloc (Nat.le_refl _) _⟩
 | true =>
  rw [h1] at c1 hck
  clear h1
  cases h2 : idB d.gen with
  | false =>
   rw [h2] at c2 hck
   have HF:=Lib.hid hck
   clear h2 hck
   go_enter Tryz.func84,Tryz.ntmps84
   go_wp2_with fail
   refine (c1 _).mono ?_
   rintro e w1 ⟨rfl,rfl⟩
   go_wp2_with fail
   refine (c2 _).mono ?_
   rintro e w1 ⟨rfl,rfl⟩
   go_wp2_with fail
   go_ret
   exact ⟨ret_int (by rw [HF.out]; rfl),(Below.refl _ _).alloc (Nat.le_refl _) _⟩
  | true =>
   rw [h2] at c2 hck
   clear h2
   cases h3 : idB d.next with
   | false =>
    rw [h3] at c3 hck
    have HF:=Lib.hid hck
    clear h3 hck
    go_enter Tryz.func84,Tryz.ntmps84
    go_wp2_with fail
    refine (c1 _).mono ?_
    rintro e w1 ⟨rfl,rfl⟩
    go_wp2_with fail
    refine (c2 _).mono ?_
    rintro e w1 ⟨rfl,rfl⟩
    go_wp2_with fail
    refine (c3 _).mono ?_
    rintro e w1 ⟨rfl,rfl⟩
    go_wp2_with fail
    go_ret
    exact ⟨ret_int (by rw [HF.out]; rfl),(Below.refl _ _).alloc (Nat.le_refl _) _⟩
   | true =>
    rw [h3] at c3 hck
    clear h3
    cases h4 : isB d.b with
    | false =>
     rw [h4] at c4 hck
     have HF:=Lib.hid hck
     clear h4 hck
     go_enter Tryz.func84,Tryz.ntmps84
     go_wp2_with fail
     refine (c1 _).mono ?_
     rintro e w1 ⟨rfl,rfl⟩
     go_wp2_with fail
     refine (c2 _).mono ?_
     rintro e w1 ⟨rfl,rfl⟩
     go_wp2_with fail
     refine (c3 _).mono ?_
     rintro e w1 ⟨rfl,rfl⟩
     go_wp2_with fail
     refine (c4 _).mono ?_
     rintro e w1 ⟨rfl,b1⟩
     go_wp2_with fail
     go_ret
     exact ⟨ret_int (by rw [HF.out]; rfl),((Below.refl _ w).alloc (Nat.le_refl _) _).trans (b1.mono (by simp))⟩
    | true =>
     rw [h4] at c4 hck
     clear h4
     have c5:=fun w hs => mayBe_any d.next s d.ms w hs hl
     cases h5 : mayB d.next d.ms
     all_goals
      rw [h5] at hck c5
      have HF:=Lib.hid hck
      clear h5 hck
      go_enter Tryz.func84,Tryz.ntmps84
      go_wp2_with fail
      refine (c1 _).mono ?_
      rintro e w1 ⟨rfl,rfl⟩
      go_wp2_with fail
      refine (c2 _).mono ?_
      rintro e w1 ⟨rfl,rfl⟩
      go_wp2_with fail
      refine (c3 _).mono ?_
      rintro e w1 ⟨rfl,rfl⟩
      go_wp2_with fail
      refine (c4 _).mono ?_
      rintro e w1 ⟨rfl,b1⟩
      obtain ⟨hc,hfz⟩:=bcell b1
      have hz : w.heap.size < w1.heap.size:=by have:=b1.size; simp at this; omega
      have hb1 : Below w.heap.size w w1:=((Below.refl _ w).alloc (Nat.le_refl _) _).trans (b1.mono (by simp))
      have hs1 : SM w1 w1.heap.size s d.ms:=(hs.below hb1).more hb1.size
      clear b1
      go_wp2_with fail
      refine (c5 _ hs1).mono ?_
      rintro e w2 ⟨rfl,b2⟩
      go_wp2_with fail
      go_ret
      exact ⟨ret_int (by rw [HF.out]; rfl),hb1.trans (b2.mono hb1.size)⟩
end Go.Proofs.YthcmnkmfhgoddaaGreatDoor.Ds

namespace Go.Proofs.YthcmnkmfhgoddaaGreatDoor.Ds
open Go.RowKit Bnd
def optV (o : Option Mem) : Value:=match o with
 | some m => .tuple #[mv m,.bool true]
 | none => .tuple #[mv (0,0),.bool false]
theorem onM_yes {n : Int} {m : Mem} {l : List Mem} (h : m.1 = n) : onM n (m :: l) = some m:=by rw [onM,if_pos h]
theorem onM_no {n : Int} {m : Mem} {l : List Mem} (h : m.1 ≠ n) : onM n (m :: l) = onM n l:=by rw [onM,if_neg h]
theorem hasM_yes {n : Int} {m : Mem} {l : List Mem} (h : m.2 = n) : hasM n (m :: l) = some m:=by rw [hasM,if_pos h]
theorem hasM_no {n : Int} {m : Mem} {l : List Mem} (h : m.2 ≠ n) : hasM n (m :: l) = hasM n l:=by rw [hasM,if_neg h]
theorem drop_cons {l : List Mem} {k : Nat} (h : k < l.length) : l.drop k = l[k] :: l.drop (k + 1):=List.drop_eq_getElem_cons h
theorem quorum_any (n : Int) (w : World) (h : 0 <= n) (h2 : n <= 1000001) : Calls Tryz.prog 90 #[.int .i64 n] w fun e w' => e = .returned (.int .i64 (n / 2 + 1)) /\ w = w':=by
 obtain ⟨k,rfl⟩ : ∃ k : Nat,n = k:=⟨n.toNat,by omega⟩
 go_enter Tryz.func90,Tryz.ntmps90
 go_wp2_with fail
 go_ret
 exact ⟨ret_int (by go_num; try omega),rfl⟩
set_option maxHeartbeats 2000000 in
theorem on_any (d : De) (s : Value) (n : Int) (w : World) (hv : SM w w.heap.size s d.ms) (hl : d.ms.length <= 140737488355328) :
  Calls Tryz.prog 172 #[dv d s,.int .i64 n] w fun e w' => e = .returned (optV (onM n d.ms)) /\ Below w.heap.size w w':=by
 obtain ⟨A,c,rfl⟩:=hv.form
 obtain ⟨R,hR0⟩ : ∃ R,onM n d.ms = R:=⟨_,rfl⟩
 rw [hR0]
 have hR1 : Hid (onM n (d.ms.drop 0) = R):=Lib.hid (by simpa using hR0)
 clear hR0
 go_enter Tryz.func172,Tryz.ntmps172
 go_wp2_with fail
 go_loopw [5,7,11] (fun v5 _ vi wr => ∃ k : Nat,k <= d.ms.length /\ vi = .int .i64 (k : Int) /\ v5 = .bool false /\
   (wr.cell? ⟨w.heap.size + 1,0,none⟩ = some (.int .i64 0) /\ wr.cell? ⟨w.heap.size + 1,1,none⟩ = some (.int .i64 0) /\ wr.frozen? ⟨w.heap.size + 1,0,none⟩ = false /\ wr.frozen? ⟨w.heap.size + 1,1,none⟩ = false) /\ Hid (onM n (d.ms.drop k) = R) /\ Below w.heap.size w wr /\ w.heap.size + 1 < wr.heap.size) (fun _ _ vi _ => d.ms.length - (intOf vi).toNat)
 case atStart =>
  exact ⟨0,by omega,rfl,rfl,by simp [go_sem],hR1,((Below.refl _ w).alloc (Nat.le_refl _) _).alloc (by simp) _,by simp⟩
 case round =>
  clear hR1
  obtain ⟨k,hk,rfl,rfl,⟨r1,r2,r3,r4⟩,hR,hbw,hTz⟩:=hrel
  by_cases hlt : k < d.ms.length
  ·obtain ⟨b,o,rfl,hb,hc1,hc2⟩:=(hv.below hbw).at_ hlt
   have hd:=drop_cons hlt
   obtain ⟨⟨x,y⟩,hm⟩ : ∃ m,d.ms[k] = m:=⟨_,rfl⟩
   rw [hm] at hc1 hc2 hd
   clear hm
   have hbz:=hbw.size
   have hstep:=hR.out
   rw [hd] at hstep
   by_cases he : x = n
   ·rw [onM_yes he] at hstep
    have HF:=Lib.hid hstep
    have n1 : (x == n) = true:=by simpa using he
    have n2 : (x = n) = True:=eq_true he
    clear hstep hd hR he
    go_wp2_with fail
    refine bodyPost_ret (v:=.tuple #[mv (x,y),.bool true]) (by simp [results,Tryz.results172,go_sem,r1,r2,hTz]) rfl ⟨by rw [<- HF.out]; rfl,?_⟩
    (exact Ds.bex1)
   ·rw [onM_no he] at hstep
    have HN:=Lib.hid hstep
    have n1 : (x == n) = false:=by simpa using he
    have n2 : (x = n) = False:=eq_false he
    clear hstep hd hR he
    go_wp2_with fail
    go_roundw
    case rel => exact ⟨k + 1,by omega,by go_num,rfl,by simp [go_sem,r1,r2,r3,r4,hTz],HN,hbw.alloc hbz _,by simp; omega⟩
    case measure => simp [intOf]; omega
  ·obtain rfl : k = d.ms.length:=by omega
   have hfin : R = none:=by
    rw [<- hR.out,List.drop_eq_nil_iff.2 (Nat.le_refl _)]; rfl
   have HF:=Lib.hid hfin
   clear hfin hR
   go_wp2_with fail
   refine bodyPost_ret (v:=.tuple #[mv (0,0),.bool false]) (by simp [results,Tryz.results172,go_sem,r1,r2]) rfl ⟨by rw [HF.out]; rfl,?_⟩
   (exact Ds.bex1)
set_option maxHeartbeats 2000000 in
theorem has_any (d : De) (s : Value) (n : Int) (w : World) (hv : SM w w.heap.size s d.ms) (hl : d.ms.length <= 140737488355328) :
  Calls Tryz.prog 173 #[dv d s,.int .i64 n] w fun e w' => e = .returned (optV (hasM n d.ms)) /\ Below w.heap.size w w':=by
 obtain ⟨A,c,rfl⟩:=hv.form
 obtain ⟨R,hR0⟩ : ∃ R,hasM n d.ms = R:=⟨_,rfl⟩
 rw [hR0]
 have hR1 : Hid (hasM n (d.ms.drop 0) = R):=Lib.hid (by simpa using hR0)
 clear hR0
 go_enter Tryz.func173,Tryz.ntmps173
 go_wp2_with fail
 go_loopw [5,7,11] (fun v5 _ vi wr => ∃ k : Nat,k <= d.ms.length /\ vi = .int .i64 (k : Int) /\ v5 = .bool false /\
   (wr.cell? ⟨w.heap.size + 1,0,none⟩ = some (.int .i64 0) /\ wr.cell? ⟨w.heap.size + 1,1,none⟩ = some (.int .i64 0) /\ wr.frozen? ⟨w.heap.size + 1,0,none⟩ = false /\ wr.frozen? ⟨w.heap.size + 1,1,none⟩ = false) /\ Hid (hasM n (d.ms.drop k) = R) /\ Below w.heap.size w wr /\ w.heap.size + 1 < wr.heap.size) (fun _ _ vi _ => d.ms.length - (intOf vi).toNat)
 case atStart =>
  exact ⟨0,by omega,rfl,rfl,by simp [go_sem],hR1,((Below.refl _ w).alloc (Nat.le_refl _) _).alloc (by simp) _,by simp⟩
 case round =>
  clear hR1
  obtain ⟨k,hk,rfl,rfl,⟨r1,r2,r3,r4⟩,hR,hbw,hTz⟩:=hrel
  by_cases hlt : k < d.ms.length
  ·obtain ⟨b,o,rfl,hb,hc1,hc2⟩:=(hv.below hbw).at_ hlt
   have hd:=drop_cons hlt
   obtain ⟨⟨x,y⟩,hm⟩ : ∃ m,d.ms[k] = m:=⟨_,rfl⟩
   rw [hm] at hc1 hc2 hd
   clear hm
   have hbz:=hbw.size
   have hstep:=hR.out
   rw [hd] at hstep
   by_cases he : y = n
   ·rw [hasM_yes he] at hstep
    have HF:=Lib.hid hstep
    have n1 : (y == n) = true:=by simpa using he
    have n2 : (y = n) = True:=eq_true he
    clear hstep hd hR he
    go_wp2_with fail
    refine bodyPost_ret (v:=.tuple #[mv (x,y),.bool true]) (by simp [results,Tryz.results173,go_sem,r1,r2,hTz]) rfl ⟨by rw [<- HF.out]; rfl,?_⟩
    (exact Ds.bex1)
   ·rw [hasM_no he] at hstep
    have HN:=Lib.hid hstep
    have n1 : (y == n) = false:=by simpa using he
    have n2 : (y = n) = False:=eq_false he
    clear hstep hd hR he
    go_wp2_with fail
    go_roundw
    case rel => exact ⟨k + 1,by omega,by go_num,rfl,by simp [go_sem,r1,r2,r3,r4,hTz],HN,hbw.alloc hbz _,by simp; omega⟩
    case measure => simp [intOf]; omega
  ·obtain rfl : k = d.ms.length:=by omega
   have hfin : R = none:=by
    rw [<- hR.out,List.drop_eq_nil_iff.2 (Nat.le_refl _)]; rfl
   have HF:=Lib.hid hfin
   clear hfin hR
   go_wp2_with fail
   refine bodyPost_ret (v:=.tuple #[mv (0,0),.bool false]) (by simp [results,Tryz.results173,go_sem,r1,r2]) rfl ⟨by rw [HF.out]; rfl,?_⟩
   (exact Ds.bex1)
set_option maxHeartbeats 2000000 in
theorem ron_any (d : De) (s : Value) (n : Int) (w : World) (hv : SM w w.heap.size s d.ms) (hl : d.ms.length <= 140737488355328) :
  Calls Tryz.prog 100 #[dv d s,.int .i64 n] w fun e w' => e = .returned (optV (onM n d.ms)) /\ Below w.heap.size w w':=by
 obtain ⟨A,c,rfl⟩:=hv.form
 obtain ⟨R,hR0⟩ : ∃ R,onM n d.ms = R:=⟨_,rfl⟩
 rw [hR0]
 have hR1 : Hid (onM n (d.ms.drop 0) = R):=Lib.hid (by simpa using hR0)
 clear hR0
 go_enter Tryz.func100,Tryz.ntmps100
 go_wp2_with fail
 go_loopw [5,6] (fun v5 vi wr => ∃ k : Nat,k <= d.ms.length /\ vi = .int .i64 (k : Int) /\ v5 = .bool false /\ wr = (w.alloc (.cells #[.int .i64 d.id,.string d.f,.string d.t,.int .i64 d.gen,.slice A d.ms.length c,.int .i64 d.next] 26)).alloc (.cells #[.int .i64 0,.int .i64 0] 70) /\ Hid (onM n (d.ms.drop k) = R)) (fun _ vi _ => d.ms.length - (intOf vi).toNat)
 case atStart => exact ⟨0,by omega,rfl,rfl,rfl,hR1⟩
 case round =>
  clear hR1
  obtain ⟨k,hk,rfl,rfl,rfl,hR⟩:=hrel
  by_cases hlt : k < d.ms.length
  ·obtain ⟨b,o,rfl,hb,hc1,hc2⟩:=hv.at_ hlt
   have hbn : b < w.heap.size + 1:=by omega
   have hd:=drop_cons hlt
   obtain ⟨⟨x,y⟩,hm⟩ : ∃ m,d.ms[k] = m:=⟨_,rfl⟩
   rw [hm] at hc1 hc2 hd
   clear hm
   have hstep:=hR.out
   rw [hd] at hstep
   by_cases he : x = n
   ·rw [onM_yes he] at hstep
    have HF:=Lib.hid hstep
    have n1 : (x == n) = true:=by simpa using he
    have n2 : (x = n) = True:=eq_true he
    clear hstep hd hR he
    go_wp2_with fail
    refine bodyPost_ret (v:=.tuple #[mv (x,y),.bool true]) (by simp [results,Tryz.results100,go_sem]) rfl ⟨by rw [<- HF.out]; rfl,?_⟩
    (exact Ds.bex1)
   ·rw [onM_no he] at hstep
    have HN:=Lib.hid hstep
    have n1 : (x == n) = false:=by simpa using he
    have n2 : (x = n) = False:=eq_false he
    clear hstep hd hR he
    go_wp2_with fail
    go_roundw
    case rel => exact ⟨k + 1,by omega,by go_num,rfl,by first | rfl | trivial,HN⟩
    case measure => simp [intOf]; omega
  ·obtain rfl : k = d.ms.length:=by omega
   have hfin : R = none:=by
    rw [<- hR.out,List.drop_eq_nil_iff.2 (Nat.le_refl _)]; rfl
   have HF:=Lib.hid hfin
   clear hfin hR
   go_wp2_with fail
   refine bodyPost_ret (v:=.tuple #[mv (0,0),.bool false]) (by simp [results,Tryz.results100,go_sem]) rfl ⟨by rw [HF.out]; rfl,?_⟩
   (exact Ds.bex1)
set_option maxHeartbeats 2000000 in
theorem rhas_any (d : De) (s : Value) (n : Int) (w : World) (hv : SM w w.heap.size s d.ms) (hl : d.ms.length <= 140737488355328) :
  Calls Tryz.prog 102 #[dv d s,.int .i64 n] w fun e w' => e = .returned (optV (hasM n d.ms)) /\ Below w.heap.size w w':=by
 obtain ⟨A,c,rfl⟩:=hv.form
 obtain ⟨R,hR0⟩ : ∃ R,hasM n d.ms = R:=⟨_,rfl⟩
 rw [hR0]
 have hR1 : Hid (hasM n (d.ms.drop 0) = R):=Lib.hid (by simpa using hR0)
 clear hR0
 go_enter Tryz.func102,Tryz.ntmps102
 go_wp2_with fail
 go_loopw [5,6] (fun v5 vi wr => ∃ k : Nat,k <= d.ms.length /\ vi = .int .i64 (k : Int) /\ v5 = .bool false /\ wr = (w.alloc (.cells #[.int .i64 d.id,.string d.f,.string d.t,.int .i64 d.gen,.slice A d.ms.length c,.int .i64 d.next] 26)).alloc (.cells #[.int .i64 0,.int .i64 0] 70) /\ Hid (hasM n (d.ms.drop k) = R)) (fun _ vi _ => d.ms.length - (intOf vi).toNat)
 case atStart => exact ⟨0,by omega,rfl,rfl,rfl,hR1⟩
 case round =>
  clear hR1
  obtain ⟨k,hk,rfl,rfl,rfl,hR⟩:=hrel
  by_cases hlt : k < d.ms.length
  ·obtain ⟨b,o,rfl,hb,hc1,hc2⟩:=hv.at_ hlt
   have hbn : b < w.heap.size + 1:=by omega
   have hd:=drop_cons hlt
   obtain ⟨⟨x,y⟩,hm⟩ : ∃ m,d.ms[k] = m:=⟨_,rfl⟩
   rw [hm] at hc1 hc2 hd
   clear hm
   have hstep:=hR.out
   rw [hd] at hstep
   by_cases he : y = n
   ·rw [hasM_yes he] at hstep
    have HF:=Lib.hid hstep
    have n1 : (y == n) = true:=by simpa using he
    have n2 : (y = n) = True:=eq_true he
    clear hstep hd hR he
    go_wp2_with fail
    refine bodyPost_ret (v:=.tuple #[mv (x,y),.bool true]) (by simp [results,Tryz.results102,go_sem]) rfl ⟨by rw [<- HF.out]; rfl,?_⟩
    (exact Ds.bex1)
   ·rw [hasM_no he] at hstep
    have HN:=Lib.hid hstep
    have n1 : (y == n) = false:=by simpa using he
    have n2 : (y = n) = False:=eq_false he
    clear hstep hd hR he
    go_wp2_with fail
    go_roundw
    case rel => exact ⟨k + 1,by omega,by go_num,rfl,by first | rfl | trivial,HN⟩
    case measure => simp [intOf]; omega
  ·obtain rfl : k = d.ms.length:=by omega
   have hfin : R = none:=by
    rw [<- hR.out,List.drop_eq_nil_iff.2 (Nat.le_refl _)]; rfl
   have HF:=Lib.hid hfin
   clear hfin hR
   go_wp2_with fail
   refine bodyPost_ret (v:=.tuple #[mv (0,0),.bool false]) (by simp [results,Tryz.results102,go_sem]) rfl ⟨by rw [HF.out]; rfl,?_⟩
   (exact Ds.bex1)
end Go.Proofs.YthcmnkmfhgoddaaGreatDoor.Ds
