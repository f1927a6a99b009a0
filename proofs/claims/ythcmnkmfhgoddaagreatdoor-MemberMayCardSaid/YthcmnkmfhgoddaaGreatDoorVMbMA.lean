/-
  THE PLAIN MATHEMATICS OF PACKAGE member,of no program: what an entry changes,how many are among some,upon what they agree. No condition.
  THE PLAIN MATHEMATICS OF PACKAGE plot,of no program: what an order is answered at once,what is done,what is noted; a descriptor's text is short. No condition.
  THE MATHEMATICS OF THE LAWS OF PACKAGE member,of no program: a change that a plot would do is what the log says. No condition.
-/
import Derived.Test.YthcmnkmfhgoddaaGreatDoorVDsA
import Derived.Test.YthcmnkmfhgoddaaGreatDoorVOdA
import Derived.Test.YthcmnkmfhgoddaaGreatDoorVDpMA
namespace Go.Proofs.YthcmnkmfhgoddaaGreatDoor.Mb
open Go.Proofs.YthcmnkmfhgoddaaGreatDoor.Ds (De Mem addD removeD sameD isD hasM onM dropM okD)
open Go.Proofs.YthcmnkmfhgoddaaGreatDoor.Od (parseA isA putA)
abbrev En:=Int × ByteArray
def changeD (d : De) (o : Od.Ask) : De × Int:=if o.kind = 10 then addD d o.node else removeD d o.id
def isCh (o : Od.Ask) : Bool:=decide (o.kind = 10 \/ o.kind = 11)
def turnD (d : De) (o : Od.Ask) : De:=if isCh o = true then (if (changeD d o).2 = 0 then (changeD d o).1 else d) else d
noncomputable def stepD (d : De) (t : List UInt8) : De:=if (parseA t).2 = 0 then turnD d (parseA t).1 else d
noncomputable def ofD (d : De) : List En -> De
 | [] => d
 | e :: l => ofD (stepD d e.2.data.toList) l
theorem ofD_append (d : De) (a : List En) : ∀ b : List En,ofD d (a ++ b) = ofD (ofD d a) b:=by
 induction a generalizing d with
 | nil => intro b; rfl
 | cons x a ih => intro b; exact ih (stepD d x.2.data.toList) b
theorem ofD_take (d : De) (l : List En) (k : Nat) (h : k < l.length) : ofD d (l.take (k + 1)) = stepD (ofD d (l.take k)) (l[k]).2.data.toList:=by
 rw [List.take_succ_eq_append_getElem h,ofD_append]; rfl
theorem okD_is' {d x : De} (h : okD d = (x,0)) : isD x = true:=by
 rcases Ds.okD_cases d with ⟨h1,h2⟩ | h2
 ·rw [h2] at h; obtain ⟨rfl,-⟩:=Prod.mk.inj h; exact h1
 ·rw [h2] at h; have:=(Prod.mk.inj h).2; omega
theorem change_is {d x : De} {o : Od.Ask} (h : changeD d o = (x,0)) : isD x = true /\ x.gen = d.gen + 1:=by
 unfold changeD at h
 split at h
 ·unfold addD at h
  (repeat' split at h) <;> first | (exact absurd (Prod.mk.inj h).2 (by decide)) | (exact ⟨okD_is' h,by rw [(Ds.okD_spec h).2]⟩)
 ·unfold removeD at h
  (repeat' split at h) <;> first | (exact absurd (Prod.mk.inj h).2 (by decide)) | (exact ⟨okD_is' h,by rw [(Ds.okD_spec h).2]⟩)
theorem turn_is {d : De} (h : isD d = true) (o : Od.Ask) : isD (turnD d o) = true:=by
 unfold turnD
 split
 ·split
  ·rename_i h2
   exact (change_is (x:=(changeD d o).1) (o:=o) (d:=d) (by rw [<- h2])).1
  ·exact h
 ·exact h
theorem step_is {d : De} (h : isD d = true) (t : List UInt8) : isD (stepD d t) = true:=by
 unfold stepD; split
 ·exact turn_is h _
 ·exact h
theorem of_is : ∀ {l : List En} {d : De},isD d = true -> isD (ofD d l) = true
 | [],_,h => h
 | _ :: l,_,h => of_is (l:=l) (step_is h _)
def countM (ms : List Mem) (ids : List Int) : Nat:=ms.countP fun m => ids.contains m.2
theorem countM_le (ms : List Mem) (ids : List Int) : countM ms ids <= ms.length:=List.countP_le_length
def reach (l : List Int) (n : Int) : Nat:=l.countP fun x => decide (n <= x)
def best (l : List Int) : Int -> List Int -> Int
 | b,[] => b
 | b,x :: m => best l (if l.length < 2 * reach l x then max b x else b) m
def agL (l : List Int) : Int:=if l = [] then 0 else best l (-9223372036854775808) l
structure Ag (l : List Int) (v : Int) : Prop where
 mem : v ∈ l
 most : l.length < 2 * reach l v
 top : ∀ n ∈ l,l.length < 2 * reach l n -> n <= v
theorem Ag.unique {l : List Int} {v u : Int} (h : Ag l v) (g : Ag l u) : v = u:=by
 have h1:=g.top v h.mem h.most
 have h2:=h.top u g.mem g.most
 omega
theorem reach_perm {l m : List Int} (h : l.Perm m) (n : Int) : reach l n = reach m n:=h.countP_eq _
theorem Ag.perm {l m : List Int} {v : Int} (h : Ag l v) (p : l.Perm m) : Ag m v :=
 ⟨p.mem_iff.1 h.mem,by rw [<- p.length_eq,<- reach_perm p]; exact h.most,fun n hn hr => h.top n (p.mem_iff.2 hn) (by rw [p.length_eq,reach_perm p]; exact hr)⟩
theorem best_ge (l : List Int) : ∀ (m : List Int) (b : Int),b <= best l b m /\ (∀ n ∈ m,l.length < 2 * reach l n -> n <= best l b m) /\ (best l b m = b \/ best l b m ∈ m /\ l.length < 2 * reach l (best l b m))
 | [],b => ⟨by simp [best],by simp,.inl rfl⟩
 | x :: m,b => by
  by_cases hx : l.length < 2 * reach l x
  ·have e : best l b (x :: m) = best l (max b x) m:=by rw [best,if_pos hx]
   obtain ⟨h1,h2,h3⟩:=best_ge l m (max b x)
   rw [e]
   refine ⟨by omega,fun n hn hr => ?_,?_⟩
   ·rcases List.mem_cons.1 hn with rfl | hn
    ·omega
    ·exact h2 n hn hr
   ·rcases h3 with h3 | ⟨h3,h4⟩
    ·rw [h3]
     by_cases hb : b <= x
     ·right
      have : max b x = x:=by omega
      rw [this]
      exact ⟨by simp,hx⟩
     ·left; omega
    ·exact .inr ⟨by simp [h3],h4⟩
  ·have e : best l b (x :: m) = best l b m:=by rw [best,if_neg hx]
   obtain ⟨h1,h2,h3⟩:=best_ge l m b
   rw [e]
   refine ⟨h1,fun n hn hr => ?_,?_⟩
   ·rcases List.mem_cons.1 hn with rfl | hn
    ·exact absurd hr hx
    ·exact h2 n hn hr
   ·rcases h3 with h3 | ⟨h3,h4⟩
    ·exact .inl h3
    ·exact .inr ⟨by simp [h3],h4⟩
theorem ag_sorted {s : List Int} (hs : s.Pairwise (· <= ·)) (h0 : 0 < s.length) : Ag s (s[s.length - (s.length / 2 + 1)]'(by omega)):=by
 obtain ⟨k,hk⟩ : ∃ k,s.length - (s.length / 2 + 1) = k:=⟨_,rfl⟩
 have hkl : k < s.length:=by omega
 have hmono : ∀ (i j : Nat) (hi : i < s.length) (hj : j < s.length),i <= j -> s[i] <= s[j]:=fun i j hi hj hij => by
  rcases Nat.eq_or_lt_of_le hij with h | h
  ·subst h; exact Int.le_refl _
  ·exact (List.pairwise_iff_getElem.1 hs) i j hi hj h
 have hr : ∀ n,reach s n = (s.take k).countP (fun x => decide (n <= x)) + (s.drop k).countP (fun x => decide (n <= x)):=fun n => by
  unfold reach
  rw [<- List.countP_append,List.take_append_drop]
 have he : (s[s.length - (s.length / 2 + 1)]'(by omega)) = s[k]:=by simp only [hk]
 rw [he]
 refine ⟨List.getElem_mem hkl,?_,fun n hn hq => ?_⟩
 ·have h1 : (s.drop k).countP (fun x => decide (s[k] <= x)) = (s.drop k).length:=by
   rw [List.countP_eq_length]
   intro x hx
   obtain ⟨i,hi,rfl⟩:=List.getElem_of_mem hx
   rw [List.getElem_drop]
   rw [List.length_drop] at hi
   simpa using hmono k (k + i) hkl (by omega) (by omega)
  rw [hr,h1,List.length_drop]
  omega
 ·refine Classical.byContradiction fun hlt => ?_
  have hlt : s[k] < n:=by omega
  have h1 : (s.take (k + 1)).countP (fun x => decide (n <= x)) = 0:=by
   rw [List.countP_eq_zero]
   intro x hx
   obtain ⟨i,hi,rfl⟩:=List.getElem_of_mem hx
   rw [List.getElem_take]
   rw [List.length_take] at hi
   have:=hmono i k (by omega) hkl (by omega)
   simp; omega
  have h2 : reach s n = (s.take (k + 1)).countP (fun x => decide (n <= x)) + (s.drop (k + 1)).countP (fun x => decide (n <= x)):=by
   unfold reach
   rw [<- List.countP_append,List.take_append_drop]
  have h3 : (s.drop (k + 1)).countP (fun x => decide (n <= x)) <= (s.drop (k + 1)).length:=List.countP_le_length
  rw [List.length_drop] at h3
  omega
theorem ag_agL {l : List Int} (h0 : l ≠ []) (hm : ∃ v,Ag l v) (hb : ∀ n ∈ l,-9223372036854775808 <= n) : Ag l (agL l):=by
 obtain ⟨v,hv⟩:=hm
 obtain ⟨h1,h2,h3⟩:=best_ge l l (-9223372036854775808)
 have e : agL l = best l (-9223372036854775808) l:=if_neg h0
 rw [e]
 have h4:=h2 v hv.mem hv.most
 rcases h3 with h3 | ⟨h3,h5⟩
 ·have h6:=hb v hv.mem
  have : best l (-9223372036854775808) l = v:=by omega
  rw [this]
  exact hv
 ·exact ⟨h3,h5,h2⟩
theorem ag_any {l s : List Int} (hp : s.Perm l) (hs : s.Pairwise (· <= ·)) (h0 : 0 < l.length) (hb : ∀ n ∈ l,-9223372036854775808 <= n) : Ag l (agL l) /\ (s[s.length - (s.length / 2 + 1)]'(by have:=hp.length_eq; omega)) = agL l:=by
 have h1 : Ag l _:=(ag_sorted hs (by have:=hp.length_eq; omega)).perm hp
 have h2:=ag_agL (l:=l) (by rintro rfl; simp at h0) ⟨_,h1⟩ hb
 exact ⟨h2,h1.unique h2⟩
end Go.Proofs.YthcmnkmfhgoddaaGreatDoor.Mb

namespace Go.Proofs.YthcmnkmfhgoddaaGreatDoor.Pt
open Go.Proofs.YthcmnkmfhgoddaaGreatDoor.O (hasB)
open Go.Proofs.YthcmnkmfhgoddaaGreatDoor.M (tieT numT inR)
open Go.Proofs.YthcmnkmfhgoddaaGreatDoor.Ds (De putT isD sameD)
open Go.Proofs.YthcmnkmfhgoddaaGreatDoor.Od (Rep E0 chkA keyedK readsK)
open Go.Proofs.YthcmnkmfhgoddaaGreatDoor.Ss (Ses askS noteS)
open Go.Proofs.YthcmnkmfhgoddaaGreatDoor.Dp (Pl putP)
open Go.Proofs.YthcmnkmfhgoddaaGreatDoor.Mb (changeD isCh)
abbrev txt (t : List UInt8) : ByteArray:=⟨t.toArray⟩
abbrev badR (e : Int) : Rep:=⟨4,e,false,E0,[]⟩
abbrev toldR (c : Int) (h : Bool) (t : List UInt8) : Rep:=⟨c,0,h,txt t,[]⟩
structure Eff where
 split : Bool
 right : Pl
 eaten : Int
def Eff.zero : Eff:=⟨false,Pl.zero,0⟩
abbrev Out:=Pl × Rep × Eff
def frozenP (p : Pl) (k : Int) : Rep:=if k = 8 then toldR 0 false (putP p) else if k = 12 then toldR 0 p.fr (putT p.d) else toldR 2 false (putT p.d)
noncomputable def atOnceP (p : Pl) (o : Od.Ask) : Option Rep :=
 if chkA o = 0 then
  if o.kind = 0 then some Rep.zero
  else if (askS p.ss o.client o.seq).2 = true then some (askS p.ss o.client o.seq).1
  else if keyedK o.kind = true /\ hasB p.d.b o.key.toList = false then some (toldR 1 false (putT p.d))
  else if p.fr = true then some (frozenP p o.kind) else none
 else some (badR 70)
def becameP (p : Pl) (c : De × Int) : Out:=if c.2 = 0 then ({ p with d:=c.1 },toldR 0 false (putT c.1),Eff.zero) else (p,badR c.2,Eff.zero)
def notedB (k c : Int) : Bool:=!readsK k && decide (c ≠ 1)
def noteP (p : Pl) (o : Od.Ask) (x : Out) : Out :=
 if (noteS x.1.ss ⟨o.client,o.seq,x.2.1⟩).2 = 0 then
  if x.2.2.split = true then
   if (noteS x.2.2.right.ss ⟨o.client,o.seq,x.2.1⟩).2 = 0 then ({ x.1 with ss:=(noteS x.1.ss ⟨o.client,o.seq,x.2.1⟩).1 },x.2.1,{ x.2.2 with right:={ x.2.2.right with ss:=(noteS x.2.2.right.ss ⟨o.client,o.seq,x.2.1⟩).1 } })
   else (p,badR (noteS x.2.2.right.ss ⟨o.client,o.seq,x.2.1⟩).2,Eff.zero)
  else ({ x.1 with ss:=(noteS x.1.ss ⟨o.client,o.seq,x.2.1⟩).1 },x.2.1,x.2.2)
 else (p,badR (noteS x.1.ss ⟨o.client,o.seq,x.2.1⟩).2,Eff.zero)
def endP (p : Pl) (o : Od.Ask) (x : Out) : Out:=if notedB o.kind x.2.1.code = true then noteP p o x else x
noncomputable def applyC (p : Pl) (o : Od.Ask) : Out:=match atOnceP p o with
 | some r => (p,r,Eff.zero)
 | none => endP p o (becameP p (changeD p.d o))
noncomputable def mayP (p : Pl) (o : Od.Ask) : Bool:=isCh o && (decide ((applyC p o).2.1.code = 0) && !sameD (applyC p o).1.d p.d)
theorem dig_short {n : Nat} (h : n < 100) : (M.dig n).length <= 2:=by
 by_cases h1 : n < 10
 ·rw [M.dig_lt h1]; simp
 ·rw [M.dig_ge h1,List.length_append,M.dig_lt (by omega)]; simp
theorem strand_short {x : List UInt8} (h : x.length < 100) : (M.strand x).length <= x.length + 4:=by
 have h1:=dig_short (n:=x.length) h
 have h2 : (numT (x.length : Int)).length <= 2:=by
  unfold M.numT
  rw [if_neg (by omega)]
  simpa using h1
 unfold M.strand
 simp only [List.length_append,List.length_cons,List.length_nil]
 omega
theorem tie_short : ∀ {l : List (List UInt8)},(∀ x ∈ l,x.length < 100) -> (tieT l).length <= 4 * l.length + (l.map List.length).sum
 | [],_ => by simp [M.tieT_nil]
 | x :: l,h => by
  have h1:=strand_short (h x (by simp))
  have h2:=tie_short (l:=l) fun y hy => h y (by simp [hy])
  rw [M.tieT_cons,List.length_append,List.map_cons,List.sum_cons,List.length_cons]
  omega
theorem mems_short : ∀ {l : List Ds.Mem},(∀ m ∈ l,inR m.1 /\ inR m.2) -> (∀ x ∈ Ds.memsT l,x.length < 100) /\ ((Ds.memsT l).map List.length).sum <= 40 * l.length
 | [],_ => And.intro (fun x hx => absurd hx (by simp [Ds.memsT])) (by simp [Ds.memsT])
 | m :: l,h => by
  obtain ⟨h1,h2⟩:=h m (by simp)
  have a1:=M.numT_length h1
  have a2:=M.numT_length h2
  obtain ⟨i1,i2⟩:=mems_short (l:=l) fun x hx => h x (by simp [hx])
  rw [Ds.memsT_cons]
  refine ⟨fun x hx => ?_,?_⟩
  ·simp only [List.mem_cons] at hx
   rcases hx with rfl | rfl | hx
   ·omega
   ·omega
   ·exact i1 x hx
  ·simp only [List.map_cons,List.sum_cons,List.length_cons]
   omega
theorem putT_short {d : De} (h : isD d = true) : (putT d).length <= 500:=by
 obtain ⟨h1,h2,h3,h4,h5,_⟩:=(Ds.isD_iff d).1 h
 obtain ⟨h6,h7,_⟩:=(O.isB_iff _).1 h4
 simp only [De.b] at h6 h7
 have r1 : inR d.id:=by have:=(Ds.idB_iff _).1 h1; unfold M.inR; omega
 have r2 : inR d.gen:=by have:=(Ds.idB_iff _).1 h2; unfold M.inR; omega
 have r3 : inR d.next:=by have:=(Ds.idB_iff _).1 h3; unfold M.inR; omega
 have r4 : ∀ m ∈ d.ms,inR m.1 /\ inR m.2:=fun m hm => by
  obtain ⟨g1,g2,g3⟩:=(Ds.isD_parts h).1 m hm
  have:=(Ds.nodeB_iff _).1 g1
  have:=(Ds.idB_iff _).1 h3
  unfold M.inR
  omega
 have a1:=M.numT_length r1
 have a2:=M.numT_length r2
 have a3:=M.numT_length r3
 obtain ⟨b1,b2⟩:=mems_short r4
 have hl:=Ds.memsT_length d.ms
 have hput : putT d = tieT (Ds.strandsT d):=rfl
 rw [hput]
 have:=tie_short (l:=Ds.strandsT d) (by
  intro x hx
  simp only [Ds.strandsT,List.mem_append,List.mem_cons,List.not_mem_nil,or_false] at hx
  rcases hx with (rfl | rfl | rfl | rfl | rfl) | hx
  ·omega
  ·omega
  ·omega
  ·omega
  ·omega
  ·exact b1 x hx)
 have e1 : (Ds.strandsT d).length = 5 + (Ds.memsT d.ms).length:=by simp [Ds.strandsT]; omega
 have e2 : ((Ds.strandsT d).map List.length).sum = (numT d.id).length + (d.f.toList.length + (d.t.toList.length + ((numT d.gen).length + ((numT d.next).length + ((Ds.memsT d.ms).map List.length).sum)))):=by simp [Ds.strandsT]
 rw [e1,e2] at this
 omega
end Go.Proofs.YthcmnkmfhgoddaaGreatDoor.Pt

namespace Go.Proofs.YthcmnkmfhgoddaaGreatDoor.Mb
open Go.Proofs.YthcmnkmfhgoddaaGreatDoor.O (hasB)
open Go.Proofs.YthcmnkmfhgoddaaGreatDoor.Ds (De putT isD sameD addD removeD)
open Go.Proofs.YthcmnkmfhgoddaaGreatDoor.Od (Rep E0 isA chkA keyedK readsK parseA putA seqB)
open Go.Proofs.YthcmnkmfhgoddaaGreatDoor.Ss (Ses askS noteS fitsB isS)
open Go.Proofs.YthcmnkmfhgoddaaGreatDoor.Dp (Pl)
open Go.Proofs.YthcmnkmfhgoddaaGreatDoor.Pt (toldR badR Eff atOnceP becameP endP noteP notedB applyC mayP txt)
theorem isCh_kind {o : Od.Ask} (h : isCh o = true) : o.kind = 10 \/ o.kind = 11:=by
 unfold isCh at h
 exact of_decide_eq_true h
theorem isA_seqs {o : Od.Ask} (h : isA o = true) (hk : o.kind ≠ 0) : seqB o.client = true /\ seqB o.seq = true:=by
 unfold Od.isA at h
 simp only [Bool.or_eq_true,Bool.and_eq_true] at h
 rcases h with h | h
 ·have:=(Od.sameA_iff _ _).1 h
  rw [this] at hk
  exact absurd rfl hk
 ·exact ⟨by first | exact h.1.1.2 | exact h.1.2.1 | exact h.2.1.1,by first | exact h.1.2.2 | exact h.1.2 | exact h.2.1.2⟩
theorem note_one {s : Ses} (h : fitsB s = true) : noteS [] s = ([s],0):=by
 unfold Ss.noteS
 rw [Ss.one_is,if_pos h]
 unfold Ss.mergeS
 rw [show Ss.bothS [s] [] = [s] from Ss.bothG_end _ _]
 rfl
theorem told_fits {o : Od.Ask} {D : De} (h1 : seqB o.client = true) (h2 : seqB o.seq = true) (hD : isD D = true) : fitsB ⟨o.client,o.seq,toldR 0 false (putT D)⟩ = true:=by
 have hs:=Pt.putT_short hD
 have hz : (txt (putT D)).size = (putT D).length:=by simp [ByteArray.size]
 unfold Ss.fitsB Ss.keptB Od.isR
 simp only [h1,h2,Bool.true_and]
 have e1 : Od.amongB 0 0 4 = true:=rfl
 have e2 : Od.tellsB 0 0 = true:=rfl
 have e3 : decide ((txt (putT D)).size <= 65536) = true:=by rw [hz]; simp; omega
 have e4 : decide ((txt (putT D)).size <= 512) = true:=by rw [hz]; simp; omega
 simp [e1,e2,e3,e4]
theorem may_same {p : Pl} {o : Od.Ask} (hfr : p.fr = false) (hss : p.ss = []) (ho : isA o = true) (hh : hasB p.d.b o.key.toList = true) : mayP p o = !sameD (turnD p.d o) p.d:=by
 cases hc : isCh o with
 | false =>
  unfold Pt.mayP turnD
  rw [hc]
  simp [Ds.sameD_self]
 | true =>
  have hk:=isCh_kind hc
  have hk0 : o.kind ≠ 0:=by omega
  obtain ⟨s1,s2⟩:=isA_seqs ho hk0
  have hchk : chkA o = 0:=by unfold Od.chkA; rw [if_pos ho]
  have hkey : keyedK o.kind = true:=by rcases hk with h | h <;> rw [h] <;> rfl
  have hrd : readsK o.kind = false:=by rcases hk with h | h <;> rw [h] <;> rfl
  have hat : atOnceP p o = none:=by
   unfold Pt.atOnceP
   rw [if_pos hchk,if_neg hk0,hss,if_neg (by simp [Ss.askS,Ss.findS]),hh,if_neg (by simp),hfr,if_neg (by simp)]
  have hap : applyC p o = endP p o (becameP p (changeD p.d o)):=by unfold Pt.applyC; rw [hat]
  unfold Pt.mayP
  rw [hc,hap]
  unfold turnD
  rw [if_pos hc]
  unfold Pt.becameP
  by_cases h0 : (changeD p.d o).2 = 0
  ·rw [if_pos h0,if_pos h0]
   obtain ⟨hD,hgen⟩:=change_is (d:=p.d) (x:=(changeD p.d o).1) (o:=o) (by rw [<- h0])
   have hnote:=note_one (told_fits s1 s2 hD)
   unfold Pt.endP
   have hn : notedB o.kind (toldR 0 false (putT (changeD p.d o).1)).code = true:=by unfold Pt.notedB; rw [hrd]; rfl
   rw [if_pos hn]
   unfold Pt.noteP
   simp only [hss,hnote]
   rfl
  ·rw [if_neg h0,if_neg h0]
   have hcode : (endP p o (p,badR (changeD p.d o).2,Eff.zero)).2.1.code = 4:=by
    unfold Pt.endP Pt.noteP
    (repeat' split) <;> rfl
   rw [hcode,Ds.sameD_self]
   rfl
def dT : De:=⟨1,E0,E0,1,[(1,1),(2,2),(3,3)],4⟩
def dF : De:=⟨1,E0,E0,2,[(1,1),(2,2),(3,3),(4,4)],5⟩
abbrev oA : Od.Ask:=⟨10,1,1,⟨#[107]⟩,E0,E0,E0,false,0,0,4⟩
abbrev oR : Od.Ask:=⟨11,1,1,⟨#[107]⟩,E0,E0,E0,false,0,2,0⟩
def pT : Pl:=⟨dT,[],[],false,[],0⟩
theorem dT_is : isD dT = true:=by kernel_rfl
theorem putA_long (o : Od.Ask) : 22 <= (putA o).length:=by
 unfold Od.putA Od.strandsA
 simp only [M.tieT_cons,M.tieT_nil,M.strand,List.length_append,List.length_cons,List.length_nil]
 omega
theorem parse_few {t : List UInt8} (h : t.length < 22) : (parseA t).2 = 70:=by
 rcases Od.parseA_cases t with ⟨o,_,e,_⟩ | e
 ·have:=putA_long o
  rw [e] at this
  omega
 ·rw [e]
theorem isA_oA : isA oA = true:=by kernel_rfl
theorem isA_oR : isA oR = true:=by kernel_rfl
theorem in_oA : Od.InA oA:=⟨by decide,by decide,by decide,by decide,by decide,by decide⟩
theorem turn_oA : turnD dT oA = dF:=by kernel_rfl
theorem turn_oR : sameD (turnD dT oR) dT = false:=by kernel_rfl
theorem parse_oA (h : (putA oA).length <= 1048576) : parseA (putA oA) = (oA,0):=by rw [Od.parse_put in_oA h,if_pos isA_oA]
theorem live_of {t : List UInt8} (ht : t = putA oA) (hs : t.length <= 1048576) : ofD dT [(0,⟨#[120]⟩),(0,⟨t.toArray⟩)] = dF:=by
 subst ht
 have h1 : stepD dT (⟨#[120]⟩ : ByteArray).data.toList = dT:=by
  unfold stepD
  rw [parse_few (by decide),if_neg (by decide)]
 have h2 : stepD dT (⟨(putA oA).toArray⟩ : ByteArray).data.toList = dF:=by
  unfold stepD
  rw [show (⟨(putA oA).toArray⟩ : ByteArray).data.toList = putA oA by simp,parse_oA hs]
  exact turn_oA
 unfold ofD
 rw [h1]
 unfold ofD
 rw [h2]
 rfl
theorem live_ag : agL [5,9,7] = 7:=by decide
theorem live_count : countM dF.ms [2,4,9] = 2:=by decide
theorem live_may : mayP pT oR = true:=by
 rw [may_same (p:=pT) rfl rfl isA_oR (by kernel_rfl)]
 show (!sameD (turnD dT oR) dT) = true
 rw [turn_oR]
 rfl
end Go.Proofs.YthcmnkmfhgoddaaGreatDoor.Mb
