/-
  What the document says follows,of sessions,reckoned without a program: noted and merged,no client's number becomes less. No condition.
  THE PLAIN MATHEMATICS OF PACKAGE shelf,of no program: pairs by rising keys,changes done one behind the other,changes' texts and back. No condition.
  One change done upon pairs by rising keys,as a cut at a place; how a scan and a look-up go,pair by pair. No program's function; no condition.
-/
import Derived.Test.YthcmnkmfhgoddaaGreatDoorVSsMRA
import Derived.Test.YthcmnkmfhgoddaaGreatDoorVOrdA
namespace Go.Proofs.YthcmnkmfhgoddaaGreatDoor.Ss
open Go.Proofs.YthcmnkmfhgoddaaGreatDoor.Od (Rep isR)
theorem one_is {s : Ses} : isS [s] = fitsB s:=by
 unfold isS
 have e : riseB 0 [s] = fitsB s:=by
  rw [Bool.eq_iff_iff,rise_cons]
  constructor
  ·rintro ⟨_,h,_⟩; exact h
  ·intro h; exact ⟨by have:=fits_client h; omega,h,rfl⟩
 rw [e]
 rfl
theorem ask_none {l : List Ses} {c q : Int} (h : findS c l = none) : askS l c q = (Od.Rep.zero,false):=by unfold askS; rw [h]
theorem ask_some {l : List Ses} {c q : Int} {s : Ses} (h : findS c l = some s) : askS l c q = if s.seq < q then (Od.Rep.zero,false) else if s.seq = q then (s.rep,true) else (⟨3,0,false,Od.E0,[]⟩,true):=by unfold askS; rw [h]
end Go.Proofs.YthcmnkmfhgoddaaGreatDoor.Ss

namespace Go.Proofs.YthcmnkmfhgoddaaGreatDoor.Sf
open Go.Proofs.YthcmnkmfhgoddaaGreatDoor.O (lt lt_irrefl lt_trans lt_tri lt_asymm)
open Go.Proofs.YthcmnkmfhgoddaaGreatDoor.M (tieT untieT untie_some untie_spec)
abbrev Pr:=ByteArray × ByteArray
structure Ch where
 k : ByteArray
 v : ByteArray
 gone : Bool
instance : Inhabited Ch:=⟨⟨⟨#[]⟩,⟨#[]⟩,false⟩⟩
theorem ba_ext {a b : ByteArray} (h : a.toList = b.toList) : a = b:=by
 rw [ByteArray.toList_eq,ByteArray.toList_eq] at h
 obtain ⟨⟨x⟩⟩:=a
 obtain ⟨⟨y⟩⟩:=b
 have h : x = y:=h
 rw [h]
def kl (a b : ByteArray) : Bool:=lt a.toList b.toList
theorem kl_irrefl (a : ByteArray) : kl a a = false:=lt_irrefl _
theorem kl_trans {a b c : ByteArray} (h : kl a b = true) (k : kl b c = true) : kl a c = true:=lt_trans h k
theorem kl_asymm {a b : ByteArray} (h : kl a b = true) : kl b a = false:=lt_asymm h
theorem kl_tri (a b : ByteArray) : kl a b = true \/ a = b \/ kl b a = true:=by
 rcases lt_tri a.toList b.toList with h | h | h
 ·exact .inl h
 ·exact .inr (.inl (ba_ext h))
 ·exact .inr (.inr h)
theorem kl_ne {a b : ByteArray} (h : kl a b = true) : a ≠ b:=by
 rintro rfl
 rw [kl_irrefl] at h; cases h
def Up (P : List Pr) : Prop:=P.Pairwise fun p q => kl p.1 q.1 = true
def put (c : Ch) : List Pr:=if c.gone = true then [] else [(c.k,c.v)]
def doP : List Pr -> Ch -> List Pr
 | [],c => put c
 | p :: P,c => if kl p.1 c.k = true then p :: doP P c else put c ++ (if p.1 = c.k then P else p :: P)
def allP (P : List Pr) (l : List Ch) : List Pr:=l.foldl doP P
def getP : List Pr -> ByteArray -> Option ByteArray
 | [],_ => none
 | p :: P,k => if p.1 = k then some p.2 else getP P k
theorem mem_put {c : Ch} {x : Pr} (h : x ∈ put c) : x.1 = c.k:=by
 unfold put at h
 split at h
 ·cases h
 ·simp at h; rw [h]
theorem mem_do {c : Ch} : ∀ {P : List Pr} {x : Pr},x ∈ doP P c -> x.1 = c.k \/ x ∈ P
 | [],x,h => .inl (mem_put h)
 | p :: P,x,h => by
  unfold doP at h
  split at h
  ·rcases List.mem_cons.1 h with rfl | h
   ·exact .inr (by simp)
   ·rcases mem_do h with h | h
    ·exact .inl h
    ·exact .inr (by simp [h])
  ·rcases List.mem_append.1 h with h | h
   ·exact .inl (mem_put h)
   ·right
    split at h
    ·simp [h]
    ·exact h
theorem Up.do {c : Ch} : ∀ {P : List Pr},Up P -> Up (doP P c)
 | [],_ => by
  unfold doP put
  split
  ·exact List.Pairwise.nil
  ·exact List.pairwise_singleton _ _
 | p :: P,h => by
  have h':=List.pairwise_cons.1 h
  unfold doP
  split
  ·rename_i hk
   refine List.pairwise_cons.2 ⟨fun x hx => ?_,Up.do h'.2⟩
   rcases mem_do hx with hx | hx
   ·rw [hx]; exact hk
   ·exact h'.1 x hx
  ·rename_i hk
   have hk : kl p.1 c.k = false:=by simpa using hk
   refine List.pairwise_append.2 ⟨?_,?_,fun x hx y hy => ?_⟩
   ·unfold put
    split
    ·exact List.Pairwise.nil
    ·exact List.pairwise_singleton _ _
   ·split
    ·exact h'.2
    ·exact h
   ·rw [mem_put hx]
    split at hy
    ·rename_i he
     rw [<- he]; exact h'.1 y hy
    ·rename_i he
     have hcp : kl c.k p.1 = true:=by
      rcases kl_tri p.1 c.k with g | g | g
      ·rw [hk] at g; cases g
      ·exact absurd g he
      ·exact g
     rcases List.mem_cons.1 hy with rfl | hy
     ·exact hcp
     ·exact kl_trans hcp (h'.1 y hy)
theorem Up.all {P : List Pr} (h : Up P) (l : List Ch) : Up (allP P l):=by
 unfold allP
 induction l generalizing P with
 | nil => exact h
 | cons c l ih => exact ih h.do
theorem Up.nil : Up []:=List.Pairwise.nil
theorem get_none {P : List Pr} {k : ByteArray} (h : ∀ x ∈ P,x.1 ≠ k) : getP P k = none:=by
 induction P with
 | nil => rfl
 | cons p P ih =>
  unfold getP
  rw [if_neg (h p (by simp))]
  exact ih fun x hx => h x (by simp [hx])
theorem get_mem {P : List Pr} (h : Up P) {x : Pr} (hx : x ∈ P) : getP P x.1 = some x.2:=by
 induction P with
 | nil => cases hx
 | cons p P ih =>
  have h':=List.pairwise_cons.1 h
  unfold getP
  rcases List.mem_cons.1 hx with rfl | hx
  ·rw [if_pos rfl]
  ·rw [if_neg (kl_ne (h'.1 x hx)),ih h'.2 hx]
theorem mem_get {P : List Pr} {k v : ByteArray} (h : getP P k = some v) : (k,v) ∈ P:=by
 induction P with
 | nil => cases h
 | cons p P ih =>
  unfold getP at h
  split at h
  ·rename_i hp
   injection h with h
   rw [<- hp,<- h]; simp
  ·exact List.mem_cons_of_mem _ (ih h)
theorem Up.ext : ∀ {P Q : List Pr},Up P -> Up Q -> (∀ k,getP P k = getP Q k) -> P = Q
 | [],[],_,_,_ => rfl
 | [],q :: Q,_,_,h => by
  have:=h q.1
  unfold getP at this
  rw [if_pos rfl] at this; cases this
 | p :: P,[],_,_,h => by
  have:=h p.1
  unfold getP at this
  rw [if_pos rfl] at this; cases this
 | p :: P,q :: Q,hp,hq,h => by
  have hp':=List.pairwise_cons.1 hp
  have hq':=List.pairwise_cons.1 hq
  have m1 : (p.1,p.2) ∈ q :: Q:=mem_get (by rw [<- h p.1]; exact get_mem hp (x:=p) (by simp))
  have m2 : (q.1,q.2) ∈ p :: P:=mem_get (by rw [h q.1]; exact get_mem hq (x:=q) (by simp))
  have e : p = q:=by
   rcases List.mem_cons.1 m1 with e | m1
   ·exact e
   ·rcases List.mem_cons.1 m2 with e | m2
    ·exact e.symm
    ·have a:=hq'.1 _ m1
     have b:=hp'.1 _ m2
     have:=kl_asymm a
     rw [show kl p.1 q.1 = true from b] at this; cases this
  subst e
  congr 1
  refine Up.ext hp'.2 hq'.2 fun k => ?_
  have:=h k
  unfold getP at this
  split at this
  ·rename_i hk
   rw [get_none (fun x hx => by rw [<- hk]; exact (kl_ne (hp'.1 x hx)).symm),get_none (fun x hx => by rw [<- hk]; exact (kl_ne (hq'.1 x hx)).symm)]
  ·exact this
def isCh (c : Ch) : Bool:=decide (1 <= c.k.size) && decide (c.k.size <= 128) && decide (c.v.size <= 262144) && (!c.gone || decide (c.v.size = 0))
theorem isCh_spec {c : Ch} (h : isCh c = true) : 1 <= c.k.size /\ c.k.size <= 128 /\ c.v.size <= 262144 /\ (c.gone = true -> c.v.size = 0):=by
 unfold isCh at h
 simp only [Bool.and_eq_true,Bool.or_eq_true,decide_eq_true_eq,Bool.not_eq_true'] at h
 obtain ⟨⟨⟨h1,h2⟩,h3⟩,h4⟩:=h
 refine ⟨h1,h2,h3,fun hg => ?_⟩
 rcases h4 with h4 | h4
 ·rw [hg] at h4; cases h4
 ·exact h4
def okP (P : List Pr) : Prop:=∀ p ∈ P,isCh ⟨p.1,p.2,false⟩ = true
theorem okP.do {P : List Pr} (h : okP P) {c : Ch} (hc : isCh c = true) : okP (doP P c):=by
 have hp : ∀ p ∈ put c,isCh ⟨p.1,p.2,false⟩ = true:=by
  intro p hp
  unfold put at hp
  split at hp
  ·cases hp
  ·simp at hp
   subst hp
   obtain ⟨h1,h2,h3,_⟩:=isCh_spec hc
   unfold isCh
   simp [h1,h2,h3]
 induction P with
 | nil => exact hp
 | cons q P ih =>
  intro p hx
  unfold doP at hx
  split at hx
  ·rcases List.mem_cons.1 hx with rfl | hx
   ·exact h _ (by simp)
   ·exact ih (fun x hx => h x (by simp [hx])) p hx
  ·rcases List.mem_append.1 hx with hx | hx
   ·exact hp p hx
   ·refine h p ?_
    split at hx
    ·simp [hx]
    ·exact hx
theorem okP.all {P : List Pr} (h : okP P) {l : List Ch} (hl : ∀ c ∈ l,isCh c = true) : okP (allP P l):=by
 unfold allP
 induction l generalizing P with
 | nil => exact h
 | cons c l ih => exact ih (h.do (hl c (by simp))) fun x hx => hl x (by simp [hx])
end Go.Proofs.YthcmnkmfhgoddaaGreatDoor.Sf

namespace Go.Proofs.YthcmnkmfhgoddaaGreatDoor.Sf
end Go.Proofs.YthcmnkmfhgoddaaGreatDoor.Sf
