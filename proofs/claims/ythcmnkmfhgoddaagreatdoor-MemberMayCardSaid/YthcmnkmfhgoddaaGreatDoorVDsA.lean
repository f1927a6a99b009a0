/-
  THE PLAIN MATHEMATICS OF PACKAGE desc,of no program: descriptors,whether they may be,how they change,their texts and back. No condition.
  What the document says follows,of descriptors,reckoned without a program: what only rises,what comes back. No condition.
-/
import Derived.Test.YthcmnkmfhgoddaaGreatDoorVOrdA
namespace Go.Proofs.YthcmnkmfhgoddaaGreatDoor.Ds
open Go.Proofs.YthcmnkmfhgoddaaGreatDoor.O (Bd isB keyB hasB)
open Go.Proofs.YthcmnkmfhgoddaaGreatDoor.M (tieT untieT untie_some untie_spec numT intT inR tieT_inj tie_prefix)
abbrev Text:=List UInt8
abbrev Mem:=Int × Int
structure De where
 id : Int
 f : ByteArray
 t : ByteArray
 gen : Int
 ms : List Mem
 next : Int
def De.zero : De:=⟨0,⟨#[]⟩,⟨#[]⟩,0,[],0⟩
def De.b (d : De) : Bd:=⟨d.f.toList,d.t.toList⟩
theorem ba_ext {a b : ByteArray} (h : a.toList = b.toList) : a = b:=by
 rw [ByteArray.toList_eq,ByteArray.toList_eq] at h
 obtain ⟨⟨x⟩⟩:=a
 obtain ⟨⟨y⟩⟩:=b
 have h : x = y:=h
 rw [h]
def idB (n : Int) : Bool:=decide (1 <= n /\ n <= 1099511627776)
def nodeB (n : Int) : Bool:=decide (1 <= n /\ n <= 7)
def mayGo (next : Int) : Int -> List Int -> List Mem -> Bool
 | _,_,[] => true
 | last,tk,m :: l => if nodeB m.1 = true /\ ¬ m.1 ∈ tk /\ last < m.2 /\ m.2 < next then mayGo next m.2 (m.1 :: tk) l else false
def mayB (next : Int) (l : List Mem) : Bool:=decide (1 <= l.length /\ l.length <= 5) && mayGo next 0 [] l
def isD (d : De) : Bool:=idB d.id && idB d.gen && idB d.next && isB d.b && mayB d.next d.ms
theorem isD_iff (d : De) : isD d = true ↔ idB d.id = true /\ idB d.gen = true /\ idB d.next = true /\ isB d.b = true /\ (1 <= d.ms.length /\ d.ms.length <= 5) /\ mayGo d.next 0 [] d.ms = true:=by
 simp [isD,mayB,and_assoc]
theorem idB_iff (n : Int) : idB n = true ↔ 1 <= n /\ n <= 1099511627776:=by simp [idB]
theorem nodeB_iff (n : Int) : nodeB n = true ↔ 1 <= n /\ n <= 7:=by simp [nodeB]
theorem mayGo_iff (next : Int) : ∀ (l : List Mem) (last : Int) (tk : List Int),mayGo next last tk l = true ↔
  (∀ m ∈ l,nodeB m.1 = true /\ ¬ m.1 ∈ tk /\ last < m.2 /\ m.2 < next) /\ l.Pairwise (fun a b => a.2 < b.2) /\ (l.map (·.1)).Nodup
 | [],last,tk => by simp [mayGo]
 | m :: l,last,tk => by
  rw [mayGo]
  by_cases h : nodeB m.1 = true /\ ¬ m.1 ∈ tk /\ last < m.2 /\ m.2 < next
  ·rw [if_pos h,mayGo_iff next l m.2 (m.1 :: tk)]
   constructor
   ·rintro ⟨h1,h2,h3⟩
    refine ⟨?_,List.pairwise_cons.2 ⟨fun x hx => (h1 x hx).2.2.1,h2⟩,?_⟩
    ·intro x hx
     rcases List.mem_cons.1 hx with rfl | hx
     ·exact h
     ·obtain ⟨g1,g2,g3,g4⟩:=h1 x hx
      exact ⟨g1,fun e => g2 (by simp [e]),by omega,g4⟩
    ·rw [List.map_cons,List.nodup_cons]
     refine ⟨?_,h3⟩
     intro hm
     obtain ⟨x,hx,e⟩:=List.mem_map.1 hm
     exact (h1 x hx).2.1 (by simp [e])
   ·rintro ⟨h1,h2,h3⟩
    rw [List.pairwise_cons] at h2
    rw [List.map_cons,List.nodup_cons] at h3
    refine ⟨fun x hx => ?_,h2.2,h3.2⟩
    obtain ⟨g1,g2,g3,g4⟩:=h1 x (by simp [hx])
    refine ⟨g1,?_,h2.1 x hx,g4⟩
    intro e
    rcases List.mem_cons.1 e with e | e
    ·exact h3.1 (List.mem_map.2 ⟨x,hx,e⟩)
    ·exact g2 e
  ·rw [if_neg h]
   constructor
   ·intro e; simp at e
   ·rintro ⟨h1,_,_⟩
    exact absurd (h1 m (by simp)) h
def onM (n : Int) : List Mem -> Option Mem
 | [] => none
 | m :: l => if m.1 = n then some m else onM n l
def hasM (i : Int) : List Mem -> Option Mem
 | [] => none
 | m :: l => if m.2 = i then some m else hasM i l
theorem hasM_some {i : Int} {m : Mem} : ∀ {l : List Mem},hasM i l = some m -> m ∈ l /\ m.2 = i
 | x :: l,h => by
  rw [hasM] at h
  by_cases e : x.2 = i
  ·rw [if_pos e] at h; obtain rfl:=Option.some.inj h; exact ⟨by simp,e⟩
  ·rw [if_neg e] at h; have:=hasM_some h; exact ⟨by simp [this.1],this.2⟩
theorem hasM_mem : ∀ {l : List Mem} {m : Mem},l.Pairwise (fun a b => a.2 < b.2) -> m ∈ l -> hasM m.2 l = some m
 | x :: l,m,hp,hm => by
  rw [List.pairwise_cons] at hp
  rw [hasM]
  rcases List.mem_cons.1 hm with rfl | hm
  ·rw [if_pos rfl]
  ·rw [if_neg (by have:=hp.1 m hm; omega)]
   exact hasM_mem hp.2 hm
def okD (d : De) : De × Int:=if isD d = true then (d,0) else (De.zero,60)
def addD (d : De) (n : Int) : De × Int :=
 if isD d = true then
  if nodeB n = true then
   if (onM n d.ms).isSome = true then (De.zero,8)
   else if d.ms.length = 5 then (De.zero,6)
   else okD { d with ms:=d.ms ++ [(n,d.next)],next:=d.next + 1,gen:=d.gen + 1 }
  else (De.zero,2)
 else (De.zero,60)
def dropM (i : Int) (l : List Mem) : List Mem:=l.filter fun m => decide (m.2 ≠ i)
def removeD (d : De) (i : Int) : De × Int :=
 if isD d = true then
  if (hasM i d.ms).isSome = true then
   if d.ms.length = 1 then (De.zero,2) else okD { d with ms:=dropM i d.ms,gen:=d.gen + 1 }
  else (De.zero,7)
 else (De.zero,60)
def sameD (a b : De) : Bool:=decide (a.id = b.id /\ a.f = b.f /\ a.t = b.t /\ a.gen = b.gen /\ a.next = b.next /\ a.ms = b.ms)
theorem sameD_iff (a b : De) : sameD a b = true ↔ a = b:=by
 unfold sameD
 obtain ⟨a1,a2,a3,a4,a5,a6⟩:=a
 obtain ⟨b1,b2,b3,b4,b5,b6⟩:=b
 rw [decide_eq_true_eq]
 constructor
 ·rintro ⟨h1,h2,h3,h4,h5,h6⟩
  simp only at h1 h2 h3 h4 h5 h6
  subst h1 h2 h3 h4 h5 h6
  rfl
 ·intro h
  injection h with h1 h2 h3 h4 h5 h6
  exact ⟨h1,h2,h3,h4,h6,h5⟩
theorem sameD_self (a : De) : sameD a a = true:=(sameD_iff a a).2 rfl
def memT (m : Mem) : List Text:=[numT m.1,numT m.2]
def memsT (l : List Mem) : List Text:=(l.map memT).flatten
def strandsT (d : De) : List Text:=[numT d.id,d.f.toList,d.t.toList,numT d.gen,numT d.next] ++ memsT d.ms
def putT (d : De) : Text:=tieT (strandsT d)
theorem memsT_cons (m : Mem) (l : List Mem) : memsT (m :: l) = numT m.1 :: numT m.2 :: memsT l:=rfl
theorem memsT_length : ∀ l : List Mem,(memsT l).length = l.length * 2
 | [] => rfl
 | m :: l => by rw [memsT_cons]; simp [memsT_length l]; omega
def intsOf : List Text -> Option (List Int)
 | [] => some []
 | x :: l => match intT x,intsOf l with
  | some n,some r => some (n :: r)
  | _,_ => none
theorem intsOf_none {x : Text} {l : List Text} (h : intT x = none) : intsOf (x :: l) = none:=by rw [intsOf,h]
theorem intsOf_none' {x : Text} {l : List Text} (h : intsOf l = none) : intsOf (x :: l) = none:=by rw [intsOf,h]; cases intT x <;> rfl
theorem intsOf_snoc : ∀ {a : List Text} {x : Text},intsOf (a ++ [x]) = (match intsOf a,intT x with | some r,some n => some (r ++ [n]) | _,_ => none)
 | [],x => by cases h : intT x <;> simp [intsOf,h]
 | y :: a,x => by
  rw [List.cons_append,intsOf,intsOf_snoc (a:=a) (x:=x),intsOf]
  cases intT y <;> cases intsOf a <;> cases intT x <;> simp
theorem intsOf_length : ∀ {a : List Text} {r : List Int},intsOf a = some r -> r.length = a.length
 | [],r,h => by simp [intsOf] at h; simp [<- h]
 | y :: a,r,h => by
  rw [intsOf] at h
  cases h1 : intT y with
  | none => rw [h1] at h; simp at h
  | some n =>
   cases h2 : intsOf a with
   | none => rw [h1,h2] at h; simp at h
   | some q => rw [h1,h2] at h; simp at h; rw [<- h]; simp [intsOf_length h2]
theorem intsOf_bad {a b : List Text} {x : Text} (h : intT x = none) : intsOf (a ++ x :: b) = none:=by
 induction a with
 | nil => exact intsOf_none h
 | cons y a ih => rw [List.cons_append]; exact intsOf_none' ih
def pairsI : List Int -> Option (List Mem)
 | [] => some []
 | [_] => none
 | a :: b :: l => if nodeB a = true then (match pairsI l with | some r => some ((a,b) :: r) | none => none) else none
def parseL : List Text -> Option De
 | a :: f :: t :: g :: n :: tl =>
  match intT a,intT g,intT n,intsOf tl with
  | some a,some g,some n,some q => (match pairsI q with | some ms => some ⟨a,⟨f.toArray⟩,⟨t.toArray⟩,g,ms,n⟩ | none => none)
  | _,_,_,_ => none
 | _ => none
noncomputable def parseD (s : Text) : De × Int:=match untieT s with
 | some l => (match parseL l with | some d => okD d | none => (De.zero,60))
 | none => (De.zero,60)
theorem pairsI_odd : ∀ (l : List Int),l.length % 2 = 1 -> pairsI l = none
 | [],h => by simp at h
 | [_],_ => rfl
 | a :: b :: l,h => by
  rw [pairsI,pairsI_odd l (by simp at h; omega)]
  simp
theorem pairsI_length : ∀ {l : List Int} {r : List Mem},pairsI l = some r -> l.length = r.length * 2
 | [],r,h => by simp [pairsI] at h; simp [h]
 | [_],r,h => by simp [pairsI] at h
 | a :: b :: l,r,h => by
  rw [pairsI] at h
  by_cases hn : nodeB a = true
  ·rw [if_pos hn] at h
   cases h1 : pairsI l with
   | none => rw [h1] at h; simp at h
   | some q => rw [h1] at h; simp at h; rw [<- h]; simp [pairsI_length h1]; omega
  ·rw [if_neg hn] at h; simp at h
theorem parseL_few {l : List Text} (h : l.length < 7) : ∀ d,parseL l = some d -> isD d = false:=by
 intro d hd
 rcases l with _ | ⟨a,_ | ⟨f,_ | ⟨t,_ | ⟨g,_ | ⟨n,tl⟩⟩⟩⟩⟩
 all_goals try (simp [parseL] at hd; done)
 rw [parseL] at hd
 cases h1 : intT a with
 | none => rw [h1] at hd; simp at hd
 | some a' =>
  cases h2 : intT g with
  | none => rw [h1,h2] at hd; simp at hd
  | some g' =>
   cases h3 : intT n with
   | none => rw [h1,h2,h3] at hd; simp at hd
   | some n' =>
    cases h4 : intsOf tl with
    | none => rw [h1,h2,h3,h4] at hd; simp at hd
    | some q =>
     cases h5 : pairsI q with
     | none => rw [h1,h2,h3,h4] at hd; simp [h5] at hd
     | some ms =>
      rw [h1,h2,h3,h4] at hd; simp [h5] at hd
      cases hI : isD d with
      | false => rfl
      | true =>
       have h6:=(isD_iff d).1 hI
       have h7:=pairsI_length h5
       have h8:=intsOf_length h4
       rw [<- hd] at h6
       simp at h6 h
       omega
structure InR (d : De) : Prop where
 id : inR d.id
 gen : inR d.gen
 next : inR d.next
 ms : ∀ m ∈ d.ms,inR m.1 /\ inR m.2
theorem okD_is {d : De} (h : isD d = true) : okD d = (d,0):=if_pos h
theorem okD_no {d : De} (h : ¬ isD d = true) : okD d = (De.zero,60):=if_neg h
theorem okD_spec {d x : De} (h : okD d = (x,0)) : isD d = true /\ x = d:=by
 unfold okD at h
 by_cases hI : isD d = true
 ·rw [if_pos hI] at h; exact ⟨hI,(Prod.ext_iff.1 h).1.symm⟩
 ·rw [if_neg hI] at h; have:=(Prod.ext_iff.1 h).2; simp at this
end Go.Proofs.YthcmnkmfhgoddaaGreatDoor.Ds

namespace Go.Proofs.YthcmnkmfhgoddaaGreatDoor.Ds
open Go.Proofs.YthcmnkmfhgoddaaGreatDoor.O (Bd isB keyB hasB)
theorem okD_cases (d : De) : (isD d = true /\ okD d = (d,0)) \/ okD d = (De.zero,60):=by
 by_cases h : isD d = true
 ·exact .inl ⟨h,okD_is h⟩
 ·exact .inr (okD_no h)
theorem isD_parts {d : De} (h : isD d = true) : (∀ m ∈ d.ms,nodeB m.1 = true /\ 0 < m.2 /\ m.2 < d.next) /\ d.ms.Pairwise (fun a b => a.2 < b.2) /\ (d.ms.map (·.1)).Nodup:=by
 obtain ⟨h1,h2,h3⟩:=(mayGo_iff _ _ _ _).1 ((isD_iff d).1 h).2.2.2.2.2
 exact ⟨fun m hm => ⟨(h1 m hm).1,(h1 m hm).2.2.1,(h1 m hm).2.2.2⟩,h2,h3⟩
theorem kept {d : De} (h : isD d = true) {m : Mem} (hm : m ∈ d.ms) : hasM m.2 d.ms = some m:=hasM_mem (isD_parts h).2.1 hm
end Go.Proofs.YthcmnkmfhgoddaaGreatDoor.Ds
