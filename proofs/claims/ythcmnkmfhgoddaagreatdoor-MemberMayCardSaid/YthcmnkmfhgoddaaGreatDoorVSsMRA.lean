/-
  THE PLAIN MATHEMATICS OF PACKAGE session,of no program: sessions,whether they may be,how they are found,noted and merged,their texts and back. No condition.
  Slices of sessions,as a walk finds them; rows of sessions that the call owns; how lists of sessions come in. No condition.
-/
import Derived.Test.YthcmnkmfhgoddaaGreatDoorVOdA
import Derived.Test.YthcmnkmfhgoddaaGreatDoorVOdPaA
namespace Go.Proofs.YthcmnkmfhgoddaaGreatDoor.Ss
open Go.Proofs.YthcmnkmfhgoddaaGreatDoor.Od (Rep isR putR seqB amongB num0)
open Go.Proofs.YthcmnkmfhgoddaaGreatDoor.M (tieT untieT untie_some untie_spec numT intT inR tieT_inj)
abbrev Text:=List UInt8
structure Ses where
 client : Int
 seq : Int
 rep : Rep
abbrev Ses.zero : Ses:=⟨0,0,Od.Rep.zero⟩
def keptB (r : Rep) : Bool:=isR r && decide (r.val.size <= 512) && decide (r.ps.length = 0)
def fitsB (s : Ses) : Bool:=seqB s.client && seqB s.seq && keptB s.rep
def riseB : Int -> List Ses -> Bool
 | _,[] => true
 | last,s :: l => if last < s.client /\ fitsB s = true then riseB s.client l else false
def isS (l : List Ses) : Bool:=decide (l.length <= 64) && riseB 0 l
def chkS (l : List Ses) : Int:=if isS l = true then 0 else 80
theorem fits_client {s : Ses} (h : fitsB s = true) : 1 <= s.client /\ s.client <= 1099511627776:=by
 unfold fitsB seqB amongB at h
 simp only [Bool.and_eq_true,decide_eq_true_eq] at h
 exact h.1.1
theorem fits_ps {s : Ses} (h : fitsB s = true) : s.rep.ps = []:=by
 unfold fitsB keptB at h
 simp only [Bool.and_eq_true,decide_eq_true_eq] at h
 exact List.length_eq_zero_iff.1 h.2.2
theorem rise_cons {last : Int} {s : Ses} {l : List Ses} : riseB last (s :: l) = true ↔ last < s.client /\ fitsB s = true /\ riseB s.client l = true:=by
 rw [riseB]
 by_cases h : last < s.client /\ fitsB s = true
 ·rw [if_pos h]; exact ⟨fun g => ⟨h.1,h.2,g⟩,fun g => g.2.2⟩
 ·rw [if_neg h]; exact ⟨fun g => (by cases g),fun g => absurd ⟨g.1,g.2.1⟩ h⟩
theorem rise_mem : ∀ {l : List Ses} {a : Int},riseB a l = true -> ∀ s ∈ l,a < s.client /\ fitsB s = true
 | s :: l,a,g,x,hx => by
  rw [rise_cons] at g
  rcases List.mem_cons.1 hx with rfl | hx
  ·exact ⟨g.1,g.2.1⟩
  ·have:=rise_mem g.2.2 x hx
   exact ⟨by omega,this.2⟩
theorem isS_iff (l : List Ses) : isS l = true ↔ l.length <= 64 /\ riseB 0 l = true:=by simp [isS]
def findS (c : Int) : List Ses -> Option Ses
 | [] => none
 | s :: l => if s.client = c then some s else findS c l
theorem findS_cons (c : Int) (x : Ses) (l : List Ses) : findS c (x :: l) = if x.client = c then some x else findS c l:=rfl
theorem findS_some {c : Int} : ∀ {l : List Ses} {s : Ses},findS c l = some s -> s ∈ l /\ s.client = c
 | x :: l,s,h => by
  rw [findS] at h
  by_cases e : x.client = c
  ·rw [if_pos e] at h; obtain rfl:=Option.some.inj h; exact ⟨by simp,e⟩
  ·rw [if_neg e] at h; have:=findS_some h; exact ⟨by simp [this.1],this.2⟩
theorem findS_none {c : Int} : ∀ {l : List Ses},findS c l = none ↔ ∀ s ∈ l,s.client ≠ c
 | [] => by simp [findS]
 | x :: l => by
  rw [findS]
  by_cases e : x.client = c
  ·rw [if_pos e]; simp [e]
  ·rw [if_neg e,findS_none (l:=l)]; simp [e]
theorem findS_mem : ∀ {l : List Ses} {a : Int} {s : Ses},riseB a l = true -> s ∈ l -> findS s.client l = some s
 | x :: l,a,s,h,hm => by
  rw [rise_cons] at h
  rw [findS]
  rcases List.mem_cons.1 hm with rfl | hm
  ·rw [if_pos rfl]
  ·rw [if_neg (by have:=(rise_mem h.2.2 s hm).1; omega)]
   exact findS_mem h.2.2 hm
def askS (l : List Ses) (c q : Int) : Rep × Bool:=match findS c l with
 | none => (Od.Rep.zero,false)
 | some s => if s.seq < q then (Od.Rep.zero,false) else if s.seq = q then (s.rep,true) else (⟨3,0,false,Od.E0,[]⟩,true)
def laterG {α : Type} (f : α -> Ses) (a b : α) : α:=if (f a).seq < (f b).seq then b else a
def bothG {α : Type} (f : α -> Ses) : List α -> List α -> List α
 | [],b => b
 | a,[] => a
 | x :: a,y :: b => if (f x).client < (f y).client then x :: bothG f a (y :: b) else if (f y).client < (f x).client then y :: bothG f (x :: a) b else laterG f x y :: bothG f a b
termination_by a b => a.length + b.length
theorem bothG_nil {α : Type} (f : α -> Ses) (b : List α) : bothG f [] b = b:=by rw [bothG]
theorem bothG_end {α : Type} (f : α -> Ses) (a : List α) : bothG f a [] = a:=by cases a <;> simp [bothG]
theorem bothG_cons {α : Type} (f : α -> Ses) (x y : α) (a b : List α) : bothG f (x :: a) (y :: b) = if (f x).client < (f y).client then x :: bothG f a (y :: b) else if (f y).client < (f x).client then y :: bothG f (x :: a) b else laterG f x y :: bothG f a b:=by rw [bothG]
theorem bothG_map {α β : Type} (f : α -> Ses) (g : β -> Ses) (u : α -> β) (hu : ∀ x,g (u x) = f x) : ∀ (n : Nat) (a b : List α),a.length + b.length <= n -> (bothG f a b).map u = bothG g (a.map u) (b.map u)
 | n,[],b,_ => by rw [List.map_nil,bothG_nil,bothG_nil]
 | n,x :: a,[],_ => by rw [List.map_nil,bothG_end,bothG_end]
 | 0,x :: a,y :: b,h => by simp at h
 | n + 1,x :: a,y :: b,h => by
  simp only [List.length_cons] at h
  rw [List.map_cons,List.map_cons,bothG_cons,bothG_cons,hu,hu]
  by_cases h1 : (f x).client < (f y).client
  ·rw [if_pos h1,if_pos h1,List.map_cons,bothG_map f g u hu n a (y :: b) (by simp; omega),List.map_cons]
  ·rw [if_neg h1,if_neg h1]
   by_cases h2 : (f y).client < (f x).client
   ·rw [if_pos h2,if_pos h2,List.map_cons,bothG_map f g u hu n (x :: a) b (by simp; omega),List.map_cons]
   ·rw [if_neg h2,if_neg h2,List.map_cons,bothG_map f g u hu n a b (by omega)]
    congr 1
    unfold laterG
    rw [hu,hu]
    split <;> rfl
theorem bothG_length {α : Type} (f : α -> Ses) : ∀ (n : Nat) (a b : List α),a.length + b.length <= n -> (bothG f a b).length <= a.length + b.length
 | n,[],b,_ => by rw [bothG_nil]; simp
 | n,x :: a,[],_ => by rw [bothG_end]; simp
 | 0,x :: a,y :: b,h => by simp at h
 | n + 1,x :: a,y :: b,h => by
  simp only [List.length_cons] at h ⊢
  rw [bothG_cons]
  have h1:=bothG_length f n a (y :: b) (by simp; omega)
  have h2:=bothG_length f n (x :: a) b (by simp; omega)
  have h3:=bothG_length f n a b (by omega)
  simp only [List.length_cons] at h1 h2 h3
  split
  ·simp only [List.length_cons]; omega
  ·split
   ·simp only [List.length_cons]; omega
   ·simp only [List.length_cons]; omega
theorem bothG_mem {α : Type} (f : α -> Ses) : ∀ (n : Nat) (a b : List α),a.length + b.length <= n -> ∀ x ∈ bothG f a b,x ∈ a \/ x ∈ b
 | n,[],b,_,x,hx => by rw [bothG_nil] at hx; exact .inr hx
 | n,y :: a,[],_,x,hx => by rw [bothG_end] at hx; exact .inl hx
 | 0,y :: a,z :: b,h,x,hx => by simp at h
 | n + 1,y :: a,z :: b,h,x,hx => by
  simp only [List.length_cons] at h
  rw [bothG_cons] at hx
  split at hx
  ·rcases List.mem_cons.1 hx with rfl | hx
   ·exact .inl (by simp)
   ·rcases bothG_mem f n a (z :: b) (by simp; omega) x hx with h | h
    ·exact .inl (by simp [h])
    ·exact .inr h
  ·split at hx
   ·rcases List.mem_cons.1 hx with rfl | hx
    ·exact .inr (by simp)
    ·rcases bothG_mem f n (y :: a) b (by simp; omega) x hx with h | h
     ·exact .inl h
     ·exact .inr (by simp [h])
   ·rcases List.mem_cons.1 hx with rfl | hx
    ·unfold laterG; split
     ·exact .inr (by simp)
     ·exact .inl (by simp)
    ·rcases bothG_mem f n a b (by omega) x hx with h | h
     ·exact .inl (by simp [h])
     ·exact .inr (by simp [h])
def bothS (a b : List Ses) : List Ses:=bothG (fun s => s) a b
def later2 (x y : Ses) : Ses:=if x.seq < y.seq then y else x
theorem bothS_nil (b : List Ses) : bothS [] b = b:=bothG_nil _ b
theorem bothS_end (a : List Ses) : bothS a [] = a:=bothG_end _ a
theorem bothS_cons (x y : Ses) (a b : List Ses) : bothS (x :: a) (y :: b) = if x.client < y.client then x :: bothS a (y :: b) else if y.client < x.client then y :: bothS (x :: a) b else later2 x y :: bothS a b:=bothG_cons _ x y a b
def mergeS (a b : List Ses) : List Ses × Int:=if (bothS a b).length <= 64 then (bothS a b,0) else ([],6)
def noteS (l : List Ses) (s : Ses) : List Ses × Int:=if isS [s] = true then mergeS [s] l else ([],80)
def setS (s : Ses) (over : Bool) : List Ses -> List Ses
 | [] => [s]
 | x :: l => if x.client < s.client then x :: setS s over l else if x.client = s.client then (if x.seq > s.seq \/ (x.seq = s.seq /\ over = false) then x :: l else s :: l) else s :: x :: l
theorem set_true (s : Ses) : ∀ l : List Ses,setS s true l = bothS [s] l
 | [] => by rw [setS,bothS_end]
 | x :: l => by
  rw [setS,bothS_cons]
  by_cases h1 : x.client < s.client
  ·have e1 : ¬ s.client < x.client:=by omega
   rw [if_pos h1,if_neg e1,if_pos h1,set_true s l]
  ·rw [if_neg h1]
   by_cases h2 : x.client = s.client
   ·have e1 : ¬ s.client < x.client:=by omega
    rw [if_pos h2,if_neg e1,if_neg h1,bothS_nil]
    unfold later2
    by_cases h3 : s.seq < x.seq
    ·have e3 : x.seq > s.seq \/ x.seq = s.seq /\ true = false:=.inl h3
     rw [if_pos e3,if_pos h3]
    ·have e3 : ¬ (x.seq > s.seq \/ x.seq = s.seq /\ true = false):=by
      rintro (h | ⟨_,h⟩)
      ·omega
      ·cases h
     rw [if_neg e3,if_neg h3]
   ·have e1 : s.client < x.client:=by omega
    rw [if_neg h2,if_pos e1,bothS_nil]
def sesT (s : Ses) : List Text:=[numT s.client,numT s.seq,putR s.rep]
def strandsS (l : List Ses) : List Text:=(l.map sesT).flatten
def putS (l : List Ses) : Text:=tieT (strandsS l)
end Go.Proofs.YthcmnkmfhgoddaaGreatDoor.Ss

namespace Go.Proofs.YthcmnkmfhgoddaaGreatDoor.Ss
open Go.RowKit
open Go.Proofs.YthcmnkmfhgoddaaGreatDoor.Od (Rep SP OwnP ArgP)
abbrev Zs:=Ses × Value
abbrev ses (zs : List Zs) : List Ses:=zs.map (·.1)
abbrev sv (z : Zs) : Value:=.agg #[.int .i64 z.1.client,.int .i64 z.1.seq,.int .i64 z.1.rep.code,.int .i64 z.1.rep.err,.bool z.1.rep.has,.string z.1.rep.val,z.2]
def Cs (w : World) (b o : Nat) (z : Zs) : Prop:=w.cell? ⟨b,o,none⟩ = some (.int .i64 z.1.client) /\ w.cell? ⟨b,o + 1,none⟩ = some (.int .i64 z.1.seq) /\ w.cell? ⟨b,o + 2,none⟩ = some (.int .i64 z.1.rep.code) /\ w.cell? ⟨b,o + 3,none⟩ = some (.int .i64 z.1.rep.err) /\ w.cell? ⟨b,o + 4,none⟩ = some (.bool z.1.rep.has) /\ w.cell? ⟨b,o + 5,none⟩ = some (.string z.1.rep.val) /\ w.cell? ⟨b,o + 6,none⟩ = some (z.2)
theorem Cs.keep {w w' : World} {b o : Nat} {z : Zs} (h : Cs w b o z) (hk : ∀ i,w'.cell? ⟨b,i,none⟩ = w.cell? ⟨b,i,none⟩) : Cs w' b o z:=by
 obtain ⟨h0,h1,h2,h3,h4,h5,h6⟩:=h
 unfold Cs
 rw [hk,hk,hk,hk,hk,hk,hk]
 exact ⟨h0,h1,h2,h3,h4,h5,h6⟩
def SZ (w : World) (N : Nat) (v : Value) (zs : List Zs) : Prop :=
 ∃ (A : Option Addr) (c : Nat),v = .slice A zs.length c /\ (0 < zs.length -> ∃ b o : Nat,A = some ⟨b,o,none⟩ /\ b < N /\ ∀ i (h : i < zs.length),Cs w b (o + i * 7) zs[i])
def PZ (w : World) (N : Nat) (zs : List Zs) : Prop:=∀ z ∈ zs,SP w N z.2 z.1.rep.ps
theorem SZ.nil (w : World) (N : Nat) : SZ w N (.slice none 0 0) []:=⟨none,0,rfl,fun h => absurd h (by simp)⟩
theorem SZ.keep {w w' : World} {N : Nat} {v : Value} {zs : List Zs} (h : SZ w N v zs) (hk : ∀ p : Addr,p.block < N -> w'.cell? p = w.cell? p) : SZ w' N v zs:=by
 obtain ⟨A,c,hv,h⟩:=h
 refine ⟨A,c,hv,fun h0 => ?_⟩
 obtain ⟨b,o,e,hb,hc⟩:=h h0
 exact ⟨b,o,e,hb,fun i hi => (hc i hi).keep fun j => hk ⟨b,j,none⟩ hb⟩
theorem SZ.below {w w' : World} {N : Nat} {v : Value} {zs : List Zs} (h : SZ w N v zs) (hb : Below N w w') : SZ w' N v zs:=h.keep fun _ hp => hb.cell hp
theorem SZ.more {w : World} {N N' : Nat} {v : Value} {zs : List Zs} (h : SZ w N v zs) (hB : N <= N') : SZ w N' v zs:=by
 obtain ⟨A,c,hv,h⟩:=h
 refine ⟨A,c,hv,fun h0 => ?_⟩
 obtain ⟨b,o,e,hb,hc⟩:=h h0
 exact ⟨b,o,e,by omega,hc⟩
theorem SZ.at_ {w : World} {N k : Nat} {A : Option Addr} {n c : Nat} {zs : List Zs} (h : SZ w N (.slice A n c) zs) (hk : k < zs.length) :
  ∃ b o : Nat,A = some ⟨b,o,none⟩ /\ b < N /\ Cs w b (o + k * 7) zs[k]:=by
 obtain ⟨A',c',hv,h⟩:=h
 injection hv with h1 h2 h3
 subst h1
 obtain ⟨b,o,e,hb,hc⟩:=h (by omega)
 exact ⟨b,o,e,hb,hc k hk⟩
theorem SZ.form {w : World} {N : Nat} {v : Value} {zs : List Zs} (h : SZ w N v zs) : ∃ A c,v = .slice A zs.length c:=by
 obtain ⟨A,c,hv,_⟩:=h; exact ⟨A,c,hv⟩
theorem PZ.below {w w' : World} {N : Nat} {zs : List Zs} (h : PZ w N zs) (hb : Below N w w') : PZ w' N zs:=fun z hz => (h z hz).below hb
theorem PZ.more {w : World} {N N' : Nat} {zs : List Zs} (h : PZ w N zs) (hB : N <= N') : PZ w N' zs:=fun z hz => (h z hz).more hB
theorem PZ.nil (w : World) (N : Nat) : PZ w N []:=fun z hz => by cases hz
theorem PZ.app {w : World} {N : Nat} {a b : List Zs} (h : PZ w N a) (h' : PZ w N b) : PZ w N (a ++ b):=fun z hz => by
 rcases List.mem_append.1 hz with hz | hz
 ·exact h z hz
 ·exact h' z hz
theorem PZ.take {w : World} {N k : Nat} {a : List Zs} (h : PZ w N a) : PZ w N (a.take k):=fun z hz => h z (List.mem_of_mem_take hz)
def NoP (zs : List Zs) : Prop:=∀ z ∈ zs,z.1.rep.ps = [] /\ ∃ A c,z.2 = .slice A 0 c
theorem NoP.pz {zs : List Zs} (h : NoP zs) (w : World) (N : Nat) : PZ w N zs:=fun z hz => by
 obtain ⟨h1,A,c,h2⟩:=h z hz
 rw [h1]
 exact ⟨A,c,h2,fun h => absurd h (by simp)⟩
theorem PZ.nop {w : World} {N : Nat} {zs : List Zs} (h : PZ w N zs) (h0 : ∀ s ∈ ses zs,s.rep.ps = []) : NoP zs:=fun z hz => by
 have e:=h0 z.1 (List.mem_map.2 ⟨z,hz,rfl⟩)
 obtain ⟨A,c,hv⟩:=(h z hz).form
 rw [e] at hv
 exact ⟨e,A,c,hv⟩
def zcells : List Zs -> List Value
 | [] => []
 | z :: l => .int .i64 z.1.client :: .int .i64 z.1.seq :: .int .i64 z.1.rep.code :: .int .i64 z.1.rep.err :: .bool z.1.rep.has :: .string z.1.rep.val :: z.2 :: zcells l
theorem zcells_length : ∀ l : List Zs,(zcells l).length = l.length * 7
 | [] => rfl
 | z :: l => by simp [zcells,zcells_length l]; omega
theorem zcells_append : ∀ a b : List Zs,zcells (a ++ b) = zcells a ++ zcells b
 | [],_ => rfl
 | z :: a,b => by simp [zcells,zcells_append a b]
theorem zcells_get : ∀ (l : List Zs) (i : Nat) (h : i < l.length),(zcells l)[i * 7]? = some (.int .i64 l[i].1.client) /\ (zcells l)[i * 7 + 1]? = some (.int .i64 l[i].1.seq) /\ (zcells l)[i * 7 + 2]? = some (.int .i64 l[i].1.rep.code) /\ (zcells l)[i * 7 + 3]? = some (.int .i64 l[i].1.rep.err) /\ (zcells l)[i * 7 + 4]? = some (.bool l[i].1.rep.has) /\ (zcells l)[i * 7 + 5]? = some (.string l[i].1.rep.val) /\ (zcells l)[i * 7 + 6]? = some (l[i].2)
 | z :: l,0,_ => ⟨rfl,rfl,rfl,rfl,rfl,rfl,rfl⟩
 | z :: l,i + 1,h => by
  have:=zcells_get l i (by simpa using h)
  have e : (i + 1) * 7 = i * 7 + 7:=by omega
  rw [e]
  exact this
theorem zcells_one : ∀ (l : List Zs),(∀ z ∈ l,z.2.oneCell' = true) -> ∀ u ∈ zcells l,u.oneCell' = true
 | z :: l,h0,u,h => by
  simp only [zcells,List.mem_cons] at h
  rcases h with rfl | rfl | rfl | rfl | rfl | rfl | rfl | h
  ·rfl
  ·rfl
  ·rfl
  ·rfl
  ·rfl
  ·rfl
  ·exact h0 z (by simp)
  ·exact zcells_one l (fun z hz => h0 z (by simp [hz])) u h
theorem PZ.one {w : World} {N : Nat} {zs : List Zs} (h : PZ w N zs) : ∀ z ∈ zs,z.2.oneCell' = true:=fun z hz => by
 obtain ⟨A,c,e⟩:=(h z hz).form
 rw [e]; rfl
theorem news_of {w : World} {ad : Addr} {N c : Nat} {zs : List Zs} (h : SZ w N (.slice (some ad) zs.length c) zs) : ∀ j u,(zcells zs)[j]? = some u -> w.cell? (ad.add j) = some u:=by
 intro j u hj
 have hl : j < (zcells zs).length:=(List.getElem?_eq_some_iff.1 hj).1
 rw [zcells_length] at hl
 have hi : j / 7 < zs.length:=by omega
 obtain ⟨b,o,e,_,c0,c1,c2,c3,c4,c5,c6⟩:=h.at_ hi
 obtain rfl:=Option.some.inj e
 obtain ⟨g0,g1,g2,g3,g4,g5,g6⟩:=zcells_get zs (j / 7) hi
 rw [Addr.add_lit]
 have hm : j % 7 = 0 \/ j % 7 = 1 \/ j % 7 = 2 \/ j % 7 = 3 \/ j % 7 = 4 \/ j % 7 = 5 \/ j % 7 = 6:=by omega
 rcases hm with hm | hm | hm | hm | hm | hm | hm
 ·have ej : j = j / 7 * 7:=by omega
  have eo : o + j = o + j / 7 * 7:=by omega
  rw [eo,c0,<- g0,<- ej]
  exact hj
 ·have ej : j = j / 7 * 7 + 1:=by omega
  have eo : o + j = o + j / 7 * 7 + 1:=by omega
  rw [eo,c1,<- g1,<- ej]
  exact hj
 ·have ej : j = j / 7 * 7 + 2:=by omega
  have eo : o + j = o + j / 7 * 7 + 2:=by omega
  rw [eo,c2,<- g2,<- ej]
  exact hj
 ·have ej : j = j / 7 * 7 + 3:=by omega
  have eo : o + j = o + j / 7 * 7 + 3:=by omega
  rw [eo,c3,<- g3,<- ej]
  exact hj
 ·have ej : j = j / 7 * 7 + 4:=by omega
  have eo : o + j = o + j / 7 * 7 + 4:=by omega
  rw [eo,c4,<- g4,<- ej]
  exact hj
 ·have ej : j = j / 7 * 7 + 5:=by omega
  have eo : o + j = o + j / 7 * 7 + 5:=by omega
  rw [eo,c5,<- g5,<- ej]
  exact hj
 ·have ej : j = j / 7 * 7 + 6:=by omega
  have eo : o + j = o + j / 7 * 7 + 6:=by omega
  rw [eo,c6,<- g6,<- ej]
  exact hj
abbrev OwnZ (w : World) (base : Nat) (v : Value) (zs : List Zs) : Prop:=w.ownsRow base 89 7 v zs.length (zcells zs)
theorem SZ.of_own {w : World} {base : Nat} {v : Value} {zs : List Zs} (h : OwnZ w base v zs) : SZ w w.heap.size v zs:=by
 rcases h.2 with ⟨rfl,h0⟩ | ⟨g,cap,cur,rfl,_,hh,_⟩
 ·have : zs = []:=List.length_eq_zero_iff.1 h0
  subst this
  exact SZ.nil w _
 ·refine ⟨_,_,rfl,fun h0 => ⟨g,0,rfl,?_,fun i hi => ?_⟩⟩
  ·exact (Array.getElem?_eq_some_iff.1 hh).1
  ·obtain ⟨g0,g1,g2,g3,g4,g5,g6⟩:=zcells_get zs i hi
   have e0:=h.cells (g:=g) rfl (i * 7) _ g0
   have e1:=h.cells (g:=g) rfl (i * 7 + 1) _ g1
   have e2:=h.cells (g:=g) rfl (i * 7 + 2) _ g2
   have e3:=h.cells (g:=g) rfl (i * 7 + 3) _ g3
   have e4:=h.cells (g:=g) rfl (i * 7 + 4) _ g4
   have e5:=h.cells (g:=g) rfl (i * 7 + 5) _ g5
   have e6:=h.cells (g:=g) rfl (i * 7 + 6) _ g6
   rw [Addr.add_lit] at e0 e1 e2 e3 e4 e5 e6
   exact ⟨e0,e1,e2,e3,e4,e5,e6⟩
theorem ownZ_keep {w w' : World} {base : Nat} {v : Value} {zs : List Zs} (h : OwnZ w base v zs) (hb : Below w.heap.size w w') : OwnZ w' base v zs :=
 h.kept (row:=none) ⟨hb.os,hb.tape,hb.output,hb.size,fun k hk _ => hb.block k hk⟩ (Classical.em _)
theorem ownZ_base {w : World} {base base' : Nat} {v : Value} {zs : List Zs} (h : OwnZ w base v zs) (hb : base' <= base) : OwnZ w base' v zs:=by
 refine ⟨h.1,?_⟩
 rcases h.2 with hn | ⟨g,cap,cur,e,h1,rest⟩
 ·exact .inl hn
 ·exact .inr ⟨g,cap,cur,e,Nat.le_trans hb h1,rest⟩
theorem ownZ_set {w : World} {base : Nat} {v : Value} {zs : List Zs} (h : OwnZ w base v zs) {a : Addr} (ha : a.block < base) (u : Value) : OwnZ (w.setCell a u) base v zs:=ownsRow_setCell_below h ha u
theorem ownZ_alloc {w : World} {base : Nat} {v : Value} {zs : List Zs} (h : OwnZ w base v zs) (o : Obj) : OwnZ (w.alloc o) base v zs:=ownZ_keep h ((Below.refl _ w).alloc (Nat.le_refl _) o)
theorem infoZ : (Tryz.prog.info? 89).map (fun i => (i.zero,i.size,i.bytes)) = some (some (.agg #[.int .i64 0,.int .i64 0,.int .i64 0,.int .i64 0,.bool false,.string Od.E0,.slice none 0 0]),7,80):=by kernel_rfl
theorem ownZ_empty (w : World) : OwnZ (w.alloc (.cells #[] 89)) w.heap.size (.slice (some ⟨w.heap.size,0,none⟩) 0 0) [] :=
 ⟨rfl,.inr ⟨w.heap.size,0,#[],rfl,Nat.le_refl _,heap_alloc_new w _,Nat.le_refl _,by unfold maxLen; omega,rfl,rfl⟩⟩
inductive ArgZ (w : World) : Value -> List Zs -> Prop
 | nil : ArgZ w (.slice none 0 0) []
 | some (b o : Nat) (c : Nat) (zs : List Zs) (hc : zs.length <= c) (h : SZ w w.heap.size (.slice (some ⟨b,o,none⟩) zs.length c) zs) : ArgZ w (.slice (some ⟨b,o,none⟩) zs.length c) zs
 | empty (a : Addr) (c : Nat) : ArgZ w (.slice (some a) 0 c) []
theorem ArgZ.sz {w : World} {v : Value} {zs : List Zs} (h : ArgZ w v zs) : SZ w w.heap.size v zs:=by
 cases h with
 | nil => exact SZ.nil _ _
 | some b o c zs hc h => exact h
 | empty a c => exact ⟨_,_,rfl,fun h => absurd h (by simp)⟩
theorem ArgZ.keep {w w' : World} {v : Value} {zs : List Zs} (h : ArgZ w v zs) (hb : Below w.heap.size w w') : ArgZ w' v zs:=by
 cases h with
 | nil => exact .nil
 | some b o c zs hc h => exact .some b o c zs hc ((h.below hb).more hb.size)
 | empty a c => exact .empty a c
theorem ArgZ.form {w : World} {v : Value} {zs : List Zs} (h : ArgZ w v zs) : ∃ A c,v = .slice A zs.length c:=h.sz.form
theorem ArgZ.of_own {w : World} {base : Nat} {v : Value} {zs : List Zs} (h : OwnZ w base v zs) : ArgZ w v zs:=by
 have hs:=SZ.of_own h
 rcases h.2 with ⟨rfl,h0⟩ | ⟨g,cap,cur,rfl,hbg,hgb,hnc,_⟩
 ·have : zs = []:=List.length_eq_zero_iff.1 h0
  subst this
  exact .nil
 ·exact .some _ _ _ _ hnc hs
theorem argZ_one (w : World) (z : Zs) : ArgZ (w.alloc (.cells #[.int .i64 z.1.client,.int .i64 z.1.seq,.int .i64 z.1.rep.code,.int .i64 z.1.rep.err,.bool z.1.rep.has,.string z.1.rep.val,z.2] 89)) (.slice (some ⟨w.heap.size,0,none⟩) 1 1) [z]:=by
 refine .some _ _ 1 [z] (Nat.le_refl _) ⟨_,_,rfl,fun _ => ⟨w.heap.size,0,rfl,by simp,fun i hi => ?_⟩⟩
 match i,hi with
 | 0,_ => exact ⟨by simp,by simp,by simp,by simp,by simp,by simp,by simp⟩
theorem run_append_zs {w : World} {base : Nat} {v : Value} {xs : List Zs} (hown : OwnZ w base v xs) (hbase : base <= w.heap.size) {b o' c : Nat} {ys : List Zs} (hn : SZ w w.heap.size (.slice (some ⟨b,o',none⟩) ys.length c) ys) (h1 : ∀ z ∈ ys,z.2.oneCell' = true) (hlen : xs.length + ys.length <= 1000000) :
  ∃ v' w',Sem.run Tryz.prog (Builtin.append_ #[35,35] 35 #[v,.slice (some ⟨b,o',none⟩) ys.length c]) w = Result.ok v' w' /\ OwnZ w' base v' (xs ++ ys) /\ Below base w w' /\ w.grownBy w' v.ownBlock:=by
 obtain ⟨i0,hi,hz0,hz1,hz2⟩:=info_parts infoZ
 obtain ⟨v',w',k1,k2,k3,_⟩:=run_append_own (P:=Tryz.prog) (w:=w) base 35 35 89 i0 (.agg #[.int .i64 0,.int .i64 0,.int .i64 0,.int .i64 0,.bool false,.string Od.E0,.slice none 0 0]) 7 80 Tryz.underlying35 hi hz0 hz1 hz2 rfl (by decide) v xs.length (zcells xs) hown ⟨b,o',none⟩ ys.length c (zcells ys) (zcells_length ys) (news_of hn) (zcells_one ys h1) (by unfold maxLen; omega) (by omega) hbase
 exact ⟨v',w',k1,by show w'.ownsRow _ _ _ _ _ _; rw [List.length_append,zcells_append]; exact k2,(Below.refl _ w).grown k3 hbase (fun k hk => (hown.lt k hk).1),k3⟩
theorem run_append_arg {w : World} {base : Nat} {v : Value} {xs : List Zs} (hown : OwnZ w base v xs) (hbase : base <= w.heap.size) {y : Value} {ys : List Zs} (hy : ArgZ w y ys) (h1 : ∀ z ∈ ys,z.2.oneCell' = true) (hlen : xs.length + ys.length <= 1000000) (ty : TypeId) :
  ∃ v' w',(Builtin.append_ #[35,35] ty #[v,y]).run Tryz.prog w = .ok v' w' /\ OwnZ w' base v' (xs ++ ys) /\ Below base w w' /\ w.grownBy w' v.ownBlock:=by
 obtain ⟨i0,hi,hz0,hz1,hz2⟩:=info_parts infoZ
 cases hy with
 | nil =>
  have hrun:=run_append_owned_none (P:=Tryz.prog) (w:=w) base 35 ty 89 i0 7 Tryz.underlying35 hi v xs.length (zcells xs) hown
  exact ⟨v,w,hrun,by simpa using hown,Below.refl _ w,⟨rfl,rfl,rfl,Nat.le_refl _,fun _ _ _ => rfl⟩⟩
 | some b o c ys hc hn =>
  obtain ⟨v',w',k1,k2,k3,_⟩:=run_append_own (P:=Tryz.prog) (w:=w) base 35 ty 89 i0 (.agg #[.int .i64 0,.int .i64 0,.int .i64 0,.int .i64 0,.bool false,.string Od.E0,.slice none 0 0]) 7 80 Tryz.underlying35 hi hz0 hz1 hz2 rfl (by decide) v xs.length (zcells xs) hown ⟨b,o,none⟩ ys.length c (zcells ys) (zcells_length ys) (news_of hn) (zcells_one ys h1) (by unfold maxLen; omega) (by omega) hbase
  exact ⟨v',w',k1,by show w'.ownsRow _ _ _ _ _ _; rw [List.length_append,zcells_append]; exact k2,(Below.refl _ w).grown k3 hbase (fun k hk => (hown.lt k hk).1),k3⟩
 | empty ad c =>
  obtain ⟨v',w',k1,k2,k3,_⟩:=run_append_own (P:=Tryz.prog) (w:=w) base 35 ty 89 i0 (.agg #[.int .i64 0,.int .i64 0,.int .i64 0,.int .i64 0,.bool false,.string Od.E0,.slice none 0 0]) 7 80 Tryz.underlying35 hi hz0 hz1 hz2 rfl (by decide) v xs.length (zcells xs) hown ad 0 c [] rfl (fun j u h => by simp at h) (fun u h => by simp at h) (by unfold maxLen; simp at hlen; omega) (by simp at hlen; omega) hbase
  exact ⟨v',w',k1,by show w'.ownsRow _ _ _ _ _ _; simpa using k2,(Below.refl _ w).grown k3 hbase (fun k hk => (hown.lt k hk).1),k3⟩
def BoxS (n : Nat) (z : Zs) (w' : World) : Prop:=n < w'.heap.size /\ (w'.cell? ⟨n,0,none⟩ = some (.int .i64 z.1.client) /\ w'.cell? ⟨n,1,none⟩ = some (.int .i64 z.1.seq) /\ w'.cell? ⟨n,2,none⟩ = some (.int .i64 z.1.rep.code) /\ w'.cell? ⟨n,3,none⟩ = some (.int .i64 z.1.rep.err) /\ w'.cell? ⟨n,4,none⟩ = some (.bool z.1.rep.has) /\ w'.cell? ⟨n,5,none⟩ = some (.string z.1.rep.val) /\ w'.cell? ⟨n,6,none⟩ = some (z.2)) /\ ∀ o,w'.frozen? ⟨n,o,none⟩ = false
theorem BoxS.keep {n : Nat} {z : Zs} {w1 w2 : World} (h : BoxS n z w1) (hb : Below w1.heap.size w1 w2) : BoxS n z w2:=by
 obtain ⟨h0,⟨h1,h2,h3,h4,h5,h6,h7⟩,hf⟩:=h
 have hc : ∀ o,w2.cell? ⟨n,o,none⟩ = w1.cell? ⟨n,o,none⟩:=fun o => hb.cell (p:=⟨n,o,none⟩) h0
 refine ⟨Nat.lt_of_lt_of_le h0 hb.size,⟨?_,?_,?_,?_,?_,?_,?_⟩,fun o => (hb.frozen (p:=⟨n,o,none⟩) h0).trans (hf o)⟩
 all_goals rw [hc]; assumption
theorem BoxS.kept {N n : Nat} {z : Zs} {w1 w2 : World} (h : BoxS n z w1) (hn : n < N) (hb : Below N w1 w2) : BoxS n z w2:=by
 obtain ⟨h0,⟨h1,h2,h3,h4,h5,h6,h7⟩,hf⟩:=h
 have hc : ∀ o,w2.cell? ⟨n,o,none⟩ = w1.cell? ⟨n,o,none⟩:=fun o => hb.cell (p:=⟨n,o,none⟩) hn
 refine ⟨Nat.lt_of_lt_of_le h0 hb.size,⟨?_,?_,?_,?_,?_,?_,?_⟩,fun o => (hb.frozen (p:=⟨n,o,none⟩) hn).trans (hf o)⟩
 all_goals rw [hc]; assumption
theorem BoxS.new (w : World) (z : Zs) : BoxS w.heap.size z (w.alloc (.cells #[.int .i64 z.1.client,.int .i64 z.1.seq,.int .i64 z.1.rep.code,.int .i64 z.1.rep.err,.bool z.1.rep.has,.string z.1.rep.val,z.2] 89)) :=
 ⟨by simp,by simp [go_sem],fun o => by simp [go_sem]⟩
theorem BoxS.alloc {n : Nat} {z : Zs} {w1 : World} (h : BoxS n z w1) (x : Obj) : BoxS n z (w1.alloc x):=h.keep ((Below.refl _ w1).alloc (Nat.le_refl _) x)
theorem BoxS.drew {n : Nat} {z : Zs} {w1 : World} (h : BoxS n z w1) : BoxS n z w1.drew:=h
theorem BoxS.other {n : Nat} {z : Zs} {w1 : World} (h : BoxS n z w1) {a : Addr} (ha : a.block ≠ n) (u : Value) : BoxS n z (w1.setCell a u):=by
 obtain ⟨h0,⟨h1,h2,h3,h4,h5,h6,h7⟩,hf⟩:=h
 have hc : ∀ o,(w1.setCell a u).cell? ⟨n,o,none⟩ = w1.cell? ⟨n,o,none⟩:=fun o => World.cell?_setCell_far w1 a _ u ha
 refine ⟨by simpa using h0,⟨?_,?_,?_,?_,?_,?_,?_⟩,fun o => by rw [World.frozen?_setCell]; exact hf o⟩
 all_goals rw [hc]; assumption
def putS7 (w : World) (n : Nat) (z : Zs) : World:=World.setCell (World.setCell (World.setCell (World.setCell (World.setCell (World.setCell (World.setCell (w) ⟨n,0,none⟩ (.int .i64 z.1.client)) ⟨n,1,none⟩ (.int .i64 z.1.seq)) ⟨n,2,none⟩ (.int .i64 z.1.rep.code)) ⟨n,3,none⟩ (.int .i64 z.1.rep.err)) ⟨n,4,none⟩ (.bool z.1.rep.has)) ⟨n,5,none⟩ (.string z.1.rep.val)) ⟨n,6,none⟩ (z.2)
theorem BoxS.put {n : Nat} {z0 : Zs} {w1 : World} (h : BoxS n z0 w1) (z : Zs) : BoxS n z (World.setCell (World.setCell (World.setCell (World.setCell (World.setCell (World.setCell (World.setCell (w1) ⟨n,0,none⟩ (.int .i64 z.1.client)) ⟨n,1,none⟩ (.int .i64 z.1.seq)) ⟨n,2,none⟩ (.int .i64 z.1.rep.code)) ⟨n,3,none⟩ (.int .i64 z.1.rep.err)) ⟨n,4,none⟩ (.bool z.1.rep.has)) ⟨n,5,none⟩ (.string z.1.rep.val)) ⟨n,6,none⟩ (z.2)):=by
 obtain ⟨h0,⟨h1,h2,h3,h4,h5,h6,h7⟩,hf⟩:=h
 refine ⟨by simpa using h0,⟨?_,?_,?_,?_,?_,?_,?_⟩,fun o => by simp [World.frozen?_setCell,hf]⟩
 all_goals simp [go_sem,h1,h2,h3,h4,h5,h6,h7]
theorem putS7_below {w w0 : World} {N n : Nat} {z : Zs} (h : Below N w0 w) (hn : N <= n) : Below N w0 (putS7 w n z) :=
 ((((((h.setCell (p:=⟨n,0,none⟩) hn _).setCell (p:=⟨n,1,none⟩) hn _).setCell (p:=⟨n,2,none⟩) hn _).setCell (p:=⟨n,3,none⟩) hn _).setCell (p:=⟨n,4,none⟩) hn _).setCell (p:=⟨n,5,none⟩) hn _).setCell (p:=⟨n,6,none⟩) hn _
abbrev zeroZ : Zs:=(Ses.zero,.slice none 0 0)
theorem BoxS.zero (w : World) : BoxS w.heap.size zeroZ (w.alloc (.cells #[.int .i64 0,.int .i64 0,.int .i64 0,.int .i64 0,.bool false,.string Od.E0,.slice none 0 0] 89)):=BoxS.new w zeroZ
theorem res_BoxS {fn : Func} {a : Tmp} {tmps : Array Value} {n : Nat} {z : Zs} {w1 : World} (hf : fn.results = #[.cell a 89]) (ht : tmps[a]?.getD undef = .pointer (some ⟨n,0,none⟩)) (h : BoxS n z w1) : (results fn tmps).run Tryz.prog w1 = .ok (sv z) w1:=by
 have h1:=Tryz.isAgg89
 have h2:=Tryz.sizeOf89
 obtain ⟨_,⟨c1,c2,c3,c4,c5,c6,c7⟩,_⟩:=h
 simp [results,hf,go_sem,ht,h1,h2,c1,c2,c3,c4,c5,c6,c7]
theorem res_BoxS_tmp {fn : Func} {a b : Tmp} {tmps : Array Value} {n : Nat} {z : Zs} {v : Value} {w1 : World} (hf : fn.results = #[.cell a 89,.tmp b]) (ht : tmps[a]?.getD undef = .pointer (some ⟨n,0,none⟩)) (hb : tmps[b]?.getD undef = v) (h : BoxS n z w1) : (results fn tmps).run Tryz.prog w1 = .ok (.tuple #[sv z,v]) w1:=by
 have h1:=Tryz.isAgg89
 have h2:=Tryz.sizeOf89
 obtain ⟨_,⟨c1,c2,c3,c4,c5,c6,c7⟩,_⟩:=h
 simp [results,hf,go_sem,ht,hb,h1,h2,c1,c2,c3,c4,c5,c6,c7]
end Go.Proofs.YthcmnkmfhgoddaaGreatDoor.Ss
