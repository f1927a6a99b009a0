/-
  THE PLAIN MATHEMATICS OF PACKAGE deed,of no program: plots,whether they may be,how they are cut and joined,what stands in them,their texts. No condition.
  Texts read back as plots,reckoned without a program: as the program reads them,and as the document does; both come to the plot whose text it is. Conditions: texts of at most 2^20 bytes.
  How a program holds a plot: slices of numbers,the plot's value,boxes that hold one. No condition.
  The library's Clone at pairs,sessions and numbers; appending a list of numbers. Condition: at most 1,000,000 of each.
-/
import Derived.Test.YthcmnkmfhgoddaaGreatDoorVSfA
import Derived.Test.YthcmnkmfhgoddaaGreatDoorVSsMRA
import Derived.Test.YthcmnkmfhgoddaaGreatDoorVDsPNA
import Derived.Test.YthcmnkmfhgoddaaGreatDoorVDsSMA
import Derived.Lib.SliceRun
namespace Go.Proofs.YthcmnkmfhgoddaaGreatDoor.Dp
open Go.Proofs.YthcmnkmfhgoddaaGreatDoor.O (Bd isB keyB hasB lt lt_irrefl lt_trans lt_tri lt_asymm)
open Go.Proofs.YthcmnkmfhgoddaaGreatDoor.M (tieT untieT untie_some untie_spec numT intT inR tieT_inj numT_inj)
open Go.Proofs.YthcmnkmfhgoddaaGreatDoor.Ds (De isD putT parseD okD)
open Go.Proofs.YthcmnkmfhgoddaaGreatDoor.Ss (Ses isS putS mergeS)
open Go.Proofs.YthcmnkmfhgoddaaGreatDoor.Od (Pr pairsT truthT amongB E0)
open Go.Proofs.YthcmnkmfhgoddaaGreatDoor.Sf (kl Up getP doP put)
abbrev Text:=List UInt8
structure Pl where
 d : De
 ps : List Pr
 ss : List Ses
 fr : Bool
 ea : List Int
 al : Int
def Pl.zero : Pl:=⟨De.zero,[],[],false,[],0⟩
def goP (b : Bd) : Text -> List Pr -> Bool
 | _,[] => true
 | last,p :: l => if lt last p.1.toList = true /\ p.2.size <= 512 /\ keyB p.1.toList = true /\ hasB b p.1.toList = true then goP b p.1.toList l else false
def goE : Int -> List Int -> Bool
 | _,[] => true
 | last,n :: l => if last < n /\ n <= 1099511627776 then goE n l else false
def eatB (l : List Int) : Bool:=decide (l.length <= 200) && goE 0 l
def isP (p : Pl) : Bool:=isD p.d && isS p.ss && goP p.d.b [] p.ps && eatB p.ea && amongB p.al 0 1099511627776
theorem isP_iff (p : Pl) : isP p = true ↔ isD p.d = true /\ isS p.ss = true /\ goP p.d.b [] p.ps = true /\ (p.ea.length <= 200 /\ goE 0 p.ea = true) /\ 0 <= p.al /\ p.al <= 1099511627776:=by
 unfold isP eatB amongB
 simp [and_assoc]
def eatT (l : List Int) : Text:=tieT (l.map numT)
def strandsP (p : Pl) : List Text:=[putT p.d,tieT (pairsT p.ps),putS p.ss,truthT p.fr,eatT p.ea,numT p.al]
def putP (p : Pl) : Text:=tieT (strandsP p)
end Go.Proofs.YthcmnkmfhgoddaaGreatDoor.Dp

namespace Go.Proofs.YthcmnkmfhgoddaaGreatDoor.Dp
open Go.Proofs.YthcmnkmfhgoddaaGreatDoor.M (tieT tieT_cons tieT_nil strand untieT untie_some untie_spec numT intT inR tieT_inj numT_inj)
open Go.Proofs.YthcmnkmfhgoddaaGreatDoor.Ds (De isD putT parseD okD)
open Go.Proofs.YthcmnkmfhgoddaaGreatDoor.Ss (Ses isS putS)
open Go.Proofs.YthcmnkmfhgoddaaGreatDoor.Od (Pr pairsT truthT amongB E0 num0)
theorem isD_in {d : De} (h : isD d = true) : Ds.InR d:=by
 obtain ⟨h1,h2,h3,h4,h5,h6⟩:=(Ds.isD_iff d).1 h
 rw [Ds.idB_iff] at h1 h2 h3
 refine ⟨by unfold inR; omega,by unfold inR; omega,by unfold inR; omega,fun m hm => ?_⟩
 obtain ⟨g1,_,g3,g4⟩:=((Ds.mayGo_iff _ _ _ _).1 h6).1 m hm
 rw [Ds.nodeB_iff] at g1
 exact ⟨by unfold inR; omega,by unfold inR; omega⟩
end Go.Proofs.YthcmnkmfhgoddaaGreatDoor.Dp

namespace Go.Proofs.YthcmnkmfhgoddaaGreatDoor.Dp
open Go.RowKit
open Go.Proofs.YthcmnkmfhgoddaaGreatDoor.Ds (De SM OwnI)
open Go.Proofs.YthcmnkmfhgoddaaGreatDoor.Ss (Ses Zs ses SZ PZ NoP)
open Go.Proofs.YthcmnkmfhgoddaaGreatDoor.Od (Pr SP)
def SI (w : World) (N : Nat) (v : Value) (ns : List Int) : Prop :=
 ∃ (A : Option Addr) (c : Nat),v = .slice A ns.length c /\ (0 < ns.length -> ∃ b o : Nat,A = some ⟨b,o,none⟩ /\ b < N /\ ∀ i (h : i < ns.length),w.cell? ⟨b,o + i,none⟩ = some (.int .i64 ns[i]))
theorem SI.nil (w : World) (N : Nat) : SI w N (.slice none 0 0) []:=⟨none,0,rfl,fun h => absurd h (by simp)⟩
theorem SI.keep {w w' : World} {N : Nat} {v : Value} {ns : List Int} (h : SI w N v ns) (hk : ∀ p : Addr,p.block < N -> w'.cell? p = w.cell? p) : SI w' N v ns:=by
 obtain ⟨A,c,hv,h⟩:=h
 refine ⟨A,c,hv,fun h0 => ?_⟩
 obtain ⟨b,o,e,hb,hc⟩:=h h0
 exact ⟨b,o,e,hb,fun i hi => by rw [hk ⟨b,o + i,none⟩ hb]; exact hc i hi⟩
theorem SI.below {w w' : World} {N : Nat} {v : Value} {ns : List Int} (h : SI w N v ns) (hb : Below N w w') : SI w' N v ns:=h.keep fun _ hp => hb.cell hp
theorem SI.more {w : World} {N N' : Nat} {v : Value} {ns : List Int} (h : SI w N v ns) (hB : N <= N') : SI w N' v ns:=by
 obtain ⟨A,c,hv,h⟩:=h
 refine ⟨A,c,hv,fun h0 => ?_⟩
 obtain ⟨b,o,e,hb,hc⟩:=h h0
 exact ⟨b,o,e,by omega,hc⟩
theorem SI.at_ {w : World} {N k : Nat} {A : Option Addr} {n c : Nat} {ns : List Int} (h : SI w N (.slice A n c) ns) (hk : k < ns.length) :
  ∃ b o : Nat,A = some ⟨b,o,none⟩ /\ b < N /\ w.cell? ⟨b,o + k,none⟩ = some (.int .i64 ns[k]):=by
 obtain ⟨A',c',hv,h⟩:=h
 injection hv with h1 h2 h3
 subst h1
 obtain ⟨b,o,e,hb,hc⟩:=h (by omega)
 exact ⟨b,o,e,hb,hc k hk⟩
theorem SI.form {w : World} {N : Nat} {v : Value} {ns : List Int} (h : SI w N v ns) : ∃ A c,v = .slice A ns.length c:=by
 obtain ⟨A,c,hv,_⟩:=h; exact ⟨A,c,hv⟩
theorem SI.of_own {w : World} {base : Nat} {v : Value} {ns : List Int} (h : OwnI w base v ns) : SI w w.heap.size v ns:=by
 rcases h.2 with ⟨e,h0⟩ | ⟨g,cap,cur,e,hbg,hgb,_⟩
 ·exact ⟨none,0,by rw [e,h0],fun h' => by omega⟩
 ·refine ⟨_,cap,e,fun _ => ⟨g,0,rfl,(Array.getElem?_eq_some_iff.1 hgb).1,fun i hi => ?_⟩⟩
  have:=h.cells (g:=g) (by rw [e]; rfl) i _ (by rw [List.getElem?_map,List.getElem?_eq_getElem hi]; rfl)
  rw [Addr.add_lit] at this
  exact this
structure Ph where
 d : De
 sm : Value
 ps : List Pr
 sp : Value
 zs : List Zs
 sz : Value
 fr : Bool
 ea : List Int
 se : Value
 al : Int
def Ph.pl (h : Ph) : Pl:=⟨h.d,h.ps,ses h.zs,h.fr,h.ea,h.al⟩
abbrev qv (o : Ph) : Value:=.agg #[.int .i64 o.d.id,.string o.d.f,.string o.d.t,.int .i64 o.d.gen,o.sm,.int .i64 o.d.next,o.sp,o.sz,.bool o.fr,o.se,.int .i64 o.al]
structure HP (w : World) (N : Nat) (o : Ph) : Prop where
 sm : SM w N o.sm o.d.ms
 sp : SP w N o.sp o.ps
 sz : SZ w N o.sz o.zs
 pz : PZ w N o.zs
 se : SI w N o.se o.ea
theorem HP.below {w w' : World} {N : Nat} {o : Ph} (h : HP w N o) (hb : Below N w w') : HP w' N o:=⟨h.sm.below hb,h.sp.below hb,h.sz.below hb,h.pz.below hb,h.se.below hb⟩
theorem HP.more {w : World} {N N' : Nat} {o : Ph} (h : HP w N o) (hB : N <= N') : HP w N' o:=⟨h.sm.more hB,h.sp.more hB,h.sz.more hB,h.pz.more hB,h.se.more hB⟩
theorem HP.form {w : World} {N : Nat} {o : Ph} (h : HP w N o) : ∃ A a B b C c D d,o.sm = .slice A o.d.ms.length a /\ o.sp = .slice B o.ps.length b /\ o.sz = .slice C o.zs.length c /\ o.se = .slice D o.ea.length d:=by
 obtain ⟨A,a,h1⟩:=h.sm.form
 obtain ⟨B,b,h2⟩:=h.sp.form
 obtain ⟨C,c,h3⟩:=h.sz.form
 obtain ⟨D,d,h4⟩:=h.se.form
 exact ⟨A,a,B,b,C,c,D,d,h1,h2,h3,h4⟩
def BoxP (n : Nat) (o : Ph) (w' : World) : Prop:=n < w'.heap.size /\ (w'.cell? ⟨n,0,none⟩ = some (.int .i64 o.d.id) /\ w'.cell? ⟨n,1,none⟩ = some (.string o.d.f) /\ w'.cell? ⟨n,2,none⟩ = some (.string o.d.t) /\ w'.cell? ⟨n,3,none⟩ = some (.int .i64 o.d.gen) /\ w'.cell? ⟨n,4,none⟩ = some (o.sm) /\ w'.cell? ⟨n,5,none⟩ = some (.int .i64 o.d.next) /\ w'.cell? ⟨n,6,none⟩ = some (o.sp) /\ w'.cell? ⟨n,7,none⟩ = some (o.sz) /\ w'.cell? ⟨n,8,none⟩ = some (.bool o.fr) /\ w'.cell? ⟨n,9,none⟩ = some (o.se) /\ w'.cell? ⟨n,10,none⟩ = some (.int .i64 o.al)) /\ ∀ o,w'.frozen? ⟨n,o,none⟩ = false
theorem BoxP.keep {n : Nat} {o : Ph} {w1 w2 : World} (h : BoxP n o w1) (hb : Below w1.heap.size w1 w2) : BoxP n o w2:=by
 obtain ⟨h0,⟨h1,h2,h3,h4,h5,h6,h7,h8,h9,h10,h11⟩,hf⟩:=h
 have hc : ∀ o,w2.cell? ⟨n,o,none⟩ = w1.cell? ⟨n,o,none⟩:=fun o => hb.cell (p:=⟨n,o,none⟩) h0
 refine ⟨Nat.lt_of_lt_of_le h0 hb.size,⟨?_,?_,?_,?_,?_,?_,?_,?_,?_,?_,?_⟩,fun o => (hb.frozen (p:=⟨n,o,none⟩) h0).trans (hf o)⟩
 all_goals rw [hc]; assumption
theorem BoxP.new (w : World) (o : Ph) : BoxP w.heap.size o (w.alloc (.cells #[.int .i64 o.d.id,.string o.d.f,.string o.d.t,.int .i64 o.d.gen,o.sm,.int .i64 o.d.next,o.sp,o.sz,.bool o.fr,o.se,.int .i64 o.al] 38)) :=
 ⟨by simp,by simp [go_sem],fun o => by simp [go_sem]⟩
theorem BoxP.alloc {n : Nat} {o : Ph} {w1 : World} (h : BoxP n o w1) (x : Obj) : BoxP n o (w1.alloc x) :=
 h.keep ((Below.refl _ w1).alloc (Nat.le_refl _) x)
theorem BoxP.drew {n : Nat} {o : Ph} {w1 : World} (h : BoxP n o w1) : BoxP n o w1.drew:=h
theorem BoxP.other {n : Nat} {o : Ph} {w1 : World} (h : BoxP n o w1) {a : Addr} (ha : a.block ≠ n) (u : Value) : BoxP n o (w1.setCell a u):=by
 obtain ⟨h0,⟨h1,h2,h3,h4,h5,h6,h7,h8,h9,h10,h11⟩,hf⟩:=h
 have hc : ∀ o,(w1.setCell a u).cell? ⟨n,o,none⟩ = w1.cell? ⟨n,o,none⟩:=fun o => World.cell?_setCell_far w1 a _ u ha
 refine ⟨by simpa using h0,⟨?_,?_,?_,?_,?_,?_,?_,?_,?_,?_,?_⟩,fun o => by rw [World.frozen?_setCell]; exact hf o⟩
 all_goals rw [hc]; assumption
theorem BoxP.put {n : Nat} {o0 : Ph} {w1 : World} (h : BoxP n o0 w1) (o : Ph) :
  BoxP n o (World.setCell (World.setCell (World.setCell (World.setCell (World.setCell (World.setCell (World.setCell (World.setCell (World.setCell (World.setCell (World.setCell w1 ⟨n,0,none⟩ (.int .i64 o.d.id)) ⟨n,1,none⟩ (.string o.d.f)) ⟨n,2,none⟩ (.string o.d.t)) ⟨n,3,none⟩ (.int .i64 o.d.gen)) ⟨n,4,none⟩ (o.sm)) ⟨n,5,none⟩ (.int .i64 o.d.next)) ⟨n,6,none⟩ (o.sp)) ⟨n,7,none⟩ (o.sz)) ⟨n,8,none⟩ (.bool o.fr)) ⟨n,9,none⟩ (o.se)) ⟨n,10,none⟩ (.int .i64 o.al)):=by
 obtain ⟨h0,⟨h1,h2,h3,h4,h5,h6,h7,h8,h9,h10,h11⟩,hf⟩:=h
 refine ⟨by simpa using h0,⟨?_,?_,?_,?_,?_,?_,?_,?_,?_,?_,?_⟩,fun o => by simp [World.frozen?_setCell,hf]⟩
 all_goals simp [go_sem,h1,h2,h3,h4,h5,h6,h7,h8,h9,h10,h11]
structure FitP (o : Ph) : Prop where
 f : o.d.f.size <= 140737488355328
 t : o.d.t.size <= 140737488355328
 ms : o.d.ms.length <= 140737488355328
 ps : o.ps.length <= 140737488355328
 each : ∀ p ∈ o.ps,p.1.size <= 140737488355328 /\ p.2.size <= 140737488355328
 zs : o.zs.length <= 140737488355328
 fit : ∀ z ∈ o.zs,z.1.rep.val.size <= 140737488355328 /\ z.1.rep.ps.length <= 140737488355328 /\ ∀ p ∈ z.1.rep.ps,p.1.size <= 140737488355328 /\ p.2.size <= 140737488355328
 ea : o.ea.length <= 140737488355328
end Go.Proofs.YthcmnkmfhgoddaaGreatDoor.Dp

namespace Go.Proofs.YthcmnkmfhgoddaaGreatDoor.Dp
open Go.RowKit Bnd
open Go.Proofs.YthcmnkmfhgoddaaGreatDoor.Ds (De SM OwnI infoI)
open Go.Proofs.YthcmnkmfhgoddaaGreatDoor.Ss (Ses Zs ses SZ PZ NoP OwnZ ArgZ)
open Go.Proofs.YthcmnkmfhgoddaaGreatDoor.Od (Pr SP OwnP ArgP)
inductive ArgI (w : World) : Value -> List Int -> Prop
 | nil : ArgI w (.slice none 0 0) []
 | some (b o : Nat) (c : Nat) (ns : List Int) (h : SI w w.heap.size (.slice (some ⟨b,o,none⟩) ns.length c) ns) : ArgI w (.slice (some ⟨b,o,none⟩) ns.length c) ns
 | empty (a : Addr) (c : Nat) : ArgI w (.slice (some a) 0 c) []
theorem ArgI.si {w : World} {v : Value} {ns : List Int} (h : ArgI w v ns) : SI w w.heap.size v ns:=by
 cases h with
 | nil => exact SI.nil _ _
 | some b o c ns h => exact h
 | empty a c => exact ⟨_,c,rfl,fun h => absurd h (by simp)⟩
theorem ArgI.keep {w w' : World} {v : Value} {ns : List Int} (h : ArgI w v ns) (hb : Below w.heap.size w w') : ArgI w' v ns:=by
 cases h with
 | nil => exact .nil
 | some b o c ns h => exact .some b o c ns ((h.below hb).more hb.size)
 | empty a c => exact .empty a c
theorem ArgI.of_own {w : World} {base : Nat} {v : Value} {ns : List Int} (h : OwnI w base v ns) : ArgI w v ns:=by
 have hs:=SI.of_own h
 rcases h.2 with ⟨rfl,h0⟩ | ⟨g,cap,cur,rfl,_⟩
 ·obtain rfl : ns = []:=List.length_eq_zero_iff.1 h0
  exact .nil
 ·exact .some g 0 cap ns hs
end Go.Proofs.YthcmnkmfhgoddaaGreatDoor.Dp
