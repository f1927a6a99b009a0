/-
  Put,the program's: the text of sessions. Conditions: numbers such as a program can hold; replies whose texts are at most 2^20 bytes; at most 1,000 sessions.
  How a plot comes into a call,and is handed back; what a plot that may be says of lengths and numbers. No condition.
-/
import Derived.Test.YthcmnkmfhgoddaaGreatDoorVSsBoA
import Derived.Test.YthcmnkmfhgoddaaGreatDoorVOdLA
import Derived.Test.YthcmnkmfhgoddaaGreatDoorVDpMA
import Derived.Test.YthcmnkmfhgoddaaGreatDoorVDpRfA
import Derived.Test.YthcmnkmfhgoddaaGreatDoorVDsLiftA
namespace Go.Proofs.YthcmnkmfhgoddaaGreatDoor.Ss
open Go.RowKit Bnd
open Go.Proofs.YthcmnkmfhgoddaaGreatDoor.M (tieT numT inR)
open Go.Proofs.YthcmnkmfhgoddaaGreatDoor.Od (Rep SP ArgP OwnP rv BoxR putR)
open Ds (nb nb_size own_new run_append2)
structure PL (k7 k8 base : Nat) (W0 : World) (xs ns : List ByteArray) (L : Nat -> Bool) (u : Nat -> Value) (wx : World) : Prop where
 le : base <= W0.heap.size
 b0 : L k8 = false -> Below W0.heap.size W0 wx
 b : Below base W0 wx
 p7 : L k7 = true -> L k8 = false -> ∃ g : Nat,u k7 = .slice (some ⟨g,0,none⟩) ns.length ns.length /\ (∀ i (h : i < ns.length),wx.cell? ⟨g,i,none⟩ = some (.string ns[i])) /\ g < wx.heap.size
 o8 : L k8 = true -> wx.ownsRow base 9 1 (u k8) (xs.length + ns.length) ((xs ++ ns).map Value.string)
theorem PL.start {k7 k8 base : Nat} {W0 : World} (xs ns : List ByteArray) (h : base <= W0.heap.size) : PL k7 k8 base W0 xs ns (fun _ => false) (fun _ => undef) W0.drew :=
 ⟨h,fun _ => (Below.refl _ W0).drew,(Below.refl _ W0).drew,fun h => (by cases h),fun h => (by cases h)⟩
theorem PL.call {k7 k8 base i : Nat} {W0 wx w' : World} {xs ns : List ByteArray} {L : Nat -> Bool} {u : Nat -> Value} {v : Value} (h : PL k7 k8 base W0 xs ns L u wx) (h8 : L k8 = false) (hb : Below wx.heap.size wx w') (n7 : k7 ≠ i) (n8 : k8 ≠ i) :
  PL k7 k8 base W0 xs ns (St.mark L i) (St.upd u i v) w':=by
 have h0:=h.b0 h8
 have e7 : St.mark L i k7 = L k7:=by simp [St.mark,n7]
 have e8 : St.mark L i k8 = L k8:=by simp [St.mark,n8]
 have q7 : St.upd u i v k7 = u k7:=by simp [St.upd,n7]
 refine ⟨h.le,fun _ => h0.trans (hb.mono h0.size),h.b.trans (hb.mono (Nat.le_trans h.le h0.size)),fun h7 _ => ?_,fun h' => ?_⟩
 ·rw [e7] at h7
  obtain ⟨g,g1,g2,g4⟩:=h.p7 h7 h8
  exact ⟨g,by rw [q7]; exact g1,fun i hi => (hb.cell (p:=⟨g,i,none⟩) g4).trans (g2 i hi),Nat.lt_of_lt_of_le g4 hb.size⟩
 ·rw [e8,h8] at h'; cases h'
theorem PL.made {k7 k8 base : Nat} {W0 wx : World} {xs ns : List ByteArray} {L : Nat -> Bool} {u : Nat -> Value} (h : PL k7 k8 base W0 xs ns L u wx) (h8 : L k8 = false) (hne : k7 ≠ k8) :
  PL k7 k8 base W0 xs ns (St.mark L k7) (St.upd u k7 (.slice (some ⟨wx.heap.size,0,none⟩) ns.length ns.length)) (wx.alloc (.cells (ns.map Value.string).toArray 9)):=by
 have h0:=h.b0 h8
 refine ⟨h.le,fun _ => h0.alloc h0.size _,h.b.alloc (Nat.le_trans h.le h0.size) _,fun _ _ => ?_,fun h' => ?_⟩
 ·refine ⟨wx.heap.size,by simp [St.upd],fun i hi => ?_,by simp⟩
  rw [World.cell?_alloc_new wx _ _ i]
  simp [hi]
 ·have : St.mark L k7 k8 = L k8:=by simp [St.mark,hne.symm]
  rw [this,h8] at h'; cases h'
theorem PL.app {k7 k8 base : Nat} {W0 wx : World} {xs ns : List ByteArray} {L : Nat -> Bool} {u : Nat -> Value} (h : PL k7 k8 base W0 xs ns L u wx) (h7 : L k7 = true) (h8 : L k8 = false) {v : Value}
  (hown : W0.ownsRow base 9 1 v xs.length (xs.map Value.string)) (hle : xs.length <= 100000) (hln : ns.length <= 100) (ty : TypeId) :
  ∃ v' w',(Builtin.append_ #[101,101] ty #[v,u k7]).run Tryz.prog wx = .ok v' w' /\ PL k7 k8 base W0 xs ns (St.mark L k8) (St.upd u k8 v') w':=by
 obtain ⟨i0,hi,hz0,hz1,hz2⟩:=info_parts infoStr
 have h0:=h.b0 h8
 have ho:=own_below hown h0
 obtain ⟨g,g1,g2,g4⟩:=h.p7 h7 h8
 obtain ⟨v',w',k1,k2,k3,_⟩:=run_append_own (P:=Tryz.prog) (w:=wx) base 101 ty 9 i0 (.string ⟨#[]⟩) 1 16 Tryz.underlying101 hi hz0 hz1 hz2 rfl (by decide) v xs.length (xs.map Value.string) ho ⟨g,0,none⟩ ns.length ns.length (ns.map Value.string)
  (by simp) (fun j z hz => by
   have hj : j < ns.length:=by
    have:=(List.getElem?_eq_some_iff.1 hz).1
    simpa using this
   rw [List.getElem?_map,List.getElem?_eq_getElem hj] at hz
   obtain rfl:=Option.some.inj hz
   rw [Addr.add_lit,Nat.zero_add]
   exact g2 j hj) (fun z hz => by obtain ⟨x,_,rfl⟩:=List.mem_map.1 hz; rfl) (by unfold maxLen; omega) (by omega) (Nat.le_trans h.le h0.size)
 rw [<- g1] at k1
 have e8 : St.mark L k8 k8 = true:=by simp [St.mark]
 refine ⟨v',w',k1,h.le,fun h' => (by rw [e8] at h'; cases h'),h.b.grown k3 (Nat.le_trans h.le h0.size) (fun k hk => (ho.lt k hk).1),fun _ h' => (by rw [e8] at h'; cases h'),fun _ => ?_⟩
 have : St.upd u k8 v' k8 = v':=by simp [St.upd]
 rw [this]
 simpa using k2
end Go.Proofs.YthcmnkmfhgoddaaGreatDoor.Ss

namespace Go.Proofs.YthcmnkmfhgoddaaGreatDoor.Dp
open Go.RowKit Bnd
open Go.Proofs.YthcmnkmfhgoddaaGreatDoor.M (tieT numT inR)
open Go.Proofs.YthcmnkmfhgoddaaGreatDoor.Ds (De SM OwnI OwnM ArgM isD putT Fit)
open Go.Proofs.YthcmnkmfhgoddaaGreatDoor.Ss (Ses Zs ses SZ PZ NoP OwnZ ArgZ isS fitsB putS FitZ)
open Go.Proofs.YthcmnkmfhgoddaaGreatDoor.Od (Pr SP OwnP ArgP pairsT)
def Room (v : Value) : Prop:=∀ A n c,v = .slice A n c -> n <= c
theorem Room.nil : Room (.slice none 0 0):=fun A n c e => by injection e with _ e1 e2; omega
structure HA (w : World) (o : Ph) : Prop where
 sm : ArgM w o.sm o.d.ms
 sp : ArgP w o.sp o.ps
 sz : ArgZ w o.sz o.zs
 np : NoP o.zs
 se : ArgI w o.se o.ea
 rp : Room o.sp
 re : Room o.se
theorem HA.hp {w : World} {o : Ph} (h : HA w o) : HP w w.heap.size o:=⟨h.sm.sm,h.sp.sm,h.sz.sz,h.np.pz w _,h.se.si⟩
theorem HA.keep {w w' : World} {o : Ph} (h : HA w o) (hb : Below w.heap.size w w') : HA w' o:=⟨h.sm.keep hb,h.sp.keep hb,h.sz.keep hb,h.np,h.se.keep hb,h.rp,h.re⟩
def Ph.zero : Ph:=⟨De.zero,.slice none 0 0,[],.slice none 0 0,[],.slice none 0 0,false,[],.slice none 0 0,0⟩
theorem HA.zero (w : World) : HA w Ph.zero:=⟨.nil,.nil,.nil,(fun z hz => by cases hz),.nil,.nil,.nil⟩
def GaveP (w : World) (p : Pl × Int) (e : Ending) (w' : World) : Prop:=∃ o',e = .returned (.tuple #[qv o',.int .i64 p.2]) /\ o'.pl = p.1 /\ HA w' o' /\ Below w.heap.size w w'
theorem GaveP.zero {w w' : World} {n : Int} (h : Below w.heap.size w w') : GaveP w (Pl.zero,n) (.returned (.tuple #[qv Ph.zero,.int .i64 n])) w':=⟨Ph.zero,rfl,rfl,HA.zero _,h⟩
def GaveP2 (w : World) (p : Pl × Pl × Int) (e : Ending) (w' : World) : Prop:=∃ o' o'',e = .returned (.tuple #[qv o',qv o'',.int .i64 p.2.2]) /\ o'.pl = p.1 /\ o''.pl = p.2.1 /\ HA w' o' /\ HA w' o'' /\ Below w.heap.size w w'
theorem GaveP2.zero {w w' : World} {n : Int} (h : Below w.heap.size w w') : GaveP2 w (Pl.zero,Pl.zero,n) (.returned (.tuple #[qv Ph.zero,qv Ph.zero,.int .i64 n])) w':=⟨Ph.zero,Ph.zero,rfl,rfl,rfl,HA.zero _,HA.zero _,h⟩
theorem isD_sizes {d : De} (h : isD d = true) : d.f.size <= 33 /\ d.t.size <= 33 /\ d.ms.length <= 5:=by
 obtain ⟨_,_,_,h4,h5,_⟩:=(Ds.isD_iff d).1 h
 obtain ⟨h6,h7,_⟩:=(O.isB_iff _).1 h4
 have a4 : d.f.toList.length = d.f.size:=by rw [ByteArray.toList_eq]; simp
 have a5 : d.t.toList.length = d.t.size:=by rw [ByteArray.toList_eq]; simp
 simp only [De.b] at h6 h7
 omega
theorem isD_fit {d : De} (h : isD d = true) : Fit d:=by
 obtain ⟨h1,h2,h3⟩:=isD_sizes h
 exact ⟨by omega,by omega,by omega,isD_in h⟩
theorem kept_spec {s : Ses} (h : fitsB s = true) : s.rep.val.size <= 512 /\ s.rep.ps = []:=by
 unfold fitsB Ss.keptB at h
 simp only [Bool.and_eq_true,decide_eq_true_eq] at h
 exact ⟨h.2.1.2,List.length_eq_zero_iff.1 h.2.2⟩
theorem isS_len {l : List Ses} (h : isS l = true) : l.length <= 64:=((Ss.isS_iff l).1 h).1
theorem isS_nop {zs : List Zs} {w : World} {N : Nat} (h : isS (ses zs) = true) (hp : PZ w N zs) : NoP zs :=
 hp.nop fun s hs => (kept_spec (Ss.rise_mem ((Ss.isS_iff _).1 h).2 s hs).2).2
theorem isP_d {p : Pl} (h : isP p = true) : isD p.d = true:=((isP_iff p).1 h).1
theorem isP_s {p : Pl} (h : isP p = true) : isS p.ss = true:=((isP_iff p).1 h).2.1
theorem isP_hp {o : Ph} {w : World} (h : isP o.pl = true) (h1 : ArgM w o.sm o.d.ms) (h2 : ArgP w o.sp o.ps) (h3 : ArgZ w o.sz o.zs) (hp : PZ w w.heap.size o.zs) (h4 : ArgI w o.se o.ea) (r1 : Room o.sp) (r2 : Room o.se) : HA w o :=
 ⟨h1,h2,h3,isS_nop (isP_s h) hp,h4,r1,r2⟩
end Go.Proofs.YthcmnkmfhgoddaaGreatDoor.Dp
