/-
  How many are among some: the program's closure,Count. Conditions: at most 1,000 members,lengths at most 2^46.
  slices.Values,slices.Collect,slices.Sorted at numbers: the numbers,sorted. Condition: at most 1,000,000 numbers.
  Upon what they agree: the program's Agreed. Condition: at most 1,000,000 numbers such as a program can hold.
-/
import Derived.Test.YthcmnkmfhgoddaaGreatDoorVMbMA
import Derived.Test.YthcmnkmfhgoddaaGreatDoorVSCatA
import Derived.Test.YthcmnkmfhgoddaaGreatDoorVDsRA
import Derived.RangeFuncBox
import Derived.RangeFuncLeaves
import Derived.Shelf.Abstract
import Derived.WalkKit
import Derived.OwnWalkIn
import Derived.TacticsInMore
import Derived.LoopNIn
import Derived.LoopIn
import Derived.Maps.AppendAt
namespace Go.Proofs.YthcmnkmfhgoddaaGreatDoor.Mb
open Go.RowKit Bnd
open Go.Proofs.YthcmnkmfhgoddaaGreatDoor.Ds (De SM ArgM dv BoxD)
open Go.Proofs.YthcmnkmfhgoddaaGreatDoor.Dp (SI)
set_option maxHeartbeats 4000000 in
set_option maxRecDepth 100000 in
theorem among_any (v : Value) (ns : List Int) (m : Ds.Mem) (b : Nat) (w : World) (hv : SI w w.heap.size v ns) (hl : ns.length <= 140737488355328) (hc : w.cell? ⟨b,0,none⟩ = some v) (hb : b < w.heap.size) :
  Calls Tryz.prog 91 #[.agg #[.int .i64 m.1,.int .i64 m.2],.pointer (some ⟨b,0,none⟩)] w fun e w' => e = .returned (.bool (decide (m.2 ∈ ns))) /\ Below w.heap.size w w':=by
 obtain ⟨m1,m2⟩:=m
 have cc:=fun w' (hb : Below w.heap.size w w') => Dp.contains_any v ns m2 w' ((hv.below hb).more hb.size) hl
 obtain ⟨A,c,rfl⟩:=hv.form
 obtain ⟨nn,hnn⟩ : ∃ n,ns.length = n:=⟨_,rfl⟩
 rw [hnn] at cc hc
 obtain ⟨R,hR⟩ : ∃ r,decide (m2 ∈ ns) = r:=⟨_,rfl⟩
 simp only
 rw [hR] at cc ⊢
 clear hv hl hnn hR
 go_enter Tryz.func91,Tryz.ntmps91
 go_wp2_with fail
 refine (cc _ (by exact bex0)).mono ?_
 rintro e w1 ⟨rfl,rfl⟩
 go_wp2_with fail
 go_ret
 exact ⟨rfl,(by exact bex0)⟩
theorem countM_take {ms : List Ds.Mem} {ids : List Int} {k : Nat} (h : k < ms.length) : countM (ms.take (k + 1)) ids = countM (ms.take k) ids + (if decide (ms[k].2 ∈ ids) = true then 1 else 0):=by
 unfold countM
 rw [List.take_succ_eq_append_getElem h,List.countP_append,List.countP_singleton]
 by_cases hm : ms[k].2 ∈ ids <;> simp [hm]
theorem countM_take_le (ms : List Ds.Mem) (ids : List Int) (k : Nat) : countM (ms.take k) ids <= k:=by
 have:=countM_le (ms.take k) ids
 rw [List.length_take] at this
 omega
set_option maxHeartbeats 16000000 in
set_option maxRecDepth 100000 in
theorem count_any (d : De) (s v : Value) (ns : List Int) (w : World) (hs : SM w w.heap.size s d.ms) (hn : d.ms.length <= 1000) (hv : SI w w.heap.size v ns) (hl : ns.length <= 140737488355328) :
  Calls Tryz.prog 41 #[dv d s,v] w fun e w' => e = .returned (.int .i64 (countM d.ms ns : Nat)) /\ Below w.heap.size w w':=by
 obtain ⟨A,c,rfl⟩:=hs.form
 obtain ⟨V,cv,rfl⟩:=hv.form
 obtain ⟨W0,hW0⟩ : ∃ W0,(w.alloc (.cells #[.int .i64 d.id,.string d.f,.string d.t,.int .i64 d.gen,.slice A d.ms.length c,.int .i64 d.next] 26)).alloc (.cells #[.slice V ns.length cv] 36) = W0:=⟨_,rfl⟩
 have hb0 : Below w.heap.size w W0:=hW0 ▸ (by exact bex0)
 have BD : BoxD w.heap.size d (.slice A d.ms.length c) W0:=hW0 ▸ (BoxD.new w d (.slice A d.ms.length c)).alloc _
 have hz0 : W0.heap.size = w.heap.size + 2:=by rw [<- hW0]; simp
 have x1 : W0.cell? ⟨w.heap.size + 1,0,none⟩ = some (.slice V ns.length cv):=by rw [<- hW0]; simp [go_sem]
 have cA:=fun m w' (hb : Below W0.heap.size W0 w') => among_any (.slice V ns.length cv) ns m (w.heap.size + 1) w' (((hv.below hb0).more hb0.size |>.below hb).more hb.size) hl ((hb.cell (p:=⟨w.heap.size + 1,0,none⟩) (by rw [hz0]; exact Nat.lt_succ_self _)).trans x1) (by have:=hb.size; omega)
 obtain ⟨nm,hnm⟩ : ∃ n,d.ms.length = n:=⟨_,rfl⟩
 obtain ⟨nn,hnn⟩ : ∃ n,ns.length = n:=⟨_,rfl⟩
 have HNM:=Lib.hid hnm
 have HS:=Lib.hid hs
 rw [hnm] at hn BD HS hW0 ⊢
 rw [hnn] at hW0 ⊢
 clear hs hv hl hnm hnn x1
 obtain ⟨p_0,⟨p_1,p_2,p_3,p_4,p_5,p_6⟩,p_7⟩:=id BD
 go_enter Tryz.func41,Tryz.ntmps41
 go_wp2_with fail
 try rw [hW0]
 clear hW0
 go_wp2_with fail
 go_loopw [6,13] (fun vn vi wr => ∃ k : Nat,k <= nm /\ vi = .int .i64 (k : Int) /\ vn = .int .i64 (countM (d.ms.take k) ns : Nat) /\ Below W0.heap.size W0 wr) (fun _ vi _ => nm - (intOf vi).toNat)
 case atStart => exact ⟨0,Nat.zero_le _,rfl,rfl,Below.refl _ _⟩
 case round =>
  obtain ⟨k,hk,rfl,rfl,hbw⟩:=hrel
  by_cases hlt : k < nm
  ·have hkl : k < d.ms.length:=by rw [HNM.out]; exact hlt
   have hct:=countM_take (ids:=ns) hkl
   obtain ⟨b,o,hA,hb,q0,q1⟩:=HS.out.at_ hkl
   have hbw0:=hb0.trans (hbw.mono hb0.size)
   have g0:=(hbw0.cell (p:=⟨b,o + k * 2,none⟩) hb).trans q0
   have g1:=(hbw0.cell (p:=⟨b,o + k * 2 + 1,none⟩) hb).trans q1
   obtain ⟨⟨m1,m2⟩,hm⟩ : ∃ m,d.ms[k] = m:=⟨_,rfl⟩
   rw [hm] at g0 g1 hct
   simp only at g0 g1 hct
   have hle:=countM_take_le d.ms ns k
   obtain ⟨cnt,hcnt⟩ : ∃ n,countM (d.ms.take k) ns = n:=⟨_,rfl⟩
   rw [hcnt] at hct hle ⊢
   have HCT:=Lib.hid hct
   have hwz:=hbw0.size
   have hbz : b < wr.heap.size:=by omega
   have k0 : (0 <= (k : Int)) = True:=eq_true (by omega)
   have k1 : ((k : Int) < (nm : Int)) = True:=eq_true (by omega)
   have hwrap : IntKind.i64.wrap ((cnt : Int) + 1) = (cnt : Int) + 1:=by rw [IntKind.wrap_i64]; omega
   have hx1 : Below wr.heap.size wr (wr.alloc (.cells #[.int .i64 m1,.int .i64 m2] 70)):=(Below.refl _ wr).alloc (Nat.le_refl _) _
   have cA1:=cA (m1,m2) _ (hbw.trans (hx1.mono hbw.size))
   obtain ⟨R,hR⟩ : ∃ r,decide (m2 ∈ ns) = r:=⟨_,rfl⟩
   simp only at cA1
   rw [hR] at cA1 HCT
   have hxw:=hbw.trans (hx1.mono hbw.size)
   clear hct hcnt hm q0 q1 hkl hR hx1
   subst hA
   go_wp2_with fail
   refine cA1.mono ?_
   rintro e' w2 ⟨rfl,b2⟩
   have hb2:=hxw.trans (b2.mono hxw.size)
   clear b2 cA1 hxw g0 g1
   cases R with
   | true =>
    go_wp2_with fail
    go_roundw
    case rel => exact ⟨k + 1,by omega,by go_num,by rw [HCT.out]; go_num,hb2⟩
    case measure => simp [intOf]; omega
   | false =>
    go_wp2_with fail
    go_roundw
    case rel => exact ⟨k + 1,by omega,by go_num,by rw [HCT.out]; simp,hb2⟩
    case measure => simp [intOf]; omega
  ·obtain rfl : k = nm:=by omega
   have htk : d.ms.take k = d.ms:=by rw [<- HNM.out]; exact List.take_length
   rw [htk]
   have hbf:=hb0.trans (hbw.mono hb0.size)
   clear hlt
   go_wp2_with fail
   go_ret
   exact ⟨rfl,hbf⟩
end Go.Proofs.YthcmnkmfhgoddaaGreatDoor.Mb

namespace Go.Proofs.YthcmnkmfhgoddaaGreatDoor.Mb
open Go.RowKit Go.Shelf Bnd
open Go.Proofs.YthcmnkmfhgoddaaGreatDoor.Dp (SI sorted)
open Go.Proofs.YthcmnkmfhgoddaaGreatDoor.Ds (OwnI)
attribute [local go_sem] Oper.semAt_some
def upto {α : Type} (f : Nat -> α) (k : Nat) : List α:=(List.range k).map f
theorem upto_succ {α : Type} (f : Nat -> α) (k : Nat) : upto f (k + 1) = upto f k ++ [f k]:=by simp [upto,List.range_succ]
theorem upto_length {α : Type} (f : Nat -> α) (k : Nat) : (upto f k).length = k:=by simp [upto]
theorem upto_all (zs : List Int) : upto (fun j => zs[j]?.getD 0) zs.length = zs:=by
 apply List.ext_getElem
 ·simp [upto]
 ·intro i h1 h2
  simp [upto,h2]
theorem upto_take (zs : List Int) {k : Nat} (hk : k <= zs.length) : upto (fun j => zs[j]?.getD 0) k = zs.take k:=by
 apply List.ext_getElem
 ·simp [upto,hk]
 ·intro i h1 h2
  have : i < zs.length:=by simp [upto] at h1; omega
  simp [upto,this]
theorem infoI : (Tryz.prog.info? 2).map (fun i => (i.zero,i.size,i.bytes)) = some (some (.int .i64 0),1,8):=by kernel_rfl
set_option maxRecDepth 100000 in
set_option maxHeartbeats 2000000 in
theorem values1_in (F : Fence) (n : Nat) (h7 : F.fn 164) (hro : F.round = none) (hn : 1 <= n) (l Bs n₀ b off len cap : Nat) (zs : List Int) (hreach : len * 8 <= 140737488351232) (hb : b < n₀) (J Jx : List Int -> World -> Prop)
  (hY : ∀ pre x W,J pre W -> pre.length < len -> YieldAt F (n - 1) Tryz.prog l #[.int .i64 x] W fun e W' =>
   (e = .returned (.bool true) /\ J (pre ++ [x]) W' /\ Below n₀ W W') \/ (e = .returned (.bool false) /\ Jx (pre ++ [x]) W'))
  (W : World) (hBs : W.cell? ⟨Bs,0,none⟩ = some (.slice (some ⟨b,off,none⟩) len cap)) (hc : ∀ j,j < len -> W.cell? ⟨b,off + j,none⟩ = some (.int .i64 (zs[j]?.getD 0))) (h0 : J [] W) :
  CallsIn F n Tryz.prog 164 #[.func (.yield l) #[] #[],.pointer (some ⟨Bs,0,none⟩)] W fun e W' => (∃ v,e = .returned v) /\
   ((∃ ys,ys = upto (fun j => zs[j]?.getD 0) len /\ J ys W') \/ (∃ pre,(∃ k,k <= len /\ pre = upto (fun j => zs[j]?.getD 0) k) /\ Jx pre W')):=by
 refine callsIn_of_wp Tryz.func164 rfl h7 ?_ hro
 simp only [Tryz.ntmps164,List.size_toArray,List.length_cons,List.length_nil,Nat.reduceAdd,Nat.reduceSub,Array.replicate_succ,Array.replicate_zero,List.push_toArray,List.append_toArray,List.nil_append,List.cons_append]
 gi_wp2
 gi_loopw [7] (fun i wr => ∃ k : Nat,k <= len /\ i = .int .i64 k /\ J (upto (fun j => zs[j]?.getD 0) k) wr /\ Below n₀ W wr)
  (fun i _ => len - (intOf i).toNat)
 case atStart => exact ⟨0,Nat.zero_le _,rfl,h0,Below.refl _ _⟩
 case round =>
  obtain ⟨k,hk,rfl,hJs,hnx⟩:=hrel
  have hcx : k < len -> wr.cell? ⟨b,off + k,none⟩ = some (.int .i64 (zs[k]?.getD 0)):=fun h => (hnx.cell (p:=⟨b,off + k,none⟩) hb).trans (hc k h)
  by_cases hlt : k < len
  ·obtain ⟨fn,tmps,assign,body,hy,hR⟩:=hY _ (zs[k]?.getD 0) wr hJs (by rw [upto_length]; exact hlt)
   have hcx':=hcx hlt
   gi_wp2
   refine hR.mono ?_
   rintro e W3 (⟨rfl,hJ3,hk3⟩ | ⟨rfl,hJx3⟩)
   ·gi_wp2
    go_roundw
    case rel => exact ⟨k + 1,by omega,by simp,by rw [upto_succ]; exact hJ3,hnx.trans hk3⟩
    case measure => simp [intOf]; omega
   ·gi_wp2
    refine bodyPost_ret (results_none rfl _ _ _) rfl ?_
    exact ⟨⟨_,rfl⟩,.inr ⟨_,⟨k + 1,by omega,(upto_succ _ _).symm⟩,hJx3⟩⟩
  ·obtain rfl : k = len:=by omega
   gi_wp2
   go_end0
   exact ⟨⟨_,rfl⟩,.inl ⟨_,rfl,hJs⟩⟩
def Ints (n₀ : Nat) (W : World) (sv : Value) (zs : List Int) : Prop :=
 (zs = [] /\ ∃ A cap,sv = .slice A 0 cap) \/ ∃ b off cap,sv = .slice (some ⟨b,off,none⟩) zs.length cap /\ b < n₀ /\ ∀ j,j < zs.length -> W.cell? ⟨b,off + j,none⟩ = some (.int .i64 (zs[j]?.getD 0))
theorem Ints.below {n₀ : Nat} {A B : World} (h : Below n₀ A B) {sv : Value} {zs : List Int} : Ints n₀ A sv zs -> Ints n₀ B sv zs
 | .inl e => .inl e
 | .inr ⟨b,off,cap,e,hb,hc⟩ => .inr ⟨b,off,cap,e,hb,fun j hj => (h.cell (p:=⟨b,off + j,none⟩) hb).trans (hc j hj)⟩
theorem Ints.of_si {W : World} {N : Nat} {v : Value} {ns : List Int} (h : SI W N v ns) : Ints N W v ns:=by
 obtain ⟨A,c,rfl,hc⟩:=h
 by_cases h0 : 0 < ns.length
 ·obtain ⟨b,o,rfl,hb,hcc⟩:=hc h0
  exact .inr ⟨b,o,c,rfl,hb,fun j hj => by rw [hcc j hj,List.getElem?_eq_getElem hj]; rfl⟩
 ·have : ns = []:=List.eq_nil_of_length_eq_zero (by omega)
  subst this
  exact .inl ⟨rfl,A,c,rfl⟩
set_option maxRecDepth 100000 in
set_option maxHeartbeats 1000000 in
theorem values1_nil_in (F : Fence) (n : Nat) (h7 : F.fn 164) (hro : F.round = none) (l Bs : Nat) (J : List Int -> World -> Prop) (W : World) (A : Option Addr) (cap : Nat) (hBs : W.cell? ⟨Bs,0,none⟩ = some (.slice A 0 cap)) (h0 : J [] W) :
  CallsIn F n Tryz.prog 164 #[.func (.yield l) #[] #[],.pointer (some ⟨Bs,0,none⟩)] W fun e W' => (∃ v,e = .returned v) /\ J [] W':=by
 refine callsIn_of_wp Tryz.func164 rfl h7 ?_ hro
 simp only [Tryz.ntmps164,List.size_toArray,List.length_cons,List.length_nil,Nat.reduceAdd,Nat.reduceSub,Array.replicate_succ,Array.replicate_zero,List.push_toArray,List.append_toArray,List.nil_append,List.cons_append]
 gi_wp2
 gi_loopw [7] (fun i wr => i = .int .i64 0 /\ J [] wr) (fun _ _ => 0)
 case atStart => exact ⟨rfl,h0⟩
 case round =>
  obtain ⟨rfl,hJs⟩:=hrel
  gi_wp2
  go_end0
  exact ⟨⟨_,rfl⟩,hJs⟩
theorem values_any (v : Value) (w : World) (hv : ∃ A n c,v = .slice A n c) : Calls Tryz.prog 89 #[v] w fun e w' => e = .returned (.func (.func 164) #[] #[.pointer (some ⟨w.heap.size,0,none⟩)]) /\ w' = w.alloc (.cells #[v] 36):=by
 obtain ⟨A,n,c,rfl⟩:=hv
 go_enter Tryz.func89,Tryz.ntmps89
 go_wp2_with fail
 go_ret
 exact ⟨rfl,rfl⟩
theorem values_stops (F : Fence) (n : Nat) (h7 : F.fn 164) (hro : F.round = none) (hn : 1 <= n) (Bs n₀ : Nat) (sv : Value) (zs : List Int) (hreach : zs.length * 8 <= 140737488351232) (w : World) (hBs : Bs < w.heap.size) (hn₀ : n₀ <= w.heap.size)
  (hc : w.cell? ⟨Bs,0,none⟩ = some sv) (hI : Ints n₀ w sv zs) :
  SeqStopsK F n Tryz.prog 164 #[.pointer (some ⟨Bs,0,none⟩)] (fun x : Int => #[Value.int .i64 x]) (Below n₀) (fun ys => ys = zs) (fun pre => pre <+: zs) zs.length w:=fun l J Jx W hW _ _ hY h0 => by
 have hc':=(hW.cell (p:=⟨Bs,0,none⟩) hBs).trans hc
 rcases hI.below (hW.mono hn₀) with ⟨rfl,A,cap,rfl⟩ | ⟨b,off,cap,rfl,hb,hcs⟩
 ·exact (values1_nil_in F n h7 hro l Bs J W A cap hc' h0).mono fun e W' ⟨he,hj⟩ => ⟨he,.inl ⟨_,rfl,hj⟩⟩
 ·refine (values1_in F n h7 hro hn l Bs n₀ b off zs.length cap zs hreach hb J Jx hY W hc' hcs h0).mono ?_
  rintro e W' ⟨he,⟨ys,rfl,hj⟩ | ⟨pre,⟨k,hk,rfl⟩,hj⟩⟩
  ·exact ⟨he,.inl ⟨_,upto_all zs,hj⟩⟩
  ·exact ⟨he,.inr ⟨_,by rw [upto_take zs hk]; exact List.take_prefix _ _,hj⟩⟩
set_option maxRecDepth 100000 in
set_option maxHeartbeats 4000000 in
theorem append_in (F : Fence) (n : Nat) (h3 : F.fn 229) (h5 : F.fn 164) (hro : F.round = none) (hn : 3 <= n) (Bs : Nat) (sv : Value) (zs : List Int) (hlen : zs.length <= 1000000) (w : World) (hBs : Bs < w.heap.size) (hc : w.cell? ⟨Bs,0,none⟩ = some sv) (hI : Ints w.heap.size w sv zs) :
  CallsIn F n Tryz.prog 229 #[.slice none 0 0,(.func (.func 164) #[] #[.pointer (some ⟨Bs,0,none⟩)])] w fun e W' => ∃ v,e = .returned v /\ OwnI W' w.heap.size v zs /\ Below w.heap.size w W':=by
 have h1 : 1 <= n:=by omega
 have hmax : zs.length <= maxLen:=by unfold maxLen; omega
 obtain ⟨i0,hi,hz0,hz1,hz2⟩:=info_parts infoI
 refine callsIn_of_wp_marks Tryz.func229 rfl h3 ?_ hro
 simp only [Tryz.ntmps229,List.size_toArray,List.length_cons,List.length_nil,Nat.reduceAdd,Nat.reduceSub,Array.replicate_succ,Array.replicate_zero,List.push_toArray,List.append_toArray,List.nil_append,List.cons_append]
 gi_wp2
 have bO:=Boxed.new w 36 (.slice none 0 0)
 have hB0 : Below w.heap.size w (w.alloc (.cells #[.slice none 0 0] 36)):=(Below.refl _ w).alloc (Nat.le_refl _) _
 refine wpIn_rangeFunc_ownG hro h1 (gf:=164) (lb:=#[.pointer (some ⟨Bs,0,none⟩)]) rfl h5 (enters_of Tryz.func164 (by kernel_rfl) rfl)
  (values_stops F (n - 1) h5 hro (by omega) Bs w.heap.size sv zs (by omega) _ (by simp; omega) (by simp) ((hB0.cell (p:=⟨Bs,0,none⟩) hBs).trans hc) (hI.below hB0)) belowK_t (belowK_b (by simp)) (Below.refl _ _) (fun _ => rfl)
  (fun pre W => (∃ v,Boxed W w.heap.size 36 v /\ W.ownsRow w.heap.size 2 1 v pre.length (pre.map (Value.int .i64)) /\ (v = .slice none 0 0 ↔ pre = [])) /\ Below w.heap.size w W)
  (fun _ _ _ => False)
  (OwnFrom.and (Own.from (holdsRow_own w.heap.size w.heap.size 36 2 1 (fun pre => pre.length) (fun pre => pre.map (Value.int .i64)) (fun pre v => v = .slice none 0 0 ↔ pre = [])) _) (ownFrom_below (Nat.le_refl _) (by simp)))
  (fun _ _ _ _ _ hs _ _ => hs)
  ⟨⟨_,bO,World.ownsRow_nil _ _ _ _,by simp⟩,hB0⟩
  (fun x => { tmps:=#[.slice none 0 0,(.func (.func 164) #[] #[.pointer (some ⟨Bs,0,none⟩)]),.pointer (some ⟨w.heap.size,0,none⟩),undef,.slice none 0 0,.int .i64 x,(.func (.func 164) #[] #[.pointer (some ⟨Bs,0,none⟩)]),.int .i64 x,undef,undef,undef,undef,undef],defers:=[] }) ?assign ?body ?done ?stop
 case assign =>
  intro l x W K hK
  gi_wp2
  exact hK
 case body =>
  rintro l pre x W ⟨⟨v,hv,hrow,hnil⟩,hB⟩ hlt
  have hc:=hv.cell
  gi_wp2_with (gi_at_builtin; refine wpListIn_append_own _ rfl _ _ 36 rfl w.heap.size 2 i0 (.int .i64 0) 1 8 Tryz.underlying36 hi hz0 hz1 hz2 rfl (by decide) _ _ _ rfl (hrow.alloc _) ⟨W.heap.size,0,none⟩ 1 1 [.int .i64 x] rfl rfl (cell_one_new _ _ _) (by simp [Value.oneCell']) (by omega) (by omega) (by have:=hB.size; simp; omega) ?_; intro v' w1 hown' hgrow _; obtain ⟨g',cap',rfl⟩:=ownsRow_succ hown'; obtain ⟨hv1,hv2,hr2,hk2,hb2⟩:=hv.appended (by decide) hrow hB.size (Nat.le_refl _) hown' hgrow; have hc1:=hv1.cell; have hf1:=hv1.frozen)
  exact ⟨hk2.from _,hb2,⟨_,hv2,by simpa using hr2,by simp⟩,hB.trans hb2⟩
 case done =>
  rintro D ys W hD rfl ⟨⟨v,hv,hrow,hnil⟩,hB⟩ hK
  have hc:=hv.cell
  gi_wp2
  refine ⟨by simp,.inl ⟨_,_,rfl,run_takeDeferred hK,?_⟩⟩
  exact ⟨_,results_tmp rfl _ _ _,v,rfl,ownsRow_putObj hrow _ hK rfl,hB.trans (belowK_b (w:=w) (Nat.le_refl _) W D _ _ (by simp at hD; omega) hK rfl rfl)⟩
 case stop =>
  rintro D c pre W _ _ h _
  exact h.elim
set_option maxHeartbeats 4000000 in
theorem collect_any (Bs : Nat) (sv : Value) (zs : List Int) (hlen : zs.length <= 1000000) (w : World) (hBs : Bs < w.heap.size) (hc : w.cell? ⟨Bs,0,none⟩ = some sv) (hI : Ints w.heap.size w sv zs) :
  Calls Tryz.prog 163 #[(.func (.func 164) #[] #[.pointer (some ⟨Bs,0,none⟩)])] w fun e W' => ∃ v,e = .returned v /\ OwnI W' w.heap.size v zs /\ Below w.heap.size w W':=by
 have cA : Calls Tryz.prog 229 #[.slice none 0 0,(.func (.func 164) #[] #[.pointer (some ⟨Bs,0,none⟩)])] w fun e W' => ∃ v,e = .returned v /\ OwnI W' w.heap.size v zs /\ Below w.heap.size w W' :=
  (callsIn_wide (n:=6)).1 (append_in Fence.wide 6 trivial trivial rfl (by omega) Bs sv zs hlen w hBs hc hI)
 go_enter Tryz.func163,Tryz.ntmps163
 go_wp2_with fail
 refine cA.mono ?_
 rintro e w1 ⟨v,rfl,ho,hb⟩
 go_wp2_with fail
 go_ret
 exact ⟨v,rfl,ho,hb⟩
set_option maxHeartbeats 4000000 in
theorem sorted_any (Bs : Nat) (sv : Value) (zs : List Int) (hlen : zs.length <= 1000000) (h0 : 0 < zs.length) (w : World) (hBs : Bs < w.heap.size) (hc : w.cell? ⟨Bs,0,none⟩ = some sv) (hI : Ints w.heap.size w sv zs) :
  Calls Tryz.prog 88 #[(.func (.func 164) #[] #[.pointer (some ⟨Bs,0,none⟩)])] w fun e W' => ∃ v,e = .returned v /\ OwnI W' w.heap.size v (sorted zs) /\ Below w.heap.size w W':=by
 have cC:=collect_any Bs sv zs hlen w hBs hc hI
 go_enter Tryz.func88,Tryz.ntmps88
 go_wp2_with fail
 refine cC.mono ?_
 rintro e w1 ⟨v,rfl,ho,hb⟩
 have cS:=Dp.sort_any v zs w1 w.heap.size ho h0 hb.size hlen
 go_wp2_with fail
 refine cS.mono ?_
 rintro e w2 ⟨rfl,ho2,hb2⟩
 go_wp2_with fail
 go_ret
 exact ⟨v,rfl,ho2,hb.trans hb2⟩
end Go.Proofs.YthcmnkmfhgoddaaGreatDoor.Mb

namespace Go.Proofs.YthcmnkmfhgoddaaGreatDoor.Mb
open Go.RowKit Bnd
open Go.Proofs.YthcmnkmfhgoddaaGreatDoor.Dp (SI sorted)
set_option maxHeartbeats 8000000 in
set_option maxRecDepth 100000 in
theorem agreed_any (v : Value) (ns : List Int) (w : World) (hv : SI w w.heap.size v ns) (hl : ns.length <= 1000000) (hb : ∀ n ∈ ns,-9223372036854775808 <= n) :
  Calls Tryz.prog 40 #[v] w fun e w' => e = .returned (.int .i64 (agL ns)) /\ Below w.heap.size w w':=by
 obtain ⟨A,c,rfl⟩:=hv.form
 by_cases h0 : ns.length = 0
 ·have : ns = []:=List.eq_nil_of_length_eq_zero h0
  subst this
  simp only [List.length_nil]
  rw [show agL [] = 0 from rfl]
  clear hv hl hb h0
  go_enter Tryz.func40,Tryz.ntmps40
  go_wp2_with fail
  go_ret
  exact ⟨rfl,(by exact bex0)⟩
 ·have hpos : 0 < ns.length:=by omega
  have cV:=values_any (.slice A ns.length c) w ⟨_,_,_,rfl⟩
  have hb1 : Below w.heap.size w (w.alloc (.cells #[.slice A ns.length c] 36)):=(Below.refl _ w).alloc (Nat.le_refl _) _
  have cS:=sorted_any w.heap.size (.slice A ns.length c) ns hl hpos (w.alloc (.cells #[.slice A ns.length c] 36)) (by simp) (by simp [go_sem]) (Ints.of_si ((hv.below hb1).more hb1.size))
  have hp : (sorted ns).Perm ns:=List.mergeSort_perm ns _
  obtain ⟨hag,hat⟩:=ag_any hp (Dp.sorted_le ns) hpos hb
  have hsl : (sorted ns).length = ns.length:=hp.length_eq
  have hq : (sorted ns).length - ((sorted ns).length / 2 + 1) < (sorted ns).length:=by omega
  obtain ⟨q,hqq⟩ : ∃ q,(sorted ns).length - ((sorted ns).length / 2 + 1) = q:=⟨_,rfl⟩
  simp only [hqq] at hat hq
  obtain ⟨AG,hAG⟩ : ∃ a,agL ns = a:=⟨_,rfl⟩
  rw [hAG] at hat ⊢
  obtain ⟨nl,hnl⟩ : ∃ n,ns.length = n:=⟨_,rfl⟩
  rw [hnl] at hsl cV cS hb1 hl hpos ⊢
  have hqn : nl - (nl / 2 + 1) = q:=by rw [<- hqq,hsl]
  have cQ:=fun w' => Ds.quorum_any (nl : Int) w' (by omega) (by omega)
  have hw1 : wrap64 (q : Int) = (q : Int):=by unfold wrap64; omega
  have hw2 : (nl : Int) - ((nl : Int) / 2 + 1) = (q : Int):=by omega
  have k0 : (0 <= (q : Int)) = True:=eq_true (by omega)
  have k1 : ((q : Int) < (nl : Int)) = True:=eq_true (by omega)
  have n1 : ((nl : Int) == 0) = false:=by rw [beq_eq_false_iff_ne]; omega
  have n2 : ((nl : Int) = 0) = False:=eq_false (by omega)
  have hat2 : (sorted ns)[q]? = some AG:=by rw [List.getElem?_eq_getElem hq,hat]
  have HAT:=Lib.hid hat2
  have HSL:=Lib.hid hsl
  have HQ:=Lib.hid hq
  clear hv hb h0 hag hsl hat hat2 hq hqn hqq hnl hAG hp hl hpos
  go_enter Tryz.func40,Tryz.ntmps40
  go_wp2_with fail
  refine cV.mono ?_
  rintro e w1 ⟨rfl,rfl⟩
  go_wp2_with fail
  refine cS.mono ?_
  rintro e w2 ⟨v2,rfl,ho,hb2⟩
  have hs2:=SI.of_own ho
  obtain ⟨G,cg,rfl⟩:=hs2.form
  obtain ⟨b,o,hG,hbb,q0⟩:=hs2.at_ HQ.out
  have hat3:=HAT.out
  rw [List.getElem?_eq_getElem HQ.out] at hat3
  rw [Option.some.inj hat3] at q0
  clear hat3
  rw [HSL.out]
  have hbw:=hb1.trans (hb2.mono (by simp))
  subst hG
  clear cS cV hs2 ho hb2 hb1
  go_wp2_with fail
  refine (cQ _).mono ?_
  rintro e w3 ⟨rfl,rfl⟩
  go_wp2_with fail
  go_ret
  exact ⟨rfl,hbw⟩
end Go.Proofs.YthcmnkmfhgoddaaGreatDoor.Mb
