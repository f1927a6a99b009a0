/-
  The program's both,Merge (a range over a function) and Note. Conditions: sessions without pairs,at most 5,000 of each.
  The program's Note. Conditions: sessions without pairs,at most 4,000; what is noted may have pairs.
-/
import Derived.RangeFuncNested
import Derived.RangeFuncBox
import Derived.Test.YthcmnkmfhgoddaaGreatDoorVSsBFA
import Derived.Test.YthcmnkmfhgoddaaGreatDoorVSsSRA
namespace Go.Proofs.YthcmnkmfhgoddaaGreatDoor.Ss
open Go.RowKit Bnd
open Go.Proofs.YthcmnkmfhgoddaaGreatDoor.Od (Rep SP ArgP OwnP rv BoxR)
open Ds (Ix vals_snoc vals_length run_append2)
attribute [local go_sem] Oper.semAt_some
set_option maxHeartbeats 1000000 in
theorem both_in (n : Nat) (A D : Option Addr) (na nb ca cb : Nat) (w : World) :
  CallsIn Fence.wide n Tryz.prog 138 #[.slice A na ca,.slice D nb cb] w fun e w' => e = .returned (.func (.func 211) #[] #[.pointer (some ⟨w.heap.size,0,none⟩),.pointer (some ⟨w.heap.size + 1,0,none⟩)]) /\ w' = (w.alloc (.cells #[.slice A na ca] 35)).alloc (.cells #[.slice D nb cb] 35):=by
 refine callsIn_of_wp Tryz.func138 rfl trivial ?_ rfl
 simp only [Tryz.ntmps138,List.size_toArray,List.length_cons,List.length_nil,Nat.reduceAdd,Nat.reduceSub,Array.replicate_succ,Array.replicate_zero,List.push_toArray,List.append_toArray,List.nil_append,List.cons_append]
 gi_wp2
 go_ret
 exact ⟨rfl,rfl⟩
theorem both_stops (n : Nat) (hn : 1 <= n) (N B0 B1 m : Nat) (za zb : List Zs) (A D : Option Addr) (ca cb : Nat) (hm : Hid (m = (bothG fS za zb).length)) (hla : za.length <= 10000) (hlb : zb.length <= 10000) (hpa : NoP za) (hpb : NoP zb) (w : World) (hN : N <= w.heap.size) (h0 : B0 < w.heap.size) (h1 : B1 < w.heap.size)
  (hva : SZ w N (.slice A za.length ca) za) (hvb : SZ w N (.slice D zb.length cb) zb) (hc0 : w.cell? ⟨B0,0,none⟩ = some (.slice A za.length ca)) (hc1 : w.cell? ⟨B1,0,none⟩ = some (.slice D zb.length cb)) :
  SeqStopsK Fence.wide n Tryz.prog 211 #[.pointer (some ⟨B0,0,none⟩),.pointer (some ⟨B1,0,none⟩)] (fun x : Ix m => #[sv (nthZ za zb x.1)]) (KpB N B0 B1) (fun ys => ys.map (·.1) = List.range m) (fun pre => ∃ k,k <= m /\ pre.map (·.1) = List.range k) m w:=fun l J Jx W hW hJd _ hY h00 =>
 both1_in n hn l N B0 B1 m za zb A D ca cb hm hla hlb hpa hpb J Jx hY W (by have:=hW.size; omega) (by have:=hW.size; omega) (by have:=hW.size; omega) (hva.keep fun p hp => hW.cell (by omega)) (hvb.keep fun p hp => hW.cell (by omega)) ((hW.cell (p:=⟨B0,0,none⟩) h0).trans hc0) ((hW.cell (p:=⟨B1,0,none⟩) h1).trans hc1) hJd h00
theorem Below.boxed {N B : Nat} {W W' : World} {t : TypeId} {v : Value} (hb : Below N W W') (hB : B < N) (h : Boxed W B t v) : Boxed W' B t v:=(hb.block B hB).trans h
theorem keepsOthers_of {W W' : World} (hb : Below W.heap.size W W') : KeepsOthers W W':=⟨hb.size,fun k _ hk _ => (hb.block k (Array.getElem?_eq_some_iff.1 hk).1).trans hk⟩
theorem box_app {wy w1 : World} {tmp : Obj} {v : Value} {xs : List Zs} {B N : Nat} {t : TypeId} {u : Value} (h : Boxed wy B t u) (hrow : OwnZ wy N v xs) (k3 : (wy.alloc tmp).grownBy w1 v.ownBlock) (ht : t ≠ 89) (Lb : Nat) (hne : B ≠ Lb) (x : Value) : Boxed (w1.setCell ⟨Lb,0,none⟩ x) B t u :=
 ((Boxed.alloc h tmp).kept k3 (Boxed.not_row h ht hrow)).other hne x
structure RM (N Lb : Nat) (W : World) (v : Value) (xs : List Zs) (s : Ses) (L : Nat -> Bool) (u : Nat -> Value) (wx : World) : Prop where
 a : L 3 = false -> Below W.heap.size W wx
 b : L 3 = true -> L 4 = false -> ∃ (wy : World) (A' : Option Addr) (c' : Nat),Below W.heap.size W wy /\ u 3 = .slice (some ⟨wy.heap.size,0,none⟩) 1 1 /\ wx = wy.alloc (.cells #[.int .i64 s.client,.int .i64 s.seq,.int .i64 s.rep.code,.int .i64 s.rep.err,.bool s.rep.has,.string s.rep.val,.slice A' 0 c'] 89)
 c : L 4 = true -> L 5 = false -> ∃ (zs2 : List Zs) (wy : World) (tmp : Obj),OwnZ wx N (u 4) zs2 /\ ses zs2 = ses xs ++ [s] /\ NoP zs2 /\ Below W.heap.size W wy /\ (wy.alloc tmp).grownBy wx v.ownBlock
 d : L 5 = true -> ∃ (w9 : World) (zs2 : List Zs) (wy : World) (tmp : Obj),OwnZ w9 N (u 4) zs2 /\ ses zs2 = ses xs ++ [s] /\ NoP zs2 /\ Below W.heap.size W wy /\ (wy.alloc tmp).grownBy w9 v.ownBlock /\ wx = w9.setCell ⟨Lb,0,none⟩ (u 4)
structure MI (w : World) (m : Nat) (za zb : List Zs) (pre : List (Ix m)) (W : World) : Prop where
 row : ∃ zs',(∃ v,Boxed W (w.heap.size + 1 + 1) 35 v /\ W.ownsRow (w.heap.size + 1 + 1) 89 7 v zs'.length (zcells zs') /\ True) /\ ses zs' = pre.map (fun x => (nthZ za zb x.1).1) /\ NoP zs' /\ pre.length <= 64
 r0 : Boxed W w.heap.size 35 (.slice none 0 0)
 r1 : Boxed W (w.heap.size + 1) 48 (.int .i64 0)
 low : Below w.heap.size w W
theorem mi_own (w : World) (m : Nat) (za zb : List Zs) (B : Nat) (hB : w.heap.size <= B) : OwnFrom B (fun (pre : List (Ix m)) W => MI w m za zb pre W):=by
 intro pre X Y row h hg hr
 have hr2 : ∀ r,row = some r -> ∃ o : Obj,X.heap[r]? = some o /\ o.isCells = false:=fun r e => (hr r e).2
 obtain ⟨⟨zs',h1,h2⟩,h3,h4,h5⟩:=h
 exact ⟨⟨zs',holdsRow_own (w.heap.size + 1 + 1) (w.heap.size + 1 + 1) 35 89 7 (fun q : List Zs => q.length) (fun q => zcells q) (fun _ _ => True) zs' X Y row h1 hg hr2,h2⟩,
  boxed_own w.heap.size _ (fun _ : Unit => .slice none 0 0) () X Y row h3 hg hr2,boxed_own (w.heap.size + 1) _ (fun _ : Unit => .int .i64 0) () X Y row h4 hg hr2,ownFrom_below (β:=Unit) (Nat.le_refl _) hB () X Y row h5 hg hr⟩
theorem boxS_own (n : Nat) (z : Zs) : Own (fun (_ : Unit) W => BoxS n z W):=by
 rintro _ X Y row ⟨h0,⟨c1,c2,c3,c4,c5,c6,c7⟩,hf⟩ hg hr
 exact ⟨Nat.lt_of_lt_of_le h0 hg.size,⟨cell_kept c1 hg hr,cell_kept c2 hg hr,cell_kept c3 hg hr,cell_kept c4 hg hr,cell_kept c5 hg hr,cell_kept c6 hg hr,cell_kept c7 hg hr⟩,fun o => by
  obtain ⟨ob,ho,hc⟩:=cells_of_cell c1
  have e : Y.frozen? ⟨n,o,none⟩ = X.frozen? ⟨n,o,none⟩:=World.frozen?_of_block (grownBy_keeps_cells hg hr ho hc)
  rw [e]
  exact hf o⟩
theorem nthZ_form {za zb : List Zs} (hpa : NoP za) (hpb : NoP zb) (k : Nat) : ∃ s S g,nthZ za zb k = (s,.slice S 0 g):=by
 unfold nthZ
 rw [List.getD_eq_getElem?_getD]
 rcases Nat.lt_or_ge k (bothG fS za zb).length with h | h
 ·rw [List.getElem?_eq_getElem h]
  have hz:=List.getElem_mem h
  rcases bothG_mem fS _ za zb (Nat.le_refl _) _ hz with h' | h'
  ·obtain ⟨_,A,c,e⟩:=hpa _ h'
   exact ⟨_,A,c,Prod.ext rfl e⟩
  ·obtain ⟨_,A,c,e⟩:=hpb _ h'
   exact ⟨_,A,c,Prod.ext rfl e⟩
 ·rw [List.getElem?_eq_none h]
  exact ⟨_,_,_,rfl⟩
theorem fits_nop {za zb : List Zs} {m k : Nat} {s : Ses} {S : Value} (hp : NoP (bothG fS za zb)) (hs : nthZ za zb k = (s,S)) (hm : m = (bothG fS za zb).length) (hk : k < m) : s.rep.ps = []:=by
 unfold nthZ at hs
 rw [List.getD_eq_getElem?_getD,List.getElem?_eq_getElem (by omega)] at hs
 have:=(hp _ (List.getElem_mem (by omega : k < (bothG fS za zb).length))).1
 have e : (bothG fS za zb)[k] = (s,S):=hs
 rw [e] at this
 exact this
theorem mergeS_of {za zb : List Zs} {m : Nat} (hm : m = (bothG fS za zb).length) : mergeS (ses za) (ses zb) = if m <= 64 then (ses (bothG fS za zb),0) else ([],6):=by
 have e : bothS (ses za) (ses zb) = ses (bothG fS za zb):=(bothG_map fS (fun s => s) (fun z : Zs => z.1) (fun _ => rfl) _ za zb (Nat.le_refl _)).symm
 unfold mergeS
 rw [e,hm]
 simp
set_option maxRecDepth 100000 in
set_option maxHeartbeats 8000000 in
theorem merge_in (A D : Option Addr) (ca cb : Nat) (za zb : List Zs) (w : World) (hva : SZ w w.heap.size (.slice A za.length ca) za) (hvb : SZ w w.heap.size (.slice D zb.length cb) zb) (hpa : NoP za) (hpb : NoP zb) (hla : za.length <= 5000) (hlb : zb.length <= 5000) :
  CallsIn Fence.wide 5 Tryz.prog 66 #[.slice A za.length ca,.slice D zb.length cb] w fun e w' => NoteOut w (mergeS (ses za) (ses zb)) e w':=by
 obtain ⟨m,hm⟩ : ∃ m,m = (bothG fS za zb).length:=⟨_,rfl⟩
 have HANS:=Lib.hid (mergeS_of hm)
 have hmr : m <= 10000:=by rw [hm]; have:=bothG_length fS _ za zb (Nat.le_refl _); omega
 have HM:=Lib.hid hm
 have HPA : NoP (bothG fS za zb):=fun z hz => by
  rcases bothG_mem fS _ za zb (Nat.le_refl _) z hz with h | h
  ·exact hpa z h
  ·exact hpb z h
 clear hm
 obtain ⟨na,hna⟩ : ∃ n,za.length = n:=⟨_,rfl⟩
 obtain ⟨nb,hnb⟩ : ∃ n,zb.length = n:=⟨_,rfl⟩
 have HNA:=Lib.hid hna
 have HNB:=Lib.hid hnb
 have HVA:=Lib.hid hva
 have HVB:=Lib.hid hvb
 rw [hna] at hla ⊢
 rw [hnb] at hlb ⊢
 clear hna hnb hva hvb
 refine callsIn_of_wp_marks Tryz.func66 rfl trivial ?_ rfl
 simp only [Tryz.ntmps66,List.size_toArray,List.length_cons,List.length_nil,Nat.reduceAdd,Nat.reduceSub,Array.replicate_succ,Array.replicate_zero,List.push_toArray,List.append_toArray,List.nil_append,List.cons_append]
 gi_wp2_with (refine ⟨trivial,?_⟩; gi_at_call 138; refine (both_in 4 _ _ _ _ _ _ _).mono ?_; rintro e w2 ⟨rfl,rfl⟩)
 obtain ⟨W0,hW0⟩ : ∃ W0,((((w.alloc (.cells #[.slice none 0 0] 35)).alloc (.cells #[.int .i64 0] 48)).alloc (.cells #[.slice none 0 0] 35)).alloc (.cells #[.slice A na ca] 35)).alloc (.cells #[.slice D nb cb] 35) = W0:=⟨_,rfl⟩
 have b0 : Boxed W0 w.heap.size 35 (.slice none 0 0):=hW0 ▸ ((((Boxed.new w 35 (.slice none 0 0)).alloc _).alloc _).alloc _).alloc _
 have b1 : Boxed W0 (w.heap.size + 1) 48 (.int .i64 0):=by
  have:=(((Boxed.new (w.alloc (.cells #[.slice none 0 0] 35)) 48 (.int .i64 0)).alloc (.cells #[.slice none 0 0] 35)).alloc (.cells #[.slice A na ca] 35)).alloc (.cells #[.slice D nb cb] 35)
  rw [World.size_alloc] at this; exact hW0 ▸ this
 have b2 : Boxed W0 (w.heap.size + 1 + 1) 35 (.slice none 0 0):=by
  have:=((Boxed.new ((w.alloc (.cells #[.slice none 0 0] 35)).alloc (.cells #[.int .i64 0] 48)) 35 (.slice none 0 0)).alloc (.cells #[.slice A na ca] 35)).alloc (.cells #[.slice D nb cb] 35)
  rw [World.size_alloc,World.size_alloc] at this; exact hW0 ▸ this
 have b3 : Boxed W0 (w.heap.size + 1 + 1 + 1) 35 (.slice A na ca):=by
  have:=(Boxed.new (((w.alloc (.cells #[.slice none 0 0] 35)).alloc (.cells #[.int .i64 0] 48)).alloc (.cells #[.slice none 0 0] 35)) 35 (.slice A na ca)).alloc (.cells #[.slice D nb cb] 35)
  rw [World.size_alloc,World.size_alloc,World.size_alloc] at this; exact hW0 ▸ this
 have b4 : Boxed W0 (w.heap.size + 1 + 1 + 1 + 1) 35 (.slice D nb cb):=by
  have:=Boxed.new ((((w.alloc (.cells #[.slice none 0 0] 35)).alloc (.cells #[.int .i64 0] 48)).alloc (.cells #[.slice none 0 0] 35)).alloc (.cells #[.slice A na ca] 35)) 35 (.slice D nb cb)
  rw [World.size_alloc,World.size_alloc,World.size_alloc,World.size_alloc] at this; exact hW0 ▸ this
 have hB0 : Below w.heap.size w W0:=hW0 ▸ (by exact bex0)
 have hz0 : W0.heap.size = w.heap.size + 5:=by rw [<- hW0]; simp
 have hsa : SZ W0 w.heap.size (.slice A za.length ca) za:=HVA.out.keep fun p hp => hB0.cell hp
 have hsb : SZ W0 w.heap.size (.slice D zb.length cb) zb:=HVB.out.keep fun p hp => hB0.cell hp
 have c3:=b3.cell
 have c4:=b4.cell
 rw [<- HNA.out] at c3
 rw [<- HNB.out] at c4
 rw [hW0]
 clear hW0
 refine wpIn_rangeFunc_ownH (w0:=W0) (N:=m) rfl (by omega) (gf:=211) (lb:=#[.pointer (some ⟨w.heap.size + 1 + 1 + 1,0,none⟩),.pointer (some ⟨w.heap.size + 1 + 1 + 1 + 1,0,none⟩)]) rfl trivial (enters_of Tryz.func211 (by kernel_rfl) rfl)
  (both_stops 4 (by omega) w.heap.size (w.heap.size + 1 + 1 + 1) (w.heap.size + 1 + 1 + 1 + 1) m za zb A D ca cb HM (by have:=HNA.out; omega) (by have:=HNB.out; omega) hpa hpb W0 (by omega) (by omega) (by omega) hsa hsb c3 c4) kpB_t (kpB_b (by omega) (by omega) (by omega)) (Below.refl _ _) (fun _ => rfl)
  (fun pre W => MI w m za zb pre W /\ (Boxed W (w.heap.size + 1 + 1 + 1) 35 (.slice A na ca) /\ Boxed W (w.heap.size + 1 + 1 + 1 + 1) 35 (.slice D nb cb)))
  (fun c pre W => c = .ret /\ pre.length = 65 /\ (W.cell? ⟨w.heap.size,0,none⟩ = some (.slice none 0 0) /\ W.cell? ⟨w.heap.size + 1,0,none⟩ = some (.int .i64 6)) /\ Below w.heap.size w W)
  (OwnFrom.and (mi_own w m za zb _ (by omega)) (OwnFrom.and (Own.from (boxed_own _ _ (fun _ => _)) _) (Own.from (boxed_own _ _ (fun _ => _)) _)))
  (fun c s X Y row hs hg hr => ⟨hs.1,hs.2.1,⟨cell_kept hs.2.2.1.1 hg (fun r e => (hr r e).2),cell_kept hs.2.2.1.2 hg (fun r e => (hr r e).2)⟩,(ownFrom_below (β:=Unit) (n₀:=w.heap.size) (B:=W0.heap.size) (w₀:=w) (Nat.le_refl _) (by omega)) () X Y row hs.2.2.2 hg hr⟩)
  ⟨⟨⟨[],⟨_,b2,World.ownsRow_nil _ _ _ _,trivial⟩,by simp,(fun z hz => by cases hz),by simp⟩,b0,b1,hB0⟩,b3,b4⟩
  (fun x a' W => ∃ Bx,w.heap.size + 1 + 1 + 1 + 1 < Bx /\ BoxS Bx (nthZ za zb x.1) W /\ a' = { tmps:=#[.slice A na ca,.slice D nb cb,undef,undef,.pointer (some ⟨w.heap.size,0,none⟩),.pointer (some ⟨w.heap.size + 1,0,none⟩),.pointer (some ⟨w.heap.size + 1 + 1,0,none⟩),.pointer (some ⟨Bx,0,none⟩),.slice A na ca,.slice D nb cb,.func (.func 211) #[] #[.pointer (some ⟨w.heap.size + 1 + 1 + 1,0,none⟩),.pointer (some ⟨w.heap.size + 1 + 1 + 1 + 1,0,none⟩)],sv (nthZ za zb x.1),undef,undef,undef,undef,undef,undef,undef,undef,undef],defers:=[] })
  (fun x a' _ X Y row hs hg hr => by obtain ⟨Bx,h1,h2,h3⟩:=hs; exact ⟨Bx,h1,boxS_own Bx _ () X Y row h2 hg (fun r e => (hr r e).2),h3⟩)
  ?assign ?body ?done ?stop
 case assign =>
  rintro l pre x W K ⟨hI,hx3,hx4⟩ hK
  have hzW:=hI.low.size
  have hlW:=hx4.lt
  obtain ⟨s,S,g,hs⟩:=nthZ_form hpa hpb x.1
  simp only [hs] at hK ⊢
  unfold sv
  have HS:=Lib.hid hs
  clear hs
  gi_wp2
  refine hK _ _ ((KeepsOthers.alloc _ _).from _) (kpB_of ((Below.refl _ W).alloc (Nat.le_refl _) _) (by omega) (by omega) (by omega)) ⟨(mi_own w m za zb _ (Nat.le_refl _)).alloc (s:=pre) _ hI,hx3.alloc _,hx4.alloc _⟩ ⟨W.heap.size,by omega,BoxS.new W (s,.slice S 0 g),rfl⟩
 case body =>
  rintro l pre x a' W hl ⟨r,hr⟩ ⟨⟨⟨zs',⟨v,hv,hrow,_⟩,hses,hnp,h64⟩,hr0,hr1,hlow⟩,hx3,hx4⟩ ⟨Bx,hBx,bX,rfl⟩ hlt
  obtain ⟨s,S,g,hs⟩:=nthZ_form hpa hpb x.1
  obtain ⟨k,hk⟩ : ∃ k,pre.length = k:=⟨_,rfl⟩
  rw [hk] at h64 hlt
  have hkz : zs'.length = k:=by
   have h1:=congrArg List.length hses
   simp only [List.length_map] at h1
   omega
  have HK:=Lib.hid hk
  have HKZ:=Lib.hid hkz
  have HS:=Lib.hid hs
  have HSES:=Lib.hid hses
  rw [hs] at bX
  simp only [hs]
  unfold sv
  obtain ⟨A7,c7,rfl⟩ : ∃ A7 c7,v = .slice A7 k c7:=by
   rcases hrow.2 with ⟨rfl,h0⟩ | ⟨g',cap',cur',rfl,_⟩
   ·exact ⟨none,0,by rw [<- hkz,h0]⟩
   ·exact ⟨_,_,by rw [hkz]⟩
  have hzW:=hlow.size
  have hlW:=hx4.lt
  have hvl:=hv.lt
  have d2:=hv.cell
  have f2:=hv.frozen
  have d0:=hr0.cell
  have f0:=hr0.frozen
  have d1:=hr1.cell
  have f1:=hr1.frozen
  have hrow' : OwnZ W (w.heap.size + 1 + 1) (.slice A7 k c7) zs':=hrow
  clear hkz hk hs hses hrow
  by_cases h : k = 64
  ·have e1 : ((k : Int) == 64) = true:=by subst h; rfl
   have e2 : ((k : Int) = 64) = True:=eq_true (by omega)
   have HH:=Lib.hid h
   clear h bX
   gi_wp2
   exact ⟨((KeepsOthers.setCell _ _ _).trans (KeepsOthers.setCell _ _ _)).from _,rfl,by rw [List.length_append,HK.out,HH.out]; rfl,⟨by simp [go_sem,d0],by simp [go_sem,d1]⟩,
    (hlow.setCell (p:=⟨w.heap.size,0,none⟩) (Nat.le_refl _) _).setCell (p:=⟨w.heap.size + 1,0,none⟩) (show w.heap.size <= w.heap.size + 1 by omega) _⟩
  ·have e1 : ((k : Int) == 64) = false:=beq_false_of_ne (by omega)
   have e2 : ((k : Int) = 64) = False:=eq_false (by omega)
   have hk63 : k <= 63:=by omega
   clear h
   gi_wp2
   have hOW : OwnZ W.drew (w.heap.size + 1 + 1) (.slice A7 k c7) zs':=hrow'
   refine St.wpIn_region_calls (RM (w.heap.size + 1 + 1) (w.heap.size + 1 + 1) W (.slice A7 k c7) zs' s) (fun _ x => ∃ A' c',x = sv (s,.slice A' 0 c')) (fun _ => trivial) (fun h => by cases h) (fun _ _ _ _ h => CallsIn.inRound l (callsIn_wide.2 h)) (by kernel_rfl) (by kernel_rfl) (by kernel_rfl) (by kernel_rfl)
    ⟨fun _ => (Below.refl _ W).drew,fun h => (by cases h),fun h => (by cases h),fun h => (by cases h)⟩ ?_
   apply St.mix_give
   ·rfl
   ·intro L u' wx hS hcl hrd hag
    have h4:=St.not_yet hcl hrd 40 4 (by kernel_rfl)
    have y2 : wx.cell? ⟨w.heap.size + 1 + 1,0,none⟩ = some (.slice A7 k c7):=by
     cases h3 : L 3 with
     | false => exact ((hS.a h3).cell (p:=⟨w.heap.size + 1 + 1,0,none⟩) hvl).trans d2
     | true =>
      obtain ⟨wy,A',c',hby,_,rfl⟩:=hS.b h3 h4
      exact (World.cell?_alloc_lt wy _ ⟨w.heap.size + 1 + 1,0,none⟩ (Nat.lt_of_lt_of_le hvl hby.size)).trans ((hby.cell (p:=⟨w.heap.size + 1 + 1,0,none⟩) hvl).trans d2)
    go_simp
    try with_reducible rfl
   ·exact fun L u' wx hS => ⟨hS.a,hS.b,hS.c,hS.d⟩
   simp only [Act.put,St.pu]
   apply St.mix_give
   ·rfl
   ·intro L u' wx hS hcl hrd hag
    have h3:=St.not_yet hcl hrd 40 3 (by kernel_rfl)
    obtain ⟨x_0,⟨x_1,x_2,x_3,x_4,x_5,x_6,x_7⟩,x_8⟩:=bX.keep (hS.a h3)
    go_simp
    try with_reducible rfl
   ·exact fun L u' wx hS => ⟨hS.a,hS.b,hS.c,hS.d⟩
   simp only [Act.put,St.pu]
   refine St.mix_call (f:=139) (args:=#[sv (s,.slice S 0 g)]) rfl ?_ ?_ ?_
   ·intro wx
    go_simp
    try with_reducible rfl
   ·intro L u' wx hS hcl hrd hag
    have h3:=St.not_yet hcl hrd 40 3 (by kernel_rfl)
    have h4:=St.not_yet hcl hrd 40 4 (by kernel_rfl)
    have h5:=St.not_yet hcl hrd 40 5 (by kernel_rfl)
    refine (own0 s S g wx).mono ?_
    rintro e w' ⟨⟨A',c',rfl⟩,hb'⟩
    exact ⟨_,rfl,⟨A',c',rfl⟩,⟨fun _ => (hS.a h3).trans (hb'.mono (hS.a h3).size),fun h => (by rw [show St.mark L 2 3 = L 3 from rfl,h3] at h; cases h),fun h => (by rw [show St.mark L 2 4 = L 4 from rfl,h4] at h; cases h),fun h => (by rw [show St.mark L 2 5 = L 5 from rfl,h5] at h; cases h)⟩⟩
   rintro _ ⟨A',c',rfl⟩
   simp only [Act.put,St.pu]
   refine St.mix_free (fun z => ∃ n : Nat,z = .slice (some ⟨n,0,none⟩) 1 1) rfl ?_ ?_
   ·intro L u' wx hS hcl hrd hag
    have h4:=St.not_yet hcl hrd 40 4 (by kernel_rfl)
    have h5:=St.not_yet hcl hrd 40 5 (by kernel_rfl)
    have hb:=hS.a hrd.1
    refine ⟨_,_,⟨wx.heap.size,rfl⟩,?_,⟨fun h => (by simp [St.mark] at h),fun _ _ => ⟨wx,A',c',hb,rfl,rfl⟩,fun h => (by rw [show St.mark L 3 4 = L 4 from rfl,h4] at h; cases h),fun h => (by rw [show St.mark L 3 5 = L 5 from rfl,h5] at h; cases h)⟩⟩
    unfold sv
    go_simp
    try with_reducible rfl
   rintro _ ⟨n3,rfl⟩
   simp only [Act.put,St.pu]
   refine St.mix_free (fun z => ∃ A c,z = .slice A (k + 1) c) rfl ?_ ?_
   ·intro L u' wx hS hcl hrd hag
    have h3:=St.before_ready hcl hrd 40 3 (by kernel_rfl)
    have h5:=St.not_yet hcl hrd 40 5 (by kernel_rfl)
    obtain ⟨wy,A2,c2,hby,hu3,rfl⟩:=hS.b h3 hrd.1
    have hu : u' 3 = .slice (some ⟨n3,0,none⟩) 1 1:=hag 40 3 (by kernel_rfl)
    obtain rfl : n3 = wy.heap.size:=by
     rw [hu] at hu3
     injection hu3 with hu3 _ _
     injection hu3 with hu3
     injection hu3 with hu3 _ _
    have hOy : OwnZ wy (w.heap.size + 1 + 1) (.slice A7 k c7) zs':=ownZ_keep hrow' hby
    have hOa:=ownZ_alloc hOy (.cells #[.int .i64 s.client,.int .i64 s.seq,.int .i64 s.rep.code,.int .i64 s.rep.err,.bool s.rep.has,.string s.rep.val,.slice A2 0 c2] 89)
    have hSZ:=(argZ_one wy (s,.slice A2 0 c2)).sz
    have hyz:=hby.size
    obtain ⟨v',w',k1,k2,k3,k4⟩:=run_append_zs hOa (by simp; omega) (b:=wy.heap.size) (o':=0) (c:=1) (ys:=[(s,.slice A2 0 c2)]) hSZ (fun z hz => by simp at hz; subst hz; rfl) (by have:=HKZ.out; simp; omega)
    refine ⟨v',w',?_,run_append2 rfl rfl rfl k1,⟨fun h => (by rw [show St.mark L 4 3 = L 3 from rfl,h3] at h; cases h),fun _ h => (by simp [St.mark] at h),fun _ _ => ⟨zs' ++ [(s,Value.slice A2 0 c2)],wy,_,k2,by simp [ses],?_,hby,k4⟩,fun h => (by rw [show St.mark L 4 5 = L 5 from rfl,h5] at h; cases h)⟩⟩
    ·obtain ⟨A',c',hv'⟩:=(SZ.of_own k2).form
     have:=HKZ.out
     rw [List.length_append,this] at hv'
     exact ⟨A',c',hv'⟩
    ·intro z hz
     rcases List.mem_append.1 hz with hz | hz
     ·exact hnp z hz
     ·simp at hz
      subst hz
      exact ⟨fits_nop HPA HS.out HM.out x.2,A2,c2,rfl⟩
   rintro y9 ⟨A9,c9,rfl⟩
   simp only [Act.put,St.pu]
   refine St.mix_skip rfl ?_ ?_
   ·intro L u' wx hS hcl hrd hag
    have h4:=St.before_ready hcl hrd 40 4 (by kernel_rfl)
    have h3:=St.before_ready hcl hrd 40 3 (by kernel_rfl)
    obtain ⟨zs2,wy,tmp,k2,k5,k6,hby,k4⟩:=hS.c h4 hrd.1
    have hu : u' 4 = .slice A9 (k + 1) c9:=hag 40 4 (by kernel_rfl)
    have hvy:=Below.boxed hby hvl hv
    have hv1:=(Boxed.alloc hvy tmp).kept k4 (Boxed.not_row hvy (by decide) (ownZ_keep hrow' hby))
    have c1:=hv1.cell
    have f1:=hv1.frozen
    refine ⟨wx.setCell ⟨w.heap.size + 1 + 1,0,none⟩ (u' 4),?_,⟨fun h => (by rw [show St.mark L 5 3 = L 3 from rfl,h3] at h; cases h),fun _ h => (by rw [show St.mark L 5 4 = L 4 from rfl,h4] at h; cases h),fun _ h => (by simp [St.mark] at h),fun _ => ⟨wx,zs2,wy,tmp,k2,k5,k6,hby,k4,rfl⟩⟩⟩
    rw [hu]
    go_simp
    try with_reducible rfl
   simp only [Act.put]
   refine St.mix_last ?_
   intro L wx hS hall
   obtain ⟨w9,zs2,wy,tmp,k2,k5,k6,hby,k4,hwx⟩:=hS.d (hall 5 (by decide))
   have k2' : OwnZ w9 (w.heap.size + 1 + 1) (.slice A9 (k + 1) c9) zs2:=k2
   have hwx' : wx = w9.setCell ⟨w.heap.size + 1 + 1,0,none⟩ (.slice A9 (k + 1) c9):=hwx
   subst hwx'
   have hvy:=Below.boxed hby hvl hv
   have hry : OwnZ wy (w.heap.size + 1 + 1) (.slice A7 k c7) zs':=ownZ_keep hrow' hby
   have hyz:=hby.size
   obtain ⟨hv1,hv2,hr2,hk2,hb2⟩:=Boxed.appended hvy (by decide) hry (by omega) (Nat.le_refl _) k2' k4
   have q0:=box_app (Below.boxed hby (by omega) hr0) hry k4 (by decide) (w.heap.size + 1 + 1) (by omega) (.slice A9 (k + 1) c9)
   have q1:=box_app (Below.boxed hby (by omega) hr1) hry k4 (by decide) (w.heap.size + 1 + 1) (by omega) (.slice A9 (k + 1) c9)
   have q3:=box_app (Below.boxed hby (by omega) hx3) hry k4 (by decide) (w.heap.size + 1 + 1) (by omega) (.slice A9 (k + 1) c9)
   have q4:=box_app (Below.boxed hby (by omega) hx4) hry k4 (by decide) (w.heap.size + 1 + 1) (by omega) (.slice A9 (k + 1) c9)
   clear hS hall k2 k4 hwx hv1 hvy hry
   gi_wp2
   have hbW : Below (w.heap.size + 1 + 1) W (w9.setCell ⟨w.heap.size + 1 + 1,0,none⟩ (.slice A9 (k + 1) c9)):=(hby.mono (by omega)).trans hb2
   refine ⟨((keepsOthers_of hby).trans hk2).from _,⟨fun q hq => hbW.cell (Nat.lt_of_lt_of_le hq (by omega)),q3.cell.trans hx3.cell.symm,q4.cell.trans hx4.cell.symm,hbW.size⟩,⟨⟨zs2,⟨_,hv2,?_,trivial⟩,?_,k6,?_⟩,q0,q1,hlow.trans (hbW.mono (by omega))⟩,q3,q4⟩
   ·have h1:=congrArg List.length k5
    have h2:=HKZ.out
    simp only [List.length_map,List.length_append,List.length_singleton] at h1
    rw [show zs2.length = k + 1 by omega]
    rw [show zs2.length = k + 1 by omega] at hr2
    exact hr2
   ·rw [k5,HSES.out,List.map_append,List.map_singleton,HS.out]
   ·rw [List.length_append,HK.out]; simp; omega
 case done =>
  rintro D ys W hD hys ⟨⟨⟨zs',⟨v,hv,hrow,_⟩,hses,hnp,h64⟩,hr0,hr1,hlow⟩,hx3,hx4⟩ hK
  have hyl : ys.length = m:=vals_length hys
  have hzl : zs'.length = m:=by
   have h1:=congrArg List.length hses
   simp only [List.length_map] at h1
   omega
  have hrow' : OwnZ W (w.heap.size + 1 + 1) v zs':=hrow
  have hres : ses zs' = ses (bothG fS za zb):=by
   rw [hses,show ys.map (fun x => (nthZ za zb x.1).1) = (ys.map (·.1)).map (fun k => (nthZ za zb k).1) by rw [List.map_map]; rfl,hys]
   refine List.ext_getElem (by have:=HM.out; simp; omega) fun i h1 h2 => ?_
   simp only [List.length_map,List.length_range] at h1 h2
   simp only [List.getElem_map,List.getElem_range]
   unfold nthZ
   rw [List.getD_eq_getElem?_getD,List.getElem?_eq_getElem h2]
   rfl
  have hle : m <= 64:=by omega
  have hans : mergeS (ses za) (ses zb) = (ses (bothG fS za zb),0):=by rw [HANS.out,if_pos hle]
  obtain ⟨A7,c7,rfl⟩ : ∃ A7 c7,v = .slice A7 zs'.length c7:=by
   rcases hrow.2 with ⟨rfl,h0⟩ | ⟨g',cap',cur',rfl,_⟩
   ·exact ⟨none,0,by rw [h0]⟩
   ·exact ⟨_,_,rfl⟩
  have d2:=hv.cell
  have d0:=hr0.cell
  have f0:=hr0.frozen
  have d1:=hr1.cell
  have f1:=hr1.frozen
  have hzW:=hlow.size
  have hlW:=hx4.lt
  have HRES:=Lib.hid hres
  have HAN:=Lib.hid hans
  have HROW:=Lib.hid hrow'
  clear hres hans hzl hyl hses hrow hrow'
  gi_wp2
  have hK':=((KeepsOthers.setCell W ⟨w.heap.size,0,none⟩ (.slice A7 zs'.length c7)).trans (KeepsOthers.setCell _ ⟨w.heap.size + 1,0,none⟩ (.int .i64 0))).same D _ hK rfl
  refine ⟨by simp,.inl ⟨_,_,rfl,run_takeDeferred hK',?_⟩⟩
  have hc5:=cell_kept (show ((W.setCell ⟨w.heap.size,0,none⟩ (.slice A7 zs'.length c7)).setCell ⟨w.heap.size + 1,0,none⟩ (.int .i64 0)).cell? ⟨w.heap.size,0,none⟩ = some (.slice A7 zs'.length c7) by simp [go_sem,d0]) (grownBy_putObj' _ D (.deferred none)) (fun r e => by cases e; exact ⟨_,hK',rfl⟩)
  have hc6:=cell_kept (show ((W.setCell ⟨w.heap.size,0,none⟩ (.slice A7 zs'.length c7)).setCell ⟨w.heap.size + 1,0,none⟩ (.int .i64 0)).cell? ⟨w.heap.size + 1,0,none⟩ = some (.int .i64 0) by simp [go_sem,d1]) (grownBy_putObj' _ D (.deferred none)) (fun r e => by cases e; exact ⟨_,hK',rfl⟩)
  have hrow2 : OwnZ ((W.setCell ⟨w.heap.size,0,none⟩ (.slice A7 zs'.length c7)).setCell ⟨w.heap.size + 1,0,none⟩ (.int .i64 0)) (w.heap.size + 1 + 1) (.slice A7 zs'.length c7) zs' :=
   ownZ_set (ownZ_set HROW.out (show w.heap.size < w.heap.size + 1 + 1 by omega) _) (show w.heap.size + 1 < w.heap.size + 1 + 1 by omega) _
  refine ⟨.tuple #[.slice A7 zs'.length c7,.int .i64 0],by simp [results,Tryz.results66,go_sem,hc5,hc6],?_⟩
  rw [HAN.out]
  exact ⟨_,zs',rfl,HRES.out,ArgZ.of_own (ownsRow_putObj hrow2 _ hK' rfl),hnp,((hlow.setCell (p:=⟨w.heap.size,0,none⟩) (Nat.le_refl _) _).setCell (p:=⟨w.heap.size + 1,0,none⟩) (show w.heap.size <= w.heap.size + 1 by omega) _).trans (belowK_b (w:=w) (Nat.le_refl _) _ D _ _ (by omega) hK' rfl rfl)⟩
 case stop =>
  rintro D c pre W hD ⟨k,hk,hpk⟩ ⟨rfl,h65,⟨r0,r1⟩,hB⟩ hK
  have hle : ¬ m <= 64:=by
   have:=vals_length hpk
   omega
  have hans : mergeS (ses za) (ses zb) = ([],6):=by rw [HANS.out,if_neg hle]
  have HAN:=Lib.hid hans
  clear hans hpk
  gi_wp2
  refine ⟨by simp,.inl ⟨_,_,rfl,run_takeDeferred hK,?_⟩⟩
  have hc5:=cell_kept r0 (grownBy_putObj' _ D (.deferred none)) (fun r e => by cases e; exact ⟨_,hK,rfl⟩)
  have hc6:=cell_kept r1 (grownBy_putObj' _ D (.deferred none)) (fun r e => by cases e; exact ⟨_,hK,rfl⟩)
  refine ⟨.tuple #[.slice none 0 0,.int .i64 6],by simp [results,Tryz.results66,go_sem,hc5,hc6],?_⟩
  rw [HAN.out]
  exact NoteOut.none (hB.trans (belowK_b (w:=w) (Nat.le_refl _) W D _ _ (by omega) hK rfl rfl))
theorem merge_any (va vb : Value) (za zb : List Zs) (w : World) (hva : SZ w w.heap.size va za) (hvb : SZ w w.heap.size vb zb) (hpa : NoP za) (hpb : NoP zb) (hla : za.length <= 5000) (hlb : zb.length <= 5000) :
  Calls Tryz.prog 66 #[va,vb] w fun e w' => NoteOut w (mergeS (ses za) (ses zb)) e w':=by
 obtain ⟨A,ca,rfl⟩:=hva.form
 obtain ⟨D,cb,rfl⟩:=hvb.form
 exact callsIn_wide.1 (merge_in A D ca cb za zb w hva hvb hpa hpb hla hlb)
end Go.Proofs.YthcmnkmfhgoddaaGreatDoor.Ss

namespace Go.Proofs.YthcmnkmfhgoddaaGreatDoor.Ss
open Go.RowKit Bnd
open Go.Proofs.YthcmnkmfhgoddaaGreatDoor.Od (Rep SP ArgP OwnP rv BoxR)
theorem chk_one (s : Ses) : chkS [s] = if fitsB s = true then 0 else 80:=by unfold chkS; rw [one_is]
set_option maxHeartbeats 8000000 in
set_option maxRecDepth 100000 in
theorem note_any (v : Value) (zs : List Zs) (s : Ses) (p : Value) (w : World) (hv : SZ w w.heap.size v zs) (hp : NoP zs) (hl : zs.length <= 4000) (hsp : SP w w.heap.size p s.rep.ps) (f : FitZ s) :
  Calls Tryz.prog 191 #[v,sv (s,p)] w fun e w' => NoteOut w (noteS (ses zs) s) e w':=by
 obtain ⟨pA,pc,rfl⟩:=hsp.form
 obtain ⟨A,c,rfl⟩:=hv.form
 obtain ⟨P,hP⟩ : ∃ P,Value.slice pA s.rep.ps.length pc = P:=⟨_,rfl⟩
 have hP1 : P.oneCell' = true:=by rw [<- hP]; rfl
 obtain ⟨W0,hW0⟩ : ∃ W0,(w.alloc (.cells #[.int .i64 s.client,.int .i64 s.seq,.int .i64 s.rep.code,.int .i64 s.rep.err,.bool s.rep.has,.string s.rep.val,.slice pA s.rep.ps.length pc] 89)).alloc (.cells #[.int .i64 s.client,.int .i64 s.seq,.int .i64 s.rep.code,.int .i64 s.rep.err,.bool s.rep.has,.string s.rep.val,.slice pA s.rep.ps.length pc] 89) = W0:=⟨_,rfl⟩
 have hb0 : Below w.heap.size w W0:=by rw [<- hW0]; exact ((Below.refl _ w).alloc (Nat.le_refl _) _).alloc (by simp) _
 have hz0:=hb0.size
 have hone : SZ W0 W0.heap.size (.slice (some ⟨w.heap.size + 1,0,none⟩) 1 1) [(s,.slice pA s.rep.ps.length pc)]:=by
  obtain ⟨w9,hw9⟩ : ∃ w9,w.alloc (.cells #[.int .i64 s.client,.int .i64 s.seq,.int .i64 s.rep.code,.int .i64 s.rep.err,.bool s.rep.has,.string s.rep.val,.slice pA s.rep.ps.length pc] 89) = w9:=⟨_,rfl⟩
  have h9 : w9.heap.size = w.heap.size + 1:=by rw [<- hw9]; simp
  rw [hw9] at hW0
  have:=(argZ_one w9 (s,.slice pA s.rep.ps.length pc)).sz
  rw [<- hW0,<- h9]
  exact this
 have hpz : PZ W0 W0.heap.size [(s,.slice pA s.rep.ps.length pc)]:=fun z hz => by
  simp only [List.mem_singleton] at hz
  subst hz
  exact (hsp.below hb0).more hb0.size
 have cc:=check_any _ [(s,.slice pA s.rep.ps.length pc)] W0 hone hpz (fun z hz => by simp only [List.mem_singleton] at hz; subst hz; exact f) (by simp)
 rw [show ses [(s,Value.slice pA s.rep.ps.length pc)] = [s] from rfl,chk_one] at cc
 obtain ⟨n,hn⟩ : ∃ n,zs.length = n:=⟨_,rfl⟩
 obtain ⟨k,hk⟩ : ∃ k,s.rep.ps.length = k:=⟨_,rfl⟩
 cases hf : fitsB s with
 | false =>
  rw [show noteS (ses zs) s = ([],80) by unfold noteS; rw [one_is,hf]; rfl]
  rw [hf,if_neg (by simp)] at cc
  rw [hn] at hv ⊢
  rw [hk] at hW0 ⊢
  clear hf hn hk hP hone hpz hv hsp
  go_enter Tryz.func191,Tryz.ntmps191
  go_wp2_with fail
  try rw [hW0]
  refine cc.mono ?_
  rintro e w1 ⟨rfl,b1⟩
  have hb1 : Below w.heap.size w w1:=hb0.trans (b1.mono hz0)
  clear b1 cc hW0
  go_wp2_with fail
  go_ret2
  exact NoteOut.none hb1
 | true =>
  have hps:=fits_ps hf
  rw [show noteS (ses zs) s = mergeS [s] (ses zs) by unfold noteS; rw [one_is,hf]; rfl]
  rw [hf,if_pos rfl] at cc
  have hk0 : k = 0:=by rw [<- hk,hps]; rfl
  have cm:=fun w1 (hb : Below W0.heap.size W0 w1) => merge_any _ _ [(s,.slice pA s.rep.ps.length pc)] zs w1 ((hone.below hb).more hb.size) (((hv.below hb0).more hb0.size |>.below hb).more hb.size)
   (fun z hz => by simp only [List.mem_singleton] at hz; subst hz; exact ⟨hps,pA,pc,by rw [hps]; rfl⟩) hp (by simp) (by omega)
  rw [show ses [(s,Value.slice pA s.rep.ps.length pc)] = [s] from rfl] at cm
  obtain ⟨ans,hans⟩ : ∃ l,mergeS [s] (ses zs) = l:=⟨_,rfl⟩
  rw [hans] at cm ⊢
  rw [hn] at hv cm ⊢
  rw [hk] at hW0 ⊢
  clear hf hn hk hk0 hP hone hpz hv hsp hps hans
  go_enter Tryz.func191,Tryz.ntmps191
  go_wp2_with fail
  try rw [hW0]
  refine cc.mono ?_
  rintro e w1 ⟨rfl,b1⟩
  have hb1 : Below w.heap.size w w1:=hb0.trans (b1.mono hz0)
  have cm1:=cm w1 b1
  clear b1 cc hW0 cm
  go_wp2_with fail
  refine cm1.mono ?_
  rintro e w2 ⟨v',zs',rfl,hs,ha,hq,b2⟩
  obtain ⟨A',c',rfl⟩:=ha.form
  have hb2:=hb1.trans (b2.mono hb1.size)
  have HA:=Lib.hid ha
  have HS:=Lib.hid hs
  clear b2 ha hs cm1
  go_wp2_with fail
  go_ret2
  exact ⟨_,zs',rfl,HS.out,HA.out,hq,hb2⟩
end Go.Proofs.YthcmnkmfhgoddaaGreatDoor.Ss
