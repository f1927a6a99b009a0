/-
  The same as Mixed inside a fence that lets all functions in,a round's fence too ('for x:=range f'): a region whose order of evaluation is drawn,with calls. No condition of a program.
  The program's later,and both: a closure that goes through two lists of sessions,for every loop's body that keeps its boxes. Conditions: sessions without pairs,at most 10,000 of each.
  A client's session,and what is answered at once: the program's own,Find (sort.Search with a closure),Ask; the document's Find,Ask. Conditions: sessions by rising clients,without pairs,at most a million.
  What is answered at once: the program's Ask; the document's Find,Ask. Conditions: sessions by rising clients,without pairs,at most a million.
-/
import Derived.Test.YthcmnkmfhgoddaaGreatDoorVRegA
import Derived.OrdersIn
import Derived.Test.YthcmnkmfhgoddaaGreatDoorVDsChA
import Derived.Test.YthcmnkmfhgoddaaGreatDoorVSsMRA
import Derived.Test.YthcmnkmfhgoddaaGreatDoorVSsBoA
import Derived.Test.YthcmnkmfhgoddaaGreatDoorVSfA
namespace Go.Proofs.YthcmnkmfhgoddaaGreatDoor.St
open Go
section
variable {F : Fence} {n : Nat} {P : Program} {md : Region.Mode} {ops : Array Oper} {Q : Exit -> Act -> World -> Prop} {S : (Nat -> Bool) -> (Nat -> Value) -> World -> Prop} {C : Nat -> Value -> Prop}
theorem wpAnyIn_mixedC (hF : ∀ f,F.fn f) (hdep : F.depth.isSome = true -> 1 <= n) (hK : ∀ f args w (Q : Ending -> World -> Prop),Calls P f args w Q -> CallsIn F (n - 1) P f args w Q) (hsem : ∀ (j : Nat) (o : Oper),ops[j]? = some o -> ∀ ρ,o.semAt F.round ρ = execOp ρ o) (hs : steadyB md ops = true) (hsel : Region.noSelect ops = true) : ∀ (fuel : Nat) (listed : Array Bool) (u : Nat -> Value) (a : Act) (w : World),listed.size = ops.size -> (rest ops listed).length <= fuel ->
  ChainR P md ops S C (fun u a => ∀ L w,S L u w -> (∀ j,j < ops.size -> L j = true) -> Q .normal a w) (rest ops listed) u a -> S (who listed) u w -> Closed md ops (who listed) -> wpAnyIn F n P md ops Q fuel listed a w
 | fuel,listed,u,a,w,hl,hf,hc,hS,hcl => by
  have hempty : rest ops listed = [] -> Q .normal a w:=fun h0 => by
   have:=all_of_rest hl h0
   rw [h0] at hc; exact hc _ w hS this
  have hready0 : rest ops listed = [] -> Region.ready md ops listed = []:=fun h0 => by
   apply List.eq_nil_iff_forall_not_mem.2
   intro j hj
   obtain ⟨hj1,oj,hj2,_⟩:=mem_ready.1 hj
   have : j ∈ rest ops listed:=List.mem_filter.2 ⟨List.mem_range.2 (Array.getElem?_eq_some_iff.1 hj2).1,by rw [hj1]; rfl⟩
   rw [h0] at this; cases this
  have hsorted:=rest_sorted (ops:=ops) listed
  have hwho : ∀ t,t < ops.size -> (who listed t = false ↔ t ∈ rest ops listed):=by
   intro t ht
   unfold who rest
   have h5 : t < listed.size:=by omega
   simp [h5,ht]
  cases fuel with
  | zero =>
   have h0 : rest ops listed = []:=List.length_eq_zero_iff.1 (by omega)
   exact ⟨hready0 h0,hempty h0⟩
  | succ fuel =>
   refine ⟨fun hr => ?_,fun i hi => ?_⟩
   ·cases hrest : rest ops listed with
    | nil => exact hempty hrest
    | cons i l =>
     exfalso
     have hmem : i ∈ rest ops listed:=by rw [hrest]; simp
     rw [hrest] at hc
     obtain ⟨o,ho,_,_⟩:=hc
     have hil : i < ops.size:=(Array.getElem?_eq_some_iff.1 ho).1
     rw [hrest] at hsorted
     have hall : ∀ e ∈ o.after,Region.binds md e = true -> listed.getD e.on false = true:=fun e he hb => by
      have h1:=(steady_both hs ho).1 e he hb
      have h2 : ¬ e.on ∈ rest ops listed:=by
       rw [hrest]
       intro hm
       rcases List.mem_cons.1 hm with h | h
       ·omega
       ·have:=(List.pairwise_cons.1 hsorted).1 _ h; omega
      cases h3 : who listed e.on with
      | true => exact h3
      | false => exact absurd ((hwho e.on (by omega)).1 h3) h2
     have : i ∈ Region.ready md ops listed:=mem_ready.2 ⟨by simpa using (List.mem_filter.1 hmem).2,o,ho,hall⟩
     rw [hr] at this; cases this
   ·obtain ⟨hi1,oi,hoi,hall⟩:=mem_ready.1 hi
    have hil : i < ops.size:=(Array.getElem?_eq_some_iff.1 hoi).1
    have hmem : i ∈ rest ops listed:=List.mem_filter.2 ⟨List.mem_range.2 hil,by rw [hi1]; rfl⟩
    have hrd : Ready md ops (who listed) i:=by
     refine ⟨?_,fun o ho e he hb => ?_⟩
     ·have h5 : i < listed.size:=by omega
      unfold who
      simpa [h5] using hi1
     ·obtain rfl : oi = o:=Option.some.inj (hoi.symm.trans ho)
      exact hall e he hb
    obtain ⟨l1,l2,hsplit⟩:=List.append_of_mem hmem
    rw [hsplit] at hsorted
    have hlt : ∀ x ∈ l1,x < i:=fun x hx => (List.pairwise_append.1 hsorted).2.2 x hx i (by simp)
    have hgt : ∀ x ∈ l2,i < x:=fun x hx => (List.pairwise_cons.1 (List.pairwise_append.1 hsorted).2.1).1 x hx
    have hrs:=rest_set hl hsplit hlt hgt
    have hap : ∀ x ∈ l1,x < i /\ (∀ f,before md ops f i x = false) /\ ∀ ox,ops[x]? = some ox -> ox.apart ops oi = true:=by
     intro x hx
     have hxr : x ∈ rest ops listed:=by rw [hsplit]; simp [hx]
     have hxs : x < ops.size:=by have:=hlt x hx; omega
     have hxw : who listed x = false:=(hwho x hxs).2 hxr
     refine ⟨hlt x hx,fun f => ?_,fun ox hox => ?_⟩
     ·cases hb : before md ops f i x with
      | false => rfl
      | true =>
       have:=before_ready hcl hrd f x hb
       rw [hxw] at this; cases this
     ·rcases (steady_both hs hoi).2 x ox (hlt x hx) hox with ⟨e,he,hb,heq⟩ | h
      ·have h1 : who listed e.on = true:=hall e he hb
       rw [heq,hxw] at h1; cases h1
      ·exact h
    rw [hsplit] at hc
    have hdoes:=ChainR.does hs (Region.noSelect_spec hsel) hoi l1 l2 u a (who listed) w (fun x hx => (hap x hx).2) (fun t ht => by rw [<- hsplit]; exact hwho t ht) hsorted hS hcl hc
    have next : ∀ (x : Value) (w' : World),Yields P md ops S C i oi u a x -> S (mark (who listed) i) (upd u i x) w' -> wpAnyIn F n P md ops Q fuel (listed.setIfInBounds i true) (a.put oi.dst x) w':=by
     intro x w' hy hS'
     refine wpAnyIn_mixedC hF hdep hK hsem hs hsel fuel _ (upd u i x) _ w' (by simpa using hl) ?_ (by rw [hrs]; exact ChainR.pull hs (Region.noSelect_spec hsel) hoi l1 l2 u a x hap hc hy) (by rw [who_set (by omega)]; exact hS') ?_
     ·rw [hrs]
      rw [hsplit] at hf
      simp at hf ⊢; omega
     ·rw [who_set (by omega)]
      intro j o ho hj e he hb
      unfold mark at hj ⊢
      simp only [Bool.or_eq_true,beq_iff_eq] at hj ⊢
      rcases hj with rfl | hj
      ·exact .inr (hrd.2 o ho e he hb)
      ·exact .inr (hcl j o ho hj e he hb)
    unfold Go.wpOpIn
    simp only [hoi]
    rcases hdoes with ⟨hw,hd⟩ | ⟨hw,hd⟩
    ·rcases hd (who listed) u w hS hcl hrd (fun _ _ _ => rfl) with ⟨x,w',hrun | ⟨rfl,hrun⟩,hS'⟩ | ⟨f,args,hrun,hcall⟩
     ·simp only [hw,if_true]
      refine ⟨fun f _ => hF f,?_⟩
      rw [hsem _ _ hoi,hrun]
      exact next x w' (.inr ⟨hw,_,u,w,hS,hcl,hrd,fun _ _ _ => rfl,.inl ⟨w',.inl hrun,hS'⟩⟩) hS'
     ·simp only [hw,if_true]
      refine ⟨fun f _ => hF f,?_⟩
      rw [hsem _ _ hoi,hrun]
      exact next undef w' (.inr ⟨hw,_,u,w,hS,hcl,hrd,fun _ _ _ => rfl,.inl ⟨w',.inr ⟨rfl,hrun⟩,hS'⟩⟩) hS'
     ·simp only [hw,if_true]
      refine ⟨fun f _ => hF f,?_⟩
      rw [hsem _ _ hoi,hrun,Oper.uponIn_enter]
      refine ⟨hdep,CallsIn.mono (hK _ _ _ _ hcall) ?_⟩
      rintro e w' ⟨x,rfl,hC,hS'⟩
      exact next x w' (.inr ⟨hw,_,u,w,hS,hcl,hrd,fun _ _ _ => rfl,.inr ⟨hC,f,args,hrun⟩⟩) hS'
    ·simp only [hw,Bool.false_eq_true,if_false]
     exact ⟨fun f _ => hF f,next undef w (.inl ⟨hw,rfl⟩) (hd _ u w hS)⟩
theorem wpIn_region_mixedC {l : List Oper} {id : Nat} {a : Act} {w : World} (S : (Nat -> Bool) -> (Nat -> Value) -> World -> Prop) (C : Nat -> Value -> Prop) (hF : ∀ f,F.fn f) (hdep : F.depth.isSome = true -> 1 <= n) (hK : ∀ f args w (Q : Ending -> World -> Prop),Calls P f args w Q -> CallsIn F (n - 1) P f args w Q) (hsem : ∀ (j : Nat) (o : Oper),l.toArray[j]? = some o -> ∀ ρ,o.semAt F.round ρ = execOp ρ o) (hm : P.follows .mixedOrders = true) (hs : steadyB .any l.toArray = true) (hsel : Region.noSelect l.toArray = true)
  (hS : S (fun _ => false) (fun _ => undef) w.drew) (h : WalkR P .any l.toArray S C (fun u a => ∀ L w,S L u w -> (∀ j,j < l.length -> L j = true) -> Q .normal a w) 0 l (fun _ => undef) a) : (Code.region id l.toArray true).wpIn F n P Q a w:=by
 have hr : rest l.toArray (Array.replicate l.toArray.size false) = List.range' 0 l.length:=by
  unfold rest
  rw [List.filter_eq_self.2]
  ·simp [List.range_eq_range']
  ·intro x hx
   have : x < l.length:=by simpa using hx
   simp [this]
 have hw0 : who (Array.replicate l.toArray.size false) = fun _ => false:=by
  funext j
  unfold who
  rw [show (Array.replicate l.toArray.size false).getD j false = (Array.replicate l.toArray.size false)[j]?.getD false by simp,Array.getElem?_replicate]
  split <;> rfl
 refine wpIn_region_any hm (wpAnyIn_mixedC (S:=S) (C:=C) hF hdep hK hsem hs hsel l.toArray.size _ (fun _ => undef) a _ (by simp) ?_ ?_ (by rw [hw0]; exact hS) (by rw [hw0]; intro i o _ h; cases h))
 ·rw [hr]; simp
 ·rw [hr]
  have:=chainR_of_walk (P:=P) (md:=.any) (ops:=l.toArray) (S:=S) (C:=C) l 0 (fun _ => undef) a (fun j _ => by simp) h
  simpa using this
def noDefer (o : Oper) : Bool:=match o.op with
 | .defer _ => false
 | _ => true
theorem plain_sem {o : Oper} (h : noDefer o = true) (ro : Option Nat) (ρ : Operand -> Value) : o.semAt ro ρ = execOp ρ o :=
 Oper.semAt_eq ro ρ o (fun c hc => by unfold noDefer at h; rw [hc] at h; cases h)
theorem wpIn_region_calls {l : List Oper} {id : Nat} {a : Act} {w : World} (S : (Nat -> Bool) -> (Nat -> Value) -> World -> Prop) (C : Nat -> Value -> Prop) (hF : ∀ f,F.fn f) (hdep : F.depth.isSome = true -> 1 <= n) (hK : ∀ f args w (Q : Ending -> World -> Prop),Calls P f args w Q -> CallsIn F (n - 1) P f args w Q) (hc : l.all noDefer = true) (hm : P.follows .mixedOrders = true) (hs : steadyB .any l.toArray = true) (hsel : Region.noSelect l.toArray = true)
  (hS : S (fun _ => false) (fun _ => undef) w.drew) (h : WalkR P .any l.toArray S C (fun u a => ∀ L w,S L u w -> (∀ j,j < l.length -> L j = true) -> Q .normal a w) 0 l (fun _ => undef) a) : (Code.region id l.toArray true).wpIn F n P Q a w :=
 wpIn_region_mixedC S C hF hdep hK (fun _ _ hj ρ => plain_sem (List.all_eq_true.1 hc _ (List.mem_of_getElem? (by simpa using hj))) _ ρ) hm hs hsel hS h
end
end Go.Proofs.YthcmnkmfhgoddaaGreatDoor.St

namespace Go.Proofs.YthcmnkmfhgoddaaGreatDoor.Ss
open Go.RowKit Bnd
open Go.Proofs.YthcmnkmfhgoddaaGreatDoor.Od (Rep SP ArgP OwnP rv BoxR)
open Ds (Ix vals_snoc vals_length)
attribute [local go_sem] Oper.semAt_some
set_option maxHeartbeats 4000000 in
set_option maxRecDepth 100000 in
theorem later_any (s t : Ses) (sA tA : Option Addr) (sc tc : Nat) (w : World) :
  Calls Tryz.prog 212 #[sv (s,.slice sA 0 sc),sv (t,.slice tA 0 tc)] w fun e w' => e = .returned (sv (laterG (fun z : Zs => z.1) (s,.slice sA 0 sc) (t,.slice tA 0 tc))) /\ Below w.heap.size w w':=by
 obtain ⟨W0,hW0⟩ : ∃ W0,((w.alloc (.cells #[.int .i64 s.client,.int .i64 s.seq,.int .i64 s.rep.code,.int .i64 s.rep.err,.bool s.rep.has,.string s.rep.val,.slice sA 0 sc] 89)).alloc (.cells #[.int .i64 t.client,.int .i64 t.seq,.int .i64 t.rep.code,.int .i64 t.rep.err,.bool t.rep.has,.string t.rep.val,.slice tA 0 tc] 89)).alloc (.cells #[.int .i64 0,.int .i64 0,.int .i64 0,.int .i64 0,.bool false,.string ⟨#[]⟩,.slice none 0 0] 89) = W0:=⟨_,rfl⟩
 have A0 : BoxS w.heap.size (s,.slice sA 0 sc) W0:=hW0 ▸ ((BoxS.new w (s,.slice sA 0 sc)).alloc _).alloc _
 have B0 : BoxS (w.heap.size + 1) (t,.slice tA 0 tc) W0:=by
  have:=(BoxS.new (w.alloc (.cells #[.int .i64 s.client,.int .i64 s.seq,.int .i64 s.rep.code,.int .i64 s.rep.err,.bool s.rep.has,.string s.rep.val,.slice sA 0 sc] 89)) (t,.slice tA 0 tc)).alloc (.cells #[.int .i64 0,.int .i64 0,.int .i64 0,.int .i64 0,.bool false,.string ⟨#[]⟩,.slice none 0 0] 89)
  rw [World.size_alloc] at this
  rw [<- hW0]
  exact this
 have Z0 : BoxS (w.heap.size + 1 + 1) zeroZ W0:=by
  have:=BoxS.zero ((w.alloc (.cells #[.int .i64 s.client,.int .i64 s.seq,.int .i64 s.rep.code,.int .i64 s.rep.err,.bool s.rep.has,.string s.rep.val,.slice sA 0 sc] 89)).alloc (.cells #[.int .i64 t.client,.int .i64 t.seq,.int .i64 t.rep.code,.int .i64 t.rep.err,.bool t.rep.has,.string t.rep.val,.slice tA 0 tc] 89))
  rw [World.size_alloc,World.size_alloc] at this
  rw [<- hW0]
  exact this
 have hb0 : Below w.heap.size w W0:=by rw [<- hW0]; exact (((Below.refl _ w).alloc (Nat.le_refl _) _).alloc (by simp) _).alloc (by simp; omega) _
 have hz0:=hb0.size
 have hlt:=Z0.1
 obtain ⟨p_0,⟨p_1,p_2,p_3,p_4,p_5,p_6,p_7⟩,p_8⟩:=_root_.id A0
 obtain ⟨q_0,⟨q_1,q_2,q_3,q_4,q_5,q_6,q_7⟩,q_8⟩:=_root_.id B0
 obtain ⟨r_0,⟨r_1,r_2,r_3,r_4,r_5,r_6,r_7⟩,r_8⟩:=_root_.id Z0
 by_cases h : s.seq < t.seq
 ·have g1 : (s.seq < t.seq) = True:=eq_true h
  rw [show laterG (fun z : Zs => z.1) (s,.slice sA 0 sc) (t,.slice tA 0 tc) = (t,.slice tA 0 tc) by unfold laterG; exact if_pos h]
  clear h
  go_enter Tryz.func212,Tryz.ntmps212
  go_wp2_with fail
  exact bodyPost_ret (res_BoxS Tryz.results212 rfl (BoxS.put Z0 (t,.slice tA 0 tc))) rfl ⟨rfl,(by exact bex0)⟩
 ·have g1 : (s.seq < t.seq) = False:=eq_false h
  rw [show laterG (fun z : Zs => z.1) (s,.slice sA 0 sc) (t,.slice tA 0 tc) = (s,.slice sA 0 sc) by unfold laterG; exact if_neg h]
  clear h
  go_enter Tryz.func212,Tryz.ntmps212
  go_wp2_with fail
  exact bodyPost_ret (res_BoxS Tryz.results212 rfl (BoxS.put Z0 (s,.slice sA 0 sc))) rfl ⟨rfl,(by exact bex0)⟩
theorem Cs.alloc {w : World} {b o : Nat} {z : Zs} (h : Cs w b o z) (x : Obj) : Cs (w.alloc x) b o z:=by
 have hl:=World.block_lt_of_cell? _ _ h.1
 exact h.keep fun i => World.cell?_alloc_lt _ _ _ hl
theorem Cs.later {w w' : World} {b o : Nat} {z : Zs} (h : Cs w b o z) (hb : Below w.heap.size w w') : Cs w' b o z:=by
 have hl:=World.block_lt_of_cell? _ _ h.1
 exact h.keep fun i => hb.cell (p:=⟨b,i,none⟩) hl
def SB (w0 : World) (n : Nat) (z : Zs) (L : Nat -> Bool) (_ : Nat -> Value) (wx : World) : Prop:=∃ wy,Below w0.heap.size w0 wy /\ (L 9 = false -> wx = wy) /\ (L 9 = true -> wx = putS7 wy n z)
theorem mixB : Tryz.prog.follows .mixedOrders = true:=by kernel_rfl
def KpB (N B0 B1 : Nat) (W W' : World) : Prop:=(∀ q : Addr,q.block < N -> W'.cell? q = W.cell? q) /\ W'.cell? ⟨B0,0,none⟩ = W.cell? ⟨B0,0,none⟩ /\ W'.cell? ⟨B1,0,none⟩ = W.cell? ⟨B1,0,none⟩ /\ W.heap.size <= W'.heap.size
theorem kpB_t {N B0 B1 : Nat} {A B C : World} (h : KpB N B0 B1 A B) (k : KpB N B0 B1 B C) : KpB N B0 B1 A C:=⟨fun q hq => (k.1 q hq).trans (h.1 q hq),k.2.1.trans h.2.1,k.2.2.1.trans h.2.2.1,Nat.le_trans h.2.2.2 k.2.2.2⟩
theorem kpB_of {N B0 B1 M : Nat} {W W' : World} (hb : Below M W W') (hN : N <= M) (h0 : B0 < M) (h1 : B1 < M) : KpB N B0 B1 W W' :=
 ⟨fun _ hq => hb.cell (Nat.lt_of_lt_of_le hq hN),hb.cell (p:=⟨B0,0,none⟩) h0,hb.cell (p:=⟨B1,0,none⟩) h1,hb.size⟩
theorem kpB_b {N B0 B1 : Nat} {w : World} (hN : N <= w.heap.size) (h0 : B0 < w.heap.size) (h1 : B1 < w.heap.size) (W : World) (l : Nat) (o o' : Obj) (hl : w.heap.size <= l) (h : W.heap[l]? = some o) (_ : o.isCells = false) (_ : o.isWalk = false) : KpB N B0 B1 W (W.putObj l o'):=by
 have hb : Below w.heap.size W (W.putObj l o'):=(Below.refl _ W).grown (grownBy_putObj' W l o') (by have:=(Array.getElem?_eq_some_iff.1 h).1; omega) (fun k e => by cases e; omega)
 exact kpB_of hb hN h0 h1
abbrev fS : Zs -> Ses:=fun z => z.1
def nthZ (za zb : List Zs) (k : Nat) : Zs:=(bothG fS za zb).getD k zeroZ
theorem nth_head {za zb X Y : List Zs} {k : Nat} {z : Zs} {T : List Zs} (h : bothG fS X Y = (bothG fS za zb).drop k) (e : bothG fS X Y = z :: T) : nthZ za zb k = z /\ T = (bothG fS za zb).drop (k + 1) /\ k < (bothG fS za zb).length:=by
 rw [e] at h
 have hk : k < (bothG fS za zb).length:=by
  rcases Nat.lt_or_ge k (bothG fS za zb).length with h' | h'
  ·exact h'
  ·rw [List.drop_eq_nil_of_le h'] at h; cases h
 rw [List.drop_eq_getElem_cons hk] at h
 injection h with h1 h2
 refine ⟨?_,h2,hk⟩
 unfold nthZ
 rw [List.getD_eq_getElem?_getD,List.getElem?_eq_getElem hk,h1]
 rfl
theorem nopz {zs : List Zs} (h : NoP zs) {k : Nat} (hk : k < zs.length) : ∃ s A c,zs[k] = (s,.slice A 0 c):=by
 obtain ⟨_,A,c,e⟩:=h zs[k] (List.getElem_mem hk)
 exact ⟨zs[k].1,A,c,Prod.ext rfl e⟩
set_option maxRecDepth 100000 in
set_option maxHeartbeats 16000000 in
theorem both1_in (n : Nat) (hn : 1 <= n) (l N B0 B1 m : Nat) (za zb : List Zs) (A D : Option Addr) (ca cb : Nat) (hm : Hid (m = (bothG fS za zb).length)) (hla : za.length <= 10000) (hlb : zb.length <= 10000) (hpa : NoP za) (hpb : NoP zb) (J Jx : List (Ix m) -> World -> Prop)
  (hY : ∀ pre x W,J pre W -> pre.length < m -> YieldAt Fence.wide (n - 1) Tryz.prog l #[sv (nthZ za zb x.1)] W fun e W' =>
   (e = .returned (.bool true) /\ J (pre ++ [x]) W' /\ KpB N B0 B1 W W') \/ (e = .returned (.bool false) /\ Jx (pre ++ [x]) W'))
  (W : World) (hN : N <= W.heap.size) (_hB0 : B0 < W.heap.size) (_hB1 : B1 < W.heap.size) (hva : SZ W N (.slice A za.length ca) za) (hvb : SZ W N (.slice D zb.length cb) zb)
  (hB0s : W.cell? ⟨B0,0,none⟩ = some (.slice A za.length ca)) (hB1s : W.cell? ⟨B1,0,none⟩ = some (.slice D zb.length cb))
  (hJd : AbidesFrom W.heap.size J) (h0 : J [] W) :
  CallsIn Fence.wide n Tryz.prog 211 #[.func (.yield l) #[] #[],.pointer (some ⟨B0,0,none⟩),.pointer (some ⟨B1,0,none⟩)] W fun e W' => (∃ v,e = .returned v) /\
   ((∃ ys,ys.map (·.1) = List.range m /\ J ys W') \/ (∃ pre,(∃ k,k <= m /\ pre.map (·.1) = List.range k) /\ Jx pre W')):=by
 obtain ⟨na,hna⟩ : ∃ x,za.length = x:=⟨_,rfl⟩
 obtain ⟨nb,hnb⟩ : ∃ x,zb.length = x:=⟨_,rfl⟩
 have HNA:=Lib.hid hna
 have HNB:=Lib.hid hnb
 have HVA:=Lib.hid hva
 have HVB:=Lib.hid hvb
 rw [hna] at hla hB0s
 rw [hnb] at hlb hB1s
 clear hna hnb hva hvb
 refine callsIn_of_wp Tryz.func211 rfl trivial ?_ rfl
 simp only [Tryz.ntmps211,List.size_toArray,List.length_cons,List.length_nil,Nat.reduceAdd,Nat.reduceSub,Array.replicate_succ,Array.replicate_zero,List.push_toArray,List.append_toArray,List.nil_append,List.cons_append]
 gi_wp2
 gi_loopw [4,5,6] (fun vi vj _ wr => ∃ (i j k : Nat) (pre : List (Ix m)),i <= na /\ j <= nb /\ vi = .int .i64 (i : Int) /\ vj = .int .i64 (j : Int) /\ Hid (bothG fS (za.drop i) (zb.drop j) = (bothG fS za zb).drop k) /\ Hid (k <= m /\ pre.map (·.1) = List.range k) /\ J pre wr /\ KpB N B0 B1 W wr /\ Below W.heap.size W W)
  (fun vi vj _ _ => (na - (intOf vi).toNat) + (nb - (intOf vj).toNat))
 case atStart => exact ⟨0,0,0,[],Nat.zero_le _,Nat.zero_le _,rfl,rfl,Lib.hid rfl,Lib.hid ⟨Nat.zero_le _,rfl⟩,h0,⟨fun _ _ => rfl,rfl,rfl,Nat.le_refl _⟩,Below.refl _ _⟩
 case round =>
  obtain ⟨i,j,k,pre,hi,hj,rfl,rfl,HB,HP,hJs,hkp,_⟩:=hrel
  have c0:=hkp.2.1.trans hB0s
  have c1:=hkp.2.2.1.trans hB1s
  have hNw : N <= wr.heap.size:=Nat.le_trans hN hkp.2.2.2
  have hB0w:=World.block_lt_of_cell? _ _ c0
  have hB1w:=World.block_lt_of_cell? _ _ c1
  by_cases ha : i < na
  ·by_cases hb : j < nb
   ·obtain ⟨W1,hW1⟩ : ∃ W1,wr.alloc (.cells #[.int .i64 0,.int .i64 0,.int .i64 0,.int .i64 0,.bool false,.string ⟨#[]⟩,.slice none 0 0] 89) = W1:=⟨_,rfl⟩
    obtain ⟨wd,hwd⟩ : ∃ wd,W1.drew = wd:=⟨_,rfl⟩
    have Z0 : BoxS wr.heap.size zeroZ wd:=hwd ▸ (hW1 ▸ BoxS.zero wr : BoxS wr.heap.size zeroZ W1).drew
    have d0 : wd.cell? ⟨B0,0,none⟩ = some (.slice A na ca):=by rw [<- hwd,World.cell?_drew,<- hW1,World.cell?_alloc_lt _ _ _ (World.block_lt_of_cell? _ _ c0)]; exact c0
    have d1 : wd.cell? ⟨B1,0,none⟩ = some (.slice D nb cb):=by rw [<- hwd,World.cell?_drew,<- hW1,World.cell?_alloc_lt _ _ _ (World.block_lt_of_cell? _ _ c1)]; exact c1
    have hb1 : Below wr.heap.size wr wd:=by rw [<- hwd,<- hW1]; exact ((Below.refl _ wr).alloc (Nat.le_refl _) _).drew
    obtain ⟨r_0,⟨r_1,r_2,r_3,r_4,r_5,r_6,r_7⟩,r_8⟩:=_root_.id Z0
    have hal : i < za.length:=by have:=HNA.out; omega
    obtain ⟨sa,Sa,ga,esa⟩:=nopz hpa hal
    obtain ⟨ba,oa,rfl,hbla,hcsa⟩:=(HVA.out.keep hkp.1).at_ hal
    rw [esa] at hcsa
    have hda : za.drop i = (sa,.slice Sa 0 ga) :: za.drop (i + 1):=by rw [List.drop_eq_getElem_cons hal,esa]
    have qa : Cs wd ba (oa + i * 7) (sa,.slice Sa 0 ga):=hwd ▸ (hW1 ▸ hcsa.alloc (.cells #[.int .i64 0,.int .i64 0,.int .i64 0,.int .i64 0,.bool false,.string ⟨#[]⟩,.slice none 0 0] 89) : Cs W1 ba (oa + i * 7) (sa,.slice Sa 0 ga)).keep fun _ => rfl
    obtain ⟨a_1,a_2,a_3,a_4,a_5,a_6,a_7⟩:=_root_.id qa
    have la : (i : Int) < (na : Int):=by have:=HNA.out; omega
    have la0 : (0 <= (i : Int)) = True:=eq_true (by omega)
    have la1 : ((i : Int) < (na : Int)) = True:=eq_true (by omega)
    have la2 : ((i : Int) = (na : Int)) = False:=eq_false (by omega)
    have la5 : ((i : Int) == (na : Int)) = false:=beq_false_of_ne (by omega)
    have la3 : IntKind.i64.wrap ((i : Int) + 1) = (i : Int) + 1:=by rw [IntKind.wrap_i64]; omega
    clear hal esa hcsa
    have hbl : j < zb.length:=by have:=HNB.out; omega
    obtain ⟨sb,Sb,gb,esb⟩:=nopz hpb hbl
    obtain ⟨bb,ob,rfl,hblb,hcsb⟩:=(HVB.out.keep hkp.1).at_ hbl
    rw [esb] at hcsb
    have hdb : zb.drop j = (sb,.slice Sb 0 gb) :: zb.drop (j + 1):=by rw [List.drop_eq_getElem_cons hbl,esb]
    have qb : Cs wd bb (ob + j * 7) (sb,.slice Sb 0 gb):=hwd ▸ (hW1 ▸ hcsb.alloc (.cells #[.int .i64 0,.int .i64 0,.int .i64 0,.int .i64 0,.bool false,.string ⟨#[]⟩,.slice none 0 0] 89) : Cs W1 bb (ob + j * 7) (sb,.slice Sb 0 gb)).keep fun _ => rfl
    obtain ⟨b_1,b_2,b_3,b_4,b_5,b_6,b_7⟩:=_root_.id qb
    have lb : (j : Int) < (nb : Int):=by have:=HNB.out; omega
    have lb0 : (0 <= (j : Int)) = True:=eq_true (by omega)
    have lb1 : ((j : Int) < (nb : Int)) = True:=eq_true (by omega)
    have lb2 : ((j : Int) = (nb : Int)) = False:=eq_false (by omega)
    have lb5 : ((j : Int) == (nb : Int)) = false:=beq_false_of_ne (by omega)
    have lb3 : IntKind.i64.wrap ((j : Int) + 1) = (j : Int) + 1:=by rw [IntKind.wrap_i64]; omega
    clear hbl esb hcsb
    clear ha hb
    by_cases hlt : sa.client < sb.client
    ·have HE : Hid (bothG fS (za.drop i) (zb.drop j) = (sa,.slice Sa 0 ga) :: bothG fS (za.drop (i + 1)) (zb.drop j)):=Lib.hid (by
      rw [hda,hdb,bothG_cons,if_pos (show (fS (sa,.slice Sa 0 ga)).client < (fS (sb,.slice Sb 0 gb)).client from hlt)])
     have hlt1 : (sa.client < sb.client) = True:=eq_true hlt
     clear hda hdb hlt
     gi_wp2
     refine St.wpIn_region_calm (fun _ _ wx => wx = wd) (by kernel_rfl) mixB (by kernel_rfl) (by kernel_rfl) hwd ?_
     iterate 24
      apply St.mix_give
      ·rfl
      ·rintro L u' wx rfl hcl hrd hag
       go_simp
       try with_reducible rfl
      ·exact fun L u' wx hS => hS
      simp only [Act.put,St.pu]
     refine St.mix_last ?_
     rintro L wx rfl hall
     iterate 45 try (first | go_values | gi_guarded | gi_step | gi_upon | go_simp)
     obtain ⟨W2,hW2⟩ : ∃ W2,putS7 wx wr.heap.size (sa,.slice Sa 0 ga) = W2:=⟨_,rfl⟩
     have hb2 : Below wr.heap.size wr W2:=hW2 ▸ (putS7_below hb1 (Nat.le_refl _) : Below wr.heap.size wr (putS7 wx wr.heap.size (sa,.slice Sa 0 ga)))
     change Oper.wpIn _ _ _ _ _ (putS7 wx wr.heap.size (sa,.slice Sa 0 ga)) _ _
     rw [hW2]
     clear hW2
     have hkp2 : KpB N B0 B1 W W2:=kpB_t hkp (kpB_of hb2 hNw hB0w hB1w)
     have hJ2 : J pre W2:=hJd _ wr W2 none hJs ⟨hb2.os,hb2.tape,hb2.output,hb2.size,fun k hk _ => hb2.block k hk⟩ (fun r e => by cases e)
     obtain ⟨hz,hT,hkm⟩:=nth_head HB.out HE.out
     have HK : Hid (k < m):=Lib.hid (by have:=hm.out; omega)
     obtain ⟨fn,tmps,assign,body,hy,hR⟩:=hY _ (⟨k,HK.out⟩ : Ix m) W2 hJ2 (by rw [vals_length HP.out.2]; exact HK.out)
     dsimp only at hy
     rw [hz] at hy
     dsimp only [sv] at hy
     have HB2 : Hid (bothG fS (za.drop (i + 1)) (zb.drop (j)) = (bothG fS za zb).drop (k + 1)):=Lib.hid (hT)
     clear hz hT hkm HB HE
     gi_wp2
     refine hR.mono ?_
     rintro e W3 (⟨rfl,hJ3,hk3⟩ | ⟨rfl,hJx3⟩)
     ·gi_wp2
      go_roundw
      case rel => exact ⟨i + 1,j,k + 1,_,by omega,by omega,by go_num,rfl,HB2,Lib.hid ⟨HK.out,vals_snoc HP.out.2 HK.out⟩,hJ3,kpB_t hkp2 hk3,Below.refl _ _⟩
      case measure => simp [intOf]; omega
     ·gi_wp2
      refine bodyPost_ret (results_none rfl _ _ _) rfl ?_
      exact ⟨⟨_,rfl⟩,.inr ⟨_,⟨k + 1,HK.out,vals_snoc HP.out.2 HK.out⟩,hJx3⟩⟩
    ·by_cases hgt : sb.client < sa.client
     ·have HE : Hid (bothG fS (za.drop i) (zb.drop j) = (sb,.slice Sb 0 gb) :: bothG fS (za.drop i) (zb.drop (j + 1))):=Lib.hid (by
       rw [hda,hdb,bothG_cons,if_neg (show ¬ (fS (sa,.slice Sa 0 ga)).client < (fS (sb,.slice Sb 0 gb)).client from hlt),if_pos (show (fS (sb,.slice Sb 0 gb)).client < (fS (sa,.slice Sa 0 ga)).client from hgt)])
      have hlt1 : (sa.client < sb.client) = False:=eq_false hlt
      have hgt1 : (sb.client < sa.client) = True:=eq_true hgt
      clear hda hdb hlt hgt
      gi_wp2
      refine St.wpIn_region_calm (fun _ _ wx => wx = wd) (by kernel_rfl) mixB (by kernel_rfl) (by kernel_rfl) hwd ?_
      iterate 24
       apply St.mix_give
       ·rfl
       ·rintro L u' wx rfl hcl hrd hag
        go_simp
        try with_reducible rfl
       ·exact fun L u' wx hS => hS
       simp only [Act.put,St.pu]
      refine St.mix_last ?_
      rintro L wx rfl hall
      obtain ⟨we,hwe⟩ : ∃ we,World.drew wx = we:=⟨_,rfl⟩
      have Z1 : BoxS wr.heap.size zeroZ we:=hwe ▸ Z0.drew
      have d0we : we.cell? ⟨B0,0,none⟩ = some (.slice (some ⟨ba,oa,none⟩) na ca):=by rw [<- hwe]; exact d0
      have d1we : we.cell? ⟨B1,0,none⟩ = some (.slice (some ⟨bb,ob,none⟩) nb cb):=by rw [<- hwe]; exact d1
      clear d0 d1
      have d0:=d0we
      have d1:=d1we
      clear d0we d1we
      have hb1we : Below wr.heap.size wr we:=by rw [<- hwe]; exact hb1.drew
      clear hb1
      have hb1:=hb1we
      clear hb1we
      clear r_0 r_1 r_2 r_3 r_4 r_5 r_6 r_7 r_8
      obtain ⟨r_0,⟨r_1,r_2,r_3,r_4,r_5,r_6,r_7⟩,r_8⟩:=_root_.id Z1
      have qa1 : Cs we ba (oa + i * 7) (sa,.slice Sa 0 ga):=hwe ▸ qa.keep fun _ => rfl
      clear a_1 a_2 a_3 a_4 a_5 a_6 a_7
      obtain ⟨a_1,a_2,a_3,a_4,a_5,a_6,a_7⟩:=_root_.id qa1
      have qb1 : Cs we bb (ob + j * 7) (sb,.slice Sb 0 gb):=hwe ▸ qb.keep fun _ => rfl
      clear b_1 b_2 b_3 b_4 b_5 b_6 b_7
      obtain ⟨b_1,b_2,b_3,b_4,b_5,b_6,b_7⟩:=_root_.id qb1
      iterate 6 try (first | go_values | gi_guarded | gi_step | gi_upon)
      refine St.wpIn_region_calm (fun _ _ wx => wx = we) (by kernel_rfl) mixB (by kernel_rfl) (by kernel_rfl) hwe ?_
      iterate 18
       apply St.mix_give
       ·rfl
       ·rintro L u' wx rfl hcl hrd hag
        go_simp
        try with_reducible rfl
       ·exact fun L u' wx hS => hS
       simp only [Act.put,St.pu]
      refine St.mix_last ?_
      rintro L wy rfl hall
      iterate 45 try (first | go_values | gi_guarded | gi_step | gi_upon | go_simp)
      obtain ⟨W2,hW2⟩ : ∃ W2,putS7 wy wr.heap.size (sb,.slice Sb 0 gb) = W2:=⟨_,rfl⟩
      have hb2 : Below wr.heap.size wr W2:=hW2 ▸ (putS7_below hb1 (Nat.le_refl _) : Below wr.heap.size wr (putS7 wy wr.heap.size (sb,.slice Sb 0 gb)))
      change Oper.wpIn _ _ _ _ _ (putS7 wy wr.heap.size (sb,.slice Sb 0 gb)) _ _
      rw [hW2]
      clear hW2
      have hkp2 : KpB N B0 B1 W W2:=kpB_t hkp (kpB_of hb2 hNw hB0w hB1w)
      have hJ2 : J pre W2:=hJd _ wr W2 none hJs ⟨hb2.os,hb2.tape,hb2.output,hb2.size,fun k hk _ => hb2.block k hk⟩ (fun r e => by cases e)
      obtain ⟨hz,hT,hkm⟩:=nth_head HB.out HE.out
      have HK : Hid (k < m):=Lib.hid (by have:=hm.out; omega)
      obtain ⟨fn,tmps,assign,body,hy,hR⟩:=hY _ (⟨k,HK.out⟩ : Ix m) W2 hJ2 (by rw [vals_length HP.out.2]; exact HK.out)
      dsimp only at hy
      rw [hz] at hy
      dsimp only [sv] at hy
      have HB2 : Hid (bothG fS (za.drop (i)) (zb.drop (j + 1)) = (bothG fS za zb).drop (k + 1)):=Lib.hid (hT)
      clear hz hT hkm HB HE
      gi_wp2
      refine hR.mono ?_
      rintro e W3 (⟨rfl,hJ3,hk3⟩ | ⟨rfl,hJx3⟩)
      ·gi_wp2
       go_roundw
       case rel => exact ⟨i,j + 1,k + 1,_,by omega,by omega,rfl,by go_num,HB2,Lib.hid ⟨HK.out,vals_snoc HP.out.2 HK.out⟩,hJ3,kpB_t hkp2 hk3,Below.refl _ _⟩
       case measure => simp [intOf]; omega
      ·gi_wp2
       refine bodyPost_ret (results_none rfl _ _ _) rfl ?_
       exact ⟨⟨_,rfl⟩,.inr ⟨_,⟨k + 1,HK.out,vals_snoc HP.out.2 HK.out⟩,hJx3⟩⟩
     ·obtain ⟨s,S,g,hL⟩ : ∃ s S g,laterG (fun z : Zs => z.1) (sa,.slice Sa 0 ga) (sb,.slice Sb 0 gb) = (s,.slice S 0 g):=by
       unfold laterG
       split
       ·exact ⟨_,_,_,rfl⟩
       ·exact ⟨_,_,_,rfl⟩
      have HE : Hid (bothG fS (za.drop i) (zb.drop j) = (s,.slice S 0 g) :: bothG fS (za.drop (i + 1)) (zb.drop (j + 1))):=Lib.hid (by
       rw [hda,hdb,bothG_cons,if_neg (show ¬ (fS (sa,.slice Sa 0 ga)).client < (fS (sb,.slice Sb 0 gb)).client from hlt),if_neg (show ¬ (fS (sb,.slice Sb 0 gb)).client < (fS (sa,.slice Sa 0 ga)).client from hgt)]
       exact congrArg (· :: _) hL)
      have hlt1 : (sa.client < sb.client) = False:=eq_false hlt
      have hgt1 : (sb.client < sa.client) = False:=eq_false hgt
      clear hda hdb hlt hgt
      gi_wp2
      refine St.wpIn_region_calm (fun _ _ wx => wx = wd) (by kernel_rfl) mixB (by kernel_rfl) (by kernel_rfl) hwd ?_
      iterate 24
       apply St.mix_give
       ·rfl
       ·rintro L u' wx rfl hcl hrd hag
        go_simp
        try with_reducible rfl
       ·exact fun L u' wx hS => hS
       simp only [Act.put,St.pu]
      refine St.mix_last ?_
      rintro L wx rfl hall
      obtain ⟨we,hwe⟩ : ∃ we,World.drew wx = we:=⟨_,rfl⟩
      have Z1 : BoxS wr.heap.size zeroZ we:=hwe ▸ Z0.drew
      have d0we : we.cell? ⟨B0,0,none⟩ = some (.slice (some ⟨ba,oa,none⟩) na ca):=by rw [<- hwe]; exact d0
      have d1we : we.cell? ⟨B1,0,none⟩ = some (.slice (some ⟨bb,ob,none⟩) nb cb):=by rw [<- hwe]; exact d1
      clear d0 d1
      have d0:=d0we
      have d1:=d1we
      clear d0we d1we
      have hb1we : Below wr.heap.size wr we:=by rw [<- hwe]; exact hb1.drew
      clear hb1
      have hb1:=hb1we
      clear hb1we
      clear r_0 r_1 r_2 r_3 r_4 r_5 r_6 r_7 r_8
      obtain ⟨r_0,⟨r_1,r_2,r_3,r_4,r_5,r_6,r_7⟩,r_8⟩:=_root_.id Z1
      have qa1 : Cs we ba (oa + i * 7) (sa,.slice Sa 0 ga):=hwe ▸ qa.keep fun _ => rfl
      clear a_1 a_2 a_3 a_4 a_5 a_6 a_7
      obtain ⟨a_1,a_2,a_3,a_4,a_5,a_6,a_7⟩:=_root_.id qa1
      have qb1 : Cs we bb (ob + j * 7) (sb,.slice Sb 0 gb):=hwe ▸ qb.keep fun _ => rfl
      clear b_1 b_2 b_3 b_4 b_5 b_6 b_7
      obtain ⟨b_1,b_2,b_3,b_4,b_5,b_6,b_7⟩:=_root_.id qb1
      iterate 6 try (first | go_values | gi_guarded | gi_step | gi_upon)
      refine St.wpIn_region_calm (fun _ _ wx => wx = we) (by kernel_rfl) mixB (by kernel_rfl) (by kernel_rfl) hwe ?_
      iterate 18
       apply St.mix_give
       ·rfl
       ·rintro L u' wx rfl hcl hrd hag
        go_simp
        try with_reducible rfl
       ·exact fun L u' wx hS => hS
       simp only [Act.put,St.pu]
      refine St.mix_last ?_
      rintro L wy rfl hall
      obtain ⟨wf,hwf⟩ : ∃ wf,World.drew wy = wf:=⟨_,rfl⟩
      have Z2 : BoxS wr.heap.size zeroZ wf:=hwf ▸ Z1.drew
      have d0wf : wf.cell? ⟨B0,0,none⟩ = some (.slice (some ⟨ba,oa,none⟩) na ca):=by rw [<- hwf]; exact d0
      have d1wf : wf.cell? ⟨B1,0,none⟩ = some (.slice (some ⟨bb,ob,none⟩) nb cb):=by rw [<- hwf]; exact d1
      clear d0 d1
      have d0:=d0wf
      have d1:=d1wf
      clear d0wf d1wf
      have hb1wf : Below wr.heap.size wr wf:=by rw [<- hwf]; exact hb1.drew
      clear hb1
      have hb1:=hb1wf
      clear hb1wf
      clear r_0 r_1 r_2 r_3 r_4 r_5 r_6 r_7 r_8
      obtain ⟨r_0,⟨r_1,r_2,r_3,r_4,r_5,r_6,r_7⟩,r_8⟩:=_root_.id Z2
      have qa2 : Cs wf ba (oa + i * 7) (sa,.slice Sa 0 ga):=hwf ▸ qa1.keep fun _ => rfl
      clear a_1 a_2 a_3 a_4 a_5 a_6 a_7
      obtain ⟨a_1,a_2,a_3,a_4,a_5,a_6,a_7⟩:=_root_.id qa2
      have qb2 : Cs wf bb (ob + j * 7) (sb,.slice Sb 0 gb):=hwf ▸ qb1.keep fun _ => rfl
      clear b_1 b_2 b_3 b_4 b_5 b_6 b_7
      obtain ⟨b_1,b_2,b_3,b_4,b_5,b_6,b_7⟩:=_root_.id qb2
      clear a_1 a_2 a_3 a_4 a_5 a_6 a_7 b_1 b_2 b_3 b_4 b_5 b_6 b_7
      clear r_0 r_1 r_2 r_3 r_4 r_5 r_6 r_7 r_8
      have hB0f:=World.block_lt_of_cell? _ _ d0
      have hB1f:=World.block_lt_of_cell? _ _ d1
      iterate 6 try (first | go_values | gi_guarded | gi_step | gi_upon)
      refine St.wpIn_region_calls (SB wf wr.heap.size (s,.slice S 0 g)) (fun _ x => x = .agg #[.int .i64 s.client,.int .i64 s.seq,.int .i64 s.rep.code,.int .i64 s.rep.err,.bool s.rep.has,.string s.rep.val,.slice S 0 g]) (fun _ => trivial) (fun _ => hn) (fun _ _ _ _ h => callsIn_wide.2 h) (by kernel_rfl) mixB (by kernel_rfl) (by kernel_rfl) ⟨wf,Below.refl _ _,fun _ => hwf,fun h => by cases h⟩ ?_
      iterate 8
       apply St.mix_give
       ·rfl
       ·rintro L u' wv ⟨wg,hby,h0,h1⟩ hcl hrd hag
        have e0:=h0 (St.not_yet hcl hrd 10 9 (by kernel_rfl))
        clear h0 h1
        subst e0
        have y0:=(hby.cell (p:=⟨B0,0,none⟩) hB0f).trans d0
        have y1:=(hby.cell (p:=⟨B1,0,none⟩) hB1f).trans d1
        obtain ⟨x_1,x_2,x_3,x_4,x_5,x_6,x_7⟩:=qa2.later hby
        obtain ⟨t_1,t_2,t_3,t_4,t_5,t_6,t_7⟩:=qb2.later hby
        obtain ⟨z_0,⟨z_1,z_2,z_3,z_4,z_5,z_6,z_7⟩,z_8⟩:=Z2.keep hby
        go_simp
        try with_reducible rfl
       ·exact fun L u' wx hS => hS
       simp only [Act.put,St.pu]
      refine St.mix_into (v:=.agg #[.int .i64 s.client,.int .i64 s.seq,.int .i64 s.rep.code,.int .i64 s.rep.err,.bool s.rep.has,.string s.rep.val,.slice S 0 g]) (f:=212) (args:=#[sv (sa,.slice Sa 0 ga),sv (sb,.slice Sb 0 gb)]) rfl rfl ?_ ?_ ?_
      ·intro wv
       go_simp
       try with_reducible rfl
      ·rintro L u' wv ⟨wg,hby,h0,h1⟩ hcl hrd hag
       have h9:=St.not_yet hcl hrd 10 9 (by kernel_rfl)
       have e0:=h0 h9
       clear h0 h1
       subst e0
       refine (later_any sa sb Sa Sb ga gb _).mono ?_
       rintro e w1 ⟨rfl,hb⟩
       exact ⟨by rw [hL],w1,hby.trans (hb.mono hby.size),fun _ => rfl,fun h => absurd ((show L 9 = true from h).symm.trans h9) (by simp)⟩
      simp only [Act.put,St.pu]
      refine St.mix_skip rfl ?_ ?_
      ·rintro L u' wv ⟨wg,hby,h0,h1⟩ hcl hrd hag
       have e0:=h0 (hrd.1)
       clear h0 h1
       subst e0
       have y0:=(hby.cell (p:=⟨B0,0,none⟩) hB0f).trans d0
       have y1:=(hby.cell (p:=⟨B1,0,none⟩) hB1f).trans d1
       obtain ⟨x_1,x_2,x_3,x_4,x_5,x_6,x_7⟩:=qa2.later hby
       obtain ⟨t_1,t_2,t_3,t_4,t_5,t_6,t_7⟩:=qb2.later hby
       obtain ⟨z_0,⟨z_1,z_2,z_3,z_4,z_5,z_6,z_7⟩,z_8⟩:=Z2.keep hby
       refine ⟨putS7 wv wr.heap.size (s,.slice S 0 g),?_,wv,hby,fun h => absurd h (by simp [St.mark]),fun _ => rfl⟩
       simp only [putS7]
       go_simp
       try with_reducible rfl
      simp only [Act.put]
      refine St.mix_last ?_
      rintro L wv ⟨wg,hby,h0,h1⟩ hall
      have e1:=h1 (hall 9 (by decide))
      clear hall h1 h0
      subst e1
      have hb2' : Below wr.heap.size wr wg:=hb1.trans (hby.mono hb1.size)
      clear hb1
      have hb1:=hb2'
      clear hb2'
      obtain ⟨z_0,⟨z_1,z_2,z_3,z_4,z_5,z_6,z_7⟩,z_8⟩:=Z2.keep hby
      simp only [putS7]
      iterate 38 try (first | go_values | gi_guarded | gi_step | gi_upon | go_simp)
      obtain ⟨W2,hW2⟩ : ∃ W2,putS7 wg wr.heap.size (s,.slice S 0 g) = W2:=⟨_,rfl⟩
      have hb2 : Below wr.heap.size wr W2:=hW2 ▸ (putS7_below hb1 (Nat.le_refl _) : Below wr.heap.size wr (putS7 wg wr.heap.size (s,.slice S 0 g)))
      change Oper.wpIn _ _ _ _ _ (putS7 wg wr.heap.size (s,.slice S 0 g)) _ _
      rw [hW2]
      clear hW2
      have hkp2 : KpB N B0 B1 W W2:=kpB_t hkp (kpB_of hb2 hNw hB0w hB1w)
      have hJ2 : J pre W2:=hJd _ wr W2 none hJs ⟨hb2.os,hb2.tape,hb2.output,hb2.size,fun k hk _ => hb2.block k hk⟩ (fun r e => by cases e)
      obtain ⟨hz,hT,hkm⟩:=nth_head HB.out HE.out
      have HK : Hid (k < m):=Lib.hid (by have:=hm.out; omega)
      obtain ⟨fn,tmps,assign,body,hy,hR⟩:=hY _ (⟨k,HK.out⟩ : Ix m) W2 hJ2 (by rw [vals_length HP.out.2]; exact HK.out)
      dsimp only at hy
      rw [hz] at hy
      dsimp only [sv] at hy
      have HB2 : Hid (bothG fS (za.drop (i + 1)) (zb.drop (j + 1)) = (bothG fS za zb).drop (k + 1)):=Lib.hid (hT)
      clear hz hT hkm HB HE
      gi_wp2
      refine hR.mono ?_
      rintro e W3 (⟨rfl,hJ3,hk3⟩ | ⟨rfl,hJx3⟩)
      ·gi_wp2
       go_roundw
       case rel => exact ⟨i + 1,j + 1,k + 1,_,by omega,by omega,by go_num,by go_num,HB2,Lib.hid ⟨HK.out,vals_snoc HP.out.2 HK.out⟩,hJ3,kpB_t hkp2 hk3,Below.refl _ _⟩
       case measure => simp [intOf]; omega
      ·gi_wp2
       refine bodyPost_ret (results_none rfl _ _ _) rfl ?_
       exact ⟨⟨_,rfl⟩,.inr ⟨_,⟨k + 1,HK.out,vals_snoc HP.out.2 HK.out⟩,hJx3⟩⟩
   ·obtain rfl : nb = j:=by omega
    obtain ⟨W1,hW1⟩ : ∃ W1,wr.alloc (.cells #[.int .i64 0,.int .i64 0,.int .i64 0,.int .i64 0,.bool false,.string ⟨#[]⟩,.slice none 0 0] 89) = W1:=⟨_,rfl⟩
    obtain ⟨wd,hwd⟩ : ∃ wd,W1.drew = wd:=⟨_,rfl⟩
    have Z0 : BoxS wr.heap.size zeroZ wd:=hwd ▸ (hW1 ▸ BoxS.zero wr : BoxS wr.heap.size zeroZ W1).drew
    have d0 : wd.cell? ⟨B0,0,none⟩ = some (.slice A na ca):=by rw [<- hwd,World.cell?_drew,<- hW1,World.cell?_alloc_lt _ _ _ (World.block_lt_of_cell? _ _ c0)]; exact c0
    have d1 : wd.cell? ⟨B1,0,none⟩ = some (.slice D nb cb):=by rw [<- hwd,World.cell?_drew,<- hW1,World.cell?_alloc_lt _ _ _ (World.block_lt_of_cell? _ _ c1)]; exact c1
    have hb1 : Below wr.heap.size wr wd:=by rw [<- hwd,<- hW1]; exact ((Below.refl _ wr).alloc (Nat.le_refl _) _).drew
    obtain ⟨r_0,⟨r_1,r_2,r_3,r_4,r_5,r_6,r_7⟩,r_8⟩:=_root_.id Z0
    have hal : i < za.length:=by have:=HNA.out; omega
    obtain ⟨sa,Sa,ga,esa⟩:=nopz hpa hal
    obtain ⟨ba,oa,rfl,hbla,hcsa⟩:=(HVA.out.keep hkp.1).at_ hal
    rw [esa] at hcsa
    have hda : za.drop i = (sa,.slice Sa 0 ga) :: za.drop (i + 1):=by rw [List.drop_eq_getElem_cons hal,esa]
    have qa : Cs wd ba (oa + i * 7) (sa,.slice Sa 0 ga):=hwd ▸ (hW1 ▸ hcsa.alloc (.cells #[.int .i64 0,.int .i64 0,.int .i64 0,.int .i64 0,.bool false,.string ⟨#[]⟩,.slice none 0 0] 89) : Cs W1 ba (oa + i * 7) (sa,.slice Sa 0 ga)).keep fun _ => rfl
    obtain ⟨a_1,a_2,a_3,a_4,a_5,a_6,a_7⟩:=_root_.id qa
    have la : (i : Int) < (na : Int):=by have:=HNA.out; omega
    have la0 : (0 <= (i : Int)) = True:=eq_true (by omega)
    have la1 : ((i : Int) < (na : Int)) = True:=eq_true (by omega)
    have la2 : ((i : Int) = (na : Int)) = False:=eq_false (by omega)
    have la5 : ((i : Int) == (na : Int)) = false:=beq_false_of_ne (by omega)
    have la3 : IntKind.i64.wrap ((i : Int) + 1) = (i : Int) + 1:=by rw [IntKind.wrap_i64]; omega
    clear hal esa hcsa
    have HE : Hid (bothG fS (za.drop i) (zb.drop nb) = (sa,.slice Sa 0 ga) :: za.drop (i + 1)):=Lib.hid (by
     rw [List.drop_eq_nil_of_le (by have:=HNB.out; omega : zb.length <= nb),bothG_end,hda])
    clear hda hb ha
    gi_wp2
    refine St.wpIn_region_calm (fun _ _ wx => wx = wd) (by kernel_rfl) mixB (by kernel_rfl) (by kernel_rfl) hwd ?_
    iterate 5
     apply St.mix_give
     ·rfl
     ·rintro L u' wx rfl hcl hrd hag
      go_simp
      try with_reducible rfl
     ·exact fun L u' wx hS => hS
     simp only [Act.put,St.pu]
    iterate 17
     apply St.mix_past
     ·rfl
     ·exact fun L u' wx hS => hS
     simp only [Act.put,St.pu]
    iterate 2
     apply St.mix_give
     ·rfl
     ·rintro L u' wx rfl hcl hrd hag
      go_simp
      try with_reducible rfl
     ·exact fun L u' wx hS => hS
     simp only [Act.put,St.pu]
    refine St.mix_last ?_
    rintro L wx rfl hall
    iterate 45 try (first | go_values | gi_guarded | gi_step | gi_upon | go_simp)
    obtain ⟨W2,hW2⟩ : ∃ W2,putS7 wx wr.heap.size (sa,.slice Sa 0 ga) = W2:=⟨_,rfl⟩
    have hb2 : Below wr.heap.size wr W2:=hW2 ▸ (putS7_below hb1 (Nat.le_refl _) : Below wr.heap.size wr (putS7 wx wr.heap.size (sa,.slice Sa 0 ga)))
    change Oper.wpIn _ _ _ _ _ (putS7 wx wr.heap.size (sa,.slice Sa 0 ga)) _ _
    rw [hW2]
    clear hW2
    have hkp2 : KpB N B0 B1 W W2:=kpB_t hkp (kpB_of hb2 hNw hB0w hB1w)
    have hJ2 : J pre W2:=hJd _ wr W2 none hJs ⟨hb2.os,hb2.tape,hb2.output,hb2.size,fun k hk _ => hb2.block k hk⟩ (fun r e => by cases e)
    obtain ⟨hz,hT,hkm⟩:=nth_head HB.out HE.out
    have HK : Hid (k < m):=Lib.hid (by have:=hm.out; omega)
    obtain ⟨fn,tmps,assign,body,hy,hR⟩:=hY _ (⟨k,HK.out⟩ : Ix m) W2 hJ2 (by rw [vals_length HP.out.2]; exact HK.out)
    dsimp only at hy
    rw [hz] at hy
    dsimp only [sv] at hy
    have HB2 : Hid (bothG fS (za.drop (i + 1)) (zb.drop (nb)) = (bothG fS za zb).drop (k + 1)):=Lib.hid (by rw [List.drop_eq_nil_of_le (by have:=HNB.out; omega : zb.length <= nb),bothG_end]; exact hT)
    clear hz hT hkm HB HE
    gi_wp2
    refine hR.mono ?_
    rintro e W3 (⟨rfl,hJ3,hk3⟩ | ⟨rfl,hJx3⟩)
    ·gi_wp2
     go_roundw
     case rel => exact ⟨i + 1,nb,k + 1,_,by omega,by omega,by go_num,rfl,HB2,Lib.hid ⟨HK.out,vals_snoc HP.out.2 HK.out⟩,hJ3,kpB_t hkp2 hk3,Below.refl _ _⟩
     case measure => simp [intOf]; omega
    ·gi_wp2
     refine bodyPost_ret (results_none rfl _ _ _) rfl ?_
     exact ⟨⟨_,rfl⟩,.inr ⟨_,⟨k + 1,HK.out,vals_snoc HP.out.2 HK.out⟩,hJx3⟩⟩
  ·by_cases hb : j < nb
   ·obtain rfl : na = i:=by omega
    obtain ⟨W1,hW1⟩ : ∃ W1,wr.alloc (.cells #[.int .i64 0,.int .i64 0,.int .i64 0,.int .i64 0,.bool false,.string ⟨#[]⟩,.slice none 0 0] 89) = W1:=⟨_,rfl⟩
    obtain ⟨wd,hwd⟩ : ∃ wd,W1.drew = wd:=⟨_,rfl⟩
    have Z0 : BoxS wr.heap.size zeroZ wd:=hwd ▸ (hW1 ▸ BoxS.zero wr : BoxS wr.heap.size zeroZ W1).drew
    have d0 : wd.cell? ⟨B0,0,none⟩ = some (.slice A na ca):=by rw [<- hwd,World.cell?_drew,<- hW1,World.cell?_alloc_lt _ _ _ (World.block_lt_of_cell? _ _ c0)]; exact c0
    have d1 : wd.cell? ⟨B1,0,none⟩ = some (.slice D nb cb):=by rw [<- hwd,World.cell?_drew,<- hW1,World.cell?_alloc_lt _ _ _ (World.block_lt_of_cell? _ _ c1)]; exact c1
    have hb1 : Below wr.heap.size wr wd:=by rw [<- hwd,<- hW1]; exact ((Below.refl _ wr).alloc (Nat.le_refl _) _).drew
    obtain ⟨r_0,⟨r_1,r_2,r_3,r_4,r_5,r_6,r_7⟩,r_8⟩:=_root_.id Z0
    have hbl : j < zb.length:=by have:=HNB.out; omega
    obtain ⟨sb,Sb,gb,esb⟩:=nopz hpb hbl
    obtain ⟨bb,ob,rfl,hblb,hcsb⟩:=(HVB.out.keep hkp.1).at_ hbl
    rw [esb] at hcsb
    have hdb : zb.drop j = (sb,.slice Sb 0 gb) :: zb.drop (j + 1):=by rw [List.drop_eq_getElem_cons hbl,esb]
    have qb : Cs wd bb (ob + j * 7) (sb,.slice Sb 0 gb):=hwd ▸ (hW1 ▸ hcsb.alloc (.cells #[.int .i64 0,.int .i64 0,.int .i64 0,.int .i64 0,.bool false,.string ⟨#[]⟩,.slice none 0 0] 89) : Cs W1 bb (ob + j * 7) (sb,.slice Sb 0 gb)).keep fun _ => rfl
    obtain ⟨b_1,b_2,b_3,b_4,b_5,b_6,b_7⟩:=_root_.id qb
    have lb : (j : Int) < (nb : Int):=by have:=HNB.out; omega
    have lb0 : (0 <= (j : Int)) = True:=eq_true (by omega)
    have lb1 : ((j : Int) < (nb : Int)) = True:=eq_true (by omega)
    have lb2 : ((j : Int) = (nb : Int)) = False:=eq_false (by omega)
    have lb5 : ((j : Int) == (nb : Int)) = false:=beq_false_of_ne (by omega)
    have lb3 : IntKind.i64.wrap ((j : Int) + 1) = (j : Int) + 1:=by rw [IntKind.wrap_i64]; omega
    clear hbl esb hcsb
    have HE : Hid (bothG fS (za.drop na) (zb.drop j) = (sb,.slice Sb 0 gb) :: zb.drop (j + 1)):=Lib.hid (by
     rw [List.drop_eq_nil_of_le (by have:=HNA.out; omega : za.length <= na),bothG_nil,hdb])
    clear hdb hb ha
    gi_wp2
    refine St.wpIn_region_calm (fun _ _ wx => wx = wd) (by kernel_rfl) mixB (by kernel_rfl) (by kernel_rfl) hwd ?_
    iterate 10
     apply St.mix_give
     ·rfl
     ·rintro L u' wx rfl hcl hrd hag
      go_simp
      try with_reducible rfl
     ·exact fun L u' wx hS => hS
     simp only [Act.put,St.pu]
    iterate 11
     apply St.mix_past
     ·rfl
     ·exact fun L u' wx hS => hS
     simp only [Act.put,St.pu]
    iterate 3
     apply St.mix_give
     ·rfl
     ·rintro L u' wx rfl hcl hrd hag
      go_simp
      try with_reducible rfl
     ·exact fun L u' wx hS => hS
     simp only [Act.put,St.pu]
    refine St.mix_last ?_
    rintro L wx rfl hall
    obtain ⟨we,hwe⟩ : ∃ we,World.drew wx = we:=⟨_,rfl⟩
    have Z1 : BoxS wr.heap.size zeroZ we:=hwe ▸ Z0.drew
    have d0we : we.cell? ⟨B0,0,none⟩ = some (.slice A na ca):=by rw [<- hwe]; exact d0
    have d1we : we.cell? ⟨B1,0,none⟩ = some (.slice (some ⟨bb,ob,none⟩) nb cb):=by rw [<- hwe]; exact d1
    clear d0 d1
    have d0:=d0we
    have d1:=d1we
    clear d0we d1we
    have hb1we : Below wr.heap.size wr we:=by rw [<- hwe]; exact hb1.drew
    clear hb1
    have hb1:=hb1we
    clear hb1we
    clear r_0 r_1 r_2 r_3 r_4 r_5 r_6 r_7 r_8
    obtain ⟨r_0,⟨r_1,r_2,r_3,r_4,r_5,r_6,r_7⟩,r_8⟩:=_root_.id Z1
    have qb1 : Cs we bb (ob + j * 7) (sb,.slice Sb 0 gb):=hwe ▸ qb.keep fun _ => rfl
    clear b_1 b_2 b_3 b_4 b_5 b_6 b_7
    obtain ⟨b_1,b_2,b_3,b_4,b_5,b_6,b_7⟩:=_root_.id qb1
    iterate 6 try (first | go_values | gi_guarded | gi_step | gi_upon)
    refine St.wpIn_region_calm (fun _ _ wx => wx = we) (by kernel_rfl) mixB (by kernel_rfl) (by kernel_rfl) hwe ?_
    iterate 5
     apply St.mix_give
     ·rfl
     ·rintro L u' wx rfl hcl hrd hag
      go_simp
      try with_reducible rfl
     ·exact fun L u' wx hS => hS
     simp only [Act.put,St.pu]
    iterate 11
     apply St.mix_past
     ·rfl
     ·exact fun L u' wx hS => hS
     simp only [Act.put,St.pu]
    iterate 2
     apply St.mix_give
     ·rfl
     ·rintro L u' wx rfl hcl hrd hag
      go_simp
      try with_reducible rfl
     ·exact fun L u' wx hS => hS
     simp only [Act.put,St.pu]
    refine St.mix_last ?_
    rintro L wy rfl hall
    iterate 45 try (first | go_values | gi_guarded | gi_step | gi_upon | go_simp)
    obtain ⟨W2,hW2⟩ : ∃ W2,putS7 wy wr.heap.size (sb,.slice Sb 0 gb) = W2:=⟨_,rfl⟩
    have hb2 : Below wr.heap.size wr W2:=hW2 ▸ (putS7_below hb1 (Nat.le_refl _) : Below wr.heap.size wr (putS7 wy wr.heap.size (sb,.slice Sb 0 gb)))
    change Oper.wpIn _ _ _ _ _ (putS7 wy wr.heap.size (sb,.slice Sb 0 gb)) _ _
    rw [hW2]
    clear hW2
    have hkp2 : KpB N B0 B1 W W2:=kpB_t hkp (kpB_of hb2 hNw hB0w hB1w)
    have hJ2 : J pre W2:=hJd _ wr W2 none hJs ⟨hb2.os,hb2.tape,hb2.output,hb2.size,fun k hk _ => hb2.block k hk⟩ (fun r e => by cases e)
    obtain ⟨hz,hT,hkm⟩:=nth_head HB.out HE.out
    have HK : Hid (k < m):=Lib.hid (by have:=hm.out; omega)
    obtain ⟨fn,tmps,assign,body,hy,hR⟩:=hY _ (⟨k,HK.out⟩ : Ix m) W2 hJ2 (by rw [vals_length HP.out.2]; exact HK.out)
    dsimp only at hy
    rw [hz] at hy
    dsimp only [sv] at hy
    have HB2 : Hid (bothG fS (za.drop (na)) (zb.drop (j + 1)) = (bothG fS za zb).drop (k + 1)):=Lib.hid (by rw [List.drop_eq_nil_of_le (by have:=HNA.out; omega : za.length <= na),bothG_nil]; exact hT)
    clear hz hT hkm HB HE
    gi_wp2
    refine hR.mono ?_
    rintro e W3 (⟨rfl,hJ3,hk3⟩ | ⟨rfl,hJx3⟩)
    ·gi_wp2
     go_roundw
     case rel => exact ⟨na,j + 1,k + 1,_,by omega,by omega,rfl,by go_num,HB2,Lib.hid ⟨HK.out,vals_snoc HP.out.2 HK.out⟩,hJ3,kpB_t hkp2 hk3,Below.refl _ _⟩
     case measure => simp [intOf]; omega
    ·gi_wp2
     refine bodyPost_ret (results_none rfl _ _ _) rfl ?_
     exact ⟨⟨_,rfl⟩,.inr ⟨_,⟨k + 1,HK.out,vals_snoc HP.out.2 HK.out⟩,hJx3⟩⟩
   ·obtain rfl : j = nb:=by omega
    obtain rfl : i = na:=by omega
    have hkm : k = m:=by
     have h1:=HB.out
     rw [List.drop_eq_nil_of_le (by have:=HNA.out; omega : za.length <= i),List.drop_eq_nil_of_le (by have:=HNB.out; omega : zb.length <= j),bothG_nil] at h1
     have h2:=hm.out
     have h3:=HP.out.1
     have h4:=List.drop_eq_nil_iff.1 h1.symm
     omega
    subst hkm
    have HP2:=HP.out.2
    clear ha hb
    gi_wp2
    go_end0
    exact ⟨⟨_,rfl⟩,.inl ⟨_,HP2,hJs⟩⟩
end Go.Proofs.YthcmnkmfhgoddaaGreatDoor.Ss

namespace Go.Proofs.YthcmnkmfhgoddaaGreatDoor.Ss
open Go.RowKit Bnd
open Go.Proofs.YthcmnkmfhgoddaaGreatDoor.Od (Rep SP ArgP OwnP rv BoxR)
set_option maxHeartbeats 2000000 in
theorem clone0 (A : Option Addr) (c : Nat) (w : World) :
    Calls Tryz.prog 151 #[.slice A 0 c] w fun e w' => (∃ A' c',e = .returned (.slice A' 0 c')) /\ Below w.heap.size w w':=by
  have q : ∀ (w : World) (a : Option Addr) (n c n' c' : Nat),(binOp .eql 34 (.slice a n c) (.slice none n' c')).run Tryz.prog w = .ok (.bool a.isNone) w:=fun w a n c n' c' => Lib.run_eql_slice_nil w _ _ a n c n' c' Tryz.underlying34
  cases A with
  | none =>
    go_enter Tryz.func151,Tryz.ntmps151
    go_wp2_with fail
    go_ret
    exact ⟨⟨_,_,rfl⟩,Below.refl _ _⟩
  | some a =>
    go_enter Tryz.func151,Tryz.ntmps151
    go_wp2_with (at_builtin; refine Od.wpList_append_ps rfl _ _ rfl w.heap.size _ [] rfl (Od.own_empty w) (by simp) _ [] rfl (.empty a c) (by simp) ?_)
    intro v' w1 hown hb1 _
    obtain ⟨A',c',rfl⟩:=(SP.of_own hown).form
    go_wp2_with fail
    go_ret
    exact ⟨⟨_,_,rfl⟩,((Below.refl _ w).alloc (Nat.le_refl _) _).trans hb1⟩
set_option maxHeartbeats 4000000 in
set_option maxRecDepth 100000 in
theorem own0 (s : Ses) (A : Option Addr) (c : Nat) (w : World) :
    Calls Tryz.prog 139 #[sv (s,.slice A 0 c)] w fun e w' => (∃ A' c',e = .returned (sv (s,.slice A' 0 c'))) /\ Below w.heap.size w w':=by
  have cc:=fun w => clone0 A c w
  obtain ⟨W0,hW0⟩ : ∃ W0,(w.alloc (.cells #[.int .i64 s.client,.int .i64 s.seq,.int .i64 s.rep.code,.int .i64 s.rep.err,.bool s.rep.has,.string s.rep.val,.slice A 0 c] 89)).alloc (.cells #[.int .i64 0,.int .i64 0,.int .i64 0,.int .i64 0,.bool false,.string ⟨#[]⟩,.slice none 0 0] 89) = W0:=⟨_,rfl⟩
  have B0 : BoxS w.heap.size (s,.slice A 0 c) W0:=hW0 ▸ (BoxS.new w (s,.slice A 0 c)).alloc _
  have Z0 : BoxS (w.heap.size + 1) zeroZ W0:=by
    have:=BoxS.zero (w.alloc (.cells #[.int .i64 s.client,.int .i64 s.seq,.int .i64 s.rep.code,.int .i64 s.rep.err,.bool s.rep.has,.string s.rep.val,.slice A 0 c] 89))
    rw [World.size_alloc] at this
    rw [hW0] at this
    exact this
  have hb0 : Below w.heap.size w W0:=by rw [<- hW0]; exact ((Below.refl _ w).alloc (Nat.le_refl _) _).alloc (by simp) _
  have hz0:=hb0.size
  obtain ⟨p_0,⟨p_1,p_2,p_3,p_4,p_5,p_6,p_7⟩,p_8⟩:=_root_.id B0
  go_enter Tryz.func139,Tryz.ntmps139
  go_wp2_with fail
  try rw [hW0]
  refine (cc _).mono ?_
  rintro e w1 ⟨⟨A',c',rfl⟩,b1⟩
  have B1:=B0.keep b1
  have Z1:=Z0.keep b1
  have hb1:=hb0.trans (b1.mono hz0)
  have hz1:=hb1.size
  have hlt:=B1.1
  clear p_0 p_1 p_2 p_3 p_4 p_5 p_6 p_7 p_8
  obtain ⟨p_0,⟨p_1,p_2,p_3,p_4,p_5,p_6,p_7⟩,p_8⟩:=_root_.id B1
  obtain ⟨q_0,⟨q_1,q_2,q_3,q_4,q_5,q_6,q_7⟩,q_8⟩:=_root_.id Z1
  clear b1 B0 Z0 hW0
  go_wp2_with fail
  exact bodyPost_ret (res_BoxS Tryz.results139 rfl (BoxS.put (Z1.other (by simp) _) (s,.slice A' 0 c'))) rfl ⟨⟨A',c',rfl⟩,(by exact bex0)⟩
set_option maxHeartbeats 4000000 in
set_option maxRecDepth 100000 in
theorem closure_any (zs : List Zs) (A : Option Addr) (ca : Nat) (cl : Int) (b0 b1 i : Nat) (W w : World) (hi : i < zs.length) (hv : SZ W W.heap.size (.slice A zs.length ca) zs)
    (h0 : W.cell? ⟨b0,0,none⟩ = some (.slice A zs.length ca)) (h1 : W.cell? ⟨b1,0,none⟩ = some (.int .i64 cl)) (hb0 : b0 < W.heap.size) (hb1 : b1 < W.heap.size) (hb : Below W.heap.size W w) :
    Calls Tryz.prog 258 #[.int .i64 (i : Int),.pointer (some ⟨b0,0,none⟩),.pointer (some ⟨b1,0,none⟩)] w fun e w' => e = .returned (.bool (decide (zs[i].1.client >= cl))) /\ Below W.heap.size W w':=by
  obtain ⟨b,o,rfl,hbl,q0,qq⟩:=hv.at_ hi
  obtain ⟨x,hx⟩ : ∃ x,zs[i].1.client = x:=⟨_,rfl⟩
  rw [hx] at q0 ⊢
  have g0:=(hb.cell (p:=⟨b0,0,none⟩) hb0).trans h0
  have g1:=(hb.cell (p:=⟨b1,0,none⟩) hb1).trans h1
  have g2:=(hb.cell (p:=⟨b,o + i * 7,none⟩) hbl).trans q0
  have k0 : (0 <= (i : Int)) = True:=eq_true (by omega)
  obtain ⟨n,hn⟩ : ∃ n,zs.length = n:=⟨_,rfl⟩
  have k1 : ((i : Int) < (n : Int)) = True:=eq_true (by omega)
  rw [hn] at g0
  clear hv h0 h1 q0 qq hx hn hi
  go_enter Tryz.func258,Tryz.ntmps258
  go_wp2_with fail
  refine St.wp_region_stage (fun _ wx => wx = w.drew) (by kernel_rfl) (by kernel_rfl) (by kernel_rfl) rfl ?_
  repeat (first
    | (apply St.step_give
       · rfl
       · rintro L wx rfl hcl hrd
         go_simp
         try with_reducible rfl
       · exact fun L wx hS => hS
       simp only [Act.put,St.pu]))
  refine St.step_last ?_
  rintro L wx rfl _
  go_wp2_with fail
  go_ret
  exact ⟨rfl,hb.drew⟩
def Place (n : Nat) (p : Nat -> Bool) (k : Nat) : Prop:=k <= n /\ (∀ t,t < k -> p t = false) /\ ∀ t,k <= t -> t < n -> p t = true
set_option maxHeartbeats 4000000 in
set_option maxRecDepth 100000 in
theorem search_any (n : Nat) (p : Nat -> Bool) (b0 b1 : Nat) (W w : World) (hn : n <= 140737488355328) (hb : Below W.heap.size W w)
    (hf : ∀ (i : Nat) wx,i < n -> Below W.heap.size W wx -> Calls Tryz.prog 258 #[.int .i64 (i : Int),.pointer (some ⟨b0,0,none⟩),.pointer (some ⟨b1,0,none⟩)] wx fun e w' => e = .returned (.bool (p i)) /\ Below W.heap.size W w')
    (hm : ∀ a b,a <= b -> b < n -> p a = true -> p b = true) :
    Calls Tryz.prog 147 #[.int .i64 (n : Int),.func (.func 258) #[] #[.pointer (some ⟨b0,0,none⟩),.pointer (some ⟨b1,0,none⟩)]] w fun e w' => ∃ k : Nat,e = .returned (.int .i64 (k : Int)) /\ Place n p k /\ Below W.heap.size W w':=by
  have HM:=Lib.hid hm
  clear hm
  go_enter Tryz.func147,Tryz.ntmps147
  go_wp2_with fail
  go_loopw [5,6,7] (fun v5 v6 _ wr => ∃ lo hi : Nat,v5 = .int .i64 (lo : Int) /\ v6 = .int .i64 (hi : Int) /\ lo <= hi /\ hi <= n /\ Hid ((∀ t,t < lo -> p t = false) /\ ∀ t,hi <= t -> t < n -> p t = true) /\ Below W.heap.size W wr) (fun v5 v6 _ _ => (intOf v6).toNat - (intOf v5).toNat)
  case atStart => exact ⟨0,n,rfl,rfl,Nat.zero_le _,Nat.le_refl _,Lib.hid ⟨fun t h => by omega,fun t h h' => by omega⟩,hb⟩
  case round =>
    obtain ⟨lo,hi,rfl,rfl,h1,h2,HP,hbw⟩:=hrel
    by_cases hlt : lo < hi
    · have hc:=hf ((lo + hi) / 2) wr (by omega) hbw
      rw [show (((lo + hi) / 2 : Nat) : Int) = ((lo : Int) + (hi : Int)) / 2 by omega] at hc
      cases hp : p ((lo + hi) / 2) with
      | false =>
        rw [hp] at hc
        have HP2 : Hid ((∀ t,t < (lo + hi) / 2 + 1 -> p t = false) /\ ∀ t,hi <= t -> t < n -> p t = true):=Lib.hid ⟨fun t ht => by
          cases hx : p t with
          | false => rfl
          | true => have:=HM.out t ((lo + hi) / 2) (by omega) (by omega) hx; rw [hp] at this; exact absurd this (by simp),HP.out.2⟩
        clear hp HP
        go_wp2_with fail
        refine hc.mono ?_
        rintro e w1 ⟨rfl,hb1⟩
        go_wp2_with fail
        go_roundw
        case rel => exact ⟨(lo + hi) / 2 + 1,hi,by rw [show ((lo : Int) + (hi : Int)) / 2 + 1 = (((lo + hi) / 2 + 1 : Nat) : Int) by omega],rfl,by omega,h2,HP2,hb1⟩
        case measure => simp [intOf]; omega
      | true =>
        rw [hp] at hc
        have HP2 : Hid ((∀ t,t < lo -> p t = false) /\ ∀ t,(lo + hi) / 2 <= t -> t < n -> p t = true):=Lib.hid ⟨HP.out.1,fun t ht htn => HM.out ((lo + hi) / 2) t ht htn hp⟩
        clear hp HP
        go_wp2_with fail
        refine hc.mono ?_
        rintro e w1 ⟨rfl,hb1⟩
        go_wp2_with fail
        go_roundw
        case rel => exact ⟨lo,(lo + hi) / 2,rfl,by rw [show ((lo : Int) + (hi : Int)) / 2 = (((lo + hi) / 2 : Nat) : Int) by omega],by omega,by omega,HP2,hb1⟩
        case measure => simp [intOf]; omega
    · obtain rfl : hi = lo:=by omega
      go_wp2_with fail
      go_ret
      exact ⟨hi,rfl,⟨h2,HP.out.1,HP.out.2⟩,hbw⟩
def optS (o : Option Ses) : Ses × Bool:=match o with
  | some s => (s,true)
  | none => (Ses.zero,false)
theorem find_place {zs : List Zs} {c : Int} {k : Nat} (hr : riseB 0 (ses zs) = true) (hp : Place zs.length (fun t => decide ((zs.getD t zeroZ).1.client >= c)) k) :
    findS c (ses zs) = if h : k < zs.length then (if zs[k].1.client = c then some zs[k].1 else none) else none:=by
  obtain ⟨h1,h2,h3⟩:=hp
  have hat : ∀ t (h : t < zs.length),(zs.getD t zeroZ) = zs[t]:=fun t h => by rw [List.getD_eq_getElem?_getD,List.getElem?_eq_getElem h]; rfl
  have hrise : ∀ (l : List Ses) (n : Int),riseB n l = true -> ∀ i j (hj : j < l.length) (hi : i < j),(l[i]'(by omega)).client < l[j].client:=by
    intro l
    induction l with
    | nil => intro n _ i j hj; simp at hj
    | cons x l ih =>
      intro n hn i j hj hi
      rw [rise_cons] at hn
      cases j with
      | zero => omega
      | succ j =>
        cases i with
        | zero => exact (rise_mem hn.2.2 _ (List.getElem_mem _)).1
        | succ i => exact ih _ hn.2.2 i j (by simpa using hj) (by omega)
  by_cases hk : k < zs.length
  · rw [dif_pos hk]
    by_cases hc : zs[k].1.client = c
    · rw [if_pos hc,<- hc]
      exact findS_mem hr (List.mem_map.2 ⟨zs[k],List.getElem_mem hk,rfl⟩)
    · rw [if_neg hc,findS_none]
      intro s hs
      obtain ⟨i,hi,rfl⟩:=List.getElem_of_mem hs
      have hi' : i < zs.length:=by simpa using hi
      have e : (ses zs)[i] = zs[i].1:=by simp
      rw [e]
      have hk3:=h3 k (Nat.le_refl _) hk
      rw [decide_eq_true_eq,hat k hk] at hk3
      rcases Nat.lt_trichotomy i k with hlt | rfl | hgt
      · have:=h2 i hlt
        rw [decide_eq_false_iff_not,hat i hi'] at this
        omega
      · exact hc
      · have:=hrise (ses zs) 0 hr k i hi hgt
        have e2 : (ses zs)[k]'(by omega) = zs[k].1:=by simp
        rw [e,e2] at this
        omega
  · rw [dif_neg hk,findS_none]
    intro s hs
    obtain ⟨i,hi,rfl⟩:=List.getElem_of_mem hs
    have hi' : i < zs.length:=by simpa using hi
    have e : (ses zs)[i] = zs[i].1:=by simp
    rw [e]
    have:=h2 i (by omega)
    rw [decide_eq_false_iff_not,hat i hi'] at this
    omega
theorem mono_place {zs : List Zs} {c : Int} (hr : riseB 0 (ses zs) = true) : ∀ a b,a <= b -> b < zs.length -> decide ((zs.getD a zeroZ).1.client >= c) = true -> decide ((zs.getD b zeroZ).1.client >= c) = true:=by
  intro a b hab hb ha
  rw [decide_eq_true_eq] at ha ⊢
  have hat : ∀ t (h : t < zs.length),(zs.getD t zeroZ) = zs[t]:=fun t h => by rw [List.getD_eq_getElem?_getD,List.getElem?_eq_getElem h]; rfl
  rw [hat a (by omega)] at ha
  rw [hat b hb]
  rcases Nat.eq_or_lt_of_le hab with rfl | hlt
  · exact ha
  · have hrise : ∀ (l : List Ses) (n : Int),riseB n l = true -> ∀ i j (hj : j < l.length) (hi : i < j),(l[i]'(by omega)).client < l[j].client:=by
      intro l
      induction l with
      | nil => intro n _ i j hj; simp at hj
      | cons x l ih =>
        intro n hn i j hj hi
        rw [rise_cons] at hn
        cases j with
        | zero => omega
        | succ j =>
          cases i with
          | zero => exact (rise_mem hn.2.2 _ (List.getElem_mem _)).1
          | succ i => exact ih _ hn.2.2 i j (by simpa using hj) (by omega)
    have h:=hrise (ses zs) 0 hr a b (by simpa using hb) hlt
    have e1 : (ses zs)[a]'(by simp; omega) = zs[a].1:=by simp
    have e2 : (ses zs)[b]'(by simpa using hb) = zs[b].1:=by simp
    rw [e1,e2] at h
    omega
def FoundZ (o : Option Ses) (e : Ending) : Prop:=∃ A c,e = .returned (.tuple #[sv ((optS o).1,.slice A 0 c),.bool (optS o).2])
set_option maxHeartbeats 8000000 in
set_option maxRecDepth 100000 in
theorem find_any (v : Value) (zs : List Zs) (c : Int) (w : World) (hv : SZ w w.heap.size v zs) (hr : riseB 0 (ses zs) = true) (hp : NoP zs) (hl : zs.length <= 1000000) :
    Calls Tryz.prog 233 #[v,.int .i64 c] w fun e w' => FoundZ (findS c (ses zs)) e /\ Below w.heap.size w w':=by
  obtain ⟨A,ca,rfl⟩:=hv.form
  obtain ⟨W0,hW0⟩ : ∃ W0,((w.alloc (.cells #[.slice A zs.length ca] 35)).alloc (.cells #[.int .i64 c] 2)).alloc (.cells #[.int .i64 0,.int .i64 0,.int .i64 0,.int .i64 0,.bool false,.string ⟨#[]⟩,.slice none 0 0] 89) = W0:=⟨_,rfl⟩
  have Z0 : BoxS (w.heap.size + 1 + 1) zeroZ W0:=by
    have:=BoxS.zero ((w.alloc (.cells #[.slice A zs.length ca] 35)).alloc (.cells #[.int .i64 c] 2))
    rw [World.size_alloc,World.size_alloc] at this
    rw [<- hW0]
    exact this
  have hb0 : Below w.heap.size w W0:=by rw [<- hW0]; exact (((Below.refl _ w).alloc (Nat.le_refl _) _).alloc (by simp) _).alloc (by simp; omega) _
  have x0 : W0.cell? ⟨w.heap.size,0,none⟩ = some (.slice A zs.length ca):=by rw [<- hW0]; simp [go_sem]
  have x1 : W0.cell? ⟨w.heap.size + 1,0,none⟩ = some (.int .i64 c):=by rw [<- hW0]; simp [go_sem]
  have hz0 : W0.heap.size = w.heap.size + 3:=by rw [<- hW0]; simp
  have hv0 : SZ W0 W0.heap.size (.slice A zs.length ca) zs:=(hv.below hb0).more hb0.size
  have hat : ∀ t (h : t < zs.length),(zs.getD t zeroZ) = zs[t]:=fun t h => by rw [List.getD_eq_getElem?_getD,List.getElem?_eq_getElem h]; rfl
  have cs:=search_any zs.length (fun t => decide ((zs.getD t zeroZ).1.client >= c)) w.heap.size (w.heap.size + 1) W0 W0 (by omega) (Below.refl _ _) (fun i wx hi hx => by
    show Calls _ _ _ _ fun e w' => e = .returned (.bool (decide ((zs.getD i zeroZ).1.client >= c))) /\ Below W0.heap.size W0 w'
    rw [hat i hi]
    exact closure_any zs A ca c w.heap.size (w.heap.size + 1) i W0 wx hi hv0 x0 x1 (by omega) (by omega) hx) (mono_place hr)
  obtain ⟨n,hn⟩ : ∃ n,zs.length = n:=⟨_,rfl⟩
  have HN:=Lib.hid hn
  have hvh:=Lib.hid hv
  have hv0h:=Lib.hid hv0
  have hrh:=Lib.hid hr
  rw [hn] at hl x0 cs hW0 ⊢
  clear hn hv hv0 hr hat
  go_enter Tryz.func233,Tryz.ntmps233
  go_wp2_with fail
  try rw [hW0]
  refine cs.mono ?_
  rintro e w1 ⟨k,rfl,hpl,hb1⟩
  have y0:=(hb1.cell (p:=⟨w.heap.size,0,none⟩) (show w.heap.size < W0.heap.size by omega)).trans x0
  have y1:=(hb1.cell (p:=⟨w.heap.size + 1,0,none⟩) (show w.heap.size + 1 < W0.heap.size by omega)).trans x1
  have Z1:=Z0.keep hb1
  have hbw : Below w.heap.size w w1:=hb0.trans (hb1.mono (by omega))
  have hz1:=hbw.size
  have hkn:=hpl.1
  have hl2 : w.heap.size + 1 < w1.heap.size:=by have:=hb1.size; omega
  have hans:=find_place hrh.out (by rw [HN.out]; exact hpl)
  clear hpl cs hb0 hb1 Z0 x0 x1 hW0 hrh
  by_cases hlt : k < n
  · have hkx : k < zs.length:=by rw [HN.out]; exact hlt
    rw [dif_pos hkx] at hans
    have hv1:=(hvh.out.below hbw)
    rw [HN.out] at hv1
    obtain ⟨b,o,rfl,hb,q0,q1,q2,q3,q4,q5,q6⟩:=hv1.at_ hkx
    obtain ⟨hps,pa,pc,hpv⟩:=hp zs[k] (List.getElem_mem hkx)
    obtain ⟨⟨⟨cl,sq,r⟩,pv⟩,hzk⟩ : ∃ z,zs[k] = z:=⟨_,rfl⟩
    rw [hzk] at q0 q1 q2 q3 q4 q5 q6 hps hpv hans
    simp only at q0 q1 q2 q3 q4 q5 q6 hps hpv hans
    subst hpv
    have co:=fun w => own0 ⟨cl,sq,r⟩ pa pc w
    have k0 : (0 <= (k : Int)) = True:=eq_true (by omega)
    have k1 : ((k : Int) < (n : Int)) = True:=eq_true (by omega)
    have k2 : ((k : Int) == (n : Int)) = false:=by rw [beq_eq_false_iff_ne]; omega
    have k3 : ((k : Int) = (n : Int)) = False:=eq_false (by omega)
    have k4 : (k = n) = False:=eq_false (by omega)
    have k5 : (k == n) = false:=by rw [beq_eq_false_iff_ne]; omega
    have hbz : b < w1.heap.size:=by omega
    by_cases hc : cl = c
    · rw [if_pos hc] at hans
      have HANS:=Lib.hid hans
      have j1 : (cl == c) = true:=by simpa using hc
      have j2 : (cl != c) = false:=by simp [hc]
      clear hans hv1 hzk hkx hps hc
      go_wp2_with fail
      refine St.wp_region_stage (fun _ wx => wx = w1.drew) (by kernel_rfl) (by kernel_rfl) (by kernel_rfl) rfl ?_
      repeat (first
        | (apply St.step_past
           · rfl
           · exact fun L wx hS => hS
           simp only [Act.put,St.pu])
        | (apply St.step_give
           · rfl
           · rintro L wx rfl hcl hrd
             go_simp
             try with_reducible rfl
           · exact fun L wx hS => hS
           simp only [Act.put,St.pu]))
      refine St.step_last ?_
      rintro L wx rfl _
      go_wp2_with fail
      refine (co _).mono ?_
      rintro e w2 ⟨⟨A',c',rfl⟩,b2⟩
      have Z2:=Z1.drew.keep b2
      have hb2 : Below w.heap.size w w2:=hbw.drew.trans (b2.mono hz1)
      have hz2:=hb2.size
      clear b2 co Z1
      obtain ⟨q_0,⟨q_1,q_2,q_3,q_4,q_5,q_6,q_7⟩,q_8⟩:=_root_.id Z2
      go_wp2_with fail
      exact bodyPost_ret (res_BoxS_tmp Tryz.results233 rfl rfl (BoxS.put Z2 (⟨cl,sq,r⟩,.slice A' 0 c'))) rfl ⟨⟨A',c',by rw [HANS.out]; rfl⟩,(by exact bex0)⟩
    · rw [if_neg hc] at hans
      have HANS:=Lib.hid hans
      have j1 : (cl == c) = false:=by simpa using hc
      have j2 : (cl != c) = true:=by simpa using hc
      clear hans hv1 hzk hkx hps hc co
      go_wp2_with fail
      refine St.wp_region_stage (fun _ wx => wx = w1.drew) (by kernel_rfl) (by kernel_rfl) (by kernel_rfl) rfl ?_
      repeat (first
        | (apply St.step_past
           · rfl
           · exact fun L wx hS => hS
           simp only [Act.put,St.pu])
        | (apply St.step_give
           · rfl
           · rintro L wx rfl hcl hrd
             go_simp
             try with_reducible rfl
           · exact fun L wx hS => hS
           simp only [Act.put,St.pu]))
      refine St.step_last ?_
      rintro L wx rfl _
      obtain ⟨wd,hwd⟩ : ∃ wd,w1.drew = wd:=⟨_,rfl⟩
      have Zd : BoxS (w.heap.size + 1 + 1) zeroZ wd:=hwd ▸ Z1.drew
      have hbd : Below w.heap.size w wd:=hwd ▸ hbw.drew
      have hzd:=hbd.size
      rw [hwd]
      clear hwd Z1
      obtain ⟨q_0,⟨q_1,q_2,q_3,q_4,q_5,q_6,q_7⟩,q_8⟩:=_root_.id Zd
      go_wp2_with fail
      exact bodyPost_ret (res_BoxS_tmp Tryz.results233 rfl rfl (BoxS.put Zd zeroZ)) rfl ⟨⟨none,0,by rw [HANS.out]; rfl⟩,(by exact bex0)⟩
  · obtain rfl : k = n:=by omega
    rw [dif_neg (by rw [HN.out]; omega)] at hans
    have HANS:=Lib.hid hans
    clear hans
    go_wp2_with fail
    refine St.wp_region_stage (fun _ wx => wx = w1.drew) (by kernel_rfl) (by kernel_rfl) (by kernel_rfl) rfl ?_
    repeat (first
      | (apply St.step_past
         · rfl
         · exact fun L wx hS => hS
         simp only [Act.put,St.pu])
      | (apply St.step_give
         · rfl
         · rintro L wx rfl hcl hrd
           go_simp
           try with_reducible rfl
         · exact fun L wx hS => hS
         simp only [Act.put,St.pu]))
    refine St.step_last ?_
    rintro L wx rfl _
    obtain ⟨wd,hwd⟩ : ∃ wd,w1.drew = wd:=⟨_,rfl⟩
    have Zd : BoxS (w.heap.size + 1 + 1) zeroZ wd:=hwd ▸ Z1.drew
    have hbd : Below w.heap.size w wd:=hwd ▸ hbw.drew
    have hzd:=hbd.size
    rw [hwd]
    clear hwd Z1
    obtain ⟨q_0,⟨q_1,q_2,q_3,q_4,q_5,q_6,q_7⟩,q_8⟩:=_root_.id Zd
    go_wp2_with fail
    exact bodyPost_ret (res_BoxS_tmp Tryz.results233 rfl rfl (BoxS.put Zd zeroZ)) rfl ⟨⟨none,0,by rw [HANS.out]; rfl⟩,(by exact bex0)⟩
end Go.Proofs.YthcmnkmfhgoddaaGreatDoor.Ss

namespace Go.Proofs.YthcmnkmfhgoddaaGreatDoor.Ss
open Go.RowKit Bnd
open Go.Proofs.YthcmnkmfhgoddaaGreatDoor.Od (Rep SP ArgP OwnP rv BoxR)
theorem putR_below {w w0 : World} {N n : Nat} {a b c d e : Value} (h : Below N w0 w) (hn : N <= n) : Below N w0 (World.setCell (World.setCell (World.setCell (World.setCell (World.setCell w ⟨n,0,none⟩ a) ⟨n,1,none⟩ b) ⟨n,2,none⟩ c) ⟨n,3,none⟩ d) ⟨n,4,none⟩ e) :=
 ((((h.setCell (p:=⟨n,0,none⟩) hn _).setCell (p:=⟨n,1,none⟩) hn _).setCell (p:=⟨n,2,none⟩) hn _).setCell (p:=⟨n,3,none⟩) hn _).setCell (p:=⟨n,4,none⟩) hn _
def AskedZ (o : Rep × Bool) (e : Ending) : Prop:=∃ A c,e = .returned (.tuple #[rv o.1 (.slice A 0 c),.bool o.2])
set_option maxHeartbeats 4000000 in
theorem rfind_any (v : Value) (zs : List Zs) (c : Int) (w : World) (hv : SZ w w.heap.size v zs) (hp : NoP zs) (hl : zs.length <= 1000000) :
  Calls Tryz.prog 192 #[v,.int .i64 c] w fun e w' => FoundZ (findS c (ses zs)) e /\ Below w.heap.size w w':=by
 obtain ⟨A,ca,rfl⟩:=hv.form
 have Z0:=BoxS.zero w
 obtain ⟨n,hn⟩ : ∃ n,zs.length = n:=⟨_,rfl⟩
 have HN:=Lib.hid hn
 obtain ⟨R,hR⟩ : ∃ R,findS c ((ses zs).drop 0) = R:=⟨_,rfl⟩
 have HR0:=Lib.hid hR
 have hR' : findS c (ses zs) = R:=hR
 rw [hR']
 rw [hn] at hl ⊢
 have hvh:=Lib.hid hv
 clear hn hR hR' hv
 go_enter Tryz.func192,Tryz.ntmps192
 go_wp2_with fail
 obtain ⟨W0,hW0⟩ : ∃ W0,w.alloc (.cells #[.int .i64 0,.int .i64 0,.int .i64 0,.int .i64 0,.bool false,.string ⟨#[]⟩,.slice none 0 0] 89) = W0:=⟨_,rfl⟩
 have hb0 : Below w.heap.size w W0:=hW0 ▸ (Below.refl _ w).alloc (Nat.le_refl _) _
 have hz0:=hb0.size
 have Z1 : BoxS w.heap.size zeroZ W0:=hW0 ▸ Z0
 try rw [hW0]
 clear hW0 Z0
 go_loop [6] (fun vi => ∃ k : Nat,k <= n /\ vi = .int .i64 (k : Int) /\ Hid (findS c ((ses zs).drop k) = R)) (fun vi => n - (intOf vi).toNat)
 case atStart => exact ⟨0,Nat.zero_le _,rfl,HR0⟩
 case round =>
  obtain ⟨k,hk,rfl,HR⟩:=hrel
  by_cases hlt : k < n
  ·have hkx : k < zs.length:=by rw [HN.out]; exact hlt
   have hv1:=hvh.out.below hb0
   rw [HN.out] at hv1
   obtain ⟨b,o,rfl,hb,q0,q1,q2,q3,q4,q5,q6⟩:=hv1.at_ hkx
   obtain ⟨hps,pa,pc,hpv⟩:=hp zs[k] (List.getElem_mem hkx)
   have hd:=ses_drop zs k hkx
   obtain ⟨⟨⟨cl,sq,r⟩,pv⟩,hzk⟩ : ∃ z,zs[k] = z:=⟨_,rfl⟩
   rw [hzk] at q0 q1 q2 q3 q4 q5 q6 hps hpv hd
   simp only at q0 q1 q2 q3 q4 q5 q6 hps hpv hd
   subst hpv
   have HD:=Lib.hid (show (if cl = c then some ⟨cl,sq,r⟩ else findS c ((ses zs).drop (k + 1))) = R by rw [<- HR.out,hd,findS_cons])
   have hk1 : (k : Int) < (n : Int):=by omega
   have hbz : b < W0.heap.size:=by omega
   clear hd hzk hv1 hkx hps HR
   by_cases hc : cl = c
   ·have j1 : (cl == c) = true:=by simpa using hc
    have HA : Hid (R = some ⟨cl,sq,r⟩):=Lib.hid (by rw [<- HD.out,if_pos hc])
    clear HD hc
    obtain ⟨q_0,⟨q_1,q_2,q_3,q_4,q_5,q_6,q_7⟩,q_8⟩:=_root_.id Z1
    go_wp2_with fail
    exact bodyPost_ret (res_BoxS_tmp Tryz.results192 rfl rfl (BoxS.put Z1 (⟨cl,sq,r⟩,.slice pa 0 pc))) rfl ⟨⟨pa,pc,by rw [HA.out]; rfl⟩,(by exact bex0)⟩
   ·have j1 : (cl == c) = false:=by simpa using hc
    have HN2 : Hid (findS c ((ses zs).drop (k + 1)) = R):=Lib.hid (by rw [<- HD.out,if_neg hc])
    clear HD hc
    go_wp2_with fail
    go_round
    case rel => exact ⟨k + 1,by omega,by go_num,HN2⟩
    case measure => simp [intOf]; omega
  ·obtain rfl : k = n:=by omega
   have HA : Hid (R = none):=Lib.hid (by
    rw [<- HR.out,<- HN.out]
    have : (ses zs).drop zs.length = []:=by simp
    rw [this]; rfl)
   clear HR
   obtain ⟨q_0,⟨q_1,q_2,q_3,q_4,q_5,q_6,q_7⟩,q_8⟩:=_root_.id Z1
   go_wp2_with fail
   exact bodyPost_ret (res_BoxS_tmp Tryz.results192 rfl rfl (BoxS.put Z1 zeroZ)) rfl ⟨⟨none,0,by rw [HA.out]; rfl⟩,(by exact bex0)⟩
set_option maxHeartbeats 8000000 in
set_option maxRecDepth 100000 in
theorem ask_any (v : Value) (zs : List Zs) (c q : Int) (w : World) (hv : SZ w w.heap.size v zs) (hr : riseB 0 (ses zs) = true) (hp : NoP zs) (hl : zs.length <= 1000000) :
  Calls Tryz.prog 178 #[v,.int .i64 c,.int .i64 q] w fun e w' => AskedZ (askS (ses zs) c q) e /\ Below w.heap.size w w':=by
 have cf:=fun w h => find_any v zs c w h hr hp hl
 have R0:=BoxR.new w Od.Rep.zero (.slice none 0 0)
 have hvh:=Lib.hid hv
 clear hv
 cases hs : findS c (ses zs) with
 | none =>
  rw [hs] at cf
  rw [ask_none hs]
  clear hs
  go_enter Tryz.func178,Tryz.ntmps178
  go_wp2_with fail
  refine (cf _ ((hvh.out.below (by exact bex0)).more (by simp))).mono ?_
  rintro e w1 ⟨⟨A',c',he⟩,b1⟩
  simp only [optS] at he
  subst he
  have R1:=R0.keep b1
  have hb1 : Below w.heap.size w w1:=(show Below w.heap.size w _ from (by exact bex0)).trans (b1.mono (by simp))
  have hz1:=hb1.size
  have hlt:=R1.1
  clear b1 R0 cf
  obtain ⟨q_0,⟨q_1,q_2,q_3,q_4,q_5⟩,q_6⟩:=_root_.id R1
  go_wp2_with fail
  exact bodyPost_ret (Od.res_BoxR_tmp Tryz.results178 rfl rfl ((BoxR.put R1 Od.Rep.zero (.slice none 0 0)).alloc _)) rfl ⟨⟨_,_,rfl⟩,(putR_below hb1 (Nat.le_refl _)).alloc (by simp; omega) _⟩
 | some s =>
  rw [hs] at cf
  rw [ask_some hs]
  obtain ⟨cl,sq,r⟩:=s
  clear hs
  by_cases h1 : sq < q
  ·have g1 : (sq < q) = True:=eq_true h1
   have g2 : (sq == q) = false:=by rw [beq_eq_false_iff_ne]; omega
   have g3 : (sq > q) = False:=eq_false (by omega)
   rw [if_pos h1]
   clear h1
   go_enter Tryz.func178,Tryz.ntmps178
   go_wp2_with fail
   refine (cf _ ((hvh.out.below (by exact bex0)).more (by simp))).mono ?_
   rintro e w1 ⟨⟨A',c',he⟩,b1⟩
   simp only [optS] at he
   subst he
   have R1:=R0.keep b1
   have hb1 : Below w.heap.size w w1:=(show Below w.heap.size w _ from (by exact bex0)).trans (b1.mono (by simp))
   have hz1:=hb1.size
   have hlt:=R1.1
   clear b1 R0 cf
   obtain ⟨q_0,⟨q_1,q_2,q_3,q_4,q_5⟩,q_6⟩:=_root_.id R1
   go_wp2_with fail
   exact bodyPost_ret (Od.res_BoxR_tmp Tryz.results178 rfl rfl ((BoxR.put R1 Od.Rep.zero (.slice none 0 0)).alloc _)) rfl ⟨⟨_,_,rfl⟩,(putR_below hb1 (Nat.le_refl _)).alloc (by simp; omega) _⟩
  ·rw [if_neg h1]
   have g1 : (sq < q) = False:=eq_false h1
   by_cases h2 : sq = q
   ·have g2 : (sq == q) = true:=by simpa using h2
    rw [if_pos h2]
    clear h1 h2
    go_enter Tryz.func178,Tryz.ntmps178
    go_wp2_with fail
    refine (cf _ ((hvh.out.below (by exact bex0)).more (by simp))).mono ?_
    rintro e w1 ⟨⟨A',c',he⟩,b1⟩
    simp only [optS] at he
    subst he
    have R1:=R0.keep b1
    have hb1 : Below w.heap.size w w1:=(show Below w.heap.size w _ from (by exact bex0)).trans (b1.mono (by simp))
    have hz1:=hb1.size
    have hlt:=R1.1
    clear b1 R0 cf
    obtain ⟨q_0,⟨q_1,q_2,q_3,q_4,q_5⟩,q_6⟩:=_root_.id R1
    go_wp2_with fail
    exact bodyPost_ret (Od.res_BoxR_tmp Tryz.results178 rfl rfl ((BoxR.put R1 r (.slice A' 0 c')).alloc _)) rfl ⟨⟨_,_,rfl⟩,(putR_below hb1 (Nat.le_refl _)).alloc (by simp; omega) _⟩
   ·have g2 : (sq == q) = false:=by simpa using h2
    have g3 : (sq > q) = True:=eq_true (by omega)
    rw [if_neg h2]
    clear h1 h2
    go_enter Tryz.func178,Tryz.ntmps178
    go_wp2_with fail
    refine (cf _ ((hvh.out.below (by exact bex0)).more (by simp))).mono ?_
    rintro e w1 ⟨⟨A',c',he⟩,b1⟩
    simp only [optS] at he
    subst he
    have R1:=R0.keep b1
    have hb1 : Below w.heap.size w w1:=(show Below w.heap.size w _ from (by exact bex0)).trans (b1.mono (by simp))
    have hz1:=hb1.size
    have hlt:=R1.1
    clear b1 R0 cf
    obtain ⟨q_0,⟨q_1,q_2,q_3,q_4,q_5⟩,q_6⟩:=_root_.id R1
    go_wp2_with fail
    exact bodyPost_ret (Od.res_BoxR_tmp Tryz.results178 rfl rfl ((BoxR.put R1 ⟨3,0,false,Od.E0,[]⟩ (.slice none 0 0)).alloc _)) rfl ⟨⟨_,_,rfl⟩,(putR_below hb1 (Nat.le_refl _)).alloc (by simp; omega) _⟩
set_option maxHeartbeats 8000000 in
set_option maxRecDepth 100000 in
theorem rask_any (v : Value) (zs : List Zs) (c q : Int) (w : World) (hv : SZ w w.heap.size v zs) (hp : NoP zs) (hl : zs.length <= 1000000) :
  Calls Tryz.prog 111 #[v,.int .i64 c,.int .i64 q] w fun e w' => AskedZ (askS (ses zs) c q) e /\ Below w.heap.size w w':=by
 have cf:=fun w h => rfind_any v zs c w h hp hl
 have R0:=BoxR.new w Od.Rep.zero (.slice none 0 0)
 have hvh:=Lib.hid hv
 clear hv
 cases hs : findS c (ses zs) with
 | none =>
  rw [hs] at cf
  rw [ask_none hs]
  clear hs
  go_enter Tryz.func111,Tryz.ntmps111
  go_wp2_with fail
  refine (cf _ ((hvh.out.below (by exact bex0)).more (by simp))).mono ?_
  rintro e w1 ⟨⟨A',c',he⟩,b1⟩
  simp only [optS] at he
  subst he
  have R1:=R0.keep b1
  have hb1 : Below w.heap.size w w1:=(show Below w.heap.size w _ from (by exact bex0)).trans (b1.mono (by simp))
  have hz1:=hb1.size
  have hlt:=R1.1
  clear b1 R0 cf
  obtain ⟨q_0,⟨q_1,q_2,q_3,q_4,q_5⟩,q_6⟩:=_root_.id R1
  go_wp2_with fail
  exact bodyPost_ret (Od.res_BoxR_tmp Tryz.results111 rfl rfl ((BoxR.put R1 Od.Rep.zero (.slice none 0 0)).alloc _)) rfl ⟨⟨_,_,rfl⟩,(putR_below hb1 (Nat.le_refl _)).alloc (by simp; omega) _⟩
 | some s =>
  rw [hs] at cf
  rw [ask_some hs]
  obtain ⟨cl,sq,r⟩:=s
  clear hs
  by_cases h1 : sq < q
  ·have g1 : (sq < q) = True:=eq_true h1
   have g2 : (sq == q) = false:=by rw [beq_eq_false_iff_ne]; omega
   have g3 : (sq > q) = False:=eq_false (by omega)
   rw [if_pos h1]
   clear h1
   go_enter Tryz.func111,Tryz.ntmps111
   go_wp2_with fail
   refine (cf _ ((hvh.out.below (by exact bex0)).more (by simp))).mono ?_
   rintro e w1 ⟨⟨A',c',he⟩,b1⟩
   simp only [optS] at he
   subst he
   have R1:=R0.keep b1
   have hb1 : Below w.heap.size w w1:=(show Below w.heap.size w _ from (by exact bex0)).trans (b1.mono (by simp))
   have hz1:=hb1.size
   have hlt:=R1.1
   clear b1 R0 cf
   obtain ⟨q_0,⟨q_1,q_2,q_3,q_4,q_5⟩,q_6⟩:=_root_.id R1
   go_wp2_with fail
   exact bodyPost_ret (Od.res_BoxR_tmp Tryz.results111 rfl rfl ((BoxR.put R1 Od.Rep.zero (.slice none 0 0)).alloc _)) rfl ⟨⟨_,_,rfl⟩,(putR_below hb1 (Nat.le_refl _)).alloc (by simp; omega) _⟩
  ·rw [if_neg h1]
   have g1 : (sq < q) = False:=eq_false h1
   by_cases h2 : sq = q
   ·have g2 : (sq == q) = true:=by simpa using h2
    rw [if_pos h2]
    clear h1 h2
    go_enter Tryz.func111,Tryz.ntmps111
    go_wp2_with fail
    refine (cf _ ((hvh.out.below (by exact bex0)).more (by simp))).mono ?_
    rintro e w1 ⟨⟨A',c',he⟩,b1⟩
    simp only [optS] at he
    subst he
    have R1:=R0.keep b1
    have hb1 : Below w.heap.size w w1:=(show Below w.heap.size w _ from (by exact bex0)).trans (b1.mono (by simp))
    have hz1:=hb1.size
    have hlt:=R1.1
    clear b1 R0 cf
    obtain ⟨q_0,⟨q_1,q_2,q_3,q_4,q_5⟩,q_6⟩:=_root_.id R1
    go_wp2_with fail
    exact bodyPost_ret (Od.res_BoxR_tmp Tryz.results111 rfl rfl ((BoxR.put R1 r (.slice A' 0 c')).alloc _)) rfl ⟨⟨_,_,rfl⟩,(putR_below hb1 (Nat.le_refl _)).alloc (by simp; omega) _⟩
   ·have g2 : (sq == q) = false:=by simpa using h2
    have g3 : (sq > q) = True:=eq_true (by omega)
    rw [if_neg h2]
    clear h1 h2
    go_enter Tryz.func111,Tryz.ntmps111
    go_wp2_with fail
    refine (cf _ ((hvh.out.below (by exact bex0)).more (by simp))).mono ?_
    rintro e w1 ⟨⟨A',c',he⟩,b1⟩
    simp only [optS] at he
    subst he
    have R1:=R0.keep b1
    have hb1 : Below w.heap.size w w1:=(show Below w.heap.size w _ from (by exact bex0)).trans (b1.mono (by simp))
    have hz1:=hb1.size
    have hlt:=R1.1
    clear b1 R0 cf
    obtain ⟨q_0,⟨q_1,q_2,q_3,q_4,q_5⟩,q_6⟩:=_root_.id R1
    go_wp2_with fail
    exact bodyPost_ret (Od.res_BoxR_tmp Tryz.results111 rfl rfl ((BoxR.put R1 ⟨3,0,false,Od.E0,[]⟩ (.slice none 0 0)).alloc _)) rfl ⟨⟨_,_,rfl⟩,(putR_below hb1 (Nat.le_refl _)).alloc (by simp; omega) _⟩
end Go.Proofs.YthcmnkmfhgoddaaGreatDoor.Ss
