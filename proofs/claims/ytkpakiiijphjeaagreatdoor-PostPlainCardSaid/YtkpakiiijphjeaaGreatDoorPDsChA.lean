/-
  The same as Mixed inside a fence, a round's fence too ('for x := range f'): a region whose order of evaluation is drawn, that calls nothing. No condition of a program.
  slices.Chunk at numbers, by twos, and members: the members whose strands these are. Condition: at most 10,000 texts.
-/
import Derived.Test.YtkpakiiijphjeaaGreatDoorPRegA
import Derived.OrdersIn
import Derived.RangeFuncBox
import Derived.RangeFuncLeaves
import Derived.RangeFuncNested
import Derived.RangeFuncWrites
import Derived.Shelf.Abstract
import Derived.WalkKit
import Derived.OwnWalkIn
import Derived.TacticsInMore
import Derived.LoopNIn
import Derived.LoopIn
import Derived.Test.YtkpakiiijphjeaaGreatDoorPDsPNA
import Derived.Lib.MinMax
namespace Go.Proofs.YtkpakiiijphjeaaGreatDoor.St
open Go
section
variable {F : Fence} {n : Nat} {P : Program} {md : Region.Mode} {ops : Array Oper} {Q : Exit → Act → World → Prop} {S : (Nat → Bool) → (Nat → Value) → World → Prop}
theorem wpAnyIn_mixed (hab : ∀ (j : Nat) (o : Oper), ops[j]? = some o → ∀ w ρ, o.about P w ρ = none) (hsem : ∀ (j : Nat) (o : Oper), ops[j]? = some o → ∀ ρ, o.semAt F.round ρ = execOp ρ o) (hs : steadyB md ops = true) (hsel : Region.noSelect ops = true) : ∀ (fuel : Nat) (listed : Array Bool) (u : Nat → Value) (a : Act) (w : World), listed.size = ops.size → (rest ops listed).length ≤ fuel →
    ChainR P md ops S (fun _ _ => False) (fun u a => ∀ L w, S L u w → (∀ j, j < ops.size → L j = true) → Q .normal a w) (rest ops listed) u a → S (who listed) u w → Closed md ops (who listed) → wpAnyIn F n P md ops Q fuel listed a w
  | fuel, listed, u, a, w, hl, hf, hc, hS, hcl => by
    have hempty : rest ops listed = [] → Q .normal a w := fun h0 => by
      have := all_of_rest hl h0
      rw [h0] at hc; exact hc _ w hS this
    have hready0 : rest ops listed = [] → Region.ready md ops listed = [] := fun h0 => by
      apply List.eq_nil_iff_forall_not_mem.2
      intro j hj
      obtain ⟨hj1, oj, hj2, _⟩ := mem_ready.1 hj
      have : j ∈ rest ops listed := List.mem_filter.2 ⟨List.mem_range.2 (Array.getElem?_eq_some_iff.1 hj2).1, by rw [hj1]; rfl⟩
      rw [h0] at this; cases this
    have hsorted := rest_sorted (ops := ops) listed
    have hwho : ∀ t, t < ops.size → (who listed t = false ↔ t ∈ rest ops listed) := by
      intro t ht
      unfold who rest
      have h5 : t < listed.size := by omega
      simp [h5, ht]
    cases fuel with
    | zero =>
      have h0 : rest ops listed = [] := List.length_eq_zero_iff.1 (by omega)
      exact ⟨hready0 h0, hempty h0⟩
    | succ fuel =>
      refine ⟨fun hr => ?_, fun i hi => ?_⟩
      · cases hrest : rest ops listed with
        | nil => exact hempty hrest
        | cons i l =>
          exfalso
          have hmem : i ∈ rest ops listed := by rw [hrest]; simp
          rw [hrest] at hc
          obtain ⟨o, ho, _, _⟩ := hc
          have hil : i < ops.size := (Array.getElem?_eq_some_iff.1 ho).1
          rw [hrest] at hsorted
          have hall : ∀ e ∈ o.after, Region.binds md e = true → listed.getD e.on false = true := fun e he hb => by
            have h1 := (steady_both hs ho).1 e he hb
            have h2 : ¬ e.on ∈ rest ops listed := by
              rw [hrest]
              intro hm
              rcases List.mem_cons.1 hm with h | h
              · omega
              · have := (List.pairwise_cons.1 hsorted).1 _ h; omega
            cases h3 : who listed e.on with
            | true => exact h3
            | false => exact absurd ((hwho e.on (by omega)).1 h3) h2
          have : i ∈ Region.ready md ops listed := mem_ready.2 ⟨by simpa using (List.mem_filter.1 hmem).2, o, ho, hall⟩
          rw [hr] at this; cases this
      · obtain ⟨hi1, oi, hoi, hall⟩ := mem_ready.1 hi
        have hil : i < ops.size := (Array.getElem?_eq_some_iff.1 hoi).1
        have hmem : i ∈ rest ops listed := List.mem_filter.2 ⟨List.mem_range.2 hil, by rw [hi1]; rfl⟩
        have hrd : Ready md ops (who listed) i := by
          refine ⟨?_, fun o ho e he hb => ?_⟩
          · have h5 : i < listed.size := by omega
            unfold who
            simpa [h5] using hi1
          · obtain rfl : oi = o := Option.some.inj (hoi.symm.trans ho)
            exact hall e he hb
        obtain ⟨l1, l2, hsplit⟩ := List.append_of_mem hmem
        rw [hsplit] at hsorted
        have hlt : ∀ x ∈ l1, x < i := fun x hx => (List.pairwise_append.1 hsorted).2.2 x hx i (by simp)
        have hgt : ∀ x ∈ l2, i < x := fun x hx => (List.pairwise_cons.1 (List.pairwise_append.1 hsorted).2.1).1 x hx
        have hrs := rest_set hl hsplit hlt hgt
        have hap : ∀ x ∈ l1, x < i ∧ (∀ f, before md ops f i x = false) ∧ ∀ ox, ops[x]? = some ox → ox.apart ops oi = true := by
          intro x hx
          have hxr : x ∈ rest ops listed := by rw [hsplit]; simp [hx]
          have hxs : x < ops.size := by have := hlt x hx; omega
          have hxw : who listed x = false := (hwho x hxs).2 hxr
          refine ⟨hlt x hx, fun f => ?_, fun ox hox => ?_⟩
          · cases hb : before md ops f i x with
            | false => rfl
            | true =>
              have := before_ready hcl hrd f x hb
              rw [hxw] at this; cases this
          · rcases (steady_both hs hoi).2 x ox (hlt x hx) hox with ⟨e, he, hb, heq⟩ | h
            · have h1 : who listed e.on = true := hall e he hb
              rw [heq, hxw] at h1; cases h1
            · exact h
        rw [hsplit] at hc
        have hdoes := ChainR.does hs (Region.noSelect_spec hsel) hoi l1 l2 u a (who listed) w (fun x hx => (hap x hx).2) (fun t ht => by rw [← hsplit]; exact hwho t ht) hsorted hS hcl hc
        have next : ∀ (x : Value) (w' : World), Yields P md ops S (fun _ _ => False) i oi u a x → S (mark (who listed) i) (upd u i x) w' → wpAnyIn F n P md ops Q fuel (listed.setIfInBounds i true) (a.put oi.dst x) w' := by
          intro x w' hy hS'
          refine wpAnyIn_mixed hab hsem hs hsel fuel _ (upd u i x) _ w' (by simpa using hl) ?_ (by rw [hrs]; exact ChainR.pull hs (Region.noSelect_spec hsel) hoi l1 l2 u a x hap hc hy) (by rw [who_set (by omega)]; exact hS') ?_
          · rw [hrs]
            rw [hsplit] at hf
            simp at hf ⊢; omega
          · rw [who_set (by omega)]
            intro j o ho hj e he hb
            unfold mark at hj ⊢
            simp only [Bool.or_eq_true, beq_iff_eq] at hj ⊢
            rcases hj with rfl | hj
            · exact .inr (hrd.2 o ho e he hb)
            · exact .inr (hcl j o ho hj e he hb)
        unfold Go.wpOpIn
        simp only [hoi]
        rcases hdoes with ⟨hw, hd⟩ | ⟨hw, hd⟩
        · rcases hd (who listed) u w hS hcl hrd (fun _ _ _ => rfl) with ⟨x, w', hrun | ⟨rfl, hrun⟩, hS'⟩ | ⟨f, args, hrun, hcall⟩
          · simp only [hw, if_true]
            refine ⟨fun f hf => (by rw [hab _ _ hoi] at hf; cases hf), ?_⟩
            rw [hsem _ _ hoi, hrun]
            exact next x w' (.inr ⟨hw, _, u, w, hS, hcl, hrd, fun _ _ _ => rfl, .inl ⟨w', .inl hrun, hS'⟩⟩) hS'
          · simp only [hw, if_true]
            refine ⟨fun f hf => (by rw [hab _ _ hoi] at hf; cases hf), ?_⟩
            rw [hsem _ _ hoi, hrun]
            exact next undef w' (.inr ⟨hw, _, u, w, hS, hcl, hrd, fun _ _ _ => rfl, .inl ⟨w', .inr ⟨rfl, hrun⟩, hS'⟩⟩) hS'
          · obtain ⟨e, w', fr, ⟨y, _, hC, hS'⟩, _⟩ := hcall []
            exact hC.elim
        · simp only [hw, Bool.false_eq_true, if_false]
          exact ⟨fun f hf => (by rw [hab _ _ hoi] at hf; cases hf), next undef w (.inl ⟨hw, rfl⟩) (hd _ u w hS)⟩
theorem wpIn_region_mixed {l : List Oper} {id : Nat} {a : Act} {w : World} (S : (Nat → Bool) → (Nat → Value) → World → Prop) (hab : ∀ (j : Nat) (o : Oper), l.toArray[j]? = some o → ∀ w ρ, o.about P w ρ = none) (hsem : ∀ (j : Nat) (o : Oper), l.toArray[j]? = some o → ∀ ρ, o.semAt F.round ρ = execOp ρ o) (hm : P.follows .mixedOrders = true) (hs : steadyB .any l.toArray = true) (hsel : Region.noSelect l.toArray = true)
    (hS : S (fun _ => false) (fun _ => undef) w.drew) (h : WalkR P .any l.toArray S (fun _ _ => False) (fun u a => ∀ L w, S L u w → (∀ j, j < l.length → L j = true) → Q .normal a w) 0 l (fun _ => undef) a) : (Code.region id l.toArray true).wpIn F n P Q a w := by
  have hr : rest l.toArray (Array.replicate l.toArray.size false) = List.range' 0 l.length := by
    unfold rest
    rw [List.filter_eq_self.2]
    · simp [List.range_eq_range']
    · intro x hx
      have : x < l.length := by simpa using hx
      simp [this]
  have hw0 : who (Array.replicate l.toArray.size false) = fun _ => false := by
    funext j
    unfold who
    rw [show (Array.replicate l.toArray.size false).getD j false = (Array.replicate l.toArray.size false)[j]?.getD false by simp, Array.getElem?_replicate]
    split <;> rfl
  refine wpIn_region_any hm (wpAnyIn_mixed (S := S) hab hsem hs hsel l.toArray.size _ (fun _ => undef) a _ (by simp) ?_ ?_ (by rw [hw0]; exact hS) (by rw [hw0]; intro i o _ h; cases h))
  · rw [hr]; simp
  · rw [hr]
    have := chainR_of_walk (P := P) (md := .any) (ops := l.toArray) (S := S) (C := fun _ _ => False) l 0 (fun _ => undef) a (fun j _ => by simp) h
    simpa using this
def calmB (o : Oper) : Bool := match o.op with
  | .call c => (match c.callee with | .builtin _ => true | _ => false)
  | .defer _ => false
  | _ => true
theorem calm_about {o : Oper} (h : calmB o = true) (w : World) (ρ : Operand → Value) : o.about P w ρ = none := by
  unfold Oper.about
  unfold calmB at h
  cases ho : o.op <;> simp only [ho] at h ⊢
  rename_i c
  cases hc : c.callee with
  | builtin b => simp [resolve, hc, Target.leads]
  | _ => rw [hc] at h; cases h
theorem calm_sem {o : Oper} (h : calmB o = true) (ro : Option Nat) (ρ : Operand → Value) : o.semAt ro ρ = execOp ρ o :=
  Oper.semAt_eq ro ρ o (fun c hc => by unfold calmB at h; rw [hc] at h; cases h)
theorem calm_all {l : List Oper} (h : l.all calmB = true) {j : Nat} {o : Oper} (hj : l.toArray[j]? = some o) : calmB o = true :=
  List.all_eq_true.1 h o (List.mem_of_getElem? (by simpa using hj))
theorem wpIn_region_calm {l : List Oper} {id : Nat} {a : Act} {w : World} (S : (Nat → Bool) → (Nat → Value) → World → Prop) (hc : l.all calmB = true) (hm : P.follows .mixedOrders = true) (hs : steadyB .any l.toArray = true) (hsel : Region.noSelect l.toArray = true)
    (hS : S (fun _ => false) (fun _ => undef) w.drew) (h : WalkR P .any l.toArray S (fun _ _ => False) (fun u a => ∀ L w, S L u w → (∀ j, j < l.length → L j = true) → Q .normal a w) 0 l (fun _ => undef) a) : (Code.region id l.toArray true).wpIn F n P Q a w :=
  wpIn_region_mixed S (fun _ _ hj w ρ => calm_about (calm_all hc hj) w ρ) (fun _ _ hj ρ => calm_sem (calm_all hc hj) _ ρ) hm hs hsel hS h
end
end Go.Proofs.YtkpakiiijphjeaaGreatDoor.St

namespace Go.Proofs.YtkpakiiijphjeaaGreatDoor.Ds
open Go.RowKit Bnd
open Go.Proofs.YtkpakiiijphjeaaGreatDoor.M (numT inR tieT intT)
attribute [local go_sem] Oper.semAt_some
abbrev Ix (m : Nat) := { j : Nat // j < m }
def chunkV (b off : Nat) (j : Nat) : Value := .slice (some ⟨b, off + j * 2, none⟩) 2 2
theorem vals_snoc {m k : Nat} {pre : List (Ix m)} (h : pre.map (·.1) = List.range k) (hk : k < m) : (pre ++ [(⟨k, hk⟩ : Ix m)]).map (·.1) = List.range (k + 1) := by
  rw [List.map_append, h, List.range_succ]; rfl
theorem vals_length {m k : Nat} {pre : List (Ix m)} (h : pre.map (·.1) = List.range k) : pre.length = k := by
  have := congrArg List.length h
  simpa using this
def KpC (B0 B1 : Nat) (W W' : World) : Prop := W'.cell? ⟨B0, 0, none⟩ = W.cell? ⟨B0, 0, none⟩ ∧ W'.cell? ⟨B1, 0, none⟩ = W.cell? ⟨B1, 0, none⟩
theorem kpC_t {B0 B1 : Nat} {A B C : World} (h : KpC B0 B1 A B) (k : KpC B0 B1 B C) : KpC B0 B1 A C := ⟨k.1.trans h.1, k.2.trans h.2⟩
theorem kpC_b {B0 B1 : Nat} {w : World} (h0 : B0 < w.heap.size) (h1 : B1 < w.heap.size) (W : World) (l : Nat) (o o' : Obj) (hl : w.heap.size ≤ l) (h : W.heap[l]? = some o) (_ : o.isCells = false) (_ : o.isWalk = false) : KpC B0 B1 W (W.putObj l o') := by
  have hb : Below w.heap.size W (W.putObj l o') := (Below.refl _ W).grown (grownBy_putObj' W l o') (by have := (Array.getElem?_eq_some_iff.1 h).1; omega) (fun k e => by cases e; omega)
  exact ⟨hb.cell (p := ⟨B0, 0, none⟩) h0, hb.cell (p := ⟨B1, 0, none⟩) h1⟩
set_option maxRecDepth 100000 in
set_option maxHeartbeats 2000000 in
theorem chunk1_in (F : Fence) (n : Nat) (hf : F.fn 146) (hro : F.round = none) (hn : 1 ≤ n) (l B0 B1 b off m N cap : Nat) (hreach : m ≤ 10000) (hN : Hid (N = m * 2)) (hcap : N ≤ cap) (_hcap2 : cap ≤ maxLen) (J Jx : List (Ix m) → World → Prop)
    (hY : ∀ pre x W, J pre W → pre.length < m → YieldAt F (n - 1) Tryz.prog l #[chunkV b off x.1] W fun e W' =>
      (e = .returned (.bool true) ∧ J (pre ++ [x]) W' ∧ KpC B0 B1 W W') ∨ (e = .returned (.bool false) ∧ Jx (pre ++ [x]) W'))
    (W : World) (hB0s : W.cell? ⟨B0, 0, none⟩ = some (.slice (some ⟨b, off, none⟩) N cap)) (hB1s : W.cell? ⟨B1, 0, none⟩ = some (.int .i64 2))
    (hJd : AbidesFrom W.heap.size J) (h0 : J [] W) :
    CallsIn F n Tryz.prog 146 #[.func (.yield l) #[] #[], .pointer (some ⟨B0, 0, none⟩), .pointer (some ⟨B1, 0, none⟩)] W fun e W' => (∃ v, e = .returned v) ∧
      ((∃ ys, ys.map (·.1) = List.range m ∧ J ys W') ∨ (∃ pre, (∃ k, k ≤ m ∧ pre.map (·.1) = List.range k) ∧ Jx pre W')) := by
  refine callsIn_of_wp Tryz.func146 rfl hf ?_ hro
  simp only [Tryz.ntmps146, List.size_toArray, List.length_cons, List.length_nil, Nat.reduceAdd, Nat.reduceSub, Array.replicate_succ, Array.replicate_zero, List.push_toArray, List.append_toArray, List.nil_append, List.cons_append]
  gi_wp2
  gi_loopw [4, 5] (fun i _ wr => ∃ (k K : Nat) (pre : List (Ix m)), k ≤ m ∧ i = .int .i64 (K : Int) ∧ Hid (K = k * 2) ∧ pre.map (·.1) = List.range k ∧ J pre wr ∧ KpC B0 B1 W wr)
    (fun i _ _ => N - (intOf i).toNat)
  case atStart => exact ⟨0, 0, [], Nat.zero_le _, rfl, Lib.hid rfl, rfl, h0, rfl, rfl⟩
  case round =>
    obtain ⟨k, K, pre, hk, rfl, hK, hp, hJs, hnx⟩ := hrel
    have c0 := hnx.1.trans hB0s
    have c1 := hnx.2.trans hB1s
    by_cases hlt : k < m
    · have q1 := hN.out
      have q2 := hK.out
      have hKN : K + 2 ≤ N := by omega
      have hoff : off + k * 2 = off + K := by omega
      have hN2 : N ≤ 20000 := by omega
      clear q1 q2
      have HO := Lib.hid hoff
      clear hoff
      have hKi : (K : Int) < (N : Int) := by omega
      have e1 : ((K : Int) ≤ (N : Int)) = True := eq_true (by omega)
      have e2 : (cap = K) = False := eq_false (by omega)
      have e3 : min (2 : Int) ((N - K : Nat) : Int) = 2 := by omega
      have e4 : min (2 : Int) ((N : Int) - (K : Int)) = 2 := by omega
      have e5 : IntKind.i64.wrap ((K : Int) + 2) = (K : Int) + 2 := by rw [IntKind.wrap_i64]; omega
      gi_wp2
      refine St.wpIn_region_calm (fun _ _ wx => wx = wr.drew) (by kernel_rfl) (by kernel_rfl) (by kernel_rfl) (by kernel_rfl) rfl ?_
      apply St.mix_give
      · rfl
      · rintro L u' wx rfl hcl hrd hag
        go_simp
        try with_reducible rfl
      · exact fun L u' wx hS => hS
      simp only [Act.put, List.setIfInBounds_toArray, List.set_cons_zero, List.set_cons_succ]
      apply St.mix_give
      · rfl
      · rintro L u' wx rfl hcl hrd hag
        go_simp
        try with_reducible rfl
      · exact fun L u' wx hS => hS
      simp only [Act.put, List.setIfInBounds_toArray, List.set_cons_zero, List.set_cons_succ]
      apply St.mix_give
      · rfl
      · rintro L u' wx rfl hcl hrd hag
        go_simp
        try with_reducible rfl
      · exact fun L u' wx hS => hS
      simp only [Act.put, List.setIfInBounds_toArray, List.set_cons_zero, List.set_cons_succ]
      apply St.mix_give
      · rfl
      · rintro L u' wx rfl hcl hrd hag
        go_simp
        try with_reducible rfl
      · exact fun L u' wx hS => hS
      simp only [Act.put, List.setIfInBounds_toArray, List.set_cons_zero, List.set_cons_succ]
      apply St.mix_give
      · rfl
      · rintro L u' wx rfl hcl hrd hag
        go_simp
        try with_reducible rfl
      · exact fun L u' wx hS => hS
      simp only [Act.put, List.setIfInBounds_toArray, List.set_cons_zero, List.set_cons_succ]
      apply St.mix_give
      · rfl
      · rintro L u' wx rfl hcl hrd hag
        go_simp
        try with_reducible rfl
      · exact fun L u' wx hS => hS
      simp only [Act.put, List.setIfInBounds_toArray, List.set_cons_zero, List.set_cons_succ]
      apply St.mix_give
      · rfl
      · rintro L u' wx rfl hcl hrd hag
        go_simp
        try with_reducible rfl
      · exact fun L u' wx hS => hS
      simp only [Act.put, List.setIfInBounds_toArray, List.set_cons_zero, List.set_cons_succ]
      refine St.mix_last ?_
      rintro L wx rfl hall
      have hJd' : J pre wr.drew := hJd _ wr wr.drew none hJs ⟨rfl, rfl, rfl, Nat.le_refl _, fun _ _ _ => rfl⟩ (fun r e => by cases e)
      obtain ⟨fn, tmps, assign, body, hy, hR⟩ := hY _ (⟨k, hlt⟩ : Ix m) wr.drew hJd' (by rw [vals_length hp]; exact hlt)
      dsimp only at hy
      unfold chunkV at hy
      rw [HO.out] at hy
      have HP := Lib.hid hp
      clear hp
      gi_wp2
      refine hR.mono ?_
      rintro e W3 (⟨rfl, hJ3, hk3⟩ | ⟨rfl, hJx3⟩)
      · have B3 : KpC B0 B1 W W3 := kpC_t (B := wr.drew) hnx hk3
        have c1' := B3.2.trans hB1s
        gi_wp2
        go_roundw
        case rel => exact ⟨k + 1, K + 2, _, by omega, by go_num, Lib.hid (by have := hK.out; omega), vals_snoc HP.out hlt, hJ3, B3⟩
        case measure => simp [intOf]; omega
      · gi_wp2
        refine bodyPost_ret (results_none rfl _ _ _) rfl ?_
        exact ⟨⟨_, rfl⟩, .inr ⟨_, ⟨k + 1, by omega, vals_snoc HP.out hlt⟩, hJx3⟩⟩
    · obtain rfl : k = m := by omega
      have hKN : N = K := by have := hN.out; have := hK.out; omega
      subst hKN
      gi_wp2
      go_end0
      exact ⟨⟨_, rfl⟩, .inl ⟨_, hp, hJs⟩⟩
set_option maxHeartbeats 1000000 in
theorem chunk_in (F : Fence) (n : Nat) (hf : F.fn 135) (hro : F.round = none) (a : Option Addr) (len cap : Nat) (w : World) :
    CallsIn F n Tryz.prog 135 #[.slice a len cap, .int .i64 2] w fun e w' => e = .returned (.func (.func 146) #[] #[.pointer (some ⟨w.heap.size, 0, none⟩), .pointer (some ⟨w.heap.size + 1, 0, none⟩)]) ∧ w' = (w.alloc (.cells #[.slice a len cap] 88)).alloc (.cells #[.int .i64 2] 3) := by
  refine callsIn_of_wp Tryz.func135 rfl hf ?_ hro
  simp only [Tryz.ntmps135, List.size_toArray, List.length_cons, List.length_nil, Nat.reduceAdd, Nat.reduceSub, Array.replicate_succ, Array.replicate_zero, List.push_toArray, List.append_toArray, List.nil_append, List.cons_append]
  gi_wp2
  go_ret
  exact ⟨rfl, rfl⟩
theorem chunk_stops (F : Fence) (n : Nat) (hf : F.fn 146) (hro : F.round = none) (hn : 1 ≤ n) (B0 B1 b off m N cap : Nat) (hreach : m ≤ 10000) (hN : Hid (N = m * 2)) (hcap : N ≤ cap) (hcap2 : cap ≤ maxLen) (w : World) (h0 : B0 < w.heap.size) (h1 : B1 < w.heap.size)
    (hc0 : w.cell? ⟨B0, 0, none⟩ = some (.slice (some ⟨b, off, none⟩) N cap)) (hc1 : w.cell? ⟨B1, 0, none⟩ = some (.int .i64 2)) :
    SeqStopsK F n Tryz.prog 146 #[.pointer (some ⟨B0, 0, none⟩), .pointer (some ⟨B1, 0, none⟩)] (fun x : Ix m => #[chunkV b off x.1]) (KpC B0 B1) (fun ys => ys.map (·.1) = List.range m) (fun pre => ∃ k, k ≤ m ∧ pre.map (·.1) = List.range k) m w := fun l J Jx W hW hJd _ hY h00 =>
  chunk1_in F n hf hro hn l B0 B1 b off m N cap hreach hN hcap hcap2 J Jx hY W ((hW.cell (p := ⟨B0, 0, none⟩) h0).trans hc0) ((hW.cell (p := ⟨B1, 0, none⟩) h1).trans hc1) hJd h00
def fM (q : List Int) (j : Nat) : Mem := (q.getD (j * 2) 0, q.getD (j * 2 + 1) 0)
theorem fM_succ (a b : Int) (l : List Int) (j : Nat) : fM (a :: b :: l) (j + 1) = fM l j := by
  unfold fM
  rw [show (j + 1) * 2 = j * 2 + 1 + 1 by omega]
  rfl
theorem pairsI_all : ∀ (m : Nat) (q : List Int), q.length = m * 2 → (∀ j, j < m → nodeB (fM q j).1 = true) → pairsI q = some ((List.range m).map (fM q))
  | 0, q, h, _ => by
    obtain rfl := List.length_eq_zero_iff.1 (by omega : q.length = 0)
    rfl
  | m + 1, [], h, _ => by simp at h
  | m + 1, [_], h, _ => by simp at h; omega
  | m + 1, a :: b :: l, h, ha => by
    have hl : l.length = m * 2 := by simp at h; omega
    have h0 : nodeB a = true := ha 0 (by omega)
    have ih := pairsI_all m l hl (fun j hj => by have := ha (j + 1) (by omega); rwa [fM_succ] at this)
    rw [pairsI, if_pos h0, ih, List.range_succ_eq_map]
    simp only [List.map_cons, List.map_map]
    congr 2
    apply List.map_congr_left
    intro j _
    exact (fM_succ a b l j).symm
theorem pairsI_bad : ∀ (m : Nat) (q : List Int), q.length = m * 2 → (∃ j, j < m ∧ nodeB (fM q j).1 = false) → pairsI q = none
  | 0, q, h, hx => by obtain ⟨j, hj, _⟩ := hx; omega
  | m + 1, [], h, _ => by simp at h
  | m + 1, [_], h, _ => by simp at h; omega
  | m + 1, a :: b :: l, h, hx => by
    have hl : l.length = m * 2 := by simp at h; omega
    rw [pairsI]
    by_cases h0 : nodeB a = true
    · rw [if_pos h0]
      obtain ⟨j, hj, hn⟩ := hx
      cases j with
      | zero => rw [show fM (a :: b :: l) 0 = (a, b) from rfl] at hn; rw [h0] at hn; cases hn
      | succ j => rw [fM_succ] at hn; rw [pairsI_bad m l hl ⟨j, by omega, hn⟩]
    · rw [if_neg h0]
structure R9 (base Lb : Nat) (W0 : World) (v : Value) (x y : Int) (k : Nat) (cs : List Value) (L : Nat → Bool) (u : Nat → Value) (wx : World) : Prop where
  w0 : L 8 = false → wx = W0.drew
  w8 : L 8 = true → L 9 = false → wx = W0.drew.alloc (.cells #[.int .i64 x, .int .i64 y] 149)
  w9 : L 9 = true → L 10 = false → (W0.drew.alloc (.cells #[.int .i64 x, .int .i64 y] 149)).grownBy wx v.ownBlock ∧ wx.ownsRow base 149 2 (u 9) (k + 1) (cs ++ [.int .i64 x, .int .i64 y])
  w10 : L 10 = true → ∃ w9, ((W0.drew.alloc (.cells #[.int .i64 x, .int .i64 y] 149)).grownBy w9 v.ownBlock ∧ w9.ownsRow base 149 2 (u 9) (k + 1) (cs ++ [.int .i64 x, .int .i64 y])) ∧ wx = w9.setCell ⟨Lb, 0, none⟩ (u 9)
def MemsOut (base : Nat) (o : Option (List Mem)) (e : Ending) (w' : World) : Prop := match o with
  | some ms => ∃ v, e = .returned (.tuple #[v, .bool true]) ∧ OwnM w' base v ms
  | none => e = .returned (.tuple #[.slice none 0 0, .bool false])
set_option maxRecDepth 100000 in
set_option maxHeartbeats 4000000 in
theorem members_yes (v : Value) (ss : List ByteArray) (q : List Int) (m : Nat) (w : World) (hv : SL w w.heap.size v ss) (hl : ss.length ≤ 10000) (hsz : ∀ s ∈ ss, s.size ≤ 140737488355328) (hg : Good w) (hq : intsOf (texts ss) = some q) (hm : q.length = m * 2) :
    CallsIn Fence.wide 5 Tryz.prog 122 #[v] w fun e w' => MemsOut w.heap.size (pairsI q) e w' ∧ Below w.heap.size w w' := by
  obtain ⟨A, c, rfl⟩ := hv.form
  have kv : ∀ w1, Below w.heap.size w w1 → SL w1 w1.heap.size (.slice A ss.length c) ss := fun w1 hb => (hv.below hb).more hb.size
  have cn := fun w (hv : SL w w.heap.size (.slice A ss.length c) ss) hg => numbers_any (.slice A ss.length c) ss w hv hl hsz hg
  rw [hq] at cn
  have hm1 : m ≤ 5000 := by have := intsOf_length hq; rw [texts_length] at this; omega
  obtain ⟨n, hn⟩ : ∃ n, n = ss.length := ⟨_, rfl⟩
  have HX := Lib.hid hn
  rw [← hn] at cn kv ⊢
  clear hn hv
  have HQ := Lib.hid hq
  clear hq
  refine callsIn_of_wp_marks Tryz.func122 rfl trivial ?_ rfl
  simp only [Tryz.ntmps122, List.size_toArray, List.length_cons, List.length_nil, Nat.reduceAdd, Nat.reduceSub, Array.replicate_succ, Array.replicate_zero, List.push_toArray, List.append_toArray, List.nil_append, List.cons_append]
  gi_wp2_with (refine ⟨trivial, ?_⟩; gi_at_call 121; refine (callsIn_wide.2 (cn _ (kv _ (by (repeat' (first | with_reducible assumption | with_reducible exact Below.refl _ _ | with_reducible refine Below.alloc ?_ ?_ _ | with_reducible refine Below.setCell ?_ ?_ _ | with_reducible refine Below.drew ?_ | omega | (simp; done) | (simp; omega))))) (hg.below (by (repeat' (first | with_reducible assumption | with_reducible exact Below.refl _ _ | with_reducible refine Below.alloc ?_ ?_ _ | with_reducible refine Below.setCell ?_ ?_ _ | with_reducible refine Below.drew ?_ | omega | (simp; done) | (simp; omega))))))).mono ?_)
  rintro e w1 ⟨⟨vq, rfl, hq1, hne⟩, b1⟩
  obtain ⟨N, hN0⟩ : ∃ N, N = q.length := ⟨_, rfl⟩
  have HN := Lib.hid (hN0.trans hm)
  have HN0 := Lib.hid hN0
  obtain ⟨g, cap, cur, rfl, hbg, hgb, hnc, hcm, hcs, htk⟩ := hq1.2.resolve_left (fun h => hne h.1)
  have e1 : (((N : Int).tmod 2) == 0) = true := by have := HN.out; rw [Int.tmod_eq_emod_of_nonneg (by omega)]; simp; omega
  have e2 : (((N : Int).tmod 2) != 0) = false := by simp [bne, e1]
  have e3 : (((N : Int) % 2) == 0) = true := by have := HN.out; simp; omega
  have e4 : (((N : Int) % 2) != 0) = false := by simp [bne, e3]
  have HQ1 := Lib.hid hq1
  rw [← hN0] at hnc ⊢
  have hb1 : Below w.heap.size w w1 := (show Below w.heap.size w _ from (by (repeat' (first | with_reducible assumption | with_reducible exact Below.refl _ _ | with_reducible refine Below.alloc ?_ ?_ _ | with_reducible refine Below.setCell ?_ ?_ _ | with_reducible refine Below.drew ?_ | omega | (simp; done) | (simp; omega))))).trans (b1.mono (by simp; omega))
  have R0 : w1.cell? ⟨w.heap.size, 0, none⟩ = some (.slice none 0 0) := by rw [b1.cell (p := ⟨w.heap.size, 0, none⟩) (by simp; omega)]; simp [go_sem]
  have R0f : w1.frozen? ⟨w.heap.size, 0, none⟩ = false := by rw [b1.frozen (p := ⟨w.heap.size, 0, none⟩) (by simp; omega)]; simp [go_sem]
  have R1 : w1.cell? ⟨w.heap.size + 1, 0, none⟩ = some (.bool false) := by rw [b1.cell (p := ⟨w.heap.size + 1, 0, none⟩) (by simp)]; simp [go_sem]
  have R1f : w1.frozen? ⟨w.heap.size + 1, 0, none⟩ = false := by rw [b1.frozen (p := ⟨w.heap.size + 1, 0, none⟩) (by simp)]; simp [go_sem]
  have hz1 : w.heap.size + 1 < w1.heap.size := by have := b1.size; simp at this; omega
  clear b1 hq1 hne hgb hcs htk hN0 hm
  gi_wp2_with (refine ⟨trivial, ?_⟩; gi_at_call 135; refine (chunk_in Fence.wide 4 trivial rfl _ _ _ _).mono ?_; rintro e w2 ⟨rfl, rfl⟩)
  have HB := Lib.hid hb1
  have cq : ∀ i, i < q.length → w1.cell? ⟨g, i, none⟩ = some (.int .i64 (q.getD i 0)) := by
    intro i hi
    have := HQ1.out.cells (g := g) rfl i _ (by rw [List.getElem?_map, List.getElem?_eq_getElem hi]; rfl)
    rw [Addr.add_lit, Nat.zero_add] at this
    rw [this, List.getD_eq_getElem?_getD, List.getElem?_eq_getElem hi]; rfl
  have hg1 : 0 < q.length → g < w1.heap.size := fun h => Lib.lt_of_cell (cq 0 h)
  obtain ⟨W0, hW0⟩ : ∃ W0, ((w1.alloc (.cells #[.slice none 0 0] 107)).alloc (.cells #[.slice (some ⟨g, 0, none⟩) N cap] 88)).alloc (.cells #[.int .i64 2] 3) = W0 := ⟨_, rfl⟩
  have bL : Boxed W0 w1.heap.size 107 (.slice none 0 0) := hW0 ▸ ((Boxed.new w1 107 (.slice none 0 0)).alloc _).alloc _
  have bS : Boxed W0 (w1.heap.size + 1) 88 (.slice (some ⟨g, 0, none⟩) N cap) := by
    have := (Boxed.new (w1.alloc (.cells #[.slice none 0 0] 107)) 88 (.slice (some ⟨g, 0, none⟩) N cap)).alloc (.cells #[.int .i64 2] 3)
    rw [World.size_alloc] at this; exact hW0 ▸ this
  have bI : Boxed W0 (w1.heap.size + 1 + 1) 3 (.int .i64 2) := by
    have := Boxed.new ((w1.alloc (.cells #[.slice none 0 0] 107)).alloc (.cells #[.slice (some ⟨g, 0, none⟩) N cap] 88)) 3 (.int .i64 2)
    rw [World.size_alloc, World.size_alloc] at this; exact hW0 ▸ this
  have hB0 : Below w1.heap.size w1 W0 := hW0 ▸ (by (repeat' (first | with_reducible assumption | with_reducible exact Below.refl _ _ | with_reducible refine Below.alloc ?_ ?_ _ | with_reducible refine Below.setCell ?_ ?_ _ | with_reducible refine Below.drew ?_ | omega | (simp; done) | (simp; omega))))
  have hz0 : W0.heap.size = w1.heap.size + 3 := by rw [← hW0]; simp
  rw [hW0]
  refine wpIn_rangeFunc_ownG (w0 := W0) (N := m) rfl (by omega) (gf := 146) (lb := #[.pointer (some ⟨w1.heap.size + 1, 0, none⟩), .pointer (some ⟨w1.heap.size + 1 + 1, 0, none⟩)]) rfl trivial (enters_of Tryz.func146 (by kernel_rfl) rfl)
    (chunk_stops Fence.wide 4 trivial rfl (by omega) (w1.heap.size + 1) (w1.heap.size + 1 + 1) g 0 m N cap (by omega) HN hnc hcm W0 (by omega) (by omega) bS.cell bI.cell) kpC_t (kpC_b (by omega) (by omega)) (Below.refl _ _) (fun _ => rfl)
    (fun pre W => (∃ v, Boxed W w1.heap.size 107 v ∧ W.ownsRow w1.heap.size 149 2 v pre.length (mcells (pre.map fun x => fM q x.1)) ∧ True) ∧ ((Boxed W (w1.heap.size + 1) 88 (.slice (some ⟨g, 0, none⟩) N cap) ∧ Boxed W (w1.heap.size + 1 + 1) 3 (.int .i64 2)) ∧ ((∀ x ∈ pre, nodeB (fM q x.1).1 = true) ∧ Below w1.heap.size w1 W)))
    (fun c pre W => c = .ret ∧ (∃ x ∈ pre, nodeB (fM q x.1).1 = false) ∧ (W.cell? ⟨w.heap.size, 0, none⟩ = some (.slice none 0 0) ∧ W.cell? ⟨w.heap.size + 1, 0, none⟩ = some (.bool false)) ∧ Below w.heap.size w W)
    (OwnFrom.and (Own.from (holdsRow_own w1.heap.size w1.heap.size 107 149 2 (fun pre : List (Ix m) => pre.length) (fun pre => mcells (pre.map fun x => fM q x.1)) (fun pre v => True)) _) (OwnFrom.and (OwnFrom.and (Own.from (boxed_own _ _ (fun _ => _)) _) (Own.from (boxed_own _ _ (fun _ => _)) _)) (OwnFrom.and (ownFrom_pure _ _) (ownFrom_below (Nat.le_refl _) (by omega)))))
    (fun c s X Y row hs hg hr => ⟨hs.1, hs.2.1, ⟨cell_kept hs.2.2.1.1 hg (fun r e => (hr r e).2), cell_kept hs.2.2.1.2 hg (fun r e => (hr r e).2)⟩, (ownFrom_below (β := Unit) (n₀ := w.heap.size) (B := W0.heap.size) (w₀ := w) (Nat.le_refl _) (by omega)) () X Y row hs.2.2.2 hg hr⟩)
    ⟨⟨_, bL, World.ownsRow_nil _ _ _ _, trivial⟩, ⟨bS, bI⟩, (fun x hx => by cases hx), hB0⟩
    (fun x => { tmps := #[.slice A n c, undef, .pointer (some ⟨w.heap.size, 0, none⟩), .pointer (some ⟨w.heap.size + 1, 0, none⟩), .slice (some ⟨g, 0, none⟩) N cap, .bool true, .pointer (some ⟨w1.heap.size, 0, none⟩), chunkV g 0 x.1,
      .tuple #[.slice (some ⟨g, 0, none⟩) N cap, .bool true], .slice A n c, .tuple #[.slice (some ⟨g, 0, none⟩) N cap, .bool true], .slice (some ⟨g, 0, none⟩) N cap, .bool true, .bool true, .bool false, .bool false, .slice (some ⟨g, 0, none⟩) N cap, .int .i64 (N : Int),
      .int .i64 ((N : Int) % 2), .bool false, .bool false, .slice (some ⟨g, 0, none⟩) N cap, .func (.func 146) #[] #[.pointer (some ⟨w1.heap.size + 1, 0, none⟩), .pointer (some ⟨w1.heap.size + 1 + 1, 0, none⟩)], chunkV g 0 x.1,
      undef, undef, undef, undef, undef, undef, undef, undef, undef, undef, undef, undef, undef, undef, undef, undef], defers := [] }) ?assign ?body ?done ?stop
  case assign =>
    intro l x W K hK
    gi_wp2
    exact hK
  case body =>
    rintro l pre x W ⟨⟨v, hv, hrow, _⟩, ⟨hs0, hi0⟩, hnodes, hB⟩ hlt
    obtain ⟨A7, c7, rfl⟩ : ∃ A7 c7, v = .slice A7 pre.length c7 := by
      rcases hrow.2 with ⟨rfl, h0⟩ | ⟨g', cap', cur', rfl, _⟩
      · exact ⟨none, 0, by rw [h0]⟩
      · exact ⟨_, _, rfl⟩
    obtain ⟨j, hj⟩ := x
    have hjq : j * 2 + 1 < q.length := by have := HN.out; have := HN0.out; omega
    have hgl := hg1 (by omega)
    have y0 : W.cell? ⟨g, j * 2, none⟩ = some (.int .i64 (fM q j).1) := (hB.cell (p := ⟨g, j * 2, none⟩) hgl).trans (cq _ (by omega))
    have y1 : W.cell? ⟨g, j * 2 + 1, none⟩ = some (.int .i64 (fM q j).2) := (hB.cell (p := ⟨g, j * 2 + 1, none⟩) hgl).trans (cq _ hjq)
    have r0 := (hB.cell (p := ⟨w.heap.size, 0, none⟩) (show w.heap.size < w1.heap.size by omega)).trans R0
    have r1 := (hB.cell (p := ⟨w.heap.size + 1, 0, none⟩) (show w.heap.size + 1 < w1.heap.size by omega)).trans R1
    have r0f := (hB.frozen (p := ⟨w.heap.size, 0, none⟩) (show w.heap.size < w1.heap.size by omega)).trans R0f
    have r1f := (hB.frozen (p := ⟨w.heap.size + 1, 0, none⟩) (show w.heap.size + 1 < w1.heap.size by omega)).trans R1f
    obtain ⟨a, b, hab⟩ : ∃ a b, fM q j = (a, b) := ⟨_, _, rfl⟩
    rw [hab] at y0 y1
    have HAB := Lib.hid hab
    have hc := hv.cell
    have cn2 := fun w => isNode_any a w
    have hpl : pre.length ≤ 10000 := by omega
    unfold chunkV
    simp only [Nat.zero_add]
    clear hab
    cases hnd : nodeB a with
    | false =>
      rw [hnd] at cn2
      have HND := Lib.hid hnd
      clear hnd
      gi_wp2_with (refine ⟨trivial, ?_⟩; gi_at_call 136; refine (CallsIn.inRound l (callsIn_wide.2 (cn2 _))).mono ?_; rintro e w' ⟨rfl, rfl⟩)
      exact ⟨((KeepsOthers.setCell _ _ _).trans (KeepsOthers.setCell _ _ _)).from _, rfl, ⟨⟨j, hj⟩, by simp, by rw [HAB.out]; exact HND.out⟩, ⟨by simp [go_sem, r0], by simp [go_sem, r1]⟩,
        ((HB.out.trans (hB.mono (by omega))).setCell (p := ⟨w.heap.size, 0, none⟩) (Nat.le_refl _) _).setCell (p := ⟨w.heap.size + 1, 0, none⟩) (show w.heap.size ≤ w.heap.size + 1 by omega) _⟩
    | true =>
      rw [hnd] at cn2
      have HND := Lib.hid hnd
      clear hnd
      gi_wp2_with (refine ⟨trivial, ?_⟩; gi_at_call 136; refine (CallsIn.inRound l (callsIn_wide.2 (cn2 _))).mono ?_; rintro e w' ⟨rfl, rfl⟩)
      obtain ⟨i0, hi, hz0', hz1', hz2⟩ := info_parts infoM
      have hpre : ∀ (L : Nat → Bool) (u : Nat → Value) wx, R9 w1.heap.size w1.heap.size W (.slice A7 pre.length c7) a b pre.length (mcells (pre.map fun x => fM q x.1)) L u wx → L 9 = false → L 10 = false →
          wx.cell? ⟨w1.heap.size, 0, none⟩ = some (.slice A7 pre.length c7) ∧ wx.cell? ⟨g, j * 2, none⟩ = some (.int .i64 a) ∧ wx.cell? ⟨g, j * 2 + 1, none⟩ = some (.int .i64 b) := by
        intro L u wx hS h9 h10
        have hlW := hv.lt
        have hgW : g < W.heap.size := by have := hB.size; omega
        cases h8 : L 8 with
        | false => rw [hS.w0 h8]; exact ⟨hc, y0, y1⟩
        | true =>
          rw [hS.w8 h8 h9]
          exact ⟨(World.cell?_alloc_lt W.drew _ ⟨w1.heap.size, 0, none⟩ hlW).trans hc, (World.cell?_alloc_lt W.drew _ ⟨g, j * 2, none⟩ hgW).trans y0, (World.cell?_alloc_lt W.drew _ ⟨g, j * 2 + 1, none⟩ hgW).trans y1⟩
      refine St.wpIn_region_calm (R9 w1.heap.size w1.heap.size W (.slice A7 pre.length c7) a b pre.length (mcells (pre.map fun x => fM q x.1))) (by kernel_rfl) (by kernel_rfl) (by kernel_rfl) (by kernel_rfl) ⟨fun _ => rfl, fun h => (by cases h), fun h => (by cases h), fun h => (by cases h)⟩ ?_
      apply St.mix_give
      · rfl
      · intro L u' wx hS hcl hrd hag
        obtain ⟨z0, z1, z2⟩ := hpre L u' wx hS (St.not_yet hcl hrd 40 9 (by kernel_rfl)) (St.not_yet hcl hrd 40 10 (by kernel_rfl))
        go_simp
        try with_reducible rfl
      · exact fun L u' wx hS => ⟨hS.w0, hS.w8, hS.w9, hS.w10⟩
      simp only [Act.put, List.setIfInBounds_toArray, List.set_cons_zero, List.set_cons_succ]
      apply St.mix_give
      · rfl
      · intro L u' wx hS hcl hrd hag
        go_simp
        try with_reducible rfl
      · exact fun L u' wx hS => ⟨hS.w0, hS.w8, hS.w9, hS.w10⟩
      simp only [Act.put, List.setIfInBounds_toArray, List.set_cons_zero, List.set_cons_succ]
      apply St.mix_give
      · rfl
      · intro L u' wx hS hcl hrd hag
        go_simp
        try with_reducible rfl
      · exact fun L u' wx hS => ⟨hS.w0, hS.w8, hS.w9, hS.w10⟩
      simp only [Act.put, List.setIfInBounds_toArray, List.set_cons_zero, List.set_cons_succ]
      apply St.mix_give
      · rfl
      · intro L u' wx hS hcl hrd hag
        obtain ⟨z0, z1, z2⟩ := hpre L u' wx hS (St.not_yet hcl hrd 40 9 (by kernel_rfl)) (St.not_yet hcl hrd 40 10 (by kernel_rfl))
        go_simp
        try with_reducible rfl
      · exact fun L u' wx hS => ⟨hS.w0, hS.w8, hS.w9, hS.w10⟩
      simp only [Act.put, List.setIfInBounds_toArray, List.set_cons_zero, List.set_cons_succ]
      apply St.mix_give
      · rfl
      · intro L u' wx hS hcl hrd hag
        go_simp
        try with_reducible rfl
      · exact fun L u' wx hS => ⟨hS.w0, hS.w8, hS.w9, hS.w10⟩
      simp only [Act.put, List.setIfInBounds_toArray, List.set_cons_zero, List.set_cons_succ]
      apply St.mix_give
      · rfl
      · intro L u' wx hS hcl hrd hag
        go_simp
        try with_reducible rfl
      · exact fun L u' wx hS => ⟨hS.w0, hS.w8, hS.w9, hS.w10⟩
      simp only [Act.put, List.setIfInBounds_toArray, List.set_cons_zero, List.set_cons_succ]
      apply St.mix_give
      · rfl
      · intro L u' wx hS hcl hrd hag
        obtain ⟨z0, z1, z2⟩ := hpre L u' wx hS (St.not_yet hcl hrd 40 9 (by kernel_rfl)) (St.not_yet hcl hrd 40 10 (by kernel_rfl))
        go_simp
        try with_reducible rfl
      · exact fun L u' wx hS => ⟨hS.w0, hS.w8, hS.w9, hS.w10⟩
      simp only [Act.put, List.setIfInBounds_toArray, List.set_cons_zero, List.set_cons_succ]
      apply St.mix_give
      · rfl
      · intro L u' wx hS hcl hrd hag
        go_simp
        try with_reducible rfl
      · exact fun L u' wx hS => ⟨hS.w0, hS.w8, hS.w9, hS.w10⟩
      simp only [Act.put, List.setIfInBounds_toArray, List.set_cons_zero, List.set_cons_succ]
      refine St.mix_free (fun z => z = .slice (some ⟨W.heap.size, 0, none⟩) 1 1) rfl ?_ ?_
      · intro L u' wx hS hcl hrd hag
        have h9 := St.not_yet hcl hrd 40 9 (by kernel_rfl)
        have h10 := St.not_yet hcl hrd 40 10 (by kernel_rfl)
        obtain rfl := hS.w0 hrd.1
        refine ⟨_, _, rfl, ?_, ⟨fun h => (by simp [St.mark] at h), fun _ _ => rfl, fun h => (by rw [show St.mark L 8 9 = L 9 from rfl, h9] at h; cases h), fun h => (by rw [show St.mark L 8 10 = L 10 from rfl, h10] at h; cases h)⟩⟩
        go_simp
        try with_reducible rfl
      rintro _ rfl
      simp only [Act.put, List.setIfInBounds_toArray, List.set_cons_zero, List.set_cons_succ]
      refine St.mix_free (fun z => ∃ A c, z = .slice A (pre.length + 1) c) rfl ?_ ?_
      · intro L u' wx hS hcl hrd hag
        have h8 := St.before_ready hcl hrd 40 8 (by kernel_rfl)
        have h10 := St.not_yet hcl hrd 40 10 (by kernel_rfl)
        obtain rfl := hS.w8 h8 hrd.1
        obtain ⟨v', w', k1, k2, k3, _⟩ := run_append_own (P := Tryz.prog) (w := W.drew.alloc (.cells #[.int .i64 a, .int .i64 b] 149)) w1.heap.size 107 107 149 i0 (.agg #[.int .i64 0, .int .i64 0]) 2 16 Tryz.underlying107 hi hz0' hz1' hz2 rfl (by decide)
          (.slice A7 pre.length c7) pre.length (mcells (pre.map fun x => fM q x.1)) (hrow.alloc (w := W.drew) _) ⟨W.heap.size, 0, none⟩ 1 1 [.int .i64 a, .int .i64 b] rfl
          (fun j z hz => by
            match j with
            | 0 => simp at hz; subst hz; exact World.cell?_alloc_new W.drew _ _ 0
            | 1 => simp at hz; subst hz; exact World.cell?_alloc_new W.drew _ _ 1
            | j + 2 => simp at hz) (fun z hz => by simp at hz; rcases hz with rfl | rfl <;> rfl) (by unfold maxLen; omega) (by omega) (by have := hB.size; simp; omega)
        refine ⟨v', w', ?_, run_append2 rfl rfl rfl k1, ⟨fun h => (by rw [show St.mark L 9 8 = L 8 from rfl, h8] at h; cases h), fun _ h => (by simp [St.mark] at h), fun _ _ => ⟨k3, k2⟩, fun h => (by rw [show St.mark L 9 10 = L 10 from rfl, h10] at h; cases h)⟩⟩
        obtain ⟨g', cap', rfl⟩ := ownsRow_succ k2
        exact ⟨_, _, rfl⟩
      rintro y9 ⟨A9, c9, rfl⟩
      simp only [Act.put, List.setIfInBounds_toArray, List.set_cons_zero, List.set_cons_succ]
      refine St.mix_skip rfl ?_ ?_
      · intro L u' wx hS hcl hrd hag
        have h9 := St.before_ready hcl hrd 40 9 (by kernel_rfl)
        obtain ⟨k3, k2⟩ := hS.w9 h9 hrd.1
        have hu : u' 9 = .slice A9 (pre.length + 1) c9 := hag 40 9 (by kernel_rfl)
        have hv1 := (Boxed.appended (W := W.drew) hv (by decide) hrow hB.size (Nat.le_refl _) k2 k3).1
        have c1 := hv1.cell
        have f1 := hv1.frozen
        refine ⟨wx.setCell ⟨w1.heap.size, 0, none⟩ (u' 9), ?_, ⟨fun h => (by rw [show St.mark L 10 8 = L 8 from rfl, St.before_ready hcl hrd 40 8 (by kernel_rfl)] at h; cases h), fun _ h => (by rw [show St.mark L 10 9 = L 9 from rfl, h9] at h; cases h), fun _ h => (by simp [St.mark] at h), fun _ => ⟨wx, ⟨k3, k2⟩, rfl⟩⟩⟩
        rw [hu]
        go_simp
        try with_reducible rfl
      simp only [Act.put]
      refine St.mix_last ?_
      intro L wx hS hall
      obtain ⟨w9, ⟨k3, k2⟩, hwx⟩ := hS.w10 (hall 10 (by decide))
      have k2' : w9.ownsRow w1.heap.size 149 2 (.slice A9 (pre.length + 1) c9) (pre.length + 1) (mcells (pre.map fun x => fM q x.1) ++ [.int .i64 a, .int .i64 b]) := k2
      have hwx' : wx = w9.setCell ⟨w1.heap.size, 0, none⟩ (.slice A9 (pre.length + 1) c9) := hwx
      subst hwx'
      obtain ⟨hv1, hv2, hr2, hk2, hb2⟩ := Boxed.appended (W := W.drew) hv (by decide) hrow hB.size (Nat.le_refl _) k2' k3
      have s2 : Boxed w9 (w1.heap.size + 1) 88 (.slice (some ⟨g, 0, none⟩) N cap) := (Boxed.alloc (W := W.drew) hs0 _).kept k3 (Boxed.not_row (W := W.drew) hs0 (by decide) hrow)
      have i2 : Boxed w9 (w1.heap.size + 1 + 1) 3 (.int .i64 2) := (Boxed.alloc (W := W.drew) hi0 _).kept k3 (Boxed.not_row (W := W.drew) hi0 (by decide) hrow)
      have s3 := s2.other (B' := w1.heap.size) (by omega) (.slice A9 (pre.length + 1) c9)
      have i3 := i2.other (B' := w1.heap.size) (by omega) (.slice A9 (pre.length + 1) c9)
      gi_wp2
      refine ⟨((KeepsOthers.drew W).trans hk2).from _, ⟨s3.cell.trans hs0.cell.symm, i3.cell.trans hi0.cell.symm⟩, ⟨_, hv2, ?_, trivial⟩, ⟨s3, i3⟩, ?_, hB.drew.trans hb2⟩
      · have : mcells ((pre ++ [(⟨j, hj⟩ : Ix m)]).map fun x => fM q x.1) = mcells (pre.map fun x => fM q x.1) ++ [.int .i64 a, .int .i64 b] := by
          rw [List.map_append, mcells_append]
          show _ ++ mcells [fM q j] = _
          rw [HAB.out]; rfl
        rw [this]
        simpa using hr2
      · intro x hx
        rcases List.mem_append.1 hx with hx | hx
        · exact hnodes x hx
        · simp only [List.mem_singleton] at hx
          subst hx
          show nodeB (fM q j).1 = true
          rw [HAB.out]; exact HND.out
  case done =>
    rintro D ys W hD hys ⟨⟨v, hv, hrow, _⟩, ⟨hs0, hi0⟩, hnodes, hB⟩ hK
    have hyl : ys.length = m := vals_length hys
    obtain ⟨A7, c7, rfl⟩ : ∃ A7 c7, v = .slice A7 ys.length c7 := by
      rcases hrow.2 with ⟨rfl, h0⟩ | ⟨g', cap', cur', rfl, _⟩
      · exact ⟨none, 0, by rw [h0]⟩
      · exact ⟨_, _, rfl⟩
    have hc := hv.cell
    have hres : pairsI q = some (ys.map fun x => fM q x.1) := by
      rw [pairsI_all m q (by have := HN.out; have := HN0.out; omega) (fun j hj => ?_)]
      · rw [← hys, List.map_map]; rfl
      · have : j ∈ ys.map (·.1) := by rw [hys]; simpa using hj
        obtain ⟨x, hx, rfl⟩ := List.mem_map.1 this
        exact hnodes x hx
    have r0 := (hB.cell (p := ⟨w.heap.size, 0, none⟩) (show w.heap.size < w1.heap.size by omega)).trans R0
    have r1 := (hB.cell (p := ⟨w.heap.size + 1, 0, none⟩) (show w.heap.size + 1 < w1.heap.size by omega)).trans R1
    have r0f := (hB.frozen (p := ⟨w.heap.size, 0, none⟩) (show w.heap.size < w1.heap.size by omega)).trans R0f
    have r1f := (hB.frozen (p := ⟨w.heap.size + 1, 0, none⟩) (show w.heap.size + 1 < w1.heap.size by omega)).trans R1f
    have HR := Lib.hid hres
    have HY := Lib.hid hyl
    clear hres hyl
    gi_wp2
    have hK' := ((KeepsOthers.setCell W ⟨w.heap.size, 0, none⟩ (.slice A7 ys.length c7)).trans (KeepsOthers.setCell _ ⟨w.heap.size + 1, 0, none⟩ (.bool true))).same D _ hK rfl
    refine ⟨by simp, .inl ⟨_, _, rfl, run_takeDeferred hK', ?_⟩⟩
    have hc5 := cell_kept (show ((W.setCell ⟨w.heap.size, 0, none⟩ (.slice A7 ys.length c7)).setCell ⟨w.heap.size + 1, 0, none⟩ (.bool true)).cell? ⟨w.heap.size, 0, none⟩ = some (.slice A7 ys.length c7) by simp [go_sem, r0]) (grownBy_putObj' _ D (.deferred none)) (fun r e => by cases e; exact ⟨_, hK', rfl⟩)
    have hc6 := cell_kept (show ((W.setCell ⟨w.heap.size, 0, none⟩ (.slice A7 ys.length c7)).setCell ⟨w.heap.size + 1, 0, none⟩ (.bool true)).cell? ⟨w.heap.size + 1, 0, none⟩ = some (.bool true) by simp [go_sem, r1]) (grownBy_putObj' _ D (.deferred none)) (fun r e => by cases e; exact ⟨_, hK', rfl⟩)
    have hrow2 : OwnM ((W.setCell ⟨w.heap.size, 0, none⟩ (.slice A7 ys.length c7)).setCell ⟨w.heap.size + 1, 0, none⟩ (.bool true)) w1.heap.size (.slice A7 ys.length c7) (ys.map fun x => fM q x.1) := by
      refine own_set (own_set (by show W.ownsRow _ _ _ _ _ _; simpa using hrow) (show w.heap.size < w1.heap.size by omega) _) (show w.heap.size + 1 < w1.heap.size by omega) _
    refine ⟨.tuple #[.slice A7 ys.length c7, .bool true], by simp [results, Tryz.results122, go_sem, hc5, hc6], ?_, ?_⟩
    · rw [HR.out]
      exact ⟨_, rfl, own_base (ownsRow_putObj hrow2 _ hK' rfl) (by omega)⟩
    · exact (((HB.out.trans (hB.mono (by omega))).setCell (p := ⟨w.heap.size, 0, none⟩) (Nat.le_refl _) _).setCell (p := ⟨w.heap.size + 1, 0, none⟩) (show w.heap.size ≤ w.heap.size + 1 by omega) _).trans (belowK_b (w := w) (Nat.le_refl _) _ D _ _ (by omega) hK' rfl rfl)
  case stop =>
    rintro D c pre W hD hpre ⟨rfl, ⟨x, hx, hn⟩, ⟨r0, r1⟩, hB⟩ hK
    have hres : pairsI q = none := pairsI_bad m q (by have := HN.out; have := HN0.out; omega) ⟨x.1, x.2, hn⟩
    have HR := Lib.hid hres
    clear hres
    gi_wp2
    refine ⟨by simp, .inl ⟨_, _, rfl, run_takeDeferred hK, ?_⟩⟩
    have hc5 := cell_kept r0 (grownBy_putObj' _ D (.deferred none)) (fun r e => by cases e; exact ⟨_, hK, rfl⟩)
    have hc6 := cell_kept r1 (grownBy_putObj' _ D (.deferred none)) (fun r e => by cases e; exact ⟨_, hK, rfl⟩)
    refine ⟨.tuple #[.slice none 0 0, .bool false], by simp [results, Tryz.results122, go_sem, hc5, hc6], by rw [HR.out]; rfl, ?_⟩
    exact hB.trans (belowK_b (w := w) (Nat.le_refl _) W D _ _ (by omega) hK rfl rfl)
set_option maxHeartbeats 4000000 in
theorem membs_any (v : Value) (ss : List ByteArray) (w : World) (hv : SL w w.heap.size v ss) (hl : ss.length ≤ 10000) (hsz : ∀ s ∈ ss, s.size ≤ 140737488355328) (hg : Good w) :
    Calls Tryz.prog 122 #[v] w fun e w' => MemsOut w.heap.size ((intsOf (texts ss)).bind pairsI) e w' ∧ Below w.heap.size w w' := by
  have cn := fun w (hv : SL w w.heap.size v ss) hg => numbers_any v ss w hv hl hsz hg
  have kv : ∀ w1, Below w.heap.size w w1 → SL w1 w1.heap.size v ss := fun w1 hb => (hv.below hb).more hb.size
  cases hq : intsOf (texts ss) with
  | none =>
    rw [hq] at cn
    obtain ⟨A, c, rfl⟩ := hv.form
    obtain ⟨n, hn⟩ : ∃ n, n = ss.length := ⟨_, rfl⟩
    rw [← hn] at cn kv ⊢
    clear hn hv hq
    go_enter Tryz.func122, Tryz.ntmps122
    go_wp2_with fail
    refine (cn _ (kv _ (by (repeat' (first | with_reducible assumption | with_reducible exact Below.refl _ _ | with_reducible refine Below.alloc ?_ ?_ _ | with_reducible refine Below.setCell ?_ ?_ _ | with_reducible refine Below.drew ?_ | omega | (simp; done) | (simp; omega))))) (hg.below (by (repeat' (first | with_reducible assumption | with_reducible exact Below.refl _ _ | with_reducible refine Below.alloc ?_ ?_ _ | with_reducible refine Below.setCell ?_ ?_ _ | with_reducible refine Below.drew ?_ | omega | (simp; done) | (simp; omega)))))).mono ?_
    rintro e w1 ⟨rfl, b1⟩
    have hb1 : Below w.heap.size w w1 := (show Below w.heap.size w _ from (by (repeat' (first | with_reducible assumption | with_reducible exact Below.refl _ _ | with_reducible refine Below.alloc ?_ ?_ _ | with_reducible refine Below.setCell ?_ ?_ _ | with_reducible refine Below.drew ?_ | omega | (simp; done) | (simp; omega))))).trans (b1.mono (by simp; omega))
    have R0 : w1.cell? ⟨w.heap.size, 0, none⟩ = some (.slice none 0 0) := by rw [b1.cell (p := ⟨w.heap.size, 0, none⟩) (by simp; omega)]; simp [go_sem]
    have R0f : w1.frozen? ⟨w.heap.size, 0, none⟩ = false := by rw [b1.frozen (p := ⟨w.heap.size, 0, none⟩) (by simp; omega)]; simp [go_sem]
    have R1 : w1.cell? ⟨w.heap.size + 1, 0, none⟩ = some (.bool false) := by rw [b1.cell (p := ⟨w.heap.size + 1, 0, none⟩) (by simp)]; simp [go_sem]
    have R1f : w1.frozen? ⟨w.heap.size + 1, 0, none⟩ = false := by rw [b1.frozen (p := ⟨w.heap.size + 1, 0, none⟩) (by simp)]; simp [go_sem]
    clear b1
    go_wp2_with fail
    refine bodyPost_ret (v := .tuple #[.slice none 0 0, .bool false]) (by simp [results, Tryz.results122, go_sem, R0, R1]) rfl ⟨rfl, (by (repeat' (first | with_reducible assumption | with_reducible exact Below.refl _ _ | with_reducible refine Below.alloc ?_ ?_ _ | with_reducible refine Below.setCell ?_ ?_ _ | with_reducible refine Below.drew ?_ | omega | (simp; done) | (simp; omega))))⟩
  | some q =>
    by_cases ho : q.length % 2 = 1
    · have hp : pairsI q = none := pairsI_odd q ho
      rw [hq] at cn
      obtain ⟨A, c, rfl⟩ := hv.form
      obtain ⟨n, hn⟩ : ∃ n, n = ss.length := ⟨_, rfl⟩
      rw [← hn] at cn kv ⊢
      rw [show (some q).bind pairsI = none from hp]
      clear hn hv hq hp
      go_enter Tryz.func122, Tryz.ntmps122
      go_wp2_with fail
      refine (cn _ (kv _ (by (repeat' (first | with_reducible assumption | with_reducible exact Below.refl _ _ | with_reducible refine Below.alloc ?_ ?_ _ | with_reducible refine Below.setCell ?_ ?_ _ | with_reducible refine Below.drew ?_ | omega | (simp; done) | (simp; omega))))) (hg.below (by (repeat' (first | with_reducible assumption | with_reducible exact Below.refl _ _ | with_reducible refine Below.alloc ?_ ?_ _ | with_reducible refine Below.setCell ?_ ?_ _ | with_reducible refine Below.drew ?_ | omega | (simp; done) | (simp; omega)))))).mono ?_
      rintro e w1 ⟨⟨vq, rfl, hq1, hne⟩, b1⟩
      obtain ⟨g, cap, cur, rfl, hbg, hgb, hnc, hcm, hcs, htk⟩ := hq1.2.resolve_left (fun h => hne h.1)
      obtain ⟨N, hN⟩ : ∃ N, N = q.length := ⟨_, rfl⟩
      rw [← hN] at ho ⊢
      have e1 : (((N : Int).tmod 2) == 0) = false := by rw [Int.tmod_eq_emod_of_nonneg (by omega)]; simp; omega
      have e3 : (((N : Int) % 2) == 0) = false := by simp; omega
      have e4 : (((N : Int) % 2) != 0) = true := by simp [bne, e3]
      have e5 : (((N : Int).tmod 2) != 0) = true := by simp [bne, e1]
      have hb1 : Below w.heap.size w w1 := (show Below w.heap.size w _ from (by (repeat' (first | with_reducible assumption | with_reducible exact Below.refl _ _ | with_reducible refine Below.alloc ?_ ?_ _ | with_reducible refine Below.setCell ?_ ?_ _ | with_reducible refine Below.drew ?_ | omega | (simp; done) | (simp; omega))))).trans (b1.mono (by simp; omega))
      have R0 : w1.cell? ⟨w.heap.size, 0, none⟩ = some (.slice none 0 0) := by rw [b1.cell (p := ⟨w.heap.size, 0, none⟩) (by simp; omega)]; simp [go_sem]
      have R0f : w1.frozen? ⟨w.heap.size, 0, none⟩ = false := by rw [b1.frozen (p := ⟨w.heap.size, 0, none⟩) (by simp; omega)]; simp [go_sem]
      have R1 : w1.cell? ⟨w.heap.size + 1, 0, none⟩ = some (.bool false) := by rw [b1.cell (p := ⟨w.heap.size + 1, 0, none⟩) (by simp)]; simp [go_sem]
      have R1f : w1.frozen? ⟨w.heap.size + 1, 0, none⟩ = false := by rw [b1.frozen (p := ⟨w.heap.size + 1, 0, none⟩) (by simp)]; simp [go_sem]
      clear b1 hq1 hne hgb hcs htk hN ho hnc
      go_wp2_with fail
      refine bodyPost_ret (v := .tuple #[.slice none 0 0, .bool false]) (by simp [results, Tryz.results122, go_sem, R0, R1]) rfl ⟨rfl, (by (repeat' (first | with_reducible assumption | with_reducible exact Below.refl _ _ | with_reducible refine Below.alloc ?_ ?_ _ | with_reducible refine Below.setCell ?_ ?_ _ | with_reducible refine Below.drew ?_ | omega | (simp; done) | (simp; omega))))⟩
    · exact callsIn_wide.1 (members_yes v ss q (q.length / 2) w hv hl hsz hg hq (by omega))
end Go.Proofs.YtkpakiiijphjeaaGreatDoor.Ds
