/-
  The same as Mixed inside a fence, a round's fence too ('for x := range f'): a region whose order of evaluation is drawn, that calls nothing. No condition of a program.
-/
import Derived.Test.YtimodohcihnoiaaDoorMixed
import Derived.OrdersIn
namespace Go.Proofs.YtimodohcihnoiaaDoor.St
open Go

section
variable {F : Fence} {n : Nat} {P : Program} {md : Region.Mode} {ops : Array Oper} {Q : Exit → Act → World → Prop} {S : (Nat → Bool) → (Nat → Value) → World → Prop}

theorem wpAnyIn_mixed (hab : ∀ (j : Nat) (o : Oper), ops[j]? = some o → ∀ w ρ, o.about P w ρ = none) (hsem : ∀ (j : Nat) (o : Oper), ops[j]? = some o → ∀ ρ, o.semAt F.round ρ = execOp ρ o) (hs : steadyB md ops = true) (hsel : Region.noSelect ops = true) : ∀ (fuel : Nat) (listed : Array Bool) (u : Nat → Value) (a : Act) (w : World), listed.size = ops.size → (rest ops listed).length ≤ fuel →
    ChainR P md ops S (fun _ _ => False) (fun u a => ∀ L w, S L u w → (∀ j, j < ops.size → L j = true) → Q .normal a w) (rest ops listed) u a → S (who listed) u w → Closed md ops (who listed) → wpAnyIn F n P md ops Q fuel listed a w
  | fuel, listed, u, a, w, hl, hf, hc, hS, hcl => by
    have hempty : rest ops listed = [] → Q .normal a w := fun h0 => by
      have := all_of_rest hl h0
      rw [h0] at hc; exact hc _ w hS this
    have hready0 : rest ops listed = [] → Region.ready md ops listed = [] := fun h0 => by
      apply List.eq_nil_iff_forall_not_mem.2
      intro j hj
      obtain ⟨hj1, oj, hj2, _⟩ := mem_ready.1 hj
      have : j ∈ rest ops listed := List.mem_filter.2 ⟨List.mem_range.2 (Array.getElem?_eq_some_iff.1 hj2).1, by rw [hj1]; rfl⟩
      rw [h0] at this; cases this
    have hsorted := rest_sorted (ops := ops) listed
    have hwho : ∀ t, t < ops.size → (who listed t = false ↔ t ∈ rest ops listed) := by
      intro t ht
      unfold who rest
      have h5 : t < listed.size := by omega
      simp [h5, ht]
    cases fuel with
    | zero =>
      have h0 : rest ops listed = [] := List.length_eq_zero_iff.1 (by omega)
      exact ⟨hready0 h0, hempty h0⟩
    | succ fuel =>
      refine ⟨fun hr => ?_, fun i hi => ?_⟩
      · cases hrest : rest ops listed with
        | nil => exact hempty hrest
        | cons i l =>
          exfalso
          have hmem : i ∈ rest ops listed := by rw [hrest]; simp
          rw [hrest] at hc
          obtain ⟨o, ho, _, _⟩ := hc
          have hil : i < ops.size := (Array.getElem?_eq_some_iff.1 ho).1
          rw [hrest] at hsorted
          have hall : ∀ e ∈ o.after, Region.binds md e = true → listed.getD e.on false = true := fun e he hb => by
            have h1 := (steady_both hs ho).1 e he hb
            have h2 : ¬ e.on ∈ rest ops listed := by
              rw [hrest]
              intro hm
              rcases List.mem_cons.1 hm with h | h
              · omega
              · have := (List.pairwise_cons.1 hsorted).1 _ h; omega
            cases h3 : who listed e.on with
            | true => exact h3
            | false => exact absurd ((hwho e.on (by omega)).1 h3) h2
          have : i ∈ Region.ready md ops listed := mem_ready.2 ⟨by simpa using (List.mem_filter.1 hmem).2, o, ho, hall⟩
          rw [hr] at this; cases this
      · obtain ⟨hi1, oi, hoi, hall⟩ := mem_ready.1 hi
        have hil : i < ops.size := (Array.getElem?_eq_some_iff.1 hoi).1
        have hmem : i ∈ rest ops listed := List.mem_filter.2 ⟨List.mem_range.2 hil, by rw [hi1]; rfl⟩
        have hrd : Ready md ops (who listed) i := by
          refine ⟨?_, fun o ho e he hb => ?_⟩
          · have h5 : i < listed.size := by omega
            unfold who
            simpa [h5] using hi1
          · obtain rfl : oi = o := Option.some.inj (hoi.symm.trans ho)
            exact hall e he hb
        obtain ⟨l1, l2, hsplit⟩ := List.append_of_mem hmem
        rw [hsplit] at hsorted
        have hlt : ∀ x ∈ l1, x < i := fun x hx => (List.pairwise_append.1 hsorted).2.2 x hx i (by simp)
        have hgt : ∀ x ∈ l2, i < x := fun x hx => (List.pairwise_cons.1 (List.pairwise_append.1 hsorted).2.1).1 x hx
        have hrs := rest_set hl hsplit hlt hgt
        have hap : ∀ x ∈ l1, x < i ∧ (∀ f, before md ops f i x = false) ∧ ∀ ox, ops[x]? = some ox → ox.apart ops oi = true := by
          intro x hx
          have hxr : x ∈ rest ops listed := by rw [hsplit]; simp [hx]
          have hxs : x < ops.size := by have := hlt x hx; omega
          have hxw : who listed x = false := (hwho x hxs).2 hxr
          refine ⟨hlt x hx, fun f => ?_, fun ox hox => ?_⟩
          · cases hb : before md ops f i x with
            | false => rfl
            | true =>
              have := before_ready hcl hrd f x hb
              rw [hxw] at this; cases this
          · rcases (steady_both hs hoi).2 x ox (hlt x hx) hox with ⟨e, he, hb, heq⟩ | h
            · have h1 : who listed e.on = true := hall e he hb
              rw [heq, hxw] at h1; cases h1
            · exact h
        rw [hsplit] at hc
        have hdoes := ChainR.does hs (Region.noSelect_spec hsel) hoi l1 l2 u a (who listed) w (fun x hx => (hap x hx).2) (fun t ht => by rw [← hsplit]; exact hwho t ht) hsorted hS hcl hc
        have next : ∀ (x : Value) (w' : World), Yields P md ops S (fun _ _ => False) i oi u a x → S (mark (who listed) i) (upd u i x) w' → wpAnyIn F n P md ops Q fuel (listed.setIfInBounds i true) (a.put oi.dst x) w' := by
          intro x w' hy hS'
          refine wpAnyIn_mixed hab hsem hs hsel fuel _ (upd u i x) _ w' (by simpa using hl) ?_ (by rw [hrs]; exact ChainR.pull hs (Region.noSelect_spec hsel) hoi l1 l2 u a x hap hc hy) (by rw [who_set (by omega)]; exact hS') ?_
          · rw [hrs]
            rw [hsplit] at hf
            simp at hf ⊢; omega
          · rw [who_set (by omega)]
            intro j o ho hj e he hb
            unfold mark at hj ⊢
            simp only [Bool.or_eq_true, beq_iff_eq] at hj ⊢
            rcases hj with rfl | hj
            · exact .inr (hrd.2 o ho e he hb)
            · exact .inr (hcl j o ho hj e he hb)
        unfold Go.wpOpIn
        simp only [hoi]
        rcases hdoes with ⟨hw, hd⟩ | ⟨hw, hd⟩
        · rcases hd (who listed) u w hS hcl hrd (fun _ _ _ => rfl) with ⟨x, w', hrun | ⟨rfl, hrun⟩, hS'⟩ | ⟨f, args, hrun, hcall⟩
          · simp only [hw, if_true]
            refine ⟨fun f hf => (by rw [hab _ _ hoi] at hf; cases hf), ?_⟩
            rw [hsem _ _ hoi, hrun]
            exact next x w' (.inr ⟨hw, _, u, w, hS, hcl, hrd, fun _ _ _ => rfl, .inl ⟨w', .inl hrun, hS'⟩⟩) hS'
          · simp only [hw, if_true]
            refine ⟨fun f hf => (by rw [hab _ _ hoi] at hf; cases hf), ?_⟩
            rw [hsem _ _ hoi, hrun]
            exact next undef w' (.inr ⟨hw, _, u, w, hS, hcl, hrd, fun _ _ _ => rfl, .inl ⟨w', .inr ⟨rfl, hrun⟩, hS'⟩⟩) hS'
          · obtain ⟨e, w', fr, ⟨y, _, hC, hS'⟩, _⟩ := hcall []
            exact hC.elim
        · simp only [hw, Bool.false_eq_true, if_false]
          exact ⟨fun f hf => (by rw [hab _ _ hoi] at hf; cases hf), next undef w (.inl ⟨hw, rfl⟩) (hd _ u w hS)⟩

/-- THE REGION: walked in the text's order. -/
theorem wpIn_region_mixed {l : List Oper} {id : Nat} {a : Act} {w : World} (S : (Nat → Bool) → (Nat → Value) → World → Prop) (hab : ∀ (j : Nat) (o : Oper), l.toArray[j]? = some o → ∀ w ρ, o.about P w ρ = none) (hsem : ∀ (j : Nat) (o : Oper), l.toArray[j]? = some o → ∀ ρ, o.semAt F.round ρ = execOp ρ o) (hm : P.follows .mixedOrders = true) (hs : steadyB .any l.toArray = true) (hsel : Region.noSelect l.toArray = true)
    (hS : S (fun _ => false) (fun _ => undef) w.drew) (h : WalkR P .any l.toArray S (fun _ _ => False) (fun u a => ∀ L w, S L u w → (∀ j, j < l.length → L j = true) → Q .normal a w) 0 l (fun _ => undef) a) : (Code.region id l.toArray true).wpIn F n P Q a w := by
  have hr : rest l.toArray (Array.replicate l.toArray.size false) = List.range' 0 l.length := by
    unfold rest
    rw [List.filter_eq_self.2]
    · simp [List.range_eq_range']
    · intro x hx
      have : x < l.length := by simpa using hx
      simp [this]
  have hw0 : who (Array.replicate l.toArray.size false) = fun _ => false := by
    funext j
    unfold who
    rw [show (Array.replicate l.toArray.size false).getD j false = (Array.replicate l.toArray.size false)[j]?.getD false by simp, Array.getElem?_replicate]
    split <;> rfl
  refine wpIn_region_any hm (wpAnyIn_mixed (S := S) hab hsem hs hsel l.toArray.size _ (fun _ => undef) a _ (by simp) ?_ ?_ (by rw [hw0]; exact hS) (by rw [hw0]; intro i o _ h; cases h))
  · rw [hr]; simp
  · rw [hr]
    have := chainR_of_walk (P := P) (md := .any) (ops := l.toArray) (S := S) (C := fun _ _ => False) l 0 (fun _ => undef) a (fun j _ => by simp) h
    simpa using this


/-- an operation that calls no function, and defers none -/
def calmB (o : Oper) : Bool := match o.op with
  | .call c => (match c.callee with | .builtin _ => true | _ => false)
  | .defer _ => false
  | _ => true
theorem calm_about {o : Oper} (h : calmB o = true) (w : World) (ρ : Operand → Value) : o.about P w ρ = none := by
  unfold Oper.about
  unfold calmB at h
  cases ho : o.op <;> simp only [ho] at h ⊢
  rename_i c
  cases hc : c.callee with
  | builtin b => simp [resolve, hc, Target.leads]
  | _ => rw [hc] at h; cases h
theorem calm_sem {o : Oper} (h : calmB o = true) (ro : Option Nat) (ρ : Operand → Value) : o.semAt ro ρ = execOp ρ o :=
  Oper.semAt_eq ro ρ o (fun c hc => by unfold calmB at h; rw [hc] at h; cases h)
theorem calm_all {l : List Oper} (h : l.all calmB = true) {j : Nat} {o : Oper} (hj : l.toArray[j]? = some o) : calmB o = true :=
  List.all_eq_true.1 h o (List.mem_of_getElem? (by simpa using hj))
/-- THE REGION, inside a fence -/
theorem wpIn_region_calm {l : List Oper} {id : Nat} {a : Act} {w : World} (S : (Nat → Bool) → (Nat → Value) → World → Prop) (hc : l.all calmB = true) (hm : P.follows .mixedOrders = true) (hs : steadyB .any l.toArray = true) (hsel : Region.noSelect l.toArray = true)
    (hS : S (fun _ => false) (fun _ => undef) w.drew) (h : WalkR P .any l.toArray S (fun _ _ => False) (fun u a => ∀ L w, S L u w → (∀ j, j < l.length → L j = true) → Q .normal a w) 0 l (fun _ => undef) a) : (Code.region id l.toArray true).wpIn F n P Q a w :=
  wpIn_region_mixed S (fun _ _ hj w ρ => calm_about (calm_all hc hj) w ρ) (fun _ _ hj ρ => calm_sem (calm_all hc hj) _ ρ) hm hs hsel hS h

end
end Go.Proofs.YtimodohcihnoiaaDoor.St
