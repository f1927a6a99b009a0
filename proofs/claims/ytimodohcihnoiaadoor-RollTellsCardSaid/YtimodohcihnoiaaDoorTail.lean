/-
  A region whose order of evaluation is drawn, whose last operations come in one forced order behind all others: it is walked in the text's order, the first ones as in Stage (each with one outcome wherever it may come up), the last ones plainly, in whatever world the first ones leave. No condition of a program.
-/
import Derived.Test.YtimodohcihnoiaaDoorStage
import Derived.Tactics
namespace Go.Proofs.YtimodohcihnoiaaDoor.St
open Go

section
variable {P : Program} {md : Region.Mode} {ops : Array Oper} {Q : Exit → Act → World → Prop} {S : (Nat → Bool) → World → Prop}

/-- From number k on each operation waits for all ahead of it. -/
def forcedB (md : Region.Mode) (ops : Array Oper) (k : Nat) : Bool :=
  (List.range ops.size).all fun j => decide (j < k) || (List.range j).all fun i => before md ops 40 j i
theorem forced_spec {k : Nat} (h : forcedB md ops k = true) {j i : Nat} (hj : j < ops.size) (hk : k ≤ j) (hi : i < j) : before md ops 40 j i = true := by
  have h1 := List.all_eq_true.1 h j (List.mem_range.2 hj)
  simp only [Bool.or_eq_true, decide_eq_true_eq] at h1
  rcases h1 with h1 | h1
  · omega
  · exact List.all_eq_true.1 h1 i (List.mem_range.2 hi)

theorem who_false {listed : Array Bool} {i : Nat} (h : i ∈ rest ops listed) : who listed i = false := by
  have h3 := (List.mem_filter.1 h).2
  unfold who
  rcases Nat.lt_or_ge i listed.size with h' | h'
  · simp [h'] at h3 ⊢; exact h3
  · simp [Array.getElem?_eq_none h']
theorem ready_rest {listed : Array Bool} {i : Nat} (h : i ∈ Region.ready md ops listed) : i ∈ rest ops listed := by
  obtain ⟨hi1, oi, hoi, _⟩ := mem_ready.1 h
  exact List.mem_filter.2 ⟨List.mem_range.2 (Array.getElem?_eq_some_iff.1 hoi).1, by rw [hi1]; rfl⟩
theorem ready_Ready {listed : Array Bool} (hl : listed.size = ops.size) {i : Nat} (h : i ∈ Region.ready md ops listed) : Ready md ops (who listed) i := by
  obtain ⟨hi1, oi, hoi, hall⟩ := mem_ready.1 h
  have hil : i < ops.size := (Array.getElem?_eq_some_iff.1 hoi).1
  refine ⟨?_, fun o ho e he hb => ?_⟩
  · have h5 : i < listed.size := by omega
    unfold who
    simpa [h5] using hi1
  · obtain rfl : oi = o := Option.some.inj (hoi.symm.trans ho)
    exact hall e he hb
theorem closed_set {listed : Array Bool} (hl : listed.size = ops.size) (hcl : Closed md ops (who listed)) {i : Nat} (hi : i < ops.size) (hrd : Ready md ops (who listed) i) : Closed md ops (who (listed.setIfInBounds i true)) := by
  rw [who_set (by omega)]
  intro j o ho hj e he hb
  unfold mark at hj ⊢
  simp only [Bool.or_eq_true, beq_iff_eq] at hj ⊢
  rcases hj with rfl | hj
  · exact .inr (hrd.2 o ho e he hb)
  · exact .inr (hcl j o ho hj e he hb)
/-- The first of what is left may come up. -/
theorem head_ready (hs : steadyB md ops = true) {listed : Array Bool} (hl : listed.size = ops.size) {i : Nat} {l : List Nat} (hrest : rest ops listed = i :: l) : i ∈ Region.ready md ops listed := by
  have hmem : i ∈ rest ops listed := by rw [hrest]; simp
  have hil : i < ops.size := List.mem_range.1 (List.mem_filter.1 hmem).1
  obtain ⟨o, ho⟩ : ∃ o, ops[i]? = some o := ⟨ops[i], by simp [hil]⟩
  have hsorted := rest_sorted (ops := ops) listed
  rw [hrest] at hsorted
  refine mem_ready.2 ⟨by simpa using (List.mem_filter.1 hmem).2, o, ho, fun e he hb => ?_⟩
  have h1 := (steady_both hs ho).1 e he hb
  have h2 : ¬ e.on ∈ rest ops listed := by
    rw [hrest]
    intro hm
    rcases List.mem_cons.1 hm with h | h
    · omega
    · have := (List.pairwise_cons.1 hsorted).1 _ h; omega
  have h3 : listed.getD e.on true = true := by
    cases h4 : listed.getD e.on true
    · exact absurd (List.mem_filter.2 ⟨List.mem_range.2 (by omega), by rw [h4]; rfl⟩) h2
    · rfl
  have h5 : e.on < listed.size := by omega
  simpa [h5] using h3

theorem wpAny_forced (hs : steadyB md ops = true) {k0 : Nat} (hf : forcedB md ops k0 = true) : ∀ (m k fuel : Nat) (listed : Array Bool) (a : Act) (w : World), k0 ≤ k → listed.size = ops.size → rest ops listed = List.range' k m → m ≤ fuel →
    Closed md ops (who listed) → wpOps P ops Q (List.range' k m) a w → wpAny P md ops Q fuel listed a w
  | 0, k, fuel, listed, a, w, _, hl, hr, _, _, h => by
    have hready : Region.ready md ops listed = [] := List.eq_nil_iff_forall_not_mem.2 fun j hj => by
      have := ready_rest hj
      rw [hr] at this; simp at this
    cases fuel with
    | zero => exact ⟨hready, h⟩
    | succ f => exact ⟨fun _ => h, fun i hi => by rw [hready] at hi; cases hi⟩
  | m + 1, k, fuel, listed, a, w, hk, hl, hr, hfu, hcl, h => by
    obtain ⟨f, rfl⟩ : ∃ f, fuel = f + 1 := ⟨fuel - 1, by omega⟩
    rw [List.range'_succ] at hr h
    have hk0 := head_ready hs hl hr
    refine ⟨fun h0 => (by rw [h0] at hk0; cases hk0), fun i hi => ?_⟩
    have him := ready_rest hi
    have hil : i < ops.size := List.mem_range.1 (List.mem_filter.1 him).1
    have hkm : k ∈ rest ops listed := by rw [hr]; simp
    have hik : i = k := by
      rw [hr] at him
      rcases List.mem_cons.1 him with e | e
      · exact e
      · exfalso
        have hlt : k < i := by have := (List.mem_range'_1.1 e).1; omega
        have := before_ready hcl (ready_Ready hl hi) 40 k (forced_spec hf hil (by omega) hlt)
        rw [who_false hkm] at this; cases this
    subst hik
    rw [wpOps_cons] at h
    refine wpOp_mono (fun a' w' h' => ?_) h
    refine wpAny_forced hs hf m (i + 1) f _ a' w' (by omega) (by simpa using hl) ?_ (by omega) (closed_set hl hcl hil (ready_Ready hl hi)) h'
    have := rest_set (ops := ops) hl (i := i) (l1 := []) (l2 := List.range' (i + 1) m) (by rw [hr]; rfl) (by simp) (fun x hx => by have := (List.mem_range'_1.1 hx).1; omega)
    simpa using this

theorem wpAny_tail (hs : steadyB md ops = true) (hsel : Region.noSelect ops = true) {k m : Nat} (hkm : k + m = ops.size) (hf : forcedB md ops k = true) : ∀ (fuel : Nat) (listed : Array Bool) (l : List Nat) (a : Act) (w : World), listed.size = ops.size →
    rest ops listed = l ++ List.range' k m → (∀ x ∈ l, x < k) → l.length + m ≤ fuel →
    Chain P md ops S (fun a => ∀ L w, S L w → (∀ j, j < k → L j = true) → wpOps P ops Q (List.range' k m) a w) l a → S (who listed) w → Closed md ops (who listed) → wpAny P md ops Q fuel listed a w
  | fuel, listed, [], a, w, hl, hr, _, hfu, hc, hS, hcl => by
    refine wpAny_forced hs hf m k fuel listed a w (Nat.le_refl _) hl (by simpa using hr) (by simpa using hfu) hcl (hc _ w hS fun j hj => ?_)
    have h2 : ¬ j ∈ rest ops listed := by
      rw [hr]
      intro h
      have := (List.mem_range'_1.1 (by simpa using h)).1
      omega
    have h3 : listed.getD j true = true := by
      cases h4 : listed.getD j true
      · exact absurd (List.mem_filter.2 ⟨List.mem_range.2 (by omega), by rw [h4]; rfl⟩) h2
      · rfl
    unfold who
    have h5 : j < listed.size := by omega
    simpa [h5] using h3
  | 0, listed, i0 :: l, a, w, hl, hr, hlk, hfu, hc, hS, hcl => by simp at hfu
  | fuel + 1, listed, i0 :: l, a, w, hl, hr, hlk, hfu, hc, hS, hcl => by
    have hk0 := head_ready hs hl (l := l ++ List.range' k m) (by rw [hr]; rfl)
    refine ⟨fun h0 => (by rw [h0] at hk0; cases hk0), fun i hi => ?_⟩
    have hrd := ready_Ready hl hi
    have him := ready_rest hi
    have hil : i < ops.size := List.mem_range.1 (List.mem_filter.1 him).1
    have hi0 : i0 ∈ rest ops listed := by rw [hr]; simp
    have himl : i ∈ i0 :: l := by
      rw [hr] at him
      rcases List.mem_append.1 him with h | h
      · exact h
      · exfalso
        have h1 := (List.mem_range'_1.1 h).1
        have h2 := hlk i0 (by simp)
        have := before_ready hcl hrd 40 i0 (forced_spec hf hil h1 (by omega))
        rw [who_false hi0] at this; cases this
    obtain ⟨hi1, oi, hoi, hall⟩ := mem_ready.1 hi
    obtain ⟨l1, l2, hsplit⟩ := List.append_of_mem himl
    have hr' : rest ops listed = l1 ++ i :: (l2 ++ List.range' k m) := by rw [hr, hsplit]; simp
    have hsorted := rest_sorted (ops := ops) listed
    rw [hr'] at hsorted
    have hlt : ∀ x ∈ l1, x < i := fun x hx => (List.pairwise_append.1 hsorted).2.2 x hx i (by simp)
    have hgt : ∀ x ∈ l2 ++ List.range' k m, i < x := fun x hx => (List.pairwise_cons.1 (List.pairwise_append.1 hsorted).2.1).1 x hx
    have hrs := rest_set hl hr' hlt hgt
    rw [hsplit] at hc
    obtain ⟨v, hg, hc'⟩ := Chain.pull (Region.noSelect_spec hsel) hoi l1 l2 a (fun x hx ox hox => by
      rcases (steady_both hs hoi).2 x ox (hlt x hx) hox with ⟨e, he, hb, heq⟩ | h
      · exfalso
        have h1 := hall e he hb
        rw [heq] at h1
        have h2 : x ∈ rest ops listed := by rw [hr']; simp [hx]
        have h3 := (List.mem_filter.1 h2).2
        rcases Nat.lt_or_ge x listed.size with h' | h'
        · simp [h'] at h1 h3; rw [h1] at h3; cases h3
        · simp [Array.getElem?_eq_none h'] at h1
      · exact h) hc
    have hlen : (l1 ++ l2).length + 1 = (i0 :: l).length := by rw [hsplit]; simp; omega
    refine hg.wpOp hoi hS hcl hrd fun w' hS' => wpAny_tail hs hsel hkm hf fuel _ (l1 ++ l2) _ w' (by simpa using hl) (by rw [hrs]; simp) (fun x hx => hlk x (by rw [hsplit]; simp at hx ⊢; rcases hx with h | h; exact .inl h; exact .inr (.inr h))) (by simp only [List.length_append, List.length_cons] at hlen hfu ⊢; omega) hc' (by rw [who_set (by omega)]; exact hS') (closed_set hl hcl hil hrd)

/-- THE REGION: the first k operations in the text's order, the others plainly. -/
theorem wp_region_tail {l : List Oper} {id : Nat} {a : Act} {w : World} (k : Nat) (S : (Nat → Bool) → World → Prop) (hm : P.follows .mixedOrders = true) (hs : steadyB .any l.toArray = true) (hsel : Region.noSelect l.toArray = true) (hf : forcedB .any l.toArray k = true) (hk : k ≤ l.length)
    (hS : S (fun _ => false) w.drew) (h : Walk P .any l.toArray S (fun a => ∀ L w, S L w → (∀ j, j < k → L j = true) → wpList P l.toArray Q (l.drop k) a w) 0 (l.take k) a) : (Code.region id l.toArray true).wp P Q a w := by
  have hr : rest l.toArray (Array.replicate l.toArray.size false) = List.range' 0 k ++ List.range' k (l.length - k) := by
    unfold rest
    rw [List.filter_eq_self.2]
    · rw [List.range_eq_range']
      have := List.range'_append_1 (s := 0) (m := k) (n := l.length - k)
      rw [Nat.zero_add] at this
      rw [this, Nat.add_sub_cancel' hk]
      simp
    · intro x hx
      have : x < l.length := by simpa using hx
      simp [this]
  have hw0 : who (Array.replicate l.toArray.size false) = fun _ => false := by
    funext j
    unfold who
    rw [show (Array.replicate l.toArray.size false).getD j false = (Array.replicate l.toArray.size false)[j]?.getD false by simp, Array.getElem?_replicate]
    split <;> rfl
  have hW : ∀ a w, wpList P l.toArray Q (l.drop k) a w → wpOps P l.toArray Q (List.range' k (l.length - k)) a w := by
    intro a w h
    have := wpOps_eq_wpList (P := P) (ops := l.toArray) (Q := Q) (l.drop k) k (fun j => by simp)
    rw [List.length_drop] at this
    rw [this]; exact h
  refine wp_region_any hm (wpAny_tail (S := S) hs hsel (k := k) (m := l.length - k) (by simp; omega) hf l.toArray.size _ (List.range' 0 k) a _ (by simp) hr (fun x hx => by have := List.mem_range'_1.1 hx; omega) (by simp; omega) ?_ (by rw [hw0]; exact hS) (by rw [hw0]; intro i o _ h; cases h))
  have hlen : (l.take k).length = k := by rw [List.length_take]; omega
  have := chain_of_walk (P := P) (md := .any) (ops := l.toArray) (S := S) (l.take k) 0 a (fun j hj => by rw [hlen] at hj; simp [hj]) h
  rw [hlen] at this
  have mono : ∀ (R R' : Act → Prop), (∀ a, R a → R' a) → ∀ (l' : List Nat) (a : Act), Chain P .any l.toArray S R l' a → Chain P .any l.toArray S R' l' a := by
    intro R R' hR l'
    induction l' with
    | nil => exact fun a h => hR a h
    | cons x l' ih => exact fun a ⟨o, v, h1, h2, h3⟩ => ⟨o, v, h1, h2, ih _ h3⟩
  exact mono _ _ (fun a h L w hS hL => hW a w (h L w hS hL)) _ _ this

end
end Go.Proofs.YtimodohcihnoiaaDoor.St
