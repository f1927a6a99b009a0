/-
  A region whose order of evaluation is drawn, whose operations may turn the world one behind the other: what holds of the world is said by which of them have been carried out (S); each has one outcome wherever it may come up. Then it may be walked in the order of the text, each operation once. No condition of a program.
-/
import Derived.Orders
import Derived.Laws.World
namespace Go.Proofs.YtimodohcihnoiaaDoor.St
open Go

section
variable {P : Program} {md : Region.Mode} {ops : Array Oper} {Q : Exit → Act → World → Prop} {S : (Nat → Bool) → World → Prop}

/-- i has been carried out too. -/
def mark (L : Nat → Bool) (i : Nat) : Nat → Bool := fun j => j == i || L j
/-- What has been carried out waits for nothing that has not. -/
def Closed (md : Region.Mode) (ops : Array Oper) (L : Nat → Bool) : Prop := ∀ i o, ops[i]? = some o → L i = true → ∀ e ∈ o.after, Region.binds md e = true → L e.on = true
/-- i may come up. -/
def Ready (md : Region.Mode) (ops : Array Oper) (L : Nat → Bool) (i : Nat) : Prop := L i = false ∧ ∀ o, ops[i]? = some o → ∀ e ∈ o.after, Region.binds md e = true → L e.on = true

/-- i waits for j, by way of others or not. -/
def before (md : Region.Mode) (ops : Array Oper) : Nat → Nat → Nat → Bool
  | 0, _, _ => false
  | f + 1, i, j => match ops[i]? with
    | none => false
    | some o => o.after.toList.any fun e => Region.binds md e && (e.on == j || before md ops f e.on j)
theorem before_closed {L : Nat → Bool} (hc : Closed md ops L) : ∀ (f i j : Nat), L i = true → before md ops f i j = true → L j = true
  | 0, _, _, _, h => by cases h
  | f + 1, i, j, hi, h => by
    unfold before at h
    cases ho : ops[i]? with
    | none => rw [ho] at h; cases h
    | some o =>
      rw [ho] at h
      obtain ⟨e, he, hb⟩ := List.any_eq_true.1 h
      simp only [Bool.and_eq_true, Bool.or_eq_true, beq_iff_eq] at hb
      have := hc i o ho hi e (by simpa using he) hb.1
      rcases hb.2 with rfl | h'
      · exact this
      · exact before_closed hc f _ j this h'
theorem before_ready {L : Nat → Bool} (hc : Closed md ops L) {i : Nat} (hr : Ready md ops L i) : ∀ (f j : Nat), before md ops f i j = true → L j = true
  | 0, _, h => by cases h
  | f + 1, j, h => by
    unfold before at h
    cases ho : ops[i]? with
    | none => rw [ho] at h; cases h
    | some o =>
      rw [ho] at h
      obtain ⟨e, he, hb⟩ := List.any_eq_true.1 h
      simp only [Bool.and_eq_true, Bool.or_eq_true, beq_iff_eq] at hb
      have := hr.2 o ho e (by simpa using he) hb.1
      rcases hb.2 with rfl | h'
      · exact this
      · exact before_closed hc f _ j this h'

/-- What waits for i has not been carried out while i may still come up. -/
theorem not_yet {L : Nat → Bool} (hc : Closed md ops L) {i : Nat} (hr : Ready md ops L i) (f j : Nat) (h : before md ops f j i = true) : L j = false := by
  cases hj : L j with
  | false => rfl
  | true =>
    have := before_closed hc f j i hj h
    rw [hr.1] at this; cases this

/-- In state a, wherever operation i may come up, it leaves v in its temporary, and what S says of one more. -/
def Gives (P : Program) (md : Region.Mode) (ops : Array Oper) (S : (Nat → Bool) → World → Prop) (i : Nat) (o : Oper) (v : Value) (a : Act) : Prop :=
  (Region.wanted o (yielded ops a.tmps) = true ∧ ∀ L w, S L w → Closed md ops L → Ready md ops L i →
    (∃ w', (execOp a.eval o).run P w = .ok (.value v) w' ∧ S (mark L i) w') ∨
    ∃ f args, (execOp a.eval o).run P w = .ok (.enter f args) w ∧ Calls P f args w fun e w' => e = .returned v ∧ S (mark L i) w') ∨
  (Region.wanted o (yielded ops a.tmps) = false ∧ v = undef ∧ ∀ L w, S L w → S (mark L i) w)

theorem Gives.of_same {i : Nat} {o : Oper} {v : Value} {a a' : Act} (hy : Gives P md ops S i o v a) (he : execOp a'.eval o = execOp a.eval o)
    (hw : Region.wanted o (yielded ops a'.tmps) = Region.wanted o (yielded ops a.tmps)) : Gives P md ops S i o v a' := by
  unfold Gives at *
  rw [he, hw]
  exact hy

theorem Gives.wpOp {i : Nat} {o : Oper} {v : Value} {a : Act} (hi : ops[i]? = some o) (hy : Gives P md ops S i o v a)
    {K : Act → World → Prop} {w : World} {L : Nat → Bool} (hS : S L w) (hc : Closed md ops L) (hr : Ready md ops L i) (h : ∀ w', S (mark L i) w' → K (a.put o.dst v) w') : wpOp P ops Q i K a w := by
  unfold Go.wpOp
  simp only [hi]
  rcases hy with ⟨hw, hv⟩ | ⟨hw, rfl, hs⟩
  · rcases hv L w hS hc hr with ⟨w', hv, hs⟩ | ⟨f, args, hv, hcl⟩
    · simp only [hw, if_true, Oper.wp, hv, Oper.upon]; exact .inl (h w' hs)
    · simp only [hw, if_true, Oper.wp, hv]
      refine .inl ?_
      rw [Oper.upon_enter]
      refine hcl.mono ?_
      rintro e w' ⟨rfl, hs⟩
      exact h w' hs
  · simp only [hw, Bool.false_eq_true, if_false]; exact h w (hs L w hS)

/-- What is left, in the order of the text, and what holds behind it. -/
def Chain (P : Program) (md : Region.Mode) (ops : Array Oper) (S : (Nat → Bool) → World → Prop) (R : Act → Prop) : List Nat → Act → Prop
  | [], a => R a
  | i :: l, a => ∃ o v, ops[i]? = some o ∧ Gives P md ops S i o v a ∧ Chain P md ops S R l (a.put o.dst v)

/-- One that is apart from all ahead of it may come first. -/
theorem Chain.pull {R : Act → Prop} (hsel : ∀ (j : Nat) (o : Oper) cs b, ops[j]? = some o → o.op ≠ .select cs b) {i : Nat} {oi : Oper} (hi : ops[i]? = some oi) :
    ∀ (l1 l2 : List Nat) (a : Act), (∀ x ∈ l1, ∀ ox, ops[x]? = some ox → ox.apart ops oi = true) → Chain P md ops S R (l1 ++ i :: l2) a →
      ∃ v, Gives P md ops S i oi v a ∧ Chain P md ops S R (l1 ++ l2) (a.put oi.dst v)
  | [], l2, a, _, h => by
    obtain ⟨o, v, ho, hg, hc⟩ := h
    obtain rfl : o = oi := Option.some.inj (ho.symm.trans hi)
    exact ⟨v, hg, hc⟩
  | x :: l1, l2, a, hap, h => by
    obtain ⟨ox, vx, hx, hgx, hc⟩ := h
    obtain ⟨v, hg, hr⟩ := Chain.pull hsel hi l1 l2 (a.put ox.dst vx) (fun y hy => hap y (List.mem_cons_of_mem _ hy)) hc
    obtain ⟨h1, h2, h3⟩ := Oper.apart_spec (hap x (by simp) ox hx)
    refine ⟨v, hg.of_same ?_ ?_, ⟨ox, vx, hx, hgx.of_same ?_ ?_, ?_⟩⟩
    · exact (execOp_put oi (fun cs b => hsel i oi cs b hi) a ox.dst vx h1).symm
    · exact (wanted_put oi a ox.dst vx h1).symm
    · exact execOp_put ox (fun cs b => hsel x ox cs b hx) a oi.dst v h3
    · exact wanted_put ox a oi.dst v h3
    · rw [← Act.put_comm a vx v h2]; exact hr

def rest (ops : Array Oper) (listed : Array Bool) : List Nat := (List.range ops.size).filter fun i => !listed.getD i true
def who (listed : Array Bool) : Nat → Bool := fun j => listed.getD j false
theorem who_set {listed : Array Bool} {i : Nat} (h : i < listed.size) : who (listed.setIfInBounds i true) = mark (who listed) i := by
  funext j
  unfold who mark
  by_cases hj : j = i
  · subst hj
    simp [h]
  · rw [getD_set_ne false (fun e => hj e.symm)]
    simp [hj]

/-- Of any two operations the later one waits for the earlier one, or the two are apart; none waits for a later one. -/
def steadyB (md : Region.Mode) (ops : Array Oper) : Bool :=
  (List.range ops.size).all fun j => match ops[j]? with
    | none => true
    | some oj => (oj.after.toList.all fun e => !Region.binds md e || decide (e.on < j)) && (List.range j).all fun i => match ops[i]? with
      | none => true
      | some oi => (oj.after.toList.any fun e => Region.binds md e && e.on == i) || oi.apart ops oj

theorem steady_both (h : steadyB md ops = true) {j : Nat} {oj : Oper} (hj : ops[j]? = some oj) :
    (∀ e ∈ oj.after, Region.binds md e = true → e.on < j) ∧ ∀ (i : Nat) (oi : Oper), i < j → ops[i]? = some oi → (∃ e ∈ oj.after, Region.binds md e = true ∧ e.on = i) ∨ oi.apart ops oj = true := by
  have hjl : j < ops.size := (Array.getElem?_eq_some_iff.1 hj).1
  have h1 := List.all_eq_true.1 h j (List.mem_range.2 hjl)
  simp only [hj, Bool.and_eq_true] at h1
  refine ⟨fun e he hb => ?_, fun i oi hij hi => ?_⟩
  · have := List.all_eq_true.1 h1.1 e (by simpa using he)
    simpa [hb] using this
  · have h2 := List.all_eq_true.1 h1.2 i (List.mem_range.2 hij)
    simp only [hi, Bool.or_eq_true] at h2
    rcases h2 with h2 | h2
    · left
      obtain ⟨e, he, hb⟩ := List.any_eq_true.1 h2
      simp only [Bool.and_eq_true, beq_iff_eq] at hb
      exact ⟨e, by simpa using he, hb.1, hb.2⟩
    · exact .inr h2

theorem rest_set {listed : Array Bool} {i : Nat} (hl : listed.size = ops.size) {l1 l2 : List Nat} (h : rest ops listed = l1 ++ i :: l2) (hlt : ∀ x ∈ l1, x < i) (hgt : ∀ x ∈ l2, i < x) : rest ops (listed.setIfInBounds i true) = l1 ++ l2 := by
  have hi : i < ops.size := by
    have : i ∈ rest ops listed := by rw [h]; simp
    simpa using (List.mem_filter.1 this).1
  have : rest ops (listed.setIfInBounds i true) = (rest ops listed).filter (fun x => x != i) := by
    unfold rest
    rw [List.filter_filter]
    apply List.filter_congr
    intro x hx
    by_cases hxi : i = x
    · subst hxi
      simp [Array.getElem?_setIfInBounds_self_of_lt (by omega : i < listed.size)]
    · have : (x != i) = true := by simp; omega
      rw [getD_set_ne true hxi, this]; simp
  rw [this, h, List.filter_append, List.filter_cons]
  have e1 : l1.filter (fun x => x != i) = l1 := List.filter_eq_self.2 fun x hx => by have := hlt x hx; simp; omega
  have e2 : l2.filter (fun x => x != i) = l2 := List.filter_eq_self.2 fun x hx => by have := hgt x hx; simp; omega
  rw [e1, e2]; simp

theorem rest_sorted (listed : Array Bool) : (rest ops listed).Pairwise (· < ·) :=
  List.Pairwise.sublist List.filter_sublist List.pairwise_lt_range

theorem all_of_rest {listed : Array Bool} (hl : listed.size = ops.size) (h : rest ops listed = []) : ∀ j, j < ops.size → who listed j = true := by
  intro j hj
  have h2 : ¬ j ∈ rest ops listed := by rw [h]; simp
  have h3 : listed.getD j true = true := by
    cases h4 : listed.getD j true
    · exact absurd (List.mem_filter.2 ⟨List.mem_range.2 hj, by rw [h4]; rfl⟩) h2
    · rfl
  unfold who
  have h5 : j < listed.size := by omega
  simpa [h5] using h3

theorem wpAny_stage (hs : steadyB md ops = true) (hsel : Region.noSelect ops = true) : ∀ (fuel : Nat) (listed : Array Bool) (a : Act) (w : World), listed.size = ops.size → (rest ops listed).length ≤ fuel →
    Chain P md ops S (fun a => ∀ L w, S L w → (∀ j, j < ops.size → L j = true) → Q .normal a w) (rest ops listed) a → S (who listed) w → Closed md ops (who listed) → wpAny P md ops Q fuel listed a w
  | fuel, listed, a, w, hl, hf, hc, hS, hcl => by
    have hempty : rest ops listed = [] → Q .normal a w := fun h0 => by
      have := all_of_rest hl h0
      rw [h0] at hc; exact hc _ w hS this
    have hready0 : rest ops listed = [] → Region.ready md ops listed = [] := fun h0 => by
      apply List.eq_nil_iff_forall_not_mem.2
      intro j hj
      obtain ⟨hj1, oj, hj2, _⟩ := mem_ready.1 hj
      have : j ∈ rest ops listed := List.mem_filter.2 ⟨List.mem_range.2 (Array.getElem?_eq_some_iff.1 hj2).1, by rw [hj1]; rfl⟩
      rw [h0] at this; cases this
    cases fuel with
    | zero =>
      have h0 : rest ops listed = [] := List.length_eq_zero_iff.1 (by omega)
      exact ⟨hready0 h0, hempty h0⟩
    | succ fuel =>
      refine ⟨fun hr => ?_, fun i hi => ?_⟩
      · cases hrest : rest ops listed with
        | nil => exact hempty hrest
        | cons i l =>
          exfalso
          have hmem : i ∈ rest ops listed := by rw [hrest]; simp
          rw [hrest] at hc
          obtain ⟨o, v, ho, _, _⟩ := hc
          have hil : i < ops.size := (Array.getElem?_eq_some_iff.1 ho).1
          have hsorted := rest_sorted (ops := ops) listed
          rw [hrest] at hsorted
          have hall : ∀ e ∈ o.after, Region.binds md e = true → listed.getD e.on false = true := fun e he hb => by
            have h1 := (steady_both hs ho).1 e he hb
            have h2 : ¬ e.on ∈ rest ops listed := by
              rw [hrest]
              intro hm
              rcases List.mem_cons.1 hm with h | h
              · omega
              · have := (List.pairwise_cons.1 hsorted).1 _ h; omega
            have h3 : listed.getD e.on true = true := by
              cases h4 : listed.getD e.on true
              · exact absurd (List.mem_filter.2 ⟨List.mem_range.2 (by omega), by rw [h4]; rfl⟩) h2
              · rfl
            have h5 : e.on < listed.size := by omega
            simpa [h5] using h3
          have : i ∈ Region.ready md ops listed := mem_ready.2 ⟨by simpa using (List.mem_filter.1 hmem).2, o, ho, hall⟩
          rw [hr] at this; cases this
      · obtain ⟨hi1, oi, hoi, hall⟩ := mem_ready.1 hi
        have hil : i < ops.size := (Array.getElem?_eq_some_iff.1 hoi).1
        have hmem : i ∈ rest ops listed := List.mem_filter.2 ⟨List.mem_range.2 hil, by rw [hi1]; rfl⟩
        obtain ⟨l1, l2, hsplit⟩ := List.append_of_mem hmem
        have hsorted := rest_sorted (ops := ops) listed
        rw [hsplit] at hsorted
        have hlt : ∀ x ∈ l1, x < i := fun x hx => (List.pairwise_append.1 hsorted).2.2 x hx i (by simp)
        have hgt : ∀ x ∈ l2, i < x := fun x hx => (List.pairwise_cons.1 (List.pairwise_append.1 hsorted).2.1).1 x hx
        have hrs := rest_set hl hsplit hlt hgt
        rw [hsplit] at hc
        obtain ⟨v, hg, hc'⟩ := Chain.pull (Region.noSelect_spec hsel) hoi l1 l2 a (fun x hx ox hox => by
          rcases (steady_both hs hoi).2 x ox (hlt x hx) hox with ⟨e, he, hb, heq⟩ | h
          · exfalso
            have h1 := hall e he hb
            rw [heq] at h1
            have h2 : x ∈ rest ops listed := by rw [hsplit]; simp [hx]
            have h3 := (List.mem_filter.1 h2).2
            rcases Nat.lt_or_ge x listed.size with h' | h'
            · simp [h'] at h1 h3; rw [h1] at h3; cases h3
            · simp [Array.getElem?_eq_none h'] at h1
          · exact h) hc
        have hrd : Ready md ops (who listed) i := by
          refine ⟨?_, fun o ho e he hb => ?_⟩
          · have h5 : i < listed.size := by omega
            unfold who
            simpa [h5] using hi1
          · obtain rfl : oi = o := Option.some.inj (hoi.symm.trans ho)
            exact hall e he hb
        refine hg.wpOp hoi hS hcl hrd fun w' hS' => wpAny_stage hs hsel fuel _ _ w' (by simpa using hl) ?_ (by rw [hrs]; exact hc') (by rw [who_set (by omega)]; exact hS') ?_
        · rw [hrs]
          rw [hsplit] at hf
          simp at hf ⊢; omega
        · rw [who_set (by omega)]
          intro j o ho hj e he hb
          unfold mark at hj ⊢
          simp only [Bool.or_eq_true, beq_iff_eq] at hj ⊢
          rcases hj with rfl | hj
          · exact .inr (hrd.2 o ho e he hb)
          · exact .inr (hcl j o ho hj e he hb)

/-- The same, over the operations themselves; k: the number of the one that stands next. -/
def Walk (P : Program) (md : Region.Mode) (ops : Array Oper) (S : (Nat → Bool) → World → Prop) (R : Act → Prop) : Nat → List Oper → Act → Prop
  | _, [], a => R a
  | k, o :: l, a => ∃ v, Gives P md ops S k o v a ∧ Walk P md ops S R (k + 1) l (a.put o.dst v)

theorem chain_of_walk {R : Act → Prop} : ∀ (l : List Oper) (k : Nat) (a : Act), (∀ j, j < l.length → ops[k + j]? = l[j]?) → Walk P md ops S R k l a → Chain P md ops S R (List.range' k l.length) a
  | [], _, _, _, h => h
  | o :: l, k, a, hk, h => by
    obtain ⟨v, hg, hr⟩ := h
    refine ⟨o, v, by simpa using hk 0 (by simp), hg, chain_of_walk l (k + 1) _ (fun j hj => ?_) hr⟩
    have := hk (j + 1) (by simpa using hj)
    rw [show k + 1 + j = k + (j + 1) by omega, this]; rfl

/-! ### the moves of a walk -/
theorem step_past {R : Act → Prop} {k : Nat} {l : List Oper} {o : Oper} {a : Act} (hw : Region.wanted o (yielded ops a.tmps) = false) (hs : ∀ L w, S L w → S (mark L k) w) (h : Walk P md ops S R (k + 1) l (a.put o.dst undef)) : Walk P md ops S R k (o :: l) a :=
  ⟨undef, .inr ⟨hw, rfl, hs⟩, h⟩
theorem step_give {R : Act → Prop} {k : Nat} {l : List Oper} {o : Oper} {v : Value} {a : Act} (hw : Region.wanted o (yielded ops a.tmps) = true)
    (hv : ∀ L w, S L w → Closed md ops L → Ready md ops L k → (execOp a.eval o).run P w = .ok (.value v) w) (hs : ∀ L w, S L w → S (mark L k) w) (h : Walk P md ops S R (k + 1) l (a.put o.dst v)) : Walk P md ops S R k (o :: l) a :=
  ⟨v, .inl ⟨hw, fun L w hS hc hr => .inl ⟨w, hv L w hS hc hr, hs L w hS⟩⟩, h⟩
theorem step_into {R : Act → Prop} {k : Nat} {l : List Oper} {o : Oper} {v : Value} {f : FuncId} {args : Array Value} {a : Act} (hw : Region.wanted o (yielded ops a.tmps) = true)
    (hv : ∀ w, (execOp a.eval o).run P w = .ok (.enter f args) w) (hc : ∀ L w, S L w → Closed md ops L → Ready md ops L k → Calls P f args w fun e w' => e = .returned v ∧ S (mark L k) w') (h : Walk P md ops S R (k + 1) l (a.put o.dst v)) : Walk P md ops S R k (o :: l) a :=
  ⟨v, .inl ⟨hw, fun L w hS hcl hr => .inr ⟨f, args, hv w, hc L w hS hcl hr⟩⟩, h⟩
theorem step_last {R : Act → Prop} {k : Nat} {a : Act} (h : R a) : Walk P md ops S R k [] a := h

/-- THE REGION: walked in the text's order. -/
theorem wp_region_stage {l : List Oper} {id : Nat} {a : Act} {w : World} (S : (Nat → Bool) → World → Prop) (hm : P.follows .mixedOrders = true) (hs : steadyB .any l.toArray = true) (hsel : Region.noSelect l.toArray = true)
    (hS : S (fun _ => false) w.drew) (h : Walk P .any l.toArray S (fun a => ∀ L w, S L w → (∀ j, j < l.length → L j = true) → Q .normal a w) 0 l a) : (Code.region id l.toArray true).wp P Q a w := by
  have hr : rest l.toArray (Array.replicate l.toArray.size false) = List.range' 0 l.length := by
    unfold rest
    rw [List.filter_eq_self.2]
    · simp [List.range_eq_range']
    · intro x hx
      have : x < l.length := by simpa using hx
      simp [this]
  have hw0 : who (Array.replicate l.toArray.size false) = fun _ => false := by
    funext j
    unfold who
    rw [show (Array.replicate l.toArray.size false).getD j false = (Array.replicate l.toArray.size false)[j]?.getD false by simp, Array.getElem?_replicate]
    split <;> rfl
  refine wp_region_any hm (wpAny_stage (S := S) hs hsel l.toArray.size _ a _ (by simp) ?_ ?_ (by rw [hw0]; exact hS) (by rw [hw0]; intro i o _ h; cases h))
  · rw [hr]; simp
  · rw [hr]
    have := chain_of_walk (P := P) (md := .any) (ops := l.toArray) (S := S) l 0 a (fun j _ => by simp) h
    simpa using this

end
end Go.Proofs.YtimodohcihnoiaaDoor.St
