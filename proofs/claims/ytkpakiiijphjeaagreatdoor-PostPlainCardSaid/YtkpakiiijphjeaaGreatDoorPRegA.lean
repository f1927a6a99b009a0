/-
  A region whose order of evaluation is drawn, whose operations may turn the world one behind the other: what holds of the world is said by which of them have been carried out (S); each has one outcome wherever it may come up. Then it may be walked in the order of the text, each operation once. No condition of a program.
  A region whose order of evaluation is drawn, whose operations make memory in more chains than one: the values that they yield may hang on the order. What holds is said by which operations have been carried out, what each has yielded, and the world (S). Walked in the text's order, one way, over whatever was yielded. No condition of a program.
  A region whose order of evaluation is drawn, whose last operations come in one forced order behind all others: it is walked in the text's order, the first ones as in Stage (each with one outcome wherever it may come up), the last ones plainly, in whatever world the first ones leave. No condition of a program.
-/
import Derived.Orders
import Derived.Laws.World
import Derived.Tactics
namespace Go.Proofs.YtkpakiiijphjeaaGreatDoor.St
open Go
section
variable {P : Program} {md : Region.Mode} {ops : Array Oper} {Q : Exit → Act → World → Prop} {S : (Nat → Bool) → World → Prop}
def mark (L : Nat → Bool) (i : Nat) : Nat → Bool := fun j => j == i || L j
def Closed (md : Region.Mode) (ops : Array Oper) (L : Nat → Bool) : Prop := ∀ i o, ops[i]? = some o → L i = true → ∀ e ∈ o.after, Region.binds md e = true → L e.on = true
def Ready (md : Region.Mode) (ops : Array Oper) (L : Nat → Bool) (i : Nat) : Prop := L i = false ∧ ∀ o, ops[i]? = some o → ∀ e ∈ o.after, Region.binds md e = true → L e.on = true
def before (md : Region.Mode) (ops : Array Oper) : Nat → Nat → Nat → Bool
  | 0, _, _ => false
  | f + 1, i, j => match ops[i]? with
    | none => false
    | some o => o.after.toList.any fun e => Region.binds md e && (e.on == j || before md ops f e.on j)
theorem before_closed {L : Nat → Bool} (hc : Closed md ops L) : ∀ (f i j : Nat), L i = true → before md ops f i j = true → L j = true
  | 0, _, _, _, h => by cases h
  | f + 1, i, j, hi, h => by
    unfold before at h
    cases ho : ops[i]? with
    | none => rw [ho] at h; cases h
    | some o =>
      rw [ho] at h
      obtain ⟨e, he, hb⟩ := List.any_eq_true.1 h
      simp only [Bool.and_eq_true, Bool.or_eq_true, beq_iff_eq] at hb
      have := hc i o ho hi e (by simpa using he) hb.1
      rcases hb.2 with rfl | h'
      · exact this
      · exact before_closed hc f _ j this h'
theorem before_ready {L : Nat → Bool} (hc : Closed md ops L) {i : Nat} (hr : Ready md ops L i) : ∀ (f j : Nat), before md ops f i j = true → L j = true
  | 0, _, h => by cases h
  | f + 1, j, h => by
    unfold before at h
    cases ho : ops[i]? with
    | none => rw [ho] at h; cases h
    | some o =>
      rw [ho] at h
      obtain ⟨e, he, hb⟩ := List.any_eq_true.1 h
      simp only [Bool.and_eq_true, Bool.or_eq_true, beq_iff_eq] at hb
      have := hr.2 o ho e (by simpa using he) hb.1
      rcases hb.2 with rfl | h'
      · exact this
      · exact before_closed hc f _ j this h'
theorem not_yet {L : Nat → Bool} (hc : Closed md ops L) {i : Nat} (hr : Ready md ops L i) (f j : Nat) (h : before md ops f j i = true) : L j = false := by
  cases hj : L j with
  | false => rfl
  | true =>
    have := before_closed hc f j i hj h
    rw [hr.1] at this; cases this
def Gives (P : Program) (md : Region.Mode) (ops : Array Oper) (S : (Nat → Bool) → World → Prop) (i : Nat) (o : Oper) (v : Value) (a : Act) : Prop :=
  (Region.wanted o (yielded ops a.tmps) = true ∧ ∀ L w, S L w → Closed md ops L → Ready md ops L i →
    (∃ w', (execOp a.eval o).run P w = .ok (.value v) w' ∧ S (mark L i) w') ∨
    ∃ f args, (execOp a.eval o).run P w = .ok (.enter f args) w ∧ Calls P f args w fun e w' => e = .returned v ∧ S (mark L i) w') ∨
  (Region.wanted o (yielded ops a.tmps) = false ∧ v = undef ∧ ∀ L w, S L w → S (mark L i) w)
theorem Gives.of_same {i : Nat} {o : Oper} {v : Value} {a a' : Act} (hy : Gives P md ops S i o v a) (he : execOp a'.eval o = execOp a.eval o)
    (hw : Region.wanted o (yielded ops a'.tmps) = Region.wanted o (yielded ops a.tmps)) : Gives P md ops S i o v a' := by
  unfold Gives at *
  rw [he, hw]
  exact hy
theorem Gives.wpOp {i : Nat} {o : Oper} {v : Value} {a : Act} (hi : ops[i]? = some o) (hy : Gives P md ops S i o v a)
    {K : Act → World → Prop} {w : World} {L : Nat → Bool} (hS : S L w) (hc : Closed md ops L) (hr : Ready md ops L i) (h : ∀ w', S (mark L i) w' → K (a.put o.dst v) w') : wpOp P ops Q i K a w := by
  unfold Go.wpOp
  simp only [hi]
  rcases hy with ⟨hw, hv⟩ | ⟨hw, rfl, hs⟩
  · rcases hv L w hS hc hr with ⟨w', hv, hs⟩ | ⟨f, args, hv, hcl⟩
    · simp only [hw, if_true, Oper.wp, hv, Oper.upon]; exact .inl (h w' hs)
    · simp only [hw, if_true, Oper.wp, hv]
      refine .inl ?_
      rw [Oper.upon_enter]
      refine hcl.mono ?_
      rintro e w' ⟨rfl, hs⟩
      exact h w' hs
  · simp only [hw, Bool.false_eq_true, if_false]; exact h w (hs L w hS)
def Chain (P : Program) (md : Region.Mode) (ops : Array Oper) (S : (Nat → Bool) → World → Prop) (R : Act → Prop) : List Nat → Act → Prop
  | [], a => R a
  | i :: l, a => ∃ o v, ops[i]? = some o ∧ Gives P md ops S i o v a ∧ Chain P md ops S R l (a.put o.dst v)
theorem Chain.pull {R : Act → Prop} (hsel : ∀ (j : Nat) (o : Oper) cs b, ops[j]? = some o → o.op ≠ .select cs b) {i : Nat} {oi : Oper} (hi : ops[i]? = some oi) :
    ∀ (l1 l2 : List Nat) (a : Act), (∀ x ∈ l1, ∀ ox, ops[x]? = some ox → ox.apart ops oi = true) → Chain P md ops S R (l1 ++ i :: l2) a →
      ∃ v, Gives P md ops S i oi v a ∧ Chain P md ops S R (l1 ++ l2) (a.put oi.dst v)
  | [], l2, a, _, h => by
    obtain ⟨o, v, ho, hg, hc⟩ := h
    obtain rfl : o = oi := Option.some.inj (ho.symm.trans hi)
    exact ⟨v, hg, hc⟩
  | x :: l1, l2, a, hap, h => by
    obtain ⟨ox, vx, hx, hgx, hc⟩ := h
    obtain ⟨v, hg, hr⟩ := Chain.pull hsel hi l1 l2 (a.put ox.dst vx) (fun y hy => hap y (List.mem_cons_of_mem _ hy)) hc
    obtain ⟨h1, h2, h3⟩ := Oper.apart_spec (hap x (by simp) ox hx)
    refine ⟨v, hg.of_same ?_ ?_, ⟨ox, vx, hx, hgx.of_same ?_ ?_, ?_⟩⟩
    · exact (execOp_put oi (fun cs b => hsel i oi cs b hi) a ox.dst vx h1).symm
    · exact (wanted_put oi a ox.dst vx h1).symm
    · exact execOp_put ox (fun cs b => hsel x ox cs b hx) a oi.dst v h3
    · exact wanted_put ox a oi.dst v h3
    · rw [← Act.put_comm a vx v h2]; exact hr
def rest (ops : Array Oper) (listed : Array Bool) : List Nat := (List.range ops.size).filter fun i => !listed.getD i true
def who (listed : Array Bool) : Nat → Bool := fun j => listed.getD j false
theorem who_set {listed : Array Bool} {i : Nat} (h : i < listed.size) : who (listed.setIfInBounds i true) = mark (who listed) i := by
  funext j
  unfold who mark
  by_cases hj : j = i
  · subst hj
    simp [h]
  · rw [getD_set_ne false (fun e => hj e.symm)]
    simp [hj]
def steadyB (md : Region.Mode) (ops : Array Oper) : Bool :=
  (List.range ops.size).all fun j => match ops[j]? with
    | none => true
    | some oj => (oj.after.toList.all fun e => !Region.binds md e || decide (e.on < j)) && (List.range j).all fun i => match ops[i]? with
      | none => true
      | some oi => (oj.after.toList.any fun e => Region.binds md e && e.on == i) || oi.apart ops oj
theorem steady_both (h : steadyB md ops = true) {j : Nat} {oj : Oper} (hj : ops[j]? = some oj) :
    (∀ e ∈ oj.after, Region.binds md e = true → e.on < j) ∧ ∀ (i : Nat) (oi : Oper), i < j → ops[i]? = some oi → (∃ e ∈ oj.after, Region.binds md e = true ∧ e.on = i) ∨ oi.apart ops oj = true := by
  have hjl : j < ops.size := (Array.getElem?_eq_some_iff.1 hj).1
  have h1 := List.all_eq_true.1 h j (List.mem_range.2 hjl)
  simp only [hj, Bool.and_eq_true] at h1
  refine ⟨fun e he hb => ?_, fun i oi hij hi => ?_⟩
  · have := List.all_eq_true.1 h1.1 e (by simpa using he)
    simpa [hb] using this
  · have h2 := List.all_eq_true.1 h1.2 i (List.mem_range.2 hij)
    simp only [hi, Bool.or_eq_true] at h2
    rcases h2 with h2 | h2
    · left
      obtain ⟨e, he, hb⟩ := List.any_eq_true.1 h2
      simp only [Bool.and_eq_true, beq_iff_eq] at hb
      exact ⟨e, by simpa using he, hb.1, hb.2⟩
    · exact .inr h2
theorem rest_set {listed : Array Bool} {i : Nat} (hl : listed.size = ops.size) {l1 l2 : List Nat} (h : rest ops listed = l1 ++ i :: l2) (hlt : ∀ x ∈ l1, x < i) (hgt : ∀ x ∈ l2, i < x) : rest ops (listed.setIfInBounds i true) = l1 ++ l2 := by
  have hi : i < ops.size := by
    have : i ∈ rest ops listed := by rw [h]; simp
    simpa using (List.mem_filter.1 this).1
  have : rest ops (listed.setIfInBounds i true) = (rest ops listed).filter (fun x => x != i) := by
    unfold rest
    rw [List.filter_filter]
    apply List.filter_congr
    intro x hx
    by_cases hxi : i = x
    · subst hxi
      simp [Array.getElem?_setIfInBounds_self_of_lt (by omega : i < listed.size)]
    · have : (x != i) = true := by simp; omega
      rw [getD_set_ne true hxi, this]; simp
  rw [this, h, List.filter_append, List.filter_cons]
  have e1 : l1.filter (fun x => x != i) = l1 := List.filter_eq_self.2 fun x hx => by have := hlt x hx; simp; omega
  have e2 : l2.filter (fun x => x != i) = l2 := List.filter_eq_self.2 fun x hx => by have := hgt x hx; simp; omega
  rw [e1, e2]; simp
theorem rest_sorted (listed : Array Bool) : (rest ops listed).Pairwise (· < ·) :=
  List.Pairwise.sublist List.filter_sublist List.pairwise_lt_range
theorem all_of_rest {listed : Array Bool} (hl : listed.size = ops.size) (h : rest ops listed = []) : ∀ j, j < ops.size → who listed j = true := by
  intro j hj
  have h2 : ¬ j ∈ rest ops listed := by rw [h]; simp
  have h3 : listed.getD j true = true := by
    cases h4 : listed.getD j true
    · exact absurd (List.mem_filter.2 ⟨List.mem_range.2 hj, by rw [h4]; rfl⟩) h2
    · rfl
  unfold who
  have h5 : j < listed.size := by omega
  simpa [h5] using h3
theorem wpAny_stage (hs : steadyB md ops = true) (hsel : Region.noSelect ops = true) : ∀ (fuel : Nat) (listed : Array Bool) (a : Act) (w : World), listed.size = ops.size → (rest ops listed).length ≤ fuel →
    Chain P md ops S (fun a => ∀ L w, S L w → (∀ j, j < ops.size → L j = true) → Q .normal a w) (rest ops listed) a → S (who listed) w → Closed md ops (who listed) → wpAny P md ops Q fuel listed a w
  | fuel, listed, a, w, hl, hf, hc, hS, hcl => by
    have hempty : rest ops listed = [] → Q .normal a w := fun h0 => by
      have := all_of_rest hl h0
      rw [h0] at hc; exact hc _ w hS this
    have hready0 : rest ops listed = [] → Region.ready md ops listed = [] := fun h0 => by
      apply List.eq_nil_iff_forall_not_mem.2
      intro j hj
      obtain ⟨hj1, oj, hj2, _⟩ := mem_ready.1 hj
      have : j ∈ rest ops listed := List.mem_filter.2 ⟨List.mem_range.2 (Array.getElem?_eq_some_iff.1 hj2).1, by rw [hj1]; rfl⟩
      rw [h0] at this; cases this
    cases fuel with
    | zero =>
      have h0 : rest ops listed = [] := List.length_eq_zero_iff.1 (by omega)
      exact ⟨hready0 h0, hempty h0⟩
    | succ fuel =>
      refine ⟨fun hr => ?_, fun i hi => ?_⟩
      · cases hrest : rest ops listed with
        | nil => exact hempty hrest
        | cons i l =>
          exfalso
          have hmem : i ∈ rest ops listed := by rw [hrest]; simp
          rw [hrest] at hc
          obtain ⟨o, v, ho, _, _⟩ := hc
          have hil : i < ops.size := (Array.getElem?_eq_some_iff.1 ho).1
          have hsorted := rest_sorted (ops := ops) listed
          rw [hrest] at hsorted
          have hall : ∀ e ∈ o.after, Region.binds md e = true → listed.getD e.on false = true := fun e he hb => by
            have h1 := (steady_both hs ho).1 e he hb
            have h2 : ¬ e.on ∈ rest ops listed := by
              rw [hrest]
              intro hm
              rcases List.mem_cons.1 hm with h | h
              · omega
              · have := (List.pairwise_cons.1 hsorted).1 _ h; omega
            have h3 : listed.getD e.on true = true := by
              cases h4 : listed.getD e.on true
              · exact absurd (List.mem_filter.2 ⟨List.mem_range.2 (by omega), by rw [h4]; rfl⟩) h2
              · rfl
            have h5 : e.on < listed.size := by omega
            simpa [h5] using h3
          have : i ∈ Region.ready md ops listed := mem_ready.2 ⟨by simpa using (List.mem_filter.1 hmem).2, o, ho, hall⟩
          rw [hr] at this; cases this
      · obtain ⟨hi1, oi, hoi, hall⟩ := mem_ready.1 hi
        have hil : i < ops.size := (Array.getElem?_eq_some_iff.1 hoi).1
        have hmem : i ∈ rest ops listed := List.mem_filter.2 ⟨List.mem_range.2 hil, by rw [hi1]; rfl⟩
        obtain ⟨l1, l2, hsplit⟩ := List.append_of_mem hmem
        have hsorted := rest_sorted (ops := ops) listed
        rw [hsplit] at hsorted
        have hlt : ∀ x ∈ l1, x < i := fun x hx => (List.pairwise_append.1 hsorted).2.2 x hx i (by simp)
        have hgt : ∀ x ∈ l2, i < x := fun x hx => (List.pairwise_cons.1 (List.pairwise_append.1 hsorted).2.1).1 x hx
        have hrs := rest_set hl hsplit hlt hgt
        rw [hsplit] at hc
        obtain ⟨v, hg, hc'⟩ := Chain.pull (Region.noSelect_spec hsel) hoi l1 l2 a (fun x hx ox hox => by
          rcases (steady_both hs hoi).2 x ox (hlt x hx) hox with ⟨e, he, hb, heq⟩ | h
          · exfalso
            have h1 := hall e he hb
            rw [heq] at h1
            have h2 : x ∈ rest ops listed := by rw [hsplit]; simp [hx]
            have h3 := (List.mem_filter.1 h2).2
            rcases Nat.lt_or_ge x listed.size with h' | h'
            · simp [h'] at h1 h3; rw [h1] at h3; cases h3
            · simp [Array.getElem?_eq_none h'] at h1
          · exact h) hc
        have hrd : Ready md ops (who listed) i := by
          refine ⟨?_, fun o ho e he hb => ?_⟩
          · have h5 : i < listed.size := by omega
            unfold who
            simpa [h5] using hi1
          · obtain rfl : oi = o := Option.some.inj (hoi.symm.trans ho)
            exact hall e he hb
        refine hg.wpOp hoi hS hcl hrd fun w' hS' => wpAny_stage hs hsel fuel _ _ w' (by simpa using hl) ?_ (by rw [hrs]; exact hc') (by rw [who_set (by omega)]; exact hS') ?_
        · rw [hrs]
          rw [hsplit] at hf
          simp at hf ⊢; omega
        · rw [who_set (by omega)]
          intro j o ho hj e he hb
          unfold mark at hj ⊢
          simp only [Bool.or_eq_true, beq_iff_eq] at hj ⊢
          rcases hj with rfl | hj
          · exact .inr (hrd.2 o ho e he hb)
          · exact .inr (hcl j o ho hj e he hb)
def Walk (P : Program) (md : Region.Mode) (ops : Array Oper) (S : (Nat → Bool) → World → Prop) (R : Act → Prop) : Nat → List Oper → Act → Prop
  | _, [], a => R a
  | k, o :: l, a => ∃ v, Gives P md ops S k o v a ∧ Walk P md ops S R (k + 1) l (a.put o.dst v)
theorem chain_of_walk {R : Act → Prop} : ∀ (l : List Oper) (k : Nat) (a : Act), (∀ j, j < l.length → ops[k + j]? = l[j]?) → Walk P md ops S R k l a → Chain P md ops S R (List.range' k l.length) a
  | [], _, _, _, h => h
  | o :: l, k, a, hk, h => by
    obtain ⟨v, hg, hr⟩ := h
    refine ⟨o, v, by simpa using hk 0 (by simp), hg, chain_of_walk l (k + 1) _ (fun j hj => ?_) hr⟩
    have := hk (j + 1) (by simpa using hj)
    rw [show k + 1 + j = k + (j + 1) by omega, this]; rfl
theorem step_past {R : Act → Prop} {k : Nat} {l : List Oper} {o : Oper} {a : Act} (hw : Region.wanted o (yielded ops a.tmps) = false) (hs : ∀ L w, S L w → S (mark L k) w) (h : Walk P md ops S R (k + 1) l (a.put o.dst undef)) : Walk P md ops S R k (o :: l) a :=
  ⟨undef, .inr ⟨hw, rfl, hs⟩, h⟩
theorem step_give {R : Act → Prop} {k : Nat} {l : List Oper} {o : Oper} {v : Value} {a : Act} (hw : Region.wanted o (yielded ops a.tmps) = true)
    (hv : ∀ L w, S L w → Closed md ops L → Ready md ops L k → (execOp a.eval o).run P w = .ok (.value v) w) (hs : ∀ L w, S L w → S (mark L k) w) (h : Walk P md ops S R (k + 1) l (a.put o.dst v)) : Walk P md ops S R k (o :: l) a :=
  ⟨v, .inl ⟨hw, fun L w hS hc hr => .inl ⟨w, hv L w hS hc hr, hs L w hS⟩⟩, h⟩
theorem step_into {R : Act → Prop} {k : Nat} {l : List Oper} {o : Oper} {v : Value} {f : FuncId} {args : Array Value} {a : Act} (hw : Region.wanted o (yielded ops a.tmps) = true)
    (hv : ∀ w, (execOp a.eval o).run P w = .ok (.enter f args) w) (hc : ∀ L w, S L w → Closed md ops L → Ready md ops L k → Calls P f args w fun e w' => e = .returned v ∧ S (mark L k) w') (h : Walk P md ops S R (k + 1) l (a.put o.dst v)) : Walk P md ops S R k (o :: l) a :=
  ⟨v, .inl ⟨hw, fun L w hS hcl hr => .inr ⟨f, args, hv w, hc L w hS hcl hr⟩⟩, h⟩
theorem step_last {R : Act → Prop} {k : Nat} {a : Act} (h : R a) : Walk P md ops S R k [] a := h
theorem wp_region_stage {l : List Oper} {id : Nat} {a : Act} {w : World} (S : (Nat → Bool) → World → Prop) (hm : P.follows .mixedOrders = true) (hs : steadyB .any l.toArray = true) (hsel : Region.noSelect l.toArray = true)
    (hS : S (fun _ => false) w.drew) (h : Walk P .any l.toArray S (fun a => ∀ L w, S L w → (∀ j, j < l.length → L j = true) → Q .normal a w) 0 l a) : (Code.region id l.toArray true).wp P Q a w := by
  have hr : rest l.toArray (Array.replicate l.toArray.size false) = List.range' 0 l.length := by
    unfold rest
    rw [List.filter_eq_self.2]
    · simp [List.range_eq_range']
    · intro x hx
      have : x < l.length := by simpa using hx
      simp [this]
  have hw0 : who (Array.replicate l.toArray.size false) = fun _ => false := by
    funext j
    unfold who
    rw [show (Array.replicate l.toArray.size false).getD j false = (Array.replicate l.toArray.size false)[j]?.getD false by simp, Array.getElem?_replicate]
    split <;> rfl
  refine wp_region_any hm (wpAny_stage (S := S) hs hsel l.toArray.size _ a _ (by simp) ?_ ?_ (by rw [hw0]; exact hS) (by rw [hw0]; intro i o _ h; cases h))
  · rw [hr]; simp
  · rw [hr]
    have := chain_of_walk (P := P) (md := .any) (ops := l.toArray) (S := S) l 0 a (fun j _ => by simp) h
    simpa using this
end
end Go.Proofs.YtkpakiiijphjeaaGreatDoor.St

namespace Go.Proofs.YtkpakiiijphjeaaGreatDoor.St
open Go
section
variable {P : Program} {md : Region.Mode} {ops : Array Oper} {Q : Exit → Act → World → Prop} {S : (Nat → Bool) → (Nat → Value) → World → Prop} {C : Nat → Value → Prop}
def upd (u : Nat → Value) (i : Nat) (x : Value) : Nat → Value := fun j => if j = i then x else u j
theorem upd_other {u : Nat → Value} {i j : Nat} (x : Value) (h : j ≠ i) : upd u i x j = u j := if_neg h
theorem upd_comm (u : Nat → Value) {i j : Nat} (x y : Value) (h : i ≠ j) : upd (upd u i x) j y = upd (upd u j y) i x := by
  funext t
  unfold upd
  by_cases h1 : t = j
  · by_cases h2 : t = i
    · exact absurd (h2.symm.trans h1) h
    · rw [if_pos h1, if_neg h2, if_pos h1]
  · rw [if_neg h1]
    by_cases h2 : t = i
    · rw [if_pos h2, if_pos h2]
    · rw [if_neg h2, if_neg h2, if_neg h1]
theorem before_lt (hs : steadyB md ops = true) : ∀ (f i t : Nat), before md ops f i t = true → t < i
  | 0, _, _, h => by cases h
  | f + 1, i, t, h => by
    unfold before at h
    cases ho : ops[i]? with
    | none => rw [ho] at h; cases h
    | some o =>
      rw [ho] at h
      obtain ⟨e, he, hb⟩ := List.any_eq_true.1 h
      simp only [Bool.and_eq_true, Bool.or_eq_true, beq_iff_eq] at hb
      have h1 := (steady_both hs ho).1 e (by simpa using he) hb.1
      rcases hb.2 with rfl | h'
      · exact h1
      · exact Nat.lt_trans (before_lt hs f _ t h') h1
def Agree (md : Region.Mode) (ops : Array Oper) (i : Nat) (u u0 : Nat → Value) : Prop := ∀ f t, before md ops f i t = true → u t = u0 t
def Yields (P : Program) (md : Region.Mode) (ops : Array Oper) (S : (Nat → Bool) → (Nat → Value) → World → Prop) (C : Nat → Value → Prop) (i : Nat) (o : Oper) (u0 : Nat → Value) (a : Act) (x : Value) : Prop :=
  (Region.wanted o (yielded ops a.tmps) = false ∧ x = undef) ∨
  (Region.wanted o (yielded ops a.tmps) = true ∧ ∃ L u w, S L u w ∧ Closed md ops L ∧ Ready md ops L i ∧ Agree md ops i u u0 ∧
    ((∃ w', ((execOp a.eval o).run P w = .ok (.value x) w' ∨ x = undef ∧ (execOp a.eval o).run P w = .ok .skip w') ∧ S (mark L i) (upd u i x) w') ∨ (C i x ∧ ∃ f args, (execOp a.eval o).run P w = .ok (.enter f args) w)))
def Does (P : Program) (md : Region.Mode) (ops : Array Oper) (S : (Nat → Bool) → (Nat → Value) → World → Prop) (C : Nat → Value → Prop) (i : Nat) (o : Oper) (u0 : Nat → Value) (a : Act) : Prop :=
  (Region.wanted o (yielded ops a.tmps) = true ∧ ∀ L u w, S L u w → Closed md ops L → Ready md ops L i → Agree md ops i u u0 →
    (∃ x w', ((execOp a.eval o).run P w = .ok (.value x) w' ∨ x = undef ∧ (execOp a.eval o).run P w = .ok .skip w') ∧ S (mark L i) (upd u i x) w') ∨
    ∃ f args, (execOp a.eval o).run P w = .ok (.enter f args) w ∧ Calls P f args w fun e w' => ∃ x, e = .returned x ∧ C i x ∧ S (mark L i) (upd u i x) w') ∨
  (Region.wanted o (yielded ops a.tmps) = false ∧ ∀ L u w, S L u w → S (mark L i) (upd u i undef) w)
theorem Agree.turn {i : Nat} {u u0 u1 : Nat → Value} (h : Agree md ops i u u0) (hu : ∀ f t, before md ops f i t = true → u0 t = u1 t) : Agree md ops i u u1 := fun f t hb => (h f t hb).trans (hu f t hb)
theorem Yields.of_same {i : Nat} {o : Oper} {u0 u1 : Nat → Value} {a a' : Act} {x : Value} (hy : Yields P md ops S C i o u0 a x) (he : execOp a'.eval o = execOp a.eval o)
    (hw : Region.wanted o (yielded ops a'.tmps) = Region.wanted o (yielded ops a.tmps)) (hu : ∀ f t, before md ops f i t = true → u0 t = u1 t) : Yields P md ops S C i o u1 a' x := by
  unfold Yields at *
  rw [he, hw]
  rcases hy with hy | ⟨h1, L, u, w, h2, h3, h4, h5, h6⟩
  · exact .inl hy
  · exact .inr ⟨h1, L, u, w, h2, h3, h4, h5.turn hu, h6⟩
theorem Does.of_same {i : Nat} {o : Oper} {u0 u1 : Nat → Value} {a a' : Act} (hy : Does P md ops S C i o u0 a) (he : execOp a'.eval o = execOp a.eval o)
    (hw : Region.wanted o (yielded ops a'.tmps) = Region.wanted o (yielded ops a.tmps)) (hu : ∀ f t, before md ops f i t = true → u0 t = u1 t) : Does P md ops S C i o u1 a' := by
  unfold Does at *
  rw [he, hw]
  rcases hy with ⟨h1, h2⟩ | hy
  · exact .inl ⟨h1, fun L u w hS hc hr ha => h2 L u w hS hc hr (ha.turn fun f t hb => (hu f t hb).symm)⟩
  · exact .inr hy
def ChainR (P : Program) (md : Region.Mode) (ops : Array Oper) (S : (Nat → Bool) → (Nat → Value) → World → Prop) (C : Nat → Value → Prop) (R : (Nat → Value) → Act → Prop) : List Nat → (Nat → Value) → Act → Prop
  | [], u, a => R u a
  | i :: l, u, a => ∃ o, ops[i]? = some o ∧ Does P md ops S C i o u a ∧ ∀ x, Yields P md ops S C i o u a x → ChainR P md ops S C R l (upd u i x) (a.put o.dst x)
variable {R : (Nat → Value) → Act → Prop}
theorem ChainR.does (hs : steadyB md ops = true) (hsel : ∀ (j : Nat) (o : Oper) cs b, ops[j]? = some o → o.op ≠ .select cs b) {i : Nat} {oi : Oper} (hi : ops[i]? = some oi) :
    ∀ (l1 l2 : List Nat) (u : Nat → Value) (a : Act) (L : Nat → Bool) (w : World), (∀ x ∈ l1, (∀ f, before md ops f i x = false) ∧ ∀ ox, ops[x]? = some ox → ox.apart ops oi = true) →
      (∀ t, t < ops.size → (L t = false ↔ t ∈ l1 ++ i :: l2)) → (l1 ++ i :: l2).Pairwise (· < ·) → S L u w → Closed md ops L → ChainR P md ops S C R (l1 ++ i :: l2) u a → Does P md ops S C i oi u a
  | [], l2, u, a, L, w, _, _, _, _, _, h => by
    obtain ⟨o, ho, hd, _⟩ := h
    obtain rfl : o = oi := Option.some.inj (ho.symm.trans hi)
    exact hd
  | x :: l1, l2, u, a, L, w, hap, hL, hso, hS, hcl, h => by
    obtain ⟨ox, hx, hdx, hc⟩ := h
    have hxl : x < ops.size := (Array.getElem?_eq_some_iff.1 hx).1
    have hLx : L x = false := (hL x hxl).2 (by simp)
    have hso' := List.pairwise_cons.1 hso
    have hrd : Ready md ops L x := by
      refine ⟨hLx, fun o ho e he hb => ?_⟩
      have h1 := (steady_both hs ho).1 e he hb
      cases hLe : L e.on with
      | true => rfl
      | false =>
        have := (hL e.on (by omega)).1 hLe
        simp only [List.cons_append, List.mem_cons] at this
        rcases this with h2 | h2
        · omega
        · have := hso'.1 _ h2; omega
    have hclx : Closed md ops (mark L x) := by
      intro j o ho hj e he hb
      unfold mark at hj ⊢
      simp only [Bool.or_eq_true, beq_iff_eq] at hj ⊢
      rcases hj with rfl | hj
      · exact .inr (hrd.2 o ho e he hb)
      · exact .inr (hcl j o ho hj e he hb)
    have hLm : ∀ t, t < ops.size → (mark L x t = false ↔ t ∈ l1 ++ i :: l2) := by
      intro t ht
      unfold mark
      by_cases htx : t = x
      · subst htx
        simp only [beq_self_eq_true, Bool.true_or, Bool.true_eq_false, false_iff]
        intro hm
        have := hso'.1 _ hm; omega
      · have h1 : (t == x) = false := by simpa using htx
        rw [h1, Bool.false_or, hL t ht]
        simp [htx]
    obtain ⟨h1, h2, h3⟩ := Oper.apart_spec ((hap x (by simp)).2 ox hx)
    have go : ∀ (y : Value) (w' : World), Yields P md ops S C x ox u a y → S (mark L x) (upd u x y) w' → Does P md ops S C i oi u a := by
      intro y w' hy hS'
      have hd := ChainR.does hs hsel hi l1 l2 (upd u x y) (a.put ox.dst y) (mark L x) w' (fun z hz => hap z (List.mem_cons_of_mem _ hz)) hLm hso'.2 hS' hclx (hc y hy)
      refine hd.of_same ?_ ?_ ?_
      · exact (execOp_put oi (fun cs b => hsel i oi cs b hi) a ox.dst y h1).symm
      · exact (wanted_put oi a ox.dst y h1).symm
      · intro f t hb
        refine upd_other y ?_
        rintro rfl
        rw [(hap t (by simp)).1 f] at hb; cases hb
    rcases hdx with ⟨hw, hdx⟩ | ⟨hw, hdx⟩
    · rcases hdx L u w hS hcl hrd (fun _ _ _ => rfl) with ⟨y, w', hrun, hS'⟩ | ⟨f, args, hrun, hcall⟩
      · exact go y w' (.inr ⟨hw, L, u, w, hS, hcl, hrd, fun _ _ _ => rfl, .inl ⟨w', hrun, hS'⟩⟩) hS'
      · obtain ⟨e, w', fr, ⟨y, _, hC, hS'⟩, _⟩ := hcall []
        exact go y w' (.inr ⟨hw, L, u, w, hS, hcl, hrd, fun _ _ _ => rfl, .inr ⟨hC, f, args, hrun⟩⟩) hS'
    · exact go undef w (.inl ⟨hw, rfl⟩) (hdx L u w hS)
theorem ChainR.pull (hs : steadyB md ops = true) (hsel : ∀ (j : Nat) (o : Oper) cs b, ops[j]? = some o → o.op ≠ .select cs b) {i : Nat} {oi : Oper} (hi : ops[i]? = some oi) :
    ∀ (l1 l2 : List Nat) (u : Nat → Value) (a : Act) (x : Value), (∀ x ∈ l1, x < i ∧ (∀ f, before md ops f i x = false) ∧ ∀ ox, ops[x]? = some ox → ox.apart ops oi = true) →
      ChainR P md ops S C R (l1 ++ i :: l2) u a → Yields P md ops S C i oi u a x → ChainR P md ops S C R (l1 ++ l2) (upd u i x) (a.put oi.dst x)
  | [], l2, u, a, x, _, h, hy => by
    obtain ⟨o, ho, _, hc⟩ := h
    obtain rfl : o = oi := Option.some.inj (ho.symm.trans hi)
    exact hc x hy
  | j :: l1, l2, u, a, x, hap, h, hy => by
    obtain ⟨oj, hj, hdj, hc⟩ := h
    obtain ⟨hji, hb, hapj⟩ := hap j (by simp)
    obtain ⟨h1, h2, h3⟩ := Oper.apart_spec (hapj oj hj)
    have hbj : ∀ f t, before md ops f j t = true → u t = upd u i x t := fun f t hb => (upd_other x (by have := before_lt hs f j t hb; omega)).symm
    refine ⟨oj, hj, hdj.of_same ?_ ?_ hbj, fun y hyj => ?_⟩
    · exact execOp_put oj (fun cs b => hsel j oj cs b hj) a oi.dst x h3
    · exact wanted_put oj a oi.dst x h3
    · have hyj' : Yields P md ops S C j oj u a y := hyj.of_same (execOp_put oj (fun cs b => hsel j oj cs b hj) a oi.dst x h3).symm (wanted_put oj a oi.dst x h3).symm (fun f t hb => (hbj f t hb).symm)
      have := ChainR.pull hs hsel hi l1 l2 (upd u j y) (a.put oj.dst y) x (fun z hz => hap z (List.mem_cons_of_mem _ hz)) (hc y hyj')
        (hy.of_same (execOp_put oi (fun cs b => hsel i oi cs b hi) a oj.dst y h1) (wanted_put oi a oj.dst y h1) (fun f t hbt => (upd_other y (by rintro rfl; rw [hb f] at hbt; cases hbt)).symm))
      rw [upd_comm u x y (by omega : i ≠ j), ← Act.put_comm a y x h2]
      exact this
theorem wpAny_mixed (hs : steadyB md ops = true) (hsel : Region.noSelect ops = true) : ∀ (fuel : Nat) (listed : Array Bool) (u : Nat → Value) (a : Act) (w : World), listed.size = ops.size → (rest ops listed).length ≤ fuel →
    ChainR P md ops S C (fun u a => ∀ L w, S L u w → (∀ j, j < ops.size → L j = true) → Q .normal a w) (rest ops listed) u a → S (who listed) u w → Closed md ops (who listed) → wpAny P md ops Q fuel listed a w
  | fuel, listed, u, a, w, hl, hf, hc, hS, hcl => by
    have hempty : rest ops listed = [] → Q .normal a w := fun h0 => by
      have := all_of_rest hl h0
      rw [h0] at hc; exact hc _ w hS this
    have hready0 : rest ops listed = [] → Region.ready md ops listed = [] := fun h0 => by
      apply List.eq_nil_iff_forall_not_mem.2
      intro j hj
      obtain ⟨hj1, oj, hj2, _⟩ := mem_ready.1 hj
      have : j ∈ rest ops listed := List.mem_filter.2 ⟨List.mem_range.2 (Array.getElem?_eq_some_iff.1 hj2).1, by rw [hj1]; rfl⟩
      rw [h0] at this; cases this
    have hsorted := rest_sorted (ops := ops) listed
    have hwho : ∀ t, t < ops.size → (who listed t = false ↔ t ∈ rest ops listed) := by
      intro t ht
      unfold who rest
      have h5 : t < listed.size := by omega
      simp [h5, ht]
    cases fuel with
    | zero =>
      have h0 : rest ops listed = [] := List.length_eq_zero_iff.1 (by omega)
      exact ⟨hready0 h0, hempty h0⟩
    | succ fuel =>
      refine ⟨fun hr => ?_, fun i hi => ?_⟩
      · cases hrest : rest ops listed with
        | nil => exact hempty hrest
        | cons i l =>
          exfalso
          have hmem : i ∈ rest ops listed := by rw [hrest]; simp
          rw [hrest] at hc
          obtain ⟨o, ho, _, _⟩ := hc
          have hil : i < ops.size := (Array.getElem?_eq_some_iff.1 ho).1
          rw [hrest] at hsorted
          have hall : ∀ e ∈ o.after, Region.binds md e = true → listed.getD e.on false = true := fun e he hb => by
            have h1 := (steady_both hs ho).1 e he hb
            have h2 : ¬ e.on ∈ rest ops listed := by
              rw [hrest]
              intro hm
              rcases List.mem_cons.1 hm with h | h
              · omega
              · have := (List.pairwise_cons.1 hsorted).1 _ h; omega
            cases h3 : who listed e.on with
            | true => exact h3
            | false => exact absurd ((hwho e.on (by omega)).1 h3) h2
          have : i ∈ Region.ready md ops listed := mem_ready.2 ⟨by simpa using (List.mem_filter.1 hmem).2, o, ho, hall⟩
          rw [hr] at this; cases this
      · obtain ⟨hi1, oi, hoi, hall⟩ := mem_ready.1 hi
        have hil : i < ops.size := (Array.getElem?_eq_some_iff.1 hoi).1
        have hmem : i ∈ rest ops listed := List.mem_filter.2 ⟨List.mem_range.2 hil, by rw [hi1]; rfl⟩
        have hrd : Ready md ops (who listed) i := by
          refine ⟨?_, fun o ho e he hb => ?_⟩
          · have h5 : i < listed.size := by omega
            unfold who
            simpa [h5] using hi1
          · obtain rfl : oi = o := Option.some.inj (hoi.symm.trans ho)
            exact hall e he hb
        obtain ⟨l1, l2, hsplit⟩ := List.append_of_mem hmem
        rw [hsplit] at hsorted
        have hlt : ∀ x ∈ l1, x < i := fun x hx => (List.pairwise_append.1 hsorted).2.2 x hx i (by simp)
        have hgt : ∀ x ∈ l2, i < x := fun x hx => (List.pairwise_cons.1 (List.pairwise_append.1 hsorted).2.1).1 x hx
        have hrs := rest_set hl hsplit hlt hgt
        have hap : ∀ x ∈ l1, x < i ∧ (∀ f, before md ops f i x = false) ∧ ∀ ox, ops[x]? = some ox → ox.apart ops oi = true := by
          intro x hx
          have hxr : x ∈ rest ops listed := by rw [hsplit]; simp [hx]
          have hxs : x < ops.size := by have := hlt x hx; omega
          have hxw : who listed x = false := (hwho x hxs).2 hxr
          refine ⟨hlt x hx, fun f => ?_, fun ox hox => ?_⟩
          · cases hb : before md ops f i x with
            | false => rfl
            | true =>
              have := before_ready hcl hrd f x hb
              rw [hxw] at this; cases this
          · rcases (steady_both hs hoi).2 x ox (hlt x hx) hox with ⟨e, he, hb, heq⟩ | h
            · have h1 : who listed e.on = true := hall e he hb
              rw [heq, hxw] at h1; cases h1
            · exact h
        rw [hsplit] at hc
        have hdoes := ChainR.does hs (Region.noSelect_spec hsel) hoi l1 l2 u a (who listed) w (fun x hx => (hap x hx).2) (fun t ht => by rw [← hsplit]; exact hwho t ht) hsorted hS hcl hc
        have next : ∀ (x : Value) (w' : World), Yields P md ops S C i oi u a x → S (mark (who listed) i) (upd u i x) w' → wpAny P md ops Q fuel (listed.setIfInBounds i true) (a.put oi.dst x) w' := by
          intro x w' hy hS'
          refine wpAny_mixed hs hsel fuel _ (upd u i x) _ w' (by simpa using hl) ?_ (by rw [hrs]; exact ChainR.pull hs (Region.noSelect_spec hsel) hoi l1 l2 u a x hap hc hy) (by rw [who_set (by omega)]; exact hS') ?_
          · rw [hrs]
            rw [hsplit] at hf
            simp at hf ⊢; omega
          · rw [who_set (by omega)]
            intro j o ho hj e he hb
            unfold mark at hj ⊢
            simp only [Bool.or_eq_true, beq_iff_eq] at hj ⊢
            rcases hj with rfl | hj
            · exact .inr (hrd.2 o ho e he hb)
            · exact .inr (hcl j o ho hj e he hb)
        unfold Go.wpOp
        simp only [hoi]
        rcases hdoes with ⟨hw, hd⟩ | ⟨hw, hd⟩
        · rcases hd (who listed) u w hS hcl hrd (fun _ _ _ => rfl) with ⟨x, w', hrun | ⟨rfl, hrun⟩, hS'⟩ | ⟨f, args, hrun, hcall⟩
          · simp only [hw, if_true, Oper.wp, hrun, Oper.upon]
            exact .inl (next x w' (.inr ⟨hw, _, u, w, hS, hcl, hrd, fun _ _ _ => rfl, .inl ⟨w', .inl hrun, hS'⟩⟩) hS')
          · simp only [hw, if_true, Oper.wp, hrun, Oper.upon]
            exact .inl (next undef w' (.inr ⟨hw, _, u, w, hS, hcl, hrd, fun _ _ _ => rfl, .inl ⟨w', .inr ⟨rfl, hrun⟩, hS'⟩⟩) hS')
          · simp only [hw, if_true, Oper.wp, hrun]
            refine .inl ?_
            rw [Oper.upon_enter]
            refine hcall.mono ?_
            rintro e w' ⟨x, rfl, hC, hS'⟩
            exact next x w' (.inr ⟨hw, _, u, w, hS, hcl, hrd, fun _ _ _ => rfl, .inr ⟨hC, f, args, hrun⟩⟩) hS'
        · simp only [hw, Bool.false_eq_true, if_false]
          exact next undef w (.inl ⟨hw, rfl⟩) (hd _ u w hS)
def WalkR (P : Program) (md : Region.Mode) (ops : Array Oper) (S : (Nat → Bool) → (Nat → Value) → World → Prop) (C : Nat → Value → Prop) (R : (Nat → Value) → Act → Prop) : Nat → List Oper → (Nat → Value) → Act → Prop
  | _, [], u, a => R u a
  | k, o :: l, u, a => Does P md ops S C k o u a ∧ ∀ x, Yields P md ops S C k o u a x → WalkR P md ops S C R (k + 1) l (upd u k x) (a.put o.dst x)
theorem chainR_of_walk : ∀ (l : List Oper) (k : Nat) (u : Nat → Value) (a : Act), (∀ j, j < l.length → ops[k + j]? = l[j]?) → WalkR P md ops S C R k l u a → ChainR P md ops S C R (List.range' k l.length) u a
  | [], _, _, _, _, h => h
  | o :: l, k, u, a, hk, h => by
    obtain ⟨hg, hr⟩ := h
    refine ⟨o, by simpa using hk 0 (by simp), hg, fun x hx => chainR_of_walk l (k + 1) _ _ (fun j hj => ?_) (hr x hx)⟩
    have := hk (j + 1) (by simpa using hj)
    rw [show k + 1 + j = k + (j + 1) by omega, this]; rfl
theorem mix_free {k : Nat} {l : List Oper} {o : Oper} {u : Nat → Value} {a : Act} (V : Value → Prop) (hw : Region.wanted o (yielded ops a.tmps) = true)
    (hv : ∀ L u' w, S L u' w → Closed md ops L → Ready md ops L k → Agree md ops k u' u → ∃ x w', V x ∧ (execOp a.eval o).run P w = .ok (.value x) w' ∧ S (mark L k) (upd u' k x) w')
    (h : ∀ x, V x → WalkR P md ops S C R (k + 1) l (upd u k x) (a.put o.dst x)) : WalkR P md ops S C R k (o :: l) u a := by
  refine ⟨.inl ⟨hw, fun L u' w hS hc hr ha => ?_⟩, fun x hx => ?_⟩
  · obtain ⟨x, w', _, h1, h2⟩ := hv L u' w hS hc hr ha
    exact .inl ⟨x, w', .inl h1, h2⟩
  · rcases hx with ⟨hx, _⟩ | ⟨_, L, u', w, hS, hc, hr, ha, hx⟩
    · rw [hw] at hx; cases hx
    · obtain ⟨y, w', hV, h1, _⟩ := hv L u' w hS hc hr ha
      rcases hx with ⟨w2, hx | ⟨_, hx⟩, _⟩ | ⟨_, f, args, hx⟩
      · rw [h1] at hx
        cases hx
        exact h _ hV
      · rw [h1] at hx; cases hx
      · rw [h1] at hx; cases hx
theorem mix_skip {k : Nat} {l : List Oper} {o : Oper} {u : Nat → Value} {a : Act} (hw : Region.wanted o (yielded ops a.tmps) = true)
    (hv : ∀ L u' w, S L u' w → Closed md ops L → Ready md ops L k → Agree md ops k u' u → ∃ w', (execOp a.eval o).run P w = .ok .skip w' ∧ S (mark L k) (upd u' k undef) w')
    (h : WalkR P md ops S C R (k + 1) l (upd u k undef) (a.put o.dst undef)) : WalkR P md ops S C R k (o :: l) u a := by
  refine ⟨.inl ⟨hw, fun L u' w hS hc hr ha => ?_⟩, fun x hx => ?_⟩
  · obtain ⟨w', h1, h2⟩ := hv L u' w hS hc hr ha
    exact .inl ⟨undef, w', .inr ⟨rfl, h1⟩, h2⟩
  · rcases hx with ⟨hx, _⟩ | ⟨_, L, u', w, hS, hc, hr, ha, hx⟩
    · rw [hw] at hx; cases hx
    · obtain ⟨w', h1, _⟩ := hv L u' w hS hc hr ha
      rcases hx with ⟨w2, hx | ⟨rfl, hx⟩, _⟩ | ⟨_, f, args, hx⟩
      · rw [h1] at hx; cases hx
      · exact h
      · rw [h1] at hx; cases hx
theorem mix_give {k : Nat} {l : List Oper} {o : Oper} {u : Nat → Value} {a : Act} {v : Value} (hw : Region.wanted o (yielded ops a.tmps) = true)
    (hv : ∀ L u' w, S L u' w → Closed md ops L → Ready md ops L k → Agree md ops k u' u → (execOp a.eval o).run P w = .ok (.value v) w) (hs : ∀ L u' w, S L u' w → S (mark L k) (upd u' k v) w)
    (h : WalkR P md ops S C R (k + 1) l (upd u k v) (a.put o.dst v)) : WalkR P md ops S C R k (o :: l) u a :=
  mix_free (fun x => x = v) hw (fun L u' w hS hc hr ha => ⟨v, w, rfl, hv L u' w hS hc hr ha, hs L u' w hS⟩) fun x hx => by rw [hx]; exact h
theorem mix_into {k : Nat} {l : List Oper} {o : Oper} {u : Nat → Value} {a : Act} {v : Value} {f : FuncId} {args : Array Value} (hw : Region.wanted o (yielded ops a.tmps) = true) (hC : C k = fun x => x = v)
    (hv : ∀ w, (execOp a.eval o).run P w = .ok (.enter f args) w)
    (hc : ∀ L u' w, S L u' w → Closed md ops L → Ready md ops L k → Agree md ops k u' u → Calls P f args w fun e w' => e = .returned v ∧ S (mark L k) (upd u' k v) w')
    (h : WalkR P md ops S C R (k + 1) l (upd u k v) (a.put o.dst v)) : WalkR P md ops S C R k (o :: l) u a := by
  refine ⟨.inl ⟨hw, fun L u' w hS hcl hr ha => .inr ⟨f, args, hv w, (hc L u' w hS hcl hr ha).mono ?_⟩⟩, fun x hx => ?_⟩
  · rintro e w' ⟨rfl, hS'⟩
    exact ⟨v, rfl, by rw [hC], hS'⟩
  · rcases hx with ⟨hx, _⟩ | ⟨_, L, u', w, hS, hcl, hr, ha, hx⟩
    · rw [hw] at hx; cases hx
    · rcases hx with ⟨w2, hx | ⟨_, hx⟩, _⟩ | ⟨hx, _⟩
      · rw [hv] at hx; cases hx
      · rw [hv] at hx; cases hx
      · rw [hC] at hx
        rw [show x = v from hx]; exact h
theorem mix_call {k : Nat} {l : List Oper} {o : Oper} {u : Nat → Value} {a : Act} {f : FuncId} {args : Array Value} (hw : Region.wanted o (yielded ops a.tmps) = true)
    (hv : ∀ w, (execOp a.eval o).run P w = .ok (.enter f args) w)
    (hc : ∀ L u' w, S L u' w → Closed md ops L → Ready md ops L k → Agree md ops k u' u → Calls P f args w fun e w' => ∃ x, e = .returned x ∧ C k x ∧ S (mark L k) (upd u' k x) w')
    (h : ∀ x, C k x → WalkR P md ops S C R (k + 1) l (upd u k x) (a.put o.dst x)) : WalkR P md ops S C R k (o :: l) u a := by
  refine ⟨.inl ⟨hw, fun L u' w hS hcl hr ha => .inr ⟨f, args, hv w, hc L u' w hS hcl hr ha⟩⟩, fun x hx => ?_⟩
  rcases hx with ⟨hx, _⟩ | ⟨_, L, u', w, hS, hcl, hr, ha, hx⟩
  · rw [hw] at hx; cases hx
  · rcases hx with ⟨w2, hx | ⟨_, hx⟩, _⟩ | ⟨hx, _⟩
    · rw [hv] at hx; cases hx
    · rw [hv] at hx; cases hx
    · exact h x hx
theorem mix_last {k : Nat} {u : Nat → Value} {a : Act} (h : R u a) : WalkR P md ops S C R k [] u a := h
theorem wp_region_mixed {l : List Oper} {id : Nat} {a : Act} {w : World} (S : (Nat → Bool) → (Nat → Value) → World → Prop) (C : Nat → Value → Prop) (hm : P.follows .mixedOrders = true) (hs : steadyB .any l.toArray = true) (hsel : Region.noSelect l.toArray = true)
    (hS : S (fun _ => false) (fun _ => undef) w.drew) (h : WalkR P .any l.toArray S C (fun u a => ∀ L w, S L u w → (∀ j, j < l.length → L j = true) → Q .normal a w) 0 l (fun _ => undef) a) : (Code.region id l.toArray true).wp P Q a w := by
  have hr : rest l.toArray (Array.replicate l.toArray.size false) = List.range' 0 l.length := by
    unfold rest
    rw [List.filter_eq_self.2]
    · simp [List.range_eq_range']
    · intro x hx
      have : x < l.length := by simpa using hx
      simp [this]
  have hw0 : who (Array.replicate l.toArray.size false) = fun _ => false := by
    funext j
    unfold who
    rw [show (Array.replicate l.toArray.size false).getD j false = (Array.replicate l.toArray.size false)[j]?.getD false by simp, Array.getElem?_replicate]
    split <;> rfl
  refine wp_region_any hm (wpAny_mixed (S := S) (C := C) hs hsel l.toArray.size _ (fun _ => undef) a _ (by simp) ?_ ?_ (by rw [hw0]; exact hS) (by rw [hw0]; intro i o _ h; cases h))
  · rw [hr]; simp
  · rw [hr]
    have := chainR_of_walk (P := P) (md := .any) (ops := l.toArray) (S := S) (C := C) l 0 (fun _ => undef) a (fun j _ => by simp) h
    simpa using this
end
end Go.Proofs.YtkpakiiijphjeaaGreatDoor.St

namespace Go.Proofs.YtkpakiiijphjeaaGreatDoor.St
open Go
section
variable {P : Program} {md : Region.Mode} {ops : Array Oper} {Q : Exit → Act → World → Prop} {S : (Nat → Bool) → World → Prop}
def forcedB (md : Region.Mode) (ops : Array Oper) (k : Nat) : Bool :=
  (List.range ops.size).all fun j => decide (j < k) || (List.range j).all fun i => before md ops 40 j i
theorem forced_spec {k : Nat} (h : forcedB md ops k = true) {j i : Nat} (hj : j < ops.size) (hk : k ≤ j) (hi : i < j) : before md ops 40 j i = true := by
  have h1 := List.all_eq_true.1 h j (List.mem_range.2 hj)
  simp only [Bool.or_eq_true, decide_eq_true_eq] at h1
  rcases h1 with h1 | h1
  · omega
  · exact List.all_eq_true.1 h1 i (List.mem_range.2 hi)
theorem who_false {listed : Array Bool} {i : Nat} (h : i ∈ rest ops listed) : who listed i = false := by
  have h3 := (List.mem_filter.1 h).2
  unfold who
  rcases Nat.lt_or_ge i listed.size with h' | h'
  · simp [h'] at h3 ⊢; exact h3
  · simp [Array.getElem?_eq_none h']
theorem ready_rest {listed : Array Bool} {i : Nat} (h : i ∈ Region.ready md ops listed) : i ∈ rest ops listed := by
  obtain ⟨hi1, oi, hoi, _⟩ := mem_ready.1 h
  exact List.mem_filter.2 ⟨List.mem_range.2 (Array.getElem?_eq_some_iff.1 hoi).1, by rw [hi1]; rfl⟩
theorem ready_Ready {listed : Array Bool} (hl : listed.size = ops.size) {i : Nat} (h : i ∈ Region.ready md ops listed) : Ready md ops (who listed) i := by
  obtain ⟨hi1, oi, hoi, hall⟩ := mem_ready.1 h
  have hil : i < ops.size := (Array.getElem?_eq_some_iff.1 hoi).1
  refine ⟨?_, fun o ho e he hb => ?_⟩
  · have h5 : i < listed.size := by omega
    unfold who
    simpa [h5] using hi1
  · obtain rfl : oi = o := Option.some.inj (hoi.symm.trans ho)
    exact hall e he hb
theorem closed_set {listed : Array Bool} (hl : listed.size = ops.size) (hcl : Closed md ops (who listed)) {i : Nat} (hi : i < ops.size) (hrd : Ready md ops (who listed) i) : Closed md ops (who (listed.setIfInBounds i true)) := by
  rw [who_set (by omega)]
  intro j o ho hj e he hb
  unfold mark at hj ⊢
  simp only [Bool.or_eq_true, beq_iff_eq] at hj ⊢
  rcases hj with rfl | hj
  · exact .inr (hrd.2 o ho e he hb)
  · exact .inr (hcl j o ho hj e he hb)
theorem head_ready (hs : steadyB md ops = true) {listed : Array Bool} (hl : listed.size = ops.size) {i : Nat} {l : List Nat} (hrest : rest ops listed = i :: l) : i ∈ Region.ready md ops listed := by
  have hmem : i ∈ rest ops listed := by rw [hrest]; simp
  have hil : i < ops.size := List.mem_range.1 (List.mem_filter.1 hmem).1
  obtain ⟨o, ho⟩ : ∃ o, ops[i]? = some o := ⟨ops[i], by simp [hil]⟩
  have hsorted := rest_sorted (ops := ops) listed
  rw [hrest] at hsorted
  refine mem_ready.2 ⟨by simpa using (List.mem_filter.1 hmem).2, o, ho, fun e he hb => ?_⟩
  have h1 := (steady_both hs ho).1 e he hb
  have h2 : ¬ e.on ∈ rest ops listed := by
    rw [hrest]
    intro hm
    rcases List.mem_cons.1 hm with h | h
    · omega
    · have := (List.pairwise_cons.1 hsorted).1 _ h; omega
  have h3 : listed.getD e.on true = true := by
    cases h4 : listed.getD e.on true
    · exact absurd (List.mem_filter.2 ⟨List.mem_range.2 (by omega), by rw [h4]; rfl⟩) h2
    · rfl
  have h5 : e.on < listed.size := by omega
  simpa [h5] using h3
theorem wpAny_forced (hs : steadyB md ops = true) {k0 : Nat} (hf : forcedB md ops k0 = true) : ∀ (m k fuel : Nat) (listed : Array Bool) (a : Act) (w : World), k0 ≤ k → listed.size = ops.size → rest ops listed = List.range' k m → m ≤ fuel →
    Closed md ops (who listed) → wpOps P ops Q (List.range' k m) a w → wpAny P md ops Q fuel listed a w
  | 0, k, fuel, listed, a, w, _, hl, hr, _, _, h => by
    have hready : Region.ready md ops listed = [] := List.eq_nil_iff_forall_not_mem.2 fun j hj => by
      have := ready_rest hj
      rw [hr] at this; simp at this
    cases fuel with
    | zero => exact ⟨hready, h⟩
    | succ f => exact ⟨fun _ => h, fun i hi => by rw [hready] at hi; cases hi⟩
  | m + 1, k, fuel, listed, a, w, hk, hl, hr, hfu, hcl, h => by
    obtain ⟨f, rfl⟩ : ∃ f, fuel = f + 1 := ⟨fuel - 1, by omega⟩
    rw [List.range'_succ] at hr h
    have hk0 := head_ready hs hl hr
    refine ⟨fun h0 => (by rw [h0] at hk0; cases hk0), fun i hi => ?_⟩
    have him := ready_rest hi
    have hil : i < ops.size := List.mem_range.1 (List.mem_filter.1 him).1
    have hkm : k ∈ rest ops listed := by rw [hr]; simp
    have hik : i = k := by
      rw [hr] at him
      rcases List.mem_cons.1 him with e | e
      · exact e
      · exfalso
        have hlt : k < i := by have := (List.mem_range'_1.1 e).1; omega
        have := before_ready hcl (ready_Ready hl hi) 40 k (forced_spec hf hil (by omega) hlt)
        rw [who_false hkm] at this; cases this
    subst hik
    rw [wpOps_cons] at h
    refine wpOp_mono (fun a' w' h' => ?_) h
    refine wpAny_forced hs hf m (i + 1) f _ a' w' (by omega) (by simpa using hl) ?_ (by omega) (closed_set hl hcl hil (ready_Ready hl hi)) h'
    have := rest_set (ops := ops) hl (i := i) (l1 := []) (l2 := List.range' (i + 1) m) (by rw [hr]; rfl) (by simp) (fun x hx => by have := (List.mem_range'_1.1 hx).1; omega)
    simpa using this
theorem wpAny_tail (hs : steadyB md ops = true) (hsel : Region.noSelect ops = true) {k m : Nat} (hkm : k + m = ops.size) (hf : forcedB md ops k = true) : ∀ (fuel : Nat) (listed : Array Bool) (l : List Nat) (a : Act) (w : World), listed.size = ops.size →
    rest ops listed = l ++ List.range' k m → (∀ x ∈ l, x < k) → l.length + m ≤ fuel →
    Chain P md ops S (fun a => ∀ L w, S L w → (∀ j, j < k → L j = true) → wpOps P ops Q (List.range' k m) a w) l a → S (who listed) w → Closed md ops (who listed) → wpAny P md ops Q fuel listed a w
  | fuel, listed, [], a, w, hl, hr, _, hfu, hc, hS, hcl => by
    refine wpAny_forced hs hf m k fuel listed a w (Nat.le_refl _) hl (by simpa using hr) (by simpa using hfu) hcl (hc _ w hS fun j hj => ?_)
    have h2 : ¬ j ∈ rest ops listed := by
      rw [hr]
      intro h
      have := (List.mem_range'_1.1 (by simpa using h)).1
      omega
    have h3 : listed.getD j true = true := by
      cases h4 : listed.getD j true
      · exact absurd (List.mem_filter.2 ⟨List.mem_range.2 (by omega), by rw [h4]; rfl⟩) h2
      · rfl
    unfold who
    have h5 : j < listed.size := by omega
    simpa [h5] using h3
  | 0, listed, i0 :: l, a, w, hl, hr, hlk, hfu, hc, hS, hcl => by simp at hfu
  | fuel + 1, listed, i0 :: l, a, w, hl, hr, hlk, hfu, hc, hS, hcl => by
    have hk0 := head_ready hs hl (l := l ++ List.range' k m) (by rw [hr]; rfl)
    refine ⟨fun h0 => (by rw [h0] at hk0; cases hk0), fun i hi => ?_⟩
    have hrd := ready_Ready hl hi
    have him := ready_rest hi
    have hil : i < ops.size := List.mem_range.1 (List.mem_filter.1 him).1
    have hi0 : i0 ∈ rest ops listed := by rw [hr]; simp
    have himl : i ∈ i0 :: l := by
      rw [hr] at him
      rcases List.mem_append.1 him with h | h
      · exact h
      · exfalso
        have h1 := (List.mem_range'_1.1 h).1
        have h2 := hlk i0 (by simp)
        have := before_ready hcl hrd 40 i0 (forced_spec hf hil h1 (by omega))
        rw [who_false hi0] at this; cases this
    obtain ⟨hi1, oi, hoi, hall⟩ := mem_ready.1 hi
    obtain ⟨l1, l2, hsplit⟩ := List.append_of_mem himl
    have hr' : rest ops listed = l1 ++ i :: (l2 ++ List.range' k m) := by rw [hr, hsplit]; simp
    have hsorted := rest_sorted (ops := ops) listed
    rw [hr'] at hsorted
    have hlt : ∀ x ∈ l1, x < i := fun x hx => (List.pairwise_append.1 hsorted).2.2 x hx i (by simp)
    have hgt : ∀ x ∈ l2 ++ List.range' k m, i < x := fun x hx => (List.pairwise_cons.1 (List.pairwise_append.1 hsorted).2.1).1 x hx
    have hrs := rest_set hl hr' hlt hgt
    rw [hsplit] at hc
    obtain ⟨v, hg, hc'⟩ := Chain.pull (Region.noSelect_spec hsel) hoi l1 l2 a (fun x hx ox hox => by
      rcases (steady_both hs hoi).2 x ox (hlt x hx) hox with ⟨e, he, hb, heq⟩ | h
      · exfalso
        have h1 := hall e he hb
        rw [heq] at h1
        have h2 : x ∈ rest ops listed := by rw [hr']; simp [hx]
        have h3 := (List.mem_filter.1 h2).2
        rcases Nat.lt_or_ge x listed.size with h' | h'
        · simp [h'] at h1 h3; rw [h1] at h3; cases h3
        · simp [Array.getElem?_eq_none h'] at h1
      · exact h) hc
    have hlen : (l1 ++ l2).length + 1 = (i0 :: l).length := by rw [hsplit]; simp; omega
    refine hg.wpOp hoi hS hcl hrd fun w' hS' => wpAny_tail hs hsel hkm hf fuel _ (l1 ++ l2) _ w' (by simpa using hl) (by rw [hrs]; simp) (fun x hx => hlk x (by rw [hsplit]; simp at hx ⊢; rcases hx with h | h; exact .inl h; exact .inr (.inr h))) (by simp only [List.length_append, List.length_cons] at hlen hfu ⊢; omega) hc' (by rw [who_set (by omega)]; exact hS') (closed_set hl hcl hil hrd)
theorem wp_region_tail {l : List Oper} {id : Nat} {a : Act} {w : World} (k : Nat) (S : (Nat → Bool) → World → Prop) (hm : P.follows .mixedOrders = true) (hs : steadyB .any l.toArray = true) (hsel : Region.noSelect l.toArray = true) (hf : forcedB .any l.toArray k = true) (hk : k ≤ l.length)
    (hS : S (fun _ => false) w.drew) (h : Walk P .any l.toArray S (fun a => ∀ L w, S L w → (∀ j, j < k → L j = true) → wpList P l.toArray Q (l.drop k) a w) 0 (l.take k) a) : (Code.region id l.toArray true).wp P Q a w := by
  have hr : rest l.toArray (Array.replicate l.toArray.size false) = List.range' 0 k ++ List.range' k (l.length - k) := by
    unfold rest
    rw [List.filter_eq_self.2]
    · rw [List.range_eq_range']
      have := List.range'_append_1 (s := 0) (m := k) (n := l.length - k)
      rw [Nat.zero_add] at this
      rw [this, Nat.add_sub_cancel' hk]
      simp
    · intro x hx
      have : x < l.length := by simpa using hx
      simp [this]
  have hw0 : who (Array.replicate l.toArray.size false) = fun _ => false := by
    funext j
    unfold who
    rw [show (Array.replicate l.toArray.size false).getD j false = (Array.replicate l.toArray.size false)[j]?.getD false by simp, Array.getElem?_replicate]
    split <;> rfl
  have hW : ∀ a w, wpList P l.toArray Q (l.drop k) a w → wpOps P l.toArray Q (List.range' k (l.length - k)) a w := by
    intro a w h
    have := wpOps_eq_wpList (P := P) (ops := l.toArray) (Q := Q) (l.drop k) k (fun j => by simp)
    rw [List.length_drop] at this
    rw [this]; exact h
  refine wp_region_any hm (wpAny_tail (S := S) hs hsel (k := k) (m := l.length - k) (by simp; omega) hf l.toArray.size _ (List.range' 0 k) a _ (by simp) hr (fun x hx => by have := List.mem_range'_1.1 hx; omega) (by simp; omega) ?_ (by rw [hw0]; exact hS) (by rw [hw0]; intro i o _ h; cases h))
  have hlen : (l.take k).length = k := by rw [List.length_take]; omega
  have := chain_of_walk (P := P) (md := .any) (ops := l.toArray) (S := S) (l.take k) 0 a (fun j hj => by rw [hlen] at hj; simp [hj]) h
  rw [hlen] at this
  have mono : ∀ (R R' : Act → Prop), (∀ a, R a → R' a) → ∀ (l' : List Nat) (a : Act), Chain P .any l.toArray S R l' a → Chain P .any l.toArray S R' l' a := by
    intro R R' hR l'
    induction l' with
    | nil => exact fun a h => hR a h
    | cons x l' ih => exact fun a ⟨o, v, h1, h2, h3⟩ => ⟨o, v, h1, h2, ih _ h3⟩
  exact mono _ _ (fun a h L w hS hL => hW a w (h L w hS hL)) _ _ this
end
end Go.Proofs.YtkpakiiijphjeaaGreatDoor.St
