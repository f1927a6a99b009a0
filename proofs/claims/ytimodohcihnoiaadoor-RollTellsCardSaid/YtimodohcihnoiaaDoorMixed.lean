/-
  A region whose order of evaluation is drawn, whose operations make memory in more chains than one: the values that they yield may hang on the order. What holds is said by which operations have been carried out, what each has yielded, and the world (S). Walked in the text's order, one way, over whatever was yielded. No condition of a program.
-/
import Derived.Test.YtimodohcihnoiaaDoorStage
namespace Go.Proofs.YtimodohcihnoiaaDoor.St
open Go

section
variable {P : Program} {md : Region.Mode} {ops : Array Oper} {Q : Exit → Act → World → Prop} {S : (Nat → Bool) → (Nat → Value) → World → Prop} {C : Nat → Value → Prop}

/-- operation i has yielded x -/
def upd (u : Nat → Value) (i : Nat) (x : Value) : Nat → Value := fun j => if j = i then x else u j
theorem upd_other {u : Nat → Value} {i j : Nat} (x : Value) (h : j ≠ i) : upd u i x j = u j := if_neg h
theorem upd_comm (u : Nat → Value) {i j : Nat} (x y : Value) (h : i ≠ j) : upd (upd u i x) j y = upd (upd u j y) i x := by
  funext t
  unfold upd
  by_cases h1 : t = j
  · by_cases h2 : t = i
    · exact absurd (h2.symm.trans h1) h
    · rw [if_pos h1, if_neg h2, if_pos h1]
  · rw [if_neg h1]
    by_cases h2 : t = i
    · rw [if_pos h2, if_pos h2]
    · rw [if_neg h2, if_neg h2, if_neg h1]

theorem before_lt (hs : steadyB md ops = true) : ∀ (f i t : Nat), before md ops f i t = true → t < i
  | 0, _, _, h => by cases h
  | f + 1, i, t, h => by
    unfold before at h
    cases ho : ops[i]? with
    | none => rw [ho] at h; cases h
    | some o =>
      rw [ho] at h
      obtain ⟨e, he, hb⟩ := List.any_eq_true.1 h
      simp only [Bool.and_eq_true, Bool.or_eq_true, beq_iff_eq] at hb
      have h1 := (steady_both hs ho).1 e (by simpa using he) hb.1
      rcases hb.2 with rfl | h'
      · exact h1
      · exact Nat.lt_trans (before_lt hs f _ t h') h1

/-- what i waits for has yielded the same -/
def Agree (md : Region.Mode) (ops : Array Oper) (i : Nat) (u u0 : Nat → Value) : Prop := ∀ f t, before md ops f i t = true → u t = u0 t

/-- what operation i may yield, in state a, over u0 -/
def Yields (P : Program) (md : Region.Mode) (ops : Array Oper) (S : (Nat → Bool) → (Nat → Value) → World → Prop) (C : Nat → Value → Prop) (i : Nat) (o : Oper) (u0 : Nat → Value) (a : Act) (x : Value) : Prop :=
  (Region.wanted o (yielded ops a.tmps) = false ∧ x = undef) ∨
  (Region.wanted o (yielded ops a.tmps) = true ∧ ∃ L u w, S L u w ∧ Closed md ops L ∧ Ready md ops L i ∧ Agree md ops i u u0 ∧
    ((∃ w', ((execOp a.eval o).run P w = .ok (.value x) w' ∨ x = undef ∧ (execOp a.eval o).run P w = .ok .skip w') ∧ S (mark L i) (upd u i x) w') ∨ (C i x ∧ ∃ f args, (execOp a.eval o).run P w = .ok (.enter f args) w)))

/-- wherever it may come up, it does its work -/
def Does (P : Program) (md : Region.Mode) (ops : Array Oper) (S : (Nat → Bool) → (Nat → Value) → World → Prop) (C : Nat → Value → Prop) (i : Nat) (o : Oper) (u0 : Nat → Value) (a : Act) : Prop :=
  (Region.wanted o (yielded ops a.tmps) = true ∧ ∀ L u w, S L u w → Closed md ops L → Ready md ops L i → Agree md ops i u u0 →
    (∃ x w', ((execOp a.eval o).run P w = .ok (.value x) w' ∨ x = undef ∧ (execOp a.eval o).run P w = .ok .skip w') ∧ S (mark L i) (upd u i x) w') ∨
    ∃ f args, (execOp a.eval o).run P w = .ok (.enter f args) w ∧ Calls P f args w fun e w' => ∃ x, e = .returned x ∧ C i x ∧ S (mark L i) (upd u i x) w') ∨
  (Region.wanted o (yielded ops a.tmps) = false ∧ ∀ L u w, S L u w → S (mark L i) (upd u i undef) w)

theorem Agree.turn {i : Nat} {u u0 u1 : Nat → Value} (h : Agree md ops i u u0) (hu : ∀ f t, before md ops f i t = true → u0 t = u1 t) : Agree md ops i u u1 := fun f t hb => (h f t hb).trans (hu f t hb)
theorem Yields.of_same {i : Nat} {o : Oper} {u0 u1 : Nat → Value} {a a' : Act} {x : Value} (hy : Yields P md ops S C i o u0 a x) (he : execOp a'.eval o = execOp a.eval o)
    (hw : Region.wanted o (yielded ops a'.tmps) = Region.wanted o (yielded ops a.tmps)) (hu : ∀ f t, before md ops f i t = true → u0 t = u1 t) : Yields P md ops S C i o u1 a' x := by
  unfold Yields at *
  rw [he, hw]
  rcases hy with hy | ⟨h1, L, u, w, h2, h3, h4, h5, h6⟩
  · exact .inl hy
  · exact .inr ⟨h1, L, u, w, h2, h3, h4, h5.turn hu, h6⟩
theorem Does.of_same {i : Nat} {o : Oper} {u0 u1 : Nat → Value} {a a' : Act} (hy : Does P md ops S C i o u0 a) (he : execOp a'.eval o = execOp a.eval o)
    (hw : Region.wanted o (yielded ops a'.tmps) = Region.wanted o (yielded ops a.tmps)) (hu : ∀ f t, before md ops f i t = true → u0 t = u1 t) : Does P md ops S C i o u1 a' := by
  unfold Does at *
  rw [he, hw]
  rcases hy with ⟨h1, h2⟩ | hy
  · exact .inl ⟨h1, fun L u w hS hc hr ha => h2 L u w hS hc hr (ha.turn fun f t hb => (hu f t hb).symm)⟩
  · exact .inr hy

/-- What is left, in the order of the text, whatever is yielded, and what holds behind it. -/
def ChainR (P : Program) (md : Region.Mode) (ops : Array Oper) (S : (Nat → Bool) → (Nat → Value) → World → Prop) (C : Nat → Value → Prop) (R : (Nat → Value) → Act → Prop) : List Nat → (Nat → Value) → Act → Prop
  | [], u, a => R u a
  | i :: l, u, a => ∃ o, ops[i]? = some o ∧ Does P md ops S C i o u a ∧ ∀ x, Yields P md ops S C i o u a x → ChainR P md ops S C R l (upd u i x) (a.put o.dst x)

variable {R : (Nat → Value) → Act → Prop}

/-- One that is apart from all ahead of it may come first: it does its work then .. -/
theorem ChainR.does (hs : steadyB md ops = true) (hsel : ∀ (j : Nat) (o : Oper) cs b, ops[j]? = some o → o.op ≠ .select cs b) {i : Nat} {oi : Oper} (hi : ops[i]? = some oi) :
    ∀ (l1 l2 : List Nat) (u : Nat → Value) (a : Act) (L : Nat → Bool) (w : World), (∀ x ∈ l1, (∀ f, before md ops f i x = false) ∧ ∀ ox, ops[x]? = some ox → ox.apart ops oi = true) →
      (∀ t, t < ops.size → (L t = false ↔ t ∈ l1 ++ i :: l2)) → (l1 ++ i :: l2).Pairwise (· < ·) → S L u w → Closed md ops L → ChainR P md ops S C R (l1 ++ i :: l2) u a → Does P md ops S C i oi u a
  | [], l2, u, a, L, w, _, _, _, _, _, h => by
    obtain ⟨o, ho, hd, _⟩ := h
    obtain rfl : o = oi := Option.some.inj (ho.symm.trans hi)
    exact hd
  | x :: l1, l2, u, a, L, w, hap, hL, hso, hS, hcl, h => by
    obtain ⟨ox, hx, hdx, hc⟩ := h
    have hxl : x < ops.size := (Array.getElem?_eq_some_iff.1 hx).1
    have hLx : L x = false := (hL x hxl).2 (by simp)
    have hso' := List.pairwise_cons.1 hso
    have hrd : Ready md ops L x := by
      refine ⟨hLx, fun o ho e he hb => ?_⟩
      have h1 := (steady_both hs ho).1 e he hb
      cases hLe : L e.on with
      | true => rfl
      | false =>
        have := (hL e.on (by omega)).1 hLe
        simp only [List.cons_append, List.mem_cons] at this
        rcases this with h2 | h2
        · omega
        · have := hso'.1 _ h2; omega
    have hclx : Closed md ops (mark L x) := by
      intro j o ho hj e he hb
      unfold mark at hj ⊢
      simp only [Bool.or_eq_true, beq_iff_eq] at hj ⊢
      rcases hj with rfl | hj
      · exact .inr (hrd.2 o ho e he hb)
      · exact .inr (hcl j o ho hj e he hb)
    have hLm : ∀ t, t < ops.size → (mark L x t = false ↔ t ∈ l1 ++ i :: l2) := by
      intro t ht
      unfold mark
      by_cases htx : t = x
      · subst htx
        simp only [beq_self_eq_true, Bool.true_or, Bool.true_eq_false, false_iff]
        intro hm
        have := hso'.1 _ hm; omega
      · have h1 : (t == x) = false := by simpa using htx
        rw [h1, Bool.false_or, hL t ht]
        simp [htx]
    obtain ⟨h1, h2, h3⟩ := Oper.apart_spec ((hap x (by simp)).2 ox hx)
    have go : ∀ (y : Value) (w' : World), Yields P md ops S C x ox u a y → S (mark L x) (upd u x y) w' → Does P md ops S C i oi u a := by
      intro y w' hy hS'
      have hd := ChainR.does hs hsel hi l1 l2 (upd u x y) (a.put ox.dst y) (mark L x) w' (fun z hz => hap z (List.mem_cons_of_mem _ hz)) hLm hso'.2 hS' hclx (hc y hy)
      refine hd.of_same ?_ ?_ ?_
      · exact (execOp_put oi (fun cs b => hsel i oi cs b hi) a ox.dst y h1).symm
      · exact (wanted_put oi a ox.dst y h1).symm
      · intro f t hb
        refine upd_other y ?_
        rintro rfl
        rw [(hap t (by simp)).1 f] at hb; cases hb
    rcases hdx with ⟨hw, hdx⟩ | ⟨hw, hdx⟩
    · rcases hdx L u w hS hcl hrd (fun _ _ _ => rfl) with ⟨y, w', hrun, hS'⟩ | ⟨f, args, hrun, hcall⟩
      · exact go y w' (.inr ⟨hw, L, u, w, hS, hcl, hrd, fun _ _ _ => rfl, .inl ⟨w', hrun, hS'⟩⟩) hS'
      · obtain ⟨e, w', fr, ⟨y, _, hC, hS'⟩, _⟩ := hcall []
        exact go y w' (.inr ⟨hw, L, u, w, hS, hcl, hrd, fun _ _ _ => rfl, .inr ⟨hC, f, args, hrun⟩⟩) hS'
    · exact go undef w (.inl ⟨hw, rfl⟩) (hdx L u w hS)

/-- .. and the others are left, whatever it has yielded. -/
theorem ChainR.pull (hs : steadyB md ops = true) (hsel : ∀ (j : Nat) (o : Oper) cs b, ops[j]? = some o → o.op ≠ .select cs b) {i : Nat} {oi : Oper} (hi : ops[i]? = some oi) :
    ∀ (l1 l2 : List Nat) (u : Nat → Value) (a : Act) (x : Value), (∀ x ∈ l1, x < i ∧ (∀ f, before md ops f i x = false) ∧ ∀ ox, ops[x]? = some ox → ox.apart ops oi = true) →
      ChainR P md ops S C R (l1 ++ i :: l2) u a → Yields P md ops S C i oi u a x → ChainR P md ops S C R (l1 ++ l2) (upd u i x) (a.put oi.dst x)
  | [], l2, u, a, x, _, h, hy => by
    obtain ⟨o, ho, _, hc⟩ := h
    obtain rfl : o = oi := Option.some.inj (ho.symm.trans hi)
    exact hc x hy
  | j :: l1, l2, u, a, x, hap, h, hy => by
    obtain ⟨oj, hj, hdj, hc⟩ := h
    obtain ⟨hji, hb, hapj⟩ := hap j (by simp)
    obtain ⟨h1, h2, h3⟩ := Oper.apart_spec (hapj oj hj)
    have hbj : ∀ f t, before md ops f j t = true → u t = upd u i x t := fun f t hb => (upd_other x (by have := before_lt hs f j t hb; omega)).symm
    refine ⟨oj, hj, hdj.of_same ?_ ?_ hbj, fun y hyj => ?_⟩
    · exact execOp_put oj (fun cs b => hsel j oj cs b hj) a oi.dst x h3
    · exact wanted_put oj a oi.dst x h3
    · have hyj' : Yields P md ops S C j oj u a y := hyj.of_same (execOp_put oj (fun cs b => hsel j oj cs b hj) a oi.dst x h3).symm (wanted_put oj a oi.dst x h3).symm (fun f t hb => (hbj f t hb).symm)
      have := ChainR.pull hs hsel hi l1 l2 (upd u j y) (a.put oj.dst y) x (fun z hz => hap z (List.mem_cons_of_mem _ hz)) (hc y hyj')
        (hy.of_same (execOp_put oi (fun cs b => hsel i oi cs b hi) a oj.dst y h1) (wanted_put oi a oj.dst y h1) (fun f t hbt => (upd_other y (by rintro rfl; rw [hb f] at hbt; cases hbt)).symm))
      rw [upd_comm u x y (by omega : i ≠ j), ← Act.put_comm a y x h2]
      exact this

theorem wpAny_mixed (hs : steadyB md ops = true) (hsel : Region.noSelect ops = true) : ∀ (fuel : Nat) (listed : Array Bool) (u : Nat → Value) (a : Act) (w : World), listed.size = ops.size → (rest ops listed).length ≤ fuel →
    ChainR P md ops S C (fun u a => ∀ L w, S L u w → (∀ j, j < ops.size → L j = true) → Q .normal a w) (rest ops listed) u a → S (who listed) u w → Closed md ops (who listed) → wpAny P md ops Q fuel listed a w
  | fuel, listed, u, a, w, hl, hf, hc, hS, hcl => by
    have hempty : rest ops listed = [] → Q .normal a w := fun h0 => by
      have := all_of_rest hl h0
      rw [h0] at hc; exact hc _ w hS this
    have hready0 : rest ops listed = [] → Region.ready md ops listed = [] := fun h0 => by
      apply List.eq_nil_iff_forall_not_mem.2
      intro j hj
      obtain ⟨hj1, oj, hj2, _⟩ := mem_ready.1 hj
      have : j ∈ rest ops listed := List.mem_filter.2 ⟨List.mem_range.2 (Array.getElem?_eq_some_iff.1 hj2).1, by rw [hj1]; rfl⟩
      rw [h0] at this; cases this
    have hsorted := rest_sorted (ops := ops) listed
    have hwho : ∀ t, t < ops.size → (who listed t = false ↔ t ∈ rest ops listed) := by
      intro t ht
      unfold who rest
      have h5 : t < listed.size := by omega
      simp [h5, ht]
    cases fuel with
    | zero =>
      have h0 : rest ops listed = [] := List.length_eq_zero_iff.1 (by omega)
      exact ⟨hready0 h0, hempty h0⟩
    | succ fuel =>
      refine ⟨fun hr => ?_, fun i hi => ?_⟩
      · cases hrest : rest ops listed with
        | nil => exact hempty hrest
        | cons i l =>
          exfalso
          have hmem : i ∈ rest ops listed := by rw [hrest]; simp
          rw [hrest] at hc
          obtain ⟨o, ho, _, _⟩ := hc
          have hil : i < ops.size := (Array.getElem?_eq_some_iff.1 ho).1
          rw [hrest] at hsorted
          have hall : ∀ e ∈ o.after, Region.binds md e = true → listed.getD e.on false = true := fun e he hb => by
            have h1 := (steady_both hs ho).1 e he hb
            have h2 : ¬ e.on ∈ rest ops listed := by
              rw [hrest]
              intro hm
              rcases List.mem_cons.1 hm with h | h
              · omega
              · have := (List.pairwise_cons.1 hsorted).1 _ h; omega
            cases h3 : who listed e.on with
            | true => exact h3
            | false => exact absurd ((hwho e.on (by omega)).1 h3) h2
          have : i ∈ Region.ready md ops listed := mem_ready.2 ⟨by simpa using (List.mem_filter.1 hmem).2, o, ho, hall⟩
          rw [hr] at this; cases this
      · obtain ⟨hi1, oi, hoi, hall⟩ := mem_ready.1 hi
        have hil : i < ops.size := (Array.getElem?_eq_some_iff.1 hoi).1
        have hmem : i ∈ rest ops listed := List.mem_filter.2 ⟨List.mem_range.2 hil, by rw [hi1]; rfl⟩
        have hrd : Ready md ops (who listed) i := by
          refine ⟨?_, fun o ho e he hb => ?_⟩
          · have h5 : i < listed.size := by omega
            unfold who
            simpa [h5] using hi1
          · obtain rfl : oi = o := Option.some.inj (hoi.symm.trans ho)
            exact hall e he hb
        obtain ⟨l1, l2, hsplit⟩ := List.append_of_mem hmem
        rw [hsplit] at hsorted
        have hlt : ∀ x ∈ l1, x < i := fun x hx => (List.pairwise_append.1 hsorted).2.2 x hx i (by simp)
        have hgt : ∀ x ∈ l2, i < x := fun x hx => (List.pairwise_cons.1 (List.pairwise_append.1 hsorted).2.1).1 x hx
        have hrs := rest_set hl hsplit hlt hgt
        have hap : ∀ x ∈ l1, x < i ∧ (∀ f, before md ops f i x = false) ∧ ∀ ox, ops[x]? = some ox → ox.apart ops oi = true := by
          intro x hx
          have hxr : x ∈ rest ops listed := by rw [hsplit]; simp [hx]
          have hxs : x < ops.size := by have := hlt x hx; omega
          have hxw : who listed x = false := (hwho x hxs).2 hxr
          refine ⟨hlt x hx, fun f => ?_, fun ox hox => ?_⟩
          · cases hb : before md ops f i x with
            | false => rfl
            | true =>
              have := before_ready hcl hrd f x hb
              rw [hxw] at this; cases this
          · rcases (steady_both hs hoi).2 x ox (hlt x hx) hox with ⟨e, he, hb, heq⟩ | h
            · have h1 : who listed e.on = true := hall e he hb
              rw [heq, hxw] at h1; cases h1
            · exact h
        rw [hsplit] at hc
        have hdoes := ChainR.does hs (Region.noSelect_spec hsel) hoi l1 l2 u a (who listed) w (fun x hx => (hap x hx).2) (fun t ht => by rw [← hsplit]; exact hwho t ht) hsorted hS hcl hc
        have next : ∀ (x : Value) (w' : World), Yields P md ops S C i oi u a x → S (mark (who listed) i) (upd u i x) w' → wpAny P md ops Q fuel (listed.setIfInBounds i true) (a.put oi.dst x) w' := by
          intro x w' hy hS'
          refine wpAny_mixed hs hsel fuel _ (upd u i x) _ w' (by simpa using hl) ?_ (by rw [hrs]; exact ChainR.pull hs (Region.noSelect_spec hsel) hoi l1 l2 u a x hap hc hy) (by rw [who_set (by omega)]; exact hS') ?_
          · rw [hrs]
            rw [hsplit] at hf
            simp at hf ⊢; omega
          · rw [who_set (by omega)]
            intro j o ho hj e he hb
            unfold mark at hj ⊢
            simp only [Bool.or_eq_true, beq_iff_eq] at hj ⊢
            rcases hj with rfl | hj
            · exact .inr (hrd.2 o ho e he hb)
            · exact .inr (hcl j o ho hj e he hb)
        unfold Go.wpOp
        simp only [hoi]
        rcases hdoes with ⟨hw, hd⟩ | ⟨hw, hd⟩
        · rcases hd (who listed) u w hS hcl hrd (fun _ _ _ => rfl) with ⟨x, w', hrun | ⟨rfl, hrun⟩, hS'⟩ | ⟨f, args, hrun, hcall⟩
          · simp only [hw, if_true, Oper.wp, hrun, Oper.upon]
            exact .inl (next x w' (.inr ⟨hw, _, u, w, hS, hcl, hrd, fun _ _ _ => rfl, .inl ⟨w', .inl hrun, hS'⟩⟩) hS')
          · simp only [hw, if_true, Oper.wp, hrun, Oper.upon]
            exact .inl (next undef w' (.inr ⟨hw, _, u, w, hS, hcl, hrd, fun _ _ _ => rfl, .inl ⟨w', .inr ⟨rfl, hrun⟩, hS'⟩⟩) hS')
          · simp only [hw, if_true, Oper.wp, hrun]
            refine .inl ?_
            rw [Oper.upon_enter]
            refine hcall.mono ?_
            rintro e w' ⟨x, rfl, hC, hS'⟩
            exact next x w' (.inr ⟨hw, _, u, w, hS, hcl, hrd, fun _ _ _ => rfl, .inr ⟨hC, f, args, hrun⟩⟩) hS'
        · simp only [hw, Bool.false_eq_true, if_false]
          exact next undef w (.inl ⟨hw, rfl⟩) (hd _ u w hS)

/-- The same, over the operations themselves; k: the number of the one that stands next. -/
def WalkR (P : Program) (md : Region.Mode) (ops : Array Oper) (S : (Nat → Bool) → (Nat → Value) → World → Prop) (C : Nat → Value → Prop) (R : (Nat → Value) → Act → Prop) : Nat → List Oper → (Nat → Value) → Act → Prop
  | _, [], u, a => R u a
  | k, o :: l, u, a => Does P md ops S C k o u a ∧ ∀ x, Yields P md ops S C k o u a x → WalkR P md ops S C R (k + 1) l (upd u k x) (a.put o.dst x)

theorem chainR_of_walk : ∀ (l : List Oper) (k : Nat) (u : Nat → Value) (a : Act), (∀ j, j < l.length → ops[k + j]? = l[j]?) → WalkR P md ops S C R k l u a → ChainR P md ops S C R (List.range' k l.length) u a
  | [], _, _, _, _, h => h
  | o :: l, k, u, a, hk, h => by
    obtain ⟨hg, hr⟩ := h
    refine ⟨o, by simpa using hk 0 (by simp), hg, fun x hx => chainR_of_walk l (k + 1) _ _ (fun j hj => ?_) (hr x hx)⟩
    have := hk (j + 1) (by simpa using hj)
    rw [show k + 1 + j = k + (j + 1) by omega, this]; rfl

/-! ### the moves of a walk -/
theorem mix_past {k : Nat} {l : List Oper} {o : Oper} {u : Nat → Value} {a : Act} (hw : Region.wanted o (yielded ops a.tmps) = false) (hs : ∀ L u w, S L u w → S (mark L k) (upd u k undef) w)
    (h : WalkR P md ops S C R (k + 1) l (upd u k undef) (a.put o.dst undef)) : WalkR P md ops S C R k (o :: l) u a := by
  refine ⟨.inr ⟨hw, hs⟩, fun x hx => ?_⟩
  rcases hx with ⟨_, rfl⟩ | ⟨hx, _⟩
  · exact h
  · rw [hw] at hx; cases hx
/-- it yields something that V says, and may turn the world -/
theorem mix_free {k : Nat} {l : List Oper} {o : Oper} {u : Nat → Value} {a : Act} (V : Value → Prop) (hw : Region.wanted o (yielded ops a.tmps) = true)
    (hv : ∀ L u' w, S L u' w → Closed md ops L → Ready md ops L k → Agree md ops k u' u → ∃ x w', V x ∧ (execOp a.eval o).run P w = .ok (.value x) w' ∧ S (mark L k) (upd u' k x) w')
    (h : ∀ x, V x → WalkR P md ops S C R (k + 1) l (upd u k x) (a.put o.dst x)) : WalkR P md ops S C R k (o :: l) u a := by
  refine ⟨.inl ⟨hw, fun L u' w hS hc hr ha => ?_⟩, fun x hx => ?_⟩
  · obtain ⟨x, w', _, h1, h2⟩ := hv L u' w hS hc hr ha
    exact .inl ⟨x, w', .inl h1, h2⟩
  · rcases hx with ⟨hx, _⟩ | ⟨_, L, u', w, hS, hc, hr, ha, hx⟩
    · rw [hw] at hx; cases hx
    · obtain ⟨y, w', hV, h1, _⟩ := hv L u' w hS hc hr ha
      rcases hx with ⟨w2, hx | ⟨_, hx⟩, _⟩ | ⟨_, f, args, hx⟩
      · rw [h1] at hx
        cases hx
        exact h _ hV
      · rw [h1] at hx; cases hx
      · rw [h1] at hx; cases hx
/-- it writes, and yields nothing -/
theorem mix_skip {k : Nat} {l : List Oper} {o : Oper} {u : Nat → Value} {a : Act} (hw : Region.wanted o (yielded ops a.tmps) = true)
    (hv : ∀ L u' w, S L u' w → Closed md ops L → Ready md ops L k → Agree md ops k u' u → ∃ w', (execOp a.eval o).run P w = .ok .skip w' ∧ S (mark L k) (upd u' k undef) w')
    (h : WalkR P md ops S C R (k + 1) l (upd u k undef) (a.put o.dst undef)) : WalkR P md ops S C R k (o :: l) u a := by
  refine ⟨.inl ⟨hw, fun L u' w hS hc hr ha => ?_⟩, fun x hx => ?_⟩
  · obtain ⟨w', h1, h2⟩ := hv L u' w hS hc hr ha
    exact .inl ⟨undef, w', .inr ⟨rfl, h1⟩, h2⟩
  · rcases hx with ⟨hx, _⟩ | ⟨_, L, u', w, hS, hc, hr, ha, hx⟩
    · rw [hw] at hx; cases hx
    · obtain ⟨w', h1, _⟩ := hv L u' w hS hc hr ha
      rcases hx with ⟨w2, hx | ⟨rfl, hx⟩, _⟩ | ⟨_, f, args, hx⟩
      · rw [h1] at hx; cases hx
      · exact h
      · rw [h1] at hx; cases hx
/-- it yields v, and leaves the world as it is -/
theorem mix_give {k : Nat} {l : List Oper} {o : Oper} {u : Nat → Value} {a : Act} {v : Value} (hw : Region.wanted o (yielded ops a.tmps) = true)
    (hv : ∀ L u' w, S L u' w → Closed md ops L → Ready md ops L k → Agree md ops k u' u → (execOp a.eval o).run P w = .ok (.value v) w) (hs : ∀ L u' w, S L u' w → S (mark L k) (upd u' k v) w)
    (h : WalkR P md ops S C R (k + 1) l (upd u k v) (a.put o.dst v)) : WalkR P md ops S C R k (o :: l) u a :=
  mix_free (fun x => x = v) hw (fun L u' w hS hc hr ha => ⟨v, w, rfl, hv L u' w hS hc hr ha, hs L u' w hS⟩) fun x hx => by rw [hx]; exact h
/-- it calls -/
theorem mix_into {k : Nat} {l : List Oper} {o : Oper} {u : Nat → Value} {a : Act} {v : Value} {f : FuncId} {args : Array Value} (hw : Region.wanted o (yielded ops a.tmps) = true) (hC : C k = fun x => x = v)
    (hv : ∀ w, (execOp a.eval o).run P w = .ok (.enter f args) w)
    (hc : ∀ L u' w, S L u' w → Closed md ops L → Ready md ops L k → Agree md ops k u' u → Calls P f args w fun e w' => e = .returned v ∧ S (mark L k) (upd u' k v) w')
    (h : WalkR P md ops S C R (k + 1) l (upd u k v) (a.put o.dst v)) : WalkR P md ops S C R k (o :: l) u a := by
  refine ⟨.inl ⟨hw, fun L u' w hS hcl hr ha => .inr ⟨f, args, hv w, (hc L u' w hS hcl hr ha).mono ?_⟩⟩, fun x hx => ?_⟩
  · rintro e w' ⟨rfl, hS'⟩
    exact ⟨v, rfl, by rw [hC], hS'⟩
  · rcases hx with ⟨hx, _⟩ | ⟨_, L, u', w, hS, hcl, hr, ha, hx⟩
    · rw [hw] at hx; cases hx
    · rcases hx with ⟨w2, hx | ⟨_, hx⟩, _⟩ | ⟨hx, _⟩
      · rw [hv] at hx; cases hx
      · rw [hv] at hx; cases hx
      · rw [hC] at hx
        rw [show x = v from hx]; exact h
/-- it calls, and what comes back is said by S -/
theorem mix_call {k : Nat} {l : List Oper} {o : Oper} {u : Nat → Value} {a : Act} {f : FuncId} {args : Array Value} (hw : Region.wanted o (yielded ops a.tmps) = true)
    (hv : ∀ w, (execOp a.eval o).run P w = .ok (.enter f args) w)
    (hc : ∀ L u' w, S L u' w → Closed md ops L → Ready md ops L k → Agree md ops k u' u → Calls P f args w fun e w' => ∃ x, e = .returned x ∧ C k x ∧ S (mark L k) (upd u' k x) w')
    (h : ∀ x, C k x → WalkR P md ops S C R (k + 1) l (upd u k x) (a.put o.dst x)) : WalkR P md ops S C R k (o :: l) u a := by
  refine ⟨.inl ⟨hw, fun L u' w hS hcl hr ha => .inr ⟨f, args, hv w, hc L u' w hS hcl hr ha⟩⟩, fun x hx => ?_⟩
  rcases hx with ⟨hx, _⟩ | ⟨_, L, u', w, hS, hcl, hr, ha, hx⟩
  · rw [hw] at hx; cases hx
  · rcases hx with ⟨w2, hx | ⟨_, hx⟩, _⟩ | ⟨hx, _⟩
    · rw [hv] at hx; cases hx
    · rw [hv] at hx; cases hx
    · exact h x hx
theorem mix_last {k : Nat} {u : Nat → Value} {a : Act} (h : R u a) : WalkR P md ops S C R k [] u a := h

/-- THE REGION: walked in the text's order. -/
theorem wp_region_mixed {l : List Oper} {id : Nat} {a : Act} {w : World} (S : (Nat → Bool) → (Nat → Value) → World → Prop) (C : Nat → Value → Prop) (hm : P.follows .mixedOrders = true) (hs : steadyB .any l.toArray = true) (hsel : Region.noSelect l.toArray = true)
    (hS : S (fun _ => false) (fun _ => undef) w.drew) (h : WalkR P .any l.toArray S C (fun u a => ∀ L w, S L u w → (∀ j, j < l.length → L j = true) → Q .normal a w) 0 l (fun _ => undef) a) : (Code.region id l.toArray true).wp P Q a w := by
  have hr : rest l.toArray (Array.replicate l.toArray.size false) = List.range' 0 l.length := by
    unfold rest
    rw [List.filter_eq_self.2]
    · simp [List.range_eq_range']
    · intro x hx
      have : x < l.length := by simpa using hx
      simp [this]
  have hw0 : who (Array.replicate l.toArray.size false) = fun _ => false := by
    funext j
    unfold who
    rw [show (Array.replicate l.toArray.size false).getD j false = (Array.replicate l.toArray.size false)[j]?.getD false by simp, Array.getElem?_replicate]
    split <;> rfl
  refine wp_region_any hm (wpAny_mixed (S := S) (C := C) hs hsel l.toArray.size _ (fun _ => undef) a _ (by simp) ?_ ?_ (by rw [hw0]; exact hS) (by rw [hw0]; intro i o _ h; cases h))
  · rw [hr]; simp
  · rw [hr]
    have := chainR_of_walk (P := P) (md := .any) (ops := l.toArray) (S := S) (C := C) l 0 (fun _ => undef) a (fun j _ => by simp) h
    simpa using this

end
end Go.Proofs.YtimodohcihnoiaaDoor.St
