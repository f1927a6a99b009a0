/-
  Slices of bounds that come in, and that the call makes: append. No condition.
-/
import Derived.Test.YtbjgpcfimpmjiaaBoxes
namespace Go.Proofs.Ytbjgpcfimpmjiaa
open Go.RowKit O

def cellsL : List Pair → List Value
  | [] => []
  | p :: l => .string p.1 :: .string p.2 :: cellsL l
theorem cellsL_length : ∀ l : List Pair, (cellsL l).length = l.length * 2
  | [] => rfl
  | p :: l => by simp [cellsL, cellsL_length l]; omega
theorem cellsL_append : ∀ a b : List Pair, cellsL (a ++ b) = cellsL a ++ cellsL b
  | [], _ => rfl
  | p :: a, b => by simp [cellsL, cellsL_append a b]
theorem cellsL_get : ∀ (l : List Pair) (i : Nat) (h : i < l.length), (cellsL l)[i * 2]? = some (.string l[i].1) ∧ (cellsL l)[i * 2 + 1]? = some (.string l[i].2)
  | p :: l, 0, _ => ⟨rfl, rfl⟩
  | p :: l, i + 1, h => by
    have := cellsL_get l i (by simpa using h)
    have e : (i + 1) * 2 = i * 2 + 1 + 1 := by omega
    rw [e]
    exact this
theorem cellsL_one : ∀ (l : List Pair), ∀ u ∈ cellsL l, u.oneCell' = true
  | p :: l, u, h => by
    simp only [cellsL, List.mem_cons] at h
    rcases h with rfl | rfl | h
    · rfl
    · rfl
    · exact cellsL_one l u h
/-- every place of the cells -/
theorem cellsL_at {l : List Pair} {j : Nat} {u : Value} (h : (cellsL l)[j]? = some u) : ∃ i, ∃ hi : i < l.length, (j = i * 2 ∧ u = .string l[i].1) ∨ (j = i * 2 + 1 ∧ u = .string l[i].2) := by
  have hj : j < (cellsL l).length := (List.getElem?_eq_some_iff.1 h).1
  rw [cellsL_length] at hj
  have hi : j / 2 < l.length := by omega
  obtain ⟨g1, g2⟩ := cellsL_get l (j / 2) hi
  refine ⟨j / 2, hi, ?_⟩
  rcases Nat.mod_two_eq_zero_or_one j with h0 | h0
  · have e : j / 2 * 2 = j := by omega
    rw [e, h] at g1
    exact .inl ⟨e.symm, Option.some.inj g1⟩
  · have e : j / 2 * 2 + 1 = j := by omega
    rw [e, h] at g2
    exact .inr ⟨e.symm, Option.some.inj g2⟩

/-- a row of the call's own -/
theorem SB.of_own {w : World} {base : Nat} {v : Value} {bs : List Pair} (h : w.ownsRow base 23 2 v bs.length (cellsL bs)) : SB w w.heap.size v bs := by
  rcases h.2 with ⟨rfl, h0⟩ | ⟨g, cap, cur, rfl, _, hh, _⟩
  · have : bs = [] := List.length_eq_zero_iff.1 h0
    subst this
    exact SB.nil w _
  · refine ⟨_, _, rfl, fun h0 => ⟨g, 0, rfl, ?_, fun i hi => ?_⟩⟩
    · exact (Array.getElem?_eq_some_iff.1 hh).1
    · obtain ⟨g1, g2⟩ := cellsL_get bs i hi
      have e1 := h.cells (g := g) rfl (i * 2) _ g1
      have e2 := h.cells (g := g) rfl (i * 2 + 1) _ g2
      rw [Addr.add_lit] at e1 e2
      exact ⟨e1, e2⟩

/-- how a list of bounds comes in -/
inductive ArgSB (w : World) : Value → List Pair → Prop
  | nil : ArgSB w (.slice none 0 0) []
  | some (ad : Addr) (c : Nat) (bs : List Pair) (h : SB w w.heap.size (.slice (some ad) bs.length c) bs) : ArgSB w (.slice (some ad) bs.length c) bs
theorem ArgSB.sb {w : World} {v : Value} {bs : List Pair} (h : ArgSB w v bs) : SB w w.heap.size v bs := by
  cases h with
  | nil => exact SB.nil _ _
  | some ad c bs h => exact h
theorem ArgSB.keep {w w' : World} {v : Value} {bs : List Pair} (h : ArgSB w v bs) (hb : Below w.heap.size w w') : ArgSB w' v bs := by
  cases h with
  | nil => exact .nil
  | some ad c bs h => exact .some ad c bs ((h.below hb).more hb.size)

/-- the cells that an append reads -/
theorem news_of {w : World} {ad : Addr} {c : Nat} {bs : List Pair} (h : SB w w.heap.size (.slice (some ad) bs.length c) bs) : ∀ j u, (cellsL bs)[j]? = some u → w.cell? (ad.add j) = some u := by
  intro j u hj
  obtain ⟨i, hi, hu⟩ := cellsL_at hj
  obtain ⟨b, o, e, _, h1, h2⟩ := h.at_ hi
  obtain rfl := Option.some.inj e
  rw [Addr.add_lit]
  rcases hu with ⟨rfl, rfl⟩ | ⟨rfl, rfl⟩
  · exact h1
  · exact h2

theorem infoBd : (Try.prog.info? 23).map (fun i => (i.zero, i.size, i.bytes)) = some (some (.agg #[.string ⟨#[]⟩, .string ⟨#[]⟩]), 2, 32) := by kernel_rfl
/-- an empty slice of the call's own -/
theorem own_empty (w : World) : (w.alloc (.cells #[] 23)).ownsRow w.heap.size 23 2 (.slice (some ⟨w.heap.size, 0, none⟩) 0 0) 0 [] :=
  ⟨rfl, .inr ⟨w.heap.size, 0, #[], rfl, Nat.le_refl _, heap_alloc_new w _, Nat.le_refl _, by unfold maxLen; omega, rfl, rfl⟩⟩

theorem wpList_append_bds {w : World} {ops : Array Oper} {rest : List Oper} {o : Oper} {a : Act} {Q : Exit → Act → World → Prop} (hw : Region.wanted o (yielded ops a.tmps) = true) (s x : Operand)
    (ho : o.op = .call { callee := .builtin .append, args := #[s, x], argTypes := #[42, 42] }) (base : Nat) (v : Value) (xs : List Pair) (hs : a.eval s = v)
    (hown : w.ownsRow base 23 2 v xs.length (cellsL xs)) (hbase : base ≤ w.heap.size) (y : Value) (ys : List Pair) (hx : a.eval x = y) (hy : ArgSB w y ys) (hlen : xs.length + ys.length ≤ 1000000)
    (h : ∀ v' w', w'.ownsRow base 23 2 v' (xs ++ ys).length (cellsL (xs ++ ys)) → Below base w w' → w.grownBy w' v.ownBlock → wpList Try.prog ops Q rest (a.put o.dst v') w') : wpList Try.prog ops Q (o :: rest) a w := by
  obtain ⟨i0, hi, hz0, hz1, hz2⟩ := info_parts infoBd
  refine wpList_step fun K hK => ?_
  rw [if_pos hw]
  cases hy with
  | nil =>
    have hrun := run_append_owned_none (P := Try.prog) (w := w) base 42 o.type 23 i0 2 Try.underlying42 hi v xs.length (cellsL xs) hown
    unfold Oper.wp
    simp [execOp, ho, resolve, invoke, builtin, hs, hx, hrun, Result.andThen]
    exact hK _ _ (h v w (by simpa using hown) (Below.refl _ w) ⟨rfl, rfl, rfl, Nat.le_refl _, fun _ _ _ => rfl⟩)
  | some ad c ys hn =>
    refine wp_append_own w s x 42 ho base 23 i0 (.agg #[.string ⟨#[]⟩, .string ⟨#[]⟩]) 2 32 Try.underlying42 hi hz0 hz1 hz2 rfl (by decide) v xs.length (cellsL xs) hs hown ad ys.length c (cellsL ys) hx (cellsL_length ys) (news_of hn) (cellsL_one ys) (by unfold maxLen; omega) (by omega) hbase ?_
    intro v' w' h2 h3 _
    exact hK _ _ (h v' w' (by rw [List.length_append, cellsL_append]; exact h2) ((Below.refl _ w).grown h3 hbase (fun k hk => (hown.lt k hk).1)) h3)

/-- two bounds, in a block of their own -/
theorem SB.two (w : World) (p q : Pair) : ArgSB (w.alloc (.cells #[.string p.1, .string p.2, .string q.1, .string q.2] 23)) (.slice (some ⟨w.heap.size, 0, none⟩) 2 2) [p, q] := by
  refine .some _ 2 [p, q] ⟨_, _, rfl, fun _ => ⟨w.heap.size, 0, rfl, by simp, fun i hi => ?_⟩⟩
  match i, hi with
  | 0, _ => exact ⟨by simp, by simp⟩
  | 1, _ => exact ⟨by simp, by simp⟩
theorem SB.one (w : World) (p : Pair) : ArgSB (w.alloc (.cells #[.string p.1, .string p.2] 23)) (.slice (some ⟨w.heap.size, 0, none⟩) 1 1) [p] := by
  refine .some _ 1 [p] ⟨_, _, rfl, fun _ => ⟨w.heap.size, 0, rfl, by simp, fun i hi => ?_⟩⟩
  match i, hi with
  | 0, _ => exact ⟨by simp, by simp⟩

end Go.Proofs.Ytbjgpcfimpmjiaa
