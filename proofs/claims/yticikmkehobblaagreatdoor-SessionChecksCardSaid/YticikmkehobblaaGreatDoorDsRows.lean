/-
  Slices of members, as lists of pairs of numbers; descriptors as values; append onto a row of members that the call owns. No condition.
-/
import Derived.Test.YticikmkehobblaaGreatDoorDsA
import Derived.Test.YticikmkehobblaaGreatDoorBndA
import Derived.Laws.OwnMore
import Derived.Maps.AppendAt
import Derived.Deep.RegionHeld
namespace Go.Proofs.YticikmkehobblaaGreatDoor.Ds
open Go.RowKit
open Go.Proofs.YticikmkehobblaaGreatDoor.O (Bd isB keyB hasB nextB)

abbrev mv (m : Mem) : Value := .agg #[.int .i64 m.1, .int .i64 m.2]
/-- a descriptor whose members are the slice s -/
abbrev dv (d : De) (s : Value) : Value := .agg #[.int .i64 d.id, .string d.f, .string d.t, .int .i64 d.gen, s, .int .i64 d.next]

/-- In the world w the slice value v holds the members ms; its cells lie below block N. -/
def SM (w : World) (N : Nat) (v : Value) (ms : List Mem) : Prop :=
  ∃ (A : Option Addr) (c : Nat), v = .slice A ms.length c ∧ (0 < ms.length → ∃ b o : Nat, A = some ⟨b, o, none⟩ ∧ b < N ∧ ∀ i (h : i < ms.length), w.cell? ⟨b, o + i * 2, none⟩ = some (.int .i64 ms[i].1) ∧ w.cell? ⟨b, o + i * 2 + 1, none⟩ = some (.int .i64 ms[i].2))

theorem SM.nil (w : World) (N : Nat) : SM w N (.slice none 0 0) [] := ⟨none, 0, rfl, fun h => absurd h (by simp)⟩
theorem SM.keep {w w' : World} {N : Nat} {v : Value} {ms : List Mem} (h : SM w N v ms) (hk : ∀ p : Addr, p.block < N → w'.cell? p = w.cell? p) : SM w' N v ms := by
  obtain ⟨A, c, hv, h⟩ := h
  refine ⟨A, c, hv, fun h0 => ?_⟩
  obtain ⟨b, o, e, hb, hc⟩ := h h0
  exact ⟨b, o, e, hb, fun i hi => by rw [hk ⟨b, o + i * 2, none⟩ hb, hk ⟨b, o + i * 2 + 1, none⟩ hb]; exact hc i hi⟩
theorem SM.below {w w' : World} {N : Nat} {v : Value} {ms : List Mem} (h : SM w N v ms) (hb : Below N w w') : SM w' N v ms := h.keep fun _ hp => hb.cell hp
theorem SM.more {w : World} {N N' : Nat} {v : Value} {ms : List Mem} (h : SM w N v ms) (hB : N ≤ N') : SM w N' v ms := by
  obtain ⟨A, c, hv, h⟩ := h
  refine ⟨A, c, hv, fun h0 => ?_⟩
  obtain ⟨b, o, e, hb, hc⟩ := h h0
  exact ⟨b, o, e, by omega, hc⟩
theorem SM.at_ {w : World} {N k : Nat} {A : Option Addr} {n c : Nat} {ms : List Mem} (h : SM w N (.slice A n c) ms) (hk : k < ms.length) :
    ∃ b o : Nat, A = some ⟨b, o, none⟩ ∧ b < N ∧ w.cell? ⟨b, o + k * 2, none⟩ = some (.int .i64 ms[k].1) ∧ w.cell? ⟨b, o + k * 2 + 1, none⟩ = some (.int .i64 ms[k].2) := by
  obtain ⟨A', c', hv, h⟩ := h
  injection hv with h1 h2 h3
  subst h1
  obtain ⟨b, o, e, hb, hc⟩ := h (by omega)
  exact ⟨b, o, e, hb, hc k hk⟩
theorem SM.form {w : World} {N : Nat} {v : Value} {ms : List Mem} (h : SM w N v ms) : ∃ A c, v = .slice A ms.length c := by
  obtain ⟨A, c, hv, _⟩ := h; exact ⟨A, c, hv⟩

def mcells : List Mem → List Value
  | [] => []
  | p :: l => .int .i64 p.1 :: .int .i64 p.2 :: mcells l
theorem mcells_length : ∀ l : List Mem, (mcells l).length = l.length * 2
  | [] => rfl
  | p :: l => by simp [mcells, mcells_length l]; omega
theorem mcells_append : ∀ a b : List Mem, mcells (a ++ b) = mcells a ++ mcells b
  | [], _ => rfl
  | p :: a, b => by simp [mcells, mcells_append a b]
theorem mcells_get : ∀ (l : List Mem) (i : Nat) (h : i < l.length), (mcells l)[i * 2]? = some (.int .i64 l[i].1) ∧ (mcells l)[i * 2 + 1]? = some (.int .i64 l[i].2)
  | p :: l, 0, _ => ⟨rfl, rfl⟩
  | p :: l, i + 1, h => by
    have := mcells_get l i (by simpa using h)
    have e : (i + 1) * 2 = i * 2 + 1 + 1 := by omega
    rw [e]
    exact this
theorem mcells_one : ∀ (l : List Mem), ∀ u ∈ mcells l, u.oneCell' = true
  | p :: l, u, h => by
    simp only [mcells, List.mem_cons] at h
    rcases h with rfl | rfl | h
    · rfl
    · rfl
    · exact mcells_one l u h
/-- every place of the cells -/
theorem mcells_at {l : List Mem} {j : Nat} {u : Value} (h : (mcells l)[j]? = some u) : ∃ i, ∃ hi : i < l.length, (j = i * 2 ∧ u = .int .i64 l[i].1) ∨ (j = i * 2 + 1 ∧ u = .int .i64 l[i].2) := by
  have hj : j < (mcells l).length := (List.getElem?_eq_some_iff.1 h).1
  rw [mcells_length] at hj
  have hi : j / 2 < l.length := by omega
  obtain ⟨g1, g2⟩ := mcells_get l (j / 2) hi
  refine ⟨j / 2, hi, ?_⟩
  rcases Nat.mod_two_eq_zero_or_one j with h0 | h0
  · have e : j / 2 * 2 = j := by omega
    rw [e, h] at g1
    exact .inl ⟨e.symm, Option.some.inj g1⟩
  · have e : j / 2 * 2 + 1 = j := by omega
    rw [e, h] at g2
    exact .inr ⟨e.symm, Option.some.inj g2⟩

/-- a row of the call's own -/
abbrev OwnM (w : World) (base : Nat) (v : Value) (ms : List Mem) : Prop := w.ownsRow base 173 2 v ms.length (mcells ms)
theorem SM.of_own {w : World} {base : Nat} {v : Value} {ms : List Mem} (h : OwnM w base v ms) : SM w w.heap.size v ms := by
  rcases h.2 with ⟨rfl, h0⟩ | ⟨g, cap, cur, rfl, _, hh, _⟩
  · have : ms = [] := List.length_eq_zero_iff.1 h0
    subst this
    exact SM.nil w _
  · refine ⟨_, _, rfl, fun h0 => ⟨g, 0, rfl, ?_, fun i hi => ?_⟩⟩
    · exact (Array.getElem?_eq_some_iff.1 hh).1
    · obtain ⟨g1, g2⟩ := mcells_get ms i hi
      have e1 := h.cells (g := g) rfl (i * 2) _ g1
      have e2 := h.cells (g := g) rfl (i * 2 + 1) _ g2
      rw [Addr.add_lit] at e1 e2
      exact ⟨e1, e2⟩

/-- how a list of members comes in -/
inductive ArgM (w : World) : Value → List Mem → Prop
  | nil : ArgM w (.slice none 0 0) []
  | some (b o : Nat) (c : Nat) (ms : List Mem) (h : SM w w.heap.size (.slice (some ⟨b, o, none⟩) ms.length c) ms) : ArgM w (.slice (some ⟨b, o, none⟩) ms.length c) ms
  | empty (a : Addr) (c : Nat) : ArgM w (.slice (some a) 0 c) []
theorem ArgM.sm {w : World} {v : Value} {ms : List Mem} (h : ArgM w v ms) : SM w w.heap.size v ms := by
  cases h with
  | nil => exact SM.nil _ _
  | some b o c ms h => exact h
  | empty a c => exact ⟨_, _, rfl, fun h => absurd h (by simp)⟩
theorem ArgM.keep {w w' : World} {v : Value} {ms : List Mem} (h : ArgM w v ms) (hb : Below w.heap.size w w') : ArgM w' v ms := by
  cases h with
  | nil => exact .nil
  | some b o c ms h => exact .some b o c ms ((h.below hb).more hb.size)
  | empty a c => exact .empty a c
theorem ArgM.form {w : World} {v : Value} {ms : List Mem} (h : ArgM w v ms) : ∃ A c, v = .slice A ms.length c := h.sm.form
theorem ArgM.of_own {w : World} {base : Nat} {v : Value} {ms : List Mem} (h : OwnM w base v ms) : ArgM w v ms := by
  have hs := SM.of_own h
  rcases h.2 with ⟨rfl, h0⟩ | ⟨g, cap, cur, rfl, _⟩
  · have : ms = [] := List.length_eq_zero_iff.1 h0
    subst this
    exact .nil
  · exact .some _ _ _ _ hs
theorem own_keep {w w' : World} {base : Nat} {v : Value} {ms : List Mem} (h : OwnM w base v ms) (hb : Below w.heap.size w w') : OwnM w' base v ms :=
  h.kept (row := none) ⟨hb.os, hb.tape, hb.output, hb.size, fun k hk _ => hb.block k hk⟩ (Classical.em _)

theorem own_base {w : World} {base base' : Nat} {v : Value} {ms : List Mem} (h : OwnM w base v ms) (hb : base' ≤ base) : OwnM w base' v ms := by
  refine ⟨h.1, ?_⟩
  rcases h.2 with hn | ⟨g, cap, cur, e, h1, rest⟩
  · exact .inl hn
  · exact .inr ⟨g, cap, cur, e, Nat.le_trans hb h1, rest⟩
theorem own_set {w : World} {base : Nat} {v : Value} {ms : List Mem} (h : OwnM w base v ms) {a : Addr} (ha : a.block < base) (u : Value) : OwnM (w.setCell a u) base v ms := ownsRow_setCell_below h ha u
theorem own_alloc {w : World} {base : Nat} {v : Value} {ms : List Mem} (h : OwnM w base v ms) (o : Obj) : OwnM (w.alloc o) base v ms := own_keep h ((Below.refl _ w).alloc (Nat.le_refl _) o)
theorem own_drew {w : World} {base : Nat} {v : Value} {ms : List Mem} (h : OwnM w base v ms) : OwnM w.drew base v ms := h

/-- the cells that an append reads -/
theorem news_of {w : World} {ad : Addr} {c : Nat} {ms : List Mem} (h : SM w w.heap.size (.slice (some ad) ms.length c) ms) : ∀ j u, (mcells ms)[j]? = some u → w.cell? (ad.add j) = some u := by
  intro j u hj
  obtain ⟨i, hi, hu⟩ := mcells_at hj
  obtain ⟨b, o, e, _, h1, h2⟩ := h.at_ hi
  obtain rfl := Option.some.inj e
  rw [Addr.add_lit]
  rcases hu with ⟨rfl, rfl⟩ | ⟨rfl, rfl⟩
  · exact h1
  · exact h2

theorem infoM : (Tryz.prog.info? 173).map (fun i => (i.zero, i.size, i.bytes)) = some (some (.agg #[.int .i64 0, .int .i64 0]), 2, 16) := by kernel_rfl
/-- an empty slice of the call's own -/
theorem own_empty (w : World) : OwnM (w.alloc (.cells #[] 173)) w.heap.size (.slice (some ⟨w.heap.size, 0, none⟩) 0 0) [] :=
  ⟨rfl, .inr ⟨w.heap.size, 0, #[], rfl, Nat.le_refl _, heap_alloc_new w _, Nat.le_refl _, by unfold maxLen; omega, rfl, rfl⟩⟩
theorem own_nil (w : World) (base : Nat) : OwnM w base (.slice none 0 0) [] := ⟨rfl, .inl ⟨rfl, rfl⟩⟩

theorem wpList_append_ms {w : World} {ops : Array Oper} {rest : List Oper} {o : Oper} {a : Act} {Q : Exit → Act → World → Prop} (hw : Region.wanted o (yielded ops a.tmps) = true) (s x : Operand)
    (ho : o.op = .call { callee := .builtin .append, args := #[s, x], argTypes := #[38, 38] }) (base : Nat) (v : Value) (xs : List Mem) (hs : a.eval s = v)
    (hown : OwnM w base v xs) (hbase : base ≤ w.heap.size) (y : Value) (ys : List Mem) (hx : a.eval x = y) (hy : ArgM w y ys) (hlen : xs.length + ys.length ≤ 1000000)
    (h : ∀ v' w', OwnM w' base v' (xs ++ ys) → Below base w w' → w.grownBy w' v.ownBlock → wpList Tryz.prog ops Q rest (a.put o.dst v') w') : wpList Tryz.prog ops Q (o :: rest) a w := by
  obtain ⟨i0, hi, hz0, hz1, hz2⟩ := info_parts infoM
  refine wpList_step fun K hK => ?_
  rw [if_pos hw]
  cases hy with
  | nil =>
    have hrun := run_append_owned_none (P := Tryz.prog) (w := w) base 38 o.type 173 i0 2 Tryz.underlying38 hi v xs.length (mcells xs) hown
    unfold Oper.wp
    simp [execOp, ho, resolve, invoke, builtin, hs, hx, hrun, Result.andThen]
    exact hK _ _ (h v w (by simpa using hown) (Below.refl _ w) ⟨rfl, rfl, rfl, Nat.le_refl _, fun _ _ _ => rfl⟩)
  | some b o' c ys hn =>
    refine wp_append_own w s x 38 ho base 173 i0 (.agg #[.int .i64 0, .int .i64 0]) 2 16 Tryz.underlying38 hi hz0 hz1 hz2 rfl (by decide) v xs.length (mcells xs) hs hown ⟨b, o', none⟩ ys.length c (mcells ys) hx (mcells_length ys) (news_of hn) (mcells_one ys) (by unfold maxLen; omega) (by omega) hbase ?_
    intro v' w' h2 h3 _
    exact hK _ _ (h v' w' (by show w'.ownsRow _ _ _ _ _ _; rw [List.length_append, mcells_append]; exact h2) ((Below.refl _ w).grown h3 hbase (fun k hk => (hown.lt k hk).1)) h3)
  | empty ad c =>
    refine wp_append_own w s x 38 ho base 173 i0 (.agg #[.int .i64 0, .int .i64 0]) 2 16 Tryz.underlying38 hi hz0 hz1 hz2 rfl (by decide) v xs.length (mcells xs) hs hown ad 0 c [] hx rfl (fun j u h => by simp at h) (fun u h => by simp at h) (by unfold maxLen; simp at hlen; omega) (by simp at hlen; omega) hbase ?_
    intro v' w' h2 h3 _
    exact hK _ _ (h v' w' (by show w'.ownsRow _ _ _ _ _ _; simpa using h2) ((Below.refl _ w).grown h3 hbase (fun k hk => (hown.lt k hk).1)) h3)

/-- one member, in a block of its own -/
theorem arg_one (w : World) (p : Mem) : ArgM (w.alloc (.cells #[.int .i64 p.1, .int .i64 p.2] 173)) (.slice (some ⟨w.heap.size, 0, none⟩) 1 1) [p] := by
  refine .some _ _ 1 [p] ⟨_, _, rfl, fun _ => ⟨w.heap.size, 0, rfl, by simp, fun i hi => ?_⟩⟩
  match i, hi with
  | 0, _ => exact ⟨by simp, by simp⟩

/-- block n of w' is a box with the descriptor d, its members the slice s -/
def BoxD (n : Nat) (d : De) (s : Value) (w' : World) : Prop := n < w'.heap.size ∧ (w'.cell? ⟨n, 0, none⟩ = some (.int .i64 d.id) ∧ w'.cell? ⟨n, 1, none⟩ = some (.string d.f) ∧ w'.cell? ⟨n, 2, none⟩ = some (.string d.t) ∧ w'.cell? ⟨n, 3, none⟩ = some (.int .i64 d.gen) ∧ w'.cell? ⟨n, 4, none⟩ = some s ∧ w'.cell? ⟨n, 5, none⟩ = some (.int .i64 d.next)) ∧ ∀ o, w'.frozen? ⟨n, o, none⟩ = false
theorem BoxD.keep {n : Nat} {d : De} {s : Value} {w1 w2 : World} (h : BoxD n d s w1) (hb : Below w1.heap.size w1 w2) : BoxD n d s w2 := by
  obtain ⟨h0, ⟨h1, h2, h3, h4, h5, h6⟩, hf⟩ := h
  have hc : ∀ o, w2.cell? ⟨n, o, none⟩ = w1.cell? ⟨n, o, none⟩ := fun o => hb.cell (p := ⟨n, o, none⟩) h0
  refine ⟨Nat.lt_of_lt_of_le h0 hb.size, ⟨?_, ?_, ?_, ?_, ?_, ?_⟩, fun o => (hb.frozen (p := ⟨n, o, none⟩) h0).trans (hf o)⟩
  all_goals rw [hc]; assumption
theorem BoxD.new (w : World) (d : De) (s : Value) : BoxD w.heap.size d s (w.alloc (.cells #[.int .i64 d.id, .string d.f, .string d.t, .int .i64 d.gen, s, .int .i64 d.next] 40)) :=
  ⟨by simp, by simp [go_sem], fun o => by simp [go_sem]⟩
theorem BoxD.alloc {n : Nat} {d : De} {s : Value} {w1 : World} (h : BoxD n d s w1) (o : Obj) : BoxD n d s (w1.alloc o) :=
  h.keep ((Below.refl _ w1).alloc (Nat.le_refl _) o)
theorem BoxD.drew {n : Nat} {d : De} {s : Value} {w1 : World} (h : BoxD n d s w1) : BoxD n d s w1.drew := h
/-- an empty box -/
theorem BoxD.zero (w : World) : BoxD w.heap.size De.zero (.slice none 0 0) (w.alloc (.cells #[.int .i64 0, .string ⟨#[]⟩, .string ⟨#[]⟩, .int .i64 0, .slice none 0 0, .int .i64 0] 40)) := BoxD.new w De.zero (.slice none 0 0)

theorem BoxD.other {n : Nat} {d : De} {s : Value} {w1 : World} (h : BoxD n d s w1) {a : Addr} (ha : a.block ≠ n) (u : Value) : BoxD n d s (w1.setCell a u) := by
  obtain ⟨h0, ⟨h1, h2, h3, h4, h5, h6⟩, hf⟩ := h
  have hc : ∀ o, (w1.setCell a u).cell? ⟨n, o, none⟩ = w1.cell? ⟨n, o, none⟩ := fun o => World.cell?_setCell_far w1 a _ u ha
  refine ⟨by simpa using h0, ⟨?_, ?_, ?_, ?_, ?_, ?_⟩, fun o => by rw [World.frozen?_setCell]; exact hf o⟩
  all_goals rw [hc]; assumption
/-- all six cells are written -/
theorem BoxD.put {n : Nat} {d0 : De} {s0 : Value} {w1 : World} (h : BoxD n d0 s0 w1) (d : De) (s : Value) :
    BoxD n d s ((((((w1.setCell ⟨n, 0, none⟩ (.int .i64 d.id)).setCell ⟨n, 1, none⟩ (.string d.f)).setCell ⟨n, 2, none⟩ (.string d.t)).setCell ⟨n, 3, none⟩ (.int .i64 d.gen)).setCell ⟨n, 4, none⟩ s).setCell ⟨n, 5, none⟩ (.int .i64 d.next)) := by
  obtain ⟨h0, ⟨h1, h2, h3, h4, h5, h6⟩, hf⟩ := h
  refine ⟨by simpa using h0, ⟨?_, ?_, ?_, ?_, ?_, ?_⟩, fun o => by simp [World.frozen?_setCell, hf]⟩
  all_goals simp [go_sem, h1, h2, h3, h4, h5, h6]
theorem BoxD.load {n : Nat} {d : De} {s : Value} {w1 : World} (h : BoxD n d s w1) : Sem.run Tryz.prog (loadCellsFrom ⟨n, 0, none⟩ 0 6 #[]) w1 = .ok #[.int .i64 d.id, .string d.f, .string d.t, .int .i64 d.gen, s, .int .i64 d.next] w1 := by
  obtain ⟨h0, ⟨h1, h2, h3, h4, h5, h6⟩, hf⟩ := h
  simp [loadCellsFrom, go_sem, h1, h2, h3, h4, h5, h6]
theorem res_box {fn : Func} {a : Tmp} {tmps : Array Value} {n : Nat} {d : De} {s : Value} {w1 : World} (hf : fn.results = #[.cell a 40]) (ht : tmps[a]?.getD undef = .pointer (some ⟨n, 0, none⟩)) (h : BoxD n d s w1) : (results fn tmps).run Tryz.prog w1 = .ok (dv d s) w1 := by
  have h1 := Tryz.isAgg40
  have h2 := Tryz.sizeOf40
  obtain ⟨_, ⟨c1, c2, c3, c4, c5, c6⟩, _⟩ := h
  simp [results, hf, go_sem, ht, h1, h2, c1, c2, c3, c4, c5, c6]
theorem res_box_tmp {fn : Func} {a b : Tmp} {tmps : Array Value} {n : Nat} {d : De} {s v : Value} {w1 : World} (hf : fn.results = #[.cell a 40, .tmp b]) (ht : tmps[a]?.getD undef = .pointer (some ⟨n, 0, none⟩)) (hb : tmps[b]?.getD undef = v) (h : BoxD n d s w1) : (results fn tmps).run Tryz.prog w1 = .ok (.tuple #[dv d s, v]) w1 := by
  have h1 := Tryz.isAgg40
  have h2 := Tryz.sizeOf40
  obtain ⟨_, ⟨c1, c2, c3, c4, c5, c6⟩, _⟩ := h
  simp [results, hf, go_sem, ht, hb, h1, h2, c1, c2, c3, c4, c5, c6]
theorem res_box_box {fn : Func} {a a' b : Tmp} {tmps : Array Value} {n n' : Nat} {d d' : De} {s s' v : Value} {w1 : World} (hf : fn.results = #[.cell a 40, .cell a' 40, .tmp b]) (ht : tmps[a]?.getD undef = .pointer (some ⟨n, 0, none⟩)) (ht' : tmps[a']?.getD undef = .pointer (some ⟨n', 0, none⟩)) (hb : tmps[b]?.getD undef = v) (h : BoxD n d s w1) (h' : BoxD n' d' s' w1) : (results fn tmps).run Tryz.prog w1 = .ok (.tuple #[dv d s, dv d' s', v]) w1 := by
  have h1 := Tryz.isAgg40
  have h2 := Tryz.sizeOf40
  obtain ⟨_, ⟨c1, c2, c3, c4, c5, c6⟩, _⟩ := h
  obtain ⟨_, ⟨d1, d2, d3, d4, d5, d6⟩, _⟩ := h'
  simp [results, hf, go_sem, ht, ht', hb, h1, h2, c1, c2, c3, c4, c5, c6, d1, d2, d3, d4, d5, d6]

/-- what is asked of a descriptor that comes in -/
structure Fit (d : De) : Prop where
  f : d.f.size ≤ 140737488355328
  t : d.t.size ≤ 140737488355328
  n : d.ms.length ≤ 1000
  r : InR d

end Go.Proofs.YticikmkehobblaaGreatDoor.Ds
