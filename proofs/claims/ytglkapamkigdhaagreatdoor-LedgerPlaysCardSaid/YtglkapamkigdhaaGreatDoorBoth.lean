/-
  The program's readBoth, newest, empty, told of the model. Conditions: what may be of a reel; the library's variables hold what their types allow.
-/
import Derived.Test.YtglkapamkigdhaaGreatDoorPut
import Derived.Test.YtglkapamkigdhaaGreatDoorScan
namespace Go.Proofs.YtglkapamkigdhaaGreatDoor.Rl
open Go.RowKit
open Go.Proofs.YtglkapamkigdhaaGreatDoor.M (pageT kBase kRec inR tellT tell_len)

/-- a slice of strings in a row of its own behind block B -/
def SR (B : Nat) (v : Value) (ss : List ByteArray) (w : World) : Prop := ∃ base, B ≤ base ∧ w.ownsRow base 9 1 v ss.length (ss.map Value.string)
theorem SR.below {B : Nat} {v : Value} {ss : List ByteArray} {w w' : World} (h : SR B v ss w) (hb : Below w.heap.size w w') : SR B v ss w' := by
  obtain ⟨base, h1, h2⟩ := h
  exact ⟨base, h1, h2.kept (row := none) ⟨hb.os, hb.tape, hb.output, hb.size, fun k hk _ => hb.block k hk⟩ (Classical.em _)⟩
theorem SR.more {B B' : Nat} {v : Value} {ss : List ByteArray} {w : World} (h : SR B v ss w) (hB : B' ≤ B) : SR B' v ss w := by
  obtain ⟨base, h1, h2⟩ := h
  exact ⟨base, Nat.le_trans hB h1, h2⟩
theorem SR.form {B : Nat} {v : Value} {ss : List ByteArray} {w : World} (h : SR B v ss w) : ∃ A c, v = .slice A ss.length c := by
  obtain ⟨base, h1, h2⟩ := h
  exact own_form h2
theorem SR.nil (w : World) : SR w.heap.size (.slice none 0 0) [] w := ⟨w.heap.size, Nat.le_refl _, World.ownsRow_nil _ _ _ _⟩
theorem SR.setBelow {B : Nat} {v : Value} {ss : List ByteArray} {w : World} (h : SR B v ss w) (d i : Nat) (u : Value) (hd : d < B) : SR B v ss (w.setCell ⟨d, i, none⟩ u) := by
  obtain ⟨base, h1, h2⟩ := h
  exact ⟨base, h1, ownsRow_setCell_below h2 (a := ⟨d, i, none⟩) (Nat.lt_of_lt_of_le hd h1) u⟩
/-- a row of strings stays where only other blocks are touched -/
theorem SR.keep {B : Nat} {v : Value} {ss : List ByteArray} {w w' : World} (h : SR B v ss w) (hk : ∀ (k : Nat) (cs : Array Value) (f : Nat × Nat), w.heap[k]? = some (Obj.cells cs 9 f) → w'.heap[k]? = some (Obj.cells cs 9 f)) : SR B v ss w' := by
  obtain ⟨base, h1, hs, h2⟩ := h
  refine ⟨base, h1, hs, ?_⟩
  rcases h2 with hn | ⟨g, cap, cur, rfl, hb, hg, rest⟩
  · exact .inl hn
  · exact .inr ⟨g, cap, cur, rfl, hb, hk _ _ _ hg, rest⟩

/-- what is told of one tape's text, in w -/
structure TV (B : Nat) (s : Text) (v : Array Value) (w : World) : Prop where
  ex : ∃ b rv ss, v = #[.int .i64 (tellT s).1, .string b, rv, .int .i64 (tellT s).2.2.2, .int .i64 s.length] ∧ b.data.toList = (tellT s).2.1 ∧ texts ss = (tellT s).2.2.1 ∧ SR B rv ss w
theorem tape_any (s : Text) (w : World) (hs : s.length ≤ 1000000000000) (hg : Good w) :
    Calls Tryz.prog 57 #[.string (tx s)] w fun e w' => ∃ b rv ss, e = .returned (.agg #[.int .i64 (tellT s).1, .string b, rv, .int .i64 (tellT s).2.2.2, .int .i64 s.length]) ∧ b.data.toList = (tellT s).2.1 ∧ texts ss = (tellT s).2.2.1 ∧ SR w.heap.size rv ss w' ∧ Below w.heap.size w w' := by
  have h := read_any (tx s) w (by rw [tx_size]; exact hs) hg
  rw [show (tx s).data.toList = s by simp, tx_size] at h
  refine h.mono ?_
  rintro e w' ⟨b, rv, ss, rfl, h1, h2, h3, h4⟩
  exact ⟨b, rv, ss, rfl, h1, h2, ⟨_, by omega, h3⟩, h4⟩

theorem both_off {b : Nat} {m : M} {w : World} (hr : RP b m w) (ho : m.off = true) :
    Calls Tryz.prog 28 #[ptr b] w fun e w' => e = .returned (.tuple #[.agg #[.int .i64 0, .string ⟨#[]⟩, .slice none 0 0, .int .i64 0, .int .i64 0, .int .i64 0, .string ⟨#[]⟩, .slice none 0 0, .int .i64 0, .int .i64 0], .int .i64 30]) ∧ Below w.heap.size w w' := by
  have c1 := fun w (hr : RP b m w) => c_read 0 hr
  have e1 : m.read 0 = ([], 30) := by unfold M.read; rw [if_neg (by decide), if_pos ho]
  rw [e1] at c1
  have hr2 := (hr.below ((Below.refl _ w).alloc (Nat.le_refl _) (.cells #[.int .i64 0, .string ⟨#[]⟩, .slice none 0 0, .int .i64 0, .int .i64 0, .int .i64 0, .string ⟨#[]⟩, .slice none 0 0, .int .i64 0, .int .i64 0] 71))).below ((Below.refl _ _).alloc (Nat.le_refl _) (.cells #[.int .i64 0, .string ⟨#[]⟩, .slice none 0 0, .int .i64 0, .int .i64 0, .int .i64 0, .string ⟨#[]⟩, .slice none 0 0, .int .i64 0, .int .i64 0] 71))
  clear e1 ho
  go_enter Tryz.func28, Tryz.ntmps28
  go_wp2_with fail
  refine wp_loop_rounds 3 ?_
  rw [rounds_succ]
  go_wp2_with fail
  refine (c1 _ hr2).mono ?_
  rintro e w' ⟨rfl, rfl⟩
  go_wp2_with fail
  exact bodyPost_ret (v := .tuple #[.agg #[.int .i64 0, .string ⟨#[]⟩, .slice none 0 0, .int .i64 0, .int .i64 0, .int .i64 0, .string ⟨#[]⟩, .slice none 0 0, .int .i64 0, .int .i64 0], .int .i64 30]) (by simp [results, Tryz.results28, go_sem]) rfl ⟨rfl, ((Below.refl _ w).alloc (Nat.le_refl _) _).alloc (by simp) _⟩

set_option maxHeartbeats 8000000 in
set_option maxRecDepth 100000 in
theorem both_on {b : Nat} {m : M} {w : World} (hr : RP b m w) (ho : m.off = false) (hm : m.ok) (hg : Good w) :
    Calls Tryz.prog 28 #[ptr b] w fun e w' => ∃ b0 rv0 ss0 b1 rv1 ss1,
      e = .returned (.tuple #[.agg #[.int .i64 (tellT m.a.s).1, .string b0, rv0, .int .i64 (tellT m.a.s).2.2.2, .int .i64 m.a.s.length, .int .i64 (tellT m.b.s).1, .string b1, rv1, .int .i64 (tellT m.b.s).2.2.2, .int .i64 m.b.s.length], .int .i64 0]) ∧
      (b0.data.toList = (tellT m.a.s).2.1 ∧ texts ss0 = (tellT m.a.s).2.2.1 ∧ SR w.heap.size rv0 ss0 w') ∧ (b1.data.toList = (tellT m.b.s).2.1 ∧ texts ss1 = (tellT m.b.s).2.2.1 ∧ SR w.heap.size rv1 ss1 w') ∧ Below w.heap.size w w' := by
  have c1 := fun w (hr : RP b m w) => c_read 0 hr
  have e1 : m.read 0 = (m.a.s, 0) := by unfold M.read; rw [if_neg (by decide), if_neg (by rw [ho]; decide)]; rfl
  rw [e1] at c1
  have c2 := fun w (hr : RP b m w) => c_read 1 hr
  have e2 : m.read 1 = (m.b.s, 0) := by unfold M.read; rw [if_neg (by decide), if_neg (by rw [ho]; decide)]; rfl
  rw [e2] at c2
  have hfits := hm.fits
  have hroom := hm.room
  have ca := fun w hg => tape_any m.a.s w (by omega) hg
  have cb := fun w hg => tape_any m.b.s w (by omega) hg
  have B2 : Below w.heap.size w ((w.alloc (.cells #[.int .i64 0, .string ⟨#[]⟩, .slice none 0 0, .int .i64 0, .int .i64 0, .int .i64 0, .string ⟨#[]⟩, .slice none 0 0, .int .i64 0, .int .i64 0] 71)).alloc (.cells #[.int .i64 0, .string ⟨#[]⟩, .slice none 0 0, .int .i64 0, .int .i64 0, .int .i64 0, .string ⟨#[]⟩, .slice none 0 0, .int .i64 0, .int .i64 0] 71)) :=
    ((Below.refl _ w).alloc (Nat.le_refl _) _).alloc (by simp) _
  obtain ⟨W, hW⟩ : ∃ W, W = ((w.alloc (.cells #[.int .i64 0, .string ⟨#[]⟩, .slice none 0 0, .int .i64 0, .int .i64 0, .int .i64 0, .string ⟨#[]⟩, .slice none 0 0, .int .i64 0, .int .i64 0] 71)).alloc (.cells #[.int .i64 0, .string ⟨#[]⟩, .slice none 0 0, .int .i64 0, .int .i64 0, .int .i64 0, .string ⟨#[]⟩, .slice none 0 0, .int .i64 0, .int .i64 0] 71)) := ⟨_, rfl⟩
  rw [← hW] at B2
  have hWs : W.heap.size = w.heap.size + 2 := by rw [hW]; simp
  have zb0 : W.heap[w.heap.size]? = some (.cells #[.int .i64 0, .string ⟨#[]⟩, .slice none 0 0, .int .i64 0, .int .i64 0, .int .i64 0, .string ⟨#[]⟩, .slice none 0 0, .int .i64 0, .int .i64 0] 71 (0, 0)) := by rw [hW, Below.heap_alloc _ _ _ (by simp)]; exact heap_alloc_new w _
  have zb1 : W.heap[w.heap.size + 1]? = some (.cells #[.int .i64 0, .string ⟨#[]⟩, .slice none 0 0, .int .i64 0, .int .i64 0, .int .i64 0, .string ⟨#[]⟩, .slice none 0 0, .int .i64 0, .int .i64 0] 71 (0, 0)) := by
    rw [hW]
    have := heap_alloc_new (w.alloc (.cells #[.int .i64 0, .string ⟨#[]⟩, .slice none 0 0, .int .i64 0, .int .i64 0, .int .i64 0, .string ⟨#[]⟩, .slice none 0 0, .int .i64 0, .int .i64 0] 71)) (.cells #[.int .i64 0, .string ⟨#[]⟩, .slice none 0 0, .int .i64 0, .int .i64 0, .int .i64 0, .string ⟨#[]⟩, .slice none 0 0, .int .i64 0, .int .i64 0] 71)
    simpa using this
  clear e1 e2 ho hfits hroom
  go_enter Tryz.func28, Tryz.ntmps28
  go_wp2_with fail
  rw [← hW]
  clear hW
  refine wp_loop_rounds 3 ?_
  rw [rounds_succ]
  go_wp2_with fail
  refine (c1 _ (hr.below B2)).mono ?_
  rintro e w' ⟨rfl, rfl⟩
  go_wp2_with fail
  refine (ca _ (hg.below B2)).mono ?_
  rintro e w3 ⟨b0, rv0, ss0, rfl, h1, h2, h3, bb⟩
  have B3 := B2.trans (bb.mono B2.size)
  obtain ⟨A0, n0, rfl⟩ := h3.form
  have yb0 := (bb.block w.heap.size (by omega)).trans zb0
  have yb1 := (bb.block (w.heap.size + 1) (by omega)).trans zb1
  have q1 : ∀ i, w3.cell? ⟨w.heap.size + 1, i, none⟩ = _ := fun i => Lib.cell_of_heap yb1 i
  have x1 : ∀ i, w3.frozen? ⟨w.heap.size + 1, i, none⟩ = false := fun i => Lib.frozen_of_heap yb1 i
  go_wp2_with fail
  rw [rounds_succ]
  go_wp2_with fail
  have tb1 := heap_setCell_same _ (w.heap.size + 1) 4 _ _ (.int .i64 m.a.s.length) (heap_setCell_same _ (w.heap.size + 1) 3 _ _ (.int .i64 (tellT m.a.s).2.2.2) (heap_setCell_same _ (w.heap.size + 1) 2 _ _ (.slice A0 ss0.length n0) (heap_setCell_same _ (w.heap.size + 1) 1 _ _ (.string b0) (heap_setCell_same w3 (w.heap.size + 1) 0 _ _ (.int .i64 (tellT m.a.s).1) yb1))))
  have B4 := ((((B3.setCell (p := ⟨w.heap.size + 1, 0, none⟩) (Nat.le_succ _) (.int .i64 (tellT m.a.s).1)).setCell (p := ⟨w.heap.size + 1, 1, none⟩) (Nat.le_succ _) (.string b0)).setCell (p := ⟨w.heap.size + 1, 2, none⟩) (Nat.le_succ _) (.slice A0 ss0.length n0)).setCell (p := ⟨w.heap.size + 1, 3, none⟩) (Nat.le_succ _) (.int .i64 (tellT m.a.s).2.2.2)).setCell (p := ⟨w.heap.size + 1, 4, none⟩) (Nat.le_succ _) (.int .i64 m.a.s.length)
  have tb0 : ((((((w3.setCell ⟨w.heap.size + 1, 0, none⟩ (.int .i64 (tellT m.a.s).1)).setCell ⟨w.heap.size + 1, 1, none⟩ (.string b0)).setCell ⟨w.heap.size + 1, 2, none⟩ (.slice A0 ss0.length n0)).setCell ⟨w.heap.size + 1, 3, none⟩ (.int .i64 (tellT m.a.s).2.2.2)).setCell ⟨w.heap.size + 1, 4, none⟩ (.int .i64 m.a.s.length)).heap[w.heap.size]?) = some (.cells #[.int .i64 0, .string ⟨#[]⟩, .slice none 0 0, .int .i64 0, .int .i64 0, .int .i64 0, .string ⟨#[]⟩, .slice none 0 0, .int .i64 0, .int .i64 0] 71 (0, 0)) := by
    rw [Below.heap_setCell _ _ _ _ (by show w.heap.size ≠ w.heap.size + 1; omega), Below.heap_setCell _ _ _ _ (by show w.heap.size ≠ w.heap.size + 1; omega), Below.heap_setCell _ _ _ _ (by show w.heap.size ≠ w.heap.size + 1; omega), Below.heap_setCell _ _ _ _ (by show w.heap.size ≠ w.heap.size + 1; omega), Below.heap_setCell _ _ _ _ (by show w.heap.size ≠ w.heap.size + 1; omega)]
    exact yb0
  have h4 : SR (w.heap.size + 2) (.slice A0 ss0.length n0) ss0 w3 := h3.more (by omega)
  have h5 := ((((h4.setBelow (w.heap.size + 1) 0 (.int .i64 (tellT m.a.s).1) (by omega)).setBelow (w.heap.size + 1) 1 (.string b0) (by omega)).setBelow (w.heap.size + 1) 2 (.slice A0 ss0.length n0) (by omega)).setBelow (w.heap.size + 1) 3 (.int .i64 (tellT m.a.s).2.2.2) (by omega)).setBelow (w.heap.size + 1) 4 (.int .i64 m.a.s.length) (by omega)
  simp only [List.setIfInBounds_toArray, List.set_cons_zero, List.set_cons_succ] at tb1
  have hsz4 : w.heap.size + 2 ≤ w3.heap.size := by have := bb.size; omega
  clear h3 h4 q1 x1 yb0 yb1 zb0 zb1 B2 B3 bb hWs ca c1
  obtain ⟨E0, hE0⟩ : ∃ E0, (tellT m.a.s).1 = E0 := ⟨_, rfl⟩
  obtain ⟨R0, hR0⟩ : ∃ R0, (tellT m.a.s).2.2.2 = R0 := ⟨_, rfl⟩
  rw [hE0, hR0] at tb1 B4 tb0 h5
  simp only [hE0, hR0]
  obtain ⟨W4, hW4⟩ : ∃ W4, W4 = (((((w3.setCell ⟨w.heap.size + 1, 0, none⟩ (.int .i64 E0)).setCell ⟨w.heap.size + 1, 1, none⟩ (.string b0)).setCell ⟨w.heap.size + 1, 2, none⟩ (.slice A0 ss0.length n0)).setCell ⟨w.heap.size + 1, 3, none⟩ (.int .i64 R0)).setCell ⟨w.heap.size + 1, 4, none⟩ (.int .i64 m.a.s.length)) := ⟨_, rfl⟩
  have hs4 : W4.heap.size = w3.heap.size := by rw [hW4]; simp [World.setCell]
  rw [← hW4] at tb1 B4 tb0 h5 ⊢
  clear hW4
  refine (c2 _ (hr.below B4)).mono ?_
  rintro e w' ⟨rfl, rfl⟩
  go_wp2_with fail
  refine (cb _ (hg.below B4)).mono ?_
  rintro e w5 ⟨b1, rv1, ss1, rfl, g1, g2, g3, bb⟩
  obtain ⟨A1, n1, rfl⟩ := g3.form
  have B5 := B4.trans (bb.mono B4.size)
  have yb0 := (bb.block w.heap.size (by omega)).trans tb0
  have yb1 := (bb.block (w.heap.size + 1) (by omega)).trans tb1
  have h6 := h5.below bb
  have q0 : ∀ i, w5.cell? ⟨w.heap.size, i, none⟩ = _ := fun i => Lib.cell_of_heap yb0 i
  have q1 : ∀ i, w5.cell? ⟨w.heap.size + 1, i, none⟩ = _ := fun i => Lib.cell_of_heap yb1 i
  have x0 : ∀ i, w5.frozen? ⟨w.heap.size, i, none⟩ = false := fun i => Lib.frozen_of_heap yb0 i
  have x1 : ∀ i, w5.frozen? ⟨w.heap.size + 1, i, none⟩ = false := fun i => Lib.frozen_of_heap yb1 i
  have g4 : SR (w.heap.size + 2) (.slice A1 ss1.length n1) ss1 w5 := g3.more (by omega)
  obtain ⟨E1, hE1⟩ : ∃ E1, (tellT m.b.s).1 = E1 := ⟨_, rfl⟩
  obtain ⟨R1, hR1⟩ : ∃ R1, (tellT m.b.s).2.2.2 = R1 := ⟨_, rfl⟩
  simp only [hE1, hR1]
  have hsz5 : w.heap.size + 2 ≤ w5.heap.size := by have := bb.size; omega
  clear yb0 yb1 tb0 tb1 h5 g3 bb B4 cb c2
  go_wp2_with fail
  rw [rounds_succ]
  go_wp2_with fail
  refine bodyPost_ret (v := .tuple #[.agg #[.int .i64 E0, .string b0, .slice A0 ss0.length n0, .int .i64 R0, .int .i64 m.a.s.length, .int .i64 E1, .string b1, .slice A1 ss1.length n1, .int .i64 R1, .int .i64 m.b.s.length], .int .i64 0]) (by simp [results, Tryz.results28, go_sem, q0]) rfl
    ⟨b0, _, ss0, b1, _, ss1, by rw [hE0, hR0, hE1, hR1], ⟨h1, h2, ?_⟩, ⟨g1, g2, ?_⟩, ?_⟩
  · refine SR.more (B := w.heap.size + 2) ?_ (by omega)
    repeat (refine SR.setBelow ?_ _ _ _ (by omega))
    exact h6
  · refine SR.more (B := w.heap.size + 2) ?_ (by omega)
    repeat (refine SR.setBelow ?_ _ _ _ (by omega))
    exact g4
  · repeat (refine Below.setCell ?_ (by first | exact Nat.le_refl _ | exact Nat.le_succ _) _)
    exact B5

/-! ### newest, empty -/
theorem newest_any (e0 e1 r0 z0 r1 z1 : Int) (b0 b1 : ByteArray) (v0 v1 : Value) (w : World) :
    Calls Tryz.prog 29 #[.agg #[.int .i64 e0, .string b0, v0, .int .i64 r0, .int .i64 z0, .int .i64 e1, .string b1, v1, .int .i64 r1, .int .i64 z1]] w fun e w' => e = .returned (.int .i64 (if e0 < e1 then 1 else 0)) ∧ Below w.heap.size w w' := by
  by_cases h : e0 < e1
  · rw [if_pos h]
    go_enter Tryz.func29, Tryz.ntmps29
    go_wp2
    go_ret
    exact ⟨rfl, (Below.refl _ w).alloc (Nat.le_refl _) _⟩
  · rw [if_neg h]
    go_enter Tryz.func29, Tryz.ntmps29
    go_wp2
    go_ret
    exact ⟨rfl, (Below.refl _ w).alloc (Nat.le_refl _) _⟩
/-- a tape is wiped, if it has anything -/
def emptyM (m : M) (t : Int) (n : Nat) : Int × M := if n = 0 then (0, m) else m.trim t 0
theorem emptyM_ok {m : M} (hm : m.ok) (ho : m.ops < 4611686018427387904) (t : Int) (n : Nat) : (emptyM m t n).2.ok ∧ (emptyM m t n).2.ops ≤ m.ops + 1 := by
  unfold emptyM
  split
  · exact ⟨hm, Nat.le_succ _⟩
  · exact ⟨hm.trim t 0 ho, m.trim_ops t 0⟩
theorem empty_any {q b : Nat} {l : Lg} {m : M} {w : World} (t e r : Int) (n : Nat) (x : ByteArray) (v : Value) (h : LP q b l w) (hr : RP b m w) (hm : m.ok) (ho : m.ops < 4611686018427387904) :
    Calls Tryz.prog 58 #[ptr q, .int .i64 t, .agg #[.int .i64 e, .string x, v, .int .i64 r, .int .i64 n]] w fun a w' => a = .returned (.int .i64 (emptyM m t n).1) ∧ RP b (emptyM m t n).2 w' ∧ FL b q w w' ∧ LP q b l w' := by
  have hblt := hr.lt
  have hB : Below w.heap.size w (w.alloc (.cells #[.int .i64 e, .string x, v, .int .i64 r, .int .i64 n] 70)) := (Below.refl _ w).alloc (Nat.le_refl _) _
  have hL := h.below hB
  have hR := hr.below hB
  have F0 : FL b q w (w.alloc (.cells #[.int .i64 e, .string x, v, .int .i64 r, .int .i64 n] 70)) := FL.of_below hB hblt
  have hql := h.lt
  have c0 := h.cells.c0
  have c0' := hL.cells.c0
  unfold emptyM
  by_cases hn : n = 0
  · subst hn
    rw [if_pos rfl]
    go_enter Tryz.func58, Tryz.ntmps58
    go_wp2
    go_ret
    exact ⟨rfl, hR, F0, hL⟩
  · rw [if_neg hn]
    have hz : ((n : Int) == 0) = false := by simp; omega
    have cw := c_wipe t hR hm ho
    clear hn
    go_enter Tryz.func58, Tryz.ntmps58
    go_wp2_with fail
    refine cw.mono ?_
    rintro a w1 ⟨rfl, r1, f1⟩
    go_wp2_with fail
    go_ret
    exact ⟨rfl, r1, F0.tr (FL.of_fr f1), hL.fr hR f1⟩

end Go.Proofs.YtglkapamkigdhaaGreatDoor.Rl
