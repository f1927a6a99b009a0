/-
  The document's own reel, told of the model: New, Begin, Free, Read, Write, Sync, Wipe, Trim. Conditions: what may be of a reel; texts at most 2^46 bytes; fewer than 2^62 operations.
  The document's own operations on a reel, told of the model: Write, Sync, Wipe, Trim. Conditions: what may be of a reel; texts at most 2^46 bytes; fewer than 2^62 operations.
  A new row of bytes out of a text, and back. No condition.
-/
import Derived.Test.YtglkapamkigdhaaGreatDoorRlBll
import Derived.Deep.QuietTactic
import Derived.BigQuiet
import Derived.WalkSpells
import Derived.RegionTactic
import Derived.BigRegion
import Derived.Lib.AtoiErrMem
namespace Go.Proofs.YtglkapamkigdhaaGreatDoor.Rl
open Go.RowKit

/-- Blocks p, p + 1 and p + 2 of w are the reel m, as the document holds it. -/
def RD (p : Nat) (m : M) (w : World) : Prop :=
  w.heap[p]? = some (.cells #[.string (tx m.a.s), .string (tx m.b.s)] 9 (0, 0)) ∧ w.heap[p + 1]? = some (.cells #[.int .i64 m.a.k, .int .i64 m.b.k] 3 (0, 0)) ∧
  w.heap[p + 2]? = some (.cells #[.slice (some ⟨p, 0, none⟩) 2 2, .slice (some ⟨p + 1, 0, none⟩) 2 2, .int .i64 m.room, .int .i64 m.left, .bool m.off, .int .i64 m.ops] 50 (0, 0))
abbrev dtr (p : Nat) : Value := .pointer (some ⟨p + 2, 0, none⟩)

/-- What a call on the document's reel may touch. -/
structure FD (p : Nat) (w w' : World) : Prop where
  below : Below p w w'
  old : ∀ k, k < w.heap.size → k ≠ p → k ≠ p + 1 → k ≠ p + 2 → w'.heap[k]? = w.heap[k]?
theorem FD.refl (p : Nat) (w : World) : FD p w w := ⟨Below.refl _ _, fun _ _ _ _ _ => rfl⟩
theorem FD.trans {p : Nat} {w1 w2 w3 : World} (h : FD p w1 w2) (k : FD p w2 w3) : FD p w1 w3 :=
  ⟨h.below.trans k.below, fun i hi h0 h1 h2 => (k.old i (Nat.lt_of_lt_of_le hi h.below.size) h0 h1 h2).trans (h.old i hi h0 h1 h2)⟩
theorem FD.of_below {p : Nat} {w w' : World} (h : Below w.heap.size w w') (hp : p ≤ w.heap.size) : FD p w w' := ⟨h.mono hp, fun k hk _ _ _ => h.block k hk⟩
theorem FD.alloc (p : Nat) (w : World) (o : Obj) (hp : p ≤ w.heap.size) : FD p w (w.alloc o) := FD.of_below ((Below.refl _ w).alloc (Nat.le_refl _) o) hp
theorem FD.set (p d i : Nat) (w : World) (u : Value) (hd : d ≤ 2) : FD p w (w.setCell ⟨p + d, i, none⟩ u) :=
  ⟨(Below.refl p w).setCell (p := ⟨p + d, i, none⟩) (Nat.le_add_right _ _) u, fun k _ h0 h1 h2 => Below.heap_setCell _ _ _ _ (by show k ≠ p + d; omega)⟩
theorem FD.set0 (p i : Nat) (w : World) (u : Value) : FD p w (w.setCell ⟨p, i, none⟩ u) := FD.set p 0 i w u (by decide)
theorem FD.set1 (p i : Nat) (w : World) (u : Value) : FD p w (w.setCell ⟨p + 1, i, none⟩ u) := FD.set p 1 i w u (by decide)
theorem FD.set2 (p i : Nat) (w : World) (u : Value) : FD p w (w.setCell ⟨p + 2, i, none⟩ u) := FD.set p 2 i w u (by decide)
theorem FD.drew {p : Nat} {w w' : World} (h : FD p w w') : FD p w w'.drew := ⟨h.below.drew, h.old⟩
theorem FD.far {p g : Nat} (j : Nat) {w w' : World} (h : FD p w w') (u : Value) (hg : w.heap.size ≤ g) (hp : p ≤ w.heap.size) : FD p w (w'.setCell ⟨g, j, none⟩ u) :=
  ⟨h.below.setCell (p := ⟨g, j, none⟩) (by show p ≤ g; omega) u, fun k hk h0 h1 h2 => (Below.heap_setCell _ _ _ _ (by show k ≠ g; omega)).trans (h.old k hk h0 h1 h2)⟩

theorem RD.lt {p : Nat} {m : M} {w : World} (h : RD p m w) : p + 2 < w.heap.size := lt_of_block h.2.2
theorem RD.keep {p : Nat} {m : M} {w w' : World} (h : RD p m w) (h0 : w'.heap[p]? = w.heap[p]?) (h1 : w'.heap[p + 1]? = w.heap[p + 1]?) (h2 : w'.heap[p + 2]? = w.heap[p + 2]?) : RD p m w' := by
  unfold RD at *; rw [h0, h1, h2]; exact h
theorem RD.below {p : Nat} {m : M} {w w' : World} (h : RD p m w) (hb : Below w.heap.size w w') : RD p m w' := by
  have := h.lt
  exact h.keep (hb.block _ (by omega)) (hb.block _ (by omega)) (hb.block _ (by omega))
theorem RD.drew {p : Nat} {m : M} {w : World} (h : RD p m w) : RD p m w.drew := h
theorem RD.far {p : Nat} {m : M} {w : World} (h : RD p m w) (g j : Nat) (u : Value) (hg : p + 2 < g) : RD p m (w.setCell ⟨g, j, none⟩ u) :=
  h.keep (Below.heap_setCell _ _ _ _ (by show p ≠ g; omega)) (Below.heap_setCell _ _ _ _ (by show p + 1 ≠ g; omega)) (Below.heap_setCell _ _ _ _ (by show p + 2 ≠ g; omega))
/-- the program's calls leave the document's reel, and the document's calls the program's -/
theorem RD.fr {p b : Nat} {m m' : M} {w w' : World} (h : RD p m w) (hb : RP b m' w) (f : Fr b w w') (hne : b < p ∨ p + 2 < b) : RD p m w' :=
  ⟨f.other hb _ _ _ _ h.1 (by omega) (by decide), f.other hb _ _ _ _ h.2.1 (by omega) (by decide), f.other hb _ _ _ _ h.2.2 (by omega) (by decide)⟩
theorem RP.fd {p b : Nat} {m m' : M} {w w' : World} (h : RP b m w) (hd : RD p m' w) (f : FD p w w') (hne : b < p ∨ p + 2 < b) : RP b m w' := by
  have ne : ∀ k, Mine w b k → k ≠ p ∧ k ≠ p + 1 ∧ k ≠ p + 2 := by
    intro k hk
    rcases (h.mine hk).2 with rfl | ⟨o, f', h5⟩
    · omega
    · refine ⟨?_, ?_, ?_⟩
      · rintro rfl; rw [hd.1] at h5; injection h5 with h5; injection h5 with _ h5; exact absurd h5 (by decide)
      · rintro rfl; rw [hd.2.1] at h5; injection h5 with h5; injection h5 with _ h5; exact absurd h5 (by decide)
      · rintro rfl; rw [hd.2.2] at h5; injection h5 with h5; injection h5 with _ h5; exact absurd h5 (by decide)
  have same : ∀ k, Mine w b k → w'.heap[k]? = w.heap[k]? := fun k hk => f.old k (h.mine hk).1 (ne k hk).1 (ne k hk).2.1 (ne k hk).2.2
  obtain ⟨v0, v1, hb, h0, h1, hs⟩ := h
  exact ⟨v0, v1, by rw [same b (.inl rfl)]; exact hb, h0.keep fun g hg => same g (mine0 hb hg), h1.keep fun g hg => same g (mine1 hb hg), hs⟩

/-! ### cells, and what is written -/
structure DC (p : Nat) (m : M) (w : World) : Prop where
  s0 : w.cell? ⟨p, 0, none⟩ = some (.string (tx m.a.s))
  s1 : w.cell? ⟨p, 1, none⟩ = some (.string (tx m.b.s))
  k0 : w.cell? ⟨p + 1, 0, none⟩ = some (.int .i64 m.a.k)
  k1 : w.cell? ⟨p + 1, 1, none⟩ = some (.int .i64 m.b.k)
  c0 : w.cell? ⟨p + 2, 0, none⟩ = some (.slice (some ⟨p, 0, none⟩) 2 2)
  c1 : w.cell? ⟨p + 2, 1, none⟩ = some (.slice (some ⟨p + 1, 0, none⟩) 2 2)
  c2 : w.cell? ⟨p + 2, 2, none⟩ = some (.int .i64 m.room)
  c3 : w.cell? ⟨p + 2, 3, none⟩ = some (.int .i64 m.left)
  c4 : w.cell? ⟨p + 2, 4, none⟩ = some (.bool m.off)
  c5 : w.cell? ⟨p + 2, 5, none⟩ = some (.int .i64 m.ops)
  f0 : ∀ i, w.frozen? ⟨p, i, none⟩ = false
  f1 : ∀ i, w.frozen? ⟨p + 1, i, none⟩ = false
  f2 : ∀ i, w.frozen? ⟨p + 2, i, none⟩ = false
theorem RD.cells {p : Nat} {m : M} {w : World} (h : RD p m w) : DC p m w :=
  ⟨by rw [Lib.cell_of_heap h.1]; rfl, by rw [Lib.cell_of_heap h.1]; rfl, by rw [Lib.cell_of_heap h.2.1]; rfl, by rw [Lib.cell_of_heap h.2.1]; rfl, by rw [Lib.cell_of_heap h.2.2]; rfl, by rw [Lib.cell_of_heap h.2.2]; rfl,
   by rw [Lib.cell_of_heap h.2.2]; rfl, by rw [Lib.cell_of_heap h.2.2]; rfl, by rw [Lib.cell_of_heap h.2.2]; rfl, by rw [Lib.cell_of_heap h.2.2]; rfl,
   fun i => Lib.frozen_of_heap h.1 i, fun i => Lib.frozen_of_heap h.2.1 i, fun i => Lib.frozen_of_heap h.2.2 i⟩
theorem RD.set2 {p : Nat} {m : M} {w : World} (h : RD p m w) (i : Nat) (u : Value) {m' : M} (ha : m'.a = m.a) (hb : m'.b = m.b)
    (h2 : (#[.slice (some ⟨p, 0, none⟩) 2 2, .slice (some ⟨p + 1, 0, none⟩) 2 2, .int .i64 m.room, .int .i64 m.left, .bool m.off, .int .i64 m.ops] : Array Value).setIfInBounds i u =
      #[.slice (some ⟨p, 0, none⟩) 2 2, .slice (some ⟨p + 1, 0, none⟩) 2 2, .int .i64 m'.room, .int .i64 m'.left, .bool m'.off, .int .i64 m'.ops]) : RD p m' (w.setCell ⟨p + 2, i, none⟩ u) := by
  refine ⟨?_, ?_, ?_⟩
  · rw [Below.heap_setCell _ _ _ _ (by show p ≠ p + 2; omega), ha, hb]; exact h.1
  · rw [Below.heap_setCell _ _ _ _ (by show p + 1 ≠ p + 2; omega), ha, hb]; exact h.2.1
  · rw [← h2]; exact heap_setCell_same w (p + 2) i _ _ _ h.2.2
theorem RD.left {p : Nat} {m : M} {w : World} (h : RD p m w) (x : Int) : RD p { m with left := x } (w.setCell ⟨p + 2, 3, none⟩ (.int .i64 x)) := h.set2 3 _ rfl rfl rfl
theorem RD.off {p : Nat} {m : M} {w : World} (h : RD p m w) (x : Bool) : RD p { m with off := x } (w.setCell ⟨p + 2, 4, none⟩ (.bool x)) := h.set2 4 _ rfl rfl rfl
theorem RD.ops {p : Nat} {m : M} {w : World} (h : RD p m w) (x : Nat) : RD p { m with ops := x } (w.setCell ⟨p + 2, 5, none⟩ (.int .i64 x)) := h.set2 5 _ rfl rfl rfl
theorem RD.sA {p : Nat} {m : M} {w : World} (h : RD p m w) (s : Text) : RD p { m with a := ⟨s, m.a.k⟩ } (w.setCell ⟨p, 0, none⟩ (.string (tx s))) :=
  ⟨heap_setCell_same w p 0 _ _ _ h.1, by rw [Below.heap_setCell _ _ _ _ (by show p + 1 ≠ p; omega)]; exact h.2.1, by rw [Below.heap_setCell _ _ _ _ (by show p + 2 ≠ p; omega)]; exact h.2.2⟩
theorem RD.sB {p : Nat} {m : M} {w : World} (h : RD p m w) (s : Text) : RD p { m with b := ⟨s, m.b.k⟩ } (w.setCell ⟨p, 1, none⟩ (.string (tx s))) :=
  ⟨heap_setCell_same w p 1 _ _ _ h.1, by rw [Below.heap_setCell _ _ _ _ (by show p + 1 ≠ p; omega)]; exact h.2.1, by rw [Below.heap_setCell _ _ _ _ (by show p + 2 ≠ p; omega)]; exact h.2.2⟩
theorem RD.kA {p : Nat} {m : M} {w : World} (h : RD p m w) (k : Nat) : RD p { m with a := ⟨m.a.s, k⟩ } (w.setCell ⟨p + 1, 0, none⟩ (.int .i64 k)) :=
  ⟨by rw [Below.heap_setCell _ _ _ _ (by show p ≠ p + 1; omega)]; exact h.1, heap_setCell_same w (p + 1) 0 _ _ _ h.2.1, by rw [Below.heap_setCell _ _ _ _ (by show p + 2 ≠ p + 1; omega)]; exact h.2.2⟩
theorem RD.kB {p : Nat} {m : M} {w : World} (h : RD p m w) (k : Nat) : RD p { m with b := ⟨m.b.s, k⟩ } (w.setCell ⟨p + 1, 1, none⟩ (.int .i64 k)) :=
  ⟨by rw [Below.heap_setCell _ _ _ _ (by show p ≠ p + 1; omega)]; exact h.1, heap_setCell_same w (p + 1) 1 _ _ _ h.2.1, by rw [Below.heap_setCell _ _ _ _ (by show p + 2 ≠ p + 1; omega)]; exact h.2.2⟩

theorem tx_append (s : Text) (b : ByteArray) : tx s ++ b = tx (s ++ b.toList) := bytes_ext (by
  rw [ByteArray.toList_eq (tx s ++ b), ByteArray.toList_eq (tx (s ++ b.toList)), ByteArray.toList_eq b]; simp)
theorem tx_take (s : Text) (n : Nat) : (tx s).extract 0 n = tx (s.take n) := bytes_ext (by
  rw [ByteArray.toList_eq ((tx s).extract 0 n), ByteArray.toList_eq (tx (s.take n))]; simp)
theorem three (w : World) (o1 o2 o3 : Obj) : (((w.alloc o1).alloc o2).alloc o3).heap[w.heap.size]? = some o1 ∧ (((w.alloc o1).alloc o2).alloc o3).heap[w.heap.size + 1]? = some o2 ∧ (((w.alloc o1).alloc o2).alloc o3).heap[w.heap.size + 2]? = some o3 := by
  have e1 : (w.alloc o1).heap.size = w.heap.size + 1 := by simp
  have e2 : ((w.alloc o1).alloc o2).heap.size = w.heap.size + 2 := by simp
  refine ⟨?_, ?_, ?_⟩
  · rw [Below.heap_alloc _ _ _ (by omega), Below.heap_alloc _ _ _ (by omega)]; exact heap_alloc_new w o1
  · rw [Below.heap_alloc _ _ _ (by omega), ← e1]; exact heap_alloc_new _ o2
  · rw [← e2]; exact heap_alloc_new _ o3

theorem d_new (room : Nat) (w : World) (_hr : room ≤ 4194304) : Calls Tryz.prog 9 #[.int .i64 room] w fun e w' => e = .returned (dtr w.heap.size) ∧ RD w.heap.size (M.new room) w' ∧ Below w.heap.size w w' := by
  go_enter Tryz.func9, Tryz.ntmps9
  go_wp2
  go_ret
  exact ⟨rfl, three w _ _ _, (((Below.refl _ w).alloc (Nat.le_refl _) _).alloc (by simp) _).alloc (by simp; omega) _⟩

theorem d_begin {p : Nat} {m : M} {w : World} (t : Int) (h : RD p m w) (hm : m.ok) :
    Calls Tryz.prog 50 #[dtr p, .int .i64 t] w fun e w' => e = .returned (.int .i64 (if isT t = false then 2 else if m.dead = true then 30 else 0)) ∧ RD p (if isT t = false then m else if m.dead = true then m.cut else m.tick) w' ∧ FD p w w' := by
  have hlo := hm.lo
  have hhi := hm.hi
  obtain ⟨s0, s1, k0, k1, c0, c1, c2, c3, c4, c5, f0, f1, f2⟩ := h.cells
  cases ht : isT t with
  | false =>
    obtain ⟨h0, h1⟩ := isT_no ht
    have e0 : (t == 0) = false := by simpa using h0
    have e1 : (t == 1) = false := by simpa using h1
    have e2 : (t != 0) = true := by simpa using h0
    have e3 : (t != 1) = true := by simpa using h1
    simp only [if_true]
    go_enter Tryz.func50, Tryz.ntmps50
    go_wp2
    go_ret
    exact ⟨rfl, h, FD.refl _ _⟩
  | true =>
    simp only [Bool.true_eq_false, if_false]
    have body : ∀ t : Int, (t = 0 ∨ t = 1) → Calls Tryz.prog 50 #[dtr p, .int .i64 t] w fun e w' => e = .returned (.int .i64 (if m.dead = true then 30 else 0)) ∧ RD p (if m.dead = true then m.cut else m.tick) w' ∧ FD p w w' := by
      intro t ht
      obtain ⟨room, a, bb, left, off, ops⟩ := m
      simp only at hlo hhi c2 c3 c4 c5
      have f24 := f2 4
      have f23 := f2 3
      cases off with
      | true =>
        have hd : M.dead ⟨room, a, bb, left, true, ops⟩ = true := rfl
        rw [if_pos hd, if_pos hd]
        rcases ht with rfl | rfl
        all_goals
          go_enter Tryz.func50, Tryz.ntmps50
          go_wp2
          go_ret
          exact ⟨rfl, h.off true, FD.set2 p 4 w _⟩
      | false =>
        by_cases e0 : left = 0
        · subst e0
          have hd : M.dead ⟨room, a, bb, 0, false, ops⟩ = true := rfl
          rw [if_pos hd, if_pos hd]
          rcases ht with rfl | rfl
          all_goals
            go_enter Tryz.func50, Tryz.ntmps50
            go_wp2
            go_ret
            exact ⟨rfl, h.off true, FD.set2 p 4 w _⟩
        · have hl0 : (left == 0) = false := by simpa using e0
          have hd : ¬ M.dead ⟨room, a, bb, left, false, ops⟩ = true := by unfold M.dead; simp [e0]
          rw [if_neg hd, if_neg hd]
          by_cases hp : 0 < left
          · have e : M.tick ⟨room, a, bb, left, false, ops⟩ = ⟨room, a, bb, left - 1, false, ops⟩ := by show M.mk _ _ _ (if 0 < left then left - 1 else left) _ _ = _; rw [if_pos hp]
            rw [e]
            rcases ht with rfl | rfl
            all_goals
              go_enter Tryz.func50, Tryz.ntmps50
              go_wp2
              go_ret
              exact ⟨rfl, h.left (left - 1), FD.set2 p 3 w _⟩
          · have e : M.tick ⟨room, a, bb, left, false, ops⟩ = ⟨room, a, bb, left, false, ops⟩ := by show M.mk _ _ _ (if 0 < left then left - 1 else left) _ _ = _; rw [if_neg hp]
            rw [e]
            rcases ht with rfl | rfl
            all_goals
              go_enter Tryz.func50, Tryz.ntmps50
              go_wp2
              go_ret
              exact ⟨rfl, h, FD.refl _ _⟩
    exact body t (isT_cases ht)
theorem begin_x {p : Nat} {m : M} {w : World} {t : Int} (h : RD p m w) (hm : m.ok) (ht : isT t = false) : Calls Tryz.prog 50 #[dtr p, .int .i64 t] w fun e w' => e = .returned (.int .i64 2) ∧ RD p m w' ∧ FD p w w' := by
  have := d_begin t h hm
  rw [if_pos ht, if_pos ht] at this; exact this
theorem begin_yes {p : Nat} {m : M} {w : World} {t : Int} (h : RD p m w) (hm : m.ok) (ht : isT t = true) (hd : m.dead = true) : Calls Tryz.prog 50 #[dtr p, .int .i64 t] w fun e w' => e = .returned (.int .i64 30) ∧ RD p m.cut w' ∧ FD p w w' := by
  have := d_begin t h hm
  simp only [ht, Bool.true_eq_false, if_false, hd, if_true] at this; exact this
theorem begin_no {p : Nat} {m : M} {w : World} {t : Int} (h : RD p m w) (hm : m.ok) (ht : isT t = true) (hd : ¬ m.dead = true) : Calls Tryz.prog 50 #[dtr p, .int .i64 t] w fun e w' => e = .returned (.int .i64 0) ∧ RD p m.tick w' ∧ FD p w w' := by
  have := d_begin t h hm
  simp only [ht, Bool.true_eq_false, if_false, hd] at this; exact this

theorem d_free {p : Nat} {m : M} {w : World} (h : RD p m w) (hm : m.ok) : Calls Tryz.prog 51 #[dtr p] w fun e w' => e = .returned (.int .i64 m.free) ∧ Al w' w := by
  obtain ⟨s0, s1, k0, k1, c0, c1, c2, c3, c4, c5, f0, f1, f2⟩ := h.cells
  have hr := hm.room
  have hf := hm.fits
  have z0 := tx_size m.a.s
  have z1 := tx_size m.b.s
  go_enter Tryz.func51, Tryz.ntmps51
  go_wp2
  go_region
  all_goals go_wp2
  all_goals go_ret
  all_goals exact ⟨rfl, rfl, rfl, rfl, rfl⟩

theorem d_read {p : Nat} {m : M} {w : World} (t : Int) (h : RD p m w) : Calls Tryz.prog 32 #[dtr p, .int .i64 t] w fun e w' => e = .returned (.tuple #[.string (tx (m.read t).1), .int .i64 (m.read t).2]) ∧ w = w' := by
  obtain ⟨s0, s1, k0, k1, c0, c1, c2, c3, c4, c5, f0, f1, f2⟩ := h.cells
  cases ht : isT t with
  | false =>
    have hr : m.read t = ([], 2) := by unfold M.read; rw [if_pos ht]
    rw [hr]
    obtain ⟨h0, h1⟩ := isT_no ht
    have e0 : (t == 0) = false := by simpa using h0
    have e1 : (t == 1) = false := by simpa using h1
    have e2 : (t != 0) = true := by simpa using h0
    have e3 : (t != 1) = true := by simpa using h1
    clear hr
    go_enter Tryz.func32, Tryz.ntmps32
    go_wp2
    go_ret2
    exact ⟨rfl, rfl⟩
  | true =>
    cases hof : m.off with
    | true =>
      have hr : m.read t = ([], 30) := by unfold M.read; rw [if_neg (by rw [ht]; decide), if_pos hof]
      rw [hr]
      rw [hof] at c4
      clear hr hof
      rcases isT_cases ht with rfl | rfl
      all_goals
        go_enter Tryz.func32, Tryz.ntmps32
        go_wp2
        go_ret2
        exact ⟨rfl, rfl⟩
    | false =>
      have hr : m.read t = ((m.get t).s, 0) := by unfold M.read; rw [if_neg (by rw [ht]; decide), if_neg (by rw [hof]; decide)]
      rw [hr]
      rw [hof] at c4
      clear hr hof
      rcases isT_cases ht with rfl | rfl
      all_goals
        go_enter Tryz.func32, Tryz.ntmps32
        go_wp2
        go_ret2
        exact ⟨rfl, rfl⟩

end Go.Proofs.YtglkapamkigdhaaGreatDoor.Rl

namespace Go.Proofs.YtglkapamkigdhaaGreatDoor.Rl
open Go.RowKit

theorem RD.al {p : Nat} {m : M} {w w' : World} (h : RD p m w) (k : Al w' w) : RD p m w' := h.keep (by rw [k.1]) (by rw [k.1]) (by rw [k.1])
theorem FD.al {p : Nat} {w w1 w2 : World} (h : FD p w w1) (k : Al w2 w1) : FD p w w2 := ⟨k.below h.below, fun i hi h0 h1 h2 => by rw [k.1]; exact h.old i hi h0 h1 h2⟩

theorem dwrite_x {p : Nat} {m : M} {w : World} (t : Int) (s : ByteArray) (h : RD p m w) (hm : m.ok) (ht : isT t = false) :
    Calls Tryz.prog 22 #[dtr p, .int .i64 t, .string s] w fun e w' => e = .returned (.int .i64 (m.write t s.toList).1) ∧ RD p (m.write t s.toList).2 w' ∧ FD p w w' := by
  have hw : m.write t s.toList = (2, m) := by unfold M.write; rw [if_pos ht]
  rw [hw]
  clear hw
  go_enter Tryz.func22, Tryz.ntmps22
  go_wp2_with fail
  refine (begin_x h hm ht).mono ?_
  rintro e w1 ⟨rfl, r1, f1⟩
  go_wp2_with fail
  go_ret
  exact ⟨rfl, r1, f1⟩
theorem dsync_x {p : Nat} {m : M} {w : World} (t : Int) (h : RD p m w) (hm : m.ok) (ht : isT t = false) :
    Calls Tryz.prog 35 #[dtr p, .int .i64 t] w fun e w' => e = .returned (.int .i64 (m.sync t).1) ∧ RD p (m.sync t).2 w' ∧ FD p w w' := by
  have hw : m.sync t = (2, m) := by unfold M.sync; rw [if_pos ht]
  rw [hw]
  clear hw
  go_enter Tryz.func35, Tryz.ntmps35
  go_wp2_with fail
  refine (begin_x h hm ht).mono ?_
  rintro e w1 ⟨rfl, r1, f1⟩
  go_wp2_with fail
  go_ret
  exact ⟨rfl, r1, f1⟩
theorem dwipe_x {p : Nat} {m : M} {w : World} (t : Int) (h : RD p m w) (hm : m.ok) (ht : isT t = false) :
    Calls Tryz.prog 34 #[dtr p, .int .i64 t] w fun e w' => e = .returned (.int .i64 (m.trim t 0).1) ∧ RD p (m.trim t 0).2 w' ∧ FD p w w' := by
  have hw : m.trim t 0 = (2, m) := by unfold M.trim; rw [if_pos (.inl ht)]
  rw [hw]
  clear hw
  go_enter Tryz.func34, Tryz.ntmps34
  go_wp2_with fail
  refine (begin_x h hm ht).mono ?_
  rintro e w1 ⟨rfl, r1, f1⟩
  go_wp2_with fail
  go_ret
  exact ⟨rfl, r1, f1⟩
theorem dtrim_neg {p : Nat} {m : M} {w : World} (t n : Int) (h : RD p m w) (hn : n < 0) :
    Calls Tryz.prog 36 #[dtr p, .int .i64 t, .int .i64 n] w fun e w' => e = .returned (.int .i64 (m.trim t n).1) ∧ RD p (m.trim t n).2 w' ∧ FD p w w' := by
  have hw : m.trim t n = (2, m) := by unfold M.trim; rw [if_pos (.inr hn)]
  rw [hw]
  clear hw
  go_enter Tryz.func36, Tryz.ntmps36
  go_wp2_with fail
  go_ret
  exact ⟨rfl, h, FD.refl _ _⟩
theorem dtrim_x {p : Nat} {m : M} {w : World} (t n : Int) (h : RD p m w) (hm : m.ok) (hn : ¬ n < 0) (ht : isT t = false) :
    Calls Tryz.prog 36 #[dtr p, .int .i64 t, .int .i64 n] w fun e w' => e = .returned (.int .i64 (m.trim t n).1) ∧ RD p (m.trim t n).2 w' ∧ FD p w w' := by
  have hw : m.trim t n = (2, m) := by unfold M.trim; rw [if_pos (.inl ht)]
  rw [hw]
  clear hw
  go_enter Tryz.func36, Tryz.ntmps36
  go_wp2_with fail
  refine (begin_x h hm ht).mono ?_
  rintro e w1 ⟨rfl, r1, f1⟩
  go_wp2_with fail
  go_ret
  exact ⟨rfl, r1, f1⟩

set_option maxHeartbeats 2000000 in
theorem dwriteA {p : Nat} {m : M} {w : World} (s : ByteArray) (h : RD p m w) (hm : m.ok) (ho : m.ops < 4611686018427387904) (hsz : s.size ≤ 70368744177664) :
    Calls Tryz.prog 22 #[dtr p, .int .i64 0, .string s] w fun e w' => e = .returned (.int .i64 (m.write 0 s.toList).1) ∧ RD p (m.write 0 s.toList).2 w' ∧ FD p w w' := by
  by_cases hd : m.dead = true
  · have hw : m.write 0 s.toList = (30, m.cut) := by unfold M.write; rw [if_neg (by decide), if_pos hd]
    rw [hw]
    have cb := begin_yes (t := 0) h hm rfl hd
    clear hw hd
    go_enter Tryz.func22, Tryz.ntmps22
    go_wp2_with fail
    refine cb.mono ?_
    rintro e w1 ⟨rfl, r1, f1⟩
    go_wp2_with fail
    go_ret
    exact ⟨rfl, r1, f1⟩
  have cb := begin_no (t := 0) h hm rfl hd
  have cf := fun w (h : RD p m.tick w) => d_free h hm.tick
  have hfree : m.tick.free = (m.room : Int) - m.used := by unfold M.free M.tick M.used; simp only; omega
  have hroom := hm.room
  have hfits := hm.fits
  by_cases hf : m.room < m.used + s.toList.length
  · have hw : m.write 0 s.toList = (5, m.tick) := by unfold M.write; rw [if_neg (by decide), if_neg hd, if_pos hf]
    rw [hw]
    rw [size_toList] at hf
    obtain ⟨q, hq⟩ : ∃ q, q = m.tick.free := ⟨_, rfl⟩
    rw [← hq] at cf
    have hlt : q < (s.size : Int) := by rw [hq]; unfold M.used at *; omega
    clear hw hd hq
    go_enter Tryz.func22, Tryz.ntmps22
    go_wp2_with fail
    refine cb.mono ?_
    rintro e w1 ⟨rfl, r1, f1⟩
    go_wp2_with fail
    refine (cf _ r1).mono ?_
    rintro e w2 ⟨rfl, a2⟩
    go_wp2_with fail
    go_ret
    exact ⟨rfl, r1.al a2, f1.al a2⟩
  · have hw : m.write 0 s.toList = (0, M.done { m.tick with a := ⟨m.a.s ++ s.toList, m.a.k⟩ }) := by
      unfold M.write; rw [if_neg (by decide), if_neg hd, if_neg hf]; rfl
    rw [hw]
    rw [size_toList] at hf
    obtain ⟨q, hq⟩ : ∃ q, q = m.tick.free := ⟨_, rfl⟩
    rw [← hq] at cf
    have hge : (s.size : Int) ≤ q := by rw [hq]; unfold M.used at *; omega
    have hlen : m.a.s.length ≤ 4194304 := by omega
    clear hw hd hq hf hfits hroom hfree
    go_enter Tryz.func22, Tryz.ntmps22
    go_wp2_with fail
    refine cb.mono ?_
    rintro e w1 ⟨rfl, r1, f1⟩
    go_wp2_with fail
    refine (cf _ r1).mono ?_
    rintro e w2 ⟨rfl, a2⟩
    have r2 := r1.al a2
    have f2 := f1.al a2
    have r3 := (r2.sA (m.a.s ++ s.toList)).ops (m.ops + 1)
    have f3 := (f2.trans (FD.set0 p 0 w2 (.string (tx (m.a.s ++ s.toList))))).trans (FD.set2 p 5 _ (.int .i64 (m.ops + 1 : Nat)))
    rw [← tx_append] at r3 f3
    obtain ⟨os0, os1, ok0, ok1, c0, c1, c2, c3, c4, oc5, g0, g1, g2⟩ := r2.cells
    have s0 : w2.cell? ⟨p, 0, none⟩ = some (Value.string (tx m.a.s)) := os0
    have k0 : w2.cell? ⟨p + 1, 0, none⟩ = some (Value.int .i64 m.a.k) := ok0
    have c5 : w2.cell? ⟨p + 2, 5, none⟩ = some (Value.int .i64 m.ops) := oc5
    have g00 := g0 0
    have g10 := g1 0
    have g25 := g2 5
    have z := tx_size m.a.s
    clear os0 os1 ok0 ok1 oc5 c2 c3 c4 g0 g1 g2
    clear r1 r2 f1 f2 a2 cf cb
    go_wp2_with fail
    go_region
    all_goals go_wp2
    all_goals go_ret
    all_goals exact ⟨rfl, r3, f3.drew⟩

set_option maxHeartbeats 2000000 in
theorem dsyncA {p : Nat} {m : M} {w : World} (h : RD p m w) (hm : m.ok) (ho : m.ops < 4611686018427387904) :
    Calls Tryz.prog 35 #[dtr p, .int .i64 0] w fun e w' => e = .returned (.int .i64 (m.sync 0).1) ∧ RD p (m.sync 0).2 w' ∧ FD p w w' := by
  by_cases hd : m.dead = true
  · have hw : m.sync 0 = (30, m.cut) := by unfold M.sync; rw [if_neg (by decide), if_pos hd]
    rw [hw]
    have cb := begin_yes (t := 0) h hm rfl hd
    clear hw hd
    go_enter Tryz.func35, Tryz.ntmps35
    go_wp2_with fail
    refine cb.mono ?_
    rintro e w1 ⟨rfl, r1, f1⟩
    go_wp2_with fail
    go_ret
    exact ⟨rfl, r1, f1⟩
  · have cb := begin_no (t := 0) h hm rfl hd
    have hw : m.sync 0 = (0, M.done { m.tick with a := ⟨m.a.s, m.a.s.length⟩ }) := by
      unfold M.sync; rw [if_neg (by decide), if_neg hd]; rfl
    rw [hw]
    have hroom := hm.room
    have hfits := hm.fits
    have hlen : m.a.s.length ≤ 4194304 := by omega
    clear hw hd hfits hroom
    go_enter Tryz.func35, Tryz.ntmps35
    go_wp2_with fail
    refine cb.mono ?_
    rintro e w2 ⟨rfl, r2, f2⟩
    have r3 := (r2.kA m.a.s.length).ops (m.ops + 1)
    have f3 := (f2.trans (FD.set1 p 0 w2 (.int .i64 m.a.s.length))).trans (FD.set2 p 5 _ (.int .i64 (m.ops + 1 : Nat)))
    obtain ⟨os0, os1, ok0, ok1, c0, c1, c2, c3, c4, oc5, g0, g1, g2⟩ := r2.cells
    have s0 : w2.cell? ⟨p, 0, none⟩ = some (Value.string (tx m.a.s)) := os0
    have k0 : w2.cell? ⟨p + 1, 0, none⟩ = some (Value.int .i64 m.a.k) := ok0
    have c5 : w2.cell? ⟨p + 2, 5, none⟩ = some (Value.int .i64 m.ops) := oc5
    have g00 := g0 0
    have g10 := g1 0
    have g25 := g2 5
    have z := tx_size m.a.s
    clear os0 os1 ok0 ok1 oc5 c2 c3 c4 g0 g1 g2
    clear r2 f2 cb
    go_wp2_with fail
    go_region
    all_goals go_wp2
    all_goals go_ret
    all_goals exact ⟨rfl, r3, f3.drew⟩

set_option maxHeartbeats 2000000 in
theorem dwipeA {p : Nat} {m : M} {w : World} (h : RD p m w) (hm : m.ok) (ho : m.ops < 4611686018427387904) :
    Calls Tryz.prog 34 #[dtr p, .int .i64 0] w fun e w' => e = .returned (.int .i64 (m.trim 0 0).1) ∧ RD p (m.trim 0 0).2 w' ∧ FD p w w' := by
  have hor : ¬ (isT 0 = false ∨ (0 : Int) < 0) := fun h' => h'.elim (fun h' => by cases h') (by decide)
  by_cases hd : m.dead = true
  · have hw : m.trim 0 0 = (30, m.cut) := by unfold M.trim; rw [if_neg hor, if_pos hd]
    rw [hw]
    have cb := begin_yes (t := 0) h hm rfl hd
    clear hw hd hor
    go_enter Tryz.func34, Tryz.ntmps34
    go_wp2_with fail
    refine cb.mono ?_
    rintro e w1 ⟨rfl, r1, f1⟩
    go_wp2_with fail
    go_ret
    exact ⟨rfl, r1, f1⟩
  · have cb := begin_no (t := 0) h hm rfl hd
    have hw : m.trim 0 0 = (0, M.done { m.tick with a := ⟨[], 0⟩ }) := by
      unfold M.trim; rw [if_neg hor, if_neg hd, if_neg (by show ¬ (m.a.s.length : Int) < 0; omega)]
      show (0, M.done { m.tick with a := ⟨m.a.s.take 0, min m.a.k 0⟩ }) = _
      rw [List.take_zero, Nat.min_zero]
    rw [hw]
    clear hw hd hor
    go_enter Tryz.func34, Tryz.ntmps34
    go_wp2_with fail
    refine cb.mono ?_
    rintro e w2 ⟨rfl, r2, f2⟩
    have r3 := ((r2.sA []).kA 0).ops (m.ops + 1)
    have f3 := ((f2.trans (FD.set0 p 0 w2 (.string (tx [])))).trans (FD.set1 p 0 _ (.int .i64 (0 : Nat)))).trans (FD.set2 p 5 _ (.int .i64 (m.ops + 1 : Nat)))
    obtain ⟨os0, os1, ok0, ok1, c0, c1, c2, c3, c4, oc5, g0, g1, g2⟩ := r2.cells
    have s0 : w2.cell? ⟨p, 0, none⟩ = some (Value.string (tx m.a.s)) := os0
    have k0 : w2.cell? ⟨p + 1, 0, none⟩ = some (Value.int .i64 m.a.k) := ok0
    have c5 : w2.cell? ⟨p + 2, 5, none⟩ = some (Value.int .i64 m.ops) := oc5
    have g00 := g0 0
    have g10 := g1 0
    have g25 := g2 5
    have z := tx_size m.a.s
    clear os0 os1 ok0 ok1 oc5 c2 c3 c4 g0 g1 g2
    clear r2 f2 cb
    go_wp2_with fail
    go_region
    all_goals go_wp2
    all_goals go_ret
    all_goals exact ⟨rfl, r3, f3.drew⟩

set_option maxHeartbeats 2000000 in
theorem dtrimA {p : Nat} {m : M} {w : World} (n : Int) (h : RD p m w) (hm : m.ok) (ho : m.ops < 4611686018427387904) (hn : ¬ n < 0) :
    Calls Tryz.prog 36 #[dtr p, .int .i64 0, .int .i64 n] w fun e w' => e = .returned (.int .i64 (m.trim 0 n).1) ∧ RD p (m.trim 0 n).2 w' ∧ FD p w w' := by
  have hor : ¬ (isT 0 = false ∨ n < 0) := fun h' => h'.elim (fun h' => by cases h') hn
  have hroom := hm.room
  have hfits := hm.fits
  have hlen : m.a.s.length ≤ 4194304 := by omega
  have hkl : m.a.k ≤ 4194304 := by have := hm.ka; omega
  by_cases hd : m.dead = true
  · have hw : m.trim 0 n = (30, m.cut) := by unfold M.trim; rw [if_neg hor, if_pos hd]
    rw [hw]
    have cb := begin_yes (t := 0) h hm rfl hd
    clear hw hd hor
    go_enter Tryz.func36, Tryz.ntmps36
    go_wp2_with fail
    refine cb.mono ?_
    rintro e w1 ⟨rfl, r1, f1⟩
    go_wp2_with fail
    go_ret
    exact ⟨rfl, r1, f1⟩
  have cb := begin_no (t := 0) h hm rfl hd
  by_cases hl : ((m.get 0).s.length : Int) < n
  · have hw : m.trim 0 n = (2, m.tick) := by unfold M.trim; rw [if_neg hor, if_neg hd, if_pos hl]
    rw [hw]
    have hl' : (m.a.s.length : Int) < n := hl
    clear hw hd hl hor
    go_enter Tryz.func36, Tryz.ntmps36
    go_wp2_with fail
    refine cb.mono ?_
    rintro e w2 ⟨rfl, r2, f2⟩
    obtain ⟨os0, os1, ok0, ok1, c0, c1, c2, c3, c4, oc5, g0, g1, g2⟩ := r2.cells
    have s0 : w2.cell? ⟨p, 0, none⟩ = some (Value.string (tx m.a.s)) := os0
    have k0 : w2.cell? ⟨p + 1, 0, none⟩ = some (Value.int .i64 m.a.k) := ok0
    have c5 : w2.cell? ⟨p + 2, 5, none⟩ = some (Value.int .i64 m.ops) := oc5
    have g00 := g0 0
    have g10 := g1 0
    have g25 := g2 5
    have z := tx_size m.a.s
    clear os0 os1 ok0 ok1 oc5 c2 c3 c4 g0 g1 g2
    go_wp2_with fail
    go_ret
    exact ⟨rfl, r2, f2⟩
  · have hw : m.trim 0 n = (0, M.done { m.tick with a := ⟨m.a.s.take n.toNat, min m.a.k n.toNat⟩ }) := by
      unfold M.trim; rw [if_neg hor, if_neg hd, if_neg hl]; rfl
    rw [hw]
    have hl' : n ≤ (m.a.s.length : Int) := by have : ¬ (m.a.s.length : Int) < n := hl; omega
    obtain ⟨k, rfl⟩ : ∃ k : Nat, n = k := ⟨n.toNat, by omega⟩
    simp only [Int.toNat_natCast] at *
    have hkk : k ≤ m.a.s.length := by omega
    clear hw hd hl hor hn
    have hcases : (k < m.a.k ∧ min m.a.k k = k) ∨ (¬ k < m.a.k ∧ min m.a.k k = m.a.k) := by omega
    rcases hcases with ⟨hc, hmin⟩ | ⟨hc, hmin⟩
    all_goals
      rw [hmin]
      clear hmin
      go_enter Tryz.func36, Tryz.ntmps36
      go_wp2_with fail
      refine cb.mono ?_
      rintro e w2 ⟨rfl, r2, f2⟩
      have r3 := fun q : Nat => ((r2.sA (m.a.s.take k)).kA q).ops (m.ops + 1)
      have f3 := fun q : Nat => ((f2.trans (FD.set0 p 0 w2 (.string (tx (m.a.s.take k))))).trans (FD.set1 p 0 _ (.int .i64 q))).trans (FD.set2 p 5 _ (.int .i64 (m.ops + 1 : Nat)))
      rw [← tx_take] at r3 f3
      obtain ⟨os0, os1, ok0, ok1, c0, c1, c2, c3, c4, oc5, g0, g1, g2⟩ := r2.cells
      have s0 : w2.cell? ⟨p, 0, none⟩ = some (Value.string (tx m.a.s)) := os0
      have k0 : w2.cell? ⟨p + 1, 0, none⟩ = some (Value.int .i64 m.a.k) := ok0
      have c5 : w2.cell? ⟨p + 2, 5, none⟩ = some (Value.int .i64 m.ops) := oc5
      have g00 := g0 0
      have g10 := g1 0
      have g25 := g2 5
      have z := tx_size m.a.s
      clear os0 os1 ok0 ok1 oc5 c2 c3 c4 g0 g1 g2
      clear r2 f2 cb
      go_wp2_with fail
      go_region
      all_goals go_wp2
      all_goals go_region
      all_goals go_wp2
      all_goals go_ret
      all_goals exact ⟨rfl, r3 _, (f3 _).drew.drew⟩

set_option maxHeartbeats 2000000 in
theorem dwriteB {p : Nat} {m : M} {w : World} (s : ByteArray) (h : RD p m w) (hm : m.ok) (ho : m.ops < 4611686018427387904) (hsz : s.size ≤ 70368744177664) :
    Calls Tryz.prog 22 #[dtr p, .int .i64 1, .string s] w fun e w' => e = .returned (.int .i64 (m.write 1 s.toList).1) ∧ RD p (m.write 1 s.toList).2 w' ∧ FD p w w' := by
  by_cases hd : m.dead = true
  · have hw : m.write 1 s.toList = (30, m.cut) := by unfold M.write; rw [if_neg (by decide), if_pos hd]
    rw [hw]
    have cb := begin_yes (t := 1) h hm rfl hd
    clear hw hd
    go_enter Tryz.func22, Tryz.ntmps22
    go_wp2_with fail
    refine cb.mono ?_
    rintro e w1 ⟨rfl, r1, f1⟩
    go_wp2_with fail
    go_ret
    exact ⟨rfl, r1, f1⟩
  have cb := begin_no (t := 1) h hm rfl hd
  have cf := fun w (h : RD p m.tick w) => d_free h hm.tick
  have hfree : m.tick.free = (m.room : Int) - m.used := by unfold M.free M.tick M.used; simp only; omega
  have hroom := hm.room
  have hfits := hm.fits
  by_cases hf : m.room < m.used + s.toList.length
  · have hw : m.write 1 s.toList = (5, m.tick) := by unfold M.write; rw [if_neg (by decide), if_neg hd, if_pos hf]
    rw [hw]
    rw [size_toList] at hf
    obtain ⟨q, hq⟩ : ∃ q, q = m.tick.free := ⟨_, rfl⟩
    rw [← hq] at cf
    have hlt : q < (s.size : Int) := by rw [hq]; unfold M.used at *; omega
    clear hw hd hq
    go_enter Tryz.func22, Tryz.ntmps22
    go_wp2_with fail
    refine cb.mono ?_
    rintro e w1 ⟨rfl, r1, f1⟩
    go_wp2_with fail
    refine (cf _ r1).mono ?_
    rintro e w2 ⟨rfl, a2⟩
    go_wp2_with fail
    go_ret
    exact ⟨rfl, r1.al a2, f1.al a2⟩
  · have hw : m.write 1 s.toList = (0, M.done { m.tick with b := ⟨m.b.s ++ s.toList, m.b.k⟩ }) := by
      unfold M.write; rw [if_neg (by decide), if_neg hd, if_neg hf]; rfl
    rw [hw]
    rw [size_toList] at hf
    obtain ⟨q, hq⟩ : ∃ q, q = m.tick.free := ⟨_, rfl⟩
    rw [← hq] at cf
    have hge : (s.size : Int) ≤ q := by rw [hq]; unfold M.used at *; omega
    have hlen : m.b.s.length ≤ 4194304 := by omega
    clear hw hd hq hf hfits hroom hfree
    go_enter Tryz.func22, Tryz.ntmps22
    go_wp2_with fail
    refine cb.mono ?_
    rintro e w1 ⟨rfl, r1, f1⟩
    go_wp2_with fail
    refine (cf _ r1).mono ?_
    rintro e w2 ⟨rfl, a2⟩
    have r2 := r1.al a2
    have f2 := f1.al a2
    have r3 := (r2.sB (m.b.s ++ s.toList)).ops (m.ops + 1)
    have f3 := (f2.trans (FD.set0 p 1 w2 (.string (tx (m.b.s ++ s.toList))))).trans (FD.set2 p 5 _ (.int .i64 (m.ops + 1 : Nat)))
    rw [← tx_append] at r3 f3
    obtain ⟨os0, os1, ok0, ok1, c0, c1, c2, c3, c4, oc5, g0, g1, g2⟩ := r2.cells
    have s1 : w2.cell? ⟨p, 1, none⟩ = some (Value.string (tx m.b.s)) := os1
    have k1 : w2.cell? ⟨p + 1, 1, none⟩ = some (Value.int .i64 m.b.k) := ok1
    have c5 : w2.cell? ⟨p + 2, 5, none⟩ = some (Value.int .i64 m.ops) := oc5
    have g01 := g0 1
    have g11 := g1 1
    have g25 := g2 5
    have z := tx_size m.b.s
    clear os0 os1 ok0 ok1 oc5 c2 c3 c4 g0 g1 g2
    clear r1 r2 f1 f2 a2 cf cb
    go_wp2_with fail
    go_region
    all_goals go_wp2
    all_goals go_ret
    all_goals exact ⟨rfl, r3, f3.drew⟩

set_option maxHeartbeats 2000000 in
theorem dsyncB {p : Nat} {m : M} {w : World} (h : RD p m w) (hm : m.ok) (ho : m.ops < 4611686018427387904) :
    Calls Tryz.prog 35 #[dtr p, .int .i64 1] w fun e w' => e = .returned (.int .i64 (m.sync 1).1) ∧ RD p (m.sync 1).2 w' ∧ FD p w w' := by
  by_cases hd : m.dead = true
  · have hw : m.sync 1 = (30, m.cut) := by unfold M.sync; rw [if_neg (by decide), if_pos hd]
    rw [hw]
    have cb := begin_yes (t := 1) h hm rfl hd
    clear hw hd
    go_enter Tryz.func35, Tryz.ntmps35
    go_wp2_with fail
    refine cb.mono ?_
    rintro e w1 ⟨rfl, r1, f1⟩
    go_wp2_with fail
    go_ret
    exact ⟨rfl, r1, f1⟩
  · have cb := begin_no (t := 1) h hm rfl hd
    have hw : m.sync 1 = (0, M.done { m.tick with b := ⟨m.b.s, m.b.s.length⟩ }) := by
      unfold M.sync; rw [if_neg (by decide), if_neg hd]; rfl
    rw [hw]
    have hroom := hm.room
    have hfits := hm.fits
    have hlen : m.b.s.length ≤ 4194304 := by omega
    clear hw hd hfits hroom
    go_enter Tryz.func35, Tryz.ntmps35
    go_wp2_with fail
    refine cb.mono ?_
    rintro e w2 ⟨rfl, r2, f2⟩
    have r3 := (r2.kB m.b.s.length).ops (m.ops + 1)
    have f3 := (f2.trans (FD.set1 p 1 w2 (.int .i64 m.b.s.length))).trans (FD.set2 p 5 _ (.int .i64 (m.ops + 1 : Nat)))
    obtain ⟨os0, os1, ok0, ok1, c0, c1, c2, c3, c4, oc5, g0, g1, g2⟩ := r2.cells
    have s1 : w2.cell? ⟨p, 1, none⟩ = some (Value.string (tx m.b.s)) := os1
    have k1 : w2.cell? ⟨p + 1, 1, none⟩ = some (Value.int .i64 m.b.k) := ok1
    have c5 : w2.cell? ⟨p + 2, 5, none⟩ = some (Value.int .i64 m.ops) := oc5
    have g01 := g0 1
    have g11 := g1 1
    have g25 := g2 5
    have z := tx_size m.b.s
    clear os0 os1 ok0 ok1 oc5 c2 c3 c4 g0 g1 g2
    clear r2 f2 cb
    go_wp2_with fail
    go_region
    all_goals go_wp2
    all_goals go_ret
    all_goals exact ⟨rfl, r3, f3.drew⟩

set_option maxHeartbeats 2000000 in
theorem dwipeB {p : Nat} {m : M} {w : World} (h : RD p m w) (hm : m.ok) (ho : m.ops < 4611686018427387904) :
    Calls Tryz.prog 34 #[dtr p, .int .i64 1] w fun e w' => e = .returned (.int .i64 (m.trim 1 0).1) ∧ RD p (m.trim 1 0).2 w' ∧ FD p w w' := by
  have hor : ¬ (isT 1 = false ∨ (0 : Int) < 0) := fun h' => h'.elim (fun h' => by cases h') (by decide)
  by_cases hd : m.dead = true
  · have hw : m.trim 1 0 = (30, m.cut) := by unfold M.trim; rw [if_neg hor, if_pos hd]
    rw [hw]
    have cb := begin_yes (t := 1) h hm rfl hd
    clear hw hd hor
    go_enter Tryz.func34, Tryz.ntmps34
    go_wp2_with fail
    refine cb.mono ?_
    rintro e w1 ⟨rfl, r1, f1⟩
    go_wp2_with fail
    go_ret
    exact ⟨rfl, r1, f1⟩
  · have cb := begin_no (t := 1) h hm rfl hd
    have hw : m.trim 1 0 = (0, M.done { m.tick with b := ⟨[], 0⟩ }) := by
      unfold M.trim; rw [if_neg hor, if_neg hd, if_neg (by show ¬ (m.b.s.length : Int) < 0; omega)]
      show (0, M.done { m.tick with b := ⟨m.b.s.take 0, min m.b.k 0⟩ }) = _
      rw [List.take_zero, Nat.min_zero]
    rw [hw]
    clear hw hd hor
    go_enter Tryz.func34, Tryz.ntmps34
    go_wp2_with fail
    refine cb.mono ?_
    rintro e w2 ⟨rfl, r2, f2⟩
    have r3 := ((r2.sB []).kB 0).ops (m.ops + 1)
    have f3 := ((f2.trans (FD.set0 p 1 w2 (.string (tx [])))).trans (FD.set1 p 1 _ (.int .i64 (0 : Nat)))).trans (FD.set2 p 5 _ (.int .i64 (m.ops + 1 : Nat)))
    obtain ⟨os0, os1, ok0, ok1, c0, c1, c2, c3, c4, oc5, g0, g1, g2⟩ := r2.cells
    have s1 : w2.cell? ⟨p, 1, none⟩ = some (Value.string (tx m.b.s)) := os1
    have k1 : w2.cell? ⟨p + 1, 1, none⟩ = some (Value.int .i64 m.b.k) := ok1
    have c5 : w2.cell? ⟨p + 2, 5, none⟩ = some (Value.int .i64 m.ops) := oc5
    have g01 := g0 1
    have g11 := g1 1
    have g25 := g2 5
    have z := tx_size m.b.s
    clear os0 os1 ok0 ok1 oc5 c2 c3 c4 g0 g1 g2
    clear r2 f2 cb
    go_wp2_with fail
    go_region
    all_goals go_wp2
    all_goals go_ret
    all_goals exact ⟨rfl, r3, f3.drew⟩

set_option maxHeartbeats 2000000 in
theorem dtrimB {p : Nat} {m : M} {w : World} (n : Int) (h : RD p m w) (hm : m.ok) (ho : m.ops < 4611686018427387904) (hn : ¬ n < 0) :
    Calls Tryz.prog 36 #[dtr p, .int .i64 1, .int .i64 n] w fun e w' => e = .returned (.int .i64 (m.trim 1 n).1) ∧ RD p (m.trim 1 n).2 w' ∧ FD p w w' := by
  have hor : ¬ (isT 1 = false ∨ n < 0) := fun h' => h'.elim (fun h' => by cases h') hn
  have hroom := hm.room
  have hfits := hm.fits
  have hlen : m.b.s.length ≤ 4194304 := by omega
  have hkl : m.b.k ≤ 4194304 := by have := hm.kb; omega
  by_cases hd : m.dead = true
  · have hw : m.trim 1 n = (30, m.cut) := by unfold M.trim; rw [if_neg hor, if_pos hd]
    rw [hw]
    have cb := begin_yes (t := 1) h hm rfl hd
    clear hw hd hor
    go_enter Tryz.func36, Tryz.ntmps36
    go_wp2_with fail
    refine cb.mono ?_
    rintro e w1 ⟨rfl, r1, f1⟩
    go_wp2_with fail
    go_ret
    exact ⟨rfl, r1, f1⟩
  have cb := begin_no (t := 1) h hm rfl hd
  by_cases hl : ((m.get 1).s.length : Int) < n
  · have hw : m.trim 1 n = (2, m.tick) := by unfold M.trim; rw [if_neg hor, if_neg hd, if_pos hl]
    rw [hw]
    have hl' : (m.b.s.length : Int) < n := hl
    clear hw hd hl hor
    go_enter Tryz.func36, Tryz.ntmps36
    go_wp2_with fail
    refine cb.mono ?_
    rintro e w2 ⟨rfl, r2, f2⟩
    obtain ⟨os0, os1, ok0, ok1, c0, c1, c2, c3, c4, oc5, g0, g1, g2⟩ := r2.cells
    have s1 : w2.cell? ⟨p, 1, none⟩ = some (Value.string (tx m.b.s)) := os1
    have k1 : w2.cell? ⟨p + 1, 1, none⟩ = some (Value.int .i64 m.b.k) := ok1
    have c5 : w2.cell? ⟨p + 2, 5, none⟩ = some (Value.int .i64 m.ops) := oc5
    have g01 := g0 1
    have g11 := g1 1
    have g25 := g2 5
    have z := tx_size m.b.s
    clear os0 os1 ok0 ok1 oc5 c2 c3 c4 g0 g1 g2
    go_wp2_with fail
    go_ret
    exact ⟨rfl, r2, f2⟩
  · have hw : m.trim 1 n = (0, M.done { m.tick with b := ⟨m.b.s.take n.toNat, min m.b.k n.toNat⟩ }) := by
      unfold M.trim; rw [if_neg hor, if_neg hd, if_neg hl]; rfl
    rw [hw]
    have hl' : n ≤ (m.b.s.length : Int) := by have : ¬ (m.b.s.length : Int) < n := hl; omega
    obtain ⟨k, rfl⟩ : ∃ k : Nat, n = k := ⟨n.toNat, by omega⟩
    simp only [Int.toNat_natCast] at *
    have hkk : k ≤ m.b.s.length := by omega
    clear hw hd hl hor hn
    have hcases : (k < m.b.k ∧ min m.b.k k = k) ∨ (¬ k < m.b.k ∧ min m.b.k k = m.b.k) := by omega
    rcases hcases with ⟨hc, hmin⟩ | ⟨hc, hmin⟩
    all_goals
      rw [hmin]
      clear hmin
      go_enter Tryz.func36, Tryz.ntmps36
      go_wp2_with fail
      refine cb.mono ?_
      rintro e w2 ⟨rfl, r2, f2⟩
      have r3 := fun q : Nat => ((r2.sB (m.b.s.take k)).kB q).ops (m.ops + 1)
      have f3 := fun q : Nat => ((f2.trans (FD.set0 p 1 w2 (.string (tx (m.b.s.take k))))).trans (FD.set1 p 1 _ (.int .i64 q))).trans (FD.set2 p 5 _ (.int .i64 (m.ops + 1 : Nat)))
      rw [← tx_take] at r3 f3
      obtain ⟨os0, os1, ok0, ok1, c0, c1, c2, c3, c4, oc5, g0, g1, g2⟩ := r2.cells
      have s1 : w2.cell? ⟨p, 1, none⟩ = some (Value.string (tx m.b.s)) := os1
      have k1 : w2.cell? ⟨p + 1, 1, none⟩ = some (Value.int .i64 m.b.k) := ok1
      have c5 : w2.cell? ⟨p + 2, 5, none⟩ = some (Value.int .i64 m.ops) := oc5
      have g01 := g0 1
      have g11 := g1 1
      have g25 := g2 5
      have z := tx_size m.b.s
      clear os0 os1 ok0 ok1 oc5 c2 c3 c4 g0 g1 g2
      clear r2 f2 cb
      go_wp2_with fail
      go_region
      all_goals go_wp2
      all_goals go_region
      all_goals go_wp2
      all_goals go_ret
      all_goals exact ⟨rfl, r3 _, (f3 _).drew.drew⟩

theorem d_write {p : Nat} {m : M} {w : World} (t : Int) (s : ByteArray) (h : RD p m w) (hm : m.ok) (ho : m.ops < 4611686018427387904) (hsz : s.size ≤ 70368744177664) :
    Calls Tryz.prog 22 #[dtr p, .int .i64 t, .string s] w fun e w' => e = .returned (.int .i64 (m.write t s.toList).1) ∧ RD p (m.write t s.toList).2 w' ∧ FD p w w' := by
  cases ht : isT t with
  | false => exact dwrite_x t s h hm ht
  | true =>
    rcases isT_cases ht with rfl | rfl
    · exact dwriteA s h hm ho hsz
    · exact dwriteB s h hm ho hsz
theorem d_sync {p : Nat} {m : M} {w : World} (t : Int) (h : RD p m w) (hm : m.ok) (ho : m.ops < 4611686018427387904) :
    Calls Tryz.prog 35 #[dtr p, .int .i64 t] w fun e w' => e = .returned (.int .i64 (m.sync t).1) ∧ RD p (m.sync t).2 w' ∧ FD p w w' := by
  cases ht : isT t with
  | false => exact dsync_x t h hm ht
  | true =>
    rcases isT_cases ht with rfl | rfl
    · exact dsyncA h hm ho
    · exact dsyncB h hm ho
theorem d_wipe {p : Nat} {m : M} {w : World} (t : Int) (h : RD p m w) (hm : m.ok) (ho : m.ops < 4611686018427387904) :
    Calls Tryz.prog 34 #[dtr p, .int .i64 t] w fun e w' => e = .returned (.int .i64 (m.trim t 0).1) ∧ RD p (m.trim t 0).2 w' ∧ FD p w w' := by
  cases ht : isT t with
  | false => exact dwipe_x t h hm ht
  | true =>
    rcases isT_cases ht with rfl | rfl
    · exact dwipeA h hm ho
    · exact dwipeB h hm ho
theorem d_trim {p : Nat} {m : M} {w : World} (t n : Int) (h : RD p m w) (hm : m.ok) (ho : m.ops < 4611686018427387904) :
    Calls Tryz.prog 36 #[dtr p, .int .i64 t, .int .i64 n] w fun e w' => e = .returned (.int .i64 (m.trim t n).1) ∧ RD p (m.trim t n).2 w' ∧ FD p w w' := by
  by_cases hn : n < 0
  · exact dtrim_neg t n h hn
  cases ht : isT t with
  | false => exact dtrim_x t n h hm hn ht
  | true =>
    rcases isT_cases ht with rfl | rfl
    · exact dtrimA n h hm ho hn
    · exact dtrimB n h hm ho hn

end Go.Proofs.YtglkapamkigdhaaGreatDoor.Rl

namespace Go.Proofs.YtglkapamkigdhaaGreatDoor.Rl
open Go.RowKit

structure NewRow (w w' : World) (t : ByteArray) (cap : Nat) : Prop where
  below : Below w.heap.size w w'
  cell : ∀ j, j < t.size → w'.cell? ⟨w.heap.size, j, none⟩ = some (.int .u8 ((t.data.toList.getD j 0).toNat : Int))
  frozen : ∀ j, j < t.size → w'.frozen? ⟨w.heap.size, j, none⟩ = false
  le : t.size ≤ cap
theorem new_row (w : World) (t : ByteArray) : ∃ (cap : Nat) (w' : World), (convert 9 61 (.string t)).run Tryz.prog w = .ok (.slice (some ⟨w.heap.size, 0, none⟩) t.size cap) w' ∧ NewRow w w' t cap := by
  refine ⟨grownCap w t.size 0 5, Lib.bytesWorld w 5 t, Lib.run_convert_string_bytes w 9 61 5 t Tryz.underlying9 Tryz.underlying61 Tryz.underlying5, Lib.bytesWorld_below w 5 t, fun j hj => Lib.bytesWorld_cell w 5 t j hj, fun j hj => ?_, grownCap_ge _ _ _ _⟩
  have h1 : t.size ≤ (Lib.bytesCells w 5 t).size := by simp [Lib.bytesCells]
  simp [World.frozen?, Lib.bytesWorld_at_new]
  omega

/-- A block that is not the reel's is written: the reel is as it was. -/
theorem RP.apart {b g : Nat} {m : M} {w : World} (h : RP b m w) (hn : ¬ Mine w b g) (j : Nat) (x : Value) : RP b m (w.setCell ⟨g, j, none⟩ x) := by
  obtain ⟨v0, v1, hb, h0, h1, hs⟩ := h
  have ne : ∀ k, Mine w b k → k ≠ g := fun k hk e => hn (by rw [← e]; exact hk)
  exact ⟨v0, v1, by rw [Below.heap_setCell _ _ _ _ (ne b (.inl rfl))]; exact hb, h0.keep fun k hk => Below.heap_setCell _ _ _ _ (ne k (mine0 hb hk)), h1.keep fun k hk => Below.heap_setCell _ _ _ _ (ne k (mine1 hb hk)), hs⟩
theorem getD_list (L : Text) (j : Nat) (h : j < L.length) : L.getD j 0 = L[j] := by simp [List.getD, h]
theorem row_text {w : World} {g cap : Nat} (L : Text) (h : ∀ j (hj : j < L.length), w.cell? ⟨g, j, none⟩ = some (.int .u8 (L[j].toNat : Int))) :
    (convert 61 9 (.slice (some ⟨g, 0, none⟩) L.length cap)).run Tryz.prog w = .ok (.string (tx L)) w := by
  refine run_convert_bytes_back (P := Tryz.prog) w 61 9 5 ⟨g, 0, none⟩ cap L Tryz.underlying61 Tryz.underlying5 Tryz.underlying9 (fun j hj => ?_)
  rw [show (⟨g, 0, none⟩ : Addr).add j = ⟨g, j, none⟩ by unfold Addr.add; split <;> simp_all]
  exact h j hj

theorem new_row' (w : World) (t : ByteArray) : ∃ (cap : Nat) (w' : World), (convert 9 61 (.string t)).run Tryz.prog w = .ok (.slice (some ⟨w.heap.size, 0, none⟩) t.size cap) w' ∧ NewRow w w' t cap ∧ w'.heap.size = w.heap.size + 1 := by
  refine ⟨grownCap w t.size 0 5, Lib.bytesWorld w 5 t, Lib.run_convert_string_bytes w 9 61 5 t Tryz.underlying9 Tryz.underlying61 Tryz.underlying5, ⟨Lib.bytesWorld_below w 5 t, fun j hj => Lib.bytesWorld_cell w 5 t j hj, fun j hj => ?_, grownCap_ge _ _ _ _⟩, Lib.bytesWorld_size w 5 t⟩
  have h1 : t.size ≤ (Lib.bytesCells w 5 t).size := by simp [Lib.bytesCells]
  simp [World.frozen?, Lib.bytesWorld_at_new]
  omega

end Go.Proofs.YtglkapamkigdhaaGreatDoor.Rl
