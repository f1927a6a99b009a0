/-
  The program's own calls on a reel, told of the model: tape, power, done, Free, Dead, Ops, Arm. Condition: what may be of a reel.
-/
import Derived.Test.YtglkapamkigdhaaDoorRlModel
namespace Go.Proofs.YtglkapamkigdhaaDoor.Rl
open Go.RowKit

theorem c_tape0 (b : Nat) (w : World) : Calls Tryd.prog 31 #[.pointer (some ⟨b, 0, none⟩), .int .i64 0] w fun e w' => e = .returned (.tuple #[.pointer (some ⟨b, 1, none⟩), .int .i64 0]) ∧ w = w' := by
  go_enter Tryd.func31, Tryd.ntmps31
  go_wp2
  go_ret2
  exact ⟨rfl, rfl⟩
theorem c_tape1 (b : Nat) (w : World) : Calls Tryd.prog 31 #[.pointer (some ⟨b, 0, none⟩), .int .i64 1] w fun e w' => e = .returned (.tuple #[.pointer (some ⟨b, 3, none⟩), .int .i64 0]) ∧ w = w' := by
  go_enter Tryd.func31, Tryd.ntmps31
  go_wp2
  go_ret2
  exact ⟨rfl, rfl⟩
theorem c_tapeX (b : Nat) (t : Int) (w : World) (h : isT t = false) : Calls Tryd.prog 31 #[.pointer (some ⟨b, 0, none⟩), .int .i64 t] w fun e w' => e = .returned (.tuple #[.pointer none, .int .i64 2]) ∧ w = w' := by
  obtain ⟨h0, h1⟩ := isT_no h
  by_cases hlt : t < 0
  · go_enter Tryd.func31, Tryd.ntmps31
    go_wp2
    go_ret2
    exact ⟨rfl, rfl⟩
  · have hge : 2 ≤ t := by omega
    go_enter Tryd.func31, Tryd.ntmps31
    go_wp2
    go_ret2
    exact ⟨rfl, rfl⟩
theorem c_tapeN (t : Int) (w : World) : Calls Tryd.prog 31 #[.pointer none, .int .i64 t] w fun e w' => e = .returned (.tuple #[.pointer none, .int .i64 7]) ∧ w = w' := by
  go_enter Tryd.func31, Tryd.ntmps31
  go_wp2
  go_ret2
  exact ⟨rfl, rfl⟩

theorem c_power (b : Nat) (m : M) (w : World) (h : RP b m w) (hm : m.ok) :
    Calls Tryd.prog 41 #[.pointer (some ⟨b, 0, none⟩)] w fun e w' => e = .returned (.int .i64 (if m.dead = true then 30 else 0)) ∧ RP b (if m.dead = true then m.cut else m.tick) w' ∧ Fr b w w' := by
  have hRP := h
  have hlo := hm.lo
  have hhi := hm.hi
  obtain ⟨v0, v1, hb, h0, h1, hs⟩ := h
  obtain ⟨room, a, bb, left, off, ops⟩ := m
  have c5 : w.cell? ⟨b, 5, none⟩ = some (.int .i64 left) := by rw [Lib.cell_of_heap hb]; rfl
  have c6 : w.cell? ⟨b, 6, none⟩ = some (.bool off) := by rw [Lib.cell_of_heap hb]; rfl
  have f5 : w.frozen? ⟨b, 5, none⟩ = false := Lib.frozen_of_heap hb 5
  have f6 : w.frozen? ⟨b, 6, none⟩ = false := Lib.frozen_of_heap hb 6
  simp only at hlo hhi
  by_cases e0 : left = 0
  · subst e0
    have hd : M.dead ⟨room, a, bb, 0, off, ops⟩ = true := by unfold M.dead; simp
    rw [if_pos hd, if_pos hd]
    go_enter Tryd.func41, Tryd.ntmps41
    go_wp2
    go_ret
    exact ⟨rfl, hRP.off true, Fr.set b 6 w _⟩
  · have hl0 : (left == 0) = false := by simpa using e0
    cases off with
    | true =>
      have hd : M.dead ⟨room, a, bb, left, true, ops⟩ = true := rfl
      rw [if_pos hd, if_pos hd]
      go_enter Tryd.func41, Tryd.ntmps41
      go_wp2
      go_ret
      exact ⟨rfl, hRP, Fr.refl _ _⟩
    | false =>
      have hd : ¬ M.dead ⟨room, a, bb, left, false, ops⟩ = true := by unfold M.dead; simp [e0]
      rw [if_neg hd, if_neg hd]
      by_cases hp : 0 < left
      · go_enter Tryd.func41, Tryd.ntmps41
        go_wp2
        go_ret
        refine ⟨rfl, ?_, Fr.set b 5 w _⟩
        have := hRP.left (left - 1)
        have e : M.tick ⟨room, a, bb, left, false, ops⟩ = ⟨room, a, bb, left - 1, false, ops⟩ := by show M.mk _ _ _ (if 0 < left then left - 1 else left) _ _ = _; rw [if_pos hp]
        rw [e]
        exact this
      · go_enter Tryd.func41, Tryd.ntmps41
        go_wp2
        go_ret
        refine ⟨rfl, ?_, Fr.refl _ _⟩
        have e : M.tick ⟨room, a, bb, left, false, ops⟩ = ⟨room, a, bb, left, false, ops⟩ := by show M.mk _ _ _ (if 0 < left then left - 1 else left) _ _ = _; rw [if_neg (by omega)]
        rw [e]
        exact hRP

theorem c_done (b : Nat) (m : M) (w : World) (h : RP b m w) (hm : m.ops < 4611686018427387904) :
    Calls Tryd.prog 43 #[.pointer (some ⟨b, 0, none⟩)] w fun e w' => e = .returned (.int .i64 0) ∧ RP b m.done w' ∧ Fr b w w' := by
  have hRP := h
  obtain ⟨v0, v1, hb, h0, h1, hs⟩ := h
  have c7 : w.cell? ⟨b, 7, none⟩ = some (.int .i64 m.ops) := by rw [Lib.cell_of_heap hb]; rfl
  have f7 : w.frozen? ⟨b, 7, none⟩ = false := Lib.frozen_of_heap hb 7
  go_enter Tryd.func43, Tryd.ntmps43
  go_wp2
  go_ret
  exact ⟨rfl, hRP.ops (m.ops + 1), Fr.set b 7 w _⟩

theorem c_arm (b : Nat) (m : M) (n : Int) (w : World) (h : RP b m w) : Calls Tryd.prog 15 #[.pointer (some ⟨b, 0, none⟩), .int .i64 n] w fun e w' => e = .returned (.tuple #[]) ∧ RP b (m.arm n) w' ∧ Fr b w w' := by
  have hRP := h
  obtain ⟨v0, v1, hb, h0, h1, hs⟩ := h
  have c5 : w.cell? ⟨b, 5, none⟩ = some (.int .i64 m.left) := by rw [Lib.cell_of_heap hb]; rfl
  have f5 : w.frozen? ⟨b, 5, none⟩ = false := Lib.frozen_of_heap hb 5
  go_enter Tryd.func15, Tryd.ntmps15
  go_wp2
  go_end0
  exact ⟨rfl, hRP.left n, Fr.set b 5 w _⟩

set_option maxHeartbeats 2000000 in
theorem c_free (b : Nat) (m : M) (w : World) (h : RP b m w) (hm : m.ok) : Calls Tryd.prog 44 #[.pointer (some ⟨b, 0, none⟩)] w fun e w' => e = .returned (.int .i64 m.free) ∧ Below w.heap.size w w' := by
  obtain ⟨v0, v1, hb, h0, h1, hs⟩ := h
  obtain ⟨ao0, cap0, rfl, hl0, hc0⟩ := h0.form
  obtain ⟨ao1, cap1, rfl, hl1, hc1⟩ := h1.form
  have g0 : w.cell? ⟨b, 0, none⟩ = some (.int .i64 m.room) := by rw [Lib.cell_of_heap hb]; rfl
  have g1 : w.cell? ⟨b, 1, none⟩ = some (.slice ao0 m.a.s.length cap0) := by rw [Lib.cell_of_heap hb]; rfl
  have g2 : w.cell? ⟨b, 2, none⟩ = some (.int .i64 m.a.k) := by rw [Lib.cell_of_heap hb]; rfl
  have g3 : w.cell? ⟨b, 3, none⟩ = some (.slice ao1 m.b.s.length cap1) := by rw [Lib.cell_of_heap hb]; rfl
  have g4 : w.cell? ⟨b, 4, none⟩ = some (.int .i64 m.b.k) := by rw [Lib.cell_of_heap hb]; rfl
  have hr := hm.room
  have hf := hm.fits
  have i0 : ∀ (x0 x1 x2 x3 : Value) (w : World), (Instr.index 53 (.agg #[x0, x1, x2, x3]) (.int .i64 0)).run Tryd.prog w = .ok (.agg #[x0, x1]) w := fun _ _ _ _ _ => by kernel_rfl
  have i1 : ∀ (x0 x1 x2 x3 : Value) (w : World), (Instr.index 53 (.agg #[x0, x1, x2, x3]) (.int .i64 1)).run Tryd.prog w = .ok (.agg #[x2, x3]) w := fun _ _ _ _ _ => by kernel_rfl
  go_enter Tryd.func44, Tryd.ntmps44
  go_wp2
  refine wp_loop_rounds 3 ?_
  rw [rounds_succ]
  go_wp2
  rw [rounds_succ]
  go_wp2
  rw [rounds_succ]
  go_wp2
  go_ret
  exact ⟨rfl, ((Below.refl _ w).alloc (Nat.le_refl _) _).alloc (by simp) _⟩

end Go.Proofs.YtglkapamkigdhaaDoor.Rl
