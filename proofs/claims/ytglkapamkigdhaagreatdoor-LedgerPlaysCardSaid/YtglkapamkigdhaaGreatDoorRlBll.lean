/-
  The program's own calls on a reel, told of the model: tape, power, done, Free, Dead, Ops, Arm. Condition: what may be of a reel.
  The program's operations on a reel, told of the model: Write, Sync, Trim, Wipe, Read, Crash, New. Conditions: what may be of a reel; texts at most 2^46 bytes; fewer than 2^62 operations.
  The program's Read and Crash of a reel, told of the model; a nil reel. Condition: what may be of a reel.
  A nil reel: what each call answers. No condition.
-/
import Derived.Test.YtglkapamkigdhaaGreatDoorRlAll
import Derived.Deep.QuietTactic
import Derived.BigQuiet
import Derived.Laws.BytesString
import Derived.Laws.IdiomStrings
import Derived.Deep.RegionWith
namespace Go.Proofs.YtglkapamkigdhaaGreatDoor.Rl
open Go.RowKit

theorem c_tape0 (b : Nat) (w : World) : Calls Tryz.prog 45 #[.pointer (some ⟨b, 0, none⟩), .int .i64 0] w fun e w' => e = .returned (.tuple #[.pointer (some ⟨b, 1, none⟩), .int .i64 0]) ∧ w = w' := by
  go_enter Tryz.func45, Tryz.ntmps45
  go_wp2
  go_ret2
  exact ⟨rfl, rfl⟩
theorem c_tape1 (b : Nat) (w : World) : Calls Tryz.prog 45 #[.pointer (some ⟨b, 0, none⟩), .int .i64 1] w fun e w' => e = .returned (.tuple #[.pointer (some ⟨b, 3, none⟩), .int .i64 0]) ∧ w = w' := by
  go_enter Tryz.func45, Tryz.ntmps45
  go_wp2
  go_ret2
  exact ⟨rfl, rfl⟩
theorem c_tapeX (b : Nat) (t : Int) (w : World) (h : isT t = false) : Calls Tryz.prog 45 #[.pointer (some ⟨b, 0, none⟩), .int .i64 t] w fun e w' => e = .returned (.tuple #[.pointer none, .int .i64 2]) ∧ w = w' := by
  obtain ⟨h0, h1⟩ := isT_no h
  by_cases hlt : t < 0
  · go_enter Tryz.func45, Tryz.ntmps45
    go_wp2
    go_ret2
    exact ⟨rfl, rfl⟩
  · have hge : 2 ≤ t := by omega
    go_enter Tryz.func45, Tryz.ntmps45
    go_wp2
    go_ret2
    exact ⟨rfl, rfl⟩
theorem c_tapeN (t : Int) (w : World) : Calls Tryz.prog 45 #[.pointer none, .int .i64 t] w fun e w' => e = .returned (.tuple #[.pointer none, .int .i64 7]) ∧ w = w' := by
  go_enter Tryz.func45, Tryz.ntmps45
  go_wp2
  go_ret2
  exact ⟨rfl, rfl⟩

theorem c_power (b : Nat) (m : M) (w : World) (h : RP b m w) (hm : m.ok) :
    Calls Tryz.prog 46 #[.pointer (some ⟨b, 0, none⟩)] w fun e w' => e = .returned (.int .i64 (if m.dead = true then 30 else 0)) ∧ RP b (if m.dead = true then m.cut else m.tick) w' ∧ Fr b w w' := by
  have hRP := h
  have hlo := hm.lo
  have hhi := hm.hi
  obtain ⟨v0, v1, hb, h0, h1, hs⟩ := h
  obtain ⟨room, a, bb, left, off, ops⟩ := m
  have c5 : w.cell? ⟨b, 5, none⟩ = some (.int .i64 left) := by rw [Lib.cell_of_heap hb]; rfl
  have c6 : w.cell? ⟨b, 6, none⟩ = some (.bool off) := by rw [Lib.cell_of_heap hb]; rfl
  have f5 : w.frozen? ⟨b, 5, none⟩ = false := Lib.frozen_of_heap hb 5
  have f6 : w.frozen? ⟨b, 6, none⟩ = false := Lib.frozen_of_heap hb 6
  simp only at hlo hhi
  by_cases e0 : left = 0
  · subst e0
    have hd : M.dead ⟨room, a, bb, 0, off, ops⟩ = true := by unfold M.dead; simp
    rw [if_pos hd, if_pos hd]
    go_enter Tryz.func46, Tryz.ntmps46
    go_wp2
    go_ret
    exact ⟨rfl, hRP.off true, Fr.set b 6 w _⟩
  · have hl0 : (left == 0) = false := by simpa using e0
    cases off with
    | true =>
      have hd : M.dead ⟨room, a, bb, left, true, ops⟩ = true := rfl
      rw [if_pos hd, if_pos hd]
      go_enter Tryz.func46, Tryz.ntmps46
      go_wp2
      go_ret
      exact ⟨rfl, hRP, Fr.refl _ _⟩
    | false =>
      have hd : ¬ M.dead ⟨room, a, bb, left, false, ops⟩ = true := by unfold M.dead; simp [e0]
      rw [if_neg hd, if_neg hd]
      by_cases hp : 0 < left
      · go_enter Tryz.func46, Tryz.ntmps46
        go_wp2
        go_ret
        refine ⟨rfl, ?_, Fr.set b 5 w _⟩
        have := hRP.left (left - 1)
        have e : M.tick ⟨room, a, bb, left, false, ops⟩ = ⟨room, a, bb, left - 1, false, ops⟩ := by show M.mk _ _ _ (if 0 < left then left - 1 else left) _ _ = _; rw [if_pos hp]
        rw [e]
        exact this
      · go_enter Tryz.func46, Tryz.ntmps46
        go_wp2
        go_ret
        refine ⟨rfl, ?_, Fr.refl _ _⟩
        have e : M.tick ⟨room, a, bb, left, false, ops⟩ = ⟨room, a, bb, left, false, ops⟩ := by show M.mk _ _ _ (if 0 < left then left - 1 else left) _ _ = _; rw [if_neg (by omega)]
        rw [e]
        exact hRP

theorem c_done (b : Nat) (m : M) (w : World) (h : RP b m w) (hm : m.ops < 4611686018427387904) :
    Calls Tryz.prog 49 #[.pointer (some ⟨b, 0, none⟩)] w fun e w' => e = .returned (.int .i64 0) ∧ RP b m.done w' ∧ Fr b w w' := by
  have hRP := h
  obtain ⟨v0, v1, hb, h0, h1, hs⟩ := h
  have c7 : w.cell? ⟨b, 7, none⟩ = some (.int .i64 m.ops) := by rw [Lib.cell_of_heap hb]; rfl
  have f7 : w.frozen? ⟨b, 7, none⟩ = false := Lib.frozen_of_heap hb 7
  go_enter Tryz.func49, Tryz.ntmps49
  go_wp2
  go_ret
  exact ⟨rfl, hRP.ops (m.ops + 1), Fr.set b 7 w _⟩

theorem c_arm (b : Nat) (m : M) (n : Int) (w : World) (h : RP b m w) : Calls Tryz.prog 17 #[.pointer (some ⟨b, 0, none⟩), .int .i64 n] w fun e w' => e = .returned (.tuple #[]) ∧ RP b (m.arm n) w' ∧ Fr b w w' := by
  have hRP := h
  obtain ⟨v0, v1, hb, h0, h1, hs⟩ := h
  have c5 : w.cell? ⟨b, 5, none⟩ = some (.int .i64 m.left) := by rw [Lib.cell_of_heap hb]; rfl
  have f5 : w.frozen? ⟨b, 5, none⟩ = false := Lib.frozen_of_heap hb 5
  go_enter Tryz.func17, Tryz.ntmps17
  go_wp2
  go_end0
  exact ⟨rfl, hRP.left n, Fr.set b 5 w _⟩

set_option maxHeartbeats 2000000 in
theorem c_free (b : Nat) (m : M) (w : World) (h : RP b m w) (hm : m.ok) : Calls Tryz.prog 47 #[.pointer (some ⟨b, 0, none⟩)] w fun e w' => e = .returned (.int .i64 m.free) ∧ Below w.heap.size w w' := by
  obtain ⟨v0, v1, hb, h0, h1, hs⟩ := h
  obtain ⟨ao0, cap0, rfl, hl0, hc0⟩ := h0.form
  obtain ⟨ao1, cap1, rfl, hl1, hc1⟩ := h1.form
  have g0 : w.cell? ⟨b, 0, none⟩ = some (.int .i64 m.room) := by rw [Lib.cell_of_heap hb]; rfl
  have g1 : w.cell? ⟨b, 1, none⟩ = some (.slice ao0 m.a.s.length cap0) := by rw [Lib.cell_of_heap hb]; rfl
  have g2 : w.cell? ⟨b, 2, none⟩ = some (.int .i64 m.a.k) := by rw [Lib.cell_of_heap hb]; rfl
  have g3 : w.cell? ⟨b, 3, none⟩ = some (.slice ao1 m.b.s.length cap1) := by rw [Lib.cell_of_heap hb]; rfl
  have g4 : w.cell? ⟨b, 4, none⟩ = some (.int .i64 m.b.k) := by rw [Lib.cell_of_heap hb]; rfl
  have hr := hm.room
  have hf := hm.fits
  have i0 : ∀ (x0 x1 x2 x3 : Value) (w : World), (Instr.index 66 (.agg #[x0, x1, x2, x3]) (.int .i64 0)).run Tryz.prog w = .ok (.agg #[x0, x1]) w := fun _ _ _ _ _ => by kernel_rfl
  have i1 : ∀ (x0 x1 x2 x3 : Value) (w : World), (Instr.index 66 (.agg #[x0, x1, x2, x3]) (.int .i64 1)).run Tryz.prog w = .ok (.agg #[x2, x3]) w := fun _ _ _ _ _ => by kernel_rfl
  go_enter Tryz.func47, Tryz.ntmps47
  go_wp2
  refine wp_loop_rounds 3 ?_
  rw [rounds_succ]
  go_wp2
  rw [rounds_succ]
  go_wp2
  rw [rounds_succ]
  go_wp2
  go_ret
  exact ⟨rfl, ((Below.refl _ w).alloc (Nat.le_refl _) _).alloc (by simp) _⟩

end Go.Proofs.YtglkapamkigdhaaGreatDoor.Rl

namespace Go.Proofs.YtglkapamkigdhaaGreatDoor.Rl
open Go.RowKit

abbrev ptr (b : Nat) : Value := .pointer (some ⟨b, 0, none⟩)
theorem power_yes {b : Nat} {m : M} {w : World} (h : RP b m w) (hm : m.ok) (hd : m.dead = true) : Calls Tryz.prog 46 #[ptr b] w fun e w' => e = .returned (.int .i64 30) ∧ RP b m.cut w' ∧ Fr b w w' := by
  have := c_power b m w h hm
  rw [if_pos hd, if_pos hd] at this
  exact this
theorem power_no {b : Nat} {m : M} {w : World} (h : RP b m w) (hm : m.ok) (hd : ¬ m.dead = true) : Calls Tryz.prog 46 #[ptr b] w fun e w' => e = .returned (.int .i64 0) ∧ RP b m.tick w' ∧ Fr b w w' := by
  have := c_power b m w h hm
  rw [if_neg hd, if_neg hd] at this
  exact this

theorem write_x {b : Nat} {m : M} {w : World} (t : Int) (s : ByteArray) (h : RP b m w) (ht : isT t = false) :
    Calls Tryz.prog 21 #[ptr b, .int .i64 t, .string s] w fun e w' => e = .returned (.int .i64 (m.write t s.toList).1) ∧ RP b (m.write t s.toList).2 w' ∧ Fr b w w' := by
  have hw : m.write t s.toList = (2, m) := by unfold M.write; rw [if_pos ht]
  rw [hw]
  clear hw
  go_enter Tryz.func21, Tryz.ntmps21
  go_wp2_with fail
  refine (c_tapeX b t _ ht).mono ?_
  rintro e w' ⟨rfl, rfl⟩
  go_wp2_with fail
  go_ret
  exact ⟨rfl, h, Fr.refl _ _⟩
theorem sync_x {b : Nat} {m : M} {w : World} (t : Int) (h : RP b m w) (ht : isT t = false) :
    Calls Tryz.prog 27 #[ptr b, .int .i64 t] w fun e w' => e = .returned (.int .i64 (m.sync t).1) ∧ RP b (m.sync t).2 w' ∧ Fr b w w' := by
  have hw : m.sync t = (2, m) := by unfold M.sync; rw [if_pos ht]
  rw [hw]
  clear hw
  go_enter Tryz.func27, Tryz.ntmps27
  go_wp2_with fail
  refine (c_tapeX b t _ ht).mono ?_
  rintro e w' ⟨rfl, rfl⟩
  go_wp2_with fail
  go_ret
  exact ⟨rfl, h, Fr.refl _ _⟩
theorem trim_x {b : Nat} {m : M} {w : World} (t n : Int) (h : RP b m w) (ht : isT t = false) :
    Calls Tryz.prog 59 #[ptr b, .int .i64 t, .int .i64 n] w fun e w' => e = .returned (.int .i64 (m.trim t n).1) ∧ RP b (m.trim t n).2 w' ∧ Fr b w w' := by
  have hw : m.trim t n = (2, m) := by unfold M.trim; rw [if_pos (.inl ht)]
  rw [hw]
  clear hw
  go_enter Tryz.func59, Tryz.ntmps59
  go_wp2_with fail
  refine (c_tapeX b t _ ht).mono ?_
  rintro e w' ⟨rfl, rfl⟩
  go_wp2_with fail
  go_ret
  exact ⟨rfl, h, Fr.refl _ _⟩
theorem read_x {b : Nat} {w : World} (t : Int) (ht : isT t = false) :
    Calls Tryz.prog 37 #[ptr b, .int .i64 t] w fun e w' => e = .returned (.tuple #[.string ⟨#[]⟩, .int .i64 2]) ∧ w = w' := by
  go_enter Tryz.func37, Tryz.ntmps37
  go_wp2_with fail
  refine (c_tapeX b t _ ht).mono ?_
  rintro e w' ⟨rfl, rfl⟩
  go_wp2_with fail
  go_ret2
  exact ⟨rfl, rfl⟩

set_option maxHeartbeats 1000000 in
theorem writeA {b : Nat} {m : M} {w : World} (s : ByteArray) (h : RP b m w) (hm : m.ok) (ho : m.ops < 4611686018427387904) (_hsz : s.size ≤ 70368744177664) :
    Calls Tryz.prog 21 #[ptr b, .int .i64 0, .string s] w fun e w' => e = .returned (.int .i64 (m.write 0 s.toList).1) ∧ RP b (m.write 0 s.toList).2 w' ∧ Fr b w w' := by
  by_cases hd : m.dead = true
  · have hw : m.write 0 s.toList = (30, m.cut) := by unfold M.write; rw [if_neg (by decide), if_pos hd]
    rw [hw]
    have cp := fun w (h : RP b m w) => power_yes h hm hd
    clear hw hd
    go_enter Tryz.func21, Tryz.ntmps21
    go_wp2_with fail
    refine (c_tape0 b _).mono ?_
    rintro e w' ⟨rfl, rfl⟩
    go_wp2_with fail
    refine (cp _ h).mono ?_
    rintro e w1 ⟨rfl, h1, f1⟩
    go_wp2_with fail
    go_ret
    exact ⟨rfl, h1, f1⟩
  have cp := fun w (h : RP b m w) => power_no h hm hd
  have cf := fun w (h : RP b m.tick w) => c_free b m.tick w h hm.tick
  have hfree : m.tick.free = (m.room : Int) - m.used := by unfold M.free M.tick M.used; simp only; omega
  have hroom := hm.room
  have hfits := hm.fits
  by_cases hf : m.room < m.used + s.toList.length
  · have hw : m.write 0 s.toList = (5, m.tick) := by unfold M.write; rw [if_neg (by decide), if_neg hd, if_pos hf]
    rw [hw]
    rw [size_toList] at hf
    obtain ⟨q, hq⟩ : ∃ q, q = m.tick.free := ⟨_, rfl⟩
    rw [← hq] at cf
    have hlt : q < (s.size : Int) := by rw [hq]; unfold M.used at *; omega
    clear hw hd hq
    go_enter Tryz.func21, Tryz.ntmps21
    go_wp2_with fail
    refine (c_tape0 b _).mono ?_
    rintro e w' ⟨rfl, rfl⟩
    go_wp2_with fail
    refine (cp _ h).mono ?_
    rintro e w1 ⟨rfl, h1, f1⟩
    go_wp2_with fail
    refine (cf _ h1).mono ?_
    rintro e w2 ⟨rfl, b2⟩
    go_wp2_with fail
    go_ret
    exact ⟨rfl, h1.below b2, f1.trans (Fr.of_below b2 h1.lt)⟩
  · have hw : m.write 0 s.toList = (0, M.done { m.tick with a := ⟨m.a.s ++ s.toList, m.a.k⟩ }) := by
      unfold M.write; rw [if_neg (by decide), if_neg hd, if_neg hf]; rfl
    rw [hw]
    rw [size_toList] at hf
    obtain ⟨q, hq⟩ : ∃ q, q = m.tick.free := ⟨_, rfl⟩
    rw [← hq] at cf
    have hge : (s.size : Int) ≤ q := by rw [hq]; unfold M.used at *; omega
    have hlen : m.a.s.length + s.size ≤ 140737488355328 := by unfold M.used at *; omega
    have hot : M.ops { m.tick with a := ⟨m.a.s ++ s.toList, m.a.k⟩ } < 4611686018427387904 := ho
    clear hw hd hq hf hfits hroom hfree
    go_enter Tryz.func21, Tryz.ntmps21
    go_wp2_with fail
    refine (c_tape0 b _).mono ?_
    rintro e w' ⟨rfl, rfl⟩
    go_wp2_with fail
    refine (cp _ h).mono ?_
    rintro e w1 ⟨rfl, h1, f1⟩
    go_wp2_with fail
    refine (cf _ h1).mono ?_
    rintro e w2 ⟨rfl, b2⟩
    have h2 := h1.below b2
    have f2 := f1.trans (Fr.of_below b2 h1.lt)
    go_wp2_with fail
    refine (c_writeA b m.tick s _ h2 hlen).mono ?_
    rintro e w3 ⟨rfl, h3, f3⟩
    have f3' := f2.trans f3
    go_wp2_with fail
    refine (c_done b _ _ h3 hot).mono ?_
    rintro e w4 ⟨rfl, h4, f4⟩
    go_wp2_with fail
    go_ret
    exact ⟨rfl, h4, f3'.trans f4⟩

set_option maxHeartbeats 1000000 in
theorem syncA {b : Nat} {m : M} {w : World} (h : RP b m w) (hm : m.ok) (ho : m.ops < 4611686018427387904) :
    Calls Tryz.prog 27 #[ptr b, .int .i64 0] w fun e w' => e = .returned (.int .i64 (m.sync 0).1) ∧ RP b (m.sync 0).2 w' ∧ Fr b w w' := by
  by_cases hd : m.dead = true
  · have hw : m.sync 0 = (30, m.cut) := by unfold M.sync; rw [if_neg (by decide), if_pos hd]
    rw [hw]
    have cp := fun w (h : RP b m w) => power_yes h hm hd
    clear hw hd
    go_enter Tryz.func27, Tryz.ntmps27
    go_wp2_with fail
    refine (c_tape0 b _).mono ?_
    rintro e w' ⟨rfl, rfl⟩
    go_wp2_with fail
    refine (cp _ h).mono ?_
    rintro e w1 ⟨rfl, h1, f1⟩
    go_wp2_with fail
    go_ret
    exact ⟨rfl, h1, f1⟩
  have cp := fun w (h : RP b m w) => power_no h hm hd
  have hw : m.sync 0 = (0, M.done { m.tick with a := ⟨m.a.s, m.a.s.length⟩ }) := by
    unfold M.sync; rw [if_neg (by decide), if_neg hd]; rfl
  rw [hw]
  have hot : M.ops { m.tick with a := ⟨m.a.s, m.a.s.length⟩ } < 4611686018427387904 := ho
  clear hw hd
  go_enter Tryz.func27, Tryz.ntmps27
  go_wp2_with fail
  refine (c_tape0 b _).mono ?_
  rintro e w' ⟨rfl, rfl⟩
  go_wp2_with fail
  refine (cp _ h).mono ?_
  rintro e w1 ⟨rfl, h1, f1⟩
  go_wp2_with fail
  refine (c_syncA b m.tick _ h1).mono ?_
  rintro e w3 ⟨rfl, h3, f3⟩
  have f3' := f1.trans f3
  go_wp2_with fail
  refine (c_done b _ _ h3 hot).mono ?_
  rintro e w4 ⟨rfl, h4, f4⟩
  go_wp2_with fail
  go_ret
  exact ⟨rfl, h4, f3'.trans f4⟩

set_option maxHeartbeats 1000000 in
theorem trimA {b : Nat} {m : M} {w : World} (n : Int) (h : RP b m w) (hm : m.ok) (ho : m.ops < 4611686018427387904) :
    Calls Tryz.prog 59 #[ptr b, .int .i64 0, .int .i64 n] w fun e w' => e = .returned (.int .i64 (m.trim 0 n).1) ∧ RP b (m.trim 0 n).2 w' ∧ Fr b w w' := by
  by_cases hn : n < 0
  · have hw : m.trim 0 n = (2, m) := by unfold M.trim; rw [if_pos (.inr hn)]
    rw [hw]
    clear hw
    go_enter Tryz.func59, Tryz.ntmps59
    go_wp2_with fail
    refine (c_tape0 b _).mono ?_
    rintro e w' ⟨rfl, rfl⟩
    go_wp2_with fail
    go_ret
    exact ⟨rfl, h, Fr.refl _ _⟩
  have hor : ¬ (isT 0 = false ∨ n < 0) := fun h' => h'.elim (fun h' => by cases h') hn
  by_cases hd : m.dead = true
  · have hw : m.trim 0 n = (30, m.cut) := by unfold M.trim; rw [if_neg hor, if_pos hd]
    rw [hw]
    have cp := fun w (h : RP b m w) => power_yes h hm hd
    clear hw hd
    go_enter Tryz.func59, Tryz.ntmps59
    go_wp2_with fail
    refine (c_tape0 b _).mono ?_
    rintro e w' ⟨rfl, rfl⟩
    go_wp2_with fail
    refine (cp _ h).mono ?_
    rintro e w1 ⟨rfl, h1, f1⟩
    go_wp2_with fail
    go_ret
    exact ⟨rfl, h1, f1⟩
  have cp := fun w (h : RP b m w) => power_no h hm hd
  by_cases hl : ((m.get 0).s.length : Int) < n
  · have hw : m.trim 0 n = (2, m.tick) := by unfold M.trim; rw [if_neg hor, if_neg hd, if_pos hl]
    rw [hw]
    have hl' : (m.a.s.length : Int) < n := hl
    clear hw hd hl hor
    go_enter Tryz.func59, Tryz.ntmps59
    go_wp2_with fail
    refine (c_tape0 b _).mono ?_
    rintro e w' ⟨rfl, rfl⟩
    go_wp2_with fail
    refine (cp _ h).mono ?_
    rintro e w1 ⟨rfl, h1, f1⟩
    obtain ⟨ao, cap, hcell⟩ : ∃ ao cap, w1.cell? ⟨b, 1, none⟩ = some (.slice ao m.a.s.length cap) := by
      obtain ⟨v0, v1, hb, h0, h1', hs⟩ := h1
      obtain ⟨ao, cap, rfl, _⟩ := h0.form
      exact ⟨ao, cap, by rw [Lib.cell_of_heap hb]; rfl⟩
    go_wp2_with fail
    go_ret
    exact ⟨rfl, h1, f1⟩
  · have hw : m.trim 0 n = (0, M.done { m.tick with a := ⟨m.a.s.take n.toNat, min m.a.k n.toNat⟩ }) := by
      unfold M.trim; rw [if_neg hor, if_neg hd, if_neg hl]; rfl
    rw [hw]
    have hl' : n ≤ (m.a.s.length : Int) := by have : ¬ (m.a.s.length : Int) < n := hl; omega
    have hot : M.ops { m.tick with a := ⟨m.a.s.take n.toNat, min m.a.k n.toNat⟩ } < 4611686018427387904 := ho
    obtain ⟨k, rfl⟩ : ∃ k : Nat, n = k := ⟨n.toNat, by omega⟩
    simp only [Int.toNat_natCast] at *
    have hkl : k ≤ m.a.s.length := by omega
    clear hw hd hl hor hn
    go_enter Tryz.func59, Tryz.ntmps59
    go_wp2_with fail
    refine (c_tape0 b _).mono ?_
    rintro e w' ⟨rfl, rfl⟩
    go_wp2_with fail
    refine (cp _ h).mono ?_
    rintro e w1 ⟨rfl, h1, f1⟩
    obtain ⟨ao, cap, hcell⟩ : ∃ ao cap, w1.cell? ⟨b, 1, none⟩ = some (.slice ao m.a.s.length cap) := by
      obtain ⟨v0, v1, hb, h0, h1', hs⟩ := h1
      obtain ⟨ao, cap, rfl, _⟩ := h0.form
      exact ⟨ao, cap, by rw [Lib.cell_of_heap hb]; rfl⟩
    go_wp2_with fail
    refine (c_trimA b m.tick k _ h1 hm.tick hkl).mono ?_
    rintro e w3 ⟨rfl, h3, f3⟩
    have f3' := f1.trans f3
    go_wp2_with fail
    refine (c_done b _ _ h3 hot).mono ?_
    rintro e w4 ⟨rfl, h4, f4⟩
    go_wp2_with fail
    go_ret
    exact ⟨rfl, h4, f3'.trans f4⟩

set_option maxHeartbeats 1000000 in
theorem writeB {b : Nat} {m : M} {w : World} (s : ByteArray) (h : RP b m w) (hm : m.ok) (ho : m.ops < 4611686018427387904) (_hsz : s.size ≤ 70368744177664) :
    Calls Tryz.prog 21 #[ptr b, .int .i64 1, .string s] w fun e w' => e = .returned (.int .i64 (m.write 1 s.toList).1) ∧ RP b (m.write 1 s.toList).2 w' ∧ Fr b w w' := by
  by_cases hd : m.dead = true
  · have hw : m.write 1 s.toList = (30, m.cut) := by unfold M.write; rw [if_neg (by decide), if_pos hd]
    rw [hw]
    have cp := fun w (h : RP b m w) => power_yes h hm hd
    clear hw hd
    go_enter Tryz.func21, Tryz.ntmps21
    go_wp2_with fail
    refine (c_tape1 b _).mono ?_
    rintro e w' ⟨rfl, rfl⟩
    go_wp2_with fail
    refine (cp _ h).mono ?_
    rintro e w1 ⟨rfl, h1, f1⟩
    go_wp2_with fail
    go_ret
    exact ⟨rfl, h1, f1⟩
  have cp := fun w (h : RP b m w) => power_no h hm hd
  have cf := fun w (h : RP b m.tick w) => c_free b m.tick w h hm.tick
  have hfree : m.tick.free = (m.room : Int) - m.used := by unfold M.free M.tick M.used; simp only; omega
  have hroom := hm.room
  have hfits := hm.fits
  by_cases hf : m.room < m.used + s.toList.length
  · have hw : m.write 1 s.toList = (5, m.tick) := by unfold M.write; rw [if_neg (by decide), if_neg hd, if_pos hf]
    rw [hw]
    rw [size_toList] at hf
    obtain ⟨q, hq⟩ : ∃ q, q = m.tick.free := ⟨_, rfl⟩
    rw [← hq] at cf
    have hlt : q < (s.size : Int) := by rw [hq]; unfold M.used at *; omega
    clear hw hd hq
    go_enter Tryz.func21, Tryz.ntmps21
    go_wp2_with fail
    refine (c_tape1 b _).mono ?_
    rintro e w' ⟨rfl, rfl⟩
    go_wp2_with fail
    refine (cp _ h).mono ?_
    rintro e w1 ⟨rfl, h1, f1⟩
    go_wp2_with fail
    refine (cf _ h1).mono ?_
    rintro e w2 ⟨rfl, b2⟩
    go_wp2_with fail
    go_ret
    exact ⟨rfl, h1.below b2, f1.trans (Fr.of_below b2 h1.lt)⟩
  · have hw : m.write 1 s.toList = (0, M.done { m.tick with b := ⟨m.b.s ++ s.toList, m.b.k⟩ }) := by
      unfold M.write; rw [if_neg (by decide), if_neg hd, if_neg hf]; rfl
    rw [hw]
    rw [size_toList] at hf
    obtain ⟨q, hq⟩ : ∃ q, q = m.tick.free := ⟨_, rfl⟩
    rw [← hq] at cf
    have hge : (s.size : Int) ≤ q := by rw [hq]; unfold M.used at *; omega
    have hlen : m.b.s.length + s.size ≤ 140737488355328 := by unfold M.used at *; omega
    have hot : M.ops { m.tick with b := ⟨m.b.s ++ s.toList, m.b.k⟩ } < 4611686018427387904 := ho
    clear hw hd hq hf hfits hroom hfree
    go_enter Tryz.func21, Tryz.ntmps21
    go_wp2_with fail
    refine (c_tape1 b _).mono ?_
    rintro e w' ⟨rfl, rfl⟩
    go_wp2_with fail
    refine (cp _ h).mono ?_
    rintro e w1 ⟨rfl, h1, f1⟩
    go_wp2_with fail
    refine (cf _ h1).mono ?_
    rintro e w2 ⟨rfl, b2⟩
    have h2 := h1.below b2
    have f2 := f1.trans (Fr.of_below b2 h1.lt)
    go_wp2_with fail
    refine (c_writeB b m.tick s _ h2 hlen).mono ?_
    rintro e w3 ⟨rfl, h3, f3⟩
    have f3' := f2.trans f3
    go_wp2_with fail
    refine (c_done b _ _ h3 hot).mono ?_
    rintro e w4 ⟨rfl, h4, f4⟩
    go_wp2_with fail
    go_ret
    exact ⟨rfl, h4, f3'.trans f4⟩

set_option maxHeartbeats 1000000 in
theorem syncB {b : Nat} {m : M} {w : World} (h : RP b m w) (hm : m.ok) (ho : m.ops < 4611686018427387904) :
    Calls Tryz.prog 27 #[ptr b, .int .i64 1] w fun e w' => e = .returned (.int .i64 (m.sync 1).1) ∧ RP b (m.sync 1).2 w' ∧ Fr b w w' := by
  by_cases hd : m.dead = true
  · have hw : m.sync 1 = (30, m.cut) := by unfold M.sync; rw [if_neg (by decide), if_pos hd]
    rw [hw]
    have cp := fun w (h : RP b m w) => power_yes h hm hd
    clear hw hd
    go_enter Tryz.func27, Tryz.ntmps27
    go_wp2_with fail
    refine (c_tape1 b _).mono ?_
    rintro e w' ⟨rfl, rfl⟩
    go_wp2_with fail
    refine (cp _ h).mono ?_
    rintro e w1 ⟨rfl, h1, f1⟩
    go_wp2_with fail
    go_ret
    exact ⟨rfl, h1, f1⟩
  have cp := fun w (h : RP b m w) => power_no h hm hd
  have hw : m.sync 1 = (0, M.done { m.tick with b := ⟨m.b.s, m.b.s.length⟩ }) := by
    unfold M.sync; rw [if_neg (by decide), if_neg hd]; rfl
  rw [hw]
  have hot : M.ops { m.tick with b := ⟨m.b.s, m.b.s.length⟩ } < 4611686018427387904 := ho
  clear hw hd
  go_enter Tryz.func27, Tryz.ntmps27
  go_wp2_with fail
  refine (c_tape1 b _).mono ?_
  rintro e w' ⟨rfl, rfl⟩
  go_wp2_with fail
  refine (cp _ h).mono ?_
  rintro e w1 ⟨rfl, h1, f1⟩
  go_wp2_with fail
  refine (c_syncB b m.tick _ h1).mono ?_
  rintro e w3 ⟨rfl, h3, f3⟩
  have f3' := f1.trans f3
  go_wp2_with fail
  refine (c_done b _ _ h3 hot).mono ?_
  rintro e w4 ⟨rfl, h4, f4⟩
  go_wp2_with fail
  go_ret
  exact ⟨rfl, h4, f3'.trans f4⟩

set_option maxHeartbeats 1000000 in
theorem trimB {b : Nat} {m : M} {w : World} (n : Int) (h : RP b m w) (hm : m.ok) (ho : m.ops < 4611686018427387904) :
    Calls Tryz.prog 59 #[ptr b, .int .i64 1, .int .i64 n] w fun e w' => e = .returned (.int .i64 (m.trim 1 n).1) ∧ RP b (m.trim 1 n).2 w' ∧ Fr b w w' := by
  by_cases hn : n < 0
  · have hw : m.trim 1 n = (2, m) := by unfold M.trim; rw [if_pos (.inr hn)]
    rw [hw]
    clear hw
    go_enter Tryz.func59, Tryz.ntmps59
    go_wp2_with fail
    refine (c_tape1 b _).mono ?_
    rintro e w' ⟨rfl, rfl⟩
    go_wp2_with fail
    go_ret
    exact ⟨rfl, h, Fr.refl _ _⟩
  have hor : ¬ (isT 1 = false ∨ n < 0) := fun h' => h'.elim (fun h' => by cases h') hn
  by_cases hd : m.dead = true
  · have hw : m.trim 1 n = (30, m.cut) := by unfold M.trim; rw [if_neg hor, if_pos hd]
    rw [hw]
    have cp := fun w (h : RP b m w) => power_yes h hm hd
    clear hw hd
    go_enter Tryz.func59, Tryz.ntmps59
    go_wp2_with fail
    refine (c_tape1 b _).mono ?_
    rintro e w' ⟨rfl, rfl⟩
    go_wp2_with fail
    refine (cp _ h).mono ?_
    rintro e w1 ⟨rfl, h1, f1⟩
    go_wp2_with fail
    go_ret
    exact ⟨rfl, h1, f1⟩
  have cp := fun w (h : RP b m w) => power_no h hm hd
  by_cases hl : ((m.get 1).s.length : Int) < n
  · have hw : m.trim 1 n = (2, m.tick) := by unfold M.trim; rw [if_neg hor, if_neg hd, if_pos hl]
    rw [hw]
    have hl' : (m.b.s.length : Int) < n := hl
    clear hw hd hl hor
    go_enter Tryz.func59, Tryz.ntmps59
    go_wp2_with fail
    refine (c_tape1 b _).mono ?_
    rintro e w' ⟨rfl, rfl⟩
    go_wp2_with fail
    refine (cp _ h).mono ?_
    rintro e w1 ⟨rfl, h1, f1⟩
    obtain ⟨ao, cap, hcell⟩ : ∃ ao cap, w1.cell? ⟨b, 3, none⟩ = some (.slice ao m.b.s.length cap) := by
      obtain ⟨v0, v1, hb, h0, h1', hs⟩ := h1
      obtain ⟨ao, cap, rfl, _⟩ := h1'.form
      exact ⟨ao, cap, by rw [Lib.cell_of_heap hb]; rfl⟩
    go_wp2_with fail
    go_ret
    exact ⟨rfl, h1, f1⟩
  · have hw : m.trim 1 n = (0, M.done { m.tick with b := ⟨m.b.s.take n.toNat, min m.b.k n.toNat⟩ }) := by
      unfold M.trim; rw [if_neg hor, if_neg hd, if_neg hl]; rfl
    rw [hw]
    have hl' : n ≤ (m.b.s.length : Int) := by have : ¬ (m.b.s.length : Int) < n := hl; omega
    have hot : M.ops { m.tick with b := ⟨m.b.s.take n.toNat, min m.b.k n.toNat⟩ } < 4611686018427387904 := ho
    obtain ⟨k, rfl⟩ : ∃ k : Nat, n = k := ⟨n.toNat, by omega⟩
    simp only [Int.toNat_natCast] at *
    have hkl : k ≤ m.b.s.length := by omega
    clear hw hd hl hor hn
    go_enter Tryz.func59, Tryz.ntmps59
    go_wp2_with fail
    refine (c_tape1 b _).mono ?_
    rintro e w' ⟨rfl, rfl⟩
    go_wp2_with fail
    refine (cp _ h).mono ?_
    rintro e w1 ⟨rfl, h1, f1⟩
    obtain ⟨ao, cap, hcell⟩ : ∃ ao cap, w1.cell? ⟨b, 3, none⟩ = some (.slice ao m.b.s.length cap) := by
      obtain ⟨v0, v1, hb, h0, h1', hs⟩ := h1
      obtain ⟨ao, cap, rfl, _⟩ := h1'.form
      exact ⟨ao, cap, by rw [Lib.cell_of_heap hb]; rfl⟩
    go_wp2_with fail
    refine (c_trimB b m.tick k _ h1 hm.tick hkl).mono ?_
    rintro e w3 ⟨rfl, h3, f3⟩
    have f3' := f1.trans f3
    go_wp2_with fail
    refine (c_done b _ _ h3 hot).mono ?_
    rintro e w4 ⟨rfl, h4, f4⟩
    go_wp2_with fail
    go_ret
    exact ⟨rfl, h4, f3'.trans f4⟩

theorem c_write {b : Nat} {m : M} {w : World} (t : Int) (s : ByteArray) (h : RP b m w) (hm : m.ok) (ho : m.ops < 4611686018427387904) (hsz : s.size ≤ 70368744177664) :
    Calls Tryz.prog 21 #[ptr b, .int .i64 t, .string s] w fun e w' => e = .returned (.int .i64 (m.write t s.toList).1) ∧ RP b (m.write t s.toList).2 w' ∧ Fr b w w' := by
  cases ht : isT t with
  | false => exact write_x t s h ht
  | true =>
    rcases isT_cases ht with rfl | rfl
    · exact writeA s h hm ho hsz
    · exact writeB s h hm ho hsz
theorem c_sync {b : Nat} {m : M} {w : World} (t : Int) (h : RP b m w) (hm : m.ok) (ho : m.ops < 4611686018427387904) :
    Calls Tryz.prog 27 #[ptr b, .int .i64 t] w fun e w' => e = .returned (.int .i64 (m.sync t).1) ∧ RP b (m.sync t).2 w' ∧ Fr b w w' := by
  cases ht : isT t with
  | false => exact sync_x t h ht
  | true =>
    rcases isT_cases ht with rfl | rfl
    · exact syncA h hm ho
    · exact syncB h hm ho
theorem c_trim {b : Nat} {m : M} {w : World} (t n : Int) (h : RP b m w) (hm : m.ok) (ho : m.ops < 4611686018427387904) :
    Calls Tryz.prog 59 #[ptr b, .int .i64 t, .int .i64 n] w fun e w' => e = .returned (.int .i64 (m.trim t n).1) ∧ RP b (m.trim t n).2 w' ∧ Fr b w w' := by
  cases ht : isT t with
  | false => exact trim_x t n h ht
  | true =>
    rcases isT_cases ht with rfl | rfl
    · exact trimA n h hm ho
    · exact trimB n h hm ho
theorem c_wipe {b : Nat} {m : M} {w : World} (t : Int) (h : RP b m w) (hm : m.ok) (ho : m.ops < 4611686018427387904) :
    Calls Tryz.prog 43 #[ptr b, .int .i64 t] w fun e w' => e = .returned (.int .i64 (m.trim t 0).1) ∧ RP b (m.trim t 0).2 w' ∧ Fr b w w' := by
  go_enter Tryz.func43, Tryz.ntmps43
  go_wp2_with fail
  refine (c_trim t 0 h hm ho).mono ?_
  rintro e w1 ⟨rfl, h1, f1⟩
  go_wp2_with fail
  go_ret
  exact ⟨rfl, h1, f1⟩

theorem new_bad (r : Int) (w : World) (h : r < 0 ∨ 4194304 < r) : Calls Tryz.prog 7 #[.int .i64 r] w fun e w' => e = .returned (.tuple #[.pointer none, .int .i64 2]) ∧ w = w' := by
  by_cases h0 : r < 0
  · go_enter Tryz.func7, Tryz.ntmps7
    go_wp2
    go_ret2
    exact ⟨rfl, rfl⟩
  · have h1 : 4194304 < r := by omega
    go_enter Tryz.func7, Tryz.ntmps7
    go_wp2
    go_ret2
    exact ⟨rfl, rfl⟩
theorem RP.made (room : Nat) (w : World) : RP w.heap.size (M.new room) (w.alloc (.cells #[.int .i64 room, .slice none 0 0, .int .i64 0, .slice none 0 0, .int .i64 0, .int .i64 (-1), .bool false, .int .i64 0] 68)) :=
  ⟨.slice none 0 0, .slice none 0 0, heap_alloc_new w _, World.ownsRow_nil _ _ _ _, World.ownsRow_nil _ _ _ _, fun _ h => by cases h⟩
theorem new_good (room : Nat) (w : World) (h : room ≤ 4194304) : Calls Tryz.prog 7 #[.int .i64 room] w fun e w' => e = .returned (.tuple #[ptr w.heap.size, .int .i64 0]) ∧ RP w.heap.size (M.new room) w' ∧ Below w.heap.size w w' ∧ w'.heap.size = w.heap.size + 1 := by
  go_enter Tryz.func7, Tryz.ntmps7
  go_wp2
  go_ret2
  exact ⟨rfl, RP.made room w, (Below.refl _ w).alloc (Nat.le_refl _) _, by simp⟩

end Go.Proofs.YtglkapamkigdhaaGreatDoor.Rl

namespace Go.Proofs.YtglkapamkigdhaaGreatDoor.Rl
open Go.RowKit

abbrev tx (s : Text) : ByteArray := ⟨s.toArray⟩
theorem tx_toList (s : Text) : (tx s).toList = s := by rw [ByteArray.toList_eq]
theorem tx_size (s : Text) : (tx s).size = s.length := by rw [← size_toList, tx_toList]
theorem tx_self (s : ByteArray) : tx s.toList = s := bytes_ext (tx_toList _)

theorem Rw.text {w : World} {b : Nat} {v : Value} {s : Text} (h : Rw w b v s) : (convert 61 9 v).run Tryz.prog w = .ok (.string (tx s)) w := by
  rcases h.2 with ⟨rfl, h0⟩ | ⟨g, cap, cur, rfl, hb, hg, h1, h2, h3, h4⟩
  · obtain rfl : s = [] := List.eq_nil_of_length_eq_zero h0
    rw [run_convert_bytes_string w 61 9 5 none 0 0 Tryz.underlying61 Tryz.underlying5 Tryz.underlying9]
    rfl
  · refine run_convert_bytes_back (P := Tryz.prog) w 61 9 5 ⟨g, 0, none⟩ cap s Tryz.underlying61 Tryz.underlying5 Tryz.underlying9 (fun j hj => ?_)
    have := h.cells (g := g) rfl j (.int .u8 (s[j].toNat : Int)) (by simp [Lib.byteCells, hj])
    exact this

theorem readA {b : Nat} {m : M} {w : World} (h : RP b m w) :
    Calls Tryz.prog 37 #[ptr b, .int .i64 0] w fun e w' => e = .returned (.tuple #[.string (tx (m.read 0).1), .int .i64 (m.read 0).2]) ∧ w = w' := by
  obtain ⟨v0, v1, hb, h0, h1, hs⟩ := h
  have g6 : w.cell? ⟨b, 6, none⟩ = some (.bool m.off) := by rw [Lib.cell_of_heap hb]; rfl
  have g1 : w.cell? ⟨b, 1, none⟩ = some v0 := by rw [Lib.cell_of_heap hb]; rfl
  have ht := h0.text
  cases hof : m.off with
  | true =>
    have hr : m.read 0 = ([], 30) := by unfold M.read; rw [if_neg (by decide), if_pos hof]
    rw [hr]
    rw [hof] at g6
    clear hr hof
    go_enter Tryz.func37, Tryz.ntmps37
    go_wp2_with fail
    refine (c_tape0 b _).mono ?_
    rintro e w' ⟨rfl, rfl⟩
    go_wp2_with fail
    go_ret2
    exact ⟨rfl, rfl⟩
  | false =>
    have hr : m.read 0 = (m.a.s, 0) := by unfold M.read; rw [if_neg (by decide), if_neg (by rw [hof]; decide)]; rfl
    rw [hr]
    rw [hof] at g6
    clear hr hof
    obtain ⟨ao, cap, rfl, _⟩ := h0.form
    go_enter Tryz.func37, Tryz.ntmps37
    go_wp2_with fail
    refine (c_tape0 b _).mono ?_
    rintro e w' ⟨rfl, rfl⟩
    go_wp2_with fail
    go_ret2
    exact ⟨rfl, rfl⟩
theorem readB {b : Nat} {m : M} {w : World} (h : RP b m w) :
    Calls Tryz.prog 37 #[ptr b, .int .i64 1] w fun e w' => e = .returned (.tuple #[.string (tx (m.read 1).1), .int .i64 (m.read 1).2]) ∧ w = w' := by
  obtain ⟨v0, v1, hb, h0, h1, hs⟩ := h
  have g6 : w.cell? ⟨b, 6, none⟩ = some (.bool m.off) := by rw [Lib.cell_of_heap hb]; rfl
  have g1 : w.cell? ⟨b, 3, none⟩ = some v1 := by rw [Lib.cell_of_heap hb]; rfl
  have ht := h1.text
  cases hof : m.off with
  | true =>
    have hr : m.read 1 = ([], 30) := by unfold M.read; rw [if_neg (by decide), if_pos hof]
    rw [hr]
    rw [hof] at g6
    clear hr hof
    go_enter Tryz.func37, Tryz.ntmps37
    go_wp2_with fail
    refine (c_tape1 b _).mono ?_
    rintro e w' ⟨rfl, rfl⟩
    go_wp2_with fail
    go_ret2
    exact ⟨rfl, rfl⟩
  | false =>
    have hr : m.read 1 = (m.b.s, 0) := by unfold M.read; rw [if_neg (by decide), if_neg (by rw [hof]; decide)]; rfl
    rw [hr]
    rw [hof] at g6
    clear hr hof
    obtain ⟨ao, cap, rfl, _⟩ := h1.form
    go_enter Tryz.func37, Tryz.ntmps37
    go_wp2_with fail
    refine (c_tape1 b _).mono ?_
    rintro e w' ⟨rfl, rfl⟩
    go_wp2_with fail
    go_ret2
    exact ⟨rfl, rfl⟩
theorem c_read {b : Nat} {m : M} {w : World} (t : Int) (h : RP b m w) :
    Calls Tryz.prog 37 #[ptr b, .int .i64 t] w fun e w' => e = .returned (.tuple #[.string (tx (m.read t).1), .int .i64 (m.read t).2]) ∧ w = w' := by
  cases ht : isT t with
  | false =>
    have hr : m.read t = ([], 2) := by unfold M.read; rw [if_pos ht]
    rw [hr]
    exact read_x t ht
  | true =>
    rcases isT_cases ht with rfl | rfl
    · exact readA h
    · exact readB h

theorem RP.drew {b : Nat} {m : M} {w : World} (h : RP b m w) : RP b m w.drew := h
theorem M.ok.crashA {m : M} (h : m.ok) (a0 : Int) (u : UInt8) : M.ok { m with a := m.a.crash a0 u } := by
  obtain ⟨p1, p2, p3⟩ := Tape.crash_k h.ka a0 u
  have := h.fits
  exact ⟨by show (m.a.crash a0 u).k ≤ (m.a.crash a0 u).s.length; omega, h.kb, by show (m.a.crash a0 u).s.length + m.b.s.length ≤ m.room; omega, h.room, h.lo, h.hi, h.ops⟩
abbrev tailV (k0 k1 : Int) (u : UInt8) : Value := .agg #[.int .i64 k0, .int .i64 k1, .int .u8 u.toNat]
set_option maxHeartbeats 2000000 in
theorem c_crash {b : Nat} {m : M} {w : World} (k0 k1 : Int) (u : UInt8) (h : RP b m w) (hm : m.ok) (h0 : -9223372036854775808 ≤ k0) (h1 : k0 ≤ 9223372036854775807) (h2 : -9223372036854775808 ≤ k1) (h3 : k1 ≤ 9223372036854775807) :
    Calls Tryz.prog 18 #[ptr b, tailV k0 k1 u] w fun e w' => e = .returned (.tuple #[]) ∧ RP b (m.crash k0 k1 u) w' ∧ Fr b w w' := by
  have hlt := h.lt
  have hR0 := h.below ((Below.refl _ w).alloc (Nat.le_refl _) (.cells #[.int .i64 k0, .int .i64 k1, .int .u8 u.toNat] 42))
  go_enter Tryz.func18, Tryz.ntmps18
  go_wp2
  refine wp_loop_rounds 3 ?_
  rw [rounds_succ]
  go_wp2
  go_region_with (go_at_call 44; refine (c_crashA b m k0 u _ hR0.drew hm h0 h1).mono ?_; rintro e w1 ⟨rfl, p1, f1⟩)
  all_goals
    have B1 := Fr.other f1 hR0.drew w.heap.size #[.int .i64 k0, .int .i64 k1, .int .u8 u.toNat] 42 (0, 0) (heap_alloc_new w _) (by omega) (by decide)
    have q1 : w1.cell? ⟨w.heap.size, 1, none⟩ = some (.int .i64 k1) := by rw [Lib.cell_of_heap B1]; rfl
    have q2 : w1.cell? ⟨w.heap.size, 2, none⟩ = some (.int .u8 u.toNat) := by rw [Lib.cell_of_heap B1]; rfl
    go_wp2
    rw [rounds_succ]
    go_wp2
    go_region_with (go_at_call 44; refine (c_crashB b { m with a := m.a.crash k0 u } k1 u _ p1.drew (hm.crashA k0 u) h2 h3).mono ?_; rintro e w2 ⟨rfl, p2, f2⟩)
  all_goals
    have ff := ((Fr.alloc b w (.cells #[.int .i64 k0, .int .i64 k1, .int .u8 u.toNat] 42) hlt).drew.trans f1).drew.trans f2
    have hc5 : ∃ x, w2.cell? ⟨b, 5, none⟩ = some x := by obtain ⟨v0, v1, hb, _⟩ := p2; exact ⟨_, by rw [Lib.cell_of_heap hb]; rfl⟩
    have hc6 : ∃ x, w2.cell? ⟨b, 6, none⟩ = some x := by obtain ⟨v0, v1, hb, _⟩ := p2; exact ⟨_, by rw [Lib.cell_of_heap hb]; rfl⟩
    have hf5 : w2.frozen? ⟨b, 5, none⟩ = false := by obtain ⟨v0, v1, hb, _⟩ := p2; exact Lib.frozen_of_heap hb 5
    have hf6 : w2.frozen? ⟨b, 6, none⟩ = false := by obtain ⟨v0, v1, hb, _⟩ := p2; exact Lib.frozen_of_heap hb 6
    obtain ⟨x5, hc5⟩ := hc5
    obtain ⟨x6, hc6⟩ := hc6
    have fin : RP b (m.crash k0 k1 u) ((w2.setCell ⟨b, 6, none⟩ (.bool false)).setCell ⟨b, 5, none⟩ (.int .i64 (-1))) := (p2.off false).left (-1)
    have fin2 := (ff.trans (Fr.set b 6 w2 (.bool false))).trans (Fr.set b 5 _ (.int .i64 (-1)))
    clear ff p1 p2 f1 f2 B1 q1 q2
    go_wp2
    rw [rounds_succ]
    go_wp2
    go_end0
    exact ⟨rfl, fin, fin2⟩

end Go.Proofs.YtglkapamkigdhaaGreatDoor.Rl

namespace Go.Proofs.YtglkapamkigdhaaGreatDoor.Rl
open Go.RowKit

theorem nil_write (t : Int) (s : ByteArray) (w : World) : Calls Tryz.prog 21 #[.pointer none, .int .i64 t, .string s] w fun e w' => e = .returned (.int .i64 7) ∧ w = w' := by
  go_enter Tryz.func21, Tryz.ntmps21
  go_wp2_with fail
  refine (c_tapeN t _).mono ?_
  rintro e w' ⟨rfl, rfl⟩
  go_wp2_with fail
  go_ret
  exact ⟨rfl, rfl⟩
theorem nil_sync (t : Int) (w : World) : Calls Tryz.prog 27 #[.pointer none, .int .i64 t] w fun e w' => e = .returned (.int .i64 7) ∧ w = w' := by
  go_enter Tryz.func27, Tryz.ntmps27
  go_wp2_with fail
  refine (c_tapeN t _).mono ?_
  rintro e w' ⟨rfl, rfl⟩
  go_wp2_with fail
  go_ret
  exact ⟨rfl, rfl⟩
theorem nil_trim (t n : Int) (w : World) : Calls Tryz.prog 59 #[.pointer none, .int .i64 t, .int .i64 n] w fun e w' => e = .returned (.int .i64 7) ∧ w = w' := by
  go_enter Tryz.func59, Tryz.ntmps59
  go_wp2_with fail
  refine (c_tapeN t _).mono ?_
  rintro e w' ⟨rfl, rfl⟩
  go_wp2_with fail
  go_ret
  exact ⟨rfl, rfl⟩
theorem nil_wipe (t : Int) (w : World) : Calls Tryz.prog 43 #[.pointer none, .int .i64 t] w fun e w' => e = .returned (.int .i64 7) ∧ w = w' := by
  go_enter Tryz.func43, Tryz.ntmps43
  go_wp2_with fail
  refine (nil_trim t 0 _).mono ?_
  rintro e w' ⟨rfl, rfl⟩
  go_wp2_with fail
  go_ret
  exact ⟨rfl, rfl⟩
theorem nil_read (t : Int) (w : World) : Calls Tryz.prog 37 #[.pointer none, .int .i64 t] w fun e w' => e = .returned (.tuple #[.string ⟨#[]⟩, .int .i64 7]) ∧ w = w' := by
  go_enter Tryz.func37, Tryz.ntmps37
  go_wp2_with fail
  refine (c_tapeN t _).mono ?_
  rintro e w' ⟨rfl, rfl⟩
  go_wp2_with fail
  go_ret2
  exact ⟨rfl, rfl⟩
theorem nil_free (w : World) : Calls Tryz.prog 47 #[.pointer none] w fun e w' => e = .returned (.int .i64 0) ∧ w = w' := by
  go_enter Tryz.func47, Tryz.ntmps47
  go_wp2
  go_ret
  exact ⟨rfl, rfl⟩
theorem nil_arm (n : Int) (w : World) : Calls Tryz.prog 17 #[.pointer none, .int .i64 n] w fun e w' => e = .returned (.tuple #[]) ∧ w = w' := by
  go_enter Tryz.func17, Tryz.ntmps17
  go_wp2
  go_end0
  exact ⟨rfl, rfl⟩
theorem crash_nil (v : Value) (h : ∃ k0 k1 u, v = tailV k0 k1 u) (w : World) : Calls Tryz.prog 18 #[.pointer none, v] w fun e w' => e = .returned (.tuple #[]) ∧ Below w.heap.size w w' := by
  obtain ⟨k0, k1, u, rfl⟩ := h
  go_enter Tryz.func18, Tryz.ntmps18
  go_wp2
  exact bodyPost_ret (results_none rfl _ _ _) rfl ⟨rfl, (Below.refl _ w).alloc (Nat.le_refl _) _⟩

end Go.Proofs.YtglkapamkigdhaaGreatDoor.Rl
