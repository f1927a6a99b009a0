/-
  The reel as plain mathematics: what each call answers, and what is then. No program; no condition.
-/
import Derived.Test.YtglkapamkigdhaaDoorRlMoves
namespace Go.Proofs.YtglkapamkigdhaaDoor.Rl
open Go.RowKit

def isT (t : Int) : Bool := t == 0 || t == 1
def M.get (m : M) (t : Int) : Tape := if t = 0 then m.a else m.b
def M.put (m : M) (t : Int) (T : Tape) : M := if t = 0 then { m with a := T } else { m with b := T }
def M.used (m : M) : Nat := m.a.s.length + m.b.s.length
def M.dead (m : M) : Bool := m.off || m.left == 0
def M.cut (m : M) : M := { m with off := true }
def M.tick (m : M) : M := { m with left := if 0 < m.left then m.left - 1 else m.left }
def M.done (m : M) : M := { m with ops := m.ops + 1 }

def M.write (m : M) (t : Int) (s : Text) : Int × M :=
  if isT t = false then (2, m) else if m.dead = true then (30, m.cut) else if m.room < m.used + s.length then (5, m.tick) else (0, (m.tick.put t ⟨(m.get t).s ++ s, (m.get t).k⟩).done)
def M.sync (m : M) (t : Int) : Int × M :=
  if isT t = false then (2, m) else if m.dead = true then (30, m.cut) else (0, (m.tick.put t ⟨(m.get t).s, (m.get t).s.length⟩).done)
def M.trim (m : M) (t n : Int) : Int × M :=
  if isT t = false ∨ n < 0 then (2, m) else if m.dead = true then (30, m.cut) else if ((m.get t).s.length : Int) < n then (2, m.tick) else
    (0, (m.tick.put t ⟨(m.get t).s.take n.toNat, min (m.get t).k n.toNat⟩).done)
def M.arm (m : M) (n : Int) : M := { m with left := n }
def M.crash (m : M) (a0 a1 : Int) (turn : UInt8) : M := { m with a := m.a.crash a0 turn, b := m.b.crash a1 turn, left := -1, off := false }
def M.read (m : M) (t : Int) : Text × Int :=
  if isT t = false then ([], 2) else if m.off = true then ([], 30) else ((m.get t).s, 0)
def M.free (m : M) : Int := (m.room : Int) - m.a.s.length - m.b.s.length
def M.new (room : Nat) : M := ⟨room, ⟨[], 0⟩, ⟨[], 0⟩, -1, false, 0⟩

/-! ### what may be stays so -/
theorem M.ok.cut {m : M} (h : m.ok) : m.cut.ok := ⟨h.ka, h.kb, h.fits, h.room, h.lo, h.hi, h.ops⟩
theorem M.ok.tick {m : M} (h : m.ok) : m.tick.ok :=
  ⟨h.ka, h.kb, h.fits, h.room, by have := h.lo; show -9223372036854775808 ≤ (if 0 < m.left then m.left - 1 else m.left); split <;> omega,
   by have := h.hi; show (if 0 < m.left then m.left - 1 else m.left) ≤ 9223372036854775807; split <;> omega, h.ops⟩
theorem M.ok.arm {m : M} (h : m.ok) {n : Int} (h1 : -9223372036854775808 ≤ n) (h2 : n ≤ 9223372036854775807) : (m.arm n).ok := ⟨h.ka, h.kb, h.fits, h.room, h1, h2, h.ops⟩
theorem M.ok.done {m : M} (h : m.ok) (ho : m.ops < 4611686018427387904) : m.done.ok := ⟨h.ka, h.kb, h.fits, h.room, h.lo, h.hi, ho⟩
theorem M.ok.put {m : M} (h : m.ok) {t : Int} {T : Tape} (hk : T.k ≤ T.s.length) (hf : T.s.length + (if t = 0 then m.b.s.length else m.a.s.length) ≤ m.room) : (m.put t T).ok := by
  unfold M.put
  split
  · rename_i ht; rw [if_pos ht] at hf
    exact ⟨hk, h.kb, hf, h.room, h.lo, h.hi, h.ops⟩
  · rename_i ht; rw [if_neg ht] at hf
    exact ⟨h.ka, hk, by show m.a.s.length + T.s.length ≤ m.room; omega, h.room, h.lo, h.hi, h.ops⟩
theorem Tape.crash_k {T : Tape} (h : T.k ≤ T.s.length) (keep : Int) (turn : UInt8) : (T.crash keep turn).s.length = T.k + T.kept keep ∧ (T.crash keep turn).k = T.k + T.kept keep ∧ T.k + T.kept keep ≤ T.s.length := by
  have hle : T.k + T.kept keep ≤ T.s.length := by unfold Tape.kept; omega
  refine ⟨?_, rfl, hle⟩
  unfold Tape.crash
  split
  · rename_i h0; simp only [List.length_take, h0]; omega
  · simp only [List.length_modify, List.length_take]; omega
theorem M.ok.crash {m : M} (h : m.ok) (a0 a1 : Int) (turn : UInt8) : (m.crash a0 a1 turn).ok := by
  obtain ⟨p1, p2, p3⟩ := Tape.crash_k h.ka a0 turn
  obtain ⟨q1, q2, q3⟩ := Tape.crash_k h.kb a1 turn
  have := h.fits
  refine ⟨?_, ?_, ?_, h.room, by show (-9223372036854775808 : Int) ≤ -1; decide, by show (-1 : Int) ≤ 9223372036854775807; decide, h.ops⟩
  · show (m.a.crash a0 turn).k ≤ (m.a.crash a0 turn).s.length; omega
  · show (m.b.crash a1 turn).k ≤ (m.b.crash a1 turn).s.length; omega
  · show (m.a.crash a0 turn).s.length + (m.b.crash a1 turn).s.length ≤ m.room; omega
theorem M.get_k {m : M} (h : m.ok) (t : Int) : (m.get t).k ≤ (m.get t).s.length := by
  unfold M.get; split
  · exact h.ka
  · exact h.kb
theorem M.get_fits (m : M) (t : Int) : (m.get t).s.length + (if t = 0 then m.b.s.length else m.a.s.length) = m.used := by
  unfold M.get M.used; split <;> omega
theorem M.ok.write {m : M} (h : m.ok) (t : Int) (s : Text) (ho : m.ops < 4611686018427387904) : (m.write t s).2.ok := by
  unfold M.write
  split
  · exact h
  split
  · exact h.cut
  split
  · exact h.tick
  · refine M.ok.done (M.ok.put h.tick ?_ ?_) (by unfold M.put M.tick; split <;> exact ho)
    · have := M.get_k h t
      simp only [List.length_append]; omega
    · have := M.get_fits m t
      simp only [List.length_append]
      show _ + (if t = 0 then m.b.s.length else m.a.s.length) ≤ m.room
      omega
theorem M.ok.sync {m : M} (h : m.ok) (t : Int) (ho : m.ops < 4611686018427387904) : (m.sync t).2.ok := by
  unfold M.sync
  split
  · exact h
  split
  · exact h.cut
  · refine M.ok.done (M.ok.put h.tick (Nat.le_refl _) ?_) (by unfold M.put M.tick; split <;> exact ho)
    have := M.get_fits m t
    have := h.fits
    show (m.get t).s.length + (if t = 0 then m.b.s.length else m.a.s.length) ≤ m.room
    unfold M.used at *
    omega
theorem M.ok.trim {m : M} (h : m.ok) (t n : Int) (ho : m.ops < 4611686018427387904) : (m.trim t n).2.ok := by
  unfold M.trim
  split
  · exact h
  split
  · exact h.cut
  split
  · exact h.tick
  · refine M.ok.done (M.ok.put h.tick ?_ ?_) (by unfold M.put M.tick; split <;> exact ho)
    · have := M.get_k h t
      simp only [List.length_take]; omega
    · have := M.get_fits m t
      have := h.fits
      simp only [List.length_take]
      show _ + (if t = 0 then m.b.s.length else m.a.s.length) ≤ m.room
      unfold M.used at *
      omega
theorem M.ok.new {room : Nat} (h : room ≤ 4194304) : (M.new room).ok := ⟨Nat.le_refl _, Nat.le_refl _, Nat.zero_le _, h, by show (-9223372036854775808 : Int) ≤ -1; decide, by show (-1 : Int) ≤ 9223372036854775807; decide, Nat.zero_le _⟩
/-- how many operations are counted -/
theorem M.write_ops (m : M) (t : Int) (s : Text) : (m.write t s).2.ops ≤ m.ops + 1 := by
  unfold M.write M.done M.put M.tick M.cut; repeat' split
  all_goals simp
theorem M.sync_ops (m : M) (t : Int) : (m.sync t).2.ops ≤ m.ops + 1 := by
  unfold M.sync M.done M.put M.tick M.cut; repeat' split
  all_goals simp
theorem M.trim_ops (m : M) (t n : Int) : (m.trim t n).2.ops ≤ m.ops + 1 := by
  unfold M.trim M.done M.put M.tick M.cut; repeat' split
  all_goals simp
theorem isT_cases {t : Int} (h : isT t = true) : t = 0 ∨ t = 1 := by unfold isT at h; simp at h; exact h
theorem isT_no {t : Int} (h : isT t = false) : t ≠ 0 ∧ t ≠ 1 := by unfold isT at h; simp at h; exact h

end Go.Proofs.YtglkapamkigdhaaDoor.Rl
