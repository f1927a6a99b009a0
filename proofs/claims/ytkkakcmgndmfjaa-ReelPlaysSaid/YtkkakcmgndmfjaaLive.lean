/-
  The laws' own check that the program is alive: it answers true. No condition.
-/
import Derived.Test.YtkkakcmgndmfjaaNil
namespace Go.Proofs.Ytkkakcmgndmfjaa
open Go.RowKit

def l1 : M := ⟨100, ⟨[97, 98], 0⟩, ⟨[], 0⟩, -1, false, 1⟩
def l2 : M := ⟨100, ⟨[97, 98], 2⟩, ⟨[], 0⟩, -1, false, 2⟩
def l3 : M := ⟨100, ⟨[97, 98, 99, 100], 2⟩, ⟨[], 0⟩, -1, false, 3⟩
def l4 : M := ⟨100, ⟨[97, 98, 99], 3⟩, ⟨[], 0⟩, -1, false, 3⟩
def l5 : M := ⟨100, ⟨[97, 98, 99], 3⟩, ⟨[], 0⟩, 0, false, 3⟩
def l6 : M := ⟨100, ⟨[97, 98, 99], 3⟩, ⟨[], 0⟩, 0, true, 3⟩
theorem ok0 : (M.new 100).ok := M.ok.new (by decide)
theorem ok1 : l1.ok := ⟨by decide, by decide, by decide, by decide, by decide, by decide, by decide⟩
theorem ok2 : l2.ok := ⟨by decide, by decide, by decide, by decide, by decide, by decide, by decide⟩
theorem ok3 : l3.ok := ⟨by decide, by decide, by decide, by decide, by decide, by decide, by decide⟩
theorem ok4 : l4.ok := ⟨by decide, by decide, by decide, by decide, by decide, by decide, by decide⟩
theorem ok5 : l5.ok := ⟨by decide, by decide, by decide, by decide, by decide, by decide, by decide⟩
theorem ok6 : l6.ok := ⟨by decide, by decide, by decide, by decide, by decide, by decide, by decide⟩

theorem p1 {b : Nat} {w : World} (h : RP b (M.new 100) w) : Calls Try.prog 22 #[ptr b, .int .i64 0, .string ⟨#[97, 98]⟩] w fun e w' => e = .returned (.int .i64 0) ∧ RP b l1 w' ∧ Fr b w w' := by
  have := c_write 0 ⟨#[97, 98]⟩ h ok0 (by decide) (by decide)
  rw [show (⟨#[97, 98]⟩ : ByteArray).toList = [97, 98] by rw [ByteArray.toList_eq], show (M.new 100).write 0 [97, 98] = (0, l1) by rfl] at this
  exact this
theorem p2 {b : Nat} {w : World} (h : RP b l1 w) : Calls Try.prog 23 #[ptr b, .int .i64 0] w fun e w' => e = .returned (.int .i64 0) ∧ RP b l2 w' ∧ Fr b w w' := by
  have := c_sync 0 h ok1 (by decide)
  rw [show l1.sync 0 = (0, l2) by rfl] at this
  exact this
theorem p3 {b : Nat} {w : World} (h : RP b l2 w) : Calls Try.prog 22 #[ptr b, .int .i64 0, .string ⟨#[99, 100]⟩] w fun e w' => e = .returned (.int .i64 0) ∧ RP b l3 w' ∧ Fr b w w' := by
  have := c_write 0 ⟨#[99, 100]⟩ h ok2 (by decide) (by decide)
  rw [show (⟨#[99, 100]⟩ : ByteArray).toList = [99, 100] by rw [ByteArray.toList_eq], show l2.write 0 [99, 100] = (0, l3) by rfl] at this
  exact this
theorem p4 {b : Nat} {w : World} (h : RP b l3 w) : Calls Try.prog 24 #[ptr b, .agg #[.int .i64 1, .int .i64 0, .int .u8 0]] w fun e w' => e = .returned (.tuple #[]) ∧ RP b l4 w' ∧ Fr b w w' := by
  have := c_crash 1 0 0 h ok3 (by decide) (by decide) (by decide) (by decide)
  rw [show l3.crash 1 0 0 = l4 by rfl] at this
  exact this
theorem p5 {b : Nat} {w : World} (h : RP b l4 w) : Calls Try.prog 20 #[ptr b, .int .i64 0] w fun e w' => e = .returned (.tuple #[.string ⟨#[97, 98, 99]⟩, .int .i64 0]) ∧ w = w' := c_read 0 h
theorem p7 {b : Nat} {w : World} (h : RP b l5 w) : Calls Try.prog 27 #[ptr b, .int .i64 1] w fun e w' => e = .returned (.int .i64 30) ∧ RP b l6 w' ∧ Fr b w w' := by
  have := c_wipe 1 h ok5 (by decide)
  rw [show l5.trim 1 0 = (30, l6) by rfl] at this
  exact this
theorem p8 {b : Nat} {w : World} (h : RP b l6 w) : Calls Try.prog 16 #[ptr b] w fun e w' => e = .returned (.int .i64 97) ∧ Below w.heap.size w w' := c_free b l6 w h ok6
theorem p9 {b : Nat} {w : World} (h : RP b l6 w) : Calls Try.prog 22 #[ptr b, .int .i64 2, .string ⟨#[]⟩] w fun e w' => e = .returned (.int .i64 2) ∧ RP b l6 w' ∧ Fr b w w' := by
  have := c_write 2 ⟨#[]⟩ h ok6 (by decide) (by decide)
  rw [show (⟨#[]⟩ : ByteArray).toList = [] by rw [ByteArray.toList_eq], show l6.write 2 [] = (2, l6) by rfl] at this
  exact this

set_option maxHeartbeats 2000000 in
theorem live_any (w : World) : Calls Try.prog 10 #[] w fun e w' => e = .returned (.bool true) ∧ Below w.heap.size w w' := by
  have cn := new_good 100 w (by decide)
  go_enter Try.func10, Try.ntmps10
  go_wp2_with fail
  refine cn.mono ?_
  rintro e w1 ⟨rfl, r1, b1, _⟩
  go_wp2_with fail
  refine (num_any _ _).mono ?_
  rintro e w' ⟨rfl, rfl⟩
  go_wp2_with fail
  refine (p1 r1).mono ?_
  rintro e w2 ⟨rfl, r2, f2⟩
  have b2 := b1.trans f2.below
  clear b1 f2 r1
  go_wp2_with fail
  refine (num_any _ _).mono ?_
  rintro e w' ⟨rfl, rfl⟩
  go_wp2_with fail
  refine (p2 r2).mono ?_
  rintro e w3 ⟨rfl, r3, f3⟩
  have b3 := b2.trans f3.below
  clear b2 f3 r2
  go_wp2_with fail
  refine (num_any _ _).mono ?_
  rintro e w' ⟨rfl, rfl⟩
  go_wp2_with fail
  refine (p3 r3).mono ?_
  rintro e w4 ⟨rfl, r4, f4⟩
  have b4 := b3.trans f4.below
  clear b3 f4 r3
  go_wp2_with fail
  refine (num_any _ _).mono ?_
  rintro e w' ⟨rfl, rfl⟩
  go_wp2_with fail
  refine (p4 r4).mono ?_
  rintro e w5 ⟨rfl, r5, f5⟩
  have b5 := b4.trans f5.below
  clear b4 f5 r4
  go_wp2_with fail
  refine (p5 r5).mono ?_
  rintro e w' ⟨rfl, rfl⟩
  go_wp2_with fail
  refine (c_arm _ l4 0 _ r5).mono ?_
  rintro e w6 ⟨rfl, r6, f6⟩
  have r6 : RP w.heap.size l5 w6 := r6
  have b6 := b5.trans f6.below
  clear b5 f6 r5
  go_wp2_with fail
  refine (num_any _ _).mono ?_
  rintro e w' ⟨rfl, rfl⟩
  go_wp2_with fail
  refine (p7 r6).mono ?_
  rintro e w7 ⟨rfl, r7, f7⟩
  have b7 := b6.trans f7.below
  clear b6 f7 r6
  go_wp2_with fail
  refine (num_any _ _).mono ?_
  rintro e w' ⟨rfl, rfl⟩
  go_wp2_with fail
  refine (show Calls Try.prog 18 #[ptr w.heap.size] w7 (fun e w' => e = .returned (.bool true) ∧ w7 = w') from c_dead _ l6 _ r7).mono ?_
  rintro e w' ⟨rfl, rfl⟩
  go_wp2_with fail
  refine (show Calls Try.prog 19 #[ptr w.heap.size] w7 (fun e w' => e = .returned (.int .i64 3) ∧ w7 = w') from c_ops _ l6 _ r7).mono ?_
  rintro e w' ⟨rfl, rfl⟩
  go_wp2_with fail
  refine (p8 r7).mono ?_
  rintro e w8 ⟨rfl, f8⟩
  have b8 := b7.trans (f8.mono b7.size)
  have r8 := r7.below f8
  clear b7 f8 r7
  go_wp2_with fail
  refine (p9 r8).mono ?_
  rintro e w9 ⟨rfl, r9, f9⟩
  have b9 := b8.trans f9.below
  go_wp2_with fail
  refine (num_any _ _).mono ?_
  rintro e w' ⟨rfl, rfl⟩
  go_wp2_with fail
  go_ret
  exact ⟨rfl, b9⟩

end Go.Proofs.Ytkkakcmgndmfjaa
