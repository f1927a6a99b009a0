/-
  The law ReelTrims, walked: it answers true, at every argument. No condition but the form's own reach.
-/
import Derived.Test.YtkkakcmgndmfjaaEqs
import Derived.Test.YtkkakcmgndmfjaaLawNil
import Derived.WalkSpells
namespace Go.Proofs.Ytkkakcmgndmfjaa
open Go.RowKit

def trimsState (A B O : Text) (n : Nat) : Nat → M
  | 0 => M.new 40000
  | 1 => ⟨40000, ⟨A, 0⟩, ⟨[], 0⟩, -1, false, 1⟩
  | 2 => ⟨40000, ⟨A, A.length⟩, ⟨[], 0⟩, -1, false, 2⟩
  | 3 => ⟨40000, ⟨A ++ B, A.length⟩, ⟨[], 0⟩, -1, false, 3⟩
  | 4 => ⟨40000, ⟨A ++ B, A.length⟩, ⟨O, 0⟩, -1, false, 4⟩
  | 5 => ⟨40000, ⟨A ++ B, A.length⟩, ⟨O, O.length⟩, -1, false, 5⟩
  | 6 => ⟨40000, ⟨(A ++ B).take n, min A.length n⟩, ⟨O, O.length⟩, -1, false, 6⟩
  | _ => ⟨40000, ⟨A.take n, min A.length n⟩, ⟨O, O.length⟩, -1, false, 6⟩

theorem take_front (A B : Text) (n : Nat) : ((A ++ B).take n).take (min A.length n) = A.take n := by
  rw [List.take_take, Nat.min_eq_left (Nat.min_le_right _ _), List.take_append_of_le_length (Nat.min_le_left _ _)]
  rw [List.take_eq_take_iff]; omega

set_option maxHeartbeats 4000000 in
theorem trims_in (a b o : ByteArray) (n : Nat) (w : World) (hl : a.size + b.size + o.size ≤ 20000) (hn : n ≤ a.size + b.size) :
    Calls Try.prog 6 #[.string a, .string b, .int .i64 n, .string o] w fun e w' => e = .returned (.bool true) ∧ Below w.heap.size w w' := by
  have la := size_toList a
  have lb := size_toList b
  have lo := size_toList o
  obtain ⟨S, hS⟩ : ∃ S, S = trimsState a.toList b.toList o.toList n := ⟨_, rfl⟩
  have e1 : (S 0).write 0 a.toList = (0, S 1) := by
    rw [hS]; exact write_eq0 40000 ⟨[], 0⟩ ⟨[], 0⟩ 0 a.toList (by simp; omega)
  have e2 : (S 1).sync 0 = (0, S 2) := by rw [hS]; rfl
  have e3 : (S 2).write 0 b.toList = (0, S 3) := by
    rw [hS]; exact write_eq0 40000 ⟨a.toList, a.toList.length⟩ ⟨[], 0⟩ 2 b.toList (by simp only [List.length_nil]; omega)
  have e4 : (S 3).write 1 o.toList = (0, S 4) := by
    rw [hS]; exact write_eq1 40000 ⟨a.toList ++ b.toList, a.toList.length⟩ ⟨[], 0⟩ 3 o.toList (by simp only [List.length_nil, List.length_append]; omega)
  have e5 : (S 4).sync 1 = (0, S 5) := by rw [hS]; rfl
  have e6 : (S 5).trim 0 n = (0, S 6) := by
    rw [hS]; exact trim_eq0 40000 ⟨a.toList ++ b.toList, a.toList.length⟩ ⟨o.toList, o.toList.length⟩ 5 n (by simp only [List.length_append]; omega)
  have e7 : (S 6).crash 0 0 0 = S 7 := by
    rw [hS]
    show M.mk 40000 (Tape.crash ⟨(a.toList ++ b.toList).take n, min a.toList.length n⟩ 0 0) (Tape.crash ⟨o.toList, o.toList.length⟩ 0 0) (-1) false 6 = _
    rw [Tape.crash0 _ _ _ (Int.le_refl 0), Tape.crash0 _ _ _ (Int.le_refl 0)]
    simp only [take_front, List.take_length]
    rfl
  have o0 : (S 0).ok := by rw [hS]; exact M.ok.new (by decide)
  have r0 : S 0 = M.new 40000 := by rw [hS]; rfl
  have ops : ∀ i, (S i).ops ≤ 6 := by
    intro i; rw [hS]
    match i with
    | 0 | 1 | 2 | 3 | 4 | 5 | 6 => all_goals exact Nat.le_of_ble_eq_true rfl
    | i + 7 => exact Nat.le_of_ble_eq_true rfl
  have hop : ∀ i, (S i).ops < 4611686018427387904 := fun i => by have := ops i; omega
  have o1 : (S 1).ok := by have := o0.write 0 a.toList (hop 0); rw [e1] at this; exact this
  have o2 : (S 2).ok := by have := o1.sync 0 (hop 1); rw [e2] at this; exact this
  have o3 : (S 3).ok := by have := o2.write 0 b.toList (hop 2); rw [e3] at this; exact this
  have o4 : (S 4).ok := by have := o3.write 1 o.toList (hop 3); rw [e4] at this; exact this
  have o5 : (S 5).ok := by have := o4.sync 1 (hop 4); rw [e5] at this; exact this
  have o6 : (S 6).ok := by have := o5.trim 0 n (hop 5); rw [e6] at this; exact this
  have c1 : ∀ c w, RP c (S 0) w → Calls Try.prog 22 #[ptr c, .int .i64 0, .string a] w fun e w' => e = .returned (.int .i64 0) ∧ RP c (S 1) w' ∧ Fr c w w' := fun c w h => by
    have := c_write 0 a h o0 (hop 0) (by omega); rw [e1] at this; exact this
  have c2 : ∀ c w, RP c (S 1) w → Calls Try.prog 23 #[ptr c, .int .i64 0] w fun e w' => e = .returned (.int .i64 0) ∧ RP c (S 2) w' ∧ Fr c w w' := fun c w h => by
    have := c_sync 0 h o1 (hop 1); rw [e2] at this; exact this
  have c3 : ∀ c w, RP c (S 2) w → Calls Try.prog 22 #[ptr c, .int .i64 0, .string b] w fun e w' => e = .returned (.int .i64 0) ∧ RP c (S 3) w' ∧ Fr c w w' := fun c w h => by
    have := c_write 0 b h o2 (hop 2) (by omega); rw [e3] at this; exact this
  have c4 : ∀ c w, RP c (S 3) w → Calls Try.prog 22 #[ptr c, .int .i64 1, .string o] w fun e w' => e = .returned (.int .i64 0) ∧ RP c (S 4) w' ∧ Fr c w w' := fun c w h => by
    have := c_write 1 o h o3 (hop 3) (by omega); rw [e4] at this; exact this
  have c5 : ∀ c w, RP c (S 4) w → Calls Try.prog 23 #[ptr c, .int .i64 1] w fun e w' => e = .returned (.int .i64 0) ∧ RP c (S 5) w' ∧ Fr c w w' := fun c w h => by
    have := c_sync 1 h o4 (hop 4); rw [e5] at this; exact this
  have c6 : ∀ c w, RP c (S 5) w → Calls Try.prog 26 #[ptr c, .int .i64 0, .int .i64 n] w fun e w' => e = .returned (.int .i64 0) ∧ RP c (S 6) w' ∧ Fr c w w' := fun c w h => by
    have := c_trim 0 n h o5 (hop 5); rw [e6] at this; exact this
  have c7 : ∀ c w, RP c (S 6) w → Calls Try.prog 24 #[ptr c, .agg #[.int .i64 0, .int .i64 0, .int .u8 0]] w fun e w' => e = .returned (.tuple #[]) ∧ RP c (S 7) w' ∧ Fr c w w' := fun c w h => by
    have := c_crash 0 0 0 h o6 (by decide) (by decide) (by decide) (by decide); rw [e7] at this; exact this
  have x1 : tx ((a.toList ++ b.toList).take n) = (a ++ b).extract 0 n := bytes_ext (by
    rw [tx_toList, ByteArray.toList_eq ((a ++ b).extract 0 n), ByteArray.toList_eq a, ByteArray.toList_eq b]; simp [List.take_append])
  have x2 : tx (a.toList.take n) = a.extract 0 (min n a.size) := bytes_ext (by
    rw [tx_toList, ByteArray.toList_eq (a.extract 0 _), ByteArray.toList_eq a]; simp [List.take_eq_take_iff])
  have d6 : ∀ c w, RP c (S 6) w → Calls Try.prog 20 #[ptr c, .int .i64 0] w fun e w' => e = .returned (.tuple #[.string ((a ++ b).extract 0 n), .int .i64 0]) ∧ w = w' := fun c w h => by
    have := c_read 0 h
    rw [show (S 6).read 0 = ((a.toList ++ b.toList).take n, 0) by rw [hS]; rfl] at this
    rw [← x1]; exact this
  have d7 : ∀ c w, RP c (S 7) w → Calls Try.prog 20 #[ptr c, .int .i64 0] w fun e w' => e = .returned (.tuple #[.string (a.extract 0 (min n a.size)), .int .i64 0]) ∧ w = w' := fun c w h => by
    have := c_read 0 h
    rw [show (S 7).read 0 = (a.toList.take n, 0) by rw [hS]; rfl] at this
    rw [← x2]; exact this
  have d8 : ∀ c w, RP c (S 7) w → Calls Try.prog 20 #[ptr c, .int .i64 1] w fun e w' => e = .returned (.tuple #[.string o, .int .i64 0]) ∧ w = w' := fun c w h => by
    have := c_read 1 h
    rw [show (S 7).read 1 = (o.toList, 0) by rw [hS]; rfl] at this
    rw [tx_self] at this; exact this
  have cn := new_good 40000 w (by decide)
  rw [← r0] at cn
  clear e1 e2 e3 e4 e5 e6 e7 o0 o1 o2 o3 o4 o5 o6 ops hop x1 x2 hS r0 la lb lo
  have d7' : (n < a.size ∧ ∀ c w, RP c (S 7) w → Calls Try.prog 20 #[ptr c, .int .i64 0] w fun e w' => e = .returned (.tuple #[.string (a.extract 0 n), .int .i64 0]) ∧ w = w') ∨
      (n = a.size ∧ ∀ c w, RP c (S 7) w → Calls Try.prog 20 #[ptr c, .int .i64 0] w fun e w' => e = .returned (.tuple #[.string (a.extract 0 n), .int .i64 0]) ∧ w = w') ∨
      (a.size < n ∧ ∀ c w, RP c (S 7) w → Calls Try.prog 20 #[ptr c, .int .i64 0] w fun e w' => e = .returned (.tuple #[.string (a.extract 0 a.size), .int .i64 0]) ∧ w = w') := by
    rcases Nat.lt_trichotomy n a.size with hc | hc | hc
    · rw [Nat.min_eq_left (by omega)] at d7; exact .inl ⟨hc, d7⟩
    · rw [Nat.min_eq_left (by omega)] at d7; exact .inr (.inl ⟨hc, d7⟩)
    · rw [Nat.min_eq_right (by omega)] at d7; exact .inr (.inr ⟨hc, d7⟩)
  clear d7
  rcases d7' with ⟨hc, d7⟩ | ⟨rfl, d7⟩ | ⟨hc, d7⟩
  all_goals
   go_enter Try.func6, Try.ntmps6
   go_wp2_with fail
   refine cn.mono ?_
   rintro e w1 ⟨rfl, r1, b1, _⟩
   go_wp2_with fail
   refine (num_any _ _).mono ?_
   rintro e w' ⟨rfl, rfl⟩
   go_wp2_with fail
   refine (c1 _ _ r1).mono ?_
   rintro e w2 ⟨rfl, r2, f2⟩
   have b2 := b1.trans f2.below
   clear b1 f2 r1
   go_wp2_with fail
   refine (num_any _ _).mono ?_
   rintro e w' ⟨rfl, rfl⟩
   go_wp2_with fail
   refine (c2 _ _ r2).mono ?_
   rintro e w3 ⟨rfl, r3, f3⟩
   have b3 := b2.trans f3.below
   clear b2 f3 r2
   go_wp2_with fail
   refine (num_any _ _).mono ?_
   rintro e w' ⟨rfl, rfl⟩
   go_wp2_with fail
   refine (c3 _ _ r3).mono ?_
   rintro e w4 ⟨rfl, r4, f4⟩
   have b4 := b3.trans f4.below
   clear b3 f4 r3
   go_wp2_with fail
   refine (num_any _ _).mono ?_
   rintro e w' ⟨rfl, rfl⟩
   go_wp2_with fail
   refine (c4 _ _ r4).mono ?_
   rintro e w5 ⟨rfl, r5, f5⟩
   have b5 := b4.trans f5.below
   clear b4 f5 r4
   go_wp2_with fail
   refine (num_any _ _).mono ?_
   rintro e w' ⟨rfl, rfl⟩
   go_wp2_with fail
   refine (c5 _ _ r5).mono ?_
   rintro e w6 ⟨rfl, r6, f6⟩
   have b6 := b5.trans f6.below
   clear b5 f6 r5
   go_wp2_with fail
   refine (num_any _ _).mono ?_
   rintro e w' ⟨rfl, rfl⟩
   go_wp2_with fail
   refine (c6 _ _ r6).mono ?_
   rintro e w7 ⟨rfl, r7, f7⟩
   have b7 := b6.trans f7.below
   clear b6 f7 r6
   go_wp2_with fail
   refine (num_any _ _).mono ?_
   rintro e w' ⟨rfl, rfl⟩
   go_wp2_with fail
   refine (d6 _ _ r7).mono ?_
   rintro e w' ⟨rfl, rfl⟩
   go_wp2_with fail
   refine (c7 _ _ r7).mono ?_
   rintro e w8 ⟨rfl, r8, f8⟩
   have b8 := b7.trans f8.below
   clear b7 f8 r7
   go_wp2_with fail
   refine (d7 _ _ r8).mono ?_
   rintro e w' ⟨rfl, rfl⟩
   go_wp2_with fail
   refine (d8 _ _ r8).mono ?_
   rintro e w' ⟨rfl, rfl⟩
   go_wp2_with fail
   refine (live_any _).mono ?_
   rintro e w9 ⟨rfl, b9⟩
   go_wp2_with fail
   go_ret
   exact ⟨rfl, below_step b8 b9⟩

theorem walk_trims (a b o : ByteArray) (n : Int) (w : World) (ha : a.size ≤ 140737488355328) (hb : b.size ≤ 140737488355328) (ho : o.size ≤ 140737488355328) (h0 : -9223372036854775808 ≤ n) (h1 : n ≤ 9223372036854775807) :
    Calls Try.prog 6 #[.string a, .string b, .int .i64 n, .string o] w fun e w' => e = .returned (.bool true) ∧ Below w.heap.size w w' := by
  by_cases hl : 20000 < (a.size : Int) + b.size + o.size
  · go_enter Try.func6, Try.ntmps6
    go_wp2_with fail
    refine (live_any _).mono ?_
    rintro e w1 ⟨rfl, b1⟩
    go_wp2_with fail
    go_ret
    exact ⟨rfl, b1⟩
  by_cases hn0 : n < 0
  · go_enter Try.func6, Try.ntmps6
    go_wp2_with fail
    refine (live_any _).mono ?_
    rintro e w1 ⟨rfl, b1⟩
    go_wp2_with fail
    go_ret
    exact ⟨rfl, b1⟩
  by_cases hn1 : (a.size : Int) + b.size < n
  · go_enter Try.func6, Try.ntmps6
    go_wp2_with fail
    refine (live_any _).mono ?_
    rintro e w1 ⟨rfl, b1⟩
    go_wp2_with fail
    go_ret
    exact ⟨rfl, b1⟩
  obtain ⟨k, rfl⟩ : ∃ k : Nat, n = k := ⟨n.toNat, by omega⟩
  exact trims_in a b o k w (by omega) (by omega)

end Go.Proofs.Ytkkakcmgndmfjaa
