/-
  The law ReelArmed, walked: it answers true, at every argument. No condition.
-/
import Derived.Test.YtkkakcmgndmfjaaEqs
import Derived.Test.YtkkakcmgndmfjaaLawNil
namespace Go.Proofs.Ytkkakcmgndmfjaa
open Go.RowKit

/-- the reel behind i of n writes, turn by turn to both tapes -/
def armSt (n i : Nat) : M := ⟨20, ⟨List.replicate ((min i 20 + 1) / 2) 97, 0⟩, ⟨List.replicate (min i 20 / 2) 97, 0⟩, (n : Int) - i, false, min i 20⟩
theorem armSt_ok (n i : Nat) (hi : i ≤ n) (hn : n ≤ 60) : (armSt n i).ok := by
  refine ⟨Nat.zero_le _, Nat.zero_le _, ?_, by show 20 ≤ 4194304; decide, ?_, ?_, ?_⟩
  · show (List.replicate ((min i 20 + 1) / 2) (97 : UInt8)).length + (List.replicate (min i 20 / 2) (97 : UInt8)).length ≤ 20
    simp only [List.length_replicate]; omega
  · show (-9223372036854775808 : Int) ≤ (n : Int) - i; omega
  · show (n : Int) - i ≤ 9223372036854775807; omega
  · show min i 20 ≤ 4611686018427387904; omega
theorem armSt_dead (n i : Nat) (hi : i < n) : ¬ (armSt n i).dead = true := by
  show ¬ (false || ((n : Int) - i == 0)) = true
  simp; omega
theorem armSt_tick (n i : Nat) (hi : i < n) : (armSt n i).tick = { armSt n i with left := (n : Int) - i - 1 } := by
  show M.mk _ _ _ (if 0 < (n : Int) - i then (n : Int) - i - 1 else (n : Int) - i) _ _ = _
  rw [if_pos (by omega)]
theorem arm_mod (i : Nat) : ((i : Int).tmod 2 = 0 ∧ i % 2 = 0) ∨ ((i : Int).tmod 2 = 1 ∧ i % 2 = 1) := by
  rw [Int.tmod_eq_emod_of_nonneg (by omega)]
  omega
theorem arm_write (n i : Nat) (hi : i < n) : (armSt n i).write ((i : Int).tmod 2) [97] = (if i < 20 then 0 else 5, armSt n (i + 1)) := by
  have hu : (armSt n i).used = min i 20 := by
    show (List.replicate ((min i 20 + 1) / 2) (97 : UInt8)).length + (List.replicate (min i 20 / 2) (97 : UInt8)).length = _
    simp only [List.length_replicate]; omega
  have hT : isT ((i : Int).tmod 2) = true := by rcases arm_mod i with ⟨e, _⟩ | ⟨e, _⟩ <;> rw [e] <;> rfl
  have hlft : (n : Int) - i - 1 = (n : Int) - (i + 1 : Nat) := by omega
  unfold M.write
  rw [if_neg (by rw [hT]; decide), if_neg (armSt_dead n i hi), hu, armSt_tick n i hi]
  show (if 20 < min i 20 + 1 then _ else _) = _
  by_cases h20 : i < 20
  · rw [if_neg (by omega), if_pos h20]
    have e1 : min i 20 = i := by omega
    have e2 : min (i + 1) 20 = i + 1 := by omega
    rcases arm_mod i with ⟨e, h2⟩ | ⟨e, h2⟩
    · rw [e]
      show (0, M.mk 20 ⟨List.replicate ((min i 20 + 1) / 2) 97 ++ [97], 0⟩ ⟨List.replicate (min i 20 / 2) 97, 0⟩ ((n : Int) - i - 1) false (min i 20 + 1)) = _
      unfold armSt
      rw [e1, e2, hlft, ← List.replicate_succ', show (i + 1) / 2 + 1 = (i + 1 + 1) / 2 by omega, show (i + 1) / 2 = i / 2 by omega]
    · rw [e]
      show (0, M.mk 20 ⟨List.replicate ((min i 20 + 1) / 2) 97, 0⟩ ⟨List.replicate (min i 20 / 2) 97 ++ [97], 0⟩ ((n : Int) - i - 1) false (min i 20 + 1)) = _
      unfold armSt
      rw [e1, e2, hlft, ← List.replicate_succ', show i / 2 + 1 = (i + 1) / 2 by omega, show (i + 1 + 1) / 2 = (i + 1) / 2 by omega]
  · rw [if_pos (by omega), if_neg h20]
    unfold armSt
    rw [show min i 20 = 20 by omega, show min (i + 1) 20 = 20 by omega, hlft]
theorem arm_bad (m : M) : m.write 7 [120] = (2, m) := rfl
theorem arm_end (n : Nat) : (armSt n n).write 0 [98] = (30, (armSt n n).cut) ∧ (armSt n n).cut.write 0 [98] = (30, (armSt n n).cut) := by
  constructor
  · unfold M.write
    rw [if_neg (by decide), if_pos (by show (false || ((n : Int) - n == 0)) = true; simp)]
  · unfold M.write
    rw [if_neg (by decide), if_pos (by rfl)]
    rfl
theorem whole_crash (T : Tape) (h : T.s.length ≤ 100) (hk : T.k = 0) : ∃ s, T.crash 100 0 = ⟨s, T.s.length⟩ ∧ s.length = T.s.length := by
  have hkept : T.kept 100 = T.s.length := by unfold Tape.kept; rw [hk]; omega
  refine ⟨(T.crash 100 0).s, ?_, ?_⟩
  · show Tape.mk (T.crash 100 0).s (T.k + T.kept 100) = _
    rw [hkept, hk, Nat.zero_add]
  · have := (Tape.crash_k (T := T) (by omega) 100 0).1
    rw [this, hkept, hk, Nat.zero_add]

structure ArmCalls (n : Nat) : Prop where
  go : ∀ b i w, i < n → RP b (armSt n i) w → Calls Try.prog 22 #[ptr b, .int .i64 ((i : Int).tmod 2), .string ⟨#[97]⟩] w fun e w' => e = .returned (.int .i64 (if i < 20 then 0 else 5)) ∧ RP b (armSt n (i + 1)) w' ∧ Fr b w w'
  bad : ∀ b i w, i ≤ n → RP b (armSt n i) w → Calls Try.prog 22 #[ptr b, .int .i64 7, .string ⟨#[120]⟩] w fun e w' => e = .returned (.int .i64 2) ∧ RP b (armSt n i) w' ∧ Fr b w w'
  off : ∀ b w, RP b (armSt n n) w ∨ RP b (armSt n n).cut w → Calls Try.prog 22 #[ptr b, .int .i64 0, .string ⟨#[98]⟩] w fun e w' => e = .returned (.int .i64 30) ∧ RP b (armSt n n).cut w' ∧ Fr b w w'
theorem arm_calls (n : Nat) (hn : n ≤ 60) : ArmCalls n := by
  have ops : ∀ i, (armSt n i).ops < 4611686018427387904 := fun i => by show min i 20 < _; omega
  refine ⟨fun b i w hi h => ?_, fun b i w hi h => ?_, fun b w h => ?_⟩
  · have := c_write ((i : Int).tmod 2) ⟨#[97]⟩ h (armSt_ok n i (by omega) hn) (ops i) (by decide)
    rw [show (⟨#[97]⟩ : ByteArray).toList = [97] by rw [ByteArray.toList_eq], arm_write n i hi] at this
    exact this
  · have := c_write 7 ⟨#[120]⟩ h (armSt_ok n i hi hn) (ops i) (by decide)
    rw [show (⟨#[120]⟩ : ByteArray).toList = [120] by rw [ByteArray.toList_eq], arm_bad] at this
    exact this
  · rcases h with h | h
    · have := c_write 0 ⟨#[98]⟩ h (armSt_ok n n (Nat.le_refl _) hn) (ops n) (by decide)
      rw [show (⟨#[98]⟩ : ByteArray).toList = [98] by rw [ByteArray.toList_eq], (arm_end n).1] at this
      exact this
    · have := c_write 0 ⟨#[98]⟩ h (armSt_ok n n (Nat.le_refl _) hn).cut (ops n) (by decide)
      rw [show (⟨#[98]⟩ : ByteArray).toList = [98] by rw [ByteArray.toList_eq], (arm_end n).2] at this
      exact this

def lateSt (n j : Nat) : M := if j = 0 then armSt n n else (armSt n n).cut
theorem lateSt_or {b n j : Nat} {w : World} (h : RP b (lateSt n j) w) : RP b (armSt n n) w ∨ RP b (armSt n n).cut w := by
  unfold lateSt at h
  split at h
  · exact .inl h
  · exact .inr h

structure ArmEnd (n : Nat) : Prop where
  dead : ∀ b w, RP b (armSt n n).cut w → Calls Try.prog 18 #[ptr b] w fun e w' => e = .returned (.bool true) ∧ w = w'
  read : ∀ b w, RP b (armSt n n).cut w → Calls Try.prog 20 #[ptr b, .int .i64 0] w fun e w' => e = .returned (.tuple #[.string ⟨#[]⟩, .int .i64 30]) ∧ w = w'
  crash : ∃ m, (∀ b w, RP b (armSt n n).cut w → Calls Try.prog 24 #[ptr b, .agg #[.int .i64 100, .int .i64 100, .int .u8 0]] w fun e w' => e = .returned (.tuple #[]) ∧ RP b m w' ∧ Fr b w w') ∧
    (∀ b w, RP b m w → ∃ s, Calls Try.prog 20 #[ptr b, .int .i64 0] w fun e w' => e = .returned (.tuple #[.string s, .int .i64 0]) ∧ w = w') ∧
    (∀ b w, RP b m w → Calls Try.prog 18 #[ptr b] w fun e w' => e = .returned (.bool false) ∧ w = w') ∧
    (∀ b w, RP b m w → Calls Try.prog 19 #[ptr b] w fun e w' => e = .returned (.int .i64 (min n 20 : Nat)) ∧ w = w') ∧
    (∀ b w, RP b m w → Calls Try.prog 16 #[ptr b] w fun e w' => e = .returned (.int .i64 (20 - (min n 20 : Nat))) ∧ Below w.heap.size w w')
theorem arm_last (n : Nat) (hn : n ≤ 60) : ArmEnd n := by
  have ok := (armSt_ok n n (Nat.le_refl _) hn).cut
  refine ⟨fun b w h => c_dead b _ w h, fun b w h => c_read 0 h, (armSt n n).cut.crash 100 100 0, fun b w h => c_crash 100 100 0 h ok (by decide) (by decide) (by decide) (by decide), fun b w h => ⟨_, c_read 0 h⟩, fun b w h => c_dead b _ w h, fun b w h => c_ops b _ w h, fun b w h => ?_⟩
  have h1 : (armSt n n).a.s.length = (min n 20 + 1) / 2 := by show (List.replicate _ _).length = _; rw [List.length_replicate]
  have h2 : (armSt n n).b.s.length = min n 20 / 2 := by show (List.replicate _ _).length = _; rw [List.length_replicate]
  obtain ⟨s, hs, hl⟩ := whole_crash (armSt n n).a (by omega) rfl
  obtain ⟨t, ht, hm⟩ := whole_crash (armSt n n).b (by omega) rfl
  have := c_free b _ w h (ok.crash 100 100 0)
  rw [show ((armSt n n).cut.crash 100 100 0).free = 20 - (min n 20 : Nat) by
    show (20 : Int) - ((armSt n n).a.crash 100 0).s.length - ((armSt n n).b.crash 100 0).s.length = _
    rw [hs, ht]
    simp only
    omega] at this
  exact this

set_option maxRecDepth 100000 in
set_option maxHeartbeats 4000000 in
theorem arm_in (n more : Nat) (w : World) (hn : n ≤ 60) (h1 : 1 ≤ more) (hm : more ≤ 60) :
    Calls Try.prog 5 #[.int .i64 n, .int .i64 more] w fun e w' => e = .returned (.bool true) ∧ Below w.heap.size w w' := by
  have C := arm_calls n hn
  obtain ⟨E1, E2, m, E3, E4, E5, E6, E7⟩ := arm_last n hn
  have cn := new_good 20 w (by decide)
  have ca := fun b w h => c_arm b (M.new 20) n w h
  rw [show (M.new 20).arm n = armSt n 0 by show M.mk 20 ⟨[], 0⟩ ⟨[], 0⟩ n false 0 = M.mk 20 _ _ ((n : Int) - (0 : Nat)) false 0; simp] at ca
  obtain ⟨x0, hx0⟩ : ∃ x, x = armSt n 0 := ⟨_, rfl⟩
  go_enter Try.func5, Try.ntmps5
  go_wp2_with fail
  refine cn.mono ?_
  rintro e w1 ⟨rfl, r1, b1, _⟩
  go_wp2_with fail
  refine (num_any _ _).mono ?_
  rintro e w' ⟨rfl, rfl⟩
  go_wp2_with fail
  refine (ca _ _ r1).mono ?_
  rintro e w2 ⟨rfl, r2, f2⟩
  have b2 := b1.trans f2.below
  clear b1 f2 r1 ca cn hx0
  go_wp2_with fail
  go_loopw [7, 8] (fun vd vi wr => ∃ k : Nat, k ≤ n ∧ vi = .int .i64 (k : Int) ∧ vd = .int .i64 (min k 20 : Nat) ∧ RP w.heap.size (armSt n k) wr ∧ Below w.heap.size w wr) (fun _ vi _ => n - (intOf vi).toNat)
  case atStart => exact ⟨0, by omega, rfl, rfl, r2, b2⟩
  case round =>
    clear r2 b2
    obtain ⟨k, hk, rfl, rfl, hr, hbw⟩ := hrel
    by_cases hlt : k < n
    · by_cases h20 : k < 20
      · skip
        have cg := fun b w h => C.go b k w hlt h
        have cb := fun b w h => C.bad b (k + 1) w (by omega) h
        rw [if_pos h20] at cg
        go_wp2_with fail
        refine (cg _ _ hr).mono ?_
        rintro e w1 ⟨rfl, r1, f1⟩
        go_wp2_with fail
        refine (num_any _ _).mono ?_
        rintro e w' ⟨rfl, rfl⟩
        go_wp2_with fail
        refine (cb _ _ r1).mono ?_
        rintro e w2 ⟨rfl, r2, f2⟩
        have b2 := (hbw.trans (f1.below.mono (Nat.le_refl _))).trans (f2.below.mono (Nat.le_refl _))
        go_wp2_with fail
        refine (num_any _ _).mono ?_
        rintro e w' ⟨rfl, rfl⟩
        go_wp2_with fail
        go_roundw
        case rel => exact ⟨k + 1, by omega, by go_num, by go_num, r2, b2⟩
        case measure => simp [intOf]; omega
      · skip
        have cg := fun b w h => C.go b k w hlt h
        have cb := fun b w h => C.bad b (k + 1) w (by omega) h
        rw [if_neg h20] at cg
        go_wp2_with fail
        refine (cg _ _ hr).mono ?_
        rintro e w1 ⟨rfl, r1, f1⟩
        go_wp2_with fail
        refine (num_any _ _).mono ?_
        rintro e w' ⟨rfl, rfl⟩
        go_wp2_with fail
        refine (cb _ _ r1).mono ?_
        rintro e w2 ⟨rfl, r2, f2⟩
        have b2 := (hbw.trans (f1.below.mono (Nat.le_refl _))).trans (f2.below.mono (Nat.le_refl _))
        go_wp2_with fail
        refine (num_any _ _).mono ?_
        rintro e w' ⟨rfl, rfl⟩
        go_wp2_with fail
        go_roundw
        case rel => exact ⟨k + 1, by omega, by go_num, by go_num, r2, b2⟩
        case measure => simp [intOf]; omega
    · obtain rfl : k = n := by omega
      go_wp2_with fail
      go_loopw [10] (fun vj wr => ∃ j : Nat, j ≤ more ∧ vj = .int .i64 (j : Int) ∧ RP w.heap.size (lateSt k j) wr ∧ Below w.heap.size w wr) (fun vj _ => more - (intOf vj).toNat)
      case atStart => exact ⟨0, by omega, rfl, hr, hbw⟩
      case round =>
        clear hr hbw
        obtain ⟨j, hj, rfl, hr, hbw⟩ := hrel
        by_cases hjl : j < more
        · go_wp2_with fail
          refine (C.off _ _ (lateSt_or hr)).mono ?_
          rintro e w3 ⟨rfl, r3, f3⟩
          have b3 := hbw.trans f3.below
          go_wp2_with fail
          refine (num_any _ _).mono ?_
          rintro e w' ⟨rfl, rfl⟩
          go_wp2_with fail
          refine (E1 _ _ r3).mono ?_
          rintro e w' ⟨rfl, rfl⟩
          go_wp2_with fail
          go_roundw
          case rel => exact ⟨j + 1, by omega, by go_num, r3, b3⟩
          case measure => simp [intOf]; omega
        · obtain rfl : j = more := by omega
          have hr : RP w.heap.size (armSt k k).cut wr := by unfold lateSt at hr; rw [if_neg (by omega)] at hr; exact hr
          go_wp2_with fail
          refine (E2 _ _ hr).mono ?_
          rintro e w' ⟨rfl, rfl⟩
          go_wp2_with fail
          refine (E3 _ _ hr).mono ?_
          rintro e w4 ⟨rfl, r4, f4⟩
          have b4 := hbw.trans f4.below
          obtain ⟨s, E4⟩ := E4 _ _ r4
          go_wp2_with fail
          refine E4.mono ?_
          rintro e w' ⟨rfl, rfl⟩
          go_wp2_with fail
          refine (num_any _ _).mono ?_
          rintro e w' ⟨rfl, rfl⟩
          go_wp2_with fail
          refine (num_any _ _).mono ?_
          rintro e w' ⟨rfl, rfl⟩
          go_wp2_with fail
          refine (E5 _ _ r4).mono ?_
          rintro e w' ⟨rfl, rfl⟩
          go_wp2_with fail
          refine (E6 _ _ r4).mono ?_
          rintro e w' ⟨rfl, rfl⟩
          go_wp2_with fail
          refine (E7 _ _ r4).mono ?_
          rintro e w5 ⟨rfl, b5⟩
          have b5 := below_step b4 b5
          go_wp2_with fail
          refine (live_any _).mono ?_
          rintro e w6 ⟨rfl, b6⟩
          go_wp2_with fail
          try rw [Exit.noGoto_ret]
          go_ret
          exact ⟨rfl, below_step b5 b6⟩

set_option maxRecDepth 100000 in
set_option maxHeartbeats 1000000 in
theorem walk_armed (n more : Int) (w : World) : Calls Try.prog 5 #[.int .i64 n, .int .i64 more] w fun e w' => e = .returned (.bool true) ∧ Below w.heap.size w w' := by
  by_cases a0 : n < 0
  · skip
    go_enter Try.func5, Try.ntmps5
    go_wp2_with fail
    refine (live_any _).mono ?_
    rintro e w1 ⟨rfl, b1⟩
    go_wp2_with fail
    go_ret
    exact ⟨rfl, b1⟩
  by_cases a1 : 60 < n
  · skip
    go_enter Try.func5, Try.ntmps5
    go_wp2_with fail
    refine (live_any _).mono ?_
    rintro e w1 ⟨rfl, b1⟩
    go_wp2_with fail
    go_ret
    exact ⟨rfl, b1⟩
  by_cases a2 : more < 1
  · skip
    go_enter Try.func5, Try.ntmps5
    go_wp2_with fail
    refine (live_any _).mono ?_
    rintro e w1 ⟨rfl, b1⟩
    go_wp2_with fail
    go_ret
    exact ⟨rfl, b1⟩
  by_cases a3 : 60 < more
  · skip
    go_enter Try.func5, Try.ntmps5
    go_wp2_with fail
    refine (live_any _).mono ?_
    rintro e w1 ⟨rfl, b1⟩
    go_wp2_with fail
    go_ret
    exact ⟨rfl, b1⟩
  obtain ⟨i, rfl⟩ : ∃ i : Nat, n = i := ⟨n.toNat, by omega⟩
  obtain ⟨j, rfl⟩ : ∃ j : Nat, more = j := ⟨more.toNat, by omega⟩
  exact arm_in i j w (by omega) (by omega) (by omega)

end Go.Proofs.Ytkkakcmgndmfjaa
