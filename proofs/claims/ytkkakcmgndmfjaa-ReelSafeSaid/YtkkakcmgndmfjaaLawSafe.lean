/-
  The law ReelSafe, walked: it answers true, at every argument. No condition but the form's own reach.
-/
import Derived.Test.YtkkakcmgndmfjaaSafe2
import Derived.Test.YtkkakcmgndmfjaaSafe3
namespace Go.Proofs.Ytkkakcmgndmfjaa
open Go.RowKit

theorem front_toList (a b : ByteArray) (n : Nat) : (a ++ b.extract 0 n).toList = a.toList ++ b.toList.take n := by
  rw [ByteArray.toList_eq (a ++ b.extract 0 n), ByteArray.toList_eq a, ByteArray.toList_eq b]; simp
theorem front_none (a b : ByteArray) : a ++ b.extract 0 0 = a := bytes_ext (by rw [front_toList]; simp)
theorem front_size (a b : ByteArray) (n : Nat) (h : n ≤ b.size) : (a ++ b.extract 0 n).size = a.size + n := by
  rw [← size_toList, front_toList, List.length_append, List.length_take, size_toList, size_toList]; omega
theorem safeV_some (a b : ByteArray) (k : Nat) (u : UInt8) (h : k + 1 ≤ b.size) :
    (tx (safeV a.toList b.toList (k + 1) u)).toList = (a ++ b.extract 0 (k + 1)).toList.set (a.size + k) (((a ++ b.extract 0 (k + 1)).toList.getD (a.size + k) 0) ^^^ u) := by
  have hlen : (a ++ b.extract 0 (k + 1)).toList.length = a.size + k + 1 := by rw [size_toList, front_size a b _ h]; omega
  rw [tx_toList]
  unfold safeV
  rw [if_neg (by omega), ← front_toList, size_toList, show a.size + (k + 1) - 1 = a.size + k by omega, modify_set _ _ _ (by omega), getD_list _ _ (by omega)]
theorem safeV_none (a b : ByteArray) (u : UInt8) : tx (safeV a.toList b.toList 0 u) = a := by
  unfold safeV
  rw [if_pos rfl, tx_self]

theorem safe_any0 (a b : ByteArray) (keep : Int) (u : UInt8) (w : World) (hl : a.size + b.size ≤ 20000) (h0 : -9223372036854775808 ≤ keep) (h1 : keep ≤ 9223372036854775807) :
    Calls Try.prog 4 #[.string a, .string b, .int .i64 keep, .int .u8 u.toNat, .int .i64 0] w fun e w' => e = .returned (.bool true) ∧ Below w.heap.size w w' := by
  obtain ⟨N, hN⟩ : ∃ N, N = (min (max keep 0) (b.size : Int)).toNat := ⟨_, rfl⟩
  obtain ⟨S, hS, C⟩ := safe_calls0 a b keep N u hl hN h0 h1
  by_cases hz : keep ≤ 0
  · obtain rfl : N = 0 := by omega
    rw [safeV_none] at C
    by_cases hk : keep < 0
    · exact safe_X0 a b keep u w S hS C hl (front_none a b) hk h0
    · obtain rfl : keep = 0 := by omega
      exact safe_Y0 a b u w S hS C hl (front_none a b)
  by_cases hb : b.size = 0
  · obtain rfl : N = 0 := by omega
    rw [safeV_none] at C
    exact safe_W0 a b keep u w S hS C hl (front_none a b) (by omega) hb h1
  by_cases hk : keep ≤ (b.size : Int)
  · obtain ⟨k, rfl⟩ : ∃ k : Nat, keep = (k + 1 : Nat) := ⟨(keep - 1).toNat, by omega⟩
    obtain rfl : N = k + 1 := by omega
    exact safe_K0 a b k u w S _ hS C hl (by omega) _ rfl (by rw [front_size a b _ (by omega)]; omega) (safeV_some a b k u (by omega))
  · obtain ⟨k, hk'⟩ : ∃ k : Nat, b.size = k + 1 := ⟨b.size - 1, by omega⟩
    obtain rfl : N = k + 1 := by omega
    exact safe_L0 a b k keep u w S _ hS C hl hk' (by omega) h1 _ rfl (by rw [front_size a b _ (by omega)]; omega) (safeV_some a b k u (by omega))

theorem safe_any1 (a b : ByteArray) (keep : Int) (u : UInt8) (w : World) (hl : a.size + b.size ≤ 20000) (h0 : -9223372036854775808 ≤ keep) (h1 : keep ≤ 9223372036854775807) :
    Calls Try.prog 4 #[.string a, .string b, .int .i64 keep, .int .u8 u.toNat, .int .i64 1] w fun e w' => e = .returned (.bool true) ∧ Below w.heap.size w w' := by
  obtain ⟨N, hN⟩ : ∃ N, N = (min (max keep 0) (b.size : Int)).toNat := ⟨_, rfl⟩
  obtain ⟨S, hS, C⟩ := safe_calls1 a b keep N u hl hN h0 h1
  by_cases hz : keep ≤ 0
  · obtain rfl : N = 0 := by omega
    rw [safeV_none] at C
    by_cases hk : keep < 0
    · exact safe_X1 a b keep u w S hS C hl (front_none a b) hk h0
    · obtain rfl : keep = 0 := by omega
      exact safe_Y1 a b u w S hS C hl (front_none a b)
  by_cases hb : b.size = 0
  · obtain rfl : N = 0 := by omega
    rw [safeV_none] at C
    exact safe_W1 a b keep u w S hS C hl (front_none a b) (by omega) hb h1
  by_cases hk : keep ≤ (b.size : Int)
  · obtain ⟨k, rfl⟩ : ∃ k : Nat, keep = (k + 1 : Nat) := ⟨(keep - 1).toNat, by omega⟩
    obtain rfl : N = k + 1 := by omega
    exact safe_K1 a b k u w S _ hS C hl (by omega) _ rfl (by rw [front_size a b _ (by omega)]; omega) (safeV_some a b k u (by omega))
  · obtain ⟨k, hk'⟩ : ∃ k : Nat, b.size = k + 1 := ⟨b.size - 1, by omega⟩
    obtain rfl : N = k + 1 := by omega
    exact safe_L1 a b k keep u w S _ hS C hl hk' (by omega) h1 _ rfl (by rw [front_size a b _ (by omega)]; omega) (safeV_some a b k u (by omega))

set_option maxRecDepth 100000 in
set_option maxHeartbeats 1000000 in
theorem walk_safe (a b : ByteArray) (keep : Int) (u : Int) (t : Int) (w : World) (ha : a.size ≤ 140737488355328) (hb : b.size ≤ 140737488355328) (h0 : -9223372036854775808 ≤ keep) (h1 : keep ≤ 9223372036854775807) (hu : 0 ≤ u) (hu2 : u ≤ 255) :
    Calls Try.prog 4 #[.string a, .string b, .int .i64 keep, .int .u8 u, .int .i64 t] w fun e w' => e = .returned (.bool true) ∧ Below w.heap.size w w' := by
  by_cases hl : 20000 < (a.size : Int) + b.size
  · skip
    go_enter Try.func4, Try.ntmps4
    go_wp2_with fail
    refine (live_any _).mono ?_
    rintro e w1 ⟨rfl, b1⟩
    go_wp2_with fail
    go_ret
    exact ⟨rfl, b1⟩
  by_cases ht0 : t < 0
  · skip
    go_enter Try.func4, Try.ntmps4
    go_wp2_with fail
    refine (live_any _).mono ?_
    rintro e w1 ⟨rfl, b1⟩
    go_wp2_with fail
    go_ret
    exact ⟨rfl, b1⟩
  by_cases ht1 : 1 < t
  · skip
    go_enter Try.func4, Try.ntmps4
    go_wp2_with fail
    refine (live_any _).mono ?_
    rintro e w1 ⟨rfl, b1⟩
    go_wp2_with fail
    go_ret
    exact ⟨rfl, b1⟩
  obtain ⟨c, rfl⟩ : ∃ c : UInt8, u = (c.toNat : Int) := ⟨UInt8.ofNat u.toNat, by rw [UInt8.toNat_ofNat_of_lt' (by show u.toNat < 256; omega)]; omega⟩
  rcases (show t = 0 ∨ t = 1 by omega) with rfl | rfl
  · exact safe_any0 a b keep c w (by omega) h0 h1
  · exact safe_any1 a b keep c w (by omega) h0 h1

end Go.Proofs.Ytkkakcmgndmfjaa
