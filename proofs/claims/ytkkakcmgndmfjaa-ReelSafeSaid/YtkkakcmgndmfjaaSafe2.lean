/-
  The law ReelSafe, walked, case by case. No condition but the form's own reach.
-/
import Derived.Test.YtkkakcmgndmfjaaSafeH
namespace Go.Proofs.Ytkkakcmgndmfjaa
open Go.RowKit

set_option maxRecDepth 100000 in
set_option maxHeartbeats 4000000 in
theorem safe_K0 (a b : ByteArray) (k : Nat) (u : UInt8) (w : World) (S : Nat → M) (V : ByteArray) (hS : S 0 = M.new 40000) (C : SafeCalls0 a b (k + 1 : Nat) (k + 1) u V S) (hl : a.size + b.size ≤ 20000)
    (hkb : k + 1 ≤ b.size) (Wt : ByteArray) (hE : a ++ b.extract 0 (k + 1) = Wt) (hWs : Wt.size = a.size + k + 1)
    (hV : V.toList = Wt.toList.set (a.size + k) ((Wt.toList.getD (a.size + k) 0) ^^^ u)) :
    Calls Try.prog 4 #[.string a, .string b, .int .i64 (k + 1 : Nat), .int .u8 u.toNat, .int .i64 0] w fun e w' => e = .returned (.bool true) ∧ Below w.heap.size w w' := by
  have cn := new_good 40000 w (by decide)
  rw [← hS] at cn
  have HV := Lib.hid hV
  clear hV hS
  go_enter Try.func4, Try.ntmps4
  go_wp2_with fail
  refine cn.mono ?_
  rintro e w1 ⟨rfl, r1, b1, _⟩
  go_wp2_with fail
  refine (num_any _ _).mono ?_
  rintro e w' ⟨rfl, rfl⟩
  go_wp2_with fail
  refine (C.c1 _ _ r1).mono ?_
  rintro e w2 ⟨rfl, r2, f2⟩
  have b2 := b1.trans f2.below
  clear b1 f2 r1
  go_wp2_with fail
  refine (num_any _ _).mono ?_
  rintro e w' ⟨rfl, rfl⟩
  go_wp2_with fail
  refine (C.c2 _ _ r2).mono ?_
  rintro e w3 ⟨rfl, r3, f3⟩
  have b3 := b2.trans f3.below
  clear b2 f3 r2
  go_wp2_with fail
  refine (num_any _ _).mono ?_
  rintro e w' ⟨rfl, rfl⟩
  go_wp2_with fail
  refine (C.c3 _ _ r3).mono ?_
  rintro e w4 ⟨rfl, r4, f4⟩
  have b4 := b3.trans f4.below
  clear b3 f4 r3
  go_wp2_with fail
  refine (num_any _ _).mono ?_
  rintro e w' ⟨rfl, rfl⟩
  have R4 := r4.below ((Below.refl _ w4).alloc (Nat.le_refl _) (.cells #[.int .i64 (k + 1 : Nat), .int .i64 0, .int .u8 u.toNat] 35))
  have B4 := b4.alloc (b4.size) (.cells #[.int .i64 (k + 1 : Nat), .int .i64 0, .int .u8 u.toNat] 35)
  go_wp2_with fail
  refine (C.c4 _ _ R4).mono ?_
  rintro e w5 ⟨rfl, r5, f5⟩
  have b5 := B4.trans f5.below
  clear b4 B4 f5 r4 R4
  obtain ⟨cap, w6, hcv, hN⟩ := new_row w5 Wt
  have r6 := r5.below hN.below
  have hng : ¬ Mine w6 w.heap.size w5.heap.size := fun hm => by
    have := (r5.mine (hm.same (hN.below.block _ r5.lt))).1
    omega
  have hsz := hWs
  obtain ⟨c, hc⟩ : ∃ c, c = Wt.data.toList.getD (a.size + k) 0 := ⟨_, rfl⟩
  have hx := hN.cell (a.size + k) (by omega)
  have hf := hN.frozen (a.size + k) (by omega)
  have b6 := b5.trans (hN.below.mono b5.size)
  have r7 := r6.apart hng (a.size + k) (.int .u8 (bits .xor .u8 (c.toNat : Int) (u.toNat : Int)))
  have b7 := b6.setCell (p := ⟨w5.heap.size, a.size + k, none⟩) b5.size (.int .u8 (bits .xor .u8 (c.toNat : Int) (u.toNat : Int)))
  have hng7 : ¬ Mine (w6.setCell ⟨w5.heap.size, a.size + k, none⟩ (.int .u8 (bits .xor .u8 (c.toNat : Int) (u.toNat : Int)))) w.heap.size w5.heap.size := fun hm =>
    hng (hm.same (Below.heap_setCell _ _ _ _ (by have := r5.lt; show w.heap.size ≠ w5.heap.size; omega)))
  have lg7 : w5.heap.size < (w6.setCell ⟨w5.heap.size, a.size + k, none⟩ (.int .u8 (bits .xor .u8 (c.toNat : Int) (u.toNat : Int)))).heap.size := by
    have h1 : w6.cell? ⟨w5.heap.size, a.size + k, none⟩ ≠ none := by rw [hx]; simp
    rcases Nat.lt_or_ge w5.heap.size w6.heap.size with h' | h'
    · simpa using h'
    · exact absurd (by simp [World.cell?, Array.getElem?_eq_none h']) h1
  rw [← hc] at hx
  have back : ∀ w8, Fr w.heap.size (w6.setCell ⟨w5.heap.size, a.size + k, none⟩ (.int .u8 (bits .xor .u8 (c.toNat : Int) (u.toNat : Int)))) w8 →
      (convert 52 9 (.slice (some ⟨w5.heap.size, 0, none⟩) (a.size + k + 1) cap)).run Try.prog w8 = .ok (.string V) w8 := by
    intro w8 f8
    have hV := HV.out
    have hVl : V.toList.length = a.size + k + 1 := by rw [hV, List.length_set, size_toList, hWs]
    have hsame := f8.old w5.heap.size lg7 hng7
    have := row_text (w := w8) (g := w5.heap.size) (cap := cap) V.toList (fun j hj => by
      rw [World.cell?_of_block (w := w6.setCell ⟨w5.heap.size, a.size + k, none⟩ (.int .u8 (bits .xor .u8 (c.toNat : Int) (u.toNat : Int)))) hsame]
      have hj2 : j < Wt.data.toList.length := by have : Wt.data.toList.length = Wt.size := by simp
                                                 omega
      by_cases hjk : j = a.size + k
      · subst hjk
        rw [World.cell?_setCell_same _ _ _ hx, xor_byte, hc]
        congr 3
        simp only [hV]
        rw [List.getElem_set_self, ByteArray.toList_eq]
      · rw [World.cell?_setCell_other _ _ _ _ (by first | (simp; done) | (simp; omega)), hN.cell j (by omega), getD_list _ _ hj2]
        congr 3
        simp only [hV]
        rw [List.getElem_set_ne (by omega)]
        simp [ByteArray.toList_eq])
    rw [hVl, tx_self] at this
    exact this
  rw [hWs] at hcv
  have HN := Lib.hid hN
  have HC := Lib.hid hc
  clear hN hc b5 b6 r5 r6 hng hng7 lg7 hsz
  go_wp2_with fail
  refine (C.d4 _ _ r7).mono ?_
  rintro e w' ⟨rfl, rfl⟩
  go_wp2_with fail
  refine (C.c5 _ _ r7).mono ?_
  rintro e w8 ⟨rfl, r8, f8⟩
  have b8 := b7.trans f8.below
  have hback := back w8 f8
  clear back r7 f8
  go_wp2_with fail
  refine (C.d4 _ _ r8).mono ?_
  rintro e w' ⟨rfl, rfl⟩
  go_wp2_with fail
  refine (C.d6 _ _ r8).mono ?_
  rintro e w' ⟨rfl, rfl⟩
  go_wp2_with fail
  refine (num_any _ _).mono ?_
  rintro e w' ⟨rfl, rfl⟩
  go_wp2_with fail
  refine (num_any _ _).mono ?_
  rintro e w' ⟨rfl, rfl⟩
  go_wp2_with fail
  refine (num_any _ _).mono ?_
  rintro e w' ⟨rfl, rfl⟩
  go_wp2_with fail
  refine (live_any _).mono ?_
  rintro e w9 ⟨rfl, b9⟩
  go_wp2_with fail
  go_ret
  exact ⟨rfl, below_step b8 b9⟩

set_option maxRecDepth 100000 in
set_option maxHeartbeats 4000000 in
theorem safe_L0 (a b : ByteArray) (k : Nat) (keep : Int) (u : UInt8) (w : World) (S : Nat → M) (V : ByteArray) (hS : S 0 = M.new 40000) (C : SafeCalls0 a b keep (k + 1) u V S) (hl : a.size + b.size ≤ 20000)
    (hb : b.size = k + 1) (hkb : (k : Int) + 1 < keep) (_hkh : keep ≤ 9223372036854775807) (Wt : ByteArray) (hE : a ++ b.extract 0 (k + 1) = Wt) (hWs : Wt.size = a.size + k + 1)
    (hV : V.toList = Wt.toList.set (a.size + k) ((Wt.toList.getD (a.size + k) 0) ^^^ u)) :
    Calls Try.prog 4 #[.string a, .string b, .int .i64 keep, .int .u8 u.toNat, .int .i64 0] w fun e w' => e = .returned (.bool true) ∧ Below w.heap.size w w' := by
  have cn := new_good 40000 w (by decide)
  rw [← hS] at cn
  have HV := Lib.hid hV
  clear hV hS
  go_enter Try.func4, Try.ntmps4
  go_wp2_with fail
  refine cn.mono ?_
  rintro e w1 ⟨rfl, r1, b1, _⟩
  go_wp2_with fail
  refine (num_any _ _).mono ?_
  rintro e w' ⟨rfl, rfl⟩
  go_wp2_with fail
  refine (C.c1 _ _ r1).mono ?_
  rintro e w2 ⟨rfl, r2, f2⟩
  have b2 := b1.trans f2.below
  clear b1 f2 r1
  go_wp2_with fail
  refine (num_any _ _).mono ?_
  rintro e w' ⟨rfl, rfl⟩
  go_wp2_with fail
  refine (C.c2 _ _ r2).mono ?_
  rintro e w3 ⟨rfl, r3, f3⟩
  have b3 := b2.trans f3.below
  clear b2 f3 r2
  go_wp2_with fail
  refine (num_any _ _).mono ?_
  rintro e w' ⟨rfl, rfl⟩
  go_wp2_with fail
  refine (C.c3 _ _ r3).mono ?_
  rintro e w4 ⟨rfl, r4, f4⟩
  have b4 := b3.trans f4.below
  clear b3 f4 r3
  go_wp2_with fail
  refine (num_any _ _).mono ?_
  rintro e w' ⟨rfl, rfl⟩
  have R4 := r4.below ((Below.refl _ w4).alloc (Nat.le_refl _) (.cells #[.int .i64 keep, .int .i64 0, .int .u8 u.toNat] 35))
  have B4 := b4.alloc (b4.size) (.cells #[.int .i64 keep, .int .i64 0, .int .u8 u.toNat] 35)
  go_wp2_with fail
  refine (C.c4 _ _ R4).mono ?_
  rintro e w5 ⟨rfl, r5, f5⟩
  have b5 := B4.trans f5.below
  clear b4 B4 f5 r4 R4
  obtain ⟨cap, w6, hcv, hN⟩ := new_row w5 Wt
  have r6 := r5.below hN.below
  have hng : ¬ Mine w6 w.heap.size w5.heap.size := fun hm => by
    have := (r5.mine (hm.same (hN.below.block _ r5.lt))).1
    omega
  have hsz := hWs
  obtain ⟨c, hc⟩ : ∃ c, c = Wt.data.toList.getD (a.size + k) 0 := ⟨_, rfl⟩
  have hx := hN.cell (a.size + k) (by omega)
  have hf := hN.frozen (a.size + k) (by omega)
  have b6 := b5.trans (hN.below.mono b5.size)
  have r7 := r6.apart hng (a.size + k) (.int .u8 (bits .xor .u8 (c.toNat : Int) (u.toNat : Int)))
  have b7 := b6.setCell (p := ⟨w5.heap.size, a.size + k, none⟩) b5.size (.int .u8 (bits .xor .u8 (c.toNat : Int) (u.toNat : Int)))
  have hng7 : ¬ Mine (w6.setCell ⟨w5.heap.size, a.size + k, none⟩ (.int .u8 (bits .xor .u8 (c.toNat : Int) (u.toNat : Int)))) w.heap.size w5.heap.size := fun hm =>
    hng (hm.same (Below.heap_setCell _ _ _ _ (by have := r5.lt; show w.heap.size ≠ w5.heap.size; omega)))
  have lg7 : w5.heap.size < (w6.setCell ⟨w5.heap.size, a.size + k, none⟩ (.int .u8 (bits .xor .u8 (c.toNat : Int) (u.toNat : Int)))).heap.size := by
    have h1 : w6.cell? ⟨w5.heap.size, a.size + k, none⟩ ≠ none := by rw [hx]; simp
    rcases Nat.lt_or_ge w5.heap.size w6.heap.size with h' | h'
    · simpa using h'
    · exact absurd (by simp [World.cell?, Array.getElem?_eq_none h']) h1
  rw [← hc] at hx
  have back : ∀ w8, Fr w.heap.size (w6.setCell ⟨w5.heap.size, a.size + k, none⟩ (.int .u8 (bits .xor .u8 (c.toNat : Int) (u.toNat : Int)))) w8 →
      (convert 52 9 (.slice (some ⟨w5.heap.size, 0, none⟩) (a.size + k + 1) cap)).run Try.prog w8 = .ok (.string V) w8 := by
    intro w8 f8
    have hV := HV.out
    have hVl : V.toList.length = a.size + k + 1 := by rw [hV, List.length_set, size_toList, hWs]
    have hsame := f8.old w5.heap.size lg7 hng7
    have := row_text (w := w8) (g := w5.heap.size) (cap := cap) V.toList (fun j hj => by
      rw [World.cell?_of_block (w := w6.setCell ⟨w5.heap.size, a.size + k, none⟩ (.int .u8 (bits .xor .u8 (c.toNat : Int) (u.toNat : Int)))) hsame]
      have hj2 : j < Wt.data.toList.length := by have : Wt.data.toList.length = Wt.size := by simp
                                                 omega
      by_cases hjk : j = a.size + k
      · subst hjk
        rw [World.cell?_setCell_same _ _ _ hx, xor_byte, hc]
        congr 3
        simp only [hV]
        rw [List.getElem_set_self, ByteArray.toList_eq]
      · rw [World.cell?_setCell_other _ _ _ _ (by first | (simp; done) | (simp; omega)), hN.cell j (by omega), getD_list _ _ hj2]
        congr 3
        simp only [hV]
        rw [List.getElem_set_ne (by omega)]
        simp [ByteArray.toList_eq])
    rw [hVl, tx_self] at this
    exact this
  rw [hWs] at hcv
  have HN := Lib.hid hN
  have HC := Lib.hid hc
  clear hN hc b5 b6 r5 r6 hng hng7 lg7 hsz
  go_wp2_with fail
  refine (C.d4 _ _ r7).mono ?_
  rintro e w' ⟨rfl, rfl⟩
  go_wp2_with fail
  refine (C.c5 _ _ r7).mono ?_
  rintro e w8 ⟨rfl, r8, f8⟩
  have b8 := b7.trans f8.below
  have hback := back w8 f8
  clear back r7 f8
  go_wp2_with fail
  refine (C.d4 _ _ r8).mono ?_
  rintro e w' ⟨rfl, rfl⟩
  go_wp2_with fail
  refine (C.d6 _ _ r8).mono ?_
  rintro e w' ⟨rfl, rfl⟩
  go_wp2_with fail
  refine (num_any _ _).mono ?_
  rintro e w' ⟨rfl, rfl⟩
  go_wp2_with fail
  refine (num_any _ _).mono ?_
  rintro e w' ⟨rfl, rfl⟩
  go_wp2_with fail
  refine (num_any _ _).mono ?_
  rintro e w' ⟨rfl, rfl⟩
  go_wp2_with fail
  refine (live_any _).mono ?_
  rintro e w9 ⟨rfl, b9⟩
  go_wp2_with fail
  go_ret
  exact ⟨rfl, below_step b8 b9⟩

set_option maxRecDepth 100000 in
set_option maxHeartbeats 4000000 in
theorem safe_X0 (a b : ByteArray) (keep : Int) (u : UInt8) (w : World) (S : Nat → M) (hS : S 0 = M.new 40000) (C : SafeCalls0 a b keep 0 u a S) (hl : a.size + b.size ≤ 20000)
    (hE : a ++ b.extract 0 0 = a) (hk : keep < 0) (_hk0 : -9223372036854775808 ≤ keep) :
    Calls Try.prog 4 #[.string a, .string b, .int .i64 keep, .int .u8 u.toNat, .int .i64 0] w fun e w' => e = .returned (.bool true) ∧ Below w.heap.size w w' := by
  have cn := new_good 40000 w (by decide)
  rw [← hS] at cn
  clear hS
  go_enter Try.func4, Try.ntmps4
  go_wp2_with fail
  refine cn.mono ?_
  rintro e w1 ⟨rfl, r1, b1, _⟩
  go_wp2_with fail
  refine (num_any _ _).mono ?_
  rintro e w' ⟨rfl, rfl⟩
  go_wp2_with fail
  refine (C.c1 _ _ r1).mono ?_
  rintro e w2 ⟨rfl, r2, f2⟩
  have b2 := b1.trans f2.below
  clear b1 f2 r1
  go_wp2_with fail
  refine (num_any _ _).mono ?_
  rintro e w' ⟨rfl, rfl⟩
  go_wp2_with fail
  refine (C.c2 _ _ r2).mono ?_
  rintro e w3 ⟨rfl, r3, f3⟩
  have b3 := b2.trans f3.below
  clear b2 f3 r2
  go_wp2_with fail
  refine (num_any _ _).mono ?_
  rintro e w' ⟨rfl, rfl⟩
  go_wp2_with fail
  refine (C.c3 _ _ r3).mono ?_
  rintro e w4 ⟨rfl, r4, f4⟩
  have b4 := b3.trans f4.below
  clear b3 f4 r3
  go_wp2_with fail
  refine (num_any _ _).mono ?_
  rintro e w' ⟨rfl, rfl⟩
  have R4 := r4.below ((Below.refl _ w4).alloc (Nat.le_refl _) (.cells #[.int .i64 keep, .int .i64 0, .int .u8 u.toNat] 35))
  have B4 := b4.alloc (b4.size) (.cells #[.int .i64 keep, .int .i64 0, .int .u8 u.toNat] 35)
  go_wp2_with fail
  refine (C.c4 _ _ R4).mono ?_
  rintro e w5 ⟨rfl, r5, f5⟩
  have b5 := B4.trans f5.below
  clear b4 B4 f5 r4 R4
  obtain ⟨cap, w6, hcv, hN, hsize⟩ := new_row' w5 a
  have r6 := r5.below hN.below
  have hng : ¬ Mine w6 w.heap.size w5.heap.size := fun hm => by
    have := (r5.mine (hm.same (hN.below.block _ r5.lt))).1
    omega
  have b6 := b5.trans (hN.below.mono b5.size)
  have lg : w5.heap.size < w6.heap.size := by
    omega
  have back : ∀ w8, Fr w.heap.size w6 w8 → (convert 52 9 (.slice (some ⟨w5.heap.size, 0, none⟩) a.size cap)).run Try.prog w8 = .ok (.string a) w8 := by
    intro w8 f8
    have hsame := f8.old w5.heap.size lg hng
    have := row_text (w := w8) (g := w5.heap.size) (cap := cap) a.toList (fun j hj => by
      rw [World.cell?_of_block (w := w6) hsame, hN.cell j (by rw [← size_toList]; exact hj), getD_list _ _ (by rw [← ByteArray.toList_eq]; exact hj)]
      congr 3
      simp [ByteArray.toList_eq])
    rw [size_toList, tx_self] at this
    exact this
  have HN := Lib.hid hN
  clear hN b5 r5 hng lg
  go_wp2_with fail
  refine (C.d4 _ _ r6).mono ?_
  rintro e w' ⟨rfl, rfl⟩
  go_wp2_with fail
  refine (C.c5 _ _ r6).mono ?_
  rintro e w8 ⟨rfl, r8, f8⟩
  have b8 := b6.trans f8.below
  have hback := back w8 f8
  clear back r6 f8
  go_wp2_with fail
  refine (C.d4 _ _ r8).mono ?_
  rintro e w' ⟨rfl, rfl⟩
  go_wp2_with fail
  refine (C.d6 _ _ r8).mono ?_
  rintro e w' ⟨rfl, rfl⟩
  go_wp2_with fail
  refine (num_any _ _).mono ?_
  rintro e w' ⟨rfl, rfl⟩
  go_wp2_with fail
  refine (num_any _ _).mono ?_
  rintro e w' ⟨rfl, rfl⟩
  go_wp2_with fail
  refine (num_any _ _).mono ?_
  rintro e w' ⟨rfl, rfl⟩
  go_wp2_with fail
  refine (live_any _).mono ?_
  rintro e w9 ⟨rfl, b9⟩
  go_wp2_with fail
  go_ret
  exact ⟨rfl, below_step b8 b9⟩

set_option maxRecDepth 100000 in
set_option maxHeartbeats 4000000 in
theorem safe_Y0 (a b : ByteArray) (u : UInt8) (w : World) (S : Nat → M) (hS : S 0 = M.new 40000) (C : SafeCalls0 a b 0 0 u a S) (hl : a.size + b.size ≤ 20000)
    (hE : a ++ b.extract 0 0 = a)  :
    Calls Try.prog 4 #[.string a, .string b, .int .i64 0, .int .u8 u.toNat, .int .i64 0] w fun e w' => e = .returned (.bool true) ∧ Below w.heap.size w w' := by
  have cn := new_good 40000 w (by decide)
  rw [← hS] at cn
  clear hS
  go_enter Try.func4, Try.ntmps4
  go_wp2_with fail
  refine cn.mono ?_
  rintro e w1 ⟨rfl, r1, b1, _⟩
  go_wp2_with fail
  refine (num_any _ _).mono ?_
  rintro e w' ⟨rfl, rfl⟩
  go_wp2_with fail
  refine (C.c1 _ _ r1).mono ?_
  rintro e w2 ⟨rfl, r2, f2⟩
  have b2 := b1.trans f2.below
  clear b1 f2 r1
  go_wp2_with fail
  refine (num_any _ _).mono ?_
  rintro e w' ⟨rfl, rfl⟩
  go_wp2_with fail
  refine (C.c2 _ _ r2).mono ?_
  rintro e w3 ⟨rfl, r3, f3⟩
  have b3 := b2.trans f3.below
  clear b2 f3 r2
  go_wp2_with fail
  refine (num_any _ _).mono ?_
  rintro e w' ⟨rfl, rfl⟩
  go_wp2_with fail
  refine (C.c3 _ _ r3).mono ?_
  rintro e w4 ⟨rfl, r4, f4⟩
  have b4 := b3.trans f4.below
  clear b3 f4 r3
  go_wp2_with fail
  refine (num_any _ _).mono ?_
  rintro e w' ⟨rfl, rfl⟩
  have R4 := r4.below ((Below.refl _ w4).alloc (Nat.le_refl _) (.cells #[.int .i64 0, .int .i64 0, .int .u8 u.toNat] 35))
  have B4 := b4.alloc (b4.size) (.cells #[.int .i64 0, .int .i64 0, .int .u8 u.toNat] 35)
  go_wp2_with fail
  refine (C.c4 _ _ R4).mono ?_
  rintro e w5 ⟨rfl, r5, f5⟩
  have b5 := B4.trans f5.below
  clear b4 B4 f5 r4 R4
  obtain ⟨cap, w6, hcv, hN, hsize⟩ := new_row' w5 a
  have r6 := r5.below hN.below
  have hng : ¬ Mine w6 w.heap.size w5.heap.size := fun hm => by
    have := (r5.mine (hm.same (hN.below.block _ r5.lt))).1
    omega
  have b6 := b5.trans (hN.below.mono b5.size)
  have lg : w5.heap.size < w6.heap.size := by
    omega
  have back : ∀ w8, Fr w.heap.size w6 w8 → (convert 52 9 (.slice (some ⟨w5.heap.size, 0, none⟩) a.size cap)).run Try.prog w8 = .ok (.string a) w8 := by
    intro w8 f8
    have hsame := f8.old w5.heap.size lg hng
    have := row_text (w := w8) (g := w5.heap.size) (cap := cap) a.toList (fun j hj => by
      rw [World.cell?_of_block (w := w6) hsame, hN.cell j (by rw [← size_toList]; exact hj), getD_list _ _ (by rw [← ByteArray.toList_eq]; exact hj)]
      congr 3
      simp [ByteArray.toList_eq])
    rw [size_toList, tx_self] at this
    exact this
  have HN := Lib.hid hN
  clear hN b5 r5 hng lg
  go_wp2_with fail
  refine (C.d4 _ _ r6).mono ?_
  rintro e w' ⟨rfl, rfl⟩
  go_wp2_with fail
  refine (C.c5 _ _ r6).mono ?_
  rintro e w8 ⟨rfl, r8, f8⟩
  have b8 := b6.trans f8.below
  have hback := back w8 f8
  clear back r6 f8
  go_wp2_with fail
  refine (C.d4 _ _ r8).mono ?_
  rintro e w' ⟨rfl, rfl⟩
  go_wp2_with fail
  refine (C.d6 _ _ r8).mono ?_
  rintro e w' ⟨rfl, rfl⟩
  go_wp2_with fail
  refine (num_any _ _).mono ?_
  rintro e w' ⟨rfl, rfl⟩
  go_wp2_with fail
  refine (num_any _ _).mono ?_
  rintro e w' ⟨rfl, rfl⟩
  go_wp2_with fail
  refine (num_any _ _).mono ?_
  rintro e w' ⟨rfl, rfl⟩
  go_wp2_with fail
  refine (live_any _).mono ?_
  rintro e w9 ⟨rfl, b9⟩
  go_wp2_with fail
  go_ret
  exact ⟨rfl, below_step b8 b9⟩

set_option maxRecDepth 100000 in
set_option maxHeartbeats 4000000 in
theorem safe_W0 (a b : ByteArray) (keep : Int) (u : UInt8) (w : World) (S : Nat → M) (hS : S 0 = M.new 40000) (C : SafeCalls0 a b keep 0 u a S) (hl : a.size + b.size ≤ 20000)
    (hE : a ++ b.extract 0 0 = a) (hk : 0 < keep) (hb : b.size = 0) (_hk1 : keep ≤ 9223372036854775807) :
    Calls Try.prog 4 #[.string a, .string b, .int .i64 keep, .int .u8 u.toNat, .int .i64 0] w fun e w' => e = .returned (.bool true) ∧ Below w.heap.size w w' := by
  have cn := new_good 40000 w (by decide)
  rw [← hS] at cn
  clear hS
  go_enter Try.func4, Try.ntmps4
  go_wp2_with fail
  refine cn.mono ?_
  rintro e w1 ⟨rfl, r1, b1, _⟩
  go_wp2_with fail
  refine (num_any _ _).mono ?_
  rintro e w' ⟨rfl, rfl⟩
  go_wp2_with fail
  refine (C.c1 _ _ r1).mono ?_
  rintro e w2 ⟨rfl, r2, f2⟩
  have b2 := b1.trans f2.below
  clear b1 f2 r1
  go_wp2_with fail
  refine (num_any _ _).mono ?_
  rintro e w' ⟨rfl, rfl⟩
  go_wp2_with fail
  refine (C.c2 _ _ r2).mono ?_
  rintro e w3 ⟨rfl, r3, f3⟩
  have b3 := b2.trans f3.below
  clear b2 f3 r2
  go_wp2_with fail
  refine (num_any _ _).mono ?_
  rintro e w' ⟨rfl, rfl⟩
  go_wp2_with fail
  refine (C.c3 _ _ r3).mono ?_
  rintro e w4 ⟨rfl, r4, f4⟩
  have b4 := b3.trans f4.below
  clear b3 f4 r3
  go_wp2_with fail
  refine (num_any _ _).mono ?_
  rintro e w' ⟨rfl, rfl⟩
  have R4 := r4.below ((Below.refl _ w4).alloc (Nat.le_refl _) (.cells #[.int .i64 keep, .int .i64 0, .int .u8 u.toNat] 35))
  have B4 := b4.alloc (b4.size) (.cells #[.int .i64 keep, .int .i64 0, .int .u8 u.toNat] 35)
  go_wp2_with fail
  refine (C.c4 _ _ R4).mono ?_
  rintro e w5 ⟨rfl, r5, f5⟩
  have b5 := B4.trans f5.below
  clear b4 B4 f5 r4 R4
  obtain ⟨cap, w6, hcv, hN, hsize⟩ := new_row' w5 a
  have r6 := r5.below hN.below
  have hng : ¬ Mine w6 w.heap.size w5.heap.size := fun hm => by
    have := (r5.mine (hm.same (hN.below.block _ r5.lt))).1
    omega
  have b6 := b5.trans (hN.below.mono b5.size)
  have lg : w5.heap.size < w6.heap.size := by
    omega
  have back : ∀ w8, Fr w.heap.size w6 w8 → (convert 52 9 (.slice (some ⟨w5.heap.size, 0, none⟩) a.size cap)).run Try.prog w8 = .ok (.string a) w8 := by
    intro w8 f8
    have hsame := f8.old w5.heap.size lg hng
    have := row_text (w := w8) (g := w5.heap.size) (cap := cap) a.toList (fun j hj => by
      rw [World.cell?_of_block (w := w6) hsame, hN.cell j (by rw [← size_toList]; exact hj), getD_list _ _ (by rw [← ByteArray.toList_eq]; exact hj)]
      congr 3
      simp [ByteArray.toList_eq])
    rw [size_toList, tx_self] at this
    exact this
  have HN := Lib.hid hN
  clear hN b5 r5 hng lg
  go_wp2_with fail
  refine (C.d4 _ _ r6).mono ?_
  rintro e w' ⟨rfl, rfl⟩
  go_wp2_with fail
  refine (C.c5 _ _ r6).mono ?_
  rintro e w8 ⟨rfl, r8, f8⟩
  have b8 := b6.trans f8.below
  have hback := back w8 f8
  clear back r6 f8
  go_wp2_with fail
  refine (C.d4 _ _ r8).mono ?_
  rintro e w' ⟨rfl, rfl⟩
  go_wp2_with fail
  refine (C.d6 _ _ r8).mono ?_
  rintro e w' ⟨rfl, rfl⟩
  go_wp2_with fail
  refine (num_any _ _).mono ?_
  rintro e w' ⟨rfl, rfl⟩
  go_wp2_with fail
  refine (num_any _ _).mono ?_
  rintro e w' ⟨rfl, rfl⟩
  go_wp2_with fail
  refine (num_any _ _).mono ?_
  rintro e w' ⟨rfl, rfl⟩
  go_wp2_with fail
  refine (live_any _).mono ?_
  rintro e w9 ⟨rfl, b9⟩
  go_wp2_with fail
  go_ret
  exact ⟨rfl, below_step b8 b9⟩

end Go.Proofs.Ytkkakcmgndmfjaa
