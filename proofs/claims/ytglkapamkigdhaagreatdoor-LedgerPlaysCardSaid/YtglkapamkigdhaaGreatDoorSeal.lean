/-
  The seals: knot.hex, Seal, Open, and the document's answers to them, at every text. Condition: lengths below 2^47.
-/
import Derived.Test.YtglkapamkigdhaaGreatDoorSum
namespace Go.Proofs.YtglkapamkigdhaaGreatDoor
open Go.RowKit M

abbrev hexDigits : ByteArray := ⟨#[48, 49, 50, 51, 52, 53, 54, 55, 56, 57, 97, 98, 99, 100, 101, 102]⟩
theorem index_hex (d : Nat) (h : d < 16) (w : World) : (Instr.index 9 (.string ⟨#[48, 49, 50, 51, 52, 53, 54, 55, 56, 57, 97, 98, 99, 100, 101, 102]⟩) (.int .u32 (d : Int))).run Tryz.prog w = .ok (.int .u8 ((hexd d).toNat : Int)) w := by
  have h16 : d = 0 ∨ d = 1 ∨ d = 2 ∨ d = 3 ∨ d = 4 ∨ d = 5 ∨ d = 6 ∨ d = 7 ∨ d = 8 ∨ d = 9 ∨ d = 10 ∨ d = 11 ∨ d = 12 ∨ d = 13 ∨ d = 14 ∨ d = 15 := by omega
  rcases h16 with rfl | rfl | rfl | rfl | rfl | rfl | rfl | rfl | rfl | rfl | rfl | rfl | rfl | rfl | rfl | rfl
  all_goals (show _ = _; kernel_rfl)

theorem and15 (m : Nat) (hm : m < 4294967296) : bits .and .u32 (m : Int) 15 = ((m % 16 : Nat) : Int) := by
  have h := u32_and_nat m 15 hm (by omega)
  rw [show ((15 : Nat) : Int) = 15 by rfl] at h
  rw [h, show m &&& 15 = m % 16 from Nat.and_two_pow_sub_one_eq_mod m 4]

theorem slice75 (g : Nat) (W : World) :
    (Instr.sliceAt 142 (.pointer (some ⟨g, 0, none⟩)) none none none).run Tryz.prog W = .ok (.slice (some ⟨g, 0, none⟩) (8 - 0) (8 - 0)) W := by
  have hal : Tryz.prog.arrayLen 142 = 8 := by kernel_rfl
  rw [run_sliceAt_array_all W 142 ⟨g, 0, none⟩ (by kernel_rfl)]
  go_simp

set_option maxHeartbeats 1000000 in
set_option maxRecDepth 100000 in
theorem hex_any (n : Nat) (w : World) (hn : n < 4294967296) :
    Calls Tryz.prog 80 #[.int .u32 (n : Int)] w fun e w' => e = .returned (str (hexT 8 n)) ∧ Below w.heap.size w w' := by
  go_enter Tryz.func80, Tryz.ntmps80
  go_wp2
  go_loopw [0, 5] (fun vm vi wr => ∃ (i m : Nat), i ≤ 8 ∧ vi = .int .i64 (i : Int) ∧ vm = .int .u32 (m : Int) ∧ m < 4294967296 ∧ Hid (m = n / 16 ^ i) ∧ Row wr w.heap.size 142 8 (8 - i) (hexT i n) ∧ Below w.heap.size w wr) (fun _ vi _ => 8 - (intOf vi).toNat)
  case atStart => exact ⟨0, n, by omega, rfl, rfl, hn, by show n = _; simp, Row.start w 142 8 _ rfl, (Below.refl _ w).alloc (Nat.le_refl _) _⟩
  case round =>
    obtain ⟨i, m, hi, rfl, rfl, hm, hmi, hrow, hbel⟩ := hrel
    by_cases hlt : i < 8
    · obtain ⟨k, hk⟩ : ∃ k, k = 7 - i := ⟨_, rfl⟩
      have hk1 : k ≤ 7 := by omega
      rw [show 8 - i = k + 1 by omega] at hrow
      obtain ⟨v, hc⟩ := hrow.cell k (by omega)
      have hf := hrow.frozen k
      have hsub : (7 : Int) - (i : Int) = (k : Int) := by omega
      obtain ⟨d, hd⟩ : ∃ d, d = m % 16 := ⟨_, rfl⟩
      have hd16 : d < 16 := by omega
      have hand := and15 m hm
      rw [← hd] at hand
      have hidx := index_hex d hd16
      have hput := hrow.put (hexd d) ((hexd d).toNat : Int) rfl
      have hbel2 := hbel.setCell (p := ⟨w.heap.size, k, none⟩) (Nat.le_refl _) (.int .u8 ((hexd d).toNat : Int))
      generalize ((hexd d).toNat : Int) = x at hidx hput hbel2
      have HK := Lib.hid hk
      have HP := Lib.hid hput
      have HB := Lib.hid hbel2
      have HD := Lib.hid hd
      clear hk hrow hbel hput hbel2 hd
      go_wp2
      go_roundw
      case rel =>
        refine ⟨i + 1, m / 16, by omega, by go_num, by go_num, by omega, ?_, ?_, HB.out⟩
        · show m / 16 = _
          rw [hmi.out, Nat.div_div_eq_div_mul, Nat.pow_succ]
        · have h := HP.out
          rw [HD.out, hmi.out, ← hexT_cons i n] at h
          rw [show 8 - (i + 1) = k by have := HK.out; omega]
          exact h
      case measure => simp [intOf]; omega
    · obtain rfl : i = 8 := by omega
      have hcv := hrow.convert
      have hsl := slice75 w.heap.size
      have HB := Lib.hid hbel
      clear hrow hbel
      go_wp2
      go_ret
      exact ⟨rfl, HB.out⟩

theorem ret_string {a b : ByteArray} (h : a = b) : Ending.returned (.string a) = .returned (.string b) := by rw [h]
theorem bytes_ext {a b : ByteArray} (h : a.data.toList = b.data.toList) : a = b := by
  cases a; cases b; simp_all [Array.toList_inj]
theorem str_app (s : ByteArray) (l : List UInt8) : s ++ (⟨l.toArray⟩ : ByteArray) = ⟨(s.data.toList ++ l).toArray⟩ := by
  apply bytes_ext
  rw [ByteArray.data_append, Array.toList_append]
theorem str_self (s : ByteArray) : (⟨s.data.toList.toArray⟩ : ByteArray) = s := bytes_ext (by simp)

set_option maxHeartbeats 1000000 in
theorem seal_any (s : ByteArray) (w : World) (hs : s.size ≤ 140737488355328) :
    Calls Tryz.prog 72 #[.string s] w fun e w' => e = .returned (str (sealT s.data.toList)) ∧ Below w.heap.size w w' := by
  go_enter Tryz.func72, Tryz.ntmps72
  have hlt := sumT_lt s.data.toList
  have hl8 := hexT_length 8 (sumT s.data.toList)
  go_wp2_with (first
    | (go_at_call 81; refine (sum_any s _ (by omega)).mono ?_; rintro e w' ⟨rfl, rfl⟩)
    | (go_at_call 80; refine (hex_any (sumT s.data.toList) _ hlt).mono ?_; rintro e w1 ⟨rfl, hb1⟩))
  go_ret
  refine ⟨ret_string (a := s ++ (⟨(hexT 8 (sumT s.data.toList)).toArray⟩ : ByteArray)) (b := ⟨(sealT s.data.toList).toArray⟩) ?_, hb1⟩
  rw [str_app]; rfl


theorem slice_hex (d : Nat) (h : d < 16) (c : ByteArray) (hc : c = ⟨#[hexd d]⟩) (w : World) : (Instr.slice 9 (.string ⟨#[48, 49, 50, 51, 52, 53, 54, 55, 56, 57, 97, 98, 99, 100, 101, 102]⟩) (some (.int .u32 (d : Int))) (some (.int .u32 ((d : Int) + 1))) none).run Tryz.prog w = .ok (.string c) w := by
  subst hc
  have h16 : d = 0 ∨ d = 1 ∨ d = 2 ∨ d = 3 ∨ d = 4 ∨ d = 5 ∨ d = 6 ∨ d = 7 ∨ d = 8 ∨ d = 9 ∨ d = 10 ∨ d = 11 ∨ d = 12 ∨ d = 13 ∨ d = 14 ∨ d = 15 := by omega
  rcases h16 with rfl | rfl | rfl | rfl | rfl | rfl | rfl | rfl | rfl | rfl | rfl | rfl | rfl | rfl | rfl | rfl
  all_goals (show _ = _; kernel_rfl)

theorem hexT_up (n i : Nat) (hi : i < 8) : hexT (i + 1) (n / 16 ^ (8 - (i + 1))) = hexT i (n / 16 ^ (8 - i)) ++ [hexd (n / 16 ^ (7 - i) % 16)] := by
  rw [hexT, show 8 - (i + 1) = 7 - i by omega, Nat.div_div_eq_div_mul, ← Nat.pow_succ, show (7 - i).succ = 8 - i by omega]

set_option maxHeartbeats 4000000 in
set_option maxRecDepth 100000 in
theorem rseal_any (s : ByteArray) (w : World) (hs : s.size ≤ 140737488355328) :
    Calls Tryz.prog 53 #[.string s] w fun e w' => e = .returned (str (sealT s.data.toList)) ∧ w = w' := by
  go_enter Tryz.func53, Tryz.ntmps53
  obtain ⟨n, hn⟩ : ∃ n, n = sumT s.data.toList := ⟨_, rfl⟩
  have hlt : n < 4294967296 := by rw [hn]; exact sumT_lt _
  have hcon : ∀ w, Calls Tryz.prog 62 #[.string s] w fun e w' => e = .returned (.int .u32 (n : Int)) ∧ w = w' := fun w => by rw [hn]; exact rsum_any s w (by omega)
  have HN := Lib.hid hn
  clear hn
  go_wp2_with (go_at_call 62; refine (hcon _).mono ?_; rintro e w' ⟨rfl, rfl⟩)
  clear hcon
  go_loop [0, 4] (fun v0 vi => ∃ (i : Nat) (t : ByteArray), i ≤ 8 ∧ vi = .int .i64 (i : Int) ∧ v0 = .string t ∧ Hid (t.data.toList = s.data.toList ++ hexT i (n / 16 ^ (8 - i))) ∧ t.size ≤ 140737488355328 + i) (fun _ vi => 8 - (intOf vi).toNat)
  case atStart => exact ⟨0, s, by omega, rfl, rfl, by simp [Hid, hexT], by omega⟩
  case round =>
    obtain ⟨i, t, hi, rfl, rfl, ht, hts⟩ := hrel
    by_cases hlt8 : i < 8
    · obtain ⟨q, hq⟩ : ∃ q, q = n / 16 ^ (7 - i) := ⟨_, rfl⟩
      have hqn : q ≤ n := by rw [hq]; exact Nat.div_le_self _ _
      obtain ⟨d, hd⟩ : ∃ d, d = q % 16 := ⟨_, rfl⟩
      have hd16 : d < 16 := by omega
      have hand := and15 q (by omega)
      rw [← hd] at hand
      obtain ⟨c, hc⟩ : ∃ c : ByteArray, c = ⟨#[hexd d]⟩ := ⟨_, rfl⟩
      have hcs : c.size = 1 := by rw [hc]; rfl
      have hsl := slice_hex d hd16 c hc
      have hnew : Hid ((t ++ c).data.toList = s.data.toList ++ hexT (i + 1) (n / 16 ^ (8 - (i + 1)))) := by
        show (t ++ c).data.toList = _
        rw [hexT_up n i hlt8, ← hq, ← hd, ← List.append_assoc, ← ht.out, hc, ByteArray.data_append, Array.toList_append]
      have hsz : t.size + 1 ≤ 140737488355328 + (i + 1) := by omega
      clear ht hc hd
      have h8 : i = 0 ∨ i = 1 ∨ i = 2 ∨ i = 3 ∨ i = 4 ∨ i = 5 ∨ i = 6 ∨ i = 7 := by omega
      rcases h8 with rfl | rfl | rfl | rfl | rfl | rfl | rfl | rfl
      · have hq2 : (n : Int) / 268435456 = (q : Int) := by rw [hq]; simp
        clear hq
        skip
        go_wp2
        go_round
        case rel => exact ⟨1, t ++ c, by omega, by go_num, rfl, hnew, by rw [ByteArray.size_append]; omega⟩
        case measure => simp [intOf]
      · have hq2 : (n : Int) / 16777216 = (q : Int) := by rw [hq]; simp
        clear hq
        skip
        go_wp2
        go_round
        case rel => exact ⟨2, t ++ c, by omega, by go_num, rfl, hnew, by rw [ByteArray.size_append]; omega⟩
        case measure => simp [intOf]
      · have hq2 : (n : Int) / 1048576 = (q : Int) := by rw [hq]; simp
        clear hq
        skip
        go_wp2
        go_round
        case rel => exact ⟨3, t ++ c, by omega, by go_num, rfl, hnew, by rw [ByteArray.size_append]; omega⟩
        case measure => simp [intOf]
      · have hq2 : (n : Int) / 65536 = (q : Int) := by rw [hq]; simp
        clear hq
        skip
        go_wp2
        go_round
        case rel => exact ⟨4, t ++ c, by omega, by go_num, rfl, hnew, by rw [ByteArray.size_append]; omega⟩
        case measure => simp [intOf]
      · have hq2 : (n : Int) / 4096 = (q : Int) := by rw [hq]; simp
        clear hq
        skip
        go_wp2
        go_round
        case rel => exact ⟨5, t ++ c, by omega, by go_num, rfl, hnew, by rw [ByteArray.size_append]; omega⟩
        case measure => simp [intOf]
      · have hq2 : (n : Int) / 256 = (q : Int) := by rw [hq]; simp
        clear hq
        skip
        go_wp2
        go_round
        case rel => exact ⟨6, t ++ c, by omega, by go_num, rfl, hnew, by rw [ByteArray.size_append]; omega⟩
        case measure => simp [intOf]
      · have hq2 : (n : Int) / 16 = (q : Int) := by rw [hq]; simp
        clear hq
        skip
        go_wp2
        go_round
        case rel => exact ⟨7, t ++ c, by omega, by go_num, rfl, hnew, by rw [ByteArray.size_append]; omega⟩
        case measure => simp [intOf]
      · have hq2 : q = n := by rw [hq]; simp
        clear hq
        subst hq2
        go_wp2
        go_round
        case rel => exact ⟨8, t ++ c, by omega, by go_num, rfl, hnew, by rw [ByteArray.size_append]; omega⟩
        case measure => simp [intOf]
    · obtain rfl : i = 8 := by omega
      go_wp2
      go_ret
      refine ⟨ret_string (a := t) (b := ⟨(sealT s.data.toList).toArray⟩) (bytes_ext ?_), rfl⟩
      rw [ht.out, HN.out]; simp [sealT]

end Go.Proofs.YtglkapamkigdhaaGreatDoor
