/-
  The sums: the document's answer and knot.Sum, at every text. Condition: the text's length is a Go length.
-/
import Derived.Test.YtglkapamkigdhaaGreatDoorNum
import Derived.Test.YtglkapamkigdhaaGreatDoorMathAll
import Derived.Laws.BitsAllLaws
namespace Go.Proofs.YtglkapamkigdhaaGreatDoor
open Go.RowKit M

theorem int_eq {k : IntKind} {a b : Int} (h : a = b) : Value.int k a = Value.int k b := by rw [h]
theorem ret_int {k : IntKind} {a b : Int} (h : a = b) : Ending.returned (.int k a) = .returned (.int k b) := by rw [h]
theorem take_snoc (s : ByteArray) (k : Nat) (h : k < s.size) : s.data.toList.take (k + 1) = s.data.toList.take k ++ [s[k]] := by
  rw [List.take_succ_eq_append_getElem (by simpa using h)]; rfl
theorem take_all (s : ByteArray) : s.data.toList.take s.size = s.data.toList := List.take_of_length_le (by simp)

theorem or_join (b a : Nat) (hb : b < 65536) (ha : a < 65536) : bits .or .u32 ((b : Int) * 65536) (a : Int) = ((b * 65536 + a : Nat) : Int) := by
  have h := u32_or_nat (b * 65536) a (by omega) (by omega)
  rw [show ((b * 65536 : Nat) : Int) = (b : Int) * 65536 by omega] at h
  rw [h]
  have e := Nat.shiftLeft_add_eq_or_of_lt (i := 16) (b := a) (by omega) b
  rw [Nat.shiftLeft_eq] at e
  rw [← e]

theorem drop_data (t : ByteArray) (k : Nat) : (t.extract k t.size).data.toList = t.data.toList.drop k := by
  rw [Lib.extract_data]; exact List.take_of_length_le (by simp)
theorem take_data (t : ByteArray) (k : Nat) : (t.extract 0 k).data.toList = t.data.toList.take k := by
  rw [Lib.extract_data]; rfl
theorem cut_again (t : ByteArray) (k : Nat) : (t.extract 0 k).data.toList ++ (t.extract k t.size).data.toList = t.data.toList := by
  rw [drop_data, take_data, List.take_append_drop]
theorem toList_nil (t : ByteArray) : t.size = 0 ↔ t.data.toList = [] := by
  rw [show t.size = t.data.toList.length by simp]; exact List.length_eq_zero_iff
theorem empty_no (t : ByteArray) (h : t.size = 0) : (!t.toList.isEmpty) = false := by
  rw [ByteArray.toList_eq, (toList_nil t).1 h]; rfl
theorem empty_yes (t : ByteArray) (h : t.size ≠ 0) : (!t.toList.isEmpty) = true := by
  rw [ByteArray.toList_eq]
  have := fun e => h ((toList_nil t).2 e)
  cases he : t.data.toList <;> simp_all

set_option maxHeartbeats 1000000 in
theorem rsum_any (s : ByteArray) (w : World) (hs : s.size ≤ 9223372036854775807) :
    Calls Tryz.prog 62 #[.string s] w fun e w' => e = .returned (.int .u32 (sumT s.data.toList : Int)) ∧ w = w' := by
  go_enter Tryz.func62, Tryz.ntmps62
  go_wp2
  go_loop [3, 4, 5] (fun va vb vi => ∃ k : Nat, k ≤ s.size ∧ vi = .int .i64 (k : Int) ∧ va = .int .u32 ((sumAB (s.data.toList.take k)).1 : Int) ∧ vb = .int .u32 ((sumAB (s.data.toList.take k)).2 : Int)) (fun _ _ vi => s.size - (intOf vi).toNat)
  case atStart => exact ⟨0, Nat.zero_le _, rfl, rfl, rfl⟩
  case round =>
    obtain ⟨k, hk, rfl, rfl, rfl⟩ := hrel
    obtain ⟨ha, hb⟩ := sumAB_lt (s.data.toList.take k)
    by_cases hlt : k < s.size
    · have hsn := sumAB_snoc (s.data.toList.take k) s[k]
      rw [← take_snoc s k hlt] at hsn
      have hbyte := UInt8.toNat_lt s[k]
      have HS := Lib.hid hsn
      clear hsn
      obtain ⟨a, hA⟩ : ∃ a, a = (sumAB (s.data.toList.take k)).1 := ⟨_, rfl⟩
      obtain ⟨b, hB⟩ : ∃ b, b = (sumAB (s.data.toList.take k)).2 := ⟨_, rfl⟩
      rw [← hA] at ha ⊢
      rw [← hB] at hb ⊢
      have HA := Lib.hid hA
      have HB := Lib.hid hB
      clear hA hB
      go_wp2
      go_round
      case rel =>
        refine ⟨k + 1, by omega, by go_num, int_eq ?_, int_eq ?_⟩
        · rw [HS.out]; unfold sumStep; rw [← HA.out]; simp only []; omega
        · rw [HS.out]; unfold sumStep; rw [← HA.out, ← HB.out]; simp only []; omega
      case measure => simp [intOf]; omega
    · obtain rfl : k = s.size := by omega
      rw [take_all] at ha hb ⊢
      obtain ⟨a, hA⟩ : ∃ a, a = (sumAB s.data.toList).1 := ⟨_, rfl⟩
      obtain ⟨b, hB⟩ : ∃ b, b = (sumAB s.data.toList).2 := ⟨_, rfl⟩
      rw [← hA] at ha ⊢
      rw [← hB] at hb ⊢
      have HA := Lib.hid hA
      have HB := Lib.hid hB
      clear hA hB
      go_wp2
      rw [or_join b a (by omega) (by omega)]
      go_ret
      refine ⟨ret_int (a := ((b * 65536 + a : Nat) : Int)) ?_, rfl⟩
      unfold sumT
      rw [← HA.out, ← HB.out]


/-- within a stretch: what a and b are, and how great at most. -/
def SumInv (p r : Text) (a b : Nat) : Prop :=
  a % 65521 = (sumAB (p ++ r)).1 ∧ b % 65521 = (sumAB (p ++ r)).2 ∧ a ≤ 65520 + 255 * r.length ∧ 2 * b ≤ 131040 + 131040 * r.length + 255 * (r.length * (r.length + 1))
theorem SumInv.start {p : Text} {a b : Nat} (ha : a = (sumAB p).1) (hb : b = (sumAB p).2) : SumInv p [] a b := by
  have := sumAB_lt p
  unfold SumInv
  rw [List.append_nil, ha, hb]
  simp only [List.length_nil]
  omega
theorem SumInv.step {p r : Text} {a b : Nat} (h : SumInv p r a b) (c : UInt8) : SumInv p (r ++ [c]) (a + c.toNat) (b + (a + c.toNat)) := by
  obtain ⟨h1, h2, h3, h4⟩ := h
  have hc := UInt8.toNat_lt c
  unfold SumInv
  rw [← List.append_assoc, sumAB_snoc, List.length_append, List.length_singleton]
  unfold sumStep
  simp only []
  have e : (r.length + 1) * (r.length + 1 + 1) = r.length * (r.length + 1) + 2 * (r.length + 1) := by
    rw [Nat.add_mul, Nat.mul_add r.length (r.length + 1) 1]; omega
  generalize r.length * (r.length + 1) = T at *
  omega
theorem SumInv.le1 {p r : Text} {a b : Nat} (h : SumInv p r a b) (hr : r.length ≤ 4096) : a ≤ 1110000 := by
  obtain ⟨_, _, h3, _⟩ := h; omega
theorem SumInv.le2 {p r : Text} {a b : Nat} (h : SumInv p r a b) (hr : r.length ≤ 4096) : b ≤ 2408052720 := by
  obtain ⟨_, _, _, h4⟩ := h
  have : r.length * (r.length + 1) ≤ 4096 * 4097 := Nat.mul_le_mul hr (by omega)
  omega

def lenOf : Value → Nat
  | .string t => t.size
  | _ => 0

set_option maxHeartbeats 2000000 in
theorem sum_any (s : ByteArray) (w : World) (hs : s.size ≤ 9223372036854775807) :
    Calls Tryz.prog 81 #[.string s] w fun e w' => e = .returned (.int .u32 (sumT s.data.toList : Int)) ∧ w = w' := by
  go_enter Tryz.func81, Tryz.ntmps81
  go_wp2
  go_loop [0, 3, 4] (fun v0 va vb => ∃ (t : ByteArray) (p : Text), v0 = .string t ∧ Hid (s.data.toList = p ++ t.data.toList) ∧ t.size ≤ 9223372036854775807 ∧ va = .int .u32 ((sumAB p).1 : Int) ∧ vb = .int .u32 ((sumAB p).2 : Int)) (fun v0 _ _ => lenOf v0)
  case atStart => exact ⟨s, [], rfl, rfl, hs, rfl, rfl⟩
  case round =>
    obtain ⟨t, p, rfl, hsp, ht, rfl, rfl⟩ := hrel
    obtain ⟨ha, hb⟩ := sumAB_lt p
    obtain ⟨a, hA⟩ : ∃ a, a = (sumAB p).1 := ⟨_, rfl⟩
    obtain ⟨b, hB⟩ : ∃ b, b = (sumAB p).2 := ⟨_, rfl⟩
    rw [← hA] at ha ⊢
    rw [← hB] at hb ⊢
    have HA := Lib.hid hA
    have HB := Lib.hid hB
    clear hA hB
    by_cases h0 : t.size = 0
    · have hE := empty_no t h0
      go_wp2
      rw [or_join b a (by omega) (by omega)]
      go_ret
      refine ⟨ret_int (a := ((b * 65536 + a : Nat) : Int)) ?_, rfl⟩
      have h := hsp.out
      rw [(toList_nil t).1 h0, List.append_nil] at h
      unfold sumT
      rw [h, ← HA.out, ← HB.out]
    · have hE := empty_yes t h0
      obtain ⟨n, hmin⟩ : ∃ n : Nat, min (t.size : Int) 4096 = (n : Int) := ⟨(min (t.size : Int) 4096).toNat, by omega⟩
      have hn1 : 1 ≤ n := by omega
      have hn2 : n ≤ 4096 := by omega
      have hn3 : n ≤ t.size := by omega
      obtain ⟨q, hq⟩ : ∃ q, t.extract 0 n = q := ⟨_, rfl⟩
      have hqs : q.size = n := by rw [← hq, ByteArray.size_extract]; omega
      have HQ := Lib.hid hq
      have hinv0 : Hid (SumInv p [] a b) := SumInv.start HA.out HB.out
      clear HA HB ha hb
      go_wp2
      go_loop [3, 4, 16] (fun va vb vi => ∃ k a b : Nat, k ≤ n ∧ vi = .int .i64 (k : Int) ∧ va = .int .u32 (a : Int) ∧ vb = .int .u32 (b : Int) ∧ Hid (SumInv p (q.data.toList.take k) a b)) (fun _ _ vi => n - (intOf vi).toNat)
      case atStart => exact ⟨0, a, b, Nat.zero_le _, rfl, rfl, rfl, hinv0.out⟩
      case round =>
        clear hinv0 hmin hq
        obtain ⟨k, a, b, hk, rfl, rfl, rfl, hinv⟩ := hrel
        have hb1 : a ≤ 1110000 := hinv.out.le1 (by simp; omega)
        have hb2 : b ≤ 2408052720 := hinv.out.le2 (by simp; omega)
        by_cases hlt : k < n
        · have hbyte := UInt8.toNat_lt (q[k]'(by omega))
          go_wp2
          go_round
          case rel =>
            refine ⟨k + 1, a + (q[k]'(by omega)).toNat, b + (a + (q[k]'(by omega)).toNat), by omega, by go_num, int_eq (by omega), int_eq (by omega), ?_⟩
            have h := hinv.out.step (q[k]'(by omega))
            rw [← take_snoc q k (by omega)] at h
            exact h
          case measure => simp [intOf]; omega
        · obtain rfl : k = n := by omega
          have hr := hinv.out
          rw [← hqs, take_all] at hr
          have HR := Lib.hid hr
          clear hr
          go_wp2
          go_round
          case rel =>
            obtain ⟨e1, e2, _, _⟩ := HR.out
            refine ⟨_, p ++ q.data.toList, rfl, ?_, ?_, int_eq ?_, int_eq ?_⟩
            · show s.data.toList = _
              rw [hsp.out, ← HQ.out, List.append_assoc, cut_again]
            · rw [ByteArray.size_extract]; omega
            · rw [← e1]; omega
            · rw [← e2]; omega
          case measure =>
            simp [lenOf]
            omega

end Go.Proofs.YtglkapamkigdhaaGreatDoor
