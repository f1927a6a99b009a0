/-
  The sums: the document's answer and knot.Sum, at every text. Condition: the text's length is a Go length.
-/
import Derived.Test.YtimodohcihnoiaaDoorNum
import Derived.Test.YtimodohcihnoiaaDoorMath3
import Derived.Laws.BitsAllLaws
namespace Go.Proofs.YtimodohcihnoiaaDoor
open Go.RowKit M

theorem int_eq {k : IntKind} {a b : Int} (h : a = b) : Value.int k a = Value.int k b := by rw [h]
theorem ret_int {k : IntKind} {a b : Int} (h : a = b) : Ending.returned (.int k a) = .returned (.int k b) := by rw [h]
theorem take_snoc (s : ByteArray) (k : Nat) (h : k < s.size) : s.data.toList.take (k + 1) = s.data.toList.take k ++ [s[k]] := by
  rw [List.take_succ_eq_append_getElem (by simpa using h)]; rfl
theorem take_all (s : ByteArray) : s.data.toList.take s.size = s.data.toList := List.take_of_length_le (by simp)

theorem or_join (b a : Nat) (hb : b < 65536) (ha : a < 65536) : bits .or .u32 ((b : Int) * 65536) (a : Int) = ((b * 65536 + a : Nat) : Int) := by
  have h := u32_or_nat (b * 65536) a (by omega) (by omega)
  rw [show ((b * 65536 : Nat) : Int) = (b : Int) * 65536 by omega] at h
  rw [h]
  have e := Nat.shiftLeft_add_eq_or_of_lt (i := 16) (b := a) (by omega) b
  rw [Nat.shiftLeft_eq] at e
  rw [← e]

theorem drop_data (t : ByteArray) (k : Nat) : (t.extract k t.size).data.toList = t.data.toList.drop k := by
  rw [Lib.extract_data]; exact List.take_of_length_le (by simp)
theorem take_data (t : ByteArray) (k : Nat) : (t.extract 0 k).data.toList = t.data.toList.take k := by
  rw [Lib.extract_data]; rfl
theorem cut_again (t : ByteArray) (k : Nat) : (t.extract 0 k).data.toList ++ (t.extract k t.size).data.toList = t.data.toList := by
  rw [drop_data, take_data, List.take_append_drop]
theorem toList_nil (t : ByteArray) : t.size = 0 ↔ t.data.toList = [] := by
  rw [show t.size = t.data.toList.length by simp]; exact List.length_eq_zero_iff
theorem empty_no (t : ByteArray) (h : t.size = 0) : (!t.toList.isEmpty) = false := by
  rw [ByteArray.toList_eq, (toList_nil t).1 h]; rfl
theorem empty_yes (t : ByteArray) (h : t.size ≠ 0) : (!t.toList.isEmpty) = true := by
  rw [ByteArray.toList_eq]
  have := fun e => h ((toList_nil t).2 e)
  cases he : t.data.toList <;> simp_all

/-- within a stretch: what a and b are, and how great at most. -/
def SumInv (p r : Text) (a b : Nat) : Prop :=
  a % 65521 = (sumAB (p ++ r)).1 ∧ b % 65521 = (sumAB (p ++ r)).2 ∧ a ≤ 65520 + 255 * r.length ∧ 2 * b ≤ 131040 + 131040 * r.length + 255 * (r.length * (r.length + 1))
theorem SumInv.start {p : Text} {a b : Nat} (ha : a = (sumAB p).1) (hb : b = (sumAB p).2) : SumInv p [] a b := by
  have := sumAB_lt p
  unfold SumInv
  rw [List.append_nil, ha, hb]
  simp only [List.length_nil]
  omega
theorem SumInv.step {p r : Text} {a b : Nat} (h : SumInv p r a b) (c : UInt8) : SumInv p (r ++ [c]) (a + c.toNat) (b + (a + c.toNat)) := by
  obtain ⟨h1, h2, h3, h4⟩ := h
  have hc := UInt8.toNat_lt c
  unfold SumInv
  rw [← List.append_assoc, sumAB_snoc, List.length_append, List.length_singleton]
  unfold sumStep
  simp only []
  have e : (r.length + 1) * (r.length + 1 + 1) = r.length * (r.length + 1) + 2 * (r.length + 1) := by
    rw [Nat.add_mul, Nat.mul_add r.length (r.length + 1) 1]; omega
  generalize r.length * (r.length + 1) = T at *
  omega
theorem SumInv.le1 {p r : Text} {a b : Nat} (h : SumInv p r a b) (hr : r.length ≤ 4096) : a ≤ 1110000 := by
  obtain ⟨_, _, h3, _⟩ := h; omega
theorem SumInv.le2 {p r : Text} {a b : Nat} (h : SumInv p r a b) (hr : r.length ≤ 4096) : b ≤ 2408052720 := by
  obtain ⟨_, _, _, h4⟩ := h
  have : r.length * (r.length + 1) ≤ 4096 * 4097 := Nat.mul_le_mul hr (by omega)
  omega

def lenOf : Value → Nat
  | .string t => t.size
  | _ => 0

end Go.Proofs.YtimodohcihnoiaaDoor
