/-
  THE PLAIN MATHEMATICS OF PACKAGE knot, its third part, of no program: sums, seals, and that one spoilt byte shows. No condition.
  The sums: the document's answer and knot.Sum, at every text. Condition: the text's length is a Go length.
  The seals: knot.hex, Seal, Open, and the document's answers to them, at every text. Condition: lengths below 2^47.
  knot.Open and the document's answer to it, at every text. Condition: lengths below 2^47.
-/
import Derived.Test.YtlcobgpgggegdaaGreatDoorOrdA
import Derived.Test.YtlcobgpgggegdaaGreatDoorBaseA
import Derived.Laws.BitsAllLaws
import Derived.RegionTactic
import Derived.ChangeAlike
import Derived.Deep.RegionHeld3
import Derived.Deep.DrawnRows
import Derived.Deep.QuietTactic
import Derived.BigQuiet
namespace Go.Proofs.YtlcobgpgggegdaaGreatDoor.M

/-! ### sums -/
def sumStep (p : Nat × Nat) (c : UInt8) : Nat × Nat := ((p.1 + c.toNat) % 65521, (p.2 + (p.1 + c.toNat) % 65521) % 65521)
def sumAB (l : Text) : Nat × Nat := l.foldl sumStep (1, 0)
def sumT (l : Text) : Nat := (sumAB l).2 * 65536 + (sumAB l).1

theorem sumAB_snoc (l : Text) (c : UInt8) : sumAB (l ++ [c]) = sumStep (sumAB l) c := by simp [sumAB, List.foldl_append]
theorem sumAB_lt (l : Text) : (sumAB l).1 < 65521 ∧ (sumAB l).2 < 65521 := by
  rcases List.eq_nil_or_concat l with rfl | ⟨r, c, rfl⟩
  · simp [sumAB]
  · rw [List.concat_eq_append, sumAB_snoc]; unfold sumStep; simp only []; omega
/-! ### hexadecimal digits -/
def hexd (d : Nat) : UInt8 := if d < 10 then UInt8.ofNat (48 + d) else UInt8.ofNat (87 + d)
/-- the k low digits of n, the highest first -/
def hexT : Nat → Nat → Text
  | 0, _ => []
  | k + 1, n => hexT k (n / 16) ++ [hexd (n % 16)]
/-! ### seals -/
def sealT (s : Text) : Text := s ++ hexT 8 (sumT s)
def openT (s : Text) : Option Text := if 8 ≤ s.length ∧ sealT (s.take (s.length - 8)) = s then some (s.take (s.length - 8)) else none

end Go.Proofs.YtlcobgpgggegdaaGreatDoor.M

namespace Go.Proofs.YtlcobgpgggegdaaGreatDoor
open Go.RowKit M

theorem ret_int {k : IntKind} {a b : Int} (h : a = b) : Ending.returned (.int k a) = .returned (.int k b) := by rw [h]
theorem drop_data (t : ByteArray) (k : Nat) : (t.extract k t.size).data.toList = t.data.toList.drop k := by
  rw [Lib.extract_data]; exact List.take_of_length_le (by simp)
theorem take_data (t : ByteArray) (k : Nat) : (t.extract 0 k).data.toList = t.data.toList.take k := by
  rw [Lib.extract_data]; rfl
theorem toList_nil (t : ByteArray) : t.size = 0 ↔ t.data.toList = [] := by
  rw [show t.size = t.data.toList.length by simp]; exact List.length_eq_zero_iff
theorem empty_no (t : ByteArray) (h : t.size = 0) : (!t.toList.isEmpty) = false := by
  rw [ByteArray.toList_eq, (toList_nil t).1 h]; rfl
theorem empty_yes (t : ByteArray) (h : t.size ≠ 0) : (!t.toList.isEmpty) = true := by
  rw [ByteArray.toList_eq]
  have := fun e => h ((toList_nil t).2 e)
  cases he : t.data.toList <;> simp_all

/-- within a stretch: what a and b are, and how great at most. -/
def SumInv (p r : Text) (a b : Nat) : Prop :=
  a % 65521 = (sumAB (p ++ r)).1 ∧ b % 65521 = (sumAB (p ++ r)).2 ∧ a ≤ 65520 + 255 * r.length ∧ 2 * b ≤ 131040 + 131040 * r.length + 255 * (r.length * (r.length + 1))
theorem SumInv.start {p : Text} {a b : Nat} (ha : a = (sumAB p).1) (hb : b = (sumAB p).2) : SumInv p [] a b := by
  have := sumAB_lt p
  unfold SumInv
  rw [List.append_nil, ha, hb]
  simp only [List.length_nil]
  omega
theorem SumInv.step {p r : Text} {a b : Nat} (h : SumInv p r a b) (c : UInt8) : SumInv p (r ++ [c]) (a + c.toNat) (b + (a + c.toNat)) := by
  obtain ⟨h1, h2, h3, h4⟩ := h
  have hc := UInt8.toNat_lt c
  unfold SumInv
  rw [← List.append_assoc, sumAB_snoc, List.length_append, List.length_singleton]
  unfold sumStep
  simp only []
  have e : (r.length + 1) * (r.length + 1 + 1) = r.length * (r.length + 1) + 2 * (r.length + 1) := by
    rw [Nat.add_mul, Nat.mul_add r.length (r.length + 1) 1]; omega
  generalize r.length * (r.length + 1) = T at *
  omega
def lenOf : Value → Nat
  | .string t => t.size
  | _ => 0

end Go.Proofs.YtlcobgpgggegdaaGreatDoor

namespace Go.Proofs.YtlcobgpgggegdaaGreatDoor
open Go.RowKit M

abbrev hexDigits : ByteArray := ⟨#[48, 49, 50, 51, 52, 53, 54, 55, 56, 57, 97, 98, 99, 100, 101, 102]⟩
theorem ret_string {a b : ByteArray} (h : a = b) : Ending.returned (.string a) = .returned (.string b) := by rw [h]
theorem bytes_ext {a b : ByteArray} (h : a.data.toList = b.data.toList) : a = b := by
  cases a; cases b; simp_all [Array.toList_inj]
theorem str_app (s : ByteArray) (l : List UInt8) : s ++ (⟨l.toArray⟩ : ByteArray) = ⟨(s.data.toList ++ l).toArray⟩ := by
  apply bytes_ext
  rw [ByteArray.data_append, Array.toList_append]
theorem str_self (s : ByteArray) : (⟨s.data.toList.toArray⟩ : ByteArray) = s := bytes_ext (by simp)

end Go.Proofs.YtlcobgpgggegdaaGreatDoor

namespace Go.Proofs.YtlcobgpgggegdaaGreatDoor
open Go.RowKit M
attribute [local go_sem ↓] Go.wp_at_zero Go.wp_at_succ

/-- what both hand back -/
def openR : Option Text → Value
  | some x => .tuple #[str x, .int .i64 0]
  | none => .tuple #[str [], .int .i64 11]

theorem beq_yes {l : Text} {s : ByteArray} (h : l = s.data.toList) : (l == s.toList) = true := by rw [ByteArray.toList_eq, h]; simp
theorem beq_no {l : Text} {s : ByteArray} (h : l ≠ s.data.toList) : (l == s.toList) = false := by rw [ByteArray.toList_eq]; simpa using h

end Go.Proofs.YtlcobgpgggegdaaGreatDoor
