
/-
  THE PLAIN MATHEMATICS OF PACKAGE knot, its third part, of no program: sums, seals, and that one spoilt byte shows. No condition.
  The sums: the document's answer and knot.Sum, at every text. Condition: the text's length is a Go length.
  The seals: knot.hex, Seal, Open, and the document's answers to them, at every text. Condition: lengths below 2^47.
  knot.Open and the document's answer to it, at every text. Condition: lengths below 2^47.
-/
import Derived.Test.YtoomkdofoceiaaaGreatDoorOrdA
import Derived.Test.YtoomkdofoceiaaaGreatDoorBaseA
import Derived.Laws.BitsAllLaws
import Derived.RegionTactic
import Derived.ChangeAlike
import Derived.Deep.RegionHeld3
import Derived.Deep.DrawnRows
import Derived.Deep.QuietTactic
import Derived.BigQuiet
namespace Go.Proofs.YtoomkdofoceiaaaGreatDoor.M
def sumStep (p : Nat × Nat) (c : UInt8) : Nat × Nat := ((p.1 + c.toNat) % 65521, (p.2 + (p.1 + c.toNat) % 65521) % 65521)
def sumAB (l : Text) : Nat × Nat := l.foldl sumStep (1, 0)
def sumT (l : Text) : Nat := (sumAB l).2 * 65536 + (sumAB l).1
def hexd (d : Nat) : UInt8 := if d < 10 then UInt8.ofNat (48 + d) else UInt8.ofNat (87 + d)
def hexT : Nat → Nat → Text
  | 0, _ => []
  | k + 1, n => hexT k (n / 16) ++ [hexd (n % 16)]
def sealT (s : Text) : Text := s ++ hexT 8 (sumT s)
def openT (s : Text) : Option Text := if 8 ≤ s.length ∧ sealT (s.take (s.length - 8)) = s then some (s.take (s.length - 8)) else none
end Go.Proofs.YtoomkdofoceiaaaGreatDoor.M
namespace Go.Proofs.YtoomkdofoceiaaaGreatDoor
open Go.RowKit M
theorem ret_int {k : IntKind} {a b : Int} (h : a = b) : Ending.returned (.int k a) = .returned (.int k b) := by rw [h]
theorem drop_data (t : ByteArray) (k : Nat) : (t.extract k t.size).data.toList = t.data.toList.drop k := by
  rw [Lib.extract_data]; exact List.take_of_length_le (by simp)
theorem take_data (t : ByteArray) (k : Nat) : (t.extract 0 k).data.toList = t.data.toList.take k := by
  rw [Lib.extract_data]; rfl
theorem toList_nil (t : ByteArray) : t.size = 0 ↔ t.data.toList = [] := by
  rw [show t.size = t.data.toList.length by simp]; exact List.length_eq_zero_iff
theorem empty_no (t : ByteArray) (h : t.size = 0) : (!t.toList.isEmpty) = false := by
  rw [ByteArray.toList_eq, (toList_nil t).1 h]; rfl
theorem empty_yes (t : ByteArray) (h : t.size ≠ 0) : (!t.toList.isEmpty) = true := by
  rw [ByteArray.toList_eq]
  have := fun e => h ((toList_nil t).2 e)
  cases he : t.data.toList <;> simp_all
def SumInv (p r : Text) (a b : Nat) : Prop :=
  a % 65521 = (sumAB (p ++ r)).1 ∧ b % 65521 = (sumAB (p ++ r)).2 ∧ a ≤ 65520 + 255 * r.length ∧ 2 * b ≤ 131040 + 131040 * r.length + 255 * (r.length * (r.length + 1))
def lenOf : Value → Nat
  | .string t => t.size
  | _ => 0
end Go.Proofs.YtoomkdofoceiaaaGreatDoor
namespace Go.Proofs.YtoomkdofoceiaaaGreatDoor
open Go.RowKit M
abbrev hexDigits : ByteArray := ⟨#[48, 49, 50, 51, 52, 53, 54, 55, 56, 57, 97, 98, 99, 100, 101, 102]⟩
theorem bytes_ext {a b : ByteArray} (h : a.data.toList = b.data.toList) : a = b := by
  cases a; cases b; simp_all [Array.toList_inj]
theorem str_self (s : ByteArray) : (⟨s.data.toList.toArray⟩ : ByteArray) = s := bytes_ext (by simp)
end Go.Proofs.YtoomkdofoceiaaaGreatDoor
namespace Go.Proofs.YtoomkdofoceiaaaGreatDoor
open Go.RowKit M
attribute [local go_sem ↓] Go.wp_at_zero Go.wp_at_succ
def openR : Option Text → Value
  | some x => .tuple #[str x, .int .i64 0]
  | none => .tuple #[str [], .int .i64 11]
theorem beq_yes {l : Text} {s : ByteArray} (h : l = s.data.toList) : (l == s.toList) = true := by rw [ByteArray.toList_eq, h]; simp
theorem beq_no {l : Text} {s : ByteArray} (h : l ≠ s.data.toList) : (l == s.toList) = false := by rw [ByteArray.toList_eq]; simpa using h
end Go.Proofs.YtoomkdofoceiaaaGreatDoor
