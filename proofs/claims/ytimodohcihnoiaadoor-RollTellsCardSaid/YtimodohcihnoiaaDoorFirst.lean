/-
  knot.First at every text. Condition: lengths below 2^47; the library's variables hold what their types allow.
-/
import Derived.Test.YtimodohcihnoiaaDoorInt
import Derived.Test.YtimodohcihnoiaaDoorMath2
import Derived.Lib.IndexMore
namespace Go.Proofs.YtimodohcihnoiaaDoor
open Go.RowKit M
attribute [local go_sem ↓] Go.wp_at_zero Go.wp_at_succ

theorem index_colon : ∀ (p q : Text), (58 : UInt8) ∉ p → Lib.index (p ++ 58 :: q) [58] = (p.length : Int)
  | [], q, _ => by simp [Lib.index, List.isPrefixOf]
  | c :: p, q, h => by
    have hc : c ≠ 58 := fun e => h (by simp [e])
    have ih := index_colon p q (fun m => h (by simp [m]))
    simp only [List.cons_append, Lib.index]
    rw [if_neg (by simp [List.isPrefixOf]; exact fun e => hc e.symm), ih, if_neg (by simp)]
    rfl
theorem index_no_colon : ∀ (l : Text), (58 : UInt8) ∉ l → Lib.index l [58] = -1
  | [], _ => rfl
  | c :: l, h => by
    have hc : c ≠ 58 := fun e => h (by simp [e])
    have ih := index_no_colon l (fun m => h (by simp [m]))
    simp only [Lib.index]
    rw [if_neg (by simp [List.isPrefixOf]; exact fun e => hc e.symm), ih]
    rfl
theorem cut_colon (p q : Text) (h : (58 : UInt8) ∉ p) : Lib.cut (p ++ 58 :: q) [58] = (p, q, true) := by
  unfold Lib.cut
  rw [index_colon p q h, if_pos (by omega)]
  simp
theorem cut_no_colon (l : Text) (h : (58 : UInt8) ∉ l) : Lib.cut l [58] = (l, [], false) := by
  unfold Lib.cut
  rw [index_no_colon l h, if_neg (by omega)]
theorem has_colon : ∀ (l : Text), (58 : UInt8) ∈ l → ∃ p q, l = p ++ 58 :: q ∧ (58 : UInt8) ∉ p
  | [], h => by cases h
  | c :: l, h => by
    by_cases hc : c = 58
    · exact ⟨[], l, by rw [hc]; rfl, by simp⟩
    · obtain ⟨p, q, e, hp⟩ := has_colon l (by simpa [Ne.symm hc] using h)
      exact ⟨c :: p, q, by rw [e]; rfl, by simp [hp, Ne.symm hc]⟩

theorem str_of {x : ByteArray} {l : Text} (h : x.data.toList = l) : str l = .string x := by
  rw [← h]

theorem below_of_drewN {B n : Nat} {w w1 : World} (h : Below B (w.drewN n) w1) : Below B w w1 := ⟨h.os, h.tape, h.output, h.size, h.block⟩

/-- what both hand back -/
def firstR (s : ByteArray) : Option (Text × Text) → Value
  | some (x, r) => .tuple #[str x, str r, .int .i64 0]
  | none => .tuple #[str [], .string s, .int .i64 10]

end Go.Proofs.YtimodohcihnoiaaDoor
