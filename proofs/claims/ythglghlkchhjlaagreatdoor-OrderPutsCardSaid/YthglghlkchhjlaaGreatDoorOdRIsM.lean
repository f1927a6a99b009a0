/-
  The document's own word on whether an order may be. Conditions: lengths at most 2^47.
-/
import Derived.Test.YthglghlkchhjlaaGreatDoorOdCheck
import Derived.Test.YthglghlkchhjlaaGreatDoorDsRPar
import Derived.Test.YthglghlkchhjlaaGreatDoorBndLevel
namespace Go.Proofs.YthglghlkchhjlaaGreatDoor.Od
open Go.RowKit Bnd
open Go.Proofs.YthglghlkchhjlaaGreatDoor.O (Bd isB keyB)
open Go.Proofs.YthglghlkchhjlaaGreatDoor.Bnd (levelT)

/-- what is left of an order when the fields that have a part are taken away -/
def restA (o : Ask) : Ask :=
  ⟨0, 0, 0, if keyedK o.kind = true then E0 else o.key, if o.kind = 5 then E0 else o.til,
    if o.kind = 2 ∨ o.kind = 9 ∨ o.kind = 4 ∨ o.kind = 13 then E0 else o.val, if o.kind = 4 then E0 else o.old, if o.kind = 4 then false else o.has,
    if o.kind = 5 ∨ o.kind = 13 then 0 else o.lim, if o.kind = 7 ∨ o.kind = 11 then 0 else o.id, if o.kind = 10 then 0 else o.node⟩
theorem rest_own (o : Ask) : sameA (restA o) Ask.zero = sameA o (ownA o) := by
  rw [Bool.eq_iff_iff]
  unfold sameA restA ownA
  simp only [decide_eq_true_eq]
  have h : ∀ (c : Prop) [Decidable c] (x y : ByteArray), ((if c then y else x) = y) = (x = if c then x else y) := by intro c _ x y; by_cases h : c <;> simp [h]
  have hi : ∀ (c : Prop) [Decidable c] (x y : Int), ((if c then y else x) = y) = (x = if c then x else y) := by intro c _ x y; by_cases h : c <;> simp [h]
  have hb : ∀ (c : Prop) [Decidable c] (x y : Bool), ((if c then y else x) = y) = (x = if c then x else y) := by intro c _ x y; by_cases h : c <;> simp [h]
  simp only [h, hi, hb, true_and]
theorem isA_no {o : Ask} (h : o.kind ≠ 0) : isA o = (sameA (restA o) Ask.zero && (seqB o.client && seqB o.seq) && fitsA o) := by
  have : sameA o Ask.zero = false := by unfold sameA; simp [h]
  unfold isA
  rw [this, rest_own]
  simp [Bool.and_assoc]
theorem isA_none {o : Ask} (h : o.kind = 0) : isA o = (sameA (restA o) Ask.zero && (decide (o.client = 0) && decide (o.seq = 0))) := by
  have e : sameA o Ask.zero = (decide (o.client = 0) && decide (o.seq = 0) && sameA (restA o) Ask.zero) := by
    rw [Bool.eq_iff_iff]
    unfold sameA restA
    obtain ⟨kind, client, seq, key, til, val, old, has, lim, id, node⟩ := o
    simp only at h
    subst h
    have k : keyedK 0 = false := rfl
    simp [k, and_assoc]
  rw [Bool.and_comm]
  unfold isA
  rw [e]
  cases hh : keyB o.key.toList <;> simp [fitsA, fitsKeyA, h, hh]
theorem among_two (n a b : Int) : amongB n a b = (decide (a ≤ n) && decide (n ≤ b)) := by
  unfold amongB
  rw [Bool.eq_iff_iff]
  simp
theorem level_range (k : List UInt8) : levelT k = 0 ∨ levelT k = 1 ∨ levelT k = 2 ∨ levelT k = 3 := by
  cases k with
  | nil => right; right; right; rfl
  | cons c l =>
    have e : levelT (c :: l) = if c.toNat = 0 then 3 else if c.toNat ≤ 2 then (c.toNat : Int) else 0 := rfl
    rw [e]
    split
    · omega
    · split <;> omega

end Go.Proofs.YthglghlkchhjlaaGreatDoor.Od
