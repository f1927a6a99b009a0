/-
  OrderBack, walked: there and back; unlike orders have unlike texts; cut off, a text is none. Conditions: lengths at most 2^47; numbers such as a program can hold; the library's variables hold what their types allow.
-/
import Derived.Test.YticikmkehobblaaDoorOdLive
namespace Go.Proofs.YticikmkehobblaaDoor.Od
open Go.RowKit Bnd

/-- an order that comes in -/
structure LimA (o : Ask) : Prop where
  r : InA o
  key : o.key.size ≤ 140737488355328
  til : o.til.size ≤ 140737488355328
  val : o.val.size ≤ 140737488355328
  old : o.old.size ≤ 140737488355328
theorem LimA.fit {o : Ask} (h : LimA o) (hs : smallA o = true) : FitA o := by
  unfold smallA at hs
  simp only [decide_eq_true_eq] at hs
  exact ⟨h.r, by omega, by omega, by omega, by omega⟩
theorem put_short {o : Ask} (h : FitA o) (hs : smallA o = true) : (putA o).length ≤ 200000 := by
  have := putA_length h
  unfold smallA at hs
  simp only [decide_eq_true_eq] at hs
  omega
theorem same_self (a : Ask) : sameA a a = true := (sameA_iff a a).2 rfl
theorem same_no' {a b : Ask} (h : a ≠ b) : sameA a b = false := by
  cases e : sameA a b with
  | false => rfl
  | true => exact absurd ((sameA_iff a b).1 e) h
theorem take_text {o : Ask} {S : ByteArray} (hS : S.data.toList = putA o) (k : Nat) : (S.extract 0 k).data.toList = (putA o).take k := by
  rw [← hS]; simp

end Go.Proofs.YticikmkehobblaaDoor.Od

