/-
  The document's own word on whether an order may be: all kinds. Conditions: lengths at most 2^47.
-/
import Derived.Test.YthglghlkchhjlaaGreatDoorOdRI1
import Derived.Test.YthglghlkchhjlaaGreatDoorOdRI2
namespace Go.Proofs.YthglghlkchhjlaaGreatDoor.Od
open Go.RowKit Bnd
open Go.Proofs.YthglghlkchhjlaaGreatDoor.O (Bd isB keyB)
open Go.Proofs.YthglghlkchhjlaaGreatDoor.Bnd (levelT)

theorem ris_any (o : Ask) (w : World) (hk : o.key.size ≤ 140737488355328) (ht : o.til.size ≤ 140737488355328) (hv : o.val.size ≤ 140737488355328) : Calls Tryz.prog 11 #[av o] w fun e w' => e = .returned (.bool (isA o)) ∧ Below w.heap.size w w' := by
  obtain ⟨kind, client, seq, key, til, val, old, has, lim, id, node⟩ := o
  by_cases hr : kind < 0 ∨ 13 < kind
  · exact ris_o kind client seq key til val old has lim id node w hr
  have hc : kind = 0 ∨ kind = 1 ∨ kind = 2 ∨ kind = 3 ∨ kind = 4 ∨ kind = 5 ∨ kind = 6 ∨ kind = 7 ∨ kind = 8 ∨ kind = 9 ∨ kind = 10 ∨ kind = 11 ∨ kind = 12 ∨ kind = 13 := by omega
  rcases hc with rfl | rfl | rfl | rfl | rfl | rfl | rfl | rfl | rfl | rfl | rfl | rfl | rfl | rfl
  · exact ris_0 client seq key til val old has lim id node w
  · exact ris_1 client seq key til val old has lim id node w hk
  · exact ris_2 client seq key til val old has lim id node w hk
  · exact ris_3 client seq key til val old has lim id node w hk
  · exact ris_4 client seq key til val old has lim id node w hk
  · exact ris_5 client seq key til val old has lim id node w hk ht
  · exact ris_6 client seq key til val old has lim id node w
  · exact ris_7 client seq key til val old has lim id node w hk
  · exact ris_8 client seq key til val old has lim id node w hk
  · exact ris_9 client seq key til val old has lim id node w hk
  · exact ris_10 client seq key til val old has lim id node w hk
  · exact ris_11 client seq key til val old has lim id node w hk
  · exact ris_12 client seq key til val old has lim id node w hk
  · exact ris_13 client seq key til val old has lim id node w hv
end Go.Proofs.YthglghlkchhjlaaGreatDoor.Od
