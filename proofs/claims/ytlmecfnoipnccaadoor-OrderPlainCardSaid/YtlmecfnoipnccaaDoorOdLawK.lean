/-
  OrderKinds and OrderPlain, walked: they answer true. Condition: the library's variables hold what their types allow.
-/
import Derived.Test.YtlmecfnoipnccaaDoorOdLive
namespace Go.Proofs.YtlmecfnoipnccaaDoor.Od
open Go.RowKit Bnd

set_option maxHeartbeats 4000000 in
set_option maxRecDepth 100000 in
theorem walk_kinds (k : Int) (w : World) (hg : Good w) : Calls Tryd.prog 6 #[.int .i64 k] w fun e w' => e = .returned (.bool true) ∧ Below w.heap.size w w' := by
  have c1 := fun w => reads_any k w
  have c2 := fun w => rreads_any k w
  have c3 := fun w => keyed_any k w
  have c4 := fun w => rkeyed_any k w
  obtain ⟨a, ha⟩ : ∃ a, readsK k = a := ⟨_, rfl⟩
  obtain ⟨b, hb⟩ : ∃ b, keyedK k = b := ⟨_, rfl⟩
  rw [ha] at c1 c2
  rw [hb] at c3 c4
  clear ha hb
  go_enter Tryd.func6, Tryd.ntmps6
  go_wp2_with fail
  refine (c1 _).mono ?_
  rintro e w' ⟨rfl, rfl⟩
  go_wp2_with fail
  refine (c2 _).mono ?_
  rintro e w' ⟨rfl, rfl⟩
  go_wp2_with fail
  refine (c3 _).mono ?_
  rintro e w' ⟨rfl, rfl⟩
  go_wp2_with fail
  refine (c4 _).mono ?_
  rintro e w' ⟨rfl, rfl⟩
  go_wp2_with fail
  refine (live_any _ hg).mono ?_
  rintro e w1 ⟨rfl, b1⟩
  go_wp2_with fail
  go_ret
  exact ⟨rfl, b1⟩

theorem plain_is {o : Ask} (h : sameA o Ask.zero = false) (h1 : sameA o (ownA o) = true) (h2 : fitsA o = true) : chkA o = if (seqB o.client && seqB o.seq) = true then 0 else 70 := by
  unfold chkA isA
  rw [h, h1, h2]
  simp
theorem same_no {a b : Ask} (h : a ≠ b) : sameA a b = false := by
  cases e : sameA a b with
  | false => rfl
  | true => exact absurd ((sameA_iff a b).1 e) h
theorem plain_no {o : Ask} (h : o ≠ Ask.zero) (h1 : o ≠ ownA o) : chkA o = 70 := chkA_own (same_no h) (same_no h1)

set_option maxHeartbeats 4000000 in
theorem plain_other (k c s i : Int) (w : World) (hg : Good w) (h6 : k ≠ 6) (h8 : k ≠ 8) (h12 : k ≠ 12) : Calls Tryd.prog 9 #[.int .i64 k, .int .i64 c, .int .i64 s, .int .i64 i] w fun e w' => e = .returned (.bool true) ∧ Below w.heap.size w w' := by
  have hlive := live_any w hg
  have g1 : (k != 6) = true := by simpa using h6
  have g2 : (k != 8) = true := by simpa using h8
  have g3 : (k != 12) = true := by simpa using h12
  clear h6 h8 h12
  go_enter Tryd.func9, Tryd.ntmps9
  go_wp2_with fail
  refine hlive.mono ?_
  rintro e w9 ⟨rfl, b9⟩
  go_wp2_with fail
  go_ret
  exact ⟨rfl, b9⟩
end Go.Proofs.YtlmecfnoipnccaaDoor.Od
