/-
  The law LedgerPlays at every room. Conditions: the form's own reach; the library's variables hold what their types allow.
-/
import Derived.Test.YtglkapamkigdhaaGreatDoorLawPlays
namespace Go.Proofs.YtglkapamkigdhaaGreatDoor.Rl
open Go.RowKit

set_option maxHeartbeats 4000000 in
set_option maxRecDepth 100000 in
theorem plays_far (x : Int) (v : Value) (xs : List Act) (w : World) (hv : SA w w.heap.size v xs) (hl : xs.length ≤ 140737488355328) (ha : ∀ a ∈ xs, a.ok) (hx : x < 0 ∨ 100000 < x) (hg : Good w) :
    Calls Tryz.prog 3 #[.int .i64 x, v] w fun e w' => e = .returned (.bool true) ∧ Below w.heap.size w w' := by
  have cs := c_small v xs w hv hl (fun a h => (ha a h).s)
  obtain ⟨A, c, rfl⟩ := hv.form
  have cl := live_any w hg
  rcases hx with hx | hx
  · go_enter Tryz.func3, Tryz.ntmps3
    go_wp2_with fail
    refine cs.mono ?_
    rintro e w' ⟨q, rfl, rfl, _⟩
    cases q with
    | false =>
      go_wp2_with fail
      refine cl.mono ?_
      rintro e w1 ⟨rfl, b1⟩
      go_wp2_with fail
      go_ret
      exact ⟨rfl, b1⟩
    | true =>
      go_wp2_with fail
      refine cl.mono ?_
      rintro e w1 ⟨rfl, b1⟩
      go_wp2_with fail
      go_ret
      exact ⟨rfl, b1⟩
  · have hx0 : ¬ x < 0 := by omega
    go_enter Tryz.func3, Tryz.ntmps3
    go_wp2_with fail
    refine cs.mono ?_
    rintro e w' ⟨q, rfl, rfl, _⟩
    cases q with
    | false =>
      go_wp2_with fail
      refine cl.mono ?_
      rintro e w1 ⟨rfl, b1⟩
      go_wp2_with fail
      go_ret
      exact ⟨rfl, b1⟩
    | true =>
      go_wp2_with fail
      refine cl.mono ?_
      rintro e w1 ⟨rfl, b1⟩
      go_wp2_with fail
      go_ret
      exact ⟨rfl, b1⟩

theorem walk_plays (x : Int) (v : Value) (xs : List Act) (w : World) (hv : SA w w.heap.size v xs) (hl : xs.length ≤ 140737488355328) (ha : ∀ a ∈ xs, a.ok) (hg : Good w) :
    Calls Tryz.prog 3 #[.int .i64 x, v] w fun e w' => e = .returned (.bool true) ∧ Below w.heap.size w w' := by
  by_cases h : x < 0 ∨ 100000 < x
  · exact plays_far x v xs w hv hl ha h hg
  · obtain ⟨r, rfl⟩ : ∃ r : Nat, x = r := ⟨x.toNat, by omega⟩
    exact plays_u r v xs w hv hl ha (by omega) hg

end Go.Proofs.YtglkapamkigdhaaGreatDoor.Rl
