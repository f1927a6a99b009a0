/-
  The law BoundMeta, walked: it answers true, at every argument. Condition: lengths at most 2^47.
-/
import Derived.Test.YtbjgpcfimpmjiaaBoxes
namespace Go.Proofs.Ytbjgpcfimpmjiaa
open Go.RowKit O

set_option maxHeartbeats 2000000 in
/-- The way on, with what Meta and Search answer. -/
theorem meta_main (n : Int) (k R F T : ByteArray) (w : World) (hk : k.size ≤ 140737488355328) (h : ¬ 2000 < k.size)
    (c1 : ∀ w, Calls Try.prog 34 #[.int .i64 n, .string k] w fun e w' => e = .returned (.string R) ∧ Below w.heap.size w w')
    (c2 : ∀ w, Calls Try.prog 35 #[.int .i64 n, .string k] w fun e w' => e = .returned (.string R) ∧ w = w')
    (c3 : ∀ w, Calls Try.prog 36 #[.int .i64 n, .string k] w fun e w' => e = .returned (bd F T) ∧ Below w.heap.size w w')
    (c4 : ∀ w, Calls Try.prog 37 #[.int .i64 n, .string k] w fun e w' => e = .returned (bd F T) ∧ Below w.heap.size w w') :
    Calls Try.prog 6 #[.int .i64 n, .string k] w fun e w' => e = .returned (.bool true) ∧ Below w.heap.size w w' := by
  have l1 := fun w => level_any k w hk
  have l2 := fun w => rlevel_any k w hk
  generalize levelT k.toList = L at *
  go_enter Try.func6, Try.ntmps6
  go_wp2_with fail
  refine (l1 _).mono ?_
  rintro e w' ⟨rfl, rfl⟩
  go_wp2_with fail
  refine (l2 _).mono ?_
  rintro e w' ⟨rfl, rfl⟩
  go_wp2_with fail
  refine (c1 _).mono ?_
  rintro e w1 ⟨rfl, b1⟩
  go_wp2_with fail
  refine (c2 _).mono ?_
  rintro e w' ⟨rfl, rfl⟩
  go_wp2_with fail
  refine (c3 _).mono ?_
  rintro e w2 ⟨rfl, b2'⟩
  have b2 := b1.trans (b2'.mono b1.size)
  go_wp2_with fail
  refine (c4 _).mono ?_
  rintro e w3 ⟨rfl, b3'⟩
  have b3 := b2.trans (b3'.mono b2.size)
  go_wp2_with fail
  refine (live_any _).mono ?_
  rintro e w4 ⟨rfl, b4'⟩
  have b4 := b3.trans (b4'.mono b3.size)
  go_wp2_with fail
  go_ret
  exact ⟨rfl, b4⟩

set_option maxHeartbeats 2000000 in
theorem walk_meta (n : Int) (k : ByteArray) (w : World) (hk : k.size ≤ 140737488355328) :
    Calls Try.prog 6 #[.int .i64 n, .string k] w fun e w' => e = .returned (.bool true) ∧ Below w.heap.size w w' := by
  by_cases h : 2000 < k.size
  · go_enter Try.func6, Try.ntmps6
    go_wp2_with fail
    refine (live_any _).mono ?_
    rintro e w1 ⟨rfl, b1⟩
    go_wp2_with fail
    go_ret
    exact ⟨rfl, b1⟩
  · by_cases h1 : n = 1
    · subst h1
      exact meta_main 1 k _ _ _ w hk h (fun w => meta1 k w (by omega)) (fun w => rmeta1 k w (by omega)) (fun w => search1 k w (by omega)) (fun w => rsearch1 k w (by omega))
    · by_cases h2 : n = 2
      · subst h2
        exact meta_main 2 k _ _ _ w hk h (fun w => meta2 k w (by omega)) (fun w => rmeta2 k w (by omega)) (fun w => search2 k w (by omega)) (fun w => rsearch2 k w (by omega))
      · exact meta_main n k _ _ _ w hk h (fun w => meta_no n h1 h2 k w) (fun w => rmeta_no n h1 h2 k w) (fun w => search_no n h1 h2 k w) (fun w => rsearch_no n h1 h2 k w)

end Go.Proofs.Ytbjgpcfimpmjiaa
