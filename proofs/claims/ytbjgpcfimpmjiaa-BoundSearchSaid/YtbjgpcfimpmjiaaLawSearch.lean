/-
  The law BoundSearch, walked: it answers true, at every argument. Condition: lengths at most 2^47.
-/
import Derived.Test.YtbjgpcfimpmjiaaBoxes
namespace Go.Proofs.Ytbjgpcfimpmjiaa
open Go.RowKit O

/-- The last test: the program's answer, and the order's. -/
def LastTest (k t : ByteArray) (H : Bool) : Prop :=
  (t = ⟨#[]⟩ ∧ H = true) ∨ (t.toList.isEmpty = false ∧ H = true ∧ Op.bytesLess t.toList k.toList = false ∧ (t.toList == k.toList) = false) ∨
  (t.toList.isEmpty = false ∧ H = false ∧ Op.bytesLess t.toList k.toList = true) ∨ (t.toList.isEmpty = false ∧ H = false ∧ Op.bytesLess t.toList k.toList = false ∧ (t.toList == k.toList) = true)
theorem lastTest (k t : ByteArray) : LastTest k t (decide (t.toList = []) || lt k.toList t.toList) := by
  by_cases h : t.toList = []
  · exact .inl ⟨empty_of h, by simp [h]⟩
  · have n := isEmpty_no h
    simp only [h, decide_false, Bool.false_or]
    rcases lt_tri k.toList t.toList with h1 | h1 | h1
    · exact .inr (.inl ⟨n, h1, lt_asymm h1, by simp only [beq_eq_false_iff_ne]; intro e; rw [e, lt_irrefl] at h1; cases h1⟩)
    · exact .inr (.inr (.inr ⟨n, by rw [h1, lt_irrefl], by rw [h1]; exact lt_irrefl _, by simp [h1]⟩))
    · exact .inr (.inr (.inl ⟨n, lt_asymm h1, h1⟩))
theorem search_level (c : UInt8) (hc : c = 1 ∨ c = 2) (t : Text) : levelT (metaT c t) = (c.toNat : Int) := by
  rcases hc with rfl | rfl <;> rfl
theorem metaT_le (c : UInt8) (t : ByteArray) (h : t.size ≤ 30) : (metaT c t.toList).length ≤ 32 := by
  unfold metaT
  split
  · simp
  · simp [size_toList]; omega

set_option maxHeartbeats 4000000 in
theorem search_main1 (k t : ByteArray) (w : World) (h1 : ¬ 30 < k.size) (h2 : ¬ 30 < t.size) (h3 : ¬ k.toList = []) :
    Calls Try.prog 9 #[.int .i64 1, .string k, .string t] w fun e w' => e = .returned (.bool true) ∧ Below w.heap.size w w' := by
  have hk := search_ok 1 k.toList t.toList (by decide) h3 (by rw [size_toList]; omega) (by rw [size_toList]; omega)
  obtain ⟨q1, q2, q3⟩ := hk
  have hT := lastTest k t
  rw [← q3] at hT
  obtain ⟨F, hF⟩ : ∃ F, ba (searchB 1 k.toList).f = F := ⟨_, rfl⟩
  obtain ⟨T, hTT⟩ : ∃ T, ba (searchB 1 k.toList).t = T := ⟨_, rfl⟩
  obtain ⟨M, hM⟩ : ∃ M, ba (metaT 1 t.toList) = M := ⟨_, rfl⟩
  have eF : F.toList = (searchB 1 k.toList).f := by rw [← hF]; exact ba_toList _
  have eT : T.toList = (searchB 1 k.toList).t := by rw [← hTT]; exact ba_toList _
  have eM : M.toList = metaT 1 t.toList := by rw [← hM]; exact ba_toList _
  have eB : B F T = searchB 1 k.toList := by show Bd.mk F.toList T.toList = _; rw [eF, eT]
  have sM : M.size ≤ 32 := by rw [← size_toList, eM]; exact metaT_le 1 t (by omega)
  have hB := (isB_iff _).1 q1
  have sF : F.size ≤ 33 := by rw [← size_toList, eF]; exact hB.1
  have sT : T.size ≤ 33 := by rw [← size_toList, eT]; exact hB.2.1
  have c1 := fun w => search1 k w (by omega)
  rw [hF, hTT] at c1
  have c2 := fun w => meta1 t w (by omega)
  rw [hM] at c2
  have c3 := fun w => check_yes F T w (by omega) (by omega) (by rw [eB]; exact q1)
  have c4 := fun w => key_any M w (by omega)
  rw [show keyE M.toList = 0 by unfold keyE; rw [eM, if_pos q2]] at c4
  have c5 := fun w => level_any M w (by omega)
  rw [show levelT M.toList = 1 by rw [eM, search_level 1 (by decide)]; rfl] at c5
  have c6 := fun w => has_any F T M w
  rw [eB, eM] at c6
  have n3 := isEmpty_no h3
  generalize hasB (searchB 1 k.toList) (metaT 1 t.toList) = H at *
  clear q1 q2 q3 hF hTT hM eF eT eM eB hB h3
  rcases hT with ⟨rfl, rfl⟩ | ⟨a1, rfl, a2, a3⟩ | ⟨a1, rfl, a2⟩ | ⟨a1, rfl, a2, a3⟩
  all_goals
    go_enter Try.func9, Try.ntmps9
    go_wp2_with fail
    refine (c1 _).mono ?_
    rintro e w1 ⟨rfl, b1⟩
    have X1 := Box.new w1 F T
    have O1 := (show Old w w1 from b1).alloc (.cells #[.string F, .string T] 23)
    go_wp2_with fail
    refine (c2 _).mono ?_
    rintro e w2 ⟨rfl, b2⟩
    have X2 := X1.keep b2
    have O2 := O1.keep b2
    clear X1 O1 b1 b2
    obtain ⟨_, e0, e1⟩ := id X2
    go_wp2_with fail
    refine (c3 _).mono ?_
    rintro e w3 ⟨rfl, b3⟩
    have X3 := X2.keep b3
    have O3 := O2.keep b3
    clear X2 O2 b3 e0 e1
    go_wp2_with fail
    refine (num_any _ _).mono ?_
    rintro e w' ⟨rfl, rfl⟩
    go_wp2_with fail
    refine (c4 _).mono ?_
    rintro e w' ⟨rfl, rfl⟩
    go_wp2_with fail
    refine (num_any _ _).mono ?_
    rintro e w' ⟨rfl, rfl⟩
    go_wp2_with fail
    refine (c5 _).mono ?_
    rintro e w' ⟨rfl, rfl⟩
    obtain ⟨_, e0, e1⟩ := id X3
    go_wp2_with fail
    refine (c6 _).mono ?_
    rintro e w4 ⟨rfl, b4⟩
    have O4 := O3.keep b4
    go_wp2_with fail
    refine (live_any _).mono ?_
    rintro e w5 ⟨rfl, b5⟩
    have O5 := O4.keep b5
    go_wp2_with fail
    go_ret
    exact ⟨rfl, O5⟩

set_option maxHeartbeats 4000000 in
theorem search_main2 (k t : ByteArray) (w : World) (h1 : ¬ 30 < k.size) (h2 : ¬ 30 < t.size) (h3 : ¬ k.toList = []) :
    Calls Try.prog 9 #[.int .i64 2, .string k, .string t] w fun e w' => e = .returned (.bool true) ∧ Below w.heap.size w w' := by
  have hk := search_ok 2 k.toList t.toList (by decide) h3 (by rw [size_toList]; omega) (by rw [size_toList]; omega)
  obtain ⟨q1, q2, q3⟩ := hk
  have hT := lastTest k t
  rw [← q3] at hT
  obtain ⟨F, hF⟩ : ∃ F, ba (searchB 2 k.toList).f = F := ⟨_, rfl⟩
  obtain ⟨T, hTT⟩ : ∃ T, ba (searchB 2 k.toList).t = T := ⟨_, rfl⟩
  obtain ⟨M, hM⟩ : ∃ M, ba (metaT 2 t.toList) = M := ⟨_, rfl⟩
  have eF : F.toList = (searchB 2 k.toList).f := by rw [← hF]; exact ba_toList _
  have eT : T.toList = (searchB 2 k.toList).t := by rw [← hTT]; exact ba_toList _
  have eM : M.toList = metaT 2 t.toList := by rw [← hM]; exact ba_toList _
  have eB : B F T = searchB 2 k.toList := by show Bd.mk F.toList T.toList = _; rw [eF, eT]
  have sM : M.size ≤ 32 := by rw [← size_toList, eM]; exact metaT_le 2 t (by omega)
  have hB := (isB_iff _).1 q1
  have sF : F.size ≤ 33 := by rw [← size_toList, eF]; exact hB.1
  have sT : T.size ≤ 33 := by rw [← size_toList, eT]; exact hB.2.1
  have c1 := fun w => search2 k w (by omega)
  rw [hF, hTT] at c1
  have c2 := fun w => meta2 t w (by omega)
  rw [hM] at c2
  have c3 := fun w => check_yes F T w (by omega) (by omega) (by rw [eB]; exact q1)
  have c4 := fun w => key_any M w (by omega)
  rw [show keyE M.toList = 0 by unfold keyE; rw [eM, if_pos q2]] at c4
  have c5 := fun w => level_any M w (by omega)
  rw [show levelT M.toList = 2 by rw [eM, search_level 2 (by decide)]; rfl] at c5
  have c6 := fun w => has_any F T M w
  rw [eB, eM] at c6
  have n3 := isEmpty_no h3
  generalize hasB (searchB 2 k.toList) (metaT 2 t.toList) = H at *
  clear q1 q2 q3 hF hTT hM eF eT eM eB hB h3
  rcases hT with ⟨rfl, rfl⟩ | ⟨a1, rfl, a2, a3⟩ | ⟨a1, rfl, a2⟩ | ⟨a1, rfl, a2, a3⟩
  all_goals
    go_enter Try.func9, Try.ntmps9
    go_wp2_with fail
    refine (c1 _).mono ?_
    rintro e w1 ⟨rfl, b1⟩
    have X1 := Box.new w1 F T
    have O1 := (show Old w w1 from b1).alloc (.cells #[.string F, .string T] 23)
    go_wp2_with fail
    refine (c2 _).mono ?_
    rintro e w2 ⟨rfl, b2⟩
    have X2 := X1.keep b2
    have O2 := O1.keep b2
    clear X1 O1 b1 b2
    obtain ⟨_, e0, e1⟩ := id X2
    go_wp2_with fail
    refine (c3 _).mono ?_
    rintro e w3 ⟨rfl, b3⟩
    have X3 := X2.keep b3
    have O3 := O2.keep b3
    clear X2 O2 b3 e0 e1
    go_wp2_with fail
    refine (num_any _ _).mono ?_
    rintro e w' ⟨rfl, rfl⟩
    go_wp2_with fail
    refine (c4 _).mono ?_
    rintro e w' ⟨rfl, rfl⟩
    go_wp2_with fail
    refine (num_any _ _).mono ?_
    rintro e w' ⟨rfl, rfl⟩
    go_wp2_with fail
    refine (c5 _).mono ?_
    rintro e w' ⟨rfl, rfl⟩
    obtain ⟨_, e0, e1⟩ := id X3
    go_wp2_with fail
    refine (c6 _).mono ?_
    rintro e w4 ⟨rfl, b4⟩
    have O4 := O3.keep b4
    go_wp2_with fail
    refine (live_any _).mono ?_
    rintro e w5 ⟨rfl, b5⟩
    have O5 := O4.keep b5
    go_wp2_with fail
    go_ret
    exact ⟨rfl, O5⟩

set_option maxHeartbeats 4000000 in
theorem walk_search (n : Int) (k t : ByteArray) (w : World) (hk : k.size ≤ 140737488355328) (ht : t.size ≤ 140737488355328) :
    Calls Try.prog 9 #[.int .i64 n, .string k, .string t] w fun e w' => e = .returned (.bool true) ∧ Below w.heap.size w w' := by
  by_cases g1 : n = 1
  · subst g1
    by_cases h1 : 30 < k.size
    · go_enter Try.func9, Try.ntmps9
      go_wp2_with fail
      refine (live_any _).mono ?_
      rintro e w1 ⟨rfl, b1⟩
      go_wp2_with fail
      go_ret
      exact ⟨rfl, b1⟩
    · by_cases h2 : 30 < t.size
      · go_enter Try.func9, Try.ntmps9
        go_wp2_with fail
        refine (live_any _).mono ?_
        rintro e w1 ⟨rfl, b1⟩
        go_wp2_with fail
        go_ret
        exact ⟨rfl, b1⟩
      · by_cases h3 : k.toList = []
        · obtain rfl := empty_of h3
          clear h3
          go_enter Try.func9, Try.ntmps9
          go_wp2_with fail
          refine (live_any _).mono ?_
          rintro e w1 ⟨rfl, b1⟩
          go_wp2_with fail
          go_ret
          exact ⟨rfl, b1⟩
        · exact search_main1 k t w h1 h2 h3
  · by_cases g2 : n = 2
    · subst g2
      clear g1
      by_cases h1 : 30 < k.size
      · go_enter Try.func9, Try.ntmps9
        go_wp2_with fail
        refine (live_any _).mono ?_
        rintro e w1 ⟨rfl, b1⟩
        go_wp2_with fail
        go_ret
        exact ⟨rfl, b1⟩
      · by_cases h2 : 30 < t.size
        · go_enter Try.func9, Try.ntmps9
          go_wp2_with fail
          refine (live_any _).mono ?_
          rintro e w1 ⟨rfl, b1⟩
          go_wp2_with fail
          go_ret
          exact ⟨rfl, b1⟩
        · by_cases h3 : k.toList = []
          · obtain rfl := empty_of h3
            clear h3
            go_enter Try.func9, Try.ntmps9
            go_wp2_with fail
            refine (live_any _).mono ?_
            rintro e w1 ⟨rfl, b1⟩
            go_wp2_with fail
            go_ret
            exact ⟨rfl, b1⟩
          · exact search_main2 k t w h1 h2 h3
    · have n1 : (n == 1) = false := by simpa using g1
      have n2 : (n == 2) = false := by simpa using g2
      have m1 : (n != 1) = true := by simpa using g1
      have m2 : (n != 2) = true := by simpa using g2
      clear g1 g2
      go_enter Try.func9, Try.ntmps9
      go_wp2_with fail
      refine (live_any _).mono ?_
      rintro e w1 ⟨rfl, b1⟩
      go_wp2_with fail
      go_ret
      exact ⟨rfl, b1⟩

end Go.Proofs.Ytbjgpcfimpmjiaa
