/-
  The laws KnotNums, KnotUnties and KnotSeals, walked: each answers true, at every argument. Condition: lengths below 2^47; the library's variables hold what their types allow.
-/
import Derived.Test.YtcodknfffmadfaaDoorLive
import Derived.Test.YtcodknfffmadfaaDoorRInt
namespace Go.Proofs.YtcodknfffmadfaaDoor
open Go.RowKit M

theorem int_numT (n : Int) (w : World) (hn : inR n) (hg : Good w) :
    Calls Tryd.prog 12 #[.string ⟨(numT n).toArray⟩] w fun e w' => e = .returned (.tuple #[.int .i64 n, .int .i64 0]) ∧ Below w.heap.size w w' := by
  have h := int_any ⟨(numT n).toArray⟩ w (by have := numT_length hn; show (numT n).length ≤ _; omega) hg
  rw [show (⟨(numT n).toArray⟩ : ByteArray).data.toList = numT n from rfl, intT_some hn rfl] at h
  exact h

set_option maxHeartbeats 2000000 in
set_option maxRecDepth 100000 in
theorem walk_nums (n : Int) (s : ByteArray) (w : World) (hn : inR n) (hs : s.size ≤ 140737488355328) (hg : Good w) :
    Calls Tryd.prog 3 #[.int .i64 n, .string s] w fun e w' => e = .returned (.bool true) ∧ Below w.heap.size w w' := by
  by_cases hbig : 20000 < s.size
  · have hi : (20000 : Int) < (s.size : Int) := by omega
    have hl := live_any w hg
    go_enter Tryd.func3, Tryd.ntmps3
    go_wp2_with fail
    refine hl.mono ?_
    rintro e w1 ⟨rfl, b1⟩
    go_wp2_with fail
    go_ret
    exact ⟨rfl, b1⟩
  · have hi : ¬ (20000 : Int) < (s.size : Int) := by omega
    cases hres : intT s.data.toList
    all_goals
      have c1 := int_any s w hs hg
      have c2 := fun w => rint_any s w hs
      rw [hres] at c1
      simp only [hres] at c2
      unfold intR at c1 c2
      clear hres
      go_enter Tryd.func3, Tryd.ntmps3
      go_wp2_with fail
      refine c1.mono ?_
      rintro e w1 ⟨rfl, b1⟩
      have g1 := hg.below b1
      go_wp2_with fail
      refine (c2 _).mono ?_
      rintro e w' ⟨rfl, rfl⟩
      go_wp2_with fail
      refine (num_any n _ hn).mono ?_
      rintro e w2 ⟨rfl, b2'⟩
      have g2 := g1.below b2'
      have b2 := b1.trans (b2'.mono b1.size)
      go_wp2_with fail
      refine (int_numT n _ hn g2).mono ?_
      rintro e w3 ⟨rfl, b3'⟩
      have g3 := g2.below b3'
      have b3 := b2.trans (b3'.mono b2.size)
      go_wp2_with fail
      refine (num_any n _ hn).mono ?_
      rintro e w4 ⟨rfl, b4'⟩
      have g4 := g3.below b4'
      have b4 := b3.trans (b4'.mono b3.size)
      go_wp2_with fail
      refine (rnum_any n _ hn).mono ?_
      rintro e w' ⟨rfl, rfl⟩
      go_wp2_with fail
      refine (num_of _ _).mono ?_
      rintro e w' ⟨rfl, rfl⟩
      go_wp2_with fail
      refine (num_of _ _).mono ?_
      rintro e w' ⟨rfl, rfl⟩
      go_wp2_with fail
      refine (live_any _ g4).mono ?_
      rintro e w5 ⟨rfl, b5'⟩
      have b5 := b4.trans (b5'.mono b4.size)
      go_wp2_with fail
      go_ret
      exact ⟨rfl, b5⟩

set_option maxHeartbeats 2000000 in
set_option maxRecDepth 100000 in
theorem walk_seals (s : ByteArray) (w : World) (hs : s.size ≤ 140737488355328) (hg : Good w) :
    Calls Tryd.prog 6 #[.string s] w fun e w' => e = .returned (.bool true) ∧ Below w.heap.size w w' := by
  by_cases hbig : 20000 < s.size
  · have hi : (20000 : Int) < (s.size : Int) := by omega
    have hl := live_any w hg
    go_enter Tryd.func6, Tryd.ntmps6
    go_wp2_with fail
    refine hl.mono ?_
    rintro e w1 ⟨rfl, b1⟩
    go_wp2_with fail
    go_ret
    exact ⟨rfl, b1⟩
  · have hi : ¬ (20000 : Int) < (s.size : Int) := by omega
    have g0 := hg
    cases hres : openT s.data.toList
    all_goals
      have c1 := fun w => open_any s w hs
      have c2 := fun w => ropen_any s w hs
      simp only [hres] at c1 c2
      unfold openR at c1 c2
      clear hres
      go_enter Tryd.func6, Tryd.ntmps6
      go_wp2_with fail
      refine (c1 _).mono ?_
      rintro e w1 ⟨rfl, b1⟩
      have g1 := g0.below b1
      go_wp2_with fail
      refine (c2 _).mono ?_
      rintro e w' ⟨rfl, rfl⟩
      go_wp2_with fail
      refine (sum_any s _ (by omega)).mono ?_
      rintro e w' ⟨rfl, rfl⟩
      go_wp2_with fail
      refine (rsum_any s _ (by omega)).mono ?_
      rintro e w' ⟨rfl, rfl⟩
      go_wp2_with fail
      refine (seal_any s _ hs).mono ?_
      rintro e w2 ⟨rfl, b2'⟩
      have b2 := b1.trans (b2'.mono b1.size)
      have g2 := g1.below b2'
      go_wp2_with fail
      refine (rseal_any s _ hs).mono ?_
      rintro e w' ⟨rfl, rfl⟩
      go_wp2_with fail
      refine (num_of _ _).mono ?_
      rintro e w' ⟨rfl, rfl⟩
      go_wp2_with fail
      refine (live_any _ g2).mono ?_
      rintro e w3 ⟨rfl, b3'⟩
      have b3 := b2.trans (b3'.mono b2.size)
      go_wp2_with fail
      go_ret
      exact ⟨rfl, b3⟩

theorem same_any' (a b : Value) (xs ys : List ByteArray) (w : World) (ha : SL w w.heap.size a xs) (hb : SL w w.heap.size b ys) (hx : xs.length ≤ 1000000000) (h : xs = ys) :
    Calls Tryd.prog 24 #[a, b] w fun e w' => e = .returned (.bool true) ∧ Below w.heap.size w w' := by
  have := same_any a b xs ys w ha hb hx (by rw [← h]; exact hx)
  rw [decide_eq_true h] at this
  exact this

/-- what both Untie hand back, in one shape -/
theorem untie_out (s : ByteArray) {e : Ending} {w' : World} (h : UntieOut (untieT s.data.toList) e w') :
    ∃ (v : Value) (ss : List ByteArray) (c : Int), e = .returned (.tuple #[v, .int .i64 c]) ∧ SL w' w'.heap.size v ss ∧ ss.length ≤ 4096 ∧
      (∀ l, untieT s.data.toList = some l → texts ss = l ∧ c = 0) ∧ (untieT s.data.toList = none → ss = [] ∧ c = 10) := by
  cases hu : untieT s.data.toList with
  | some l =>
    rw [hu] at h
    obtain ⟨v, ss, h1, h2, h3⟩ := h
    have h4 := (untie_spec hu).2.1
    rw [← h2, texts_length] at h4
    exact ⟨v, ss, 0, h1, h3, h4, (fun l' e => by cases e; exact ⟨h2, rfl⟩), fun e => by cases e⟩
  | none =>
    rw [hu] at h
    exact ⟨.slice none 0 0, [], 10, h, SL.nil _ _, by simp, (fun l' e => by cases e), fun _ => ⟨rfl, rfl⟩⟩
theorem out_same {o : Option (List Text)} {ss tt : List ByteArray} {c d : Int} (h1 : ∀ l, o = some l → texts ss = l ∧ c = 0) (h2 : o = none → ss = [] ∧ c = 10)
    (k1 : ∀ l, o = some l → texts tt = l ∧ d = 0) (k2 : o = none → tt = [] ∧ d = 10) : ss = tt ∧ c = d := by
  cases o with
  | none => exact ⟨by rw [(h2 rfl).1, (k2 rfl).1], by rw [(h2 rfl).2, (k2 rfl).2]⟩
  | some l => exact ⟨texts_inj (by rw [(h1 l rfl).1, (k1 l rfl).1]), by rw [(h1 l rfl).2, (k1 l rfl).2]⟩

set_option maxHeartbeats 2000000 in
set_option maxRecDepth 100000 in
theorem walk_unties (s : ByteArray) (w : World) (hs : s.size ≤ 140737488355328) (hg : Good w) :
    Calls Tryd.prog 5 #[.string s] w fun e w' => e = .returned (.bool true) ∧ Below w.heap.size w w' := by
  by_cases hbig : 20000 < s.size
  · have hi : (20000 : Int) < (s.size : Int) := by omega
    have hl := live_any w hg
    go_enter Tryd.func5, Tryd.ntmps5
    go_wp2_with fail
    refine hl.mono ?_
    rintro e w1 ⟨rfl, b1⟩
    go_wp2_with fail
    go_ret
    exact ⟨rfl, b1⟩
  · have hi : ¬ (20000 : Int) < (s.size : Int) := by omega
    have g0 := hg
    cases hres : firstT s.data.toList
    all_goals
      have c3 := fun w hg => first_any s w hs hg
      have c4 := fun w => rfirst_any s w hs
      simp only [hres] at c3 c4
      unfold firstR at c3 c4
      clear hres
      go_enter Tryd.func5, Tryd.ntmps5
      go_wp2_with fail
      refine (untie_any s _ hs hg).mono ?_
      rintro e w1 ⟨hu1, b1⟩
      obtain ⟨v, ss, c, rfl, hv1, hss, u1, u2⟩ := untie_out s hu1
      clear hu1
      have g1 := hg.below b1
      go_wp2_with fail
      refine (runtie_any s _ hs).mono ?_
      rintro e w2 ⟨hu2, b2'⟩
      obtain ⟨v', tt, d, rfl, hv2, _, k1, k2⟩ := untie_out s hu2
      clear hu2
      obtain ⟨rfl, rfl⟩ := out_same u1 u2 k1 k2
      clear u1 u2 k1 k2
      have b2 := b1.trans (b2'.mono b1.size)
      have g2 := g1.below b2'
      have hv1' := (hv1.below b2').more b2'.size
      clear hv1
      go_wp2_with fail
      refine (c3 _ g2).mono ?_
      rintro e w3 ⟨rfl, b3'⟩
      have b3 := b2.trans (b3'.mono b2.size)
      have g3 := g2.below b3'
      have hv3 := (hv1'.below b3').more b3'.size
      have hw3 := (hv2.below b3').more b3'.size
      clear hv1' hv2
      go_wp2_with fail
      refine (c4 _).mono ?_
      rintro e w4 ⟨rfl, b4'⟩
      have b4 := b3.trans (b4'.mono b3.size)
      have g4 := g3.below b4'
      have hv4 := (hv3.below b4').more b4'.size
      have hw4 := (hw3.below b4').more b4'.size
      clear hv3 hw3
      go_wp2_with fail
      refine (same_any' _ _ _ _ _ hv4 hw4 (by omega) rfl).mono ?_
      rintro e w5 ⟨rfl, b5'⟩
      have b5 := b4.trans (b5'.mono b4.size)
      have g5 := g4.below b5'
      go_wp2_with fail
      refine (num_of _ _).mono ?_
      rintro e w' ⟨rfl, rfl⟩
      go_wp2_with fail
      refine (num_of _ _).mono ?_
      rintro e w' ⟨rfl, rfl⟩
      go_wp2_with fail
      refine (live_any _ g5).mono ?_
      rintro e w6 ⟨rfl, b6'⟩
      have b6 := b5.trans (b6'.mono b5.size)
      go_wp2_with fail
      go_ret
      exact ⟨rfl, b6⟩

end Go.Proofs.YtcodknfffmadfaaDoor
