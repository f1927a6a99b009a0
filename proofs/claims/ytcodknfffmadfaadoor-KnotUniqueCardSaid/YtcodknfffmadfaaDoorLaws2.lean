/-
  The law KnotUnique, walked: it answers true, at every text. Condition: lengths below 2^47; the library's variables hold what their types allow.
-/
import Derived.Test.YtcodknfffmadfaaDoorLaws1
namespace Go.Proofs.YtcodknfffmadfaaDoor
open Go.RowKit M

theorem strand_ge (x : Text) : 3 ≤ (strand x).length := by
  have := strand_length x
  have h := dig_pos x.length
  rw [numT_nat] at this
  omega
theorem part_le (ss : List ByteArray) : ∀ s ∈ ss, s.size ≤ (tieT (texts ss)).length := by
  induction ss with
  | nil => intro s hs; cases hs
  | cons x ss ih =>
    intro s hs
    have h1 := strand_length x.data.toList
    have h2 : (tieT (texts (x :: ss))).length = (strand x.data.toList).length + (tieT (texts ss)).length := by simp [texts, tieT_cons]
    have h3 : x.data.toList.length = x.size := by simp
    rcases List.mem_cons.1 hs with rfl | hs
    · omega
    · have := ih s hs; omega
/-- what an Untie of a short text gives is few and short -/
theorem few_of (s : ByteArray) (hs : s.size ≤ 20000) {ss : List ByteArray} (h : s.data.toList = tieT (texts ss)) (hl : ss.length ≤ 4096) : Few ss := by
  refine ⟨by omega, fun x hx => ?_⟩
  have h1 := part_le ss x hx
  rw [← h] at h1
  have h3 : s.data.toList.length = s.size := by simp
  omega

set_option maxHeartbeats 8000000 in
set_option maxRecDepth 100000 in
theorem walk_unique (s : ByteArray) (w : World) (hs : s.size ≤ 140737488355328) (hg : Good w) :
    Calls Tryd.prog 10 #[.string s] w fun e w' => e = .returned (.bool true) ∧ Below w.heap.size w w' := by
  by_cases hbig : 20000 < s.size
  · have hi : (20000 : Int) < (s.size : Int) := by omega
    have hl := live_any w hg
    go_enter Tryd.func10, Tryd.ntmps10
    go_wp2_with fail
    refine hl.mono ?_
    rintro e w1 ⟨rfl, b1⟩
    go_wp2_with fail
    go_ret
    exact ⟨rfl, b1⟩
  · have hi : ¬ (20000 : Int) < (s.size : Int) := by omega
    have g0 := hg
    have b0 := Below.refl w.heap.size w
    have cI := int_any s w hs hg
    have cO := fun w => open_any s w hs
    cases hA : intT s.data.toList with
    | none =>
      rw [hA] at cI
      unfold intR at cI
      clear hA
      cases hB : untieT s.data.toList with
      | none =>
        have hU := Lib.hid hB
        clear hB
        cases hC : openT s.data.toList with
        | none =>
          simp only [hC] at cO
          unfold openR at cO
          clear hC
          go_enter Tryd.func10, Tryd.ntmps10
          go_wp2_with fail
          refine cI.mono ?_
          rintro e w1 ⟨rfl, b1'⟩
          have b1 := b0.trans (b1'.mono b0.size)
          have g1 := g0.below b1'
          go_wp2_with fail
          refine (num_of _ _).mono ?_
          rintro e w' ⟨rfl, rfl⟩
          go_wp2_with fail
          refine (num_of _ _).mono ?_
          rintro e w' ⟨rfl, rfl⟩
          go_wp2_with fail
          refine (untie_any s _ hs g1).mono ?_
          rintro e w2 ⟨hu1, b2'⟩
          obtain ⟨u, ss, c, rfl, hsl, hss, u1, u2⟩ := untie_out s hu1
          clear hu1
          have b2 := b1.trans (b2'.mono b1.size)
          have g2 := g1.below b2'
          obtain ⟨rfl, rfl⟩ := u2 hU.out
          obtain ⟨A, cc, rfl⟩ := hsl.form
          clear u1 u2
          go_wp2_with fail
          refine (num_of _ _).mono ?_
          rintro e w' ⟨rfl, rfl⟩
          go_wp2_with fail
          refine (num_of _ _).mono ?_
          rintro e w' ⟨rfl, rfl⟩
          go_wp2_with fail
          refine (cO _).mono ?_
          rintro e w3 ⟨rfl, b3'⟩
          have b3 := b2.trans (b3'.mono b2.size)
          have g3 := g2.below b3'
          go_wp2_with fail
          refine (num_of _ _).mono ?_
          rintro e w' ⟨rfl, rfl⟩
          go_wp2_with fail
          refine (live_any _ g3).mono ?_
          rintro e w4 ⟨rfl, b4'⟩
          have b4 := b3.trans (b4'.mono b3.size)
          go_wp2_with fail
          go_ret
          exact ⟨rfl, b4⟩
        | some x =>
          simp only [hC] at cO
          unfold openR at cO
          have hx := open_spec hC
          have hxl : x.length ≤ 20000 := by
            have := congrArg List.length hx
            rw [sealT_length] at this
            simp at this
            omega
          have cS := fun w => seal_any ⟨x.toArray⟩ w (show x.length ≤ _ by omega)
          rw [show (⟨x.toArray⟩ : ByteArray).data.toList = x from rfl] at cS
          have hqx := beq_yes hx
          clear hC hx
          go_enter Tryd.func10, Tryd.ntmps10
          go_wp2_with fail
          refine cI.mono ?_
          rintro e w1 ⟨rfl, b1'⟩
          have b1 := b0.trans (b1'.mono b0.size)
          have g1 := g0.below b1'
          go_wp2_with fail
          refine (num_of _ _).mono ?_
          rintro e w' ⟨rfl, rfl⟩
          go_wp2_with fail
          refine (num_of _ _).mono ?_
          rintro e w' ⟨rfl, rfl⟩
          go_wp2_with fail
          refine (untie_any s _ hs g1).mono ?_
          rintro e w2 ⟨hu1, b2'⟩
          obtain ⟨u, ss, c, rfl, hsl, hss, u1, u2⟩ := untie_out s hu1
          clear hu1
          have b2 := b1.trans (b2'.mono b1.size)
          have g2 := g1.below b2'
          obtain ⟨rfl, rfl⟩ := u2 hU.out
          obtain ⟨A, cc, rfl⟩ := hsl.form
          clear u1 u2
          go_wp2_with fail
          refine (num_of _ _).mono ?_
          rintro e w' ⟨rfl, rfl⟩
          go_wp2_with fail
          refine (num_of _ _).mono ?_
          rintro e w' ⟨rfl, rfl⟩
          go_wp2_with fail
          refine (cO _).mono ?_
          rintro e w3 ⟨rfl, b3'⟩
          have b3 := b2.trans (b3'.mono b2.size)
          have g3 := g2.below b3'
          go_wp2_with fail
          refine (num_of _ _).mono ?_
          rintro e w' ⟨rfl, rfl⟩
          go_wp2_with fail
          refine (num_of _ _).mono ?_
          rintro e w' ⟨rfl, rfl⟩
          go_wp2_with fail
          refine (cS _).mono ?_
          rintro e w4 ⟨rfl, b4'⟩
          have b4 := b3.trans (b4'.mono b3.size)
          have g4 := g3.below b4'
          go_wp2_with fail
          refine (live_any _ g4).mono ?_
          rintro e w5 ⟨rfl, b5'⟩
          have b5 := b4.trans (b5'.mono b4.size)
          go_wp2_with fail
          go_ret
          exact ⟨rfl, b5⟩
      | some l =>
        have hU := Lib.hid hB
        clear hB
        cases hC : openT s.data.toList with
        | none =>
          simp only [hC] at cO
          unfold openR at cO
          clear hC
          go_enter Tryd.func10, Tryd.ntmps10
          go_wp2_with fail
          refine cI.mono ?_
          rintro e w1 ⟨rfl, b1'⟩
          have b1 := b0.trans (b1'.mono b0.size)
          have g1 := g0.below b1'
          go_wp2_with fail
          refine (num_of _ _).mono ?_
          rintro e w' ⟨rfl, rfl⟩
          go_wp2_with fail
          refine (num_of _ _).mono ?_
          rintro e w' ⟨rfl, rfl⟩
          go_wp2_with fail
          refine (untie_any s _ hs g1).mono ?_
          rintro e w2 ⟨hu1, b2'⟩
          obtain ⟨u, ss, c, rfl, hsl, hss, u1, u2⟩ := untie_out s hu1
          clear hu1
          have b2 := b1.trans (b2'.mono b1.size)
          have g2 := g1.below b2'
          obtain ⟨ht, rfl⟩ := u1 _ hU.out
          have hse := (untie_spec hU.out).1
          rw [← ht] at hse
          have hfew := few_of s (by omega) hse hss
          have hst : str (tieT (texts ss)) = .string s := by rw [← hse]
          have hq := bytes_beq_yes (x := s) rfl
          have cT := fun w hv => tie_any u ss w hv hfew
          simp only [hst] at cT
          clear u1 u2 ht hse
          go_wp2_with fail
          refine (num_of _ _).mono ?_
          rintro e w' ⟨rfl, rfl⟩
          go_wp2_with fail
          refine (cT _ hsl).mono ?_
          rintro e w3 ⟨rfl, b3'⟩
          have b3 := b2.trans (b3'.mono b2.size)
          have g3 := g2.below b3'
          go_wp2_with fail
          refine (num_of _ _).mono ?_
          rintro e w' ⟨rfl, rfl⟩
          go_wp2_with fail
          refine (cO _).mono ?_
          rintro e w4 ⟨rfl, b4'⟩
          have b4 := b3.trans (b4'.mono b3.size)
          have g4 := g3.below b4'
          go_wp2_with fail
          refine (num_of _ _).mono ?_
          rintro e w' ⟨rfl, rfl⟩
          go_wp2_with fail
          refine (live_any _ g4).mono ?_
          rintro e w5 ⟨rfl, b5'⟩
          have b5 := b4.trans (b5'.mono b4.size)
          go_wp2_with fail
          go_ret
          exact ⟨rfl, b5⟩
        | some x =>
          simp only [hC] at cO
          unfold openR at cO
          have hx := open_spec hC
          have hxl : x.length ≤ 20000 := by
            have := congrArg List.length hx
            rw [sealT_length] at this
            simp at this
            omega
          have cS := fun w => seal_any ⟨x.toArray⟩ w (show x.length ≤ _ by omega)
          rw [show (⟨x.toArray⟩ : ByteArray).data.toList = x from rfl] at cS
          have hqx := beq_yes hx
          clear hC hx
          go_enter Tryd.func10, Tryd.ntmps10
          go_wp2_with fail
          refine cI.mono ?_
          rintro e w1 ⟨rfl, b1'⟩
          have b1 := b0.trans (b1'.mono b0.size)
          have g1 := g0.below b1'
          go_wp2_with fail
          refine (num_of _ _).mono ?_
          rintro e w' ⟨rfl, rfl⟩
          go_wp2_with fail
          refine (num_of _ _).mono ?_
          rintro e w' ⟨rfl, rfl⟩
          go_wp2_with fail
          refine (untie_any s _ hs g1).mono ?_
          rintro e w2 ⟨hu1, b2'⟩
          obtain ⟨u, ss, c, rfl, hsl, hss, u1, u2⟩ := untie_out s hu1
          clear hu1
          have b2 := b1.trans (b2'.mono b1.size)
          have g2 := g1.below b2'
          obtain ⟨ht, rfl⟩ := u1 _ hU.out
          have hse := (untie_spec hU.out).1
          rw [← ht] at hse
          have hfew := few_of s (by omega) hse hss
          have hst : str (tieT (texts ss)) = .string s := by rw [← hse]
          have hq := bytes_beq_yes (x := s) rfl
          have cT := fun w hv => tie_any u ss w hv hfew
          simp only [hst] at cT
          clear u1 u2 ht hse
          go_wp2_with fail
          refine (num_of _ _).mono ?_
          rintro e w' ⟨rfl, rfl⟩
          go_wp2_with fail
          refine (cT _ hsl).mono ?_
          rintro e w3 ⟨rfl, b3'⟩
          have b3 := b2.trans (b3'.mono b2.size)
          have g3 := g2.below b3'
          go_wp2_with fail
          refine (num_of _ _).mono ?_
          rintro e w' ⟨rfl, rfl⟩
          go_wp2_with fail
          refine (cO _).mono ?_
          rintro e w4 ⟨rfl, b4'⟩
          have b4 := b3.trans (b4'.mono b3.size)
          have g4 := g3.below b4'
          go_wp2_with fail
          refine (num_of _ _).mono ?_
          rintro e w' ⟨rfl, rfl⟩
          go_wp2_with fail
          refine (num_of _ _).mono ?_
          rintro e w' ⟨rfl, rfl⟩
          go_wp2_with fail
          refine (cS _).mono ?_
          rintro e w5 ⟨rfl, b5'⟩
          have b5 := b4.trans (b5'.mono b4.size)
          have g5 := g4.below b5'
          go_wp2_with fail
          refine (live_any _ g5).mono ?_
          rintro e w6 ⟨rfl, b6'⟩
          have b6 := b5.trans (b6'.mono b5.size)
          go_wp2_with fail
          go_ret
          exact ⟨rfl, b6⟩
    | some v =>
      rw [hA] at cI
      unfold intR at cI
      obtain ⟨hv, hve⟩ := intT_spec hA
      have hvs : str (numT v) = .string s := by rw [hve]
      have hqv := beq_yes hve
      clear hA
      cases hB : untieT s.data.toList with
      | none =>
        have hU := Lib.hid hB
        clear hB
        cases hC : openT s.data.toList with
        | none =>
          simp only [hC] at cO
          unfold openR at cO
          clear hC
          clear hve
          go_enter Tryd.func10, Tryd.ntmps10
          go_wp2_with fail
          refine cI.mono ?_
          rintro e w1 ⟨rfl, b1'⟩
          have b1 := b0.trans (b1'.mono b0.size)
          have g1 := g0.below b1'
          go_wp2_with fail
          refine (num_of _ _).mono ?_
          rintro e w' ⟨rfl, rfl⟩
          go_wp2_with fail
          refine (num_any v _ hv).mono ?_
          rintro e w2 ⟨rfl, b2'⟩
          have b2 := b1.trans (b2'.mono b1.size)
          have g2 := g1.below b2'
          go_wp2_with fail
          refine (num_of _ _).mono ?_
          rintro e w' ⟨rfl, rfl⟩
          go_wp2_with fail
          refine (untie_any s _ hs g2).mono ?_
          rintro e w3 ⟨hu1, b3'⟩
          obtain ⟨u, ss, c, rfl, hsl, hss, u1, u2⟩ := untie_out s hu1
          clear hu1
          have b3 := b2.trans (b3'.mono b2.size)
          have g3 := g2.below b3'
          obtain ⟨rfl, rfl⟩ := u2 hU.out
          obtain ⟨A, cc, rfl⟩ := hsl.form
          clear u1 u2
          go_wp2_with fail
          refine (num_of _ _).mono ?_
          rintro e w' ⟨rfl, rfl⟩
          go_wp2_with fail
          refine (num_of _ _).mono ?_
          rintro e w' ⟨rfl, rfl⟩
          go_wp2_with fail
          refine (cO _).mono ?_
          rintro e w4 ⟨rfl, b4'⟩
          have b4 := b3.trans (b4'.mono b3.size)
          have g4 := g3.below b4'
          go_wp2_with fail
          refine (num_of _ _).mono ?_
          rintro e w' ⟨rfl, rfl⟩
          go_wp2_with fail
          refine (live_any _ g4).mono ?_
          rintro e w5 ⟨rfl, b5'⟩
          have b5 := b4.trans (b5'.mono b4.size)
          go_wp2_with fail
          go_ret
          exact ⟨rfl, b5⟩
        | some x =>
          simp only [hC] at cO
          unfold openR at cO
          have hx := open_spec hC
          have hxl : x.length ≤ 20000 := by
            have := congrArg List.length hx
            rw [sealT_length] at this
            simp at this
            omega
          have cS := fun w => seal_any ⟨x.toArray⟩ w (show x.length ≤ _ by omega)
          rw [show (⟨x.toArray⟩ : ByteArray).data.toList = x from rfl] at cS
          have hqx := beq_yes hx
          clear hC hx
          clear hve
          go_enter Tryd.func10, Tryd.ntmps10
          go_wp2_with fail
          refine cI.mono ?_
          rintro e w1 ⟨rfl, b1'⟩
          have b1 := b0.trans (b1'.mono b0.size)
          have g1 := g0.below b1'
          go_wp2_with fail
          refine (num_of _ _).mono ?_
          rintro e w' ⟨rfl, rfl⟩
          go_wp2_with fail
          refine (num_any v _ hv).mono ?_
          rintro e w2 ⟨rfl, b2'⟩
          have b2 := b1.trans (b2'.mono b1.size)
          have g2 := g1.below b2'
          go_wp2_with fail
          refine (num_of _ _).mono ?_
          rintro e w' ⟨rfl, rfl⟩
          go_wp2_with fail
          refine (untie_any s _ hs g2).mono ?_
          rintro e w3 ⟨hu1, b3'⟩
          obtain ⟨u, ss, c, rfl, hsl, hss, u1, u2⟩ := untie_out s hu1
          clear hu1
          have b3 := b2.trans (b3'.mono b2.size)
          have g3 := g2.below b3'
          obtain ⟨rfl, rfl⟩ := u2 hU.out
          obtain ⟨A, cc, rfl⟩ := hsl.form
          clear u1 u2
          go_wp2_with fail
          refine (num_of _ _).mono ?_
          rintro e w' ⟨rfl, rfl⟩
          go_wp2_with fail
          refine (num_of _ _).mono ?_
          rintro e w' ⟨rfl, rfl⟩
          go_wp2_with fail
          refine (cO _).mono ?_
          rintro e w4 ⟨rfl, b4'⟩
          have b4 := b3.trans (b4'.mono b3.size)
          have g4 := g3.below b4'
          go_wp2_with fail
          refine (num_of _ _).mono ?_
          rintro e w' ⟨rfl, rfl⟩
          go_wp2_with fail
          refine (num_of _ _).mono ?_
          rintro e w' ⟨rfl, rfl⟩
          go_wp2_with fail
          refine (cS _).mono ?_
          rintro e w5 ⟨rfl, b5'⟩
          have b5 := b4.trans (b5'.mono b4.size)
          have g5 := g4.below b5'
          go_wp2_with fail
          refine (live_any _ g5).mono ?_
          rintro e w6 ⟨rfl, b6'⟩
          have b6 := b5.trans (b6'.mono b5.size)
          go_wp2_with fail
          go_ret
          exact ⟨rfl, b6⟩
      | some l =>
        have hU := Lib.hid hB
        clear hB
        cases hC : openT s.data.toList with
        | none =>
          simp only [hC] at cO
          unfold openR at cO
          clear hC
          clear hve
          go_enter Tryd.func10, Tryd.ntmps10
          go_wp2_with fail
          refine cI.mono ?_
          rintro e w1 ⟨rfl, b1'⟩
          have b1 := b0.trans (b1'.mono b0.size)
          have g1 := g0.below b1'
          go_wp2_with fail
          refine (num_of _ _).mono ?_
          rintro e w' ⟨rfl, rfl⟩
          go_wp2_with fail
          refine (num_any v _ hv).mono ?_
          rintro e w2 ⟨rfl, b2'⟩
          have b2 := b1.trans (b2'.mono b1.size)
          have g2 := g1.below b2'
          go_wp2_with fail
          refine (num_of _ _).mono ?_
          rintro e w' ⟨rfl, rfl⟩
          go_wp2_with fail
          refine (untie_any s _ hs g2).mono ?_
          rintro e w3 ⟨hu1, b3'⟩
          obtain ⟨u, ss, c, rfl, hsl, hss, u1, u2⟩ := untie_out s hu1
          clear hu1
          have b3 := b2.trans (b3'.mono b2.size)
          have g3 := g2.below b3'
          obtain ⟨ht, rfl⟩ := u1 _ hU.out
          have hse := (untie_spec hU.out).1
          rw [← ht] at hse
          have hfew := few_of s (by omega) hse hss
          have hst : str (tieT (texts ss)) = .string s := by rw [← hse]
          have hq := bytes_beq_yes (x := s) rfl
          have cT := fun w hv => tie_any u ss w hv hfew
          simp only [hst] at cT
          clear u1 u2 ht hse
          go_wp2_with fail
          refine (num_of _ _).mono ?_
          rintro e w' ⟨rfl, rfl⟩
          go_wp2_with fail
          refine (cT _ hsl).mono ?_
          rintro e w4 ⟨rfl, b4'⟩
          have b4 := b3.trans (b4'.mono b3.size)
          have g4 := g3.below b4'
          go_wp2_with fail
          refine (num_of _ _).mono ?_
          rintro e w' ⟨rfl, rfl⟩
          go_wp2_with fail
          refine (cO _).mono ?_
          rintro e w5 ⟨rfl, b5'⟩
          have b5 := b4.trans (b5'.mono b4.size)
          have g5 := g4.below b5'
          go_wp2_with fail
          refine (num_of _ _).mono ?_
          rintro e w' ⟨rfl, rfl⟩
          go_wp2_with fail
          refine (live_any _ g5).mono ?_
          rintro e w6 ⟨rfl, b6'⟩
          have b6 := b5.trans (b6'.mono b5.size)
          go_wp2_with fail
          go_ret
          exact ⟨rfl, b6⟩
        | some x =>
          simp only [hC] at cO
          unfold openR at cO
          have hx := open_spec hC
          have hxl : x.length ≤ 20000 := by
            have := congrArg List.length hx
            rw [sealT_length] at this
            simp at this
            omega
          have cS := fun w => seal_any ⟨x.toArray⟩ w (show x.length ≤ _ by omega)
          rw [show (⟨x.toArray⟩ : ByteArray).data.toList = x from rfl] at cS
          have hqx := beq_yes hx
          clear hC hx
          clear hve
          go_enter Tryd.func10, Tryd.ntmps10
          go_wp2_with fail
          refine cI.mono ?_
          rintro e w1 ⟨rfl, b1'⟩
          have b1 := b0.trans (b1'.mono b0.size)
          have g1 := g0.below b1'
          go_wp2_with fail
          refine (num_of _ _).mono ?_
          rintro e w' ⟨rfl, rfl⟩
          go_wp2_with fail
          refine (num_any v _ hv).mono ?_
          rintro e w2 ⟨rfl, b2'⟩
          have b2 := b1.trans (b2'.mono b1.size)
          have g2 := g1.below b2'
          go_wp2_with fail
          refine (num_of _ _).mono ?_
          rintro e w' ⟨rfl, rfl⟩
          go_wp2_with fail
          refine (untie_any s _ hs g2).mono ?_
          rintro e w3 ⟨hu1, b3'⟩
          obtain ⟨u, ss, c, rfl, hsl, hss, u1, u2⟩ := untie_out s hu1
          clear hu1
          have b3 := b2.trans (b3'.mono b2.size)
          have g3 := g2.below b3'
          obtain ⟨ht, rfl⟩ := u1 _ hU.out
          have hse := (untie_spec hU.out).1
          rw [← ht] at hse
          have hfew := few_of s (by omega) hse hss
          have hst : str (tieT (texts ss)) = .string s := by rw [← hse]
          have hq := bytes_beq_yes (x := s) rfl
          have cT := fun w hv => tie_any u ss w hv hfew
          simp only [hst] at cT
          clear u1 u2 ht hse
          go_wp2_with fail
          refine (num_of _ _).mono ?_
          rintro e w' ⟨rfl, rfl⟩
          go_wp2_with fail
          refine (cT _ hsl).mono ?_
          rintro e w4 ⟨rfl, b4'⟩
          have b4 := b3.trans (b4'.mono b3.size)
          have g4 := g3.below b4'
          go_wp2_with fail
          refine (num_of _ _).mono ?_
          rintro e w' ⟨rfl, rfl⟩
          go_wp2_with fail
          refine (cO _).mono ?_
          rintro e w5 ⟨rfl, b5'⟩
          have b5 := b4.trans (b5'.mono b4.size)
          have g5 := g4.below b5'
          go_wp2_with fail
          refine (num_of _ _).mono ?_
          rintro e w' ⟨rfl, rfl⟩
          go_wp2_with fail
          refine (num_of _ _).mono ?_
          rintro e w' ⟨rfl, rfl⟩
          go_wp2_with fail
          refine (cS _).mono ?_
          rintro e w6 ⟨rfl, b6'⟩
          have b6 := b5.trans (b6'.mono b5.size)
          have g6 := g5.below b6'
          go_wp2_with fail
          refine (live_any _ g6).mono ?_
          rintro e w7 ⟨rfl, b7'⟩
          have b7 := b6.trans (b7'.mono b6.size)
          go_wp2_with fail
          go_ret
          exact ⟨rfl, b7⟩

end Go.Proofs.YtcodknfffmadfaaDoor
