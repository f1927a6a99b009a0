/-
  The law BoundWhole, walked: it answers true, at every argument. Condition: at most 2^47 bounds of at most 2^47 bytes.
-/
import Derived.Test.YtbjgpcfimpmjiaaRows1
namespace Go.Proofs.Ytbjgpcfimpmjiaa
open Go.RowKit O

set_option maxHeartbeats 4000000 in
theorem walk_whole (v : Value) (bs : List Pair) (w : World) (hv : ArgSB w v bs) (hl : bs.length ≤ 140737488355328) (hs : ∀ p ∈ bs, p.1.size ≤ 140737488355328 ∧ p.2.size ≤ 140737488355328) :
    Calls Try.prog 5 #[v] w fun e w' => e = .returned (.bool true) ∧ Below w.heap.size w w' := by
  obtain ⟨A, c, rfl⟩ := hv.sb.form
  have hlen : (bs.length : Int) ≤ 140737488355328 := by omega
  have HS := Lib.hid hs
  have HV := Lib.hid hv
  by_cases h30 : 30 < bs.length
  · clear hs hv
    go_enter Try.func5, Try.ntmps5
    go_wp2_with fail
    refine (live_any _).mono ?_
    rintro e w1 ⟨rfl, b1⟩
    go_wp2_with fail
    go_ret
    exact ⟨rfl, b1⟩
  · have cw := fun v w hv => whole_any v bs w hv hl hs
    have cr := fun w hv => rwhole_any (.slice A bs.length c) bs w hv hl hs
    have hsb := hv.sb
    generalize wholeB (bds bs) = R at *
    clear hs hv
    go_enter Try.func5, Try.ntmps5
    go_wp2_with fail
    go_loopw [3] (fun vi wr => ∃ k : Nat, k ≤ bs.length ∧ vi = .int .i64 (k : Int) ∧ Below w.heap.size w wr) (fun vi _ => bs.length - (intOf vi).toNat)
    case atStart => exact ⟨0, by omega, rfl, Below.refl _ _⟩
    case round =>
      obtain ⟨k, hk, rfl, hbw⟩ := hrel
      have hbz := hbw.size
      by_cases hlt : k < bs.length
      · obtain ⟨b, o, rfl, hb, hc1, hc2⟩ := (hsb.below hbw).at_ hlt
        obtain ⟨hp1, hp2⟩ := HS.out bs[k] (List.getElem_mem hlt)
        obtain ⟨x, hx⟩ : ∃ x, bs[k].1 = x := ⟨_, rfl⟩
        obtain ⟨y, hy⟩ : ∃ y, bs[k].2 = y := ⟨_, rfl⟩
        rw [hx] at hc1 hp1
        rw [hy] at hc2 hp2
        clear hx hy
        have cc := fun w => small_any x y w hp1 hp2
        cases hi : smallB x y with
        | false =>
          rw [hi] at cc
          clear hi
          go_wp2_with fail
          refine (cc _).mono ?_
          rintro e w1 ⟨rfl, b1⟩
          have B1 := hbw.trans (b1.mono hbz)
          go_wp2_with fail
          refine (live_any _).mono ?_
          rintro e w2 ⟨rfl, b2⟩
          have B2 := B1.trans (b2.mono B1.size)
          go_wp2_with fail
          go_ret
          exact ⟨rfl, B2⟩
        | true =>
          rw [hi] at cc
          clear hi
          go_wp2_with fail
          refine (cc _).mono ?_
          rintro e w1 ⟨rfl, b1⟩
          have B1 := hbw.trans (b1.mono hbz)
          go_wp2_with fail
          go_roundw
          case rel => exact ⟨k + 1, by omega, by go_num, B1⟩
          case measure => simp [intOf]; omega
      · obtain rfl : k = bs.length := by omega
        have B0 := hbw.alloc hbw.size (.cells #[] 23)
        have hA := HV.out.keep B0
        go_wp2_with (at_builtin; refine wpList_append_bds rfl (.tmp 21) (.tmp 22) rfl wr.heap.size (.slice (some ⟨wr.heap.size, 0, none⟩) 0 0) [] rfl (own_empty wr) (by simp) (.slice A bs.length c) bs rfl hA (by simp; omega) ?_; intro v1 w1 O1 b1' _)
        have b1 := (hbw.alloc hbw.size (.cells #[] 23)).trans (b1'.mono hbz)
        have S1' := SB.of_own O1
        rw [List.nil_append] at S1'
        clear O1 hA B0
        refine (cw v1 _ S1').mono ?_
        rintro e w2 ⟨rfl, b2'⟩
        have b2 := b1.trans (b2'.mono b1.size)
        go_wp2_with fail
        refine (cr _ ((hsb.below b2).more b2.size)).mono ?_
        rintro e w3 ⟨rfl, b3'⟩
        have b3 := b2.trans (b3'.mono b2.size)
        go_wp2_with fail
        refine (live_any _).mono ?_
        rintro e w4 ⟨rfl, b4'⟩
        have b4 := b3.trans (b4'.mono b3.size)
        go_wp2_with fail
        go_ret
        exact ⟨rfl, b4⟩

end Go.Proofs.Ytbjgpcfimpmjiaa
