/-
  Whole, the program's. Condition: at most 2^47 bounds of at most 2^47 bytes.
-/
import Derived.Test.YtbjgpcfimpmjiaaRows0
namespace Go.Proofs.Ytbjgpcfimpmjiaa
open Go.RowKit O

theorem bds_length (l : List Pair) : (bds l).length = l.length := by simp [bds]
theorem bds_get (l : List Pair) (k : Nat) (h : k < l.length) : (bds l)[k]'(by rw [bds_length]; exact h) = B l[k].1 l[k].2 := by simp [bds]
theorem bds_drop (l : List Pair) (k : Nat) (h : k < l.length) : (bds l).drop k = B l[k].1 l[k].2 :: (bds l).drop (k + 1) := by
  rw [List.drop_eq_getElem_cons (by rw [bds_length]; exact h), bds_get l k h]
theorem bds_nil (l : List Pair) (k : Nat) : (bds l).drop k = [] ↔ l.length ≤ k := by rw [List.drop_eq_nil_iff, bds_length]

theorem wgo_no {x y S : ByteArray} {l : List Bd} (h : isB (B x y) = false) : wgo S.toList (B x y :: l) = false := by
  unfold wgo; rw [h]; simp
theorem wgo_ne {x y S : ByteArray} {l : List Bd} (h : ¬ x.toList = S.toList) : wgo S.toList (B x y :: l) = false := by
  unfold wgo; rw [if_neg (fun e => h e.2)]
theorem wgo_end {x y S : ByteArray} {l : List Bd} (h : isB (B x y) = true) (h1 : x.toList = S.toList) (h2 : y.toList = []) : wgo S.toList (B x y :: l) = decide (l = []) := by
  unfold wgo; rw [if_pos ⟨h, h1⟩, if_pos h2]
theorem wgo_on {x y S : ByteArray} {l : List Bd} (h : isB (B x y) = true) (h1 : x.toList = S.toList) (h2 : ¬ y.toList = []) : wgo S.toList (B x y :: l) = wgo y.toList l := by
  rw [wgo, if_pos ⟨h, h1⟩, if_neg h2]

/-- one box more, and what came behind it -/
theorem one_box {N : Nat} {w wr w1 : World} {o : Obj} (h : Below N w wr) (hN : N ≤ wr.heap.size) (b : Below (wr.alloc o).heap.size (wr.alloc o) w1) : Below N w w1 :=
  (h.alloc hN o).trans (b.mono (by simp; omega))

set_option maxHeartbeats 2000000 in
theorem whole_any (v : Value) (bs : List Pair) (w : World) (hv : SB w w.heap.size v bs) (hl : bs.length ≤ 140737488355328) (hs : ∀ p ∈ bs, p.1.size ≤ 140737488355328 ∧ p.2.size ≤ 140737488355328) :
    Calls Try.prog 30 #[v] w fun e w' => e = .returned (.bool (wholeB (bds bs))) ∧ Below w.heap.size w w' := by
  obtain ⟨A, c, rfl⟩ := hv.form
  have hlen : (bs.length : Int) ≤ 140737488355328 := by omega
  have HS := Lib.hid hs
  obtain ⟨R, hR0⟩ : ∃ R, wholeB (bds bs) = R := ⟨_, rfl⟩
  have hR1 : wgo E0.toList ((bds bs).drop 0) = R := by rw [← hR0, whole_wgo, ByteArray.toList_eq]; rfl
  rw [hR0]
  clear hs hR0
  go_enter Try.func30, Try.ntmps30
  go_wp2
  go_step3
  go_wp2
  go_step3
  go_wp2
  go_loopw [3, 4, 9] (fun vs ve vi wr => ∃ (k : Nat) (S : ByteArray), k ≤ bs.length ∧ vi = .int .i64 (k : Int) ∧ ve = .int .i64 0 ∧ vs = .string S ∧ Hid (wgo S.toList ((bds bs).drop k) = R) ∧ Below w.heap.size w wr) (fun _ _ vi _ => bs.length - (intOf vi).toNat)
  case atStart => exact ⟨0, E0, by omega, rfl, rfl, rfl, Lib.hid hR1, Below.refl _ _⟩
  case round =>
    clear hR1
    obtain ⟨k, S, hk, rfl, rfl, rfl, hR, hbw⟩ := hrel
    by_cases hlt : k < bs.length
    · obtain ⟨b, o, rfl, hb, hc1, hc2⟩ := (hv.below hbw).at_ hlt
      obtain ⟨hp1, hp2⟩ := HS.out bs[k] (List.getElem_mem hlt)
      have hd := bds_drop bs k hlt
      obtain ⟨x, hx⟩ : ∃ x, bs[k].1 = x := ⟨_, rfl⟩
      obtain ⟨y, hy⟩ : ∃ y, bs[k].2 = y := ⟨_, rfl⟩
      rw [hx] at hc1 hd hp1
      rw [hy] at hc2 hd hp2
      clear hx hy
      have hbz := hbw.size
      have cc := fun w => check_any x y w hp1 hp2
      cases hi : isB (B x y) with
      | false =>
        have hfin : R = false := by rw [← hR.out, hd, wgo_no hi]
        have e1 : chk (B x y) = 20 := by unfold chk; rw [hi]; rfl
        rw [e1] at cc
        have HF := Lib.hid hfin
        clear hfin hd hR hi e1
        go_wp2_with fail
        refine (cc _).mono ?_
        rintro e w1 ⟨rfl, b1⟩
        obtain ⟨hc, hfz⟩ := bcell b1
        go_wp2_with fail
        try rw [Exit.noGoto_ret]
        go_ret
        exact ⟨ret_bool HF.out.symm, one_box hbw hbz b1⟩
      | true =>
        have e1 : chk (B x y) = 0 := by unfold chk; rw [hi]; rfl
        rw [e1] at cc
        by_cases h2 : x.toList = S.toList
        · by_cases h3 : y.toList = []
          · have hfin : R = decide (k + 1 = bs.length) := by
              rw [← hR.out, hd, wgo_end hi h2 h3]
              rw [Bool.eq_iff_iff]
              simp only [decide_eq_true_eq]
              rw [bds_nil]; omega
            have HF := Lib.hid hfin
            have n2 : (x.toList == S.toList) = true := by simpa using h2
            have n2' : (x.toList != S.toList) = false := by simpa using h2
            obtain rfl := empty_of h3
            clear hfin hd hR hi e1 h2 h3
            go_wp2_with fail
            refine (cc _).mono ?_
            rintro e w1 ⟨rfl, b1⟩
            obtain ⟨hc, hfz⟩ := bcell b1
            go_wp2_with fail
            try rw [Exit.noGoto_ret]
            go_ret
            exact ⟨ret_bool (by rw [HF.out, Bool.eq_iff_iff]; simp; omega), one_box hbw hbz b1⟩
          · have hnew : wgo y.toList ((bds bs).drop (k + 1)) = R := by rw [← hR.out, hd, wgo_on hi h2 h3]
            have HN := Lib.hid hnew
            have n2 : (x.toList == S.toList) = true := by simpa using h2
            have n2' : (x.toList != S.toList) = false := by simpa using h2
            have n3 := isEmpty_no h3
            clear hnew hd hR hi e1 h2 h3
            go_wp2_with fail
            refine (cc _).mono ?_
            rintro e w1 ⟨rfl, b1⟩
            obtain ⟨hc, hfz⟩ := bcell b1
            go_wp2_with fail
            go_roundw
            case rel => exact ⟨k + 1, y, by omega, by go_num, rfl, rfl, HN, one_box hbw hbz b1⟩
            case measure => simp [intOf]; omega
        · have hfin : R = false := by rw [← hR.out, hd, wgo_ne h2]
          have HF := Lib.hid hfin
          have n2 : (x.toList == S.toList) = false := by simpa using h2
          have n2' : (x.toList != S.toList) = true := by simpa using h2
          clear hfin hd hR hi e1 h2
          go_wp2_with fail
          refine (cc _).mono ?_
          rintro e w1 ⟨rfl, b1⟩
          obtain ⟨hc, hfz⟩ := bcell b1
          go_wp2_with fail
          try rw [Exit.noGoto_ret]
          go_ret
          exact ⟨ret_bool HF.out.symm, one_box hbw hbz b1⟩
    · obtain rfl : k = bs.length := by omega
      have hfin : R = false := by
        rw [← hR.out, (bds_nil bs bs.length).2 (Nat.le_refl _)]; rfl
      have HF := Lib.hid hfin
      clear hfin hR
      go_wp2_with fail
      try rw [Exit.noGoto_ret]
      go_ret
      exact ⟨ret_bool HF.out.symm, hbw⟩
end Go.Proofs.Ytbjgpcfimpmjiaa
