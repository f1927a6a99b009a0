/-
  Whether a descriptor may be: the program's answers (isId, isNode, mayBe, Check, checked). Condition: lengths at most 2^47.
-/
import Derived.Test.YticikmkehobblaaGreatDoorDsRows
namespace Go.Proofs.YticikmkehobblaaGreatDoor.Ds
open Go.RowKit Bnd
open Go.Proofs.YticikmkehobblaaGreatDoor.O (Bd isB keyB hasB nextB)

theorem isId_any (n : Int) (w : World) : Calls Tryz.prog 125 #[.int .i64 n] w fun e w' => e = .returned (.bool (idB n)) ∧ w = w' := by
  by_cases h1 : 1 ≤ n
  · by_cases h2 : n ≤ 1099511627776
    all_goals
      have e : idB n = decide (n ≤ 1099511627776) := by simp [idB, h1]
      rw [e]
      clear e
      go_enter Tryz.func125, Tryz.ntmps125
      go_wp2_with fail
      go_ret
      exact ⟨ret_bool (by simp [h2]), rfl⟩
  · have e : idB n = false := by simp [idB, h1]
    rw [e]
    clear e
    go_enter Tryz.func125, Tryz.ntmps125
    go_wp2_with fail
    go_ret
    exact ⟨rfl, rfl⟩
theorem isNode_any (n : Int) (w : World) : Calls Tryz.prog 164 #[.int .i64 n] w fun e w' => e = .returned (.bool (nodeB n)) ∧ w = w' := by
  by_cases h1 : 1 ≤ n
  · by_cases h2 : n ≤ 7
    all_goals
      have e : nodeB n = decide (n ≤ 7) := by simp [nodeB, h1]
      rw [e]
      clear e
      go_enter Tryz.func164, Tryz.ntmps164
      go_wp2_with fail
      go_ret
      exact ⟨ret_bool (by simp [h2]), rfl⟩
  · have e : nodeB n = false := by simp [nodeB, h1]
    rw [e]
    clear e
    go_enter Tryz.func164, Tryz.ntmps164
    go_wp2_with fail
    go_ret
    exact ⟨rfl, rfl⟩

theorem mayGo_no {next last : Int} {tk : List Int} {m : Mem} {l : List Mem} (h : ¬ (nodeB m.1 = true ∧ ¬ m.1 ∈ tk ∧ last < m.2 ∧ m.2 < next)) : mayGo next last tk (m :: l) = false := by
  rw [mayGo, if_neg h]
theorem mayGo_on {next last : Int} {tk : List Int} {m : Mem} {l : List Mem} (h : nodeB m.1 = true ∧ ¬ m.1 ∈ tk ∧ last < m.2 ∧ m.2 < next) : mayGo next last tk (m :: l) = mayGo next m.2 (m.1 :: tk) l := by
  rw [mayGo, if_pos h]

set_option maxHeartbeats 2000000 in
theorem mayBe_any (next : Int) (v : Value) (ms : List Mem) (w : World) (hv : SM w w.heap.size v ms) (hl : ms.length ≤ 140737488355328) :
    Calls Tryz.prog 127 #[.int .i64 next, v] w fun e w' => e = .returned (.bool (mayB next ms)) ∧ Below w.heap.size w w' := by
  obtain ⟨A, c, rfl⟩ := hv.form
  by_cases h0 : 1 ≤ ms.length ∧ ms.length ≤ 5
  · obtain ⟨R, hR0⟩ : ∃ R, mayGo next 0 [] ms = R := ⟨_, rfl⟩
    have hr : mayB next ms = R := by unfold mayB; rw [hR0]; simp [h0]
    rw [hr]
    have hR1 : Hid (mayGo next 0 [] (ms.drop 0) = R) := Lib.hid (by simpa using hR0)
    obtain ⟨h1, h2⟩ := h0
    have g1 : ((ms.length : Int) < 1) = False := eq_false (by omega)
    have g2 : ((ms.length : Int) > 5) = False := eq_false (by omega)
    clear hR0 hr
    go_enter Tryz.func127, Tryz.ntmps127
    go_wp2_with fail
    go_loopw [4, 6, 8, 19] (fun v4 v6 v8 vi wr => ∃ (k : Nat) (last : Int) (tk : List Int), k ≤ ms.length ∧ vi = .int .i64 (k : Int) ∧ v4 = .bool false ∧ v6 = .int .i64 last ∧
        (∀ j, j < 8 → wr.cell? ⟨w.heap.size, j, none⟩ = some (.bool (decide ((j : Int) ∈ tk))) ∧ wr.frozen? ⟨w.heap.size, j, none⟩ = false) ∧ Hid (mayGo next last tk (ms.drop k) = R) ∧ Below w.heap.size w wr ∧ w.heap.size < wr.heap.size) (fun _ _ _ vi _ => ms.length - (intOf vi).toNat)
    case atStart =>
      refine ⟨0, 0, [], by omega, rfl, rfl, rfl, ?_, hR1, (Below.refl _ w).alloc (Nat.le_refl _) _, by simp⟩
      intro j hj
      match j, hj with
      | 0, _ => exact ⟨by simp [go_sem], by simp [go_sem]⟩
      | 1, _ => exact ⟨by simp [go_sem], by simp [go_sem]⟩
      | 2, _ => exact ⟨by simp [go_sem], by simp [go_sem]⟩
      | 3, _ => exact ⟨by simp [go_sem], by simp [go_sem]⟩
      | 4, _ => exact ⟨by simp [go_sem], by simp [go_sem]⟩
      | 5, _ => exact ⟨by simp [go_sem], by simp [go_sem]⟩
      | 6, _ => exact ⟨by simp [go_sem], by simp [go_sem]⟩
      | 7, _ => exact ⟨by simp [go_sem], by simp [go_sem]⟩
    case round =>
      clear hR1
      obtain ⟨k, last, tk, hk, rfl, rfl, rfl, hT, hR, hbw, hTz⟩ := hrel
      by_cases hlt : k < ms.length
      · obtain ⟨b, o, rfl, hb, hc1, hc2⟩ := (hv.below hbw).at_ hlt
        have hd : ms.drop k = ms[k] :: ms.drop (k + 1) := List.drop_eq_getElem_cons hlt
        obtain ⟨⟨x, y⟩, hm⟩ : ∃ m, ms[k] = m := ⟨_, rfl⟩
        rw [hm] at hc1 hc2 hd
        clear hm
        have hbz := hbw.size
        have ci := fun w => isNode_any x w
        have hstep := hR.out
        rw [hd] at hstep
        have HT := Lib.hid hT
        cases hn : nodeB x with
        | false =>
          rw [mayGo_no (by simp [hn])] at hstep
          rw [hn] at ci
          have HF := Lib.hid hstep
          clear hstep hd hR hn hT
          go_wp2_with fail
          refine (ci _).mono ?_
          rintro e w1 ⟨rfl, rfl⟩
          go_wp2_with fail
          try rw [Exit.noGoto_ret]
          go_ret
          exact ⟨ret_bool HF.out, hbw.alloc hbz _⟩
        | true =>
          rw [hn] at ci
          obtain ⟨g1, g7⟩ := (nodeB_iff x).1 hn
          obtain ⟨nd, rfl⟩ : ∃ nd : Nat, x = nd := ⟨x.toNat, by omega⟩
          have hnd : nd < 8 := by omega
          have hndz : ((nd : Int) < 0) = False := eq_false (by omega)
          obtain ⟨t1, t2⟩ := hT nd hnd
          clear g1 g7
          by_cases hin : (nd : Int) ∈ tk
          · rw [mayGo_no (by simp [hin])] at hstep
            have t1' : wr.cell? ⟨w.heap.size, nd, none⟩ = some (.bool true) := by rw [t1]; simp [hin]
            have HF := Lib.hid hstep
            clear hstep hd hR hn hT t1 hin
            go_wp2_with fail
            refine (ci _).mono ?_
            rintro e w1 ⟨rfl, rfl⟩
            go_wp2_with fail
            try rw [Exit.noGoto_ret]
            go_ret
            exact ⟨ret_bool HF.out, hbw.alloc hbz _⟩
          · have t1' : wr.cell? ⟨w.heap.size, nd, none⟩ = some (.bool false) := by rw [t1]; simp [hin]
            have hgo : mayGo next last tk (((nd : Int), y) :: ms.drop (k + 1)) = (if last < y ∧ y < next then mayGo next y ((nd : Int) :: tk) (ms.drop (k + 1)) else false) := by
              by_cases hc : last < y ∧ y < next
              · rw [if_pos hc, mayGo_on ⟨hn, hin, hc.1, hc.2⟩]
              · rw [if_neg hc, mayGo_no (by rintro ⟨_, _, a, b⟩; exact hc ⟨a, b⟩)]
            rw [hgo] at hstep
            clear hgo
            by_cases hc : last < y ∧ y < next
            · rw [if_pos hc] at hstep
              have HN := Lib.hid hstep
              have c1 : (y ≤ last) = False := eq_false (by omega)
              have c2 : (y ≥ next) = False := eq_false (by omega)
              have HB : Hid (¬ (nd : Int) ∈ tk) := Lib.hid hin
              clear hstep hd hR hn hT t1 hin hc
              go_wp2_with fail
              refine (ci _).mono ?_
              rintro e w1 ⟨rfl, rfl⟩
              go_wp2_with fail
              go_roundw
              case rel =>
                refine ⟨k + 1, y, (nd : Int) :: tk, by omega, by go_num, rfl, rfl, ?_, HN, (hbw.setCell (p := ⟨w.heap.size, nd, none⟩) (Nat.le_refl _) _).alloc (by simp; omega) _, by simp; omega⟩
                intro j hj
                obtain ⟨q1, q2⟩ := HT.out j hj
                refine ⟨?_, by simp [go_sem, q2, hTz]⟩
                by_cases hjn : j = nd
                · subst hjn
                  simp [go_sem, q1, hTz]
                · have e1 : ((j : Int) = (nd : Int)) = False := eq_false (by omega)
                  simp [go_sem, q1, hTz, e1]
              case measure => simp [intOf]; omega
            · rw [if_neg hc] at hstep
              have HF := Lib.hid hstep
              have c12 : (y ≤ last) = True ∨ ((y ≤ last) = False ∧ (y ≥ next) = True) := by
                by_cases h1 : y ≤ last
                · exact .inl (eq_true h1)
                · exact .inr ⟨eq_false h1, eq_true (by omega)⟩
              clear hstep hd hR hn hT t1 hin hc
              rcases c12 with c1 | ⟨c1, c2⟩
              all_goals
                go_wp2_with fail
                refine (ci _).mono ?_
                rintro e w1 ⟨rfl, rfl⟩
                go_wp2_with fail
                try rw [Exit.noGoto_ret]
                go_ret
                exact ⟨ret_bool HF.out, hbw.alloc hbz _⟩
      · obtain rfl : k = ms.length := by omega
        have hfin : R = true := by
          rw [← hR.out, List.drop_eq_nil_iff.2 (Nat.le_refl _)]; rfl
        have HF := Lib.hid hfin
        clear hfin hR
        go_wp2_with fail
        try rw [Exit.noGoto_ret]
        go_ret
        exact ⟨ret_bool HF.out.symm, hbw⟩
  · have hr : mayB next ms = false := by unfold mayB; simp [h0]
    rw [hr]
    clear hr
    have g : ((ms.length : Int) < 1) = True ∨ (((ms.length : Int) < 1) = False ∧ ((ms.length : Int) > 5) = True) := by
      by_cases h1 : (ms.length : Int) < 1
      · exact .inl (eq_true h1)
      · exact .inr ⟨eq_false h1, eq_true (by omega)⟩
    clear h0
    rcases g with g1 | ⟨g1, g2⟩
    all_goals
      go_enter Tryz.func127, Tryz.ntmps127
      go_wp2_with fail
      go_ret
      exact ⟨rfl, Below.refl _ _⟩

/-- what Check answers -/
def chkD (d : De) : Int := if isD d = true then 0 else 60

set_option maxHeartbeats 2000000 in
theorem check_any (d : De) (s : Value) (w : World) (hs : SM w w.heap.size s d.ms) (hl : d.ms.length ≤ 140737488355328) (hf : d.f.size ≤ 140737488355328) (ht : d.t.size ≤ 140737488355328) :
    Calls Tryz.prog 70 #[dv d s] w fun e w' => e = .returned (.int .i64 (chkD d)) ∧ Below w.heap.size w w' := by
  have c1 := fun w => isId_any d.id w
  have c2 := fun w => isId_any d.gen w
  have c3 := fun w => isId_any d.next w
  have c4 := fun w => Bnd.check_any d.f d.t w hf ht
  have hck : chkD d = if (idB d.id && idB d.gen && idB d.next && isB d.b && mayB d.next d.ms) = true then 0 else 60 := rfl
  have e4 : chk (B d.f d.t) = if isB d.b = true then 0 else 20 := rfl
  rw [e4] at c4
  obtain ⟨R, hR⟩ : ∃ R, chkD d = R := ⟨_, rfl⟩
  rw [hR]
  rw [hR] at hck
  clear hR e4
  cases h1 : idB d.id with
  | false =>
    rw [h1] at c1 hck
    have HF := Lib.hid hck
    clear h1 hck
    go_enter Tryz.func70, Tryz.ntmps70
    go_wp2_with fail
    refine (c1 _).mono ?_
    rintro e w1 ⟨rfl, rfl⟩
    go_wp2_with fail
    go_ret
    exact ⟨ret_int (by rw [HF.out]; rfl), (Below.refl _ _).alloc (Nat.le_refl _) _⟩
  | true =>
    rw [h1] at c1 hck
    clear h1
    cases h2 : idB d.gen with
    | false =>
      rw [h2] at c2 hck
      have HF := Lib.hid hck
      clear h2 hck
      go_enter Tryz.func70, Tryz.ntmps70
      go_wp2_with fail
      refine (c1 _).mono ?_
      rintro e w1 ⟨rfl, rfl⟩
      go_wp2_with fail
      refine (c2 _).mono ?_
      rintro e w1 ⟨rfl, rfl⟩
      go_wp2_with fail
      go_ret
      exact ⟨ret_int (by rw [HF.out]; rfl), (Below.refl _ _).alloc (Nat.le_refl _) _⟩
    | true =>
      rw [h2] at c2 hck
      clear h2
      cases h3 : idB d.next with
      | false =>
        rw [h3] at c3 hck
        have HF := Lib.hid hck
        clear h3 hck
        go_enter Tryz.func70, Tryz.ntmps70
        go_wp2_with fail
        refine (c1 _).mono ?_
        rintro e w1 ⟨rfl, rfl⟩
        go_wp2_with fail
        refine (c2 _).mono ?_
        rintro e w1 ⟨rfl, rfl⟩
        go_wp2_with fail
        refine (c3 _).mono ?_
        rintro e w1 ⟨rfl, rfl⟩
        go_wp2_with fail
        go_ret
        exact ⟨ret_int (by rw [HF.out]; rfl), (Below.refl _ _).alloc (Nat.le_refl _) _⟩
      | true =>
        rw [h3] at c3 hck
        clear h3
        cases h4 : isB d.b with
        | false =>
          rw [h4] at c4 hck
          have HF := Lib.hid hck
          clear h4 hck
          go_enter Tryz.func70, Tryz.ntmps70
          go_wp2_with fail
          refine (c1 _).mono ?_
          rintro e w1 ⟨rfl, rfl⟩
          go_wp2_with fail
          refine (c2 _).mono ?_
          rintro e w1 ⟨rfl, rfl⟩
          go_wp2_with fail
          refine (c3 _).mono ?_
          rintro e w1 ⟨rfl, rfl⟩
          go_wp2_with fail
          refine (c4 _).mono ?_
          rintro e w1 ⟨rfl, b1⟩
          go_wp2_with fail
          go_ret
          exact ⟨ret_int (by rw [HF.out]; rfl), ((Below.refl _ w).alloc (Nat.le_refl _) _).trans (b1.mono (by simp))⟩
        | true =>
          rw [h4] at c4 hck
          clear h4
          have c5 := fun w hs => mayBe_any d.next s d.ms w hs hl
          cases h5 : mayB d.next d.ms
          all_goals
            rw [h5] at hck c5
            have HF := Lib.hid hck
            clear h5 hck
            go_enter Tryz.func70, Tryz.ntmps70
            go_wp2_with fail
            refine (c1 _).mono ?_
            rintro e w1 ⟨rfl, rfl⟩
            go_wp2_with fail
            refine (c2 _).mono ?_
            rintro e w1 ⟨rfl, rfl⟩
            go_wp2_with fail
            refine (c3 _).mono ?_
            rintro e w1 ⟨rfl, rfl⟩
            go_wp2_with fail
            refine (c4 _).mono ?_
            rintro e w1 ⟨rfl, b1⟩
            obtain ⟨hc, hfz⟩ := bcell b1
            have hz : w.heap.size < w1.heap.size := by have := b1.size; simp at this; omega
            have hb1 : Below w.heap.size w w1 := ((Below.refl _ w).alloc (Nat.le_refl _) _).trans (b1.mono (by simp))
            have hs1 : SM w1 w1.heap.size s d.ms := (hs.below hb1).more hb1.size
            clear b1
            go_wp2_with fail
            refine (c5 _ hs1).mono ?_
            rintro e w2 ⟨rfl, b2⟩
            go_wp2_with fail
            go_ret
            exact ⟨ret_int (by rw [HF.out]; rfl), hb1.trans (b2.mono hb1.size)⟩
end Go.Proofs.YticikmkehobblaaGreatDoor.Ds
