/-
  The law ReelPlays, walked: it answers true, at every argument. No condition but the form's own reach.
-/
import Derived.Test.YtkkakcmgndmfjaaDCrash
import Derived.Test.YtkkakcmgndmfjaaStage
import Derived.Test.YtkkakcmgndmfjaaLawRoom
namespace Go.Proofs.Ytkkakcmgndmfjaa
open Go.RowKit

/-- the world in the middle of the law's test: which reel has done the act already -/
def PS (w : World) (b p : Nat) (m m' : M) (L : Nat → Bool) (wx : World) : Prop :=
  Below w.heap.size w wx ∧ RP b (if L 5 = true then m' else m) wx ∧ RD p (if L 11 = true then m' else m) wx

set_option maxRecDepth 100000 in
set_option maxHeartbeats 16000000 in
theorem plays_in (r : Nat) (v : Value) (xs : List Act) (w : World) (hv : SA w w.heap.size v xs) (hl : xs.length ≤ 140737488355328) (ha : ∀ a ∈ xs, a.ok) (hr : r ≤ 4194304) :
    Calls Try.prog 3 #[.int .i64 r, v] w fun e w' => e = .returned (.bool true) ∧ Below w.heap.size w w' := by
  have cs := c_small v xs w hv hl (fun a h => (ha a h).s)
  obtain ⟨A, c, rfl⟩ := hv.form
  have cn := new_good r w hr
  have cdn := fun w1 => d_new r w1 hr
  go_enter Try.func3, Try.ntmps3
  go_wp2_with fail
  refine cs.mono ?_
  rintro e w' ⟨q, rfl, rfl, hq⟩
  have HQ := Lib.hid hq
  clear hq cs
  cases q with
  | false =>
    go_wp2_with fail
    refine (live_any _).mono ?_
    rintro e w1 ⟨rfl, b1⟩
    go_wp2_with fail
    go_ret
    exact ⟨rfl, b1⟩
  | true =>
    obtain ⟨hl60, hs⟩ := HQ.out rfl
    have HA := Lib.hid ha
    have HS := Lib.hid hs
    clear ha hs HQ
    go_wp2_with fail
    refine cn.mono ?_
    rintro e w1 ⟨rfl, r1, b1, _⟩
    clear cn
    go_wp2_with fail
    refine (num_any _ _).mono ?_
    rintro e w' ⟨rfl, rfl⟩
    go_wp2_with fail
    refine (cdn _).mono ?_
    rintro e w2 ⟨rfl, d2, b2'⟩
    have b2 := below_step b1 b2'
    have r2 := r1.below b2'
    obtain ⟨p, hp⟩ : ∃ p, w1.heap.size = p := ⟨_, rfl⟩
    have hbp : w.heap.size < p := by rw [← hp]; exact r1.lt
    rw [hp] at d2
    simp only [hp]
    obtain ⟨b, hb⟩ : ∃ b, b = w.heap.size := ⟨_, rfl⟩
    rw [← hb] at r2 hbp
    clear b2' b1 r1 cdn hp
    go_wp2_with fail
    go_loopw [8] (fun vi wr => ∃ k : Nat, k ≤ xs.length ∧ vi = .int .i64 (k : Int) ∧ ∃ m : M, m.ok ∧ m.ops ≤ k ∧ RP w.heap.size m wr ∧ RD p m wr ∧ Below w.heap.size w wr) (fun vi _ => xs.length - (intOf vi).toNat)
    case atStart => exact ⟨0, by omega, rfl, M.new r, M.ok.new hr, Nat.le_refl _, by rw [← hb]; exact r2, d2, b2⟩
    case round =>
      clear r2 d2 b2
      obtain ⟨k, hk, rfl, m, hok, hops, hrp, hrd, hbw⟩ := hrel
      by_cases hlt : k < xs.length
      · obtain ⟨bl, o, rfl, hbl, hc⟩ := hv.at_ hlt
        have hao := HA.out xs[k] (List.getElem_mem hlt)
        have hsz := HS.out xs[k] (List.getElem_mem hlt)
        obtain ⟨a, hak⟩ : ∃ a, xs[k] = a := ⟨_, rfl⟩
        rw [hak] at hao hsz hc
        clear hak
        have hcell : ∀ wx, Below w.heap.size w wx → wx.cell? ⟨bl, o + k * 7, none⟩ = some (.int .i64 a.kind) ∧ wx.cell? ⟨bl, o + k * 7 + 1, none⟩ = some (.int .i64 a.t) ∧ wx.cell? ⟨bl, o + k * 7 + 2, none⟩ = some (.string a.s) ∧
            wx.cell? ⟨bl, o + k * 7 + 3, none⟩ = some (.int .i64 a.n) ∧ wx.cell? ⟨bl, o + k * 7 + 4, none⟩ = some (.int .i64 a.k0) ∧ wx.cell? ⟨bl, o + k * 7 + 5, none⟩ = some (.int .i64 a.k1) ∧ wx.cell? ⟨bl, o + k * 7 + 6, none⟩ = some (.int .u8 a.u.toNat) := by
          intro wx hx
          have e := fun j => hx.cell (p := ⟨bl, o + k * 7 + j, none⟩) hbl
          exact ⟨(e 0).trans (hc 0 (by omega)), (e 1).trans (hc 1 (by omega)), (e 2).trans (hc 2 (by omega)), (e 3).trans (hc 3 (by omega)), (e 4).trans (hc 4 (by omega)), (e 5).trans (hc 5 (by omega)), (e 6).trans (hc 6 (by omega))⟩
        have hop : m.ops < 4611686018427387904 := by omega
        have hss : a.s.size ≤ 70368744177664 := by omega
        have hok' := hok.does hao hop
        have hops' := m.does_ops a
        have cd := fun wx (h : RP w.heap.size m wx) => c_does a h hok hao hop hss
        have cm := fun wx (h : RD p m wx) => d_model a h hok hao hop hss
        obtain ⟨f, hf⟩ : ∃ f, (m.does a).1 = f := ⟨_, rfl⟩
        obtain ⟨m', hm'⟩ : ∃ m', (m.does a).2 = m' := ⟨_, rfl⟩
        rw [hf, hm'] at cd cm
        rw [hm'] at hok' hops'
        have hbp' : w.heap.size < p := by rw [← hb]; exact hbp
        have P_does : ∀ L wx, PS w w.heap.size p m m' L wx → L 5 = false → Calls Try.prog 14 #[ptr w.heap.size, actV a] wx fun e w' => e = .returned (.int .i64 f) ∧ PS w w.heap.size p m m' (St.mark L 5) w' := by
          rintro L wx ⟨h1, h2, h3⟩ h5
          rw [if_neg (by rw [h5]; decide)] at h2
          refine (cd wx h2).mono ?_
          rintro e w' ⟨rfl, r', f'⟩
          exact ⟨rfl, h1.trans f'.below, r', h3.fr h2 f' (.inl hbp')⟩
        have P_model : ∀ L wx, PS w w.heap.size p m m' L wx → L 11 = false → Calls Try.prog 15 #[dtr p, actV a] wx fun e w' => e = .returned (.int .i64 f) ∧ PS w w.heap.size p m m' (St.mark L 11) w' := by
          rintro L wx ⟨h1, h2, h3⟩ h11
          rw [if_neg (by rw [h11]; decide)] at h3
          refine (cm wx h3).mono ?_
          rintro e w' ⟨rfl, r', f'⟩
          exact ⟨rfl, h1.trans (f'.below.mono (Nat.le_of_lt hbp')), h2.fd h3 f' (.inl hbp'), r'⟩
        have P_free : ∀ L wx, PS w w.heap.size p m m' L wx → L 11 = true → L 5 = true → Calls Try.prog 16 #[ptr w.heap.size] wx fun e w' => e = .returned (.int .i64 m'.free) ∧ PS w w.heap.size p m m' (St.mark L 15) w' := by
          rintro L wx ⟨h1, h2, h3⟩ h11 h5
          have h2' := h2
          rw [if_pos h5] at h2'
          refine (c_free _ m' wx h2' hok').mono ?_
          rintro e w' ⟨rfl, b'⟩
          exact ⟨rfl, below_step h1 b', h2.below b', h3.below b'⟩
        have P_dfree : ∀ L wx, PS w w.heap.size p m m' L wx → L 11 = true → L 5 = true → Calls Try.prog 17 #[dtr p] wx fun e w' => e = .returned (.int .i64 m'.free) ∧ PS w w.heap.size p m m' (St.mark L 17) w' := by
          rintro L wx ⟨h1, h2, h3⟩ h11 h5
          have h3' := h3
          rw [if_pos h11] at h3'
          refine (d_free h3' hok').mono ?_
          rintro e w' ⟨rfl, b'⟩
          exact ⟨rfl, b'.below h1, h2.below (b'.below (Below.refl _ _)), h3.al b'⟩
        have P_dead : ∀ L wx, PS w w.heap.size p m m' L wx → L 11 = true → L 5 = true → Calls Try.prog 18 #[ptr w.heap.size] wx fun e w' => e = .returned (.bool m'.off) ∧ PS w w.heap.size p m m' (St.mark L 22) w' := by
          rintro L wx ⟨h1, h2, h3⟩ h11 h5
          have h2' := h2
          rw [if_pos h5] at h2'
          refine (c_dead _ m' wx h2').mono ?_
          rintro e w' ⟨rfl, rfl⟩
          exact ⟨rfl, h1, h2, h3⟩
        have P_ops : ∀ L wx, PS w w.heap.size p m m' L wx → L 11 = true → L 5 = true → Calls Try.prog 19 #[ptr w.heap.size] wx fun e w' => e = .returned (.int .i64 m'.ops) ∧ PS w w.heap.size p m m' (St.mark L 31) w' := by
          rintro L wx ⟨h1, h2, h3⟩ h11 h5
          have h2' := h2
          rw [if_pos h5] at h2'
          refine (c_ops _ m' wx h2').mono ?_
          rintro e w' ⟨rfl, rfl⟩
          exact ⟨rfl, h1, h2, h3⟩
        have hS0 : PS w w.heap.size p m m' (fun _ => false) wr.drew := ⟨hbw.drew, hrp.drew, hrd.drew⟩
        have HOK := Lib.hid hok'
        clear hc hf hm' cd cm hok hao hsz hss hop hok' hbw hrp hrd
        go_wp2_with fail
        refine St.wp_region_stage (PS w w.heap.size p m m') (by kernel_rfl) (by kernel_rfl) (by kernel_rfl) hS0 ?_
        apply St.step_give
        · rfl
        · intro L wx hS hcl hrd
          go_simp
          try with_reducible rfl
        · exact fun L wx hS => hS
        simp only [Act.put, List.setIfInBounds_toArray, List.set_cons_zero, List.set_cons_succ]
        apply St.step_give
        · rfl
        · intro L wx hS hcl hrd
          go_simp
          try with_reducible rfl
        · exact fun L wx hS => hS
        simp only [Act.put, List.setIfInBounds_toArray, List.set_cons_zero, List.set_cons_succ]
        apply St.step_give
        · rfl
        · intro L wx hS hcl hrd
          go_simp
          try with_reducible rfl
        · exact fun L wx hS => hS
        simp only [Act.put, List.setIfInBounds_toArray, List.set_cons_zero, List.set_cons_succ]
        apply St.step_give
        · rfl
        · intro L wx hS hcl hrd
          go_simp
          try with_reducible rfl
        · exact fun L wx hS => hS
        simp only [Act.put, List.setIfInBounds_toArray, List.set_cons_zero, List.set_cons_succ]
        apply St.step_give
        · rfl
        · intro L wx hS hcl hrd
          obtain ⟨d0, d1, d2, d3, d4, d5, d6⟩ := hcell wx hS.1
          go_simp
          try with_reducible rfl
        · exact fun L wx hS => hS
        simp only [Act.put, List.setIfInBounds_toArray, List.set_cons_zero, List.set_cons_succ]
        apply St.step_into
        · rfl
        · intro wx
          go_simp
          exact ⟨rfl, rfl⟩
        · exact fun L wx hS hcl hrd => P_does L wx hS hrd.1
        simp only [Act.put, List.setIfInBounds_toArray, List.set_cons_zero, List.set_cons_succ]
        apply St.step_give
        · rfl
        · intro L wx hS hcl hrd
          go_simp
          try with_reducible rfl
        · exact fun L wx hS => hS
        simp only [Act.put, List.setIfInBounds_toArray, List.set_cons_zero, List.set_cons_succ]
        apply St.step_give
        · rfl
        · intro L wx hS hcl hrd
          go_simp
          try with_reducible rfl
        · exact fun L wx hS => hS
        simp only [Act.put, List.setIfInBounds_toArray, List.set_cons_zero, List.set_cons_succ]
        apply St.step_give
        · rfl
        · intro L wx hS hcl hrd
          go_simp
          try with_reducible rfl
        · exact fun L wx hS => hS
        simp only [Act.put, List.setIfInBounds_toArray, List.set_cons_zero, List.set_cons_succ]
        apply St.step_give
        · rfl
        · intro L wx hS hcl hrd
          go_simp
          try with_reducible rfl
        · exact fun L wx hS => hS
        simp only [Act.put, List.setIfInBounds_toArray, List.set_cons_zero, List.set_cons_succ]
        apply St.step_give
        · rfl
        · intro L wx hS hcl hrd
          obtain ⟨d0, d1, d2, d3, d4, d5, d6⟩ := hcell wx hS.1
          go_simp
          try with_reducible rfl
        · exact fun L wx hS => hS
        simp only [Act.put, List.setIfInBounds_toArray, List.set_cons_zero, List.set_cons_succ]
        apply St.step_into
        · rfl
        · intro wx
          go_simp
          exact ⟨rfl, rfl⟩
        · exact fun L wx hS hcl hrd => P_model L wx hS hrd.1
        simp only [Act.put, List.setIfInBounds_toArray, List.set_cons_zero, List.set_cons_succ]
        apply St.step_give
        · rfl
        · intro L wx hS hcl hrd
          go_simp
          try with_reducible rfl
        · exact fun L wx hS => hS
        simp only [Act.put, List.setIfInBounds_toArray, List.set_cons_zero, List.set_cons_succ]
        apply St.step_give
        · rfl
        · intro L wx hS hcl hrd
          go_simp
          try with_reducible rfl
        · exact fun L wx hS => hS
        simp only [Act.put, List.setIfInBounds_toArray, List.set_cons_zero, List.set_cons_succ]
        apply St.step_give
        · rfl
        · intro L wx hS hcl hrd
          go_simp
          try with_reducible rfl
        · exact fun L wx hS => hS
        simp only [Act.put, List.setIfInBounds_toArray, List.set_cons_zero, List.set_cons_succ]
        apply St.step_into
        · rfl
        · intro wx
          go_simp
          exact ⟨rfl, rfl⟩
        · exact fun L wx hS hcl hrd => P_free L wx hS (St.before_ready hcl hrd 40 11 (by kernel_rfl)) (St.before_ready hcl hrd 40 5 (by kernel_rfl))
        simp only [Act.put, List.setIfInBounds_toArray, List.set_cons_zero, List.set_cons_succ]
        apply St.step_give
        · rfl
        · intro L wx hS hcl hrd
          go_simp
          try with_reducible rfl
        · exact fun L wx hS => hS
        simp only [Act.put, List.setIfInBounds_toArray, List.set_cons_zero, List.set_cons_succ]
        apply St.step_into
        · rfl
        · intro wx
          go_simp
          exact ⟨rfl, rfl⟩
        · exact fun L wx hS hcl hrd => P_dfree L wx hS (St.before_ready hcl hrd 40 11 (by kernel_rfl)) (St.before_ready hcl hrd 40 5 (by kernel_rfl))
        simp only [Act.put, List.setIfInBounds_toArray, List.set_cons_zero, List.set_cons_succ]
        apply St.step_give
        · rfl
        · intro L wx hS hcl hrd
          go_simp
          try with_reducible rfl
        · exact fun L wx hS => hS
        simp only [Act.put, List.setIfInBounds_toArray, List.set_cons_zero, List.set_cons_succ]
        apply St.step_give
        · rfl
        · intro L wx hS hcl hrd
          go_simp
          try with_reducible rfl
        · exact fun L wx hS => hS
        simp only [Act.put, List.setIfInBounds_toArray, List.set_cons_zero, List.set_cons_succ]
        apply St.step_give
        · rfl
        · intro L wx hS hcl hrd
          go_simp
          try with_reducible rfl
        · exact fun L wx hS => hS
        simp only [Act.put, List.setIfInBounds_toArray, List.set_cons_zero, List.set_cons_succ]
        apply St.step_give
        · rfl
        · intro L wx hS hcl hrd
          go_simp
          try with_reducible rfl
        · exact fun L wx hS => hS
        simp only [Act.put, List.setIfInBounds_toArray, List.set_cons_zero, List.set_cons_succ]
        apply St.step_into
        · rfl
        · intro wx
          go_simp
          exact ⟨rfl, rfl⟩
        · exact fun L wx hS hcl hrd => P_dead L wx hS (St.before_ready hcl hrd 40 11 (by kernel_rfl)) (St.before_ready hcl hrd 40 5 (by kernel_rfl))
        simp only [Act.put, List.setIfInBounds_toArray, List.set_cons_zero, List.set_cons_succ]
        apply St.step_give
        · rfl
        · intro L wx hS hcl hrd
          go_simp
          try with_reducible rfl
        · exact fun L wx hS => hS
        simp only [Act.put, List.setIfInBounds_toArray, List.set_cons_zero, List.set_cons_succ]
        apply St.step_give
        · rfl
        · intro L wx hS hcl hrd
          go_simp
          try with_reducible rfl
        · exact fun L wx hS => hS
        simp only [Act.put, List.setIfInBounds_toArray, List.set_cons_zero, List.set_cons_succ]
        apply St.step_give
        · rfl
        · intro L wx hS hcl hrd
          go_simp
          try with_reducible rfl
        · exact fun L wx hS => hS
        simp only [Act.put, List.setIfInBounds_toArray, List.set_cons_zero, List.set_cons_succ]
        apply St.step_give
        · rfl
        · intro L wx hS hcl hrd
          have h11 : L 11 = true := St.before_ready hcl hrd 40 11 (by kernel_rfl)
          have rd := hS.2.2
          rw [if_pos h11] at rd
          have cc := rd.cells.c4
          go_simp
          try with_reducible rfl
        · exact fun L wx hS => hS
        simp only [Act.put, List.setIfInBounds_toArray, List.set_cons_zero, List.set_cons_succ]
        apply St.step_give
        · rfl
        · intro L wx hS hcl hrd
          go_simp
          try with_reducible rfl
        · exact fun L wx hS => hS
        simp only [Act.put, List.setIfInBounds_toArray, List.set_cons_zero, List.set_cons_succ]
        apply St.step_give
        · rfl
        · intro L wx hS hcl hrd
          go_simp
          try with_reducible rfl
        · exact fun L wx hS => hS
        simp only [Act.put, List.setIfInBounds_toArray, List.set_cons_zero, List.set_cons_succ]
        apply St.step_give
        · rfl
        · intro L wx hS hcl hrd
          go_simp
          try with_reducible rfl
        · exact fun L wx hS => hS
        simp only [Act.put, List.setIfInBounds_toArray, List.set_cons_zero, List.set_cons_succ]
        apply St.step_give
        · rfl
        · intro L wx hS hcl hrd
          go_simp
          try with_reducible rfl
        · exact fun L wx hS => hS
        simp only [Act.put, List.setIfInBounds_toArray, List.set_cons_zero, List.set_cons_succ]
        apply St.step_into
        · rfl
        · intro wx
          go_simp
          exact ⟨rfl, rfl⟩
        · exact fun L wx hS hcl hrd => P_ops L wx hS (St.before_ready hcl hrd 40 11 (by kernel_rfl)) (St.before_ready hcl hrd 40 5 (by kernel_rfl))
        simp only [Act.put, List.setIfInBounds_toArray, List.set_cons_zero, List.set_cons_succ]
        apply St.step_give
        · rfl
        · intro L wx hS hcl hrd
          go_simp
          try with_reducible rfl
        · exact fun L wx hS => hS
        simp only [Act.put, List.setIfInBounds_toArray, List.set_cons_zero, List.set_cons_succ]
        apply St.step_give
        · rfl
        · intro L wx hS hcl hrd
          go_simp
          try with_reducible rfl
        · exact fun L wx hS => hS
        simp only [Act.put, List.setIfInBounds_toArray, List.set_cons_zero, List.set_cons_succ]
        apply St.step_give
        · rfl
        · intro L wx hS hcl hrd
          go_simp
          try with_reducible rfl
        · exact fun L wx hS => hS
        simp only [Act.put, List.setIfInBounds_toArray, List.set_cons_zero, List.set_cons_succ]
        apply St.step_give
        · rfl
        · intro L wx hS hcl hrd
          have h11 : L 11 = true := St.before_ready hcl hrd 40 11 (by kernel_rfl)
          have rd := hS.2.2
          rw [if_pos h11] at rd
          have cc := rd.cells.c5
          go_simp
          try with_reducible rfl
        · exact fun L wx hS => hS
        simp only [Act.put, List.setIfInBounds_toArray, List.set_cons_zero, List.set_cons_succ]
        apply St.step_give
        · rfl
        · intro L wx hS hcl hrd
          go_simp
          try with_reducible rfl
        · exact fun L wx hS => hS
        simp only [Act.put, List.setIfInBounds_toArray, List.set_cons_zero, List.set_cons_succ]
        apply St.step_give
        · rfl
        · intro L wx hS hcl hrd
          go_simp
          try with_reducible rfl
        · exact fun L wx hS => hS
        simp only [Act.put, List.setIfInBounds_toArray, List.set_cons_zero, List.set_cons_succ]
        refine St.step_last ?_
        intro L wx hS hall
        obtain ⟨hbw, hrp, hrd⟩ := hS
        rw [if_pos (hall 5 (by decide))] at hrp
        rw [if_pos (hall 11 (by decide))] at hrd
        clear hall P_does P_model P_free P_dfree P_dead P_ops hcell
        go_wp2_with fail
        go_loopw [9] (fun vt wy => ∃ j : Nat, j ≤ 4 ∧ vt = .int .i64 ((j : Int) - 1) ∧ RP w.heap.size m' wy ∧ RD p m' wy ∧ Below w.heap.size w wy) (fun vt _ => 4 - (intOf vt + 1).toNat)
        case atStart => exact ⟨0, by omega, rfl, hrp, hrd, hbw⟩
        case round =>
          clear hrp hrd hbw
          obtain ⟨j, hj, rfl, hrp, hrd, hbw⟩ := hrel
          by_cases hjl : j < 4
          · obtain ⟨t, ht⟩ : ∃ t : Int, (j : Int) - 1 = t := ⟨_, rfl⟩
            have ht2 : t ≤ 2 := by omega
            have ht1 : -1 ≤ t := by omega
            have c1 := c_read t hrp
            have c2 := d_read t hrd
            obtain ⟨X, hX⟩ : ∃ X, tx (m'.read t).1 = X := ⟨_, rfl⟩
            obtain ⟨E, hE⟩ : ∃ E, (m'.read t).2 = E := ⟨_, rfl⟩
            rw [hX, hE] at c1 c2
            rw [ht]
            have HT := Lib.hid ht
            clear hX hE ht
            go_wp2_with fail
            refine c1.mono ?_
            rintro e w' ⟨rfl, rfl⟩
            go_wp2_with fail
            refine c2.mono ?_
            rintro e w' ⟨rfl, rfl⟩
            go_wp2_with fail
            refine (num_any _ _).mono ?_
            rintro e w' ⟨rfl, rfl⟩
            go_wp2_with fail
            go_roundw
            case rel => exact ⟨j + 1, by omega, by have := HT.out; congr 1; omega, hrp, hrd, hbw⟩
            case measure => have := HT.out; simp [intOf]; omega
          · obtain rfl : j = 4 := by omega
            go_wp2_with fail
            go_roundw
            case rel => exact ⟨k + 1, by omega, by go_num, m', HOK.out, by omega, hrp, hrd, hbw⟩
            case measure => simp [intOf]; omega
      · obtain rfl : k = xs.length := by omega
        clear hrp hrd hok
        go_wp2_with fail
        refine (live_any _).mono ?_
        rintro e w6 ⟨rfl, b6⟩
        go_wp2_with fail
        try rw [Exit.noGoto_ret]
        go_ret
        exact ⟨rfl, below_step hbw b6⟩

set_option maxRecDepth 100000 in
set_option maxHeartbeats 4000000 in
theorem walk_plays (r : Int) (v : Value) (xs : List Act) (w : World) (hv : SA w w.heap.size v xs) (hl : xs.length ≤ 140737488355328) (ha : ∀ a ∈ xs, a.ok) :
    Calls Try.prog 3 #[.int .i64 r, v] w fun e w' => e = .returned (.bool true) ∧ Below w.heap.size w w' := by
  have cs := c_small v xs w hv hl (fun a h => (ha a h).s)
  by_cases hr : 0 ≤ r ∧ r ≤ 4194304
  · obtain ⟨k, rfl⟩ : ∃ k : Nat, r = k := ⟨r.toNat, by omega⟩
    exact plays_in k v xs w hv hl ha (by omega)
  have hbad : r < 0 ∨ 4194304 < r := by omega
  have cn := fun w => new_bad r w hbad
  have HA := Lib.hid ha
  clear ha hr
  rcases hbad with h0 | h0
  all_goals
    go_enter Try.func3, Try.ntmps3
    go_wp2_with fail
    refine cs.mono ?_
    rintro e w' ⟨q, rfl, rfl, _⟩
    cases q
    · go_wp2_with fail
      refine (live_any _).mono ?_
      rintro e w1 ⟨rfl, b1⟩
      go_wp2_with fail
      go_ret
      exact ⟨rfl, b1⟩
    · go_wp2_with fail
      refine (cn _).mono ?_
      rintro e w' ⟨rfl, rfl⟩
      go_wp2_with fail
      refine (num_any _ _).mono ?_
      rintro e w' ⟨rfl, rfl⟩
      go_wp2_with fail
      refine (live_any _).mono ?_
      rintro e w1 ⟨rfl, b1⟩
      go_wp2_with fail
      go_ret
      exact ⟨rfl, b1⟩

end Go.Proofs.Ytkkakcmgndmfjaa
