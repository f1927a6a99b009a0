/-
  The law LedgerPlays, walked: it answers true, at every argument. Conditions: the form's own reach; the library's variables hold what their types allow.
-/
import Derived.Test.YtglkapamkigdhaaGreatDoorPlaysR
import Derived.Test.YtglkapamkigdhaaGreatDoorLastsM
import Derived.Test.YtglkapamkigdhaaGreatDoorLiveAll
namespace Go.Proofs.YtglkapamkigdhaaGreatDoor.Rl
open Go.RowKit
open Go.Proofs.YtglkapamkigdhaaGreatDoor.M (pageT kBase kRec inR tellT tell_len)

set_option maxHeartbeats 64000000 in
set_option maxRecDepth 100000 in
theorem plays_u (r : Nat) (v : Value) (xs : List Act) (w : World) (hv : SA w w.heap.size v xs) (hl : xs.length ≤ 140737488355328) (ha : ∀ a ∈ xs, a.ok) (hr : r ≤ 100000) (hg : Good w)  :
    Calls Tryz.prog 3 #[.int .i64 r, v] w fun e w' => e = .returned (.bool true) ∧ Below w.heap.size w w' := by
  have cs := c_small v xs w hv hl (fun a h => (ha a h).s)
  obtain ⟨A, c, rfl⟩ := hv.form
  have h3 := hg.size
  have cn := new_good r w (by omega)
  have cdn := fun w1 => d_new r w1 (by omega)
  have hri : (r : Int) ≤ 100000 := by omega
  have hri2 : ¬ (100000 : Int) < (r : Int) := by omega
  have hri0 : ¬ (r : Int) < 0 := by omega
  go_enter Tryz.func3, Tryz.ntmps3
  go_wp2_with fail
  refine cs.mono ?_
  rintro e w' ⟨q, rfl, rfl, hq⟩
  have HQ := Lib.hid hq
  clear hq cs
  cases q with
  | false =>
    go_wp2_with fail
    refine (live_any _ hg).mono ?_
    rintro e w1 ⟨rfl, b1⟩
    go_wp2_with fail
    go_ret
    exact ⟨rfl, b1⟩
  | true =>
    obtain ⟨hl50, hs⟩ := HQ.out rfl
    have HA := Lib.hid ha
    have HS := Lib.hid hs
    clear ha hs HQ
    go_wp2_with fail
    refine cn.mono ?_
    rintro e w1 ⟨rfl, r1, b1, _⟩
    clear cn
    go_wp2_with fail
    refine (num_any _ _).mono ?_
    rintro e w' ⟨rfl, rfl⟩
    go_wp2_with fail
    refine (cdn _).mono ?_
    rintro e w2 ⟨rfl, d2, b2'⟩
    have b2 := b1.trans (b2'.mono b1.size)
    have r2 := r1.below b2'
    obtain ⟨p, hp⟩ : ∃ p, w1.heap.size = p := ⟨_, rfl⟩
    have hbp : w.heap.size < p := by rw [← hp]; exact r1.lt
    rw [hp] at d2
    simp only [hp]
    have k0 : (M.new r).ok := M.ok.new (by omega)
    have o0 : (M.new r).ops = 0 := rfl
    clear b2' b1 r1 cdn hp
    have co := fun wx (h : RP w.heap.size (M.new r) wx) (hg : Good wx) => u_open h k0 (by rw [o0]; decide) hg
    have dof := fun wx (h : RD p (M.new r) wx) => ud_open h k0 (by rw [o0]; decide)
    have ol := fun (e : Int) (l : Lg) (b : Text) (xs : List Text) (m' : M) (h : openM (M.new r) = (e, some (l, b, xs), m')) => openM_l k0 h
    obtain ⟨⟨x, oo, m1⟩, hO⟩ : ∃ rr, openM (M.new r) = rr := ⟨_, rfl⟩
    have k1 := openM_ok' k0 (by rw [o0]; decide) hO
    rw [hO] at co dof
    have hll : ∀ l, oo.map (·.1) = some l → isT l.t = true ∧ 0 ≤ l.epoch ∧ l.epoch ≤ 4611686018427387904 + ((0 : Nat) : Int) ∧ l.n ≤ 4194304 + 0 := by
      intro l hl
      cases oo with
      | none => cases hl
      | some t =>
        obtain ⟨l2, b2, x2⟩ := t
        injection hl with hl
        subst hl
        obtain ⟨g1, g2, g3, g4, _⟩ := ol _ _ _ _ _ hO
        exact ⟨g1, g2, by push_cast; omega, by omega⟩
    have HLL := Lib.hid hll
    clear hO ol hll
    go_wp2_with fail
    refine (co _ r2 (hg.since h3 b2)).mono ?_
    rintro e w3 ⟨P, T, A2, n2, c2, rfl, R3, f3, hP⟩
    have D3 := d2.fr r2 f3 (.inl hbp)
    have B3 := b2.trans f3.below
    clear co f3
    go_wp2_with fail
    refine (dof _ D3).mono ?_
    rintro e w4 ⟨P', T', A3, n3, c3, rfl, D4, f4, hP'⟩
    have R4 := R3.fd D3 f4 (.inl hbp)
    have B4 := B3.trans (f4.below.mono (Nat.le_of_lt hbp))
    obtain ⟨z, hz, hz', hld⟩ := u_led hP hP' f4 hbp (by have := d2.lt; have := r2.lt; omega) (by have := D3.lt; omega) (by omega)
    have HPW := Lib.hid (show PW w.heap.size m1 (oo.map (·.1)) p (.pointer P) (.pointer P') w4 from ⟨R4, D4, hld, hbp⟩)
    have HB4 := Lib.hid B4
    clear dof D3 R3 f4 D4 R4 B3 B4 hP hP' hld r2 d2
    go_wp2_with fail
    refine (num_any _ _).mono ?_
    rintro e w' ⟨rfl, rfl⟩
    have csm := c_same HPW.out.rp HPW.out.rd
    go_wp2_with fail
    refine csm.mono ?_
    rintro e w' ⟨rfl, rfl⟩
    clear csm hz hz'
    go_wp2_with fail
    have HST := Lib.hid (show LR w p 0 (.pointer P) (.pointer P') w4 from ⟨⟨m1, (oo.map (·.1)), HPW.out, k1.1, by have := k1.2; omega, HLL.out⟩, HB4.out⟩)
    clear HPW k1 k0 o0 HB4 HLL
    go_wp2_with fail
    go_loopw [8, 12, 16] (fun va vb vi wr => ∃ k : Nat, k ≤ xs.length ∧ vi = .int .i64 (k : Int) ∧ LR w p k va vb wr) (fun _ _ vi _ => xs.length - (intOf vi).toNat)
    case atStart => exact ⟨0, by omega, rfl, HST.out⟩
    case round =>
      clear HST
      obtain ⟨k, hk, rfl, ⟨m, o, hPW, hok, hops, hlo⟩, hbw⟩ := hrel
      by_cases hlt : k < xs.length
      · have hlti : (k : Int) < (xs.length : Int) := by omega
        obtain ⟨bl, ao, rfl, hbl, hc⟩ := hv.at_ hlt
        have hao := HA.out xs[k] (List.getElem_mem hlt)
        have hsz := HS.out xs[k] (List.getElem_mem hlt)
        obtain ⟨a, hak⟩ : ∃ a, xs[k] = a := ⟨_, rfl⟩
        rw [hak] at hao hsz hc
        clear hak
        have e := fun j => hbw.cell (p := ⟨bl, ao + k * 6 + j, none⟩) hbl
        have d0 := (e 0).trans (hc 0 (by omega))
        have d1 := (e 1).trans (hc 1 (by omega))
        have d2 := (e 2).trans (hc 2 (by omega))
        have d3 := (e 3).trans (hc 3 (by omega))
        have d4 := (e 4).trans (hc 4 (by omega))
        have d5 := (e 5).trans (hc 5 (by omega))
        simp only [actC, Nat.add_zero] at d0 d1 d2 d3 d4 d5
        clear e hc
        have HAO := Lib.hid hao
        have HSZ := Lib.hid hsz
        obtain ⟨kd, s, nn, k0, k1, u⟩ := a
        dsimp only at d0 d1 d2 d3 d4 d5
        clear hao hsz
        have hB1 : Below wr.heap.size wr (wr.alloc (.cells #[.int .i64 kd, .string s, .int .i64 nn, .int .i64 k0, .int .i64 k1, .int .u8 u.toNat] 44)) := (Below.refl _ wr).alloc (Nat.le_refl _) _
        have hBx : Bx wr.heap.size ⟨kd, s, nn, k0, k1, u⟩ (wr.alloc (.cells #[.int .i64 kd, .string s, .int .i64 nn, .int .i64 k0, .int .i64 k1, .int .u8 u.toNat] 44)) := heap_alloc_new wr _
        obtain ⟨W1, hW1⟩ : ∃ W1, W1 = wr.alloc (.cells #[.int .i64 kd, .string s, .int .i64 nn, .int .i64 k0, .int .i64 k1, .int .u8 u.toNat] 44) := ⟨_, rfl⟩
        rw [← hW1] at hB1 hBx
        have hgp : p + 2 < wr.heap.size := hPW.rd.lt
        have hnp := hPW.np
        have PW1 := Lib.hid (hPW.below hB1)
        have BW1 := Lib.hid (show Below w.heap.size w W1 from hbw.trans (hB1.mono hbw.size))
        have HW1 := Lib.hid hW1
        have HBX := Lib.hid hBx
        have HOK := Lib.hid hok
        have HLO := Lib.hid hlo
        have hops' : m.ops ≤ 254 := by omega
        have FINT := Lib.hid (show ∀ (m2 : M) (o2 : Option Lg) (va vb : Value) (w4 : World), PW w.heap.size m2 o2 p va vb w4 → m2.ok → m2.ops ≤ m.ops + 5 → (∀ l, o2 = some l → isT l.t = true ∧ 0 ≤ l.epoch ∧ l.epoch ≤ 4611686018427387904 + ((k + 1 : Nat) : Int) ∧ l.n ≤ 4194304 + (k + 1)) → Below w.heap.size w w4 → LR w p (k + 1) va vb w4 from
          fun m2 o2 va vb w4 h1 h2 h3 h4 h5 => ⟨⟨m2, o2, h1, h2, by omega, h4⟩, h5⟩)
        have HLO1 := Lib.hid (show ∀ l, o = some l → isT l.t = true ∧ 0 ≤ l.epoch ∧ l.epoch ≤ 4611686018427387904 + ((k + 1 : Nat) : Int) ∧ l.n ≤ 4194304 + (k + 1) from fun l h => by
          obtain ⟨h1, h2, h3, h4⟩ := hlo l h
          exact ⟨h1, h2, by push_cast; omega, by omega⟩)
        have LQ : ∀ l, o = some l → ∀ q : Nat, True := fun _ _ _ => trivial
        have HPW0 := Lib.hid hPW
        clear hPW hok hlo hB1 hBx hbw LQ hops
        by_cases hk0 : kd = 0
        · subst hk0
          as_aux_lemma =>
            cases o with
            | none =>
              obtain ⟨rfl, rfl⟩ := PW1.out.led
              have FIN := Lib.hid (FINT.out m none (.pointer none) (.pointer none) W1 PW1.out HOK.out (by omega) HLO1.out BW1.out)
              clear hW1
              go_wp2_with fail
              rw [← HW1.out]
              go_roundw
              case rel => exact ⟨k + 1, by omega, by go_num, FIN.out⟩
              case measure => simp [intOf]; omega
            | some l =>
              obtain ⟨q, q', rfl, rfl, hLP, hLD, hq, hq', hne⟩ := PW1.out.led
              have hgq : wr.heap.size ≠ q := by have := HPW0.out.lp.1.lt; omega
              have hgq' : wr.heap.size ≠ q' := by have := HPW0.out.lp.2.lt; omega
              clear hLP hLD
              obtain ⟨hl1, hl2, hl3, hl4⟩ := HLO.out l rfl
              have hlok : l.ok := ⟨hl1, hl2, by omega, by omega⟩
              have ca := fun wx (h : LP q w.heap.size l wx) (h2 : RP w.heap.size m wx) => l_add s h h2 HOK.out (by omega) hlok
              have cd := fun wx (h : LD q' p l wx) (h2 : RD p m wx) => d_add s h h2 hq' HOK.out (by omega) hlok
              have hk4 := addM_ok l HOK.out (by omega) s.data.toList
              have hl4' := addM_l l m s.data.toList
              obtain ⟨r4, hr4⟩ : ∃ r4, addM l m s.data.toList = r4 := ⟨_, rfl⟩
              rw [hr4] at ca cd hk4 hl4'
              obtain ⟨e4, l4, m4⟩ := r4
              simp only at ca cd hk4 hl4'
              clear hr4
              have AP : Apart w.heap.size p q q' wr.heap.size := ⟨hnp, hq, hq', hne, hgp, hgq, hgq'⟩
              have hlo4 : ∀ l, some l4 = some l → isT l.t = true ∧ 0 ≤ l.epoch ∧ l.epoch ≤ 4611686018427387904 + ((k + 1 : Nat) : Int) ∧ l.n ≤ 4194304 + (k + 1) := by
                intro l' e
                injection e with e
                subst e
                obtain ⟨z1, z2, z3⟩ := hl4'
                exact ⟨by rw [z1]; exact hl1, by omega, by push_cast; omega, by omega⟩
              have hS0 : Pr w w.heap.size p q q' wr.heap.size ⟨0, s, nn, k0, k1, u⟩ m m4 l l4 3 8 (fun _ => false) W1.drew := by
                have P0 := PW1.out.drew
                exact ⟨P0.rp, P0.lp.1, P0.rd, P0.lp.2, HBX.out.below ((Below.refl _ W1).drew), BW1.out.drew⟩
              have HLO4 := Lib.hid hlo4
              clear hlok hlo4 hl1 hl2 hl3 hl4 hl4' hW1
              go_wp2_with fail
              rw [← HW1.out]
              refine St.wp_region_stage (Pr w w.heap.size p q q' wr.heap.size ⟨0, s, nn, k0, k1, u⟩ m m4 l l4 3 8) (by kernel_rfl) (by kernel_rfl) (by kernel_rfl) hS0 ?_
              repeat (first
                | (apply St.step_past
                   · rfl
                   · exact fun L w hS => ⟨hS.rp, hS.lp, hS.rd, hS.ld, hS.bx, hS.below⟩
                   simp only [Act.put, List.setIfInBounds_toArray, List.set_cons_zero, List.set_cons_succ])
                | (apply St.step_give
                   · rfl
                   · intro L wx hS hcl hrd
                     obtain ⟨x0, x1, x2, x3, x4, x5⟩ := hS.bx.cells
                     dsimp only at x0 x1 x2 x3 x4 x5
                     go_simp
                     try with_reducible rfl
                   · exact fun L w hS => ⟨hS.rp, hS.lp, hS.rd, hS.ld, hS.bx, hS.below⟩
                   simp only [Act.put, List.setIfInBounds_toArray, List.set_cons_zero, List.set_cons_succ])
                | (apply St.step_into
                   · rfl
                   · intro wx
                     go_simp
                     exact ⟨rfl, rfl⟩
                   · first | exact fun L wx hS hcl hrd => hS.prog (by decide) AP hrd.1 ca | exact fun L wx hS hcl hrd => hS.doc (by decide) AP hrd.1 cd | exact fun L wx hS hcl hrd => (num_any _ _).mono (by rintro e w' ⟨rfl, rfl⟩; exact ⟨rfl, ⟨hS.rp, hS.lp, hS.rd, hS.ld, hS.bx, hS.below⟩⟩)
                   simp only [Act.put, List.setIfInBounds_toArray, List.set_cons_zero, List.set_cons_succ]))
              refine St.step_last ?_
              intro L wx hS hall
              have P5 := Lib.hid (show PW w.heap.size m4 (some l4) p (ptr q) (ptr q') wx from by
                obtain ⟨g1, g2, g3, g4, _, _⟩ := hS
                rw [if_pos (hall 3 (by decide))] at g1 g2
                rw [if_pos (hall 8 (by decide))] at g3 g4
                exact ⟨g1, g3, ⟨q, q', rfl, rfl, g2, g4, hq, hq', hne⟩, hnp⟩)
              have B5 := hS.below
              clear hS hall hS0 ca cd AP
              have csm := c_same P5.out.rp P5.out.rd
              have HB4 := Lib.hid (B5)
              have HK4 := Lib.hid (hk4.1)
              have HO4 := Lib.hid (show m4.ops ≤ m.ops + 5 by have := hk4.2; omega)
              have HL4 := Lib.hid (HLO4.out)
              clear hk4 B5
              go_wp2_with fail
              refine csm.mono ?_
              rintro e w' ⟨rfl, rfl⟩
              clear csm
              go_wp2_with fail
              refine St.wp_region_stage (fun _ wx => PW w.heap.size m4 (some l4) p (ptr q) (ptr q') wx ∧ Below w.heap.size w wx) (by kernel_rfl) (by kernel_rfl) (by kernel_rfl) ⟨P5.out.drew, HB4.out.drew⟩ ?_
              repeat (first
                | (apply St.step_past
                   · rfl
                   · exact fun L w hS => hS
                   simp only [Act.put, List.setIfInBounds_toArray, List.set_cons_zero, List.set_cons_succ])
                | (apply St.step_give
                   · rfl
                   · intro L wx hS hcl hrd
                     obtain ⟨c0, c1, c2, c3, c4, fz⟩ := hS.1.lp.2.cells
                     go_simp
                     try with_reducible rfl
                   · exact fun L w hS => hS
                   simp only [Act.put, List.setIfInBounds_toArray, List.set_cons_zero, List.set_cons_succ])
                | (apply St.step_into
                   · rfl
                   · intro wx
                     go_simp
                     exact ⟨rfl, rfl⟩
                   · first | exact fun L wx hS hcl hrd => (l_epoch hS.1.lp.1).mono (by rintro e w' ⟨rfl, rfl⟩; exact ⟨rfl, hS⟩) | exact fun L wx hS hcl hrd => (l_records hS.1.lp.1).mono (by rintro e w' ⟨rfl, rfl⟩; exact ⟨rfl, hS⟩) | exact fun L wx hS hcl hrd => (l_broken hS.1.lp.1).mono (by rintro e w' ⟨rfl, rfl⟩; exact ⟨rfl, hS⟩)
                   simp only [Act.put, List.setIfInBounds_toArray, List.set_cons_zero, List.set_cons_succ]))
              refine St.step_last ?_
              intro L wx hS hall
              have FIN := Lib.hid (FINT.out m4 (some l4) (ptr q) (ptr q') wx hS.1 HK4.out HO4.out HL4.out hS.2)
              clear hS hall P5 HB4 HK4 HO4 HL4
              go_wp2_with fail
              go_roundw
              case rel => exact ⟨k + 1, by omega, by go_num, FIN.out⟩
              case measure => simp [intOf]; omega
        by_cases hk1 : kd = 1
        · subst hk1
          as_aux_lemma =>
            cases o with
            | none =>
              obtain ⟨rfl, rfl⟩ := PW1.out.led
              have FIN := Lib.hid (FINT.out m none (.pointer none) (.pointer none) W1 PW1.out HOK.out (by omega) HLO1.out BW1.out)
              clear hW1
              go_wp2_with fail
              rw [← HW1.out]
              go_roundw
              case rel => exact ⟨k + 1, by omega, by go_num, FIN.out⟩
              case measure => simp [intOf]; omega
            | some l =>
              obtain ⟨q, q', rfl, rfl, hLP, hLD, hq, hq', hne⟩ := PW1.out.led
              have hgq : wr.heap.size ≠ q := by have := HPW0.out.lp.1.lt; omega
              have hgq' : wr.heap.size ≠ q' := by have := HPW0.out.lp.2.lt; omega
              clear hLP hLD
              obtain ⟨hl1, hl2, hl3, hl4⟩ := HLO.out l rfl
              have hlok : l.ok := ⟨hl1, hl2, by omega, by omega⟩
              have ca := fun wx (h : LP q w.heap.size l wx) (h2 : RP w.heap.size m wx) => l_base s h h2 HOK.out (by omega) hlok
              have cd := fun wx (h : LD q' p l wx) (h2 : RD p m wx) => d_base s h h2 hq' HOK.out (by omega) hlok
              have hk4 := baseM_ok l HOK.out (by omega) s.data.toList
              have hl4' := baseM_l l m s.data.toList
              obtain ⟨r4, hr4⟩ : ∃ r4, baseM l m s.data.toList = r4 := ⟨_, rfl⟩
              rw [hr4] at ca cd hk4 hl4'
              obtain ⟨e4, l4, m4⟩ := r4
              simp only at ca cd hk4 hl4'
              clear hr4
              have AP : Apart w.heap.size p q q' wr.heap.size := ⟨hnp, hq, hq', hne, hgp, hgq, hgq'⟩
              have hlo4 : ∀ l, some l4 = some l → isT l.t = true ∧ 0 ≤ l.epoch ∧ l.epoch ≤ 4611686018427387904 + ((k + 1 : Nat) : Int) ∧ l.n ≤ 4194304 + (k + 1) := by
                intro l' e
                injection e with e
                subst e
                obtain ⟨z1, ⟨z2, z3⟩, z4⟩ := hl4'
                refine ⟨?_, by omega, by push_cast; omega, by omega⟩
                rcases z1 with z1 | z1
                · rw [z1]; exact hl1
                · rw [z1]; exact isT_other hl1
              have hS0 : Pr w w.heap.size p q q' wr.heap.size ⟨1, s, nn, k0, k1, u⟩ m m4 l l4 3 8 (fun _ => false) W1.drew := by
                have P0 := PW1.out.drew
                exact ⟨P0.rp, P0.lp.1, P0.rd, P0.lp.2, HBX.out.below ((Below.refl _ W1).drew), BW1.out.drew⟩
              have HLO4 := Lib.hid hlo4
              clear hlok hlo4 hl1 hl2 hl3 hl4 hl4' hW1
              go_wp2_with fail
              rw [← HW1.out]
              refine St.wp_region_stage (Pr w w.heap.size p q q' wr.heap.size ⟨1, s, nn, k0, k1, u⟩ m m4 l l4 3 8) (by kernel_rfl) (by kernel_rfl) (by kernel_rfl) hS0 ?_
              repeat (first
                | (apply St.step_past
                   · rfl
                   · exact fun L w hS => ⟨hS.rp, hS.lp, hS.rd, hS.ld, hS.bx, hS.below⟩
                   simp only [Act.put, List.setIfInBounds_toArray, List.set_cons_zero, List.set_cons_succ])
                | (apply St.step_give
                   · rfl
                   · intro L wx hS hcl hrd
                     obtain ⟨x0, x1, x2, x3, x4, x5⟩ := hS.bx.cells
                     dsimp only at x0 x1 x2 x3 x4 x5
                     go_simp
                     try with_reducible rfl
                   · exact fun L w hS => ⟨hS.rp, hS.lp, hS.rd, hS.ld, hS.bx, hS.below⟩
                   simp only [Act.put, List.setIfInBounds_toArray, List.set_cons_zero, List.set_cons_succ])
                | (apply St.step_into
                   · rfl
                   · intro wx
                     go_simp
                     exact ⟨rfl, rfl⟩
                   · first | exact fun L wx hS hcl hrd => hS.prog (by decide) AP hrd.1 ca | exact fun L wx hS hcl hrd => hS.doc (by decide) AP hrd.1 cd | exact fun L wx hS hcl hrd => (num_any _ _).mono (by rintro e w' ⟨rfl, rfl⟩; exact ⟨rfl, ⟨hS.rp, hS.lp, hS.rd, hS.ld, hS.bx, hS.below⟩⟩)
                   simp only [Act.put, List.setIfInBounds_toArray, List.set_cons_zero, List.set_cons_succ]))
              refine St.step_last ?_
              intro L wx hS hall
              have P5 := Lib.hid (show PW w.heap.size m4 (some l4) p (ptr q) (ptr q') wx from by
                obtain ⟨g1, g2, g3, g4, _, _⟩ := hS
                rw [if_pos (hall 3 (by decide))] at g1 g2
                rw [if_pos (hall 8 (by decide))] at g3 g4
                exact ⟨g1, g3, ⟨q, q', rfl, rfl, g2, g4, hq, hq', hne⟩, hnp⟩)
              have B5 := hS.below
              clear hS hall hS0 ca cd AP
              have csm := c_same P5.out.rp P5.out.rd
              have HB4 := Lib.hid (B5)
              have HK4 := Lib.hid (hk4.1)
              have HO4 := Lib.hid (show m4.ops ≤ m.ops + 5 by have := hk4.2; omega)
              have HL4 := Lib.hid (HLO4.out)
              clear hk4 B5
              go_wp2_with fail
              refine csm.mono ?_
              rintro e w' ⟨rfl, rfl⟩
              clear csm
              go_wp2_with fail
              refine St.wp_region_stage (fun _ wx => PW w.heap.size m4 (some l4) p (ptr q) (ptr q') wx ∧ Below w.heap.size w wx) (by kernel_rfl) (by kernel_rfl) (by kernel_rfl) ⟨P5.out.drew, HB4.out.drew⟩ ?_
              repeat (first
                | (apply St.step_past
                   · rfl
                   · exact fun L w hS => hS
                   simp only [Act.put, List.setIfInBounds_toArray, List.set_cons_zero, List.set_cons_succ])
                | (apply St.step_give
                   · rfl
                   · intro L wx hS hcl hrd
                     obtain ⟨c0, c1, c2, c3, c4, fz⟩ := hS.1.lp.2.cells
                     go_simp
                     try with_reducible rfl
                   · exact fun L w hS => hS
                   simp only [Act.put, List.setIfInBounds_toArray, List.set_cons_zero, List.set_cons_succ])
                | (apply St.step_into
                   · rfl
                   · intro wx
                     go_simp
                     exact ⟨rfl, rfl⟩
                   · first | exact fun L wx hS hcl hrd => (l_epoch hS.1.lp.1).mono (by rintro e w' ⟨rfl, rfl⟩; exact ⟨rfl, hS⟩) | exact fun L wx hS hcl hrd => (l_records hS.1.lp.1).mono (by rintro e w' ⟨rfl, rfl⟩; exact ⟨rfl, hS⟩) | exact fun L wx hS hcl hrd => (l_broken hS.1.lp.1).mono (by rintro e w' ⟨rfl, rfl⟩; exact ⟨rfl, hS⟩)
                   simp only [Act.put, List.setIfInBounds_toArray, List.set_cons_zero, List.set_cons_succ]))
              refine St.step_last ?_
              intro L wx hS hall
              have FIN := Lib.hid (FINT.out m4 (some l4) (ptr q) (ptr q') wx hS.1 HK4.out HO4.out HL4.out hS.2)
              clear hS hall P5 HB4 HK4 HO4 HL4
              go_wp2_with fail
              go_roundw
              case rel => exact ⟨k + 1, by omega, by go_num, FIN.out⟩
              case measure => simp [intOf]; omega
        by_cases hk2 : kd = 2
        · subst hk2
          skip
          cases o with
          | none =>
            obtain ⟨rfl, rfl⟩ := PW1.out.led
            as_aux_lemma =>
              have ca := c_arm w.heap.size m nn W1 PW1.out.rp
              have hok4 := HOK.out.arm HAO.out.n0 HAO.out.n1
              have x2 := HBX.out.cells.2.2.1
              clear hW1
              go_wp2_with fail
              rw [← HW1.out]
              refine ca.mono ?_
              rintro e w4 ⟨rfl, r4, f4⟩
              have D4 := PW1.out.rd.fr PW1.out.rp f4 (.inl hnp)
              have E4 := PW1.out.led.fr PW1.out.rp f4 hnp
              have X4 := (HBX.out.fr f4 PW1.out.rp (by omega)).cells.2.2.1
              have B4 := BW1.out.trans f4.below
              obtain ⟨z0, z1, z2, z3, z4, z5, z6, z7, z8, z9, y0, y1, y2⟩ := D4.cells
              have D5 := D4.left' nn
              have F5 := FD.set2 p 3 w4 (.int .i64 nn)
              have P5 := Lib.hid (show PW w.heap.size (m.arm nn) none p (.pointer none) (.pointer none) (w4.setCell ⟨p + 2, 3, none⟩ (.int .i64 nn)) from ⟨r4.fd D4 F5 (.inl hnp), D5, E4.fd F5, hnp⟩)
              have B5 := B4.trans (F5.below.mono (Nat.le_of_lt hnp))
              clear ca r4 f4 D4 E4 F5 D5 B4 z0 z1 z2 z3 z4 z5 z6 z8 z9 y0 y1 x2
              have csm := c_same P5.out.rp P5.out.rd
              have HB4 := Lib.hid (B5)
              have HK4 := Lib.hid (hok4)
              have HO4 := Lib.hid (show (m.arm nn).ops ≤ m.ops + 5 by show m.ops ≤ _; omega)
              have HL4 := Lib.hid (HLO1.out)
              clear hok4 B5
              go_wp2_with fail
              refine csm.mono ?_
              rintro e w' ⟨rfl, rfl⟩
              clear csm
              go_wp2_with fail
              refine St.wp_region_stage (fun _ wx => PW w.heap.size (m.arm nn) none p (.pointer none) (.pointer none) wx ∧ Below w.heap.size w wx) (by kernel_rfl) (by kernel_rfl) (by kernel_rfl) ⟨P5.out.drew, HB4.out.drew⟩ ?_
              repeat (first
                | (apply St.step_past
                   · rfl
                   · exact fun L w hS => hS
                   simp only [Act.put, List.setIfInBounds_toArray, List.set_cons_zero, List.set_cons_succ])
                | (apply St.step_give
                   · rfl
                   · intro L wx hS hcl hrd
                     go_simp
                     try with_reducible rfl
                   · exact fun L w hS => hS
                   simp only [Act.put, List.setIfInBounds_toArray, List.set_cons_zero, List.set_cons_succ]))
              refine St.step_last ?_
              intro L wx hS hall
              have FIN := Lib.hid (FINT.out (m.arm nn) none (.pointer none) (.pointer none) wx hS.1 HK4.out HO4.out HL4.out hS.2)
              clear hS hall P5 HB4 HK4 HO4 HL4
              go_wp2_with fail
              go_roundw
              case rel => exact ⟨k + 1, by omega, by go_num, FIN.out⟩
              case measure => simp [intOf]; omega
          | some l =>
            obtain ⟨q, q', rfl, rfl, hLP, hLD, hq, hq', hne⟩ := PW1.out.led
            clear hLP hLD
            as_aux_lemma =>
              have ca := c_arm w.heap.size m nn W1 PW1.out.rp
              have hok4 := HOK.out.arm HAO.out.n0 HAO.out.n1
              have x2 := HBX.out.cells.2.2.1
              clear hW1
              go_wp2_with fail
              rw [← HW1.out]
              refine ca.mono ?_
              rintro e w4 ⟨rfl, r4, f4⟩
              have D4 := PW1.out.rd.fr PW1.out.rp f4 (.inl hnp)
              have E4 := PW1.out.led.fr PW1.out.rp f4 hnp
              have X4 := (HBX.out.fr f4 PW1.out.rp (by omega)).cells.2.2.1
              have B4 := BW1.out.trans f4.below
              obtain ⟨z0, z1, z2, z3, z4, z5, z6, z7, z8, z9, y0, y1, y2⟩ := D4.cells
              have D5 := D4.left' nn
              have F5 := FD.set2 p 3 w4 (.int .i64 nn)
              have P5 := Lib.hid (show PW w.heap.size (m.arm nn) (some l) p (ptr q) (ptr q') (w4.setCell ⟨p + 2, 3, none⟩ (.int .i64 nn)) from ⟨r4.fd D4 F5 (.inl hnp), D5, E4.fd F5, hnp⟩)
              have B5 := B4.trans (F5.below.mono (Nat.le_of_lt hnp))
              clear ca r4 f4 D4 E4 F5 D5 B4 z0 z1 z2 z3 z4 z5 z6 z8 z9 y0 y1 x2
              have csm := c_same P5.out.rp P5.out.rd
              have HB4 := Lib.hid (B5)
              have HK4 := Lib.hid (hok4)
              have HO4 := Lib.hid (show (m.arm nn).ops ≤ m.ops + 5 by show m.ops ≤ _; omega)
              have HL4 := Lib.hid (HLO1.out)
              clear hok4 B5
              go_wp2_with fail
              refine csm.mono ?_
              rintro e w' ⟨rfl, rfl⟩
              clear csm
              go_wp2_with fail
              refine St.wp_region_stage (fun _ wx => PW w.heap.size (m.arm nn) (some l) p (ptr q) (ptr q') wx ∧ Below w.heap.size w wx) (by kernel_rfl) (by kernel_rfl) (by kernel_rfl) ⟨P5.out.drew, HB4.out.drew⟩ ?_
              repeat (first
                | (apply St.step_past
                   · rfl
                   · exact fun L w hS => hS
                   simp only [Act.put, List.setIfInBounds_toArray, List.set_cons_zero, List.set_cons_succ])
                | (apply St.step_give
                   · rfl
                   · intro L wx hS hcl hrd
                     obtain ⟨c0, c1, c2, c3, c4, fz⟩ := hS.1.lp.2.cells
                     go_simp
                     try with_reducible rfl
                   · exact fun L w hS => hS
                   simp only [Act.put, List.setIfInBounds_toArray, List.set_cons_zero, List.set_cons_succ])
                | (apply St.step_into
                   · rfl
                   · intro wx
                     go_simp
                     exact ⟨rfl, rfl⟩
                   · first | exact fun L wx hS hcl hrd => (l_epoch hS.1.lp.1).mono (by rintro e w' ⟨rfl, rfl⟩; exact ⟨rfl, hS⟩) | exact fun L wx hS hcl hrd => (l_records hS.1.lp.1).mono (by rintro e w' ⟨rfl, rfl⟩; exact ⟨rfl, hS⟩) | exact fun L wx hS hcl hrd => (l_broken hS.1.lp.1).mono (by rintro e w' ⟨rfl, rfl⟩; exact ⟨rfl, hS⟩)
                   simp only [Act.put, List.setIfInBounds_toArray, List.set_cons_zero, List.set_cons_succ]))
              refine St.step_last ?_
              intro L wx hS hall
              have FIN := Lib.hid (FINT.out (m.arm nn) (some l) (ptr q) (ptr q') wx hS.1 HK4.out HO4.out HL4.out hS.2)
              clear hS hall P5 HB4 HK4 HO4 HL4
              go_wp2_with fail
              go_roundw
              case rel => exact ⟨k + 1, by omega, by go_num, FIN.out⟩
              case measure => simp [intOf]; omega
        by_cases hk3 : kd = 3
        · subst hk3
          as_aux_lemma =>
            have hao := HAO.out
            have cc := c_crash k0 k1 u PW1.out.rp HOK.out hao.k00 hao.k01 hao.k10 hao.k11
            have dc := fun wx (h : RD p m wx) => d_crash k0 k1 u h HOK.out hao.k00 hao.k01 hao.k10 hao.k11
            have j4 := HOK.out.crash k0 k1 u
            have x3 := HBX.out.cells
            have hbp := hnp
            clear hao hW1
            go_wp2_with fail
            rw [← HW1.out]
            refine cc.mono ?_
            rintro e w4 ⟨rfl, r4, f4⟩
            have D4 := PW1.out.rd.fr PW1.out.rp f4 (.inl hnp)
            have X4 := (HBX.out.fr f4 PW1.out.rp (by omega)).cells
            obtain ⟨y0, y1, y2, y3, y4, y5⟩ := X4
            dsimp only at y0 y1 y2 y3 y4 y5
            have B4 := BW1.out.trans f4.below
            clear cc f4 x3
            go_wp2_with fail
            refine (dc _ D4).mono ?_
            rintro e w5 ⟨rfl, D5, f5⟩
            have R5 := r4.fd D4 f5 (.inl hnp)
            have B5 := B4.trans (f5.below.mono (Nat.le_of_lt hnp))
            clear dc D4 r4 B4 f5 y0 y1 y2 y3 y4 y5
            have co := fun wx (h : RP w.heap.size (m.crash k0 k1 u) wx) (hg : Good wx) => c_open h j4 (by show m.ops < _; omega) hg
            have dof := fun wx (h : RD p (m.crash k0 k1 u) wx) => d_open h j4 (by show m.ops < _; omega)
            have ol := fun (e : Int) (l : Lg) (b : Text) (xs : List Text) (m' : M) (h : openM (m.crash k0 k1 u) = (e, some (l, b, xs), m')) => openM_l j4 h
            obtain ⟨⟨x, oo, m1⟩, hO⟩ : ∃ r, openM (m.crash k0 k1 u) = r := ⟨_, rfl⟩
            have k1 := openM_ok' j4 (by show m.ops < _; omega) hO
            rw [hO] at co dof ol
            clear hO
            cases oo with
            | none =>
              clear ol
              go_wp2_with fail
              refine (co _ R5 (hg.since h3 B5)).mono ?_
              rintro e w3 ⟨R3, f3, rfl⟩
              have D3 := D5.fr R5 f3 (.inl hbp)
              have B3 := B5.trans f3.below
              clear co f3
              go_wp2_with fail
              refine (dof _ D3).mono ?_
              rintro e w4 ⟨D4, f4, rfl⟩
              have R4 := R3.fd D3 f4 (.inl hbp)
              have B4 := B3.trans (f4.below.mono (Nat.le_of_lt hbp))
              have HPW := Lib.hid (show PW w.heap.size m1 none p (.pointer none) (.pointer none) w4 from ⟨R4, D4, ⟨rfl, rfl⟩, hbp⟩)
              have HB4 := Lib.hid B4
              clear dof D3 R3 f4 D4 R4 B3 B4
              go_wp2_with fail
              refine (num_any _ _).mono ?_
              rintro e w' ⟨rfl, rfl⟩
              have sm := same_any (.slice none 0 0) (.slice none 0 0) [] [] w4 ⟨none, 0, rfl, fun h => absurd h (by simp)⟩ ⟨none, 0, rfl, fun h => absurd h (by simp)⟩ (by decide) (by decide)
              rw [decide_eq_true (rfl : ([] : List ByteArray) = [])] at sm
              go_wp2_with fail
              refine sm.mono ?_
              rintro e w6 ⟨rfl, b6⟩
              have P6 := Lib.hid (HPW.out.below b6)
              have B6 := HB4.out.trans (b6.mono HB4.out.size)
              clear sm b6 HPW HB4
              have csm := c_same P6.out.rp P6.out.rd
              have HB4 := Lib.hid (B6)
              have HK4 := Lib.hid (k1.1)
              have HO4 := Lib.hid (show m1.ops ≤ m.ops + 5 by have h0 : m1.ops ≤ m.ops + 4 := k1.2; omega)
              have HL4 := Lib.hid (show ∀ l', (none : Option Lg) = some l' → isT l'.t = true ∧ 0 ≤ l'.epoch ∧ l'.epoch ≤ 4611686018427387904 + ((k + 1 : Nat) : Int) ∧ l'.n ≤ 4194304 + (k + 1) from fun l' h => by cases h)
              clear k1 B6
              go_wp2_with fail
              refine csm.mono ?_
              rintro e w' ⟨rfl, rfl⟩
              clear csm
              go_wp2_with fail
              refine St.wp_region_stage (fun _ wx => PW w.heap.size m1 none p (.pointer none) (.pointer none) wx ∧ Below w.heap.size w wx) (by kernel_rfl) (by kernel_rfl) (by kernel_rfl) ⟨P6.out.drew, HB4.out.drew⟩ ?_
              repeat (first
                | (apply St.step_past
                   · rfl
                   · exact fun L w hS => hS
                   simp only [Act.put, List.setIfInBounds_toArray, List.set_cons_zero, List.set_cons_succ])
                | (apply St.step_give
                   · rfl
                   · intro L wx hS hcl hrd
                     go_simp
                     try with_reducible rfl
                   · exact fun L w hS => hS
                   simp only [Act.put, List.setIfInBounds_toArray, List.set_cons_zero, List.set_cons_succ]))
              refine St.step_last ?_
              intro L wx hS hall
              have FIN := Lib.hid (FINT.out m1 none (.pointer none) (.pointer none) wx hS.1 HK4.out HO4.out HL4.out hS.2)
              clear hS hall P6 HB4 HK4 HO4 HL4
              go_wp2_with fail
              go_roundw
              case rel => exact ⟨k + 1, by omega, by go_num, FIN.out⟩
              case measure => simp [intOf]; omega
            | some t =>
              obtain ⟨l, base, recs⟩ := t
              have hll := ol x l base recs m1 rfl
              clear ol
              go_wp2_with fail
              refine (co _ R5 (hg.since h3 B5)).mono ?_
              rintro e w3 ⟨R3, f3, q, T, va, sa, rfl, hT, hsa, L3, hq3, hva⟩
              have D3 := D5.fr R5 f3 (.inl hbp)
              have B3 := B5.trans f3.below
              obtain ⟨Ap, An, rfl⟩ := hva.form
              have hpq : p + 2 < q := by have := D5.lt; omega
              clear co f3
              go_wp2_with fail
              refine (dof _ D3).mono ?_
              rintro e w4 ⟨D4, f4, q', T', vb, sb, rfl, hT', hsb, L4, hq4, hvb⟩
              have R4 := R3.fd D3 f4 (.inl hbp)
              have B4 := B3.trans (f4.below.mono (Nat.le_of_lt hbp))
              have hpq' : p + 2 < q' := by have := D3.lt; omega
              have hne : q ≠ q' := by have := L3.lt; omega
              have L3' := L3.fd f4 hpq
              have hva4 := hva.keepB (fun k cs fz hB hk => f4.keep9 D3 k cs fz (by have := D5.lt; omega) hk)
              obtain rfl : T' = T := ba_ext (hT'.trans hT.symm)
              obtain rfl : sb = sa := texts_inj (hsb.trans hsa.symm)
              obtain ⟨Bp, Bn, rfl⟩ := hvb.form
              have HPW := Lib.hid (show PW w.heap.size m1 (some l) p (ptr q) (ptr q') w4 from ⟨R4, D4, ⟨q, q', rfl, rfl, L3', L4, hpq, hpq', hne⟩, hbp⟩)
              have HB4 := Lib.hid B4
              have hlen : sb.length ≤ 4194304 := by have h1 := hll.2.2.2.2; rw [← hsa, texts_length] at h1; exact h1
              have HSM := Lib.hid (same_any _ _ sb sb w4 hva4.sl hvb.sl (by omega) (by omega))
              have s1 := eq_yes (rfl : T' = T')
              have HLL := Lib.hid hll
              clear dof D3 R3 f4 D4 R4 B3 B4 L3 L3' L4 hva hvb hva4 hq3 hq4 hT hT' hsa hsb hll hlen
              go_wp2_with fail
              refine (num_any _ _).mono ?_
              rintro e w' ⟨rfl, rfl⟩
              have csm := HSM.out
              try rw [decide_eq_true (rfl : sb = sb)] at csm
              clear HSM
              go_wp2_with fail
              refine csm.mono ?_
              rintro e w6 ⟨rfl, b6⟩
              have P6 := Lib.hid (HPW.out.below b6)
              have B6 := HB4.out.trans (b6.mono HB4.out.size)
              clear csm b6 HPW HB4
              have csm := c_same P6.out.rp P6.out.rd
              have HB4 := Lib.hid (B6)
              have HK4 := Lib.hid (k1.1)
              have HO4 := Lib.hid (show m1.ops ≤ m.ops + 5 by have h0 : m1.ops ≤ m.ops + 4 := k1.2; omega)
              have HL4 := Lib.hid (show ∀ l', some l = some l' → isT l'.t = true ∧ 0 ≤ l'.epoch ∧ l'.epoch ≤ 4611686018427387904 + ((k + 1 : Nat) : Int) ∧ l'.n ≤ 4194304 + (k + 1) from fun l' h => by injection h with h; subst h; obtain ⟨g1, g2, g3, g4, _⟩ := HLL.out; exact ⟨g1, g2, by push_cast; omega, by omega⟩)
              clear k1 B6 s1
              go_wp2_with fail
              refine csm.mono ?_
              rintro e w' ⟨rfl, rfl⟩
              clear csm
              go_wp2_with fail
              refine St.wp_region_stage (fun _ wx => PW w.heap.size m1 (some l) p (ptr q) (ptr q') wx ∧ Below w.heap.size w wx) (by kernel_rfl) (by kernel_rfl) (by kernel_rfl) ⟨P6.out.drew, HB4.out.drew⟩ ?_
              repeat (first
                | (apply St.step_past
                   · rfl
                   · exact fun L w hS => hS
                   simp only [Act.put, List.setIfInBounds_toArray, List.set_cons_zero, List.set_cons_succ])
                | (apply St.step_give
                   · rfl
                   · intro L wx hS hcl hrd
                     obtain ⟨c0, c1, c2, c3, c4, fz⟩ := hS.1.lp.2.cells
                     go_simp
                     try with_reducible rfl
                   · exact fun L w hS => hS
                   simp only [Act.put, List.setIfInBounds_toArray, List.set_cons_zero, List.set_cons_succ])
                | (apply St.step_into
                   · rfl
                   · intro wx
                     go_simp
                     exact ⟨rfl, rfl⟩
                   · first | exact fun L wx hS hcl hrd => (l_epoch hS.1.lp.1).mono (by rintro e w' ⟨rfl, rfl⟩; exact ⟨rfl, hS⟩) | exact fun L wx hS hcl hrd => (l_records hS.1.lp.1).mono (by rintro e w' ⟨rfl, rfl⟩; exact ⟨rfl, hS⟩) | exact fun L wx hS hcl hrd => (l_broken hS.1.lp.1).mono (by rintro e w' ⟨rfl, rfl⟩; exact ⟨rfl, hS⟩)
                   simp only [Act.put, List.setIfInBounds_toArray, List.set_cons_zero, List.set_cons_succ]))
              refine St.step_last ?_
              intro L wx hS hall
              have FIN := Lib.hid (FINT.out m1 (some l) (ptr q) (ptr q') wx hS.1 HK4.out HO4.out HL4.out hS.2)
              clear hS hall P6 HB4 HK4 HO4 HL4
              go_wp2_with fail
              go_roundw
              case rel => exact ⟨k + 1, by omega, by go_num, FIN.out⟩
              case measure => simp [intOf]; omega
        by_cases hk4 : kd = 4
        · subst hk4
          skip
          cases o with
          | none =>
            obtain ⟨rfl, rfl⟩ := PW1.out.led
            as_aux_lemma =>
              obtain ⟨T, hT⟩ : ∃ T : Int, nn.tmod 2 = T := ⟨_, rfl⟩
              have hwT : IntKind.i64.wrap (nn.tmod 2) = T := by
                have h2 : nn.tmod 2 = -1 ∨ nn.tmod 2 = 0 ∨ nn.tmod 2 = 1 := Int.tmod_two_eq nn
                rw [← hT, IntKind.wrap_i64]
                omega
              have hsz4 : s.size ≤ 70368744177664 := by have := HSZ.out; dsimp only at this; omega
              have cw := fun wx (h : RP w.heap.size m wx) => c_write T s h HOK.out (by omega) hsz4
              have dw := fun wx (h : RD p m wx) => d_write T s h HOK.out (by omega) hsz4
              have hok4 := HOK.out.write T s.toList (by omega)
              have ho4 := m.write_ops T s.toList
              obtain ⟨r4, hr4⟩ : ∃ r4, m.write T s.toList = r4 := ⟨_, rfl⟩
              rw [hr4] at cw dw hok4 ho4
              obtain ⟨e4, m4⟩ := r4
              simp only at cw dw hok4 ho4
              clear hr4
              have hS0 : Ps w w.heap.size p wr.heap.size ⟨4, s, nn, k0, k1, u⟩ m m4 none (.pointer none) (.pointer none) 6 14 (fun _ => false) W1.drew := by
                have P0 := PW1.out.drew
                exact ⟨P0.rp, P0.rd, P0.led, HBX.out.below ((Below.refl _ W1).drew), BW1.out.drew⟩
              clear hW1
              go_wp2_with fail
              rw [← HW1.out]
              refine St.wp_region_stage (Ps w w.heap.size p wr.heap.size ⟨4, s, nn, k0, k1, u⟩ m m4 none (.pointer none) (.pointer none) 6 14) (by kernel_rfl) (by kernel_rfl) (by kernel_rfl) hS0 ?_
              repeat (first
                | (apply St.step_past
                   · rfl
                   · exact fun L w hS => ⟨hS.rp, hS.rd, hS.led, hS.bx, hS.below⟩
                   simp only [Act.put, List.setIfInBounds_toArray, List.set_cons_zero, List.set_cons_succ])
                | (apply St.step_give
                   · rfl
                   · intro L wx hS hcl hrd
                     obtain ⟨x0, x1, x2, x3, x4, x5⟩ := hS.bx.cells
                     dsimp only at x0 x1 x2 x3 x4 x5
                     go_simp
                     try with_reducible rfl
                   · exact fun L w hS => ⟨hS.rp, hS.rd, hS.led, hS.bx, hS.below⟩
                   simp only [Act.put, List.setIfInBounds_toArray, List.set_cons_zero, List.set_cons_succ])
                | (apply St.step_into
                   · rfl
                   · intro wx
                     go_simp
                     exact ⟨rfl, rfl⟩
                   · first | exact fun L wx hS hcl hrd => hS.prog (by decide) hnp hgp hrd.1 cw | exact fun L wx hS hcl hrd => hS.doc (by decide) hnp hgp hrd.1 dw | exact fun L wx hS hcl hrd => (num_any _ _).mono (by rintro e w' ⟨rfl, rfl⟩; exact ⟨rfl, ⟨hS.rp, hS.rd, hS.led, hS.bx, hS.below⟩⟩)
                   simp only [Act.put, List.setIfInBounds_toArray, List.set_cons_zero, List.set_cons_succ]))
              refine St.step_last ?_
              intro L wx hS hall
              have P5 := Lib.hid (show PW w.heap.size m4 none p (.pointer none) (.pointer none) wx from ⟨by have := hS.rp; rw [if_pos (hall 6 (by decide))] at this; exact this, by have := hS.rd; rw [if_pos (hall 14 (by decide))] at this; exact this, hS.led, hnp⟩)
              have B5 := hS.below
              clear hS hall hS0 cw dw hT hwT
              have csm := c_same P5.out.rp P5.out.rd
              have HB4 := Lib.hid (B5)
              have HK4 := Lib.hid (hok4)
              have HO4 := Lib.hid (show m4.ops ≤ m.ops + 5 by omega)
              have HL4 := Lib.hid (HLO1.out)
              clear hok4 B5 ho4
              go_wp2_with fail
              refine csm.mono ?_
              rintro e w' ⟨rfl, rfl⟩
              clear csm
              go_wp2_with fail
              refine St.wp_region_stage (fun _ wx => PW w.heap.size m4 none p (.pointer none) (.pointer none) wx ∧ Below w.heap.size w wx) (by kernel_rfl) (by kernel_rfl) (by kernel_rfl) ⟨P5.out.drew, HB4.out.drew⟩ ?_
              repeat (first
                | (apply St.step_past
                   · rfl
                   · exact fun L w hS => hS
                   simp only [Act.put, List.setIfInBounds_toArray, List.set_cons_zero, List.set_cons_succ])
                | (apply St.step_give
                   · rfl
                   · intro L wx hS hcl hrd
                     go_simp
                     try with_reducible rfl
                   · exact fun L w hS => hS
                   simp only [Act.put, List.setIfInBounds_toArray, List.set_cons_zero, List.set_cons_succ]))
              refine St.step_last ?_
              intro L wx hS hall
              have FIN := Lib.hid (FINT.out m4 none (.pointer none) (.pointer none) wx hS.1 HK4.out HO4.out HL4.out hS.2)
              clear hS hall P5 HB4 HK4 HO4 HL4
              go_wp2_with fail
              go_roundw
              case rel => exact ⟨k + 1, by omega, by go_num, FIN.out⟩
              case measure => simp [intOf]; omega
          | some l =>
            obtain ⟨q, q', rfl, rfl, hLP, hLD, hq, hq', hne⟩ := PW1.out.led
            clear hLP hLD
            as_aux_lemma =>
              obtain ⟨T, hT⟩ : ∃ T : Int, nn.tmod 2 = T := ⟨_, rfl⟩
              have hwT : IntKind.i64.wrap (nn.tmod 2) = T := by
                have h2 : nn.tmod 2 = -1 ∨ nn.tmod 2 = 0 ∨ nn.tmod 2 = 1 := Int.tmod_two_eq nn
                rw [← hT, IntKind.wrap_i64]
                omega
              have hsz4 : s.size ≤ 70368744177664 := by have := HSZ.out; dsimp only at this; omega
              have cw := fun wx (h : RP w.heap.size m wx) => c_write T s h HOK.out (by omega) hsz4
              have dw := fun wx (h : RD p m wx) => d_write T s h HOK.out (by omega) hsz4
              have hok4 := HOK.out.write T s.toList (by omega)
              have ho4 := m.write_ops T s.toList
              obtain ⟨r4, hr4⟩ : ∃ r4, m.write T s.toList = r4 := ⟨_, rfl⟩
              rw [hr4] at cw dw hok4 ho4
              obtain ⟨e4, m4⟩ := r4
              simp only at cw dw hok4 ho4
              clear hr4
              have hS0 : Ps w w.heap.size p wr.heap.size ⟨4, s, nn, k0, k1, u⟩ m m4 (some l) (ptr q) (ptr q') 6 14 (fun _ => false) W1.drew := by
                have P0 := PW1.out.drew
                exact ⟨P0.rp, P0.rd, P0.led, HBX.out.below ((Below.refl _ W1).drew), BW1.out.drew⟩
              clear hW1
              go_wp2_with fail
              rw [← HW1.out]
              refine St.wp_region_stage (Ps w w.heap.size p wr.heap.size ⟨4, s, nn, k0, k1, u⟩ m m4 (some l) (ptr q) (ptr q') 6 14) (by kernel_rfl) (by kernel_rfl) (by kernel_rfl) hS0 ?_
              repeat (first
                | (apply St.step_past
                   · rfl
                   · exact fun L w hS => ⟨hS.rp, hS.rd, hS.led, hS.bx, hS.below⟩
                   simp only [Act.put, List.setIfInBounds_toArray, List.set_cons_zero, List.set_cons_succ])
                | (apply St.step_give
                   · rfl
                   · intro L wx hS hcl hrd
                     obtain ⟨x0, x1, x2, x3, x4, x5⟩ := hS.bx.cells
                     dsimp only at x0 x1 x2 x3 x4 x5
                     go_simp
                     try with_reducible rfl
                   · exact fun L w hS => ⟨hS.rp, hS.rd, hS.led, hS.bx, hS.below⟩
                   simp only [Act.put, List.setIfInBounds_toArray, List.set_cons_zero, List.set_cons_succ])
                | (apply St.step_into
                   · rfl
                   · intro wx
                     go_simp
                     exact ⟨rfl, rfl⟩
                   · first | exact fun L wx hS hcl hrd => hS.prog (by decide) hnp hgp hrd.1 cw | exact fun L wx hS hcl hrd => hS.doc (by decide) hnp hgp hrd.1 dw | exact fun L wx hS hcl hrd => (num_any _ _).mono (by rintro e w' ⟨rfl, rfl⟩; exact ⟨rfl, ⟨hS.rp, hS.rd, hS.led, hS.bx, hS.below⟩⟩)
                   simp only [Act.put, List.setIfInBounds_toArray, List.set_cons_zero, List.set_cons_succ]))
              refine St.step_last ?_
              intro L wx hS hall
              have P5 := Lib.hid (show PW w.heap.size m4 (some l) p (ptr q) (ptr q') wx from ⟨by have := hS.rp; rw [if_pos (hall 6 (by decide))] at this; exact this, by have := hS.rd; rw [if_pos (hall 14 (by decide))] at this; exact this, hS.led, hnp⟩)
              have B5 := hS.below
              clear hS hall hS0 cw dw hT hwT
              have csm := c_same P5.out.rp P5.out.rd
              have HB4 := Lib.hid (B5)
              have HK4 := Lib.hid (hok4)
              have HO4 := Lib.hid (show m4.ops ≤ m.ops + 5 by omega)
              have HL4 := Lib.hid (HLO1.out)
              clear hok4 B5 ho4
              go_wp2_with fail
              refine csm.mono ?_
              rintro e w' ⟨rfl, rfl⟩
              clear csm
              go_wp2_with fail
              refine St.wp_region_stage (fun _ wx => PW w.heap.size m4 (some l) p (ptr q) (ptr q') wx ∧ Below w.heap.size w wx) (by kernel_rfl) (by kernel_rfl) (by kernel_rfl) ⟨P5.out.drew, HB4.out.drew⟩ ?_
              repeat (first
                | (apply St.step_past
                   · rfl
                   · exact fun L w hS => hS
                   simp only [Act.put, List.setIfInBounds_toArray, List.set_cons_zero, List.set_cons_succ])
                | (apply St.step_give
                   · rfl
                   · intro L wx hS hcl hrd
                     obtain ⟨c0, c1, c2, c3, c4, fz⟩ := hS.1.lp.2.cells
                     go_simp
                     try with_reducible rfl
                   · exact fun L w hS => hS
                   simp only [Act.put, List.setIfInBounds_toArray, List.set_cons_zero, List.set_cons_succ])
                | (apply St.step_into
                   · rfl
                   · intro wx
                     go_simp
                     exact ⟨rfl, rfl⟩
                   · first | exact fun L wx hS hcl hrd => (l_epoch hS.1.lp.1).mono (by rintro e w' ⟨rfl, rfl⟩; exact ⟨rfl, hS⟩) | exact fun L wx hS hcl hrd => (l_records hS.1.lp.1).mono (by rintro e w' ⟨rfl, rfl⟩; exact ⟨rfl, hS⟩) | exact fun L wx hS hcl hrd => (l_broken hS.1.lp.1).mono (by rintro e w' ⟨rfl, rfl⟩; exact ⟨rfl, hS⟩)
                   simp only [Act.put, List.setIfInBounds_toArray, List.set_cons_zero, List.set_cons_succ]))
              refine St.step_last ?_
              intro L wx hS hall
              have FIN := Lib.hid (FINT.out m4 (some l) (ptr q) (ptr q') wx hS.1 HK4.out HO4.out HL4.out hS.2)
              clear hS hall P5 HB4 HK4 HO4 HL4
              go_wp2_with fail
              go_roundw
              case rel => exact ⟨k + 1, by omega, by go_num, FIN.out⟩
              case measure => simp [intOf]; omega
        cases o with
        | none =>
          obtain ⟨rfl, rfl⟩ := PW1.out.led
          as_aux_lemma =>
            have e0 : (kd == 0) = false := by simp; omega
            have e1 : (kd == 1) = false := by simp; omega
            have e2 : (kd == 2) = false := by simp; omega
            have e3 : (kd == 3) = false := by simp; omega
            have e4 : (kd == 4) = false := by simp; omega
            clear hW1
            have csm := c_same PW1.out.rp PW1.out.rd
            have HB4 := Lib.hid (BW1.out)
            have HK4 := Lib.hid (HOK.out)
            have HO4 := Lib.hid (show m.ops ≤ m.ops + 5 by omega)
            have HL4 := Lib.hid (HLO1.out)
            go_wp2_with fail
            rw [← HW1.out]
            refine csm.mono ?_
            rintro e w' ⟨rfl, rfl⟩
            clear csm
            go_wp2_with fail
            refine St.wp_region_stage (fun _ wx => PW w.heap.size m none p (.pointer none) (.pointer none) wx ∧ Below w.heap.size w wx) (by kernel_rfl) (by kernel_rfl) (by kernel_rfl) ⟨PW1.out.drew, HB4.out.drew⟩ ?_
            repeat (first
              | (apply St.step_past
                 · rfl
                 · exact fun L w hS => hS
                 simp only [Act.put, List.setIfInBounds_toArray, List.set_cons_zero, List.set_cons_succ])
              | (apply St.step_give
                 · rfl
                 · intro L wx hS hcl hrd
                   go_simp
                   try with_reducible rfl
                 · exact fun L w hS => hS
                 simp only [Act.put, List.setIfInBounds_toArray, List.set_cons_zero, List.set_cons_succ]))
            refine St.step_last ?_
            intro L wx hS hall
            have FIN := Lib.hid (FINT.out m none (.pointer none) (.pointer none) wx hS.1 HK4.out HO4.out HL4.out hS.2)
            clear hS hall PW1 HB4 HK4 HO4 HL4
            go_wp2_with fail
            go_roundw
            case rel => exact ⟨k + 1, by omega, by go_num, FIN.out⟩
            case measure => simp [intOf]; omega
        | some l =>
          obtain ⟨q, q', rfl, rfl, hLP, hLD, hq, hq', hne⟩ := PW1.out.led
          clear hLP hLD
          as_aux_lemma =>
            have e0 : (kd == 0) = false := by simp; omega
            have e1 : (kd == 1) = false := by simp; omega
            have e2 : (kd == 2) = false := by simp; omega
            have e3 : (kd == 3) = false := by simp; omega
            have e4 : (kd == 4) = false := by simp; omega
            clear hW1
            have csm := c_same PW1.out.rp PW1.out.rd
            have HB4 := Lib.hid (BW1.out)
            have HK4 := Lib.hid (HOK.out)
            have HO4 := Lib.hid (show m.ops ≤ m.ops + 5 by omega)
            have HL4 := Lib.hid (HLO1.out)
            go_wp2_with fail
            rw [← HW1.out]
            refine csm.mono ?_
            rintro e w' ⟨rfl, rfl⟩
            clear csm
            go_wp2_with fail
            refine St.wp_region_stage (fun _ wx => PW w.heap.size m (some l) p (ptr q) (ptr q') wx ∧ Below w.heap.size w wx) (by kernel_rfl) (by kernel_rfl) (by kernel_rfl) ⟨PW1.out.drew, HB4.out.drew⟩ ?_
            repeat (first
              | (apply St.step_past
                 · rfl
                 · exact fun L w hS => hS
                 simp only [Act.put, List.setIfInBounds_toArray, List.set_cons_zero, List.set_cons_succ])
              | (apply St.step_give
                 · rfl
                 · intro L wx hS hcl hrd
                   obtain ⟨c0, c1, c2, c3, c4, fz⟩ := hS.1.lp.2.cells
                   go_simp
                   try with_reducible rfl
                 · exact fun L w hS => hS
                 simp only [Act.put, List.setIfInBounds_toArray, List.set_cons_zero, List.set_cons_succ])
              | (apply St.step_into
                 · rfl
                 · intro wx
                   go_simp
                   exact ⟨rfl, rfl⟩
                 · first | exact fun L wx hS hcl hrd => (l_epoch hS.1.lp.1).mono (by rintro e w' ⟨rfl, rfl⟩; exact ⟨rfl, hS⟩) | exact fun L wx hS hcl hrd => (l_records hS.1.lp.1).mono (by rintro e w' ⟨rfl, rfl⟩; exact ⟨rfl, hS⟩) | exact fun L wx hS hcl hrd => (l_broken hS.1.lp.1).mono (by rintro e w' ⟨rfl, rfl⟩; exact ⟨rfl, hS⟩)
                 simp only [Act.put, List.setIfInBounds_toArray, List.set_cons_zero, List.set_cons_succ]))
            refine St.step_last ?_
            intro L wx hS hall
            have FIN := Lib.hid (FINT.out m (some l) (ptr q) (ptr q') wx hS.1 HK4.out HO4.out HL4.out hS.2)
            clear hS hall PW1 HB4 HK4 HO4 HL4
            go_wp2_with fail
            go_roundw
            case rel => exact ⟨k + 1, by omega, by go_num, FIN.out⟩
            case measure => simp [intOf]; omega
      · obtain rfl : k = xs.length := by omega
        have hlti : ¬ ((xs.length : Int) < (xs.length : Int)) := by omega
        clear hk hlt hPW hok hops hlo
        go_wp2_with fail
        refine (live_any _ (hg.since h3 hbw)).mono ?_
        rintro e w3 ⟨rfl, b3⟩
        go_wp2_with fail
        go_ret
        exact ⟨rfl, hbw.trans (b3.mono hbw.size)⟩

end Go.Proofs.YtglkapamkigdhaaGreatDoor.Rl
