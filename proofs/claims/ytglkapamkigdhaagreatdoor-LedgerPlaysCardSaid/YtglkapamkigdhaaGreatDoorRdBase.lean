/-
  The document's ledger, told of the model: Base. Conditions: what may be of a reel; fewer than 2^62 operations; texts at most 2^46 bytes.
-/
import Derived.Test.YtglkapamkigdhaaGreatDoorRdLg
namespace Go.Proofs.YtglkapamkigdhaaGreatDoor.Rl
open Go.RowKit
open Go.Proofs.YtglkapamkigdhaaGreatDoor.M (pageT kBase kRec inR tellT tell_len page_short)

set_option maxHeartbeats 32000000 in
set_option maxRecDepth 100000 in
theorem d_base {q p : Nat} {l : Lg} {m : M} {w : World} (s : ByteArray) (h : LD q p l w) (hd : RD p m w) (hpq : p + 2 < q) (hm : m.ok) (ho : m.ops < 4611686018427387900) (hl : l.ok) :
    Calls Tryz.prog 16 #[ptr q, .string s] w fun r w' => r = .returned (.int .i64 (baseM l m s.data.toList).1) ∧ LD q p (baseM l m s.data.toList).2.1 w' ∧ RD p (baseM l m s.data.toList).2.2 w' ∧ FQ p q w w' := by
  obtain ⟨c0, c1, c2, c3, c4, fz⟩ := h.cells
  cases hb : l.broken with
  | true =>
    rw [baseM_broken hb]
    rw [hb] at c4
    go_enter Tryz.func16, Tryz.ntmps16
    go_wp2
    go_ret
    exact ⟨rfl, h, hd, FQ.refl _ _ _⟩
  | false =>
    rw [hb] at c4
    by_cases hs : 524288 < s.size
    · rw [baseM_long hb m (by simpa using hs)]
      have hs' : (524288 : Int) < (s.size : Int) := by omega
      clear hs
      go_enter Tryz.func16, Tryz.ntmps16
      go_wp2
      go_ret
      exact ⟨rfl, h, hd, FQ.refl _ _ _⟩
    · have hs' : ¬ (524288 : Int) < (s.size : Int) := by omega
      have he1 := hl.e1
      have he2 := hl.e2
      have ht := hl.t
      have htt : l.t = 0 ∨ l.t = 1 := by rcases isT_cases ht with h | h <;> omega
      have hwre : IntKind.i64.wrap (l.epoch + 1) = l.epoch + 1 := by rw [IntKind.wrap_i64]; omega
      have hwrt : IntKind.i64.wrap (1 - l.t) = 1 - l.t := by rw [IntKind.wrap_i64]; omega
      have CPG := fun w => rpage_any ⟨#[98, 97, 115, 101]⟩ s (l.epoch + 1) w (by unfold inR; omega) (by decide) (by omega)
      rw [show ((⟨#[98, 97, 115, 101]⟩ : ByteArray).data.toList) = kBase from rfl] at CPG
      have hP : (pageT kBase (l.epoch + 1) s.data.toList).length ≤ 600000 := by
        have := page_short (kind := kBase) (n := l.epoch + 1) (s := s.data.toList) (by decide) (by unfold inR; omega) (by simp; omega)
        simp at this ⊢; omega
      have CWR := fun w (h : RD p m w) => d_writeT (1 - l.t) (pageT kBase (l.epoch + 1) s.data.toList) h hm (by omega) hP
      have hbase : baseM l m s.data.toList = (let r1 := m.write (1 - l.t) (pageT kBase (l.epoch + 1) s.data.toList)
          if r1.1 ≠ 0 then (r1.1, l.did r1.1 true, r1.2) else
            let r2 := r1.2.sync (1 - l.t)
            if r2.1 ≠ 0 then (r2.1, l.did r2.1 false, r2.2) else
              let r3 := r2.2.trim l.t 0
              if r3.1 ≠ 0 then (r3.1, l.did r3.1 false, r3.2) else (0, ⟨1 - l.t, l.epoch + 1, 0, l.broken⟩, r3.2)) := by
        unfold baseM
        rw [if_neg (by rw [hb]; decide), if_neg (by simp; omega)]
      rw [hbase]
      have hk1 := hm.write (1 - l.t) (pageT kBase (l.epoch + 1) s.data.toList) (by omega)
      have ho1 := m.write_ops (1 - l.t) (pageT kBase (l.epoch + 1) s.data.toList)
      obtain ⟨P, hPe⟩ : ∃ P, pageT kBase (l.epoch + 1) s.data.toList = P := ⟨_, rfl⟩
      rw [hPe] at CPG CWR hk1 ho1
      rw [hPe]
      obtain ⟨r1, hr1⟩ : ∃ r1, m.write (1 - l.t) P = r1 := ⟨_, rfl⟩
      rw [hr1] at CWR hk1 ho1
      rw [hr1]
      obtain ⟨e1, m1⟩ := r1
      simp only at CWR hk1 ho1
      dsimp only
      clear hbase hr1 hPe hP hs hb he1 he2 htt
      by_cases h1 : e1 = 0
      · subst h1
        rw [if_neg (by simp)]
        have CSY := fun w (h : RD p m1 w) => d_sync (1 - l.t) h hk1 (by omega)
        have hk2 := hk1.sync (1 - l.t) (by omega)
        have ho2 := m1.sync_ops (1 - l.t)
        obtain ⟨r2, hr2⟩ : ∃ r2, m1.sync (1 - l.t) = r2 := ⟨_, rfl⟩
        rw [hr2] at CSY hk2 ho2
        rw [hr2]
        obtain ⟨e2, m2⟩ := r2
        simp only at CSY hk2 ho2
        dsimp only
        clear hr2
        by_cases h2 : e2 = 0
        · subst h2
          rw [if_neg (by simp)]
          have CWP := fun w (h : RD p m2 w) => d_wipe l.t h hk2 (by omega)
          obtain ⟨r3, hr3⟩ : ∃ r3, m2.trim l.t 0 = r3 := ⟨_, rfl⟩
          rw [hr3] at CWP
          rw [hr3]
          obtain ⟨e3, m3⟩ := r3
          simp only at CWP
          dsimp only
          clear hr3 hk1 hk2 ho ho1 ho2 hm
          by_cases h3 : e3 = 0
          · subst h3
            rw [if_neg (by simp)]
            go_enter Tryz.func16, Tryz.ntmps16
            go_wp2_with fail
            have hS0 := SQ.start hd h m1 l 17 18
            refine St.wp_region_stage (SQ w p q m m1 l l 17 18) (by kernel_rfl) (by kernel_rfl) (by kernel_rfl) hS0 ?_
            apply St.step_give
            · rfl
            · intro L wx hS hcl hrd
              go_simp
              try with_reducible rfl
            · exact fun L wx hS => hS
            simp only [Act.put, List.setIfInBounds_toArray, List.set_cons_zero, List.set_cons_succ]
            apply St.step_give
            · rfl
            · intro L wx hS hcl hrd
              go_simp
              try with_reducible rfl
            · exact fun L wx hS => hS
            simp only [Act.put, List.setIfInBounds_toArray, List.set_cons_zero, List.set_cons_succ]
            apply St.step_give
            · rfl
            · intro L wx hS hcl hrd
              go_simp
              try with_reducible rfl
            · exact fun L wx hS => hS
            simp only [Act.put, List.setIfInBounds_toArray, List.set_cons_zero, List.set_cons_succ]
            apply St.step_give
            · rfl
            · intro L wx hS hcl hrd
              go_simp
              try with_reducible rfl
            · exact fun L wx hS => hS
            simp only [Act.put, List.setIfInBounds_toArray, List.set_cons_zero, List.set_cons_succ]
            apply St.step_give
            · rfl
            · intro L wx hS hcl hrd
              have hld := hS.2.2
              rw [if_neg (by rw [St.not_yet hcl hrd 40 18 (by kernel_rfl)]; decide)] at hld
              obtain ⟨c0, c1, c2, c3, c4, fz⟩ := hld.cells
              go_simp
              try with_reducible rfl
            · exact fun L wx hS => hS
            simp only [Act.put, List.setIfInBounds_toArray, List.set_cons_zero, List.set_cons_succ]
            apply St.step_give
            · rfl
            · intro L wx hS hcl hrd
              go_simp
              try with_reducible rfl
            · exact fun L wx hS => hS
            simp only [Act.put, List.setIfInBounds_toArray, List.set_cons_zero, List.set_cons_succ]
            apply St.step_give
            · rfl
            · intro L wx hS hcl hrd
              go_simp
              try with_reducible rfl
            · exact fun L wx hS => hS
            simp only [Act.put, List.setIfInBounds_toArray, List.set_cons_zero, List.set_cons_succ]
            apply St.step_give
            · rfl
            · intro L wx hS hcl hrd
              go_simp
              try with_reducible rfl
            · exact fun L wx hS => hS
            simp only [Act.put, List.setIfInBounds_toArray, List.set_cons_zero, List.set_cons_succ]
            apply St.step_give
            · rfl
            · intro L wx hS hcl hrd
              have hld := hS.2.2
              rw [if_neg (by rw [St.not_yet hcl hrd 40 18 (by kernel_rfl)]; decide)] at hld
              obtain ⟨c0, c1, c2, c3, c4, fz⟩ := hld.cells
              go_simp
              try with_reducible rfl
            · exact fun L wx hS => hS
            simp only [Act.put, List.setIfInBounds_toArray, List.set_cons_zero, List.set_cons_succ]
            apply St.step_give
            · rfl
            · intro L wx hS hcl hrd
              go_simp
              try with_reducible rfl
            · exact fun L wx hS => hS
            simp only [Act.put, List.setIfInBounds_toArray, List.set_cons_zero, List.set_cons_succ]
            apply St.step_give
            · rfl
            · intro L wx hS hcl hrd
              go_simp
              try with_reducible rfl
            · exact fun L wx hS => hS
            simp only [Act.put, List.setIfInBounds_toArray, List.set_cons_zero, List.set_cons_succ]
            apply St.step_give
            · rfl
            · intro L wx hS hcl hrd
              go_simp
              try with_reducible rfl
            · exact fun L wx hS => hS
            simp only [Act.put, List.setIfInBounds_toArray, List.set_cons_zero, List.set_cons_succ]
            apply St.step_give
            · rfl
            · intro L wx hS hcl hrd
              go_simp
              try with_reducible rfl
            · exact fun L wx hS => hS
            simp only [Act.put, List.setIfInBounds_toArray, List.set_cons_zero, List.set_cons_succ]
            apply St.step_give
            · rfl
            · intro L wx hS hcl hrd
              have hld := hS.2.2
              rw [if_neg (by rw [St.not_yet hcl hrd 40 18 (by kernel_rfl)]; decide)] at hld
              obtain ⟨c0, c1, c2, c3, c4, fz⟩ := hld.cells
              go_simp
              try with_reducible rfl
            · exact fun L wx hS => hS
            simp only [Act.put, List.setIfInBounds_toArray, List.set_cons_zero, List.set_cons_succ]
            apply St.step_give
            · rfl
            · intro L wx hS hcl hrd
              go_simp
              try with_reducible rfl
            · exact fun L wx hS => hS
            simp only [Act.put, List.setIfInBounds_toArray, List.set_cons_zero, List.set_cons_succ]
            apply St.step_give
            · rfl
            · intro L wx hS hcl hrd
              go_simp
              try with_reducible rfl
            · exact fun L wx hS => hS
            simp only [Act.put, List.setIfInBounds_toArray, List.set_cons_zero, List.set_cons_succ]
            apply St.step_into
            · rfl
            · intro wx
              go_simp
              exact ⟨rfl, rfl⟩
            · exact fun L wx hS hcl hrd => hS.pure (by decide) (by decide) CPG
            simp only [Act.put, List.setIfInBounds_toArray, List.set_cons_zero, List.set_cons_succ]
            apply St.step_into
            · rfl
            · intro wx
              go_simp
              exact ⟨rfl, rfl⟩
            · exact fun L wx hS hcl hrd => hS.reel (by decide) hpq hrd.1 CWR
            simp only [Act.put, List.setIfInBounds_toArray, List.set_cons_zero, List.set_cons_succ]
            apply St.step_into
            · rfl
            · intro wx
              go_simp
              exact ⟨rfl, rfl⟩
            · exact fun L wx hS hcl hrd => hS.did (by decide) hpq hrd.1 (Lg.did0 l true).symm
            simp only [Act.put, List.setIfInBounds_toArray, List.set_cons_zero, List.set_cons_succ]
            apply St.step_give
            · rfl
            · intro L wx hS hcl hrd
              go_simp
              try with_reducible rfl
            · exact fun L wx hS => hS
            simp only [Act.put, List.setIfInBounds_toArray, List.set_cons_zero, List.set_cons_succ]
            refine St.step_last ?_
            intro L wx hS hall
            obtain ⟨F1, R1, L1⟩ := hS
            rw [if_pos (hall 17 (by decide))] at R1
            rw [if_pos (hall 18 (by decide))] at L1
            clear hall hS0 CPG CWR h hd c0 c1 c2 c3 c4 fz hwre
            go_wp2_with fail
            have hS0 := SQ.start R1 L1 m2 l 10 11
            refine St.wp_region_stage (SQ wx p q m1 m2 l l 10 11) (by kernel_rfl) (by kernel_rfl) (by kernel_rfl) hS0 ?_
            apply St.step_give
            · rfl
            · intro L wx hS hcl hrd
              go_simp
              try with_reducible rfl
            · exact fun L wx hS => hS
            simp only [Act.put, List.setIfInBounds_toArray, List.set_cons_zero, List.set_cons_succ]
            apply St.step_give
            · rfl
            · intro L wx hS hcl hrd
              go_simp
              try with_reducible rfl
            · exact fun L wx hS => hS
            simp only [Act.put, List.setIfInBounds_toArray, List.set_cons_zero, List.set_cons_succ]
            apply St.step_give
            · rfl
            · intro L wx hS hcl hrd
              go_simp
              try with_reducible rfl
            · exact fun L wx hS => hS
            simp only [Act.put, List.setIfInBounds_toArray, List.set_cons_zero, List.set_cons_succ]
            apply St.step_give
            · rfl
            · intro L wx hS hcl hrd
              go_simp
              try with_reducible rfl
            · exact fun L wx hS => hS
            simp only [Act.put, List.setIfInBounds_toArray, List.set_cons_zero, List.set_cons_succ]
            apply St.step_give
            · rfl
            · intro L wx hS hcl hrd
              have hld := hS.2.2
              rw [if_neg (by rw [St.not_yet hcl hrd 40 11 (by kernel_rfl)]; decide)] at hld
              obtain ⟨c0, c1, c2, c3, c4, fz⟩ := hld.cells
              go_simp
              try with_reducible rfl
            · exact fun L wx hS => hS
            simp only [Act.put, List.setIfInBounds_toArray, List.set_cons_zero, List.set_cons_succ]
            apply St.step_give
            · rfl
            · intro L wx hS hcl hrd
              go_simp
              try with_reducible rfl
            · exact fun L wx hS => hS
            simp only [Act.put, List.setIfInBounds_toArray, List.set_cons_zero, List.set_cons_succ]
            apply St.step_give
            · rfl
            · intro L wx hS hcl hrd
              go_simp
              try with_reducible rfl
            · exact fun L wx hS => hS
            simp only [Act.put, List.setIfInBounds_toArray, List.set_cons_zero, List.set_cons_succ]
            apply St.step_give
            · rfl
            · intro L wx hS hcl hrd
              go_simp
              try with_reducible rfl
            · exact fun L wx hS => hS
            simp only [Act.put, List.setIfInBounds_toArray, List.set_cons_zero, List.set_cons_succ]
            apply St.step_give
            · rfl
            · intro L wx hS hcl hrd
              have hld := hS.2.2
              rw [if_neg (by rw [St.not_yet hcl hrd 40 11 (by kernel_rfl)]; decide)] at hld
              obtain ⟨c0, c1, c2, c3, c4, fz⟩ := hld.cells
              go_simp
              try with_reducible rfl
            · exact fun L wx hS => hS
            simp only [Act.put, List.setIfInBounds_toArray, List.set_cons_zero, List.set_cons_succ]
            apply St.step_give
            · rfl
            · intro L wx hS hcl hrd
              go_simp
              try with_reducible rfl
            · exact fun L wx hS => hS
            simp only [Act.put, List.setIfInBounds_toArray, List.set_cons_zero, List.set_cons_succ]
            apply St.step_into
            · rfl
            · intro wx
              go_simp
              exact ⟨rfl, rfl⟩
            · exact fun L wx hS hcl hrd => hS.reel (by decide) hpq hrd.1 CSY
            simp only [Act.put, List.setIfInBounds_toArray, List.set_cons_zero, List.set_cons_succ]
            apply St.step_into
            · rfl
            · intro wx
              go_simp
              exact ⟨rfl, rfl⟩
            · exact fun L wx hS hcl hrd => hS.did (by decide) hpq hrd.1 (Lg.did0 l false).symm
            simp only [Act.put, List.setIfInBounds_toArray, List.set_cons_zero, List.set_cons_succ]
            apply St.step_give
            · rfl
            · intro L wx hS hcl hrd
              go_simp
              try with_reducible rfl
            · exact fun L wx hS => hS
            simp only [Act.put, List.setIfInBounds_toArray, List.set_cons_zero, List.set_cons_succ]
            refine St.step_last ?_
            intro L wx hS hall
            obtain ⟨F2, R2, L2⟩ := hS
            rw [if_pos (hall 10 (by decide))] at R2
            rw [if_pos (hall 11 (by decide))] at L2
            have F2 := F1.trans F2
            clear hall hS0 CSY R1 L1 F1 hwrt
            go_wp2_with fail
            have hS0 := SQ.start R2 L2 m3 l 9 10
            refine St.wp_region_stage (SQ wx p q m2 m3 l l 9 10) (by kernel_rfl) (by kernel_rfl) (by kernel_rfl) hS0 ?_
            apply St.step_give
            · rfl
            · intro L wx hS hcl hrd
              go_simp
              try with_reducible rfl
            · exact fun L wx hS => hS
            simp only [Act.put, List.setIfInBounds_toArray, List.set_cons_zero, List.set_cons_succ]
            apply St.step_give
            · rfl
            · intro L wx hS hcl hrd
              go_simp
              try with_reducible rfl
            · exact fun L wx hS => hS
            simp only [Act.put, List.setIfInBounds_toArray, List.set_cons_zero, List.set_cons_succ]
            apply St.step_give
            · rfl
            · intro L wx hS hcl hrd
              go_simp
              try with_reducible rfl
            · exact fun L wx hS => hS
            simp only [Act.put, List.setIfInBounds_toArray, List.set_cons_zero, List.set_cons_succ]
            apply St.step_give
            · rfl
            · intro L wx hS hcl hrd
              go_simp
              try with_reducible rfl
            · exact fun L wx hS => hS
            simp only [Act.put, List.setIfInBounds_toArray, List.set_cons_zero, List.set_cons_succ]
            apply St.step_give
            · rfl
            · intro L wx hS hcl hrd
              have hld := hS.2.2
              rw [if_neg (by rw [St.not_yet hcl hrd 40 10 (by kernel_rfl)]; decide)] at hld
              obtain ⟨c0, c1, c2, c3, c4, fz⟩ := hld.cells
              go_simp
              try with_reducible rfl
            · exact fun L wx hS => hS
            simp only [Act.put, List.setIfInBounds_toArray, List.set_cons_zero, List.set_cons_succ]
            apply St.step_give
            · rfl
            · intro L wx hS hcl hrd
              go_simp
              try with_reducible rfl
            · exact fun L wx hS => hS
            simp only [Act.put, List.setIfInBounds_toArray, List.set_cons_zero, List.set_cons_succ]
            apply St.step_give
            · rfl
            · intro L wx hS hcl hrd
              go_simp
              try with_reducible rfl
            · exact fun L wx hS => hS
            simp only [Act.put, List.setIfInBounds_toArray, List.set_cons_zero, List.set_cons_succ]
            apply St.step_give
            · rfl
            · intro L wx hS hcl hrd
              go_simp
              try with_reducible rfl
            · exact fun L wx hS => hS
            simp only [Act.put, List.setIfInBounds_toArray, List.set_cons_zero, List.set_cons_succ]
            apply St.step_give
            · rfl
            · intro L wx hS hcl hrd
              have hld := hS.2.2
              rw [if_neg (by rw [St.not_yet hcl hrd 40 10 (by kernel_rfl)]; decide)] at hld
              obtain ⟨c0, c1, c2, c3, c4, fz⟩ := hld.cells
              go_simp
              try with_reducible rfl
            · exact fun L wx hS => hS
            simp only [Act.put, List.setIfInBounds_toArray, List.set_cons_zero, List.set_cons_succ]
            apply St.step_into
            · rfl
            · intro wx
              go_simp
              exact ⟨rfl, rfl⟩
            · exact fun L wx hS hcl hrd => hS.reel (by decide) hpq hrd.1 CWP
            simp only [Act.put, List.setIfInBounds_toArray, List.set_cons_zero, List.set_cons_succ]
            apply St.step_into
            · rfl
            · intro wx
              go_simp
              exact ⟨rfl, rfl⟩
            · exact fun L wx hS hcl hrd => hS.did (by decide) hpq hrd.1 (Lg.did0 l false).symm
            simp only [Act.put, List.setIfInBounds_toArray, List.set_cons_zero, List.set_cons_succ]
            apply St.step_give
            · rfl
            · intro L wx hS hcl hrd
              go_simp
              try with_reducible rfl
            · exact fun L wx hS => hS
            simp only [Act.put, List.setIfInBounds_toArray, List.set_cons_zero, List.set_cons_succ]
            refine St.step_last ?_
            intro L wx hS hall
            obtain ⟨F3, R3, L3⟩ := hS
            rw [if_pos (hall 9 (by decide))] at R3
            rw [if_pos (hall 10 (by decide))] at L3
            have F3 := F2.trans F3
            clear hall hS0 CWP R2 L2 F2
            go_wp2_with fail
            obtain ⟨d0, d1, d2, d3, d4, g⟩ := L3.cells
            have L4 := L3.all (1 - l.t) (l.epoch + 1) 0
            have R4 := ((R3.q hpq 1 (.int .i64 (1 - l.t))).q hpq 2 (.int .i64 (l.epoch + 1))).q hpq 3 (.int .i64 ((0 : Nat) : Int))
            have F4 := ((F3.trans (FQ.set 1 wx (.int .i64 (1 - l.t)))).trans (FQ.set 2 _ (.int .i64 (l.epoch + 1)))).trans (FQ.set 3 _ (.int .i64 ((0 : Nat) : Int)))
            have hwre : IntKind.i64.wrap (l.epoch + 1) = l.epoch + 1 := by have he1 := hl.e1; have he2 := hl.e2; rw [IntKind.wrap_i64]; omega
            have hwrt : IntKind.i64.wrap (1 - l.t) = 1 - l.t := by have htt := isT_cases hl.t; rw [IntKind.wrap_i64]; omega
            clear F3 R3 L3 ht hl
            go_region
            all_goals go_wp2_with fail
            all_goals go_ret
            all_goals exact ⟨rfl, L4, R4, F4.drew⟩
          · have h3b : (e3 == 0) = false := by simpa using h3
            rw [if_pos h3]
            clear h3
            go_enter Tryz.func16, Tryz.ntmps16
            go_wp2_with fail
            have hS0 := SQ.start hd h m1 l 17 18
            refine St.wp_region_stage (SQ w p q m m1 l l 17 18) (by kernel_rfl) (by kernel_rfl) (by kernel_rfl) hS0 ?_
            apply St.step_give
            · rfl
            · intro L wx hS hcl hrd
              go_simp
              try with_reducible rfl
            · exact fun L wx hS => hS
            simp only [Act.put, List.setIfInBounds_toArray, List.set_cons_zero, List.set_cons_succ]
            apply St.step_give
            · rfl
            · intro L wx hS hcl hrd
              go_simp
              try with_reducible rfl
            · exact fun L wx hS => hS
            simp only [Act.put, List.setIfInBounds_toArray, List.set_cons_zero, List.set_cons_succ]
            apply St.step_give
            · rfl
            · intro L wx hS hcl hrd
              go_simp
              try with_reducible rfl
            · exact fun L wx hS => hS
            simp only [Act.put, List.setIfInBounds_toArray, List.set_cons_zero, List.set_cons_succ]
            apply St.step_give
            · rfl
            · intro L wx hS hcl hrd
              go_simp
              try with_reducible rfl
            · exact fun L wx hS => hS
            simp only [Act.put, List.setIfInBounds_toArray, List.set_cons_zero, List.set_cons_succ]
            apply St.step_give
            · rfl
            · intro L wx hS hcl hrd
              have hld := hS.2.2
              rw [if_neg (by rw [St.not_yet hcl hrd 40 18 (by kernel_rfl)]; decide)] at hld
              obtain ⟨c0, c1, c2, c3, c4, fz⟩ := hld.cells
              go_simp
              try with_reducible rfl
            · exact fun L wx hS => hS
            simp only [Act.put, List.setIfInBounds_toArray, List.set_cons_zero, List.set_cons_succ]
            apply St.step_give
            · rfl
            · intro L wx hS hcl hrd
              go_simp
              try with_reducible rfl
            · exact fun L wx hS => hS
            simp only [Act.put, List.setIfInBounds_toArray, List.set_cons_zero, List.set_cons_succ]
            apply St.step_give
            · rfl
            · intro L wx hS hcl hrd
              go_simp
              try with_reducible rfl
            · exact fun L wx hS => hS
            simp only [Act.put, List.setIfInBounds_toArray, List.set_cons_zero, List.set_cons_succ]
            apply St.step_give
            · rfl
            · intro L wx hS hcl hrd
              go_simp
              try with_reducible rfl
            · exact fun L wx hS => hS
            simp only [Act.put, List.setIfInBounds_toArray, List.set_cons_zero, List.set_cons_succ]
            apply St.step_give
            · rfl
            · intro L wx hS hcl hrd
              have hld := hS.2.2
              rw [if_neg (by rw [St.not_yet hcl hrd 40 18 (by kernel_rfl)]; decide)] at hld
              obtain ⟨c0, c1, c2, c3, c4, fz⟩ := hld.cells
              go_simp
              try with_reducible rfl
            · exact fun L wx hS => hS
            simp only [Act.put, List.setIfInBounds_toArray, List.set_cons_zero, List.set_cons_succ]
            apply St.step_give
            · rfl
            · intro L wx hS hcl hrd
              go_simp
              try with_reducible rfl
            · exact fun L wx hS => hS
            simp only [Act.put, List.setIfInBounds_toArray, List.set_cons_zero, List.set_cons_succ]
            apply St.step_give
            · rfl
            · intro L wx hS hcl hrd
              go_simp
              try with_reducible rfl
            · exact fun L wx hS => hS
            simp only [Act.put, List.setIfInBounds_toArray, List.set_cons_zero, List.set_cons_succ]
            apply St.step_give
            · rfl
            · intro L wx hS hcl hrd
              go_simp
              try with_reducible rfl
            · exact fun L wx hS => hS
            simp only [Act.put, List.setIfInBounds_toArray, List.set_cons_zero, List.set_cons_succ]
            apply St.step_give
            · rfl
            · intro L wx hS hcl hrd
              go_simp
              try with_reducible rfl
            · exact fun L wx hS => hS
            simp only [Act.put, List.setIfInBounds_toArray, List.set_cons_zero, List.set_cons_succ]
            apply St.step_give
            · rfl
            · intro L wx hS hcl hrd
              have hld := hS.2.2
              rw [if_neg (by rw [St.not_yet hcl hrd 40 18 (by kernel_rfl)]; decide)] at hld
              obtain ⟨c0, c1, c2, c3, c4, fz⟩ := hld.cells
              go_simp
              try with_reducible rfl
            · exact fun L wx hS => hS
            simp only [Act.put, List.setIfInBounds_toArray, List.set_cons_zero, List.set_cons_succ]
            apply St.step_give
            · rfl
            · intro L wx hS hcl hrd
              go_simp
              try with_reducible rfl
            · exact fun L wx hS => hS
            simp only [Act.put, List.setIfInBounds_toArray, List.set_cons_zero, List.set_cons_succ]
            apply St.step_give
            · rfl
            · intro L wx hS hcl hrd
              go_simp
              try with_reducible rfl
            · exact fun L wx hS => hS
            simp only [Act.put, List.setIfInBounds_toArray, List.set_cons_zero, List.set_cons_succ]
            apply St.step_into
            · rfl
            · intro wx
              go_simp
              exact ⟨rfl, rfl⟩
            · exact fun L wx hS hcl hrd => hS.pure (by decide) (by decide) CPG
            simp only [Act.put, List.setIfInBounds_toArray, List.set_cons_zero, List.set_cons_succ]
            apply St.step_into
            · rfl
            · intro wx
              go_simp
              exact ⟨rfl, rfl⟩
            · exact fun L wx hS hcl hrd => hS.reel (by decide) hpq hrd.1 CWR
            simp only [Act.put, List.setIfInBounds_toArray, List.set_cons_zero, List.set_cons_succ]
            apply St.step_into
            · rfl
            · intro wx
              go_simp
              exact ⟨rfl, rfl⟩
            · exact fun L wx hS hcl hrd => hS.did (by decide) hpq hrd.1 (Lg.did0 l true).symm
            simp only [Act.put, List.setIfInBounds_toArray, List.set_cons_zero, List.set_cons_succ]
            apply St.step_give
            · rfl
            · intro L wx hS hcl hrd
              go_simp
              try with_reducible rfl
            · exact fun L wx hS => hS
            simp only [Act.put, List.setIfInBounds_toArray, List.set_cons_zero, List.set_cons_succ]
            refine St.step_last ?_
            intro L wx hS hall
            obtain ⟨F1, R1, L1⟩ := hS
            rw [if_pos (hall 17 (by decide))] at R1
            rw [if_pos (hall 18 (by decide))] at L1
            clear hall hS0 CPG CWR h hd c0 c1 c2 c3 c4 fz hwre
            go_wp2_with fail
            have hS0 := SQ.start R1 L1 m2 l 10 11
            refine St.wp_region_stage (SQ wx p q m1 m2 l l 10 11) (by kernel_rfl) (by kernel_rfl) (by kernel_rfl) hS0 ?_
            apply St.step_give
            · rfl
            · intro L wx hS hcl hrd
              go_simp
              try with_reducible rfl
            · exact fun L wx hS => hS
            simp only [Act.put, List.setIfInBounds_toArray, List.set_cons_zero, List.set_cons_succ]
            apply St.step_give
            · rfl
            · intro L wx hS hcl hrd
              go_simp
              try with_reducible rfl
            · exact fun L wx hS => hS
            simp only [Act.put, List.setIfInBounds_toArray, List.set_cons_zero, List.set_cons_succ]
            apply St.step_give
            · rfl
            · intro L wx hS hcl hrd
              go_simp
              try with_reducible rfl
            · exact fun L wx hS => hS
            simp only [Act.put, List.setIfInBounds_toArray, List.set_cons_zero, List.set_cons_succ]
            apply St.step_give
            · rfl
            · intro L wx hS hcl hrd
              go_simp
              try with_reducible rfl
            · exact fun L wx hS => hS
            simp only [Act.put, List.setIfInBounds_toArray, List.set_cons_zero, List.set_cons_succ]
            apply St.step_give
            · rfl
            · intro L wx hS hcl hrd
              have hld := hS.2.2
              rw [if_neg (by rw [St.not_yet hcl hrd 40 11 (by kernel_rfl)]; decide)] at hld
              obtain ⟨c0, c1, c2, c3, c4, fz⟩ := hld.cells
              go_simp
              try with_reducible rfl
            · exact fun L wx hS => hS
            simp only [Act.put, List.setIfInBounds_toArray, List.set_cons_zero, List.set_cons_succ]
            apply St.step_give
            · rfl
            · intro L wx hS hcl hrd
              go_simp
              try with_reducible rfl
            · exact fun L wx hS => hS
            simp only [Act.put, List.setIfInBounds_toArray, List.set_cons_zero, List.set_cons_succ]
            apply St.step_give
            · rfl
            · intro L wx hS hcl hrd
              go_simp
              try with_reducible rfl
            · exact fun L wx hS => hS
            simp only [Act.put, List.setIfInBounds_toArray, List.set_cons_zero, List.set_cons_succ]
            apply St.step_give
            · rfl
            · intro L wx hS hcl hrd
              go_simp
              try with_reducible rfl
            · exact fun L wx hS => hS
            simp only [Act.put, List.setIfInBounds_toArray, List.set_cons_zero, List.set_cons_succ]
            apply St.step_give
            · rfl
            · intro L wx hS hcl hrd
              have hld := hS.2.2
              rw [if_neg (by rw [St.not_yet hcl hrd 40 11 (by kernel_rfl)]; decide)] at hld
              obtain ⟨c0, c1, c2, c3, c4, fz⟩ := hld.cells
              go_simp
              try with_reducible rfl
            · exact fun L wx hS => hS
            simp only [Act.put, List.setIfInBounds_toArray, List.set_cons_zero, List.set_cons_succ]
            apply St.step_give
            · rfl
            · intro L wx hS hcl hrd
              go_simp
              try with_reducible rfl
            · exact fun L wx hS => hS
            simp only [Act.put, List.setIfInBounds_toArray, List.set_cons_zero, List.set_cons_succ]
            apply St.step_into
            · rfl
            · intro wx
              go_simp
              exact ⟨rfl, rfl⟩
            · exact fun L wx hS hcl hrd => hS.reel (by decide) hpq hrd.1 CSY
            simp only [Act.put, List.setIfInBounds_toArray, List.set_cons_zero, List.set_cons_succ]
            apply St.step_into
            · rfl
            · intro wx
              go_simp
              exact ⟨rfl, rfl⟩
            · exact fun L wx hS hcl hrd => hS.did (by decide) hpq hrd.1 (Lg.did0 l false).symm
            simp only [Act.put, List.setIfInBounds_toArray, List.set_cons_zero, List.set_cons_succ]
            apply St.step_give
            · rfl
            · intro L wx hS hcl hrd
              go_simp
              try with_reducible rfl
            · exact fun L wx hS => hS
            simp only [Act.put, List.setIfInBounds_toArray, List.set_cons_zero, List.set_cons_succ]
            refine St.step_last ?_
            intro L wx hS hall
            obtain ⟨F2, R2, L2⟩ := hS
            rw [if_pos (hall 10 (by decide))] at R2
            rw [if_pos (hall 11 (by decide))] at L2
            have F2 := F1.trans F2
            clear hall hS0 CSY R1 L1 F1 hwrt
            go_wp2_with fail
            have hS0 := SQ.start R2 L2 m3 (l.did e3 false) 9 10
            refine St.wp_region_stage (SQ wx p q m2 m3 l (l.did e3 false) 9 10) (by kernel_rfl) (by kernel_rfl) (by kernel_rfl) hS0 ?_
            apply St.step_give
            · rfl
            · intro L wx hS hcl hrd
              go_simp
              try with_reducible rfl
            · exact fun L wx hS => hS
            simp only [Act.put, List.setIfInBounds_toArray, List.set_cons_zero, List.set_cons_succ]
            apply St.step_give
            · rfl
            · intro L wx hS hcl hrd
              go_simp
              try with_reducible rfl
            · exact fun L wx hS => hS
            simp only [Act.put, List.setIfInBounds_toArray, List.set_cons_zero, List.set_cons_succ]
            apply St.step_give
            · rfl
            · intro L wx hS hcl hrd
              go_simp
              try with_reducible rfl
            · exact fun L wx hS => hS
            simp only [Act.put, List.setIfInBounds_toArray, List.set_cons_zero, List.set_cons_succ]
            apply St.step_give
            · rfl
            · intro L wx hS hcl hrd
              go_simp
              try with_reducible rfl
            · exact fun L wx hS => hS
            simp only [Act.put, List.setIfInBounds_toArray, List.set_cons_zero, List.set_cons_succ]
            apply St.step_give
            · rfl
            · intro L wx hS hcl hrd
              have hld := hS.2.2
              rw [if_neg (by rw [St.not_yet hcl hrd 40 10 (by kernel_rfl)]; decide)] at hld
              obtain ⟨c0, c1, c2, c3, c4, fz⟩ := hld.cells
              go_simp
              try with_reducible rfl
            · exact fun L wx hS => hS
            simp only [Act.put, List.setIfInBounds_toArray, List.set_cons_zero, List.set_cons_succ]
            apply St.step_give
            · rfl
            · intro L wx hS hcl hrd
              go_simp
              try with_reducible rfl
            · exact fun L wx hS => hS
            simp only [Act.put, List.setIfInBounds_toArray, List.set_cons_zero, List.set_cons_succ]
            apply St.step_give
            · rfl
            · intro L wx hS hcl hrd
              go_simp
              try with_reducible rfl
            · exact fun L wx hS => hS
            simp only [Act.put, List.setIfInBounds_toArray, List.set_cons_zero, List.set_cons_succ]
            apply St.step_give
            · rfl
            · intro L wx hS hcl hrd
              go_simp
              try with_reducible rfl
            · exact fun L wx hS => hS
            simp only [Act.put, List.setIfInBounds_toArray, List.set_cons_zero, List.set_cons_succ]
            apply St.step_give
            · rfl
            · intro L wx hS hcl hrd
              have hld := hS.2.2
              rw [if_neg (by rw [St.not_yet hcl hrd 40 10 (by kernel_rfl)]; decide)] at hld
              obtain ⟨c0, c1, c2, c3, c4, fz⟩ := hld.cells
              go_simp
              try with_reducible rfl
            · exact fun L wx hS => hS
            simp only [Act.put, List.setIfInBounds_toArray, List.set_cons_zero, List.set_cons_succ]
            apply St.step_into
            · rfl
            · intro wx
              go_simp
              exact ⟨rfl, rfl⟩
            · exact fun L wx hS hcl hrd => hS.reel (by decide) hpq hrd.1 CWP
            simp only [Act.put, List.setIfInBounds_toArray, List.set_cons_zero, List.set_cons_succ]
            apply St.step_into
            · rfl
            · intro wx
              go_simp
              exact ⟨rfl, rfl⟩
            · exact fun L wx hS hcl hrd => hS.did (by decide) hpq hrd.1 rfl
            simp only [Act.put, List.setIfInBounds_toArray, List.set_cons_zero, List.set_cons_succ]
            apply St.step_give
            · rfl
            · intro L wx hS hcl hrd
              go_simp
              try with_reducible rfl
            · exact fun L wx hS => hS
            simp only [Act.put, List.setIfInBounds_toArray, List.set_cons_zero, List.set_cons_succ]
            refine St.step_last ?_
            intro L wx hS hall
            obtain ⟨F3, R3, L3⟩ := hS
            rw [if_pos (hall 9 (by decide))] at R3
            rw [if_pos (hall 10 (by decide))] at L3
            have F3 := F2.trans F3
            clear hall hS0 CWP R2 L2 F2
            go_wp2_with fail
            go_ret
            exact ⟨rfl, L3, R3, F3⟩
        · have h2b : (e2 == 0) = false := by simpa using h2
          rw [if_pos h2]
          clear h2 hk1 hk2 ho ho1 ho2 hm
          go_enter Tryz.func16, Tryz.ntmps16
          go_wp2_with fail
          have hS0 := SQ.start hd h m1 l 17 18
          refine St.wp_region_stage (SQ w p q m m1 l l 17 18) (by kernel_rfl) (by kernel_rfl) (by kernel_rfl) hS0 ?_
          apply St.step_give
          · rfl
          · intro L wx hS hcl hrd
            go_simp
            try with_reducible rfl
          · exact fun L wx hS => hS
          simp only [Act.put, List.setIfInBounds_toArray, List.set_cons_zero, List.set_cons_succ]
          apply St.step_give
          · rfl
          · intro L wx hS hcl hrd
            go_simp
            try with_reducible rfl
          · exact fun L wx hS => hS
          simp only [Act.put, List.setIfInBounds_toArray, List.set_cons_zero, List.set_cons_succ]
          apply St.step_give
          · rfl
          · intro L wx hS hcl hrd
            go_simp
            try with_reducible rfl
          · exact fun L wx hS => hS
          simp only [Act.put, List.setIfInBounds_toArray, List.set_cons_zero, List.set_cons_succ]
          apply St.step_give
          · rfl
          · intro L wx hS hcl hrd
            go_simp
            try with_reducible rfl
          · exact fun L wx hS => hS
          simp only [Act.put, List.setIfInBounds_toArray, List.set_cons_zero, List.set_cons_succ]
          apply St.step_give
          · rfl
          · intro L wx hS hcl hrd
            have hld := hS.2.2
            rw [if_neg (by rw [St.not_yet hcl hrd 40 18 (by kernel_rfl)]; decide)] at hld
            obtain ⟨c0, c1, c2, c3, c4, fz⟩ := hld.cells
            go_simp
            try with_reducible rfl
          · exact fun L wx hS => hS
          simp only [Act.put, List.setIfInBounds_toArray, List.set_cons_zero, List.set_cons_succ]
          apply St.step_give
          · rfl
          · intro L wx hS hcl hrd
            go_simp
            try with_reducible rfl
          · exact fun L wx hS => hS
          simp only [Act.put, List.setIfInBounds_toArray, List.set_cons_zero, List.set_cons_succ]
          apply St.step_give
          · rfl
          · intro L wx hS hcl hrd
            go_simp
            try with_reducible rfl
          · exact fun L wx hS => hS
          simp only [Act.put, List.setIfInBounds_toArray, List.set_cons_zero, List.set_cons_succ]
          apply St.step_give
          · rfl
          · intro L wx hS hcl hrd
            go_simp
            try with_reducible rfl
          · exact fun L wx hS => hS
          simp only [Act.put, List.setIfInBounds_toArray, List.set_cons_zero, List.set_cons_succ]
          apply St.step_give
          · rfl
          · intro L wx hS hcl hrd
            have hld := hS.2.2
            rw [if_neg (by rw [St.not_yet hcl hrd 40 18 (by kernel_rfl)]; decide)] at hld
            obtain ⟨c0, c1, c2, c3, c4, fz⟩ := hld.cells
            go_simp
            try with_reducible rfl
          · exact fun L wx hS => hS
          simp only [Act.put, List.setIfInBounds_toArray, List.set_cons_zero, List.set_cons_succ]
          apply St.step_give
          · rfl
          · intro L wx hS hcl hrd
            go_simp
            try with_reducible rfl
          · exact fun L wx hS => hS
          simp only [Act.put, List.setIfInBounds_toArray, List.set_cons_zero, List.set_cons_succ]
          apply St.step_give
          · rfl
          · intro L wx hS hcl hrd
            go_simp
            try with_reducible rfl
          · exact fun L wx hS => hS
          simp only [Act.put, List.setIfInBounds_toArray, List.set_cons_zero, List.set_cons_succ]
          apply St.step_give
          · rfl
          · intro L wx hS hcl hrd
            go_simp
            try with_reducible rfl
          · exact fun L wx hS => hS
          simp only [Act.put, List.setIfInBounds_toArray, List.set_cons_zero, List.set_cons_succ]
          apply St.step_give
          · rfl
          · intro L wx hS hcl hrd
            go_simp
            try with_reducible rfl
          · exact fun L wx hS => hS
          simp only [Act.put, List.setIfInBounds_toArray, List.set_cons_zero, List.set_cons_succ]
          apply St.step_give
          · rfl
          · intro L wx hS hcl hrd
            have hld := hS.2.2
            rw [if_neg (by rw [St.not_yet hcl hrd 40 18 (by kernel_rfl)]; decide)] at hld
            obtain ⟨c0, c1, c2, c3, c4, fz⟩ := hld.cells
            go_simp
            try with_reducible rfl
          · exact fun L wx hS => hS
          simp only [Act.put, List.setIfInBounds_toArray, List.set_cons_zero, List.set_cons_succ]
          apply St.step_give
          · rfl
          · intro L wx hS hcl hrd
            go_simp
            try with_reducible rfl
          · exact fun L wx hS => hS
          simp only [Act.put, List.setIfInBounds_toArray, List.set_cons_zero, List.set_cons_succ]
          apply St.step_give
          · rfl
          · intro L wx hS hcl hrd
            go_simp
            try with_reducible rfl
          · exact fun L wx hS => hS
          simp only [Act.put, List.setIfInBounds_toArray, List.set_cons_zero, List.set_cons_succ]
          apply St.step_into
          · rfl
          · intro wx
            go_simp
            exact ⟨rfl, rfl⟩
          · exact fun L wx hS hcl hrd => hS.pure (by decide) (by decide) CPG
          simp only [Act.put, List.setIfInBounds_toArray, List.set_cons_zero, List.set_cons_succ]
          apply St.step_into
          · rfl
          · intro wx
            go_simp
            exact ⟨rfl, rfl⟩
          · exact fun L wx hS hcl hrd => hS.reel (by decide) hpq hrd.1 CWR
          simp only [Act.put, List.setIfInBounds_toArray, List.set_cons_zero, List.set_cons_succ]
          apply St.step_into
          · rfl
          · intro wx
            go_simp
            exact ⟨rfl, rfl⟩
          · exact fun L wx hS hcl hrd => hS.did (by decide) hpq hrd.1 (Lg.did0 l true).symm
          simp only [Act.put, List.setIfInBounds_toArray, List.set_cons_zero, List.set_cons_succ]
          apply St.step_give
          · rfl
          · intro L wx hS hcl hrd
            go_simp
            try with_reducible rfl
          · exact fun L wx hS => hS
          simp only [Act.put, List.setIfInBounds_toArray, List.set_cons_zero, List.set_cons_succ]
          refine St.step_last ?_
          intro L wx hS hall
          obtain ⟨F1, R1, L1⟩ := hS
          rw [if_pos (hall 17 (by decide))] at R1
          rw [if_pos (hall 18 (by decide))] at L1
          clear hall hS0 CPG CWR h hd c0 c1 c2 c3 c4 fz hwre
          go_wp2_with fail
          have hS0 := SQ.start R1 L1 m2 (l.did e2 false) 10 11
          refine St.wp_region_stage (SQ wx p q m1 m2 l (l.did e2 false) 10 11) (by kernel_rfl) (by kernel_rfl) (by kernel_rfl) hS0 ?_
          apply St.step_give
          · rfl
          · intro L wx hS hcl hrd
            go_simp
            try with_reducible rfl
          · exact fun L wx hS => hS
          simp only [Act.put, List.setIfInBounds_toArray, List.set_cons_zero, List.set_cons_succ]
          apply St.step_give
          · rfl
          · intro L wx hS hcl hrd
            go_simp
            try with_reducible rfl
          · exact fun L wx hS => hS
          simp only [Act.put, List.setIfInBounds_toArray, List.set_cons_zero, List.set_cons_succ]
          apply St.step_give
          · rfl
          · intro L wx hS hcl hrd
            go_simp
            try with_reducible rfl
          · exact fun L wx hS => hS
          simp only [Act.put, List.setIfInBounds_toArray, List.set_cons_zero, List.set_cons_succ]
          apply St.step_give
          · rfl
          · intro L wx hS hcl hrd
            go_simp
            try with_reducible rfl
          · exact fun L wx hS => hS
          simp only [Act.put, List.setIfInBounds_toArray, List.set_cons_zero, List.set_cons_succ]
          apply St.step_give
          · rfl
          · intro L wx hS hcl hrd
            have hld := hS.2.2
            rw [if_neg (by rw [St.not_yet hcl hrd 40 11 (by kernel_rfl)]; decide)] at hld
            obtain ⟨c0, c1, c2, c3, c4, fz⟩ := hld.cells
            go_simp
            try with_reducible rfl
          · exact fun L wx hS => hS
          simp only [Act.put, List.setIfInBounds_toArray, List.set_cons_zero, List.set_cons_succ]
          apply St.step_give
          · rfl
          · intro L wx hS hcl hrd
            go_simp
            try with_reducible rfl
          · exact fun L wx hS => hS
          simp only [Act.put, List.setIfInBounds_toArray, List.set_cons_zero, List.set_cons_succ]
          apply St.step_give
          · rfl
          · intro L wx hS hcl hrd
            go_simp
            try with_reducible rfl
          · exact fun L wx hS => hS
          simp only [Act.put, List.setIfInBounds_toArray, List.set_cons_zero, List.set_cons_succ]
          apply St.step_give
          · rfl
          · intro L wx hS hcl hrd
            go_simp
            try with_reducible rfl
          · exact fun L wx hS => hS
          simp only [Act.put, List.setIfInBounds_toArray, List.set_cons_zero, List.set_cons_succ]
          apply St.step_give
          · rfl
          · intro L wx hS hcl hrd
            have hld := hS.2.2
            rw [if_neg (by rw [St.not_yet hcl hrd 40 11 (by kernel_rfl)]; decide)] at hld
            obtain ⟨c0, c1, c2, c3, c4, fz⟩ := hld.cells
            go_simp
            try with_reducible rfl
          · exact fun L wx hS => hS
          simp only [Act.put, List.setIfInBounds_toArray, List.set_cons_zero, List.set_cons_succ]
          apply St.step_give
          · rfl
          · intro L wx hS hcl hrd
            go_simp
            try with_reducible rfl
          · exact fun L wx hS => hS
          simp only [Act.put, List.setIfInBounds_toArray, List.set_cons_zero, List.set_cons_succ]
          apply St.step_into
          · rfl
          · intro wx
            go_simp
            exact ⟨rfl, rfl⟩
          · exact fun L wx hS hcl hrd => hS.reel (by decide) hpq hrd.1 CSY
          simp only [Act.put, List.setIfInBounds_toArray, List.set_cons_zero, List.set_cons_succ]
          apply St.step_into
          · rfl
          · intro wx
            go_simp
            exact ⟨rfl, rfl⟩
          · exact fun L wx hS hcl hrd => hS.did (by decide) hpq hrd.1 rfl
          simp only [Act.put, List.setIfInBounds_toArray, List.set_cons_zero, List.set_cons_succ]
          apply St.step_give
          · rfl
          · intro L wx hS hcl hrd
            go_simp
            try with_reducible rfl
          · exact fun L wx hS => hS
          simp only [Act.put, List.setIfInBounds_toArray, List.set_cons_zero, List.set_cons_succ]
          refine St.step_last ?_
          intro L wx hS hall
          obtain ⟨F2, R2, L2⟩ := hS
          rw [if_pos (hall 10 (by decide))] at R2
          rw [if_pos (hall 11 (by decide))] at L2
          have F2 := F1.trans F2
          clear hall hS0 CSY R1 L1 F1 hwrt
          go_wp2_with fail
          go_ret
          exact ⟨rfl, L2, R2, F2⟩
      · have h1b : (e1 == 0) = false := by simpa using h1
        rw [if_pos h1]
        clear h1 hm ho hk1 ho1
        go_enter Tryz.func16, Tryz.ntmps16
        go_wp2_with fail
        have hS0 := SQ.start hd h m1 (l.did e1 true) 17 18
        refine St.wp_region_stage (SQ w p q m m1 l (l.did e1 true) 17 18) (by kernel_rfl) (by kernel_rfl) (by kernel_rfl) hS0 ?_
        apply St.step_give
        · rfl
        · intro L wx hS hcl hrd
          go_simp
          try with_reducible rfl
        · exact fun L wx hS => hS
        simp only [Act.put, List.setIfInBounds_toArray, List.set_cons_zero, List.set_cons_succ]
        apply St.step_give
        · rfl
        · intro L wx hS hcl hrd
          go_simp
          try with_reducible rfl
        · exact fun L wx hS => hS
        simp only [Act.put, List.setIfInBounds_toArray, List.set_cons_zero, List.set_cons_succ]
        apply St.step_give
        · rfl
        · intro L wx hS hcl hrd
          go_simp
          try with_reducible rfl
        · exact fun L wx hS => hS
        simp only [Act.put, List.setIfInBounds_toArray, List.set_cons_zero, List.set_cons_succ]
        apply St.step_give
        · rfl
        · intro L wx hS hcl hrd
          go_simp
          try with_reducible rfl
        · exact fun L wx hS => hS
        simp only [Act.put, List.setIfInBounds_toArray, List.set_cons_zero, List.set_cons_succ]
        apply St.step_give
        · rfl
        · intro L wx hS hcl hrd
          have hld := hS.2.2
          rw [if_neg (by rw [St.not_yet hcl hrd 40 18 (by kernel_rfl)]; decide)] at hld
          obtain ⟨c0, c1, c2, c3, c4, fz⟩ := hld.cells
          go_simp
          try with_reducible rfl
        · exact fun L wx hS => hS
        simp only [Act.put, List.setIfInBounds_toArray, List.set_cons_zero, List.set_cons_succ]
        apply St.step_give
        · rfl
        · intro L wx hS hcl hrd
          go_simp
          try with_reducible rfl
        · exact fun L wx hS => hS
        simp only [Act.put, List.setIfInBounds_toArray, List.set_cons_zero, List.set_cons_succ]
        apply St.step_give
        · rfl
        · intro L wx hS hcl hrd
          go_simp
          try with_reducible rfl
        · exact fun L wx hS => hS
        simp only [Act.put, List.setIfInBounds_toArray, List.set_cons_zero, List.set_cons_succ]
        apply St.step_give
        · rfl
        · intro L wx hS hcl hrd
          go_simp
          try with_reducible rfl
        · exact fun L wx hS => hS
        simp only [Act.put, List.setIfInBounds_toArray, List.set_cons_zero, List.set_cons_succ]
        apply St.step_give
        · rfl
        · intro L wx hS hcl hrd
          have hld := hS.2.2
          rw [if_neg (by rw [St.not_yet hcl hrd 40 18 (by kernel_rfl)]; decide)] at hld
          obtain ⟨c0, c1, c2, c3, c4, fz⟩ := hld.cells
          go_simp
          try with_reducible rfl
        · exact fun L wx hS => hS
        simp only [Act.put, List.setIfInBounds_toArray, List.set_cons_zero, List.set_cons_succ]
        apply St.step_give
        · rfl
        · intro L wx hS hcl hrd
          go_simp
          try with_reducible rfl
        · exact fun L wx hS => hS
        simp only [Act.put, List.setIfInBounds_toArray, List.set_cons_zero, List.set_cons_succ]
        apply St.step_give
        · rfl
        · intro L wx hS hcl hrd
          go_simp
          try with_reducible rfl
        · exact fun L wx hS => hS
        simp only [Act.put, List.setIfInBounds_toArray, List.set_cons_zero, List.set_cons_succ]
        apply St.step_give
        · rfl
        · intro L wx hS hcl hrd
          go_simp
          try with_reducible rfl
        · exact fun L wx hS => hS
        simp only [Act.put, List.setIfInBounds_toArray, List.set_cons_zero, List.set_cons_succ]
        apply St.step_give
        · rfl
        · intro L wx hS hcl hrd
          go_simp
          try with_reducible rfl
        · exact fun L wx hS => hS
        simp only [Act.put, List.setIfInBounds_toArray, List.set_cons_zero, List.set_cons_succ]
        apply St.step_give
        · rfl
        · intro L wx hS hcl hrd
          have hld := hS.2.2
          rw [if_neg (by rw [St.not_yet hcl hrd 40 18 (by kernel_rfl)]; decide)] at hld
          obtain ⟨c0, c1, c2, c3, c4, fz⟩ := hld.cells
          go_simp
          try with_reducible rfl
        · exact fun L wx hS => hS
        simp only [Act.put, List.setIfInBounds_toArray, List.set_cons_zero, List.set_cons_succ]
        apply St.step_give
        · rfl
        · intro L wx hS hcl hrd
          go_simp
          try with_reducible rfl
        · exact fun L wx hS => hS
        simp only [Act.put, List.setIfInBounds_toArray, List.set_cons_zero, List.set_cons_succ]
        apply St.step_give
        · rfl
        · intro L wx hS hcl hrd
          go_simp
          try with_reducible rfl
        · exact fun L wx hS => hS
        simp only [Act.put, List.setIfInBounds_toArray, List.set_cons_zero, List.set_cons_succ]
        apply St.step_into
        · rfl
        · intro wx
          go_simp
          exact ⟨rfl, rfl⟩
        · exact fun L wx hS hcl hrd => hS.pure (by decide) (by decide) CPG
        simp only [Act.put, List.setIfInBounds_toArray, List.set_cons_zero, List.set_cons_succ]
        apply St.step_into
        · rfl
        · intro wx
          go_simp
          exact ⟨rfl, rfl⟩
        · exact fun L wx hS hcl hrd => hS.reel (by decide) hpq hrd.1 CWR
        simp only [Act.put, List.setIfInBounds_toArray, List.set_cons_zero, List.set_cons_succ]
        apply St.step_into
        · rfl
        · intro wx
          go_simp
          exact ⟨rfl, rfl⟩
        · exact fun L wx hS hcl hrd => hS.did (by decide) hpq hrd.1 rfl
        simp only [Act.put, List.setIfInBounds_toArray, List.set_cons_zero, List.set_cons_succ]
        apply St.step_give
        · rfl
        · intro L wx hS hcl hrd
          go_simp
          try with_reducible rfl
        · exact fun L wx hS => hS
        simp only [Act.put, List.setIfInBounds_toArray, List.set_cons_zero, List.set_cons_succ]
        refine St.step_last ?_
        intro L wx hS hall
        obtain ⟨F1, R1, L1⟩ := hS
        rw [if_pos (hall 17 (by decide))] at R1
        rw [if_pos (hall 18 (by decide))] at L1
        clear hall hS0 CPG CWR h hd c0 c1 c2 c3 c4 fz hwre
        go_wp2_with fail
        go_ret
        exact ⟨rfl, L1, R1, F1⟩

end Go.Proofs.YtglkapamkigdhaaGreatDoor.Rl
