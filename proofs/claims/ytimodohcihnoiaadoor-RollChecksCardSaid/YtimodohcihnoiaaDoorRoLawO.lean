/-
  RollOrder, walked. Conditions: lengths at most 2^47; the library's variables hold what their types allow.
-/
import Derived.Test.YtimodohcihnoiaaDoorRoLive
import Derived.Test.YtimodohcihnoiaaDoorRoL
import Derived.Test.YtimodohcihnoiaaDoorStage
namespace Go.Proofs.YtimodohcihnoiaaDoor.Ro
open Go.RowKit

/-- a roll that comes in, kept through a law -/
structure InL (w : World) (v : Value) (r : Lg) : Prop where
  arg : ArgE w v r.es
  len : r.es.length ≤ 140737488355328
  txt : ∀ e ∈ r.es, e.2.size ≤ 140737488355328
theorem InL.keep {w w' : World} {v : Value} {r : Lg} (h : InL w v r) (hb : Below w.heap.size w w') : InL w' v r := ⟨h.arg.keep hb, h.len, h.txt⟩

set_option maxHeartbeats 16000000 in
set_option maxRecDepth 100000 in
theorem order_walk (va vb : Value) (a b : Lg) (w : World) (ha : InL w va a) (hb : InL w vb b) (hg : Good w) :
    Calls Tryd.prog 7 #[lv a va, lv b vb] w fun e w' => e = .returned (.bool true) ∧ Below w.heap.size w w' := by
  obtain ⟨A, ca, rfl⟩ := ha.arg.form
  obtain ⟨D, cb, rfl⟩ := hb.arg.form
  obtain ⟨na, hna⟩ : ∃ n, a.es.length = n := ⟨_, rfl⟩
  obtain ⟨nb, hnb⟩ : ∃ n, b.es.length = n := ⟨_, rfl⟩
  rw [hna] at ha ⊢
  rw [hnb] at hb ⊢
  have HNA := Lib.hid hna
  have HNB := Lib.hid hnb
  clear hna hnb
  obtain ⟨W0, hW0⟩ : ∃ W0, (w.alloc (.cells #[.int .i64 a.base, .int .i64 a.bt, .slice A na ca] 24)).alloc (.cells #[.int .i64 b.base, .int .i64 b.bt, .slice D nb cb] 24) = W0 := ⟨_, rfl⟩
  have hb0 : Below w.heap.size w W0 := hW0 ▸ (by (repeat' (first | with_reducible assumption | with_reducible exact Below.refl _ _ | with_reducible refine Below.alloc ?_ ?_ _ | with_reducible refine Below.setCell ?_ ?_ _ | with_reducible refine Below.drew ?_ | omega | (simp; done) | (simp; omega))))
  have B0 : BoxL w.heap.size a (.slice A na ca) W0 := hW0 ▸ (BoxL.new w a (.slice A na ca)).alloc _
  have B1 : BoxL (w.heap.size + 1) b (.slice D nb cb) W0 := hW0 ▸ box2 w _ b (.slice D nb cb)
  have hbox : ∀ wx, Below W0.heap.size W0 wx → BoxL w.heap.size a (.slice A na ca) wx ∧ BoxL (w.heap.size + 1) b (.slice D nb cb) wx := fun wx h => ⟨B0.keep h, B1.keep h⟩
  have KA : ∀ w', Below W0.heap.size W0 w' → InL w' (.slice A na ca) a := fun w' h => ha.keep (hb0.trans (h.mono hb0.size))
  have KB : ∀ w', Below W0.heap.size W0 w' → InL w' (.slice D nb cb) b := fun w' h => hb.keep (hb0.trans (h.mono hb0.size))
  have cS1 := fun w' (h : Below W0.heap.size W0 w') => small_any a _ w' (KA w' h).arg.sm (KA w' h).len (KA w' h).txt
  have cS2 := fun w' (h : Below W0.heap.size W0 w') => small_any b _ w' (KB w' h).arg.sm (KB w' h).len (KB w' h).txt
  have cI1 := fun w' (h : Below W0.heap.size W0 w') => ris_any a _ w' (KA w' h).arg.sm (KA w' h).len
  have cI2 := fun w' (h : Below W0.heap.size W0 w') => ris_any b _ w' (KB w' h).arg.sm (KB w' h).len
  have cL := fun w' (h : Below W0.heap.size W0 w') => live_any w' (hg.below (hb0.trans (h.mono hb0.size)))
  have h0 := Below.refl W0.heap.size W0
  clear ha hb B0 B1
  go_enter Tryd.func7, Tryd.ntmps7
  obtain ⟨⟨_, ⟨z0, z1, z2⟩, y0⟩, ⟨_, ⟨z3, z4, z5⟩, y1⟩⟩ := hbox _ h0
  go_wp2_with fail
  refine (cS1 _ h0).mono ?_
  rintro e w1 ⟨⟨x1, rfl, s1⟩, b⟩
  have h1 := h0.trans (b.mono h0.size)
  clear b z0 z1 z2 y0 z3 z4 z5 y1
  clear hW0
  cases x1 with
  | false =>
    go_wp2_with fail
    refine (cL _ h1).mono ?_
    rintro e w2 ⟨rfl, b⟩
    have h2 := h1.trans (b.mono h1.size)
    clear b
    go_wp2_with fail
    go_ret
    exact ⟨rfl, hb0.trans (h2.mono hb0.size)⟩
  | true =>
  obtain ⟨⟨_, ⟨z0, z1, z2⟩, y0⟩, ⟨_, ⟨z3, z4, z5⟩, y1⟩⟩ := hbox _ h1
  go_wp2_with fail
  refine (cS2 _ h1).mono ?_
  rintro e w2 ⟨⟨x2, rfl, s2⟩, b⟩
  have h2 := h1.trans (b.mono h1.size)
  clear b z0 z1 z2 y0 z3 z4 z5 y1
  cases x2 with
  | false =>
    go_wp2_with fail
    refine (cL _ h2).mono ?_
    rintro e w3 ⟨rfl, b⟩
    have h3 := h2.trans (b.mono h2.size)
    clear b
    go_wp2_with fail
    go_ret
    exact ⟨rfl, hb0.trans (h3.mono hb0.size)⟩
  | true =>
  have sa : SmallL a := by simpa using s1
  have sb : SmallL b := by simpa using s2
  have ea := sa.n
  have eb := sb.n
  clear s1 s2
  have hA : isL a = true ∨ isL a = false := by cases isL a <;> simp
  have hB : isL b = true ∨ isL b = false := by cases isL b <;> simp
  rcases hA.symm with hA | hA
  ·
    rw [hA] at cI1
    clear hA hB sa sb ea eb
    obtain ⟨⟨_, ⟨z0, z1, z2⟩, y0⟩, ⟨_, ⟨z3, z4, z5⟩, y1⟩⟩ := hbox _ h2
    go_wp2_with fail
    refine (cI1 _ h2).mono ?_
    rintro e w3 ⟨rfl, b⟩
    have h3 := h2.trans (b.mono h2.size)
    clear b z0 z1 z2 y0 z3 z4 z5 y1
    go_wp2_with fail
    refine (cL _ h3).mono ?_
    rintro e w4 ⟨rfl, b⟩
    have h4 := h3.trans (b.mono h3.size)
    clear b
    go_wp2_with fail
    go_ret
    exact ⟨rfl, hb0.trans (h4.mono hb0.size)⟩
  ·
    rcases hB.symm with hB | hB
    ·
      rw [hA] at cI1
      rw [hB] at cI2
      clear hA hB sa sb ea eb
      obtain ⟨⟨_, ⟨z0, z1, z2⟩, y0⟩, ⟨_, ⟨z3, z4, z5⟩, y1⟩⟩ := hbox _ h2
      go_wp2_with fail
      refine (cI1 _ h2).mono ?_
      rintro e w3 ⟨rfl, b⟩
      have h3 := h2.trans (b.mono h2.size)
      clear b z0 z1 z2 y0 z3 z4 z5 y1
      obtain ⟨⟨_, ⟨z0, z1, z2⟩, y0⟩, ⟨_, ⟨z3, z4, z5⟩, y1⟩⟩ := hbox _ h3
      go_wp2_with fail
      refine (cI2 _ h3).mono ?_
      rintro e w4 ⟨rfl, b⟩
      have h4 := h3.trans (b.mono h3.size)
      clear b z0 z1 z2 y0 z3 z4 z5 y1
      go_wp2_with fail
      refine (cL _ h4).mono ?_
      rintro e w5 ⟨rfl, b⟩
      have h5 := h4.trans (b.mono h4.size)
      clear b
      go_wp2_with fail
      go_ret
      exact ⟨rfl, hb0.trans (h5.mono hb0.size)⟩
    ·
      have fa := FitL.of hA (by omega)
      have fb := FitL.of hB (by omega)
      rw [hA] at cI1
      rw [hB] at cI2
      have cL1 := fun w' (h : Below W0.heap.size W0 w') => last_any a _ w' (KA w' h).arg.sm fa
      have cL2 := fun w' (h : Below W0.heap.size W0 w') => last_any b _ w' (KB w' h).arg.sm fb
      have cN1 := fun w' (h : Below W0.heap.size W0 w') => newer_any (lastT a) (lastI a) b _ w' (KB w' h).arg.sm fb
      have cN2 := fun w' (h : Below W0.heap.size W0 w') => newer_any (lastT b) (lastI b) a _ w' (KA w' h).arg.sm fa
      have hor := newer_or a b
      have hand := newer_and a b
      obtain ⟨X, hX⟩ : ∃ X, newerL (lastT a) (lastI a) b = X := ⟨_, rfl⟩
      obtain ⟨Y, hY⟩ : ∃ Y, newerL (lastT b) (lastI b) a = Y := ⟨_, rfl⟩
      rw [hX] at cN1 hor hand
      rw [hY] at cN2 hor hand
      clear hX hY
      obtain ⟨aI, haI⟩ : ∃ x, lastI a = x := ⟨_, rfl⟩
      obtain ⟨aT, haT⟩ : ∃ x, lastT a = x := ⟨_, rfl⟩
      obtain ⟨bI, hbI⟩ : ∃ x, lastI b = x := ⟨_, rfl⟩
      obtain ⟨bT, hbT⟩ : ∃ x, lastT b = x := ⟨_, rfl⟩
      rw [haI, haT] at cL1 cN1
      rw [hbI, hbT] at cL2 cN2
      rw [haI, haT, hbI, hbT] at hand
      clear haI haT hbI hbT hA hB sa sb ea eb cS1 cS2 fa fb
      obtain ⟨⟨_, ⟨z0, z1, z2⟩, y0⟩, ⟨_, ⟨z3, z4, z5⟩, y1⟩⟩ := hbox _ h2
      go_wp2_with fail
      refine (cI1 _ h2).mono ?_
      rintro e w3 ⟨rfl, b⟩
      have h3 := h2.trans (b.mono h2.size)
      clear b z0 z1 z2 y0 z3 z4 z5 y1
      obtain ⟨⟨_, ⟨z0, z1, z2⟩, y0⟩, ⟨_, ⟨z3, z4, z5⟩, y1⟩⟩ := hbox _ h3
      go_wp2_with fail
      refine (cI2 _ h3).mono ?_
      rintro e w4 ⟨rfl, b⟩
      have h4 := h3.trans (b.mono h3.size)
      clear b z0 z1 z2 y0 z3 z4 z5 y1
      obtain ⟨⟨_, ⟨z0, z1, z2⟩, y0⟩, ⟨_, ⟨z3, z4, z5⟩, y1⟩⟩ := hbox _ h4
      go_wp2_with fail
      refine (cL1 _ h4).mono ?_
      rintro e w5 ⟨rfl, b⟩
      have h5 := h4.trans (b.mono h4.size)
      clear b z0 z1 z2 y0 z3 z4 z5 y1
      obtain ⟨⟨_, ⟨z0, z1, z2⟩, y0⟩, ⟨_, ⟨z3, z4, z5⟩, y1⟩⟩ := hbox _ h5
      go_wp2_with fail
      refine (cL2 _ h5).mono ?_
      rintro e w6 ⟨rfl, b⟩
      have h6 := h5.trans (b.mono h5.size)
      clear b z0 z1 z2 y0 z3 z4 z5 y1
      clear cI1 cI2 cL1 cL2
      have hcase : (X = true ∧ Y = true ∧ aI = bI ∧ aT = bT) ∨ (X = true ∧ Y = false ∧ ¬ aI = bI) ∨ (X = true ∧ Y = false ∧ aI = bI ∧ ¬ aT = bT) ∨ (X = false ∧ Y = true ∧ ¬ aI = bI) ∨ (X = false ∧ Y = true ∧ aI = bI ∧ ¬ aT = bT) := by
        by_cases e1 : aI = bI <;> by_cases e2 : aT = bT <;> cases X <;> cases Y <;> simp [e1, e2] at hor hand ⊢
      clear hor hand
      rcases hcase with ⟨rfl, rfl, rfl, rfl⟩ | ⟨rfl, rfl, e1⟩ | ⟨rfl, rfl, rfl, e1⟩ | ⟨rfl, rfl, e1⟩ | ⟨rfl, rfl, rfl, e1⟩
      ·
        have n1 : (aI == aI) = true := by simp
        have n2 : (aT == aT) = true := by simp
        go_wp2_with fail
        refine St.wp_region_stage (fun _ wx => Below W0.heap.size W0 wx) (by kernel_rfl) (by kernel_rfl) (by kernel_rfl) h6.drew ?_
        apply St.step_give
        · rfl
        · intro L wx hS hcl hrd
          go_simp
          try with_reducible rfl
        · exact fun L wx hS => hS
        simp only [Act.put, List.setIfInBounds_toArray, List.set_cons_zero, List.set_cons_succ]
        apply St.step_give
        · rfl
        · intro L wx hS hcl hrd
          go_simp
          try with_reducible rfl
        · exact fun L wx hS => hS
        simp only [Act.put, List.setIfInBounds_toArray, List.set_cons_zero, List.set_cons_succ]
        apply St.step_give
        · rfl
        · intro L wx hS hcl hrd
          obtain ⟨⟨_, ⟨z0, z1, z2⟩, y0⟩, ⟨_, ⟨z3, z4, z5⟩, y1⟩⟩ := hbox wx hS
          go_simp
          try with_reducible rfl
        · exact fun L wx hS => hS
        simp only [Act.put, List.setIfInBounds_toArray, List.set_cons_zero, List.set_cons_succ]
        apply St.step_into
        · rfl
        · intro wx
          go_simp
          exact ⟨rfl, rfl⟩
        · intro L wx hS hcl hrd
          refine (cN1 wx hS).mono ?_
          rintro e w' ⟨rfl, b⟩
          exact ⟨rfl, hS.trans (b.mono hS.size)⟩
        simp only [Act.put, List.setIfInBounds_toArray, List.set_cons_zero, List.set_cons_succ]
        apply St.step_give
        · rfl
        · intro L wx hS hcl hrd
          go_simp
          try with_reducible rfl
        · exact fun L wx hS => hS
        simp only [Act.put, List.setIfInBounds_toArray, List.set_cons_zero, List.set_cons_succ]
        apply St.step_give
        · rfl
        · intro L wx hS hcl hrd
          go_simp
          try with_reducible rfl
        · exact fun L wx hS => hS
        simp only [Act.put, List.setIfInBounds_toArray, List.set_cons_zero, List.set_cons_succ]
        apply St.step_give
        · rfl
        · intro L wx hS hcl hrd
          obtain ⟨⟨_, ⟨z0, z1, z2⟩, y0⟩, ⟨_, ⟨z3, z4, z5⟩, y1⟩⟩ := hbox wx hS
          go_simp
          try with_reducible rfl
        · exact fun L wx hS => hS
        simp only [Act.put, List.setIfInBounds_toArray, List.set_cons_zero, List.set_cons_succ]
        apply St.step_into
        · rfl
        · intro wx
          go_simp
          exact ⟨rfl, rfl⟩
        · intro L wx hS hcl hrd
          refine (cN2 wx hS).mono ?_
          rintro e w' ⟨rfl, b⟩
          exact ⟨rfl, hS.trans (b.mono hS.size)⟩
        simp only [Act.put, List.setIfInBounds_toArray, List.set_cons_zero, List.set_cons_succ]
        apply St.step_give
        · rfl
        · intro L wx hS hcl hrd
          go_simp
          try with_reducible rfl
        · exact fun L wx hS => hS
        simp only [Act.put, List.setIfInBounds_toArray, List.set_cons_zero, List.set_cons_succ]
        apply St.step_give
        · rfl
        · intro L wx hS hcl hrd
          go_simp
          try with_reducible rfl
        · exact fun L wx hS => hS
        simp only [Act.put, List.setIfInBounds_toArray, List.set_cons_zero, List.set_cons_succ]
        refine St.step_last ?_
        intro _ w7 h7 _
        clear hbox cN1 cN2
        go_wp2_with fail
        refine (cL _ h7).mono ?_
        rintro e w8 ⟨rfl, b⟩
        have h8 := h7.trans (b.mono h7.size)
        clear b
        go_wp2_with fail
        go_ret
        exact ⟨rfl, hb0.trans (h8.mono hb0.size)⟩
      ·
        obtain ⟨n1, n2, n3⟩ := int_no e1
        go_wp2_with fail
        refine St.wp_region_stage (fun _ wx => Below W0.heap.size W0 wx) (by kernel_rfl) (by kernel_rfl) (by kernel_rfl) h6.drew ?_
        apply St.step_give
        · rfl
        · intro L wx hS hcl hrd
          go_simp
          try with_reducible rfl
        · exact fun L wx hS => hS
        simp only [Act.put, List.setIfInBounds_toArray, List.set_cons_zero, List.set_cons_succ]
        apply St.step_give
        · rfl
        · intro L wx hS hcl hrd
          go_simp
          try with_reducible rfl
        · exact fun L wx hS => hS
        simp only [Act.put, List.setIfInBounds_toArray, List.set_cons_zero, List.set_cons_succ]
        apply St.step_give
        · rfl
        · intro L wx hS hcl hrd
          obtain ⟨⟨_, ⟨z0, z1, z2⟩, y0⟩, ⟨_, ⟨z3, z4, z5⟩, y1⟩⟩ := hbox wx hS
          go_simp
          try with_reducible rfl
        · exact fun L wx hS => hS
        simp only [Act.put, List.setIfInBounds_toArray, List.set_cons_zero, List.set_cons_succ]
        apply St.step_into
        · rfl
        · intro wx
          go_simp
          exact ⟨rfl, rfl⟩
        · intro L wx hS hcl hrd
          refine (cN1 wx hS).mono ?_
          rintro e w' ⟨rfl, b⟩
          exact ⟨rfl, hS.trans (b.mono hS.size)⟩
        simp only [Act.put, List.setIfInBounds_toArray, List.set_cons_zero, List.set_cons_succ]
        apply St.step_give
        · rfl
        · intro L wx hS hcl hrd
          go_simp
          try with_reducible rfl
        · exact fun L wx hS => hS
        simp only [Act.put, List.setIfInBounds_toArray, List.set_cons_zero, List.set_cons_succ]
        apply St.step_give
        · rfl
        · intro L wx hS hcl hrd
          go_simp
          try with_reducible rfl
        · exact fun L wx hS => hS
        simp only [Act.put, List.setIfInBounds_toArray, List.set_cons_zero, List.set_cons_succ]
        apply St.step_give
        · rfl
        · intro L wx hS hcl hrd
          obtain ⟨⟨_, ⟨z0, z1, z2⟩, y0⟩, ⟨_, ⟨z3, z4, z5⟩, y1⟩⟩ := hbox wx hS
          go_simp
          try with_reducible rfl
        · exact fun L wx hS => hS
        simp only [Act.put, List.setIfInBounds_toArray, List.set_cons_zero, List.set_cons_succ]
        apply St.step_into
        · rfl
        · intro wx
          go_simp
          exact ⟨rfl, rfl⟩
        · intro L wx hS hcl hrd
          refine (cN2 wx hS).mono ?_
          rintro e w' ⟨rfl, b⟩
          exact ⟨rfl, hS.trans (b.mono hS.size)⟩
        simp only [Act.put, List.setIfInBounds_toArray, List.set_cons_zero, List.set_cons_succ]
        apply St.step_give
        · rfl
        · intro L wx hS hcl hrd
          go_simp
          try with_reducible rfl
        · exact fun L wx hS => hS
        simp only [Act.put, List.setIfInBounds_toArray, List.set_cons_zero, List.set_cons_succ]
        apply St.step_give
        · rfl
        · intro L wx hS hcl hrd
          go_simp
          try with_reducible rfl
        · exact fun L wx hS => hS
        simp only [Act.put, List.setIfInBounds_toArray, List.set_cons_zero, List.set_cons_succ]
        refine St.step_last ?_
        intro _ w7 h7 _
        clear hbox cN1 cN2
        go_wp2_with fail
        refine (cL _ h7).mono ?_
        rintro e w8 ⟨rfl, b⟩
        have h8 := h7.trans (b.mono h7.size)
        clear b
        go_wp2_with fail
        go_ret
        exact ⟨rfl, hb0.trans (h8.mono hb0.size)⟩
      ·
        have n0 : (aI == aI) = true := by simp
        obtain ⟨n1, n2, n3⟩ := int_no e1
        go_wp2_with fail
        refine St.wp_region_stage (fun _ wx => Below W0.heap.size W0 wx) (by kernel_rfl) (by kernel_rfl) (by kernel_rfl) h6.drew ?_
        apply St.step_give
        · rfl
        · intro L wx hS hcl hrd
          go_simp
          try with_reducible rfl
        · exact fun L wx hS => hS
        simp only [Act.put, List.setIfInBounds_toArray, List.set_cons_zero, List.set_cons_succ]
        apply St.step_give
        · rfl
        · intro L wx hS hcl hrd
          go_simp
          try with_reducible rfl
        · exact fun L wx hS => hS
        simp only [Act.put, List.setIfInBounds_toArray, List.set_cons_zero, List.set_cons_succ]
        apply St.step_give
        · rfl
        · intro L wx hS hcl hrd
          obtain ⟨⟨_, ⟨z0, z1, z2⟩, y0⟩, ⟨_, ⟨z3, z4, z5⟩, y1⟩⟩ := hbox wx hS
          go_simp
          try with_reducible rfl
        · exact fun L wx hS => hS
        simp only [Act.put, List.setIfInBounds_toArray, List.set_cons_zero, List.set_cons_succ]
        apply St.step_into
        · rfl
        · intro wx
          go_simp
          exact ⟨rfl, rfl⟩
        · intro L wx hS hcl hrd
          refine (cN1 wx hS).mono ?_
          rintro e w' ⟨rfl, b⟩
          exact ⟨rfl, hS.trans (b.mono hS.size)⟩
        simp only [Act.put, List.setIfInBounds_toArray, List.set_cons_zero, List.set_cons_succ]
        apply St.step_give
        · rfl
        · intro L wx hS hcl hrd
          go_simp
          try with_reducible rfl
        · exact fun L wx hS => hS
        simp only [Act.put, List.setIfInBounds_toArray, List.set_cons_zero, List.set_cons_succ]
        apply St.step_give
        · rfl
        · intro L wx hS hcl hrd
          go_simp
          try with_reducible rfl
        · exact fun L wx hS => hS
        simp only [Act.put, List.setIfInBounds_toArray, List.set_cons_zero, List.set_cons_succ]
        apply St.step_give
        · rfl
        · intro L wx hS hcl hrd
          obtain ⟨⟨_, ⟨z0, z1, z2⟩, y0⟩, ⟨_, ⟨z3, z4, z5⟩, y1⟩⟩ := hbox wx hS
          go_simp
          try with_reducible rfl
        · exact fun L wx hS => hS
        simp only [Act.put, List.setIfInBounds_toArray, List.set_cons_zero, List.set_cons_succ]
        apply St.step_into
        · rfl
        · intro wx
          go_simp
          exact ⟨rfl, rfl⟩
        · intro L wx hS hcl hrd
          refine (cN2 wx hS).mono ?_
          rintro e w' ⟨rfl, b⟩
          exact ⟨rfl, hS.trans (b.mono hS.size)⟩
        simp only [Act.put, List.setIfInBounds_toArray, List.set_cons_zero, List.set_cons_succ]
        apply St.step_give
        · rfl
        · intro L wx hS hcl hrd
          go_simp
          try with_reducible rfl
        · exact fun L wx hS => hS
        simp only [Act.put, List.setIfInBounds_toArray, List.set_cons_zero, List.set_cons_succ]
        apply St.step_give
        · rfl
        · intro L wx hS hcl hrd
          go_simp
          try with_reducible rfl
        · exact fun L wx hS => hS
        simp only [Act.put, List.setIfInBounds_toArray, List.set_cons_zero, List.set_cons_succ]
        refine St.step_last ?_
        intro _ w7 h7 _
        clear hbox cN1 cN2
        go_wp2_with fail
        refine (cL _ h7).mono ?_
        rintro e w8 ⟨rfl, b⟩
        have h8 := h7.trans (b.mono h7.size)
        clear b
        go_wp2_with fail
        go_ret
        exact ⟨rfl, hb0.trans (h8.mono hb0.size)⟩
      ·
        obtain ⟨n1, n2, n3⟩ := int_no e1
        go_wp2_with fail
        refine St.wp_region_stage (fun _ wx => Below W0.heap.size W0 wx) (by kernel_rfl) (by kernel_rfl) (by kernel_rfl) h6.drew ?_
        apply St.step_give
        · rfl
        · intro L wx hS hcl hrd
          go_simp
          try with_reducible rfl
        · exact fun L wx hS => hS
        simp only [Act.put, List.setIfInBounds_toArray, List.set_cons_zero, List.set_cons_succ]
        apply St.step_give
        · rfl
        · intro L wx hS hcl hrd
          go_simp
          try with_reducible rfl
        · exact fun L wx hS => hS
        simp only [Act.put, List.setIfInBounds_toArray, List.set_cons_zero, List.set_cons_succ]
        apply St.step_give
        · rfl
        · intro L wx hS hcl hrd
          obtain ⟨⟨_, ⟨z0, z1, z2⟩, y0⟩, ⟨_, ⟨z3, z4, z5⟩, y1⟩⟩ := hbox wx hS
          go_simp
          try with_reducible rfl
        · exact fun L wx hS => hS
        simp only [Act.put, List.setIfInBounds_toArray, List.set_cons_zero, List.set_cons_succ]
        apply St.step_into
        · rfl
        · intro wx
          go_simp
          exact ⟨rfl, rfl⟩
        · intro L wx hS hcl hrd
          refine (cN1 wx hS).mono ?_
          rintro e w' ⟨rfl, b⟩
          exact ⟨rfl, hS.trans (b.mono hS.size)⟩
        simp only [Act.put, List.setIfInBounds_toArray, List.set_cons_zero, List.set_cons_succ]
        apply St.step_give
        · rfl
        · intro L wx hS hcl hrd
          go_simp
          try with_reducible rfl
        · exact fun L wx hS => hS
        simp only [Act.put, List.setIfInBounds_toArray, List.set_cons_zero, List.set_cons_succ]
        apply St.step_give
        · rfl
        · intro L wx hS hcl hrd
          go_simp
          try with_reducible rfl
        · exact fun L wx hS => hS
        simp only [Act.put, List.setIfInBounds_toArray, List.set_cons_zero, List.set_cons_succ]
        apply St.step_give
        · rfl
        · intro L wx hS hcl hrd
          obtain ⟨⟨_, ⟨z0, z1, z2⟩, y0⟩, ⟨_, ⟨z3, z4, z5⟩, y1⟩⟩ := hbox wx hS
          go_simp
          try with_reducible rfl
        · exact fun L wx hS => hS
        simp only [Act.put, List.setIfInBounds_toArray, List.set_cons_zero, List.set_cons_succ]
        apply St.step_into
        · rfl
        · intro wx
          go_simp
          exact ⟨rfl, rfl⟩
        · intro L wx hS hcl hrd
          refine (cN2 wx hS).mono ?_
          rintro e w' ⟨rfl, b⟩
          exact ⟨rfl, hS.trans (b.mono hS.size)⟩
        simp only [Act.put, List.setIfInBounds_toArray, List.set_cons_zero, List.set_cons_succ]
        apply St.step_give
        · rfl
        · intro L wx hS hcl hrd
          go_simp
          try with_reducible rfl
        · exact fun L wx hS => hS
        simp only [Act.put, List.setIfInBounds_toArray, List.set_cons_zero, List.set_cons_succ]
        apply St.step_give
        · rfl
        · intro L wx hS hcl hrd
          go_simp
          try with_reducible rfl
        · exact fun L wx hS => hS
        simp only [Act.put, List.setIfInBounds_toArray, List.set_cons_zero, List.set_cons_succ]
        refine St.step_last ?_
        intro _ w7 h7 _
        clear hbox cN1 cN2
        go_wp2_with fail
        refine (cL _ h7).mono ?_
        rintro e w8 ⟨rfl, b⟩
        have h8 := h7.trans (b.mono h7.size)
        clear b
        go_wp2_with fail
        go_ret
        exact ⟨rfl, hb0.trans (h8.mono hb0.size)⟩
      ·
        have n0 : (aI == aI) = true := by simp
        obtain ⟨n1, n2, n3⟩ := int_no e1
        go_wp2_with fail
        refine St.wp_region_stage (fun _ wx => Below W0.heap.size W0 wx) (by kernel_rfl) (by kernel_rfl) (by kernel_rfl) h6.drew ?_
        apply St.step_give
        · rfl
        · intro L wx hS hcl hrd
          go_simp
          try with_reducible rfl
        · exact fun L wx hS => hS
        simp only [Act.put, List.setIfInBounds_toArray, List.set_cons_zero, List.set_cons_succ]
        apply St.step_give
        · rfl
        · intro L wx hS hcl hrd
          go_simp
          try with_reducible rfl
        · exact fun L wx hS => hS
        simp only [Act.put, List.setIfInBounds_toArray, List.set_cons_zero, List.set_cons_succ]
        apply St.step_give
        · rfl
        · intro L wx hS hcl hrd
          obtain ⟨⟨_, ⟨z0, z1, z2⟩, y0⟩, ⟨_, ⟨z3, z4, z5⟩, y1⟩⟩ := hbox wx hS
          go_simp
          try with_reducible rfl
        · exact fun L wx hS => hS
        simp only [Act.put, List.setIfInBounds_toArray, List.set_cons_zero, List.set_cons_succ]
        apply St.step_into
        · rfl
        · intro wx
          go_simp
          exact ⟨rfl, rfl⟩
        · intro L wx hS hcl hrd
          refine (cN1 wx hS).mono ?_
          rintro e w' ⟨rfl, b⟩
          exact ⟨rfl, hS.trans (b.mono hS.size)⟩
        simp only [Act.put, List.setIfInBounds_toArray, List.set_cons_zero, List.set_cons_succ]
        apply St.step_give
        · rfl
        · intro L wx hS hcl hrd
          go_simp
          try with_reducible rfl
        · exact fun L wx hS => hS
        simp only [Act.put, List.setIfInBounds_toArray, List.set_cons_zero, List.set_cons_succ]
        apply St.step_give
        · rfl
        · intro L wx hS hcl hrd
          go_simp
          try with_reducible rfl
        · exact fun L wx hS => hS
        simp only [Act.put, List.setIfInBounds_toArray, List.set_cons_zero, List.set_cons_succ]
        apply St.step_give
        · rfl
        · intro L wx hS hcl hrd
          obtain ⟨⟨_, ⟨z0, z1, z2⟩, y0⟩, ⟨_, ⟨z3, z4, z5⟩, y1⟩⟩ := hbox wx hS
          go_simp
          try with_reducible rfl
        · exact fun L wx hS => hS
        simp only [Act.put, List.setIfInBounds_toArray, List.set_cons_zero, List.set_cons_succ]
        apply St.step_into
        · rfl
        · intro wx
          go_simp
          exact ⟨rfl, rfl⟩
        · intro L wx hS hcl hrd
          refine (cN2 wx hS).mono ?_
          rintro e w' ⟨rfl, b⟩
          exact ⟨rfl, hS.trans (b.mono hS.size)⟩
        simp only [Act.put, List.setIfInBounds_toArray, List.set_cons_zero, List.set_cons_succ]
        apply St.step_give
        · rfl
        · intro L wx hS hcl hrd
          go_simp
          try with_reducible rfl
        · exact fun L wx hS => hS
        simp only [Act.put, List.setIfInBounds_toArray, List.set_cons_zero, List.set_cons_succ]
        apply St.step_give
        · rfl
        · intro L wx hS hcl hrd
          go_simp
          try with_reducible rfl
        · exact fun L wx hS => hS
        simp only [Act.put, List.setIfInBounds_toArray, List.set_cons_zero, List.set_cons_succ]
        refine St.step_last ?_
        intro _ w7 h7 _
        clear hbox cN1 cN2
        go_wp2_with fail
        refine (cL _ h7).mono ?_
        rintro e w8 ⟨rfl, b⟩
        have h8 := h7.trans (b.mono h7.size)
        clear b
        go_wp2_with fail
        go_ret
        exact ⟨rfl, hb0.trans (h8.mono hb0.size)⟩
end Go.Proofs.YtimodohcihnoiaaDoor.Ro
