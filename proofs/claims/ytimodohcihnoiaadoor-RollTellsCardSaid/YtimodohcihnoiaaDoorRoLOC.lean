/-
  RollOrder, walked. Conditions: lengths at most 2^47; the library's variables hold what their types allow.
  RollChecks, walked. Conditions: lengths at most 2^47; the library's variables hold what their types allow.
-/
import Derived.Test.YtimodohcihnoiaaDoorRoLive
import Derived.Test.YtimodohcihnoiaaDoorRoL
import Derived.Test.YtimodohcihnoiaaDoorStage
import Derived.Test.YtimodohcihnoiaaDoorRoOwn
import Derived.Test.YtimodohcihnoiaaDoorRoRPut
namespace Go.Proofs.YtimodohcihnoiaaDoor.Ro
open Go.RowKit

/-- a roll that comes in, kept through a law -/
structure InL (w : World) (v : Value) (r : Lg) : Prop where
  arg : ArgE w v r.es
  len : r.es.length ≤ 140737488355328
  txt : ∀ e ∈ r.es, e.2.size ≤ 140737488355328
theorem InL.keep {w w' : World} {v : Value} {r : Lg} (h : InL w v r) (hb : Below w.heap.size w w') : InL w' v r := ⟨h.arg.keep hb, h.len, h.txt⟩

set_option maxHeartbeats 16000000 in
set_option maxRecDepth 100000 in
theorem order_walk (va vb : Value) (a b : Lg) (w : World) (ha : InL w va a) (hb : InL w vb b) (hg : Good w) :
    Calls Tryd.prog 7 #[lv a va, lv b vb] w fun e w' => e = .returned (.bool true) ∧ Below w.heap.size w w' := by
  obtain ⟨A, ca, rfl⟩ := ha.arg.form
  obtain ⟨D, cb, rfl⟩ := hb.arg.form
  obtain ⟨na, hna⟩ : ∃ n, a.es.length = n := ⟨_, rfl⟩
  obtain ⟨nb, hnb⟩ : ∃ n, b.es.length = n := ⟨_, rfl⟩
  rw [hna] at ha ⊢
  rw [hnb] at hb ⊢
  have HNA := Lib.hid hna
  have HNB := Lib.hid hnb
  clear hna hnb
  obtain ⟨W0, hW0⟩ : ∃ W0, (w.alloc (.cells #[.int .i64 a.base, .int .i64 a.bt, .slice A na ca] 24)).alloc (.cells #[.int .i64 b.base, .int .i64 b.bt, .slice D nb cb] 24) = W0 := ⟨_, rfl⟩
  have hb0 : Below w.heap.size w W0 := hW0 ▸ (by (repeat' (first | with_reducible assumption | with_reducible exact Below.refl _ _ | with_reducible refine Below.alloc ?_ ?_ _ | with_reducible refine Below.setCell ?_ ?_ _ | with_reducible refine Below.drew ?_ | omega | (simp; done) | (simp; omega))))
  have B0 : BoxL w.heap.size a (.slice A na ca) W0 := hW0 ▸ (BoxL.new w a (.slice A na ca)).alloc _
  have B1 : BoxL (w.heap.size + 1) b (.slice D nb cb) W0 := hW0 ▸ box2 w _ b (.slice D nb cb)
  have hbox : ∀ wx, Below W0.heap.size W0 wx → BoxL w.heap.size a (.slice A na ca) wx ∧ BoxL (w.heap.size + 1) b (.slice D nb cb) wx := fun wx h => ⟨B0.keep h, B1.keep h⟩
  have KA : ∀ w', Below W0.heap.size W0 w' → InL w' (.slice A na ca) a := fun w' h => ha.keep (hb0.trans (h.mono hb0.size))
  have KB : ∀ w', Below W0.heap.size W0 w' → InL w' (.slice D nb cb) b := fun w' h => hb.keep (hb0.trans (h.mono hb0.size))
  have cS1 := fun w' (h : Below W0.heap.size W0 w') => small_any a _ w' (KA w' h).arg.sm (KA w' h).len (KA w' h).txt
  have cS2 := fun w' (h : Below W0.heap.size W0 w') => small_any b _ w' (KB w' h).arg.sm (KB w' h).len (KB w' h).txt
  have cI1 := fun w' (h : Below W0.heap.size W0 w') => ris_any a _ w' (KA w' h).arg.sm (KA w' h).len
  have cI2 := fun w' (h : Below W0.heap.size W0 w') => ris_any b _ w' (KB w' h).arg.sm (KB w' h).len
  have cL := fun w' (h : Below W0.heap.size W0 w') => live_any w' (hg.below (hb0.trans (h.mono hb0.size)))
  have h0 := Below.refl W0.heap.size W0
  clear ha hb B0 B1
  go_enter Tryd.func7, Tryd.ntmps7
  obtain ⟨⟨_, ⟨z0, z1, z2⟩, y0⟩, ⟨_, ⟨z3, z4, z5⟩, y1⟩⟩ := hbox _ h0
  go_wp2_with fail
  refine (cS1 _ h0).mono ?_
  rintro e w1 ⟨⟨x1, rfl, s1⟩, b⟩
  have h1 := h0.trans (b.mono h0.size)
  clear b z0 z1 z2 y0 z3 z4 z5 y1
  clear hW0
  cases x1 with
  | false =>
    go_wp2_with fail
    refine (cL _ h1).mono ?_
    rintro e w2 ⟨rfl, b⟩
    have h2 := h1.trans (b.mono h1.size)
    clear b
    go_wp2_with fail
    go_ret
    exact ⟨rfl, hb0.trans (h2.mono hb0.size)⟩
  | true =>
  obtain ⟨⟨_, ⟨z0, z1, z2⟩, y0⟩, ⟨_, ⟨z3, z4, z5⟩, y1⟩⟩ := hbox _ h1
  go_wp2_with fail
  refine (cS2 _ h1).mono ?_
  rintro e w2 ⟨⟨x2, rfl, s2⟩, b⟩
  have h2 := h1.trans (b.mono h1.size)
  clear b z0 z1 z2 y0 z3 z4 z5 y1
  cases x2 with
  | false =>
    go_wp2_with fail
    refine (cL _ h2).mono ?_
    rintro e w3 ⟨rfl, b⟩
    have h3 := h2.trans (b.mono h2.size)
    clear b
    go_wp2_with fail
    go_ret
    exact ⟨rfl, hb0.trans (h3.mono hb0.size)⟩
  | true =>
  have sa : SmallL a := by simpa using s1
  have sb : SmallL b := by simpa using s2
  have ea := sa.n
  have eb := sb.n
  clear s1 s2
  have hA : isL a = true ∨ isL a = false := by cases isL a <;> simp
  have hB : isL b = true ∨ isL b = false := by cases isL b <;> simp
  rcases hA.symm with hA | hA
  ·
    rw [hA] at cI1
    clear hA hB sa sb ea eb
    obtain ⟨⟨_, ⟨z0, z1, z2⟩, y0⟩, ⟨_, ⟨z3, z4, z5⟩, y1⟩⟩ := hbox _ h2
    go_wp2_with fail
    refine (cI1 _ h2).mono ?_
    rintro e w3 ⟨rfl, b⟩
    have h3 := h2.trans (b.mono h2.size)
    clear b z0 z1 z2 y0 z3 z4 z5 y1
    go_wp2_with fail
    refine (cL _ h3).mono ?_
    rintro e w4 ⟨rfl, b⟩
    have h4 := h3.trans (b.mono h3.size)
    clear b
    go_wp2_with fail
    go_ret
    exact ⟨rfl, hb0.trans (h4.mono hb0.size)⟩
  ·
    rcases hB.symm with hB | hB
    ·
      rw [hA] at cI1
      rw [hB] at cI2
      clear hA hB sa sb ea eb
      obtain ⟨⟨_, ⟨z0, z1, z2⟩, y0⟩, ⟨_, ⟨z3, z4, z5⟩, y1⟩⟩ := hbox _ h2
      go_wp2_with fail
      refine (cI1 _ h2).mono ?_
      rintro e w3 ⟨rfl, b⟩
      have h3 := h2.trans (b.mono h2.size)
      clear b z0 z1 z2 y0 z3 z4 z5 y1
      obtain ⟨⟨_, ⟨z0, z1, z2⟩, y0⟩, ⟨_, ⟨z3, z4, z5⟩, y1⟩⟩ := hbox _ h3
      go_wp2_with fail
      refine (cI2 _ h3).mono ?_
      rintro e w4 ⟨rfl, b⟩
      have h4 := h3.trans (b.mono h3.size)
      clear b z0 z1 z2 y0 z3 z4 z5 y1
      go_wp2_with fail
      refine (cL _ h4).mono ?_
      rintro e w5 ⟨rfl, b⟩
      have h5 := h4.trans (b.mono h4.size)
      clear b
      go_wp2_with fail
      go_ret
      exact ⟨rfl, hb0.trans (h5.mono hb0.size)⟩
    ·
      have fa := FitL.of hA (by omega)
      have fb := FitL.of hB (by omega)
      rw [hA] at cI1
      rw [hB] at cI2
      have cL1 := fun w' (h : Below W0.heap.size W0 w') => last_any a _ w' (KA w' h).arg.sm fa
      have cL2 := fun w' (h : Below W0.heap.size W0 w') => last_any b _ w' (KB w' h).arg.sm fb
      have cN1 := fun w' (h : Below W0.heap.size W0 w') => newer_any (lastT a) (lastI a) b _ w' (KB w' h).arg.sm fb
      have cN2 := fun w' (h : Below W0.heap.size W0 w') => newer_any (lastT b) (lastI b) a _ w' (KA w' h).arg.sm fa
      have hor := newer_or a b
      have hand := newer_and a b
      obtain ⟨X, hX⟩ : ∃ X, newerL (lastT a) (lastI a) b = X := ⟨_, rfl⟩
      obtain ⟨Y, hY⟩ : ∃ Y, newerL (lastT b) (lastI b) a = Y := ⟨_, rfl⟩
      rw [hX] at cN1 hor hand
      rw [hY] at cN2 hor hand
      clear hX hY
      obtain ⟨aI, haI⟩ : ∃ x, lastI a = x := ⟨_, rfl⟩
      obtain ⟨aT, haT⟩ : ∃ x, lastT a = x := ⟨_, rfl⟩
      obtain ⟨bI, hbI⟩ : ∃ x, lastI b = x := ⟨_, rfl⟩
      obtain ⟨bT, hbT⟩ : ∃ x, lastT b = x := ⟨_, rfl⟩
      rw [haI, haT] at cL1 cN1
      rw [hbI, hbT] at cL2 cN2
      rw [haI, haT, hbI, hbT] at hand
      clear haI haT hbI hbT hA hB sa sb ea eb cS1 cS2 fa fb
      obtain ⟨⟨_, ⟨z0, z1, z2⟩, y0⟩, ⟨_, ⟨z3, z4, z5⟩, y1⟩⟩ := hbox _ h2
      go_wp2_with fail
      refine (cI1 _ h2).mono ?_
      rintro e w3 ⟨rfl, b⟩
      have h3 := h2.trans (b.mono h2.size)
      clear b z0 z1 z2 y0 z3 z4 z5 y1
      obtain ⟨⟨_, ⟨z0, z1, z2⟩, y0⟩, ⟨_, ⟨z3, z4, z5⟩, y1⟩⟩ := hbox _ h3
      go_wp2_with fail
      refine (cI2 _ h3).mono ?_
      rintro e w4 ⟨rfl, b⟩
      have h4 := h3.trans (b.mono h3.size)
      clear b z0 z1 z2 y0 z3 z4 z5 y1
      obtain ⟨⟨_, ⟨z0, z1, z2⟩, y0⟩, ⟨_, ⟨z3, z4, z5⟩, y1⟩⟩ := hbox _ h4
      go_wp2_with fail
      refine (cL1 _ h4).mono ?_
      rintro e w5 ⟨rfl, b⟩
      have h5 := h4.trans (b.mono h4.size)
      clear b z0 z1 z2 y0 z3 z4 z5 y1
      obtain ⟨⟨_, ⟨z0, z1, z2⟩, y0⟩, ⟨_, ⟨z3, z4, z5⟩, y1⟩⟩ := hbox _ h5
      go_wp2_with fail
      refine (cL2 _ h5).mono ?_
      rintro e w6 ⟨rfl, b⟩
      have h6 := h5.trans (b.mono h5.size)
      clear b z0 z1 z2 y0 z3 z4 z5 y1
      clear cI1 cI2 cL1 cL2
      have hcase : (X = true ∧ Y = true ∧ aI = bI ∧ aT = bT) ∨ (X = true ∧ Y = false ∧ ¬ aI = bI) ∨ (X = true ∧ Y = false ∧ aI = bI ∧ ¬ aT = bT) ∨ (X = false ∧ Y = true ∧ ¬ aI = bI) ∨ (X = false ∧ Y = true ∧ aI = bI ∧ ¬ aT = bT) := by
        by_cases e1 : aI = bI <;> by_cases e2 : aT = bT <;> cases X <;> cases Y <;> simp [e1, e2] at hor hand ⊢
      clear hor hand
      rcases hcase with ⟨rfl, rfl, rfl, rfl⟩ | ⟨rfl, rfl, e1⟩ | ⟨rfl, rfl, rfl, e1⟩ | ⟨rfl, rfl, e1⟩ | ⟨rfl, rfl, rfl, e1⟩
      ·
        have n1 : (aI == aI) = true := by simp
        have n2 : (aT == aT) = true := by simp
        go_wp2_with fail
        refine St.wp_region_stage (fun _ wx => Below W0.heap.size W0 wx) (by kernel_rfl) (by kernel_rfl) (by kernel_rfl) h6.drew ?_
        apply St.step_give
        · rfl
        · intro L wx hS hcl hrd
          go_simp
          try with_reducible rfl
        · exact fun L wx hS => hS
        simp only [Act.put, List.setIfInBounds_toArray, List.set_cons_zero, List.set_cons_succ]
        apply St.step_give
        · rfl
        · intro L wx hS hcl hrd
          go_simp
          try with_reducible rfl
        · exact fun L wx hS => hS
        simp only [Act.put, List.setIfInBounds_toArray, List.set_cons_zero, List.set_cons_succ]
        apply St.step_give
        · rfl
        · intro L wx hS hcl hrd
          obtain ⟨⟨_, ⟨z0, z1, z2⟩, y0⟩, ⟨_, ⟨z3, z4, z5⟩, y1⟩⟩ := hbox wx hS
          go_simp
          try with_reducible rfl
        · exact fun L wx hS => hS
        simp only [Act.put, List.setIfInBounds_toArray, List.set_cons_zero, List.set_cons_succ]
        apply St.step_into
        · rfl
        · intro wx
          go_simp
          exact ⟨rfl, rfl⟩
        · intro L wx hS hcl hrd
          refine (cN1 wx hS).mono ?_
          rintro e w' ⟨rfl, b⟩
          exact ⟨rfl, hS.trans (b.mono hS.size)⟩
        simp only [Act.put, List.setIfInBounds_toArray, List.set_cons_zero, List.set_cons_succ]
        apply St.step_give
        · rfl
        · intro L wx hS hcl hrd
          go_simp
          try with_reducible rfl
        · exact fun L wx hS => hS
        simp only [Act.put, List.setIfInBounds_toArray, List.set_cons_zero, List.set_cons_succ]
        apply St.step_give
        · rfl
        · intro L wx hS hcl hrd
          go_simp
          try with_reducible rfl
        · exact fun L wx hS => hS
        simp only [Act.put, List.setIfInBounds_toArray, List.set_cons_zero, List.set_cons_succ]
        apply St.step_give
        · rfl
        · intro L wx hS hcl hrd
          obtain ⟨⟨_, ⟨z0, z1, z2⟩, y0⟩, ⟨_, ⟨z3, z4, z5⟩, y1⟩⟩ := hbox wx hS
          go_simp
          try with_reducible rfl
        · exact fun L wx hS => hS
        simp only [Act.put, List.setIfInBounds_toArray, List.set_cons_zero, List.set_cons_succ]
        apply St.step_into
        · rfl
        · intro wx
          go_simp
          exact ⟨rfl, rfl⟩
        · intro L wx hS hcl hrd
          refine (cN2 wx hS).mono ?_
          rintro e w' ⟨rfl, b⟩
          exact ⟨rfl, hS.trans (b.mono hS.size)⟩
        simp only [Act.put, List.setIfInBounds_toArray, List.set_cons_zero, List.set_cons_succ]
        apply St.step_give
        · rfl
        · intro L wx hS hcl hrd
          go_simp
          try with_reducible rfl
        · exact fun L wx hS => hS
        simp only [Act.put, List.setIfInBounds_toArray, List.set_cons_zero, List.set_cons_succ]
        apply St.step_give
        · rfl
        · intro L wx hS hcl hrd
          go_simp
          try with_reducible rfl
        · exact fun L wx hS => hS
        simp only [Act.put, List.setIfInBounds_toArray, List.set_cons_zero, List.set_cons_succ]
        refine St.step_last ?_
        intro _ w7 h7 _
        clear hbox cN1 cN2
        go_wp2_with fail
        refine (cL _ h7).mono ?_
        rintro e w8 ⟨rfl, b⟩
        have h8 := h7.trans (b.mono h7.size)
        clear b
        go_wp2_with fail
        go_ret
        exact ⟨rfl, hb0.trans (h8.mono hb0.size)⟩
      ·
        obtain ⟨n1, n2, n3⟩ := int_no e1
        go_wp2_with fail
        refine St.wp_region_stage (fun _ wx => Below W0.heap.size W0 wx) (by kernel_rfl) (by kernel_rfl) (by kernel_rfl) h6.drew ?_
        apply St.step_give
        · rfl
        · intro L wx hS hcl hrd
          go_simp
          try with_reducible rfl
        · exact fun L wx hS => hS
        simp only [Act.put, List.setIfInBounds_toArray, List.set_cons_zero, List.set_cons_succ]
        apply St.step_give
        · rfl
        · intro L wx hS hcl hrd
          go_simp
          try with_reducible rfl
        · exact fun L wx hS => hS
        simp only [Act.put, List.setIfInBounds_toArray, List.set_cons_zero, List.set_cons_succ]
        apply St.step_give
        · rfl
        · intro L wx hS hcl hrd
          obtain ⟨⟨_, ⟨z0, z1, z2⟩, y0⟩, ⟨_, ⟨z3, z4, z5⟩, y1⟩⟩ := hbox wx hS
          go_simp
          try with_reducible rfl
        · exact fun L wx hS => hS
        simp only [Act.put, List.setIfInBounds_toArray, List.set_cons_zero, List.set_cons_succ]
        apply St.step_into
        · rfl
        · intro wx
          go_simp
          exact ⟨rfl, rfl⟩
        · intro L wx hS hcl hrd
          refine (cN1 wx hS).mono ?_
          rintro e w' ⟨rfl, b⟩
          exact ⟨rfl, hS.trans (b.mono hS.size)⟩
        simp only [Act.put, List.setIfInBounds_toArray, List.set_cons_zero, List.set_cons_succ]
        apply St.step_give
        · rfl
        · intro L wx hS hcl hrd
          go_simp
          try with_reducible rfl
        · exact fun L wx hS => hS
        simp only [Act.put, List.setIfInBounds_toArray, List.set_cons_zero, List.set_cons_succ]
        apply St.step_give
        · rfl
        · intro L wx hS hcl hrd
          go_simp
          try with_reducible rfl
        · exact fun L wx hS => hS
        simp only [Act.put, List.setIfInBounds_toArray, List.set_cons_zero, List.set_cons_succ]
        apply St.step_give
        · rfl
        · intro L wx hS hcl hrd
          obtain ⟨⟨_, ⟨z0, z1, z2⟩, y0⟩, ⟨_, ⟨z3, z4, z5⟩, y1⟩⟩ := hbox wx hS
          go_simp
          try with_reducible rfl
        · exact fun L wx hS => hS
        simp only [Act.put, List.setIfInBounds_toArray, List.set_cons_zero, List.set_cons_succ]
        apply St.step_into
        · rfl
        · intro wx
          go_simp
          exact ⟨rfl, rfl⟩
        · intro L wx hS hcl hrd
          refine (cN2 wx hS).mono ?_
          rintro e w' ⟨rfl, b⟩
          exact ⟨rfl, hS.trans (b.mono hS.size)⟩
        simp only [Act.put, List.setIfInBounds_toArray, List.set_cons_zero, List.set_cons_succ]
        apply St.step_give
        · rfl
        · intro L wx hS hcl hrd
          go_simp
          try with_reducible rfl
        · exact fun L wx hS => hS
        simp only [Act.put, List.setIfInBounds_toArray, List.set_cons_zero, List.set_cons_succ]
        apply St.step_give
        · rfl
        · intro L wx hS hcl hrd
          go_simp
          try with_reducible rfl
        · exact fun L wx hS => hS
        simp only [Act.put, List.setIfInBounds_toArray, List.set_cons_zero, List.set_cons_succ]
        refine St.step_last ?_
        intro _ w7 h7 _
        clear hbox cN1 cN2
        go_wp2_with fail
        refine (cL _ h7).mono ?_
        rintro e w8 ⟨rfl, b⟩
        have h8 := h7.trans (b.mono h7.size)
        clear b
        go_wp2_with fail
        go_ret
        exact ⟨rfl, hb0.trans (h8.mono hb0.size)⟩
      ·
        have n0 : (aI == aI) = true := by simp
        obtain ⟨n1, n2, n3⟩ := int_no e1
        go_wp2_with fail
        refine St.wp_region_stage (fun _ wx => Below W0.heap.size W0 wx) (by kernel_rfl) (by kernel_rfl) (by kernel_rfl) h6.drew ?_
        apply St.step_give
        · rfl
        · intro L wx hS hcl hrd
          go_simp
          try with_reducible rfl
        · exact fun L wx hS => hS
        simp only [Act.put, List.setIfInBounds_toArray, List.set_cons_zero, List.set_cons_succ]
        apply St.step_give
        · rfl
        · intro L wx hS hcl hrd
          go_simp
          try with_reducible rfl
        · exact fun L wx hS => hS
        simp only [Act.put, List.setIfInBounds_toArray, List.set_cons_zero, List.set_cons_succ]
        apply St.step_give
        · rfl
        · intro L wx hS hcl hrd
          obtain ⟨⟨_, ⟨z0, z1, z2⟩, y0⟩, ⟨_, ⟨z3, z4, z5⟩, y1⟩⟩ := hbox wx hS
          go_simp
          try with_reducible rfl
        · exact fun L wx hS => hS
        simp only [Act.put, List.setIfInBounds_toArray, List.set_cons_zero, List.set_cons_succ]
        apply St.step_into
        · rfl
        · intro wx
          go_simp
          exact ⟨rfl, rfl⟩
        · intro L wx hS hcl hrd
          refine (cN1 wx hS).mono ?_
          rintro e w' ⟨rfl, b⟩
          exact ⟨rfl, hS.trans (b.mono hS.size)⟩
        simp only [Act.put, List.setIfInBounds_toArray, List.set_cons_zero, List.set_cons_succ]
        apply St.step_give
        · rfl
        · intro L wx hS hcl hrd
          go_simp
          try with_reducible rfl
        · exact fun L wx hS => hS
        simp only [Act.put, List.setIfInBounds_toArray, List.set_cons_zero, List.set_cons_succ]
        apply St.step_give
        · rfl
        · intro L wx hS hcl hrd
          go_simp
          try with_reducible rfl
        · exact fun L wx hS => hS
        simp only [Act.put, List.setIfInBounds_toArray, List.set_cons_zero, List.set_cons_succ]
        apply St.step_give
        · rfl
        · intro L wx hS hcl hrd
          obtain ⟨⟨_, ⟨z0, z1, z2⟩, y0⟩, ⟨_, ⟨z3, z4, z5⟩, y1⟩⟩ := hbox wx hS
          go_simp
          try with_reducible rfl
        · exact fun L wx hS => hS
        simp only [Act.put, List.setIfInBounds_toArray, List.set_cons_zero, List.set_cons_succ]
        apply St.step_into
        · rfl
        · intro wx
          go_simp
          exact ⟨rfl, rfl⟩
        · intro L wx hS hcl hrd
          refine (cN2 wx hS).mono ?_
          rintro e w' ⟨rfl, b⟩
          exact ⟨rfl, hS.trans (b.mono hS.size)⟩
        simp only [Act.put, List.setIfInBounds_toArray, List.set_cons_zero, List.set_cons_succ]
        apply St.step_give
        · rfl
        · intro L wx hS hcl hrd
          go_simp
          try with_reducible rfl
        · exact fun L wx hS => hS
        simp only [Act.put, List.setIfInBounds_toArray, List.set_cons_zero, List.set_cons_succ]
        apply St.step_give
        · rfl
        · intro L wx hS hcl hrd
          go_simp
          try with_reducible rfl
        · exact fun L wx hS => hS
        simp only [Act.put, List.setIfInBounds_toArray, List.set_cons_zero, List.set_cons_succ]
        refine St.step_last ?_
        intro _ w7 h7 _
        clear hbox cN1 cN2
        go_wp2_with fail
        refine (cL _ h7).mono ?_
        rintro e w8 ⟨rfl, b⟩
        have h8 := h7.trans (b.mono h7.size)
        clear b
        go_wp2_with fail
        go_ret
        exact ⟨rfl, hb0.trans (h8.mono hb0.size)⟩
      ·
        obtain ⟨n1, n2, n3⟩ := int_no e1
        go_wp2_with fail
        refine St.wp_region_stage (fun _ wx => Below W0.heap.size W0 wx) (by kernel_rfl) (by kernel_rfl) (by kernel_rfl) h6.drew ?_
        apply St.step_give
        · rfl
        · intro L wx hS hcl hrd
          go_simp
          try with_reducible rfl
        · exact fun L wx hS => hS
        simp only [Act.put, List.setIfInBounds_toArray, List.set_cons_zero, List.set_cons_succ]
        apply St.step_give
        · rfl
        · intro L wx hS hcl hrd
          go_simp
          try with_reducible rfl
        · exact fun L wx hS => hS
        simp only [Act.put, List.setIfInBounds_toArray, List.set_cons_zero, List.set_cons_succ]
        apply St.step_give
        · rfl
        · intro L wx hS hcl hrd
          obtain ⟨⟨_, ⟨z0, z1, z2⟩, y0⟩, ⟨_, ⟨z3, z4, z5⟩, y1⟩⟩ := hbox wx hS
          go_simp
          try with_reducible rfl
        · exact fun L wx hS => hS
        simp only [Act.put, List.setIfInBounds_toArray, List.set_cons_zero, List.set_cons_succ]
        apply St.step_into
        · rfl
        · intro wx
          go_simp
          exact ⟨rfl, rfl⟩
        · intro L wx hS hcl hrd
          refine (cN1 wx hS).mono ?_
          rintro e w' ⟨rfl, b⟩
          exact ⟨rfl, hS.trans (b.mono hS.size)⟩
        simp only [Act.put, List.setIfInBounds_toArray, List.set_cons_zero, List.set_cons_succ]
        apply St.step_give
        · rfl
        · intro L wx hS hcl hrd
          go_simp
          try with_reducible rfl
        · exact fun L wx hS => hS
        simp only [Act.put, List.setIfInBounds_toArray, List.set_cons_zero, List.set_cons_succ]
        apply St.step_give
        · rfl
        · intro L wx hS hcl hrd
          go_simp
          try with_reducible rfl
        · exact fun L wx hS => hS
        simp only [Act.put, List.setIfInBounds_toArray, List.set_cons_zero, List.set_cons_succ]
        apply St.step_give
        · rfl
        · intro L wx hS hcl hrd
          obtain ⟨⟨_, ⟨z0, z1, z2⟩, y0⟩, ⟨_, ⟨z3, z4, z5⟩, y1⟩⟩ := hbox wx hS
          go_simp
          try with_reducible rfl
        · exact fun L wx hS => hS
        simp only [Act.put, List.setIfInBounds_toArray, List.set_cons_zero, List.set_cons_succ]
        apply St.step_into
        · rfl
        · intro wx
          go_simp
          exact ⟨rfl, rfl⟩
        · intro L wx hS hcl hrd
          refine (cN2 wx hS).mono ?_
          rintro e w' ⟨rfl, b⟩
          exact ⟨rfl, hS.trans (b.mono hS.size)⟩
        simp only [Act.put, List.setIfInBounds_toArray, List.set_cons_zero, List.set_cons_succ]
        apply St.step_give
        · rfl
        · intro L wx hS hcl hrd
          go_simp
          try with_reducible rfl
        · exact fun L wx hS => hS
        simp only [Act.put, List.setIfInBounds_toArray, List.set_cons_zero, List.set_cons_succ]
        apply St.step_give
        · rfl
        · intro L wx hS hcl hrd
          go_simp
          try with_reducible rfl
        · exact fun L wx hS => hS
        simp only [Act.put, List.setIfInBounds_toArray, List.set_cons_zero, List.set_cons_succ]
        refine St.step_last ?_
        intro _ w7 h7 _
        clear hbox cN1 cN2
        go_wp2_with fail
        refine (cL _ h7).mono ?_
        rintro e w8 ⟨rfl, b⟩
        have h8 := h7.trans (b.mono h7.size)
        clear b
        go_wp2_with fail
        go_ret
        exact ⟨rfl, hb0.trans (h8.mono hb0.size)⟩
      ·
        have n0 : (aI == aI) = true := by simp
        obtain ⟨n1, n2, n3⟩ := int_no e1
        go_wp2_with fail
        refine St.wp_region_stage (fun _ wx => Below W0.heap.size W0 wx) (by kernel_rfl) (by kernel_rfl) (by kernel_rfl) h6.drew ?_
        apply St.step_give
        · rfl
        · intro L wx hS hcl hrd
          go_simp
          try with_reducible rfl
        · exact fun L wx hS => hS
        simp only [Act.put, List.setIfInBounds_toArray, List.set_cons_zero, List.set_cons_succ]
        apply St.step_give
        · rfl
        · intro L wx hS hcl hrd
          go_simp
          try with_reducible rfl
        · exact fun L wx hS => hS
        simp only [Act.put, List.setIfInBounds_toArray, List.set_cons_zero, List.set_cons_succ]
        apply St.step_give
        · rfl
        · intro L wx hS hcl hrd
          obtain ⟨⟨_, ⟨z0, z1, z2⟩, y0⟩, ⟨_, ⟨z3, z4, z5⟩, y1⟩⟩ := hbox wx hS
          go_simp
          try with_reducible rfl
        · exact fun L wx hS => hS
        simp only [Act.put, List.setIfInBounds_toArray, List.set_cons_zero, List.set_cons_succ]
        apply St.step_into
        · rfl
        · intro wx
          go_simp
          exact ⟨rfl, rfl⟩
        · intro L wx hS hcl hrd
          refine (cN1 wx hS).mono ?_
          rintro e w' ⟨rfl, b⟩
          exact ⟨rfl, hS.trans (b.mono hS.size)⟩
        simp only [Act.put, List.setIfInBounds_toArray, List.set_cons_zero, List.set_cons_succ]
        apply St.step_give
        · rfl
        · intro L wx hS hcl hrd
          go_simp
          try with_reducible rfl
        · exact fun L wx hS => hS
        simp only [Act.put, List.setIfInBounds_toArray, List.set_cons_zero, List.set_cons_succ]
        apply St.step_give
        · rfl
        · intro L wx hS hcl hrd
          go_simp
          try with_reducible rfl
        · exact fun L wx hS => hS
        simp only [Act.put, List.setIfInBounds_toArray, List.set_cons_zero, List.set_cons_succ]
        apply St.step_give
        · rfl
        · intro L wx hS hcl hrd
          obtain ⟨⟨_, ⟨z0, z1, z2⟩, y0⟩, ⟨_, ⟨z3, z4, z5⟩, y1⟩⟩ := hbox wx hS
          go_simp
          try with_reducible rfl
        · exact fun L wx hS => hS
        simp only [Act.put, List.setIfInBounds_toArray, List.set_cons_zero, List.set_cons_succ]
        apply St.step_into
        · rfl
        · intro wx
          go_simp
          exact ⟨rfl, rfl⟩
        · intro L wx hS hcl hrd
          refine (cN2 wx hS).mono ?_
          rintro e w' ⟨rfl, b⟩
          exact ⟨rfl, hS.trans (b.mono hS.size)⟩
        simp only [Act.put, List.setIfInBounds_toArray, List.set_cons_zero, List.set_cons_succ]
        apply St.step_give
        · rfl
        · intro L wx hS hcl hrd
          go_simp
          try with_reducible rfl
        · exact fun L wx hS => hS
        simp only [Act.put, List.setIfInBounds_toArray, List.set_cons_zero, List.set_cons_succ]
        apply St.step_give
        · rfl
        · intro L wx hS hcl hrd
          go_simp
          try with_reducible rfl
        · exact fun L wx hS => hS
        simp only [Act.put, List.setIfInBounds_toArray, List.set_cons_zero, List.set_cons_succ]
        refine St.step_last ?_
        intro _ w7 h7 _
        clear hbox cN1 cN2
        go_wp2_with fail
        refine (cL _ h7).mono ?_
        rintro e w8 ⟨rfl, b⟩
        have h8 := h7.trans (b.mono h7.size)
        clear b
        go_wp2_with fail
        go_ret
        exact ⟨rfl, hb0.trans (h8.mono hb0.size)⟩
end Go.Proofs.YtimodohcihnoiaaDoor.Ro

namespace Go.Proofs.YtimodohcihnoiaaDoor.Ro
open Go.RowKit
open Go.Proofs.YtimodohcihnoiaaDoor.M (tieT untieT intT numT inR untie_spec)

theorem parseL_len (s : List UInt8) : (parseL s).1.es.length ≤ 4096 := by
  unfold parseL
  split
  · rename_i a b l hu
    have h2 := (untie_spec hu).2.1
    simp only [List.length_cons] at h2
    split
    · split
      · show (twosE l).length ≤ 4096
        rw [twosE_length]
        omega
      · exact Nat.zero_le _
    · exact Nat.zero_le _
  · exact Nat.zero_le _
/-- a region whose k-th operation makes a roll of its own -/
structure RC1 (W0 : World) (r : Lg) (k : Nat) (L : Nat → Bool) (u : Nat → Value) (wx : World) : Prop where
  low : Below W0.heap.size W0 wx
  own : L k = true → ∃ s, u k = lv r s ∧ ArgE wx s r.es
theorem RC1.call {W0 wx w' : World} {r : Lg} {k j : Nat} {L : Nat → Bool} {u : Nat → Value} (h : RC1 W0 r k L u wx) (hj : k ≠ j) (b : Below wx.heap.size wx w') (v : Value) : RC1 W0 r k (St.mark L j) (St.upd u j v) w' :=
  ⟨h.low.trans (b.mono h.low.size), fun h' => by
    rw [show St.mark L j k = L k by simp [St.mark, hj]] at h'
    obtain ⟨s, h1, h2⟩ := h.own h'
    exact ⟨s, by rw [show St.upd u j v k = u k by simp [St.upd, hj]]; exact h1, h2.keep b⟩⟩
theorem RC1.plain {W0 wx : World} {r : Lg} {k j : Nat} {L : Nat → Bool} {u : Nat → Value} (h : RC1 W0 r k L u wx) (hj : k ≠ j) (v : Value) : RC1 W0 r k (St.mark L j) (St.upd u j v) wx := h.call hj (Below.refl _ _) v
theorem RC1.got {W0 wx w' : World} {r : Lg} {k : Nat} {L : Nat → Bool} {u : Nat → Value} {s : Value} (h : RC1 W0 r k L u wx) (b : Below wx.heap.size wx w') (hs : ArgE w' s r.es) : RC1 W0 r k (St.mark L k) (St.upd u k (lv r s)) w' :=
  ⟨h.low.trans (b.mono h.low.size), fun _ => ⟨s, by simp [St.upd], hs⟩⟩
theorem RC1.at_ {W0 wx : World} {r : Lg} {k : Nat} {L : Nat → Bool} {u : Nat → Value} {s : Value} (h : RC1 W0 r k L u wx) (hk : L k = true) (e : u k = lv r s) : ArgE wx s r.es := by
  obtain ⟨s', h1, h2⟩ := h.own hk
  have e2 : lv r s' = lv r s := h1.symm.trans e
  have e3 : s' = s := by
    injection e2 with e3
    simpa using e3
  exact e3 ▸ h2

set_option maxHeartbeats 16000000 in
set_option maxRecDepth 100000 in
theorem checks_walk (v : Value) (r : Lg) (T : ByteArray) (w : World) (ha : InL w v r) (hb : inR r.base) (ht : inR r.bt) (he : ∀ e ∈ r.es, inR e.1) (hT : T.size ≤ 140737488355328) (hg : Good w) :
    Calls Tryd.prog 3 #[lv r v, .string T] w fun e w' => e = .returned (.bool true) ∧ Below w.heap.size w w' := by
  obtain ⟨A, c, rfl⟩ := ha.arg.form
  obtain ⟨n, hn⟩ : ∃ n, r.es.length = n := ⟨_, rfl⟩
  rw [hn] at ha ⊢
  have HN := Lib.hid hn
  clear hn
  obtain ⟨W0, hW0⟩ : ∃ W0, w.alloc (.cells #[.int .i64 r.base, .int .i64 r.bt, .slice A n c] 24) = W0 := ⟨_, rfl⟩
  have hb0 : Below w.heap.size w W0 := hW0 ▸ (by (repeat' (first | with_reducible assumption | with_reducible exact Below.refl _ _ | with_reducible refine Below.alloc ?_ ?_ _ | with_reducible refine Below.setCell ?_ ?_ _ | with_reducible refine Below.drew ?_ | omega | (simp; done) | (simp; omega))))
  have B0 : BoxL w.heap.size r (.slice A n c) W0 := hW0 ▸ BoxL.new w r (.slice A n c)
  have hbox : ∀ wx, Below W0.heap.size W0 wx → BoxL w.heap.size r (.slice A n c) wx := fun wx h => B0.keep h
  have KA : ∀ w', Below W0.heap.size W0 w' → InL w' (.slice A n c) r := fun w' h => ha.keep (hb0.trans (h.mono hb0.size))
  have KG : ∀ w', Below W0.heap.size W0 w' → Good w' := fun w' h => hg.below (hb0.trans (h.mono hb0.size))
  have cS1 := fun w' (h : Below W0.heap.size W0 w') => small_any r _ w' (KA w' h).arg.sm (KA w' h).len (KA w' h).txt
  have cL := fun w' (h : Below W0.heap.size W0 w') => live_any w' (KG w' h)
  have h0 := Below.refl W0.heap.size W0
  clear ha B0 hg
  go_enter Tryd.func3, Tryd.ntmps3
  obtain ⟨_, ⟨z0, z1, z2⟩, y0⟩ := hbox _ h0
  go_wp2_with fail
  refine (cS1 _ h0).mono ?_
  rintro e w1 ⟨⟨x1, rfl, s1⟩, b⟩
  have h1 := h0.trans (b.mono h0.size)
  clear b z0 z1 z2 y0
  clear hW0
  cases x1 with
  | false =>
    go_wp2_with fail
    refine (cL _ h1).mono ?_
    rintro e w2 ⟨rfl, b⟩
    have h2 := h1.trans (b.mono h1.size)
    clear b
    go_wp2_with fail
    go_ret
    exact ⟨rfl, hb0.trans (h2.mono hb0.size)⟩
  | true =>
  have sa : SmallL r := by simpa using s1
  clear s1
  by_cases hlen : 10000 < T.size
  ·
    have g1 : ((10000 : Int) < (T.size : Int)) = True := eq_true (by omega)
    clear hlen sa hT
    go_wp2_with fail
    refine (cL _ h1).mono ?_
    rintro e w2 ⟨rfl, b⟩
    have h2 := h1.trans (b.mono h1.size)
    clear b
    go_wp2_with fail
    go_ret
    exact ⟨rfl, hb0.trans (h2.mono hb0.size)⟩
  have g1 : ((10000 : Int) < (T.size : Int)) = False := eq_false (by omega)
  have hpl := parseL_len T.data.toList
  obtain ⟨p, hp⟩ : ∃ p, parseL T.data.toList = p := ⟨_, rfl⟩
  have cP := fun w' (h : Below W0.heap.size W0 w') => parse_any T w' (by omega) (KG w' h)
  have cR := fun w' (h : Below W0.heap.size W0 w') => rparse_any T w' (by omega)
  rw [hp] at cP cR hpl
  obtain ⟨q, E⟩ := p
  simp only at hpl
  have HPL := Lib.hid hpl
  have HSA := Lib.hid sa
  clear hp hpl hlen cS1 hT sa
  go_wp2_with fail
  refine (cP _ h1).mono ?_
  rintro e w2 ⟨s2, rfl, a2, b⟩
  obtain ⟨A2, c2, rfl⟩ := a2.form
  have h2 := h1.trans (b.mono h1.size)
  clear b cP
  simp only at a2
  have B2 := BoxL.new w2 q (.slice A2 q.es.length c2)
  have b3 := (Below.refl w2.heap.size w2).alloc (Nat.le_refl _) (.cells #[.int .i64 q.base, .int .i64 q.bt, .slice A2 q.es.length c2] 24)
  go_wp2_with fail
  refine (cR _ (h2.trans (b3.mono h2.size))).mono ?_
  rintro e w3 ⟨s3, rfl, a3, b⟩
  obtain ⟨A3, c3, rfl⟩ := a3.form
  have h23 := b3.trans (b.mono b3.size)
  have h3 := h2.trans (h23.mono h2.size)
  simp only at a3
  have B3 := B2.keep b
  obtain ⟨W4, hW4⟩ : ∃ W4, w3.alloc (.cells #[.int .i64 q.base, .int .i64 q.bt, .slice A3 q.es.length c3] 24) = W4 := ⟨_, rfl⟩
  have h34 : Below w3.heap.size w3 W4 := hW4 ▸ (Below.refl _ w3).alloc (Nat.le_refl _) _
  have B4 : BoxL w3.heap.size q (.slice A3 q.es.length c3) W4 := hW4 ▸ BoxL.new w3 q (.slice A3 q.es.length c3)
  have B5 : BoxL w2.heap.size q (.slice A2 q.es.length c2) W4 := B3.keep h34
  have h4 := h3.trans (h34.mono h3.size)
  have K2 := fun w' (h : Below W4.heap.size W4 w') => a2.keep (h23.trans ((h34.trans (h.mono h34.size)).mono h23.size))
  have K3 := fun w' (h : Below W4.heap.size W4 w') => a3.keep (h34.trans (h.mono h34.size))
  have hlow : ∀ wx, Below W4.heap.size W4 wx → Below W0.heap.size W0 wx := fun wx h => h4.trans (h.mono h4.size)
  have hboxs : ∀ wx, Below W4.heap.size W4 wx → BoxL w.heap.size r (.slice A n c) wx ∧ BoxL w2.heap.size q (.slice A2 q.es.length c2) wx ∧ BoxL w3.heap.size q (.slice A3 q.es.length c3) wx := fun wx h => ⟨hbox wx (hlow wx h), B5.keep h, B4.keep h⟩
  clear b b3 B2 B3 B4 B5 a2 a3 cR h34 h23
  have hpt : PutL r := ⟨hb, ht, fun e h => ⟨he e h, by have := sumE_mem h; have := HSA.out.sum; omega⟩, by have := HSA.out.n; omega⟩
  have cK := fun w' (h : Below W4.heap.size W4 w') => check_any r _ w' (KA w' (hlow w' h)).arg.sm (KA w' (hlow w' h)).len
  have cI := fun w' (h : Below W4.heap.size W4 w') => ris_any r _ w' (KA w' (hlow w' h)).arg.sm (KA w' (hlow w' h)).len
  have cO := fun w' (h : Below W4.heap.size W4 w') => own_any r _ w' (KA w' (hlow w' h)).arg (by have := HSA.out.n; omega)
  have cU := fun w' (h : Below W4.heap.size W4 w') => rput_any r _ w' (KA w' (hlow w' h)).arg.sm hpt
  have cE := fun w' (h : Below W4.heap.size W4 w') => rsame_any q q _ _ w' (K2 w' h).sm (K3 w' h).sm (by have := HPL.out; omega) (by have := HPL.out; omega)
  have cZ := fun w' (h : Below W4.heap.size W4 w') => live_any w' (KG w' (hlow w' h))
  rw [show decide (q = q) = true from decide_eq_true rfl] at cE
  have hcp : ∀ s w', ArgE w' s r.es → Calls Tryd.prog 15 #[lv r s] w' fun e w'' => e = .returned (str (putL r)) ∧ Below w'.heap.size w' w'' := fun s w' h => put_any r s w' h.sm hpt
  obtain ⟨tx, htx⟩ : ∃ x, str (putL r) = Value.string x := ⟨_, rfl⟩
  rw [htx] at cU hcp
  have q2 : (tx.toList == tx.toList) = true := by simp
  have q3 : (E == E) = true := by simp
  have hKI : (chkL r = 0 ∧ isL r = true) ∨ (chkL r = 110 ∧ isL r = false) := by unfold chkL; cases isL r <;> simp
  obtain ⟨K, hK⟩ : ∃ x, chkL r = x := ⟨_, rfl⟩
  obtain ⟨I, hI⟩ : ∃ x, isL r = x := ⟨_, rfl⟩
  rw [hK, hI] at hKI
  rw [hK] at cK
  rw [hI] at cI
  clear hK hI htx hpt cL hbox K2 K3 hb ht he KA KG
  rcases hKI with ⟨rfl, rfl⟩ | ⟨rfl, rfl⟩
  ·
    go_wp2_with fail
    try rw [hW4]
    refine St.wp_region_mixed (RC1 W4 r 9) (fun j x => match j with | 1 => x = .int .i64 0 | 2 => x = .int .i64 0 | 5 => x = .bool true | 9 => ∃ s, x = lv r s | 10 => x = .string tx | 12 => x = .string tx | 18 => x = .bool true | 22 => x = .int .i64 E | _ => x = .bool true) (by kernel_rfl) (by kernel_rfl) (by kernel_rfl) ⟨(Below.refl _ _).drew, fun h => (by cases h)⟩ ?_
    apply St.mix_give
    · rfl
    · intro L u' wx hS hcl hrd hag
      obtain ⟨⟨_, ⟨z0, z1, z2⟩, y0⟩, ⟨_, ⟨z3, z4, z5⟩, y1⟩, ⟨_, ⟨z6, z7, z8⟩, y2⟩⟩ := hboxs wx hS.low
      go_simp
      try with_reducible rfl
    · exact fun L u' wx hS => hS.plain (by decide) _
    simp only [Act.put, List.setIfInBounds_toArray, List.set_cons_zero, List.set_cons_succ]
    refine St.mix_into (v := .int .i64 0) (f := 13) (args := #[lv r (.slice A n c)]) rfl rfl ?_ ?_ ?_
    · intro wx
      go_simp
      try with_reducible rfl
    · intro L u' wx hS hcl hrd hag
      refine (cK wx hS.low).mono ?_
      rintro e w' ⟨rfl, b⟩
      exact ⟨rfl, hS.call (by decide) b _⟩
    simp only [Act.put, List.setIfInBounds_toArray, List.set_cons_zero, List.set_cons_succ]
    refine St.mix_into (v := .int .i64 0) (f := 12) (args := #[.int .i64 0]) rfl rfl ?_ ?_ ?_
    · intro wx
      go_simp
      try with_reducible rfl
    · intro L u' wx hS hcl hrd hag
      refine (num_any _ wx).mono ?_
      rintro e w' ⟨rfl, rfl⟩
      exact ⟨rfl, hS.plain (by decide) _⟩
    simp only [Act.put, List.setIfInBounds_toArray, List.set_cons_zero, List.set_cons_succ]
    apply St.mix_give
    · rfl
    · intro L u' wx hS hcl hrd hag
      go_simp
      try with_reducible rfl
    · exact fun L u' wx hS => hS.plain (by decide) _
    simp only [Act.put, List.setIfInBounds_toArray, List.set_cons_zero, List.set_cons_succ]
    apply St.mix_give
    · rfl
    · intro L u' wx hS hcl hrd hag
      obtain ⟨⟨_, ⟨z0, z1, z2⟩, y0⟩, ⟨_, ⟨z3, z4, z5⟩, y1⟩, ⟨_, ⟨z6, z7, z8⟩, y2⟩⟩ := hboxs wx hS.low
      go_simp
      try with_reducible rfl
    · exact fun L u' wx hS => hS.plain (by decide) _
    simp only [Act.put, List.setIfInBounds_toArray, List.set_cons_zero, List.set_cons_succ]
    refine St.mix_into (v := .bool true) (f := 14) (args := #[lv r (.slice A n c)]) rfl rfl ?_ ?_ ?_
    · intro wx
      go_simp
      try with_reducible rfl
    · intro L u' wx hS hcl hrd hag
      refine (cI wx hS.low).mono ?_
      rintro e w' ⟨rfl, b⟩
      exact ⟨rfl, hS.call (by decide) b _⟩
    simp only [Act.put, List.setIfInBounds_toArray, List.set_cons_zero, List.set_cons_succ]
    apply St.mix_give
    · rfl
    · intro L u' wx hS hcl hrd hag
      go_simp
      try with_reducible rfl
    · exact fun L u' wx hS => hS.plain (by decide) _
    simp only [Act.put, List.setIfInBounds_toArray, List.set_cons_zero, List.set_cons_succ]
    apply St.mix_give
    · rfl
    · intro L u' wx hS hcl hrd hag
      go_simp
      try with_reducible rfl
    · exact fun L u' wx hS => hS.plain (by decide) _
    simp only [Act.put, List.setIfInBounds_toArray, List.set_cons_zero, List.set_cons_succ]
    apply St.mix_give
    · rfl
    · intro L u' wx hS hcl hrd hag
      obtain ⟨⟨_, ⟨z0, z1, z2⟩, y0⟩, ⟨_, ⟨z3, z4, z5⟩, y1⟩, ⟨_, ⟨z6, z7, z8⟩, y2⟩⟩ := hboxs wx hS.low
      go_simp
      try with_reducible rfl
    · exact fun L u' wx hS => hS.plain (by decide) _
    simp only [Act.put, List.setIfInBounds_toArray, List.set_cons_zero, List.set_cons_succ]
    refine St.mix_call (f := 16) (args := #[lv r (.slice A n c)]) rfl ?_ ?_ ?_
    · intro wx
      go_simp
      try with_reducible rfl
    · intro L u' wx hS hcl hrd hag
      refine (cO wx hS.low).mono ?_
      rintro e w' ⟨s9, rfl, ho, b⟩
      exact ⟨_, rfl, ⟨s9, rfl⟩, hS.got b (ArgE.of_own ho)⟩
    rintro y9 ⟨s9, rfl⟩
    simp only [Act.put, List.setIfInBounds_toArray, List.set_cons_zero, List.set_cons_succ]
    refine St.mix_into (v := .string tx) (f := 15) (args := #[lv r s9]) rfl rfl ?_ ?_ ?_
    · intro wx
      go_simp
      try with_reducible rfl
    · intro L u' wx hS hcl hrd hag
      refine (hcp s9 wx (hS.at_ (St.before_ready hcl hrd 10 9 (by kernel_rfl)) (hag 10 9 (by kernel_rfl)))).mono ?_
      rintro e w' ⟨rfl, b⟩
      exact ⟨rfl, hS.call (by decide) b _⟩
    simp only [Act.put, List.setIfInBounds_toArray, List.set_cons_zero, List.set_cons_succ]
    apply St.mix_give
    · rfl
    · intro L u' wx hS hcl hrd hag
      obtain ⟨⟨_, ⟨z0, z1, z2⟩, y0⟩, ⟨_, ⟨z3, z4, z5⟩, y1⟩, ⟨_, ⟨z6, z7, z8⟩, y2⟩⟩ := hboxs wx hS.low
      go_simp
      try with_reducible rfl
    · exact fun L u' wx hS => hS.plain (by decide) _
    simp only [Act.put, List.setIfInBounds_toArray, List.set_cons_zero, List.set_cons_succ]
    refine St.mix_into (v := .string tx) (f := 17) (args := #[lv r (.slice A n c)]) rfl rfl ?_ ?_ ?_
    · intro wx
      go_simp
      try with_reducible rfl
    · intro L u' wx hS hcl hrd hag
      refine (cU wx hS.low).mono ?_
      rintro e w' ⟨rfl, b⟩
      exact ⟨rfl, hS.call (by decide) b _⟩
    simp only [Act.put, List.setIfInBounds_toArray, List.set_cons_zero, List.set_cons_succ]
    apply St.mix_give
    · rfl
    · intro L u' wx hS hcl hrd hag
      go_simp
      try with_reducible rfl
    · exact fun L u' wx hS => hS.plain (by decide) _
    simp only [Act.put, List.setIfInBounds_toArray, List.set_cons_zero, List.set_cons_succ]
    apply St.mix_give
    · rfl
    · intro L u' wx hS hcl hrd hag
      go_simp
      try with_reducible rfl
    · exact fun L u' wx hS => hS.plain (by decide) _
    simp only [Act.put, List.setIfInBounds_toArray, List.set_cons_zero, List.set_cons_succ]
    apply St.mix_give
    · rfl
    · intro L u' wx hS hcl hrd hag
      go_simp
      try with_reducible rfl
    · exact fun L u' wx hS => hS.plain (by decide) _
    simp only [Act.put, List.setIfInBounds_toArray, List.set_cons_zero, List.set_cons_succ]
    apply St.mix_give
    · rfl
    · intro L u' wx hS hcl hrd hag
      obtain ⟨⟨_, ⟨z0, z1, z2⟩, y0⟩, ⟨_, ⟨z3, z4, z5⟩, y1⟩, ⟨_, ⟨z6, z7, z8⟩, y2⟩⟩ := hboxs wx hS.low
      go_simp
      try with_reducible rfl
    · exact fun L u' wx hS => hS.plain (by decide) _
    simp only [Act.put, List.setIfInBounds_toArray, List.set_cons_zero, List.set_cons_succ]
    apply St.mix_give
    · rfl
    · intro L u' wx hS hcl hrd hag
      obtain ⟨⟨_, ⟨z0, z1, z2⟩, y0⟩, ⟨_, ⟨z3, z4, z5⟩, y1⟩, ⟨_, ⟨z6, z7, z8⟩, y2⟩⟩ := hboxs wx hS.low
      go_simp
      try with_reducible rfl
    · exact fun L u' wx hS => hS.plain (by decide) _
    simp only [Act.put, List.setIfInBounds_toArray, List.set_cons_zero, List.set_cons_succ]
    refine St.mix_into (v := .bool true) (f := 18) (args := #[lv q (.slice A2 q.es.length c2), lv q (.slice A3 q.es.length c3)]) rfl rfl ?_ ?_ ?_
    · intro wx
      go_simp
      try with_reducible rfl
    · intro L u' wx hS hcl hrd hag
      refine (cE wx hS.low).mono ?_
      rintro e w' ⟨rfl, b⟩
      exact ⟨rfl, hS.call (by decide) b _⟩
    simp only [Act.put, List.setIfInBounds_toArray, List.set_cons_zero, List.set_cons_succ]
    apply St.mix_give
    · rfl
    · intro L u' wx hS hcl hrd hag
      go_simp
      try with_reducible rfl
    · exact fun L u' wx hS => hS.plain (by decide) _
    simp only [Act.put, List.setIfInBounds_toArray, List.set_cons_zero, List.set_cons_succ]
    apply St.mix_give
    · rfl
    · intro L u' wx hS hcl hrd hag
      go_simp
      try with_reducible rfl
    · exact fun L u' wx hS => hS.plain (by decide) _
    simp only [Act.put, List.setIfInBounds_toArray, List.set_cons_zero, List.set_cons_succ]
    apply St.mix_give
    · rfl
    · intro L u' wx hS hcl hrd hag
      go_simp
      try with_reducible rfl
    · exact fun L u' wx hS => hS.plain (by decide) _
    simp only [Act.put, List.setIfInBounds_toArray, List.set_cons_zero, List.set_cons_succ]
    refine St.mix_into (v := .int .i64 E) (f := 12) (args := #[.int .i64 E]) rfl rfl ?_ ?_ ?_
    · intro wx
      go_simp
      try with_reducible rfl
    · intro L u' wx hS hcl hrd hag
      refine (num_any _ wx).mono ?_
      rintro e w' ⟨rfl, rfl⟩
      exact ⟨rfl, hS.plain (by decide) _⟩
    simp only [Act.put, List.setIfInBounds_toArray, List.set_cons_zero, List.set_cons_succ]
    apply St.mix_give
    · rfl
    · intro L u' wx hS hcl hrd hag
      go_simp
      try with_reducible rfl
    · exact fun L u' wx hS => hS.plain (by decide) _
    simp only [Act.put, List.setIfInBounds_toArray, List.set_cons_zero, List.set_cons_succ]
    apply St.mix_give
    · rfl
    · intro L u' wx hS hcl hrd hag
      go_simp
      try with_reducible rfl
    · exact fun L u' wx hS => hS.plain (by decide) _
    simp only [Act.put, List.setIfInBounds_toArray, List.set_cons_zero, List.set_cons_succ]
    apply St.mix_give
    · rfl
    · intro L u' wx hS hcl hrd hag
      go_simp
      try with_reducible rfl
    · exact fun L u' wx hS => hS.plain (by decide) _
    simp only [Act.put, List.setIfInBounds_toArray, List.set_cons_zero, List.set_cons_succ]
    apply St.mix_give
    · rfl
    · intro L u' wx hS hcl hrd hag
      go_simp
      try with_reducible rfl
    · exact fun L u' wx hS => hS.plain (by decide) _
    simp only [Act.put, List.setIfInBounds_toArray, List.set_cons_zero, List.set_cons_succ]
    refine St.mix_into (v := .bool true) (f := 9) (args := #[]) rfl rfl ?_ ?_ ?_
    · intro wx
      go_simp
      try with_reducible rfl
    · intro L u' wx hS hcl hrd hag
      refine (cZ wx hS.low).mono ?_
      rintro e w' ⟨rfl, b⟩
      exact ⟨rfl, hS.call (by decide) b _⟩
    simp only [Act.put, List.setIfInBounds_toArray, List.set_cons_zero, List.set_cons_succ]
    apply St.mix_give
    · rfl
    · intro L u' wx hS hcl hrd hag
      go_simp
      try with_reducible rfl
    · exact fun L u' wx hS => hS.plain (by decide) _
    simp only [Act.put, List.setIfInBounds_toArray, List.set_cons_zero, List.set_cons_succ]
    apply St.mix_give
    · rfl
    · intro L u' wx hS hcl hrd hag
      go_simp
      try with_reducible rfl
    · exact fun L u' wx hS => hS.plain (by decide) _
    simp only [Act.put, List.setIfInBounds_toArray, List.set_cons_zero, List.set_cons_succ]
    refine St.mix_last ?_
    intro L w5 hS _
    have h5 := hS.low
    clear hS hboxs cK cI cO cU cE cZ hcp
    go_wp2_with fail
    go_ret
    exact ⟨rfl, hb0.trans ((h4.trans (h5.mono h4.size)).mono hb0.size)⟩
  ·
    go_wp2_with fail
    try rw [hW4]
    refine St.wp_region_mixed (RC1 W4 r 9) (fun j x => match j with | 1 => x = .int .i64 110 | 2 => x = .int .i64 110 | 5 => x = .bool false | 9 => ∃ s, x = lv r s | 10 => x = .string tx | 12 => x = .string tx | 18 => x = .bool true | 22 => x = .int .i64 E | _ => x = .bool true) (by kernel_rfl) (by kernel_rfl) (by kernel_rfl) ⟨(Below.refl _ _).drew, fun h => (by cases h)⟩ ?_
    apply St.mix_give
    · rfl
    · intro L u' wx hS hcl hrd hag
      obtain ⟨⟨_, ⟨z0, z1, z2⟩, y0⟩, ⟨_, ⟨z3, z4, z5⟩, y1⟩, ⟨_, ⟨z6, z7, z8⟩, y2⟩⟩ := hboxs wx hS.low
      go_simp
      try with_reducible rfl
    · exact fun L u' wx hS => hS.plain (by decide) _
    simp only [Act.put, List.setIfInBounds_toArray, List.set_cons_zero, List.set_cons_succ]
    refine St.mix_into (v := .int .i64 110) (f := 13) (args := #[lv r (.slice A n c)]) rfl rfl ?_ ?_ ?_
    · intro wx
      go_simp
      try with_reducible rfl
    · intro L u' wx hS hcl hrd hag
      refine (cK wx hS.low).mono ?_
      rintro e w' ⟨rfl, b⟩
      exact ⟨rfl, hS.call (by decide) b _⟩
    simp only [Act.put, List.setIfInBounds_toArray, List.set_cons_zero, List.set_cons_succ]
    refine St.mix_into (v := .int .i64 110) (f := 12) (args := #[.int .i64 110]) rfl rfl ?_ ?_ ?_
    · intro wx
      go_simp
      try with_reducible rfl
    · intro L u' wx hS hcl hrd hag
      refine (num_any _ wx).mono ?_
      rintro e w' ⟨rfl, rfl⟩
      exact ⟨rfl, hS.plain (by decide) _⟩
    simp only [Act.put, List.setIfInBounds_toArray, List.set_cons_zero, List.set_cons_succ]
    apply St.mix_give
    · rfl
    · intro L u' wx hS hcl hrd hag
      go_simp
      try with_reducible rfl
    · exact fun L u' wx hS => hS.plain (by decide) _
    simp only [Act.put, List.setIfInBounds_toArray, List.set_cons_zero, List.set_cons_succ]
    apply St.mix_give
    · rfl
    · intro L u' wx hS hcl hrd hag
      obtain ⟨⟨_, ⟨z0, z1, z2⟩, y0⟩, ⟨_, ⟨z3, z4, z5⟩, y1⟩, ⟨_, ⟨z6, z7, z8⟩, y2⟩⟩ := hboxs wx hS.low
      go_simp
      try with_reducible rfl
    · exact fun L u' wx hS => hS.plain (by decide) _
    simp only [Act.put, List.setIfInBounds_toArray, List.set_cons_zero, List.set_cons_succ]
    refine St.mix_into (v := .bool false) (f := 14) (args := #[lv r (.slice A n c)]) rfl rfl ?_ ?_ ?_
    · intro wx
      go_simp
      try with_reducible rfl
    · intro L u' wx hS hcl hrd hag
      refine (cI wx hS.low).mono ?_
      rintro e w' ⟨rfl, b⟩
      exact ⟨rfl, hS.call (by decide) b _⟩
    simp only [Act.put, List.setIfInBounds_toArray, List.set_cons_zero, List.set_cons_succ]
    apply St.mix_give
    · rfl
    · intro L u' wx hS hcl hrd hag
      go_simp
      try with_reducible rfl
    · exact fun L u' wx hS => hS.plain (by decide) _
    simp only [Act.put, List.setIfInBounds_toArray, List.set_cons_zero, List.set_cons_succ]
    apply St.mix_give
    · rfl
    · intro L u' wx hS hcl hrd hag
      go_simp
      try with_reducible rfl
    · exact fun L u' wx hS => hS.plain (by decide) _
    simp only [Act.put, List.setIfInBounds_toArray, List.set_cons_zero, List.set_cons_succ]
    apply St.mix_give
    · rfl
    · intro L u' wx hS hcl hrd hag
      obtain ⟨⟨_, ⟨z0, z1, z2⟩, y0⟩, ⟨_, ⟨z3, z4, z5⟩, y1⟩, ⟨_, ⟨z6, z7, z8⟩, y2⟩⟩ := hboxs wx hS.low
      go_simp
      try with_reducible rfl
    · exact fun L u' wx hS => hS.plain (by decide) _
    simp only [Act.put, List.setIfInBounds_toArray, List.set_cons_zero, List.set_cons_succ]
    refine St.mix_call (f := 16) (args := #[lv r (.slice A n c)]) rfl ?_ ?_ ?_
    · intro wx
      go_simp
      try with_reducible rfl
    · intro L u' wx hS hcl hrd hag
      refine (cO wx hS.low).mono ?_
      rintro e w' ⟨s9, rfl, ho, b⟩
      exact ⟨_, rfl, ⟨s9, rfl⟩, hS.got b (ArgE.of_own ho)⟩
    rintro y9 ⟨s9, rfl⟩
    simp only [Act.put, List.setIfInBounds_toArray, List.set_cons_zero, List.set_cons_succ]
    refine St.mix_into (v := .string tx) (f := 15) (args := #[lv r s9]) rfl rfl ?_ ?_ ?_
    · intro wx
      go_simp
      try with_reducible rfl
    · intro L u' wx hS hcl hrd hag
      refine (hcp s9 wx (hS.at_ (St.before_ready hcl hrd 10 9 (by kernel_rfl)) (hag 10 9 (by kernel_rfl)))).mono ?_
      rintro e w' ⟨rfl, b⟩
      exact ⟨rfl, hS.call (by decide) b _⟩
    simp only [Act.put, List.setIfInBounds_toArray, List.set_cons_zero, List.set_cons_succ]
    apply St.mix_give
    · rfl
    · intro L u' wx hS hcl hrd hag
      obtain ⟨⟨_, ⟨z0, z1, z2⟩, y0⟩, ⟨_, ⟨z3, z4, z5⟩, y1⟩, ⟨_, ⟨z6, z7, z8⟩, y2⟩⟩ := hboxs wx hS.low
      go_simp
      try with_reducible rfl
    · exact fun L u' wx hS => hS.plain (by decide) _
    simp only [Act.put, List.setIfInBounds_toArray, List.set_cons_zero, List.set_cons_succ]
    refine St.mix_into (v := .string tx) (f := 17) (args := #[lv r (.slice A n c)]) rfl rfl ?_ ?_ ?_
    · intro wx
      go_simp
      try with_reducible rfl
    · intro L u' wx hS hcl hrd hag
      refine (cU wx hS.low).mono ?_
      rintro e w' ⟨rfl, b⟩
      exact ⟨rfl, hS.call (by decide) b _⟩
    simp only [Act.put, List.setIfInBounds_toArray, List.set_cons_zero, List.set_cons_succ]
    apply St.mix_give
    · rfl
    · intro L u' wx hS hcl hrd hag
      go_simp
      try with_reducible rfl
    · exact fun L u' wx hS => hS.plain (by decide) _
    simp only [Act.put, List.setIfInBounds_toArray, List.set_cons_zero, List.set_cons_succ]
    apply St.mix_give
    · rfl
    · intro L u' wx hS hcl hrd hag
      go_simp
      try with_reducible rfl
    · exact fun L u' wx hS => hS.plain (by decide) _
    simp only [Act.put, List.setIfInBounds_toArray, List.set_cons_zero, List.set_cons_succ]
    apply St.mix_give
    · rfl
    · intro L u' wx hS hcl hrd hag
      go_simp
      try with_reducible rfl
    · exact fun L u' wx hS => hS.plain (by decide) _
    simp only [Act.put, List.setIfInBounds_toArray, List.set_cons_zero, List.set_cons_succ]
    apply St.mix_give
    · rfl
    · intro L u' wx hS hcl hrd hag
      obtain ⟨⟨_, ⟨z0, z1, z2⟩, y0⟩, ⟨_, ⟨z3, z4, z5⟩, y1⟩, ⟨_, ⟨z6, z7, z8⟩, y2⟩⟩ := hboxs wx hS.low
      go_simp
      try with_reducible rfl
    · exact fun L u' wx hS => hS.plain (by decide) _
    simp only [Act.put, List.setIfInBounds_toArray, List.set_cons_zero, List.set_cons_succ]
    apply St.mix_give
    · rfl
    · intro L u' wx hS hcl hrd hag
      obtain ⟨⟨_, ⟨z0, z1, z2⟩, y0⟩, ⟨_, ⟨z3, z4, z5⟩, y1⟩, ⟨_, ⟨z6, z7, z8⟩, y2⟩⟩ := hboxs wx hS.low
      go_simp
      try with_reducible rfl
    · exact fun L u' wx hS => hS.plain (by decide) _
    simp only [Act.put, List.setIfInBounds_toArray, List.set_cons_zero, List.set_cons_succ]
    refine St.mix_into (v := .bool true) (f := 18) (args := #[lv q (.slice A2 q.es.length c2), lv q (.slice A3 q.es.length c3)]) rfl rfl ?_ ?_ ?_
    · intro wx
      go_simp
      try with_reducible rfl
    · intro L u' wx hS hcl hrd hag
      refine (cE wx hS.low).mono ?_
      rintro e w' ⟨rfl, b⟩
      exact ⟨rfl, hS.call (by decide) b _⟩
    simp only [Act.put, List.setIfInBounds_toArray, List.set_cons_zero, List.set_cons_succ]
    apply St.mix_give
    · rfl
    · intro L u' wx hS hcl hrd hag
      go_simp
      try with_reducible rfl
    · exact fun L u' wx hS => hS.plain (by decide) _
    simp only [Act.put, List.setIfInBounds_toArray, List.set_cons_zero, List.set_cons_succ]
    apply St.mix_give
    · rfl
    · intro L u' wx hS hcl hrd hag
      go_simp
      try with_reducible rfl
    · exact fun L u' wx hS => hS.plain (by decide) _
    simp only [Act.put, List.setIfInBounds_toArray, List.set_cons_zero, List.set_cons_succ]
    apply St.mix_give
    · rfl
    · intro L u' wx hS hcl hrd hag
      go_simp
      try with_reducible rfl
    · exact fun L u' wx hS => hS.plain (by decide) _
    simp only [Act.put, List.setIfInBounds_toArray, List.set_cons_zero, List.set_cons_succ]
    refine St.mix_into (v := .int .i64 E) (f := 12) (args := #[.int .i64 E]) rfl rfl ?_ ?_ ?_
    · intro wx
      go_simp
      try with_reducible rfl
    · intro L u' wx hS hcl hrd hag
      refine (num_any _ wx).mono ?_
      rintro e w' ⟨rfl, rfl⟩
      exact ⟨rfl, hS.plain (by decide) _⟩
    simp only [Act.put, List.setIfInBounds_toArray, List.set_cons_zero, List.set_cons_succ]
    apply St.mix_give
    · rfl
    · intro L u' wx hS hcl hrd hag
      go_simp
      try with_reducible rfl
    · exact fun L u' wx hS => hS.plain (by decide) _
    simp only [Act.put, List.setIfInBounds_toArray, List.set_cons_zero, List.set_cons_succ]
    apply St.mix_give
    · rfl
    · intro L u' wx hS hcl hrd hag
      go_simp
      try with_reducible rfl
    · exact fun L u' wx hS => hS.plain (by decide) _
    simp only [Act.put, List.setIfInBounds_toArray, List.set_cons_zero, List.set_cons_succ]
    apply St.mix_give
    · rfl
    · intro L u' wx hS hcl hrd hag
      go_simp
      try with_reducible rfl
    · exact fun L u' wx hS => hS.plain (by decide) _
    simp only [Act.put, List.setIfInBounds_toArray, List.set_cons_zero, List.set_cons_succ]
    apply St.mix_give
    · rfl
    · intro L u' wx hS hcl hrd hag
      go_simp
      try with_reducible rfl
    · exact fun L u' wx hS => hS.plain (by decide) _
    simp only [Act.put, List.setIfInBounds_toArray, List.set_cons_zero, List.set_cons_succ]
    refine St.mix_into (v := .bool true) (f := 9) (args := #[]) rfl rfl ?_ ?_ ?_
    · intro wx
      go_simp
      try with_reducible rfl
    · intro L u' wx hS hcl hrd hag
      refine (cZ wx hS.low).mono ?_
      rintro e w' ⟨rfl, b⟩
      exact ⟨rfl, hS.call (by decide) b _⟩
    simp only [Act.put, List.setIfInBounds_toArray, List.set_cons_zero, List.set_cons_succ]
    apply St.mix_give
    · rfl
    · intro L u' wx hS hcl hrd hag
      go_simp
      try with_reducible rfl
    · exact fun L u' wx hS => hS.plain (by decide) _
    simp only [Act.put, List.setIfInBounds_toArray, List.set_cons_zero, List.set_cons_succ]
    apply St.mix_give
    · rfl
    · intro L u' wx hS hcl hrd hag
      go_simp
      try with_reducible rfl
    · exact fun L u' wx hS => hS.plain (by decide) _
    simp only [Act.put, List.setIfInBounds_toArray, List.set_cons_zero, List.set_cons_succ]
    refine St.mix_last ?_
    intro L w5 hS _
    have h5 := hS.low
    clear hS hboxs cK cI cO cU cE cZ hcp
    go_wp2_with fail
    go_ret
    exact ⟨rfl, hb0.trans ((h4.trans (h5.mono h4.size)).mono hb0.size)⟩
end Go.Proofs.YtimodohcihnoiaaDoor.Ro
