/-
  OrderRepliesBack, walked: a reply, there and back; unlike ones have unlike texts. Conditions: lengths at most 2^47; numbers such as a program can hold; the library's variables hold what their types allow.
-/
import Derived.Test.YtlmecfnoipnccaaDoorOdLight
namespace Go.Proofs.YtlmecfnoipnccaaDoor.Od
open Go.RowKit Bnd

theorem sameR_self (a : Rep) : sameR a a = true := (sameR_iff a a).2 rfl
set_option maxHeartbeats 16000000 in
set_option maxRecDepth 100000 in
theorem walk_rback (a b : Rep) (sa sb : Value) (w : World) (ha : SP w w.heap.size sa a.ps) (hb : SP w w.heap.size sb b.ps) (la : LimR a) (lb : LimR b) (hg : Good w) :
    Calls Tryd.prog 8 #[rv a sa, rv b sb] w fun e w' => e = .returned (.bool true) ∧ Below w.heap.size w w' := by
  obtain ⟨A, ka, rfl⟩ := ha.form
  obtain ⟨D, kb, rfl⟩ := hb.form
  have kpa : ∀ wx, Below w.heap.size w wx → SP wx wx.heap.size (.slice A a.ps.length ka) a.ps := fun wx h => (ha.below h).more h.size
  have kpb : ∀ wx, Below w.heap.size w wx → SP wx wx.heap.size (.slice D b.ps.length kb) b.ps := fun wx h => (hb.below h).more h.size
  have ca := fun w hs => light_any a (.slice A a.ps.length ka) w hs la
  have cb := fun w hs => light_any b (.slice D b.ps.length kb) w hs lb
  obtain ⟨W0, hW0⟩ : ∃ W0, (w.alloc (.cells #[.int .i64 a.code, .int .i64 a.err, .bool a.has, .string a.val, .slice A a.ps.length ka] 71)).alloc (.cells #[.int .i64 b.code, .int .i64 b.err, .bool b.has, .string b.val, .slice D b.ps.length kb] 71) = W0 := ⟨_, rfl⟩
  have A0 : BoxR w.heap.size a (.slice A a.ps.length ka) W0 := hW0 ▸ (BoxR.new w a (.slice A a.ps.length ka)).alloc _
  have B0 : BoxR (w.heap.size + 1) b (.slice D b.ps.length kb) W0 := by
    have := BoxR.new (w.alloc (.cells #[.int .i64 a.code, .int .i64 a.err, .bool a.has, .string a.val, .slice A a.ps.length ka] 71)) b (.slice D b.ps.length kb)
    rw [hW0, World.size_alloc] at this
    exact this
  have hb0 : Below w.heap.size w W0 := by rw [← hW0]; exact ((Below.refl _ w).alloc (Nat.le_refl _) _).alloc (by simp) _
  have hz0 := hb0.size
  clear ha hb
  cases hsa : lightR a with
  | false =>
    rw [hsa] at ca
    clear hsa cb
    obtain ⟨p_0, ⟨p_1, p_2, p_3, p_4, p_5⟩, p_6⟩ := _root_.id A0
    obtain ⟨q_0, ⟨q_1, q_2, q_3, q_4, q_5⟩, q_6⟩ := _root_.id B0
    go_enter Tryd.func8, Tryd.ntmps8
    go_wp2_with fail
    refine (ca _ (kpa _ hb0)).mono ?_
    rintro e w1 ⟨rfl, b1⟩
    have hb1 := hb0.trans (b1.mono hz0)
    clear hW0 b1
    go_wp2_with fail
    refine (live_any _ (hg.below hb1)).mono ?_
    rintro e w9 ⟨rfl, b9⟩
    go_wp2_with fail
    go_ret
    exact ⟨rfl, (hb1).trans (b9.mono (hb1).size)⟩
  | true =>
    have fa := la.fit hsa
    have sa := putR_short fa hsa
    rw [hsa] at ca
    clear hsa
    cases hsb : lightR b with
    | false =>
      rw [hsb] at cb
      clear hsb fa sa
      obtain ⟨p_0, ⟨p_1, p_2, p_3, p_4, p_5⟩, p_6⟩ := _root_.id A0
      obtain ⟨q_0, ⟨q_1, q_2, q_3, q_4, q_5⟩, q_6⟩ := _root_.id B0
      go_enter Tryd.func8, Tryd.ntmps8
      go_wp2_with fail
      refine (ca _ (kpa _ hb0)).mono ?_
      rintro e w1 ⟨rfl, b1⟩
      have hb1 := hb0.trans (b1.mono hz0)
      have hz1 := hb1.size
      have B1 := B0.keep b1
      clear hW0 b1
      clear p_0 p_1 p_2 p_3 p_4 p_5 p_6
      clear q_0 q_1 q_2 q_3 q_4 q_5 q_6
      obtain ⟨q_0, ⟨q_1, q_2, q_3, q_4, q_5⟩, q_6⟩ := _root_.id B1
      go_wp2_with fail
      refine (cb _ (kpb _ hb1)).mono ?_
      rintro e w2 ⟨rfl, b2⟩
      have hb2 := hb1.trans (b2.mono hz1)
      clear b2
      go_wp2_with fail
      refine (live_any _ (hg.below hb2)).mono ?_
      rintro e w9 ⟨rfl, b9⟩
      go_wp2_with fail
      go_ret
      exact ⟨rfl, (hb2).trans (b9.mono (hb2).size)⟩
    | true =>
      have fb := lb.fit hsb
      rw [hsb] at cb
      clear hsb
      have cpa := fun w hs => putR_any a (.slice A a.ps.length ka) w hs fa
      have cpb := fun w hs => putR_any b (.slice D b.ps.length kb) w hs fb
      obtain ⟨P, hP⟩ : ∃ P : ByteArray, (⟨(putR a).toArray⟩ : ByteArray) = P := ⟨_, rfl⟩
      obtain ⟨Q, hQ⟩ : ∃ Q : ByteArray, (⟨(putR b).toArray⟩ : ByteArray) = Q := ⟨_, rfl⟩
      have hPd : P.data.toList = putR a := by rw [← hP]
      have hQd : Q.data.toList = putR b := by rw [← hQ]
      have hPs : P.size = (putR a).length := by rw [← hPd]; simp
      have cpa2 : ∀ wx W, Below w.heap.size w W → Below W.heap.size W wx → Calls Tryd.prog 47 #[rv a (.slice A a.ps.length ka)] wx fun e w' => e = .returned (.string P) ∧ Below W.heap.size W w' := by
        intro wx W hw hx
        refine (cpa wx (kpa wx (hw.trans (hx.mono hw.size)))).mono ?_
        rintro e w' ⟨rfl, b⟩
        exact ⟨by rw [← hP], hx.trans (b.mono hx.size)⟩
      have cpb2 : ∀ wx W, Below w.heap.size w W → Below W.heap.size W wx → Calls Tryd.prog 47 #[rv b (.slice D b.ps.length kb)] wx fun e w' => e = .returned (.string Q) ∧ Below W.heap.size W w' := by
        intro wx W hw hx
        refine (cpb wx (kpb wx (hw.trans (hx.mono hw.size)))).mono ?_
        rintro e w' ⟨rfl, b⟩
        exact ⟨by rw [← hQ], hx.trans (b.mono hx.size)⟩
      have cc := fun w hs => checkR_any a (.slice A a.ps.length ka) w hs la.val la.n la.ps
      have cs := fun w hs ht => sameR_any a b (.slice A a.ps.length ka) (.slice D b.ps.length kb) w hs ht (by have := fa.n; omega) (by have := fb.n; omega)
      have cr : ∀ w, Good w → Calls Tryd.prog 49 #[.string P] w fun e w' => GaveR w (if isR a = true then (a, (0 : Int)) else (Rep.zero, 70)) e w' := by
        intro w hg
        have := parseR_any P w (by omega) hg
        rw [hPd, parse_putR fa.code fa.err fa.n (by omega)] at this
        exact this
      have ct : ∀ s w, SP w w.heap.size s a.ps → SP w w.heap.size (.slice A a.ps.length ka) a.ps → Calls Tryd.prog 48 #[rv a s, rv a (.slice A a.ps.length ka)] w fun e w' => e = .returned (.bool true) ∧ Below w.heap.size w w' := by
        intro s w h h'
        have := sameR_any a a s (.slice A a.ps.length ka) w h h' (by have := fa.n; omega) (by have := fa.n; omega)
        rw [sameR_self] at this
        exact this
      have hPQ : P = Q → a = b := fun h => putR_inj (by rw [← hPd, ← hQd, h])
      have hPQ2 : a = b → P = Q := fun h => by rw [← hP, ← hQ, h]
      have hpq : (sameR a b = true ∧ P = Q) ∨ (sameR a b = false ∧ (P.toList == Q.toList) = false ∧ (P.toList = Q.toList) = False) := by
        by_cases h : a = b
        · exact .inl ⟨(sameR_iff a b).2 h, hPQ2 h⟩
        · exact .inr ⟨sameR_no h, by rw [beq_eq_false_iff_ne]; exact fun hh => h (hPQ ((ba_iff P Q).1 hh)), eq_false (fun hh => h (hPQ ((ba_iff P Q).1 hh)))⟩
      obtain ⟨R, hR⟩ : ∃ R, sameR a b = R := ⟨_, rfl⟩
      rw [hR] at cs hpq
      clear cpa cpb hP hQ hPd hQd hPs fa fb sa la lb hPQ hPQ2 hR
      rcases hpq with ⟨rfl, rfl⟩ | ⟨rfl, q2, q3⟩
      · cases hI : isR a with
        | false =>
          rw [hI] at cr
          rw [show chkR a = 70 by unfold chkR; rw [hI]; rfl] at cc
          simp only [Bool.false_eq_true, if_false] at cr
          clear hI ct
          obtain ⟨p_0, ⟨p_1, p_2, p_3, p_4, p_5⟩, p_6⟩ := _root_.id A0
          obtain ⟨q_0, ⟨q_1, q_2, q_3, q_4, q_5⟩, q_6⟩ := _root_.id B0
          go_enter Tryd.func8, Tryd.ntmps8
          go_wp2_with fail
          refine (ca _ (kpa _ hb0)).mono ?_
          rintro e w1 ⟨rfl, b1⟩
          have hb1 := hb0.trans (b1.mono hz0)
          have hz1 := hb1.size
          have A1 := A0.keep b1
          have B1 := B0.keep b1
          clear hW0 b1
          clear p_0 p_1 p_2 p_3 p_4 p_5 p_6
          clear q_0 q_1 q_2 q_3 q_4 q_5 q_6
          obtain ⟨p_0, ⟨p_1, p_2, p_3, p_4, p_5⟩, p_6⟩ := _root_.id A1
          obtain ⟨q_0, ⟨q_1, q_2, q_3, q_4, q_5⟩, q_6⟩ := _root_.id B1
          go_wp2_with fail
          refine (cb _ (kpb _ hb1)).mono ?_
          rintro e w2 ⟨rfl, b2⟩
          have hb2 := hb1.trans (b2.mono hz1)
          have hz2 := hb2.size
          have A2 := A1.keep b2
          have B2 := B1.keep b2
          clear b2
          clear p_0 p_1 p_2 p_3 p_4 p_5 p_6
          clear q_0 q_1 q_2 q_3 q_4 q_5 q_6
          obtain ⟨p_0, ⟨p_1, p_2, p_3, p_4, p_5⟩, p_6⟩ := _root_.id A2
          obtain ⟨q_0, ⟨q_1, q_2, q_3, q_4, q_5⟩, q_6⟩ := _root_.id B2
          go_wp2_with fail
          refine St.wp_region_stage (fun _ wx => Below w2.heap.size w2 wx) (by kernel_rfl) (by kernel_rfl) (by kernel_rfl) (Below.refl _ _).drew ?_
          have hboxa : ∀ wx, Below w2.heap.size w2 wx → BoxR w.heap.size a (.slice A a.ps.length ka) wx := fun wx hx => A2.keep hx
          have hboxb : ∀ wx, Below w2.heap.size w2 wx → BoxR (w.heap.size + 1) b (.slice D b.ps.length kb) wx := fun wx hx => B2.keep hx
          apply St.step_give
          · rfl
          · intro L wx hS hcl hrd
            obtain ⟨_, ⟨d0, d1, d2, d3, d4⟩, _⟩ := hboxa wx hS
            obtain ⟨_, ⟨f0, f1, f2, f3, f4⟩, _⟩ := hboxb wx hS
            go_simp
            try with_reducible rfl
          · exact fun L wx hS => hS
          simp only [Act.put, List.setIfInBounds_toArray, List.set_cons_zero, List.set_cons_succ]
          apply St.step_into
          · rfl
          · intro wx
            go_simp
            exact ⟨rfl, rfl⟩
          · exact fun L wx hS hcl hrd => cpa2 wx w2 hb2 hS
          simp only [Act.put, List.setIfInBounds_toArray, List.set_cons_zero, List.set_cons_succ]
          apply St.step_give
          · rfl
          · intro L wx hS hcl hrd
            obtain ⟨_, ⟨d0, d1, d2, d3, d4⟩, _⟩ := hboxa wx hS
            obtain ⟨_, ⟨f0, f1, f2, f3, f4⟩, _⟩ := hboxb wx hS
            go_simp
            try with_reducible rfl
          · exact fun L wx hS => hS
          simp only [Act.put, List.setIfInBounds_toArray, List.set_cons_zero, List.set_cons_succ]
          apply St.step_into
          · rfl
          · intro wx
            go_simp
            exact ⟨rfl, rfl⟩
          · exact fun L wx hS hcl hrd => cpb2 wx w2 hb2 hS
          simp only [Act.put, List.setIfInBounds_toArray, List.set_cons_zero, List.set_cons_succ]
          apply St.step_give
          · rfl
          · intro L wx hS hcl hrd
            obtain ⟨_, ⟨d0, d1, d2, d3, d4⟩, _⟩ := hboxa wx hS
            obtain ⟨_, ⟨f0, f1, f2, f3, f4⟩, _⟩ := hboxb wx hS
            go_simp
            try with_reducible rfl
          · exact fun L wx hS => hS
          simp only [Act.put, List.setIfInBounds_toArray, List.set_cons_zero, List.set_cons_succ]
          apply St.step_give
          · rfl
          · intro L wx hS hcl hrd
            obtain ⟨_, ⟨d0, d1, d2, d3, d4⟩, _⟩ := hboxa wx hS
            obtain ⟨_, ⟨f0, f1, f2, f3, f4⟩, _⟩ := hboxb wx hS
            go_simp
            try with_reducible rfl
          · exact fun L wx hS => hS
          simp only [Act.put, List.setIfInBounds_toArray, List.set_cons_zero, List.set_cons_succ]
          refine St.step_last ?_
          intro L w3 hS _
          have A3 := A2.keep hS
          have B3 := B2.keep hS
          have hb3 := hb2.trans (hS.mono hz2)
          have hz3 := hb3.size
          clear hboxa hboxb cpa2 cpb2 hS A2 B2
          clear p_0 p_1 p_2 p_3 p_4 p_5 p_6
          clear q_0 q_1 q_2 q_3 q_4 q_5 q_6
          obtain ⟨p_0, ⟨p_1, p_2, p_3, p_4, p_5⟩, p_6⟩ := _root_.id A3
          obtain ⟨q_0, ⟨q_1, q_2, q_3, q_4, q_5⟩, q_6⟩ := _root_.id B3
          go_wp2_with fail
          refine (cs _ (kpa _ hb3) (kpb _ hb3)).mono ?_
          rintro e w4 ⟨rfl, b4⟩
          have A4 := A3.keep b4
          have hb4 := hb3.trans (b4.mono hz3)
          have hz4 := hb4.size
          clear b4
          clear p_0 p_1 p_2 p_3 p_4 p_5 p_6
          clear q_0 q_1 q_2 q_3 q_4 q_5 q_6
          obtain ⟨p_0, ⟨p_1, p_2, p_3, p_4, p_5⟩, p_6⟩ := _root_.id A4
          go_wp2_with fail
          refine (cr _ (hg.below hb4)).mono ?_
          rintro e w5 ⟨s5, rfl, P5, b5⟩
          obtain ⟨A5, k5, rfl⟩ := P5.form
          have A6 := A4.keep b5
          have hb5 := hb4.trans (b5.mono hz4)
          have hz5 := hb5.size
          have s6 := A6.1
          clear b5
          clear p_0 p_1 p_2 p_3 p_4 p_5 p_6
          obtain ⟨p_0, ⟨p_1, p_2, p_3, p_4, p_5⟩, p_6⟩ := _root_.id A6
          have hb6 := hb5.alloc hz5 (.cells #[.int .i64 Rep.zero.code, .int .i64 Rep.zero.err, .bool Rep.zero.has, .string Rep.zero.val, .slice A5 Rep.zero.ps.length k5] 71)
          have hz6 := hb6.size
          clear P5
          go_wp2_with fail
          refine (cc _ (kpa _ hb6)).mono ?_
          rintro e w7 ⟨rfl, b7⟩
          have hb7 := hb6.trans (b7.mono hz6)
          have hz7 := hb7.size
          clear b7
          go_wp2_with fail
          refine (num_any _ _).mono ?_
          rintro e w' ⟨rfl, rfl⟩
          go_wp2_with fail
          refine (num_any _ _).mono ?_
          rintro e w' ⟨rfl, rfl⟩
          go_wp2_with fail
          refine (live_any _ (hg.below hb7)).mono ?_
          rintro e w9 ⟨rfl, b9⟩
          go_wp2_with fail
          go_ret
          exact ⟨rfl, (hb7).trans (b9.mono (hb7).size)⟩
        | true =>
          rw [hI] at cr
          rw [show chkR a = 0 by unfold chkR; rw [hI]; rfl] at cc
          simp only [if_true] at cr
          clear hI
          obtain ⟨p_0, ⟨p_1, p_2, p_3, p_4, p_5⟩, p_6⟩ := _root_.id A0
          obtain ⟨q_0, ⟨q_1, q_2, q_3, q_4, q_5⟩, q_6⟩ := _root_.id B0
          go_enter Tryd.func8, Tryd.ntmps8
          go_wp2_with fail
          refine (ca _ (kpa _ hb0)).mono ?_
          rintro e w1 ⟨rfl, b1⟩
          have hb1 := hb0.trans (b1.mono hz0)
          have hz1 := hb1.size
          have A1 := A0.keep b1
          have B1 := B0.keep b1
          clear hW0 b1
          clear p_0 p_1 p_2 p_3 p_4 p_5 p_6
          clear q_0 q_1 q_2 q_3 q_4 q_5 q_6
          obtain ⟨p_0, ⟨p_1, p_2, p_3, p_4, p_5⟩, p_6⟩ := _root_.id A1
          obtain ⟨q_0, ⟨q_1, q_2, q_3, q_4, q_5⟩, q_6⟩ := _root_.id B1
          go_wp2_with fail
          refine (cb _ (kpb _ hb1)).mono ?_
          rintro e w2 ⟨rfl, b2⟩
          have hb2 := hb1.trans (b2.mono hz1)
          have hz2 := hb2.size
          have A2 := A1.keep b2
          have B2 := B1.keep b2
          clear b2
          clear p_0 p_1 p_2 p_3 p_4 p_5 p_6
          clear q_0 q_1 q_2 q_3 q_4 q_5 q_6
          obtain ⟨p_0, ⟨p_1, p_2, p_3, p_4, p_5⟩, p_6⟩ := _root_.id A2
          obtain ⟨q_0, ⟨q_1, q_2, q_3, q_4, q_5⟩, q_6⟩ := _root_.id B2
          go_wp2_with fail
          refine St.wp_region_stage (fun _ wx => Below w2.heap.size w2 wx) (by kernel_rfl) (by kernel_rfl) (by kernel_rfl) (Below.refl _ _).drew ?_
          have hboxa : ∀ wx, Below w2.heap.size w2 wx → BoxR w.heap.size a (.slice A a.ps.length ka) wx := fun wx hx => A2.keep hx
          have hboxb : ∀ wx, Below w2.heap.size w2 wx → BoxR (w.heap.size + 1) b (.slice D b.ps.length kb) wx := fun wx hx => B2.keep hx
          apply St.step_give
          · rfl
          · intro L wx hS hcl hrd
            obtain ⟨_, ⟨d0, d1, d2, d3, d4⟩, _⟩ := hboxa wx hS
            obtain ⟨_, ⟨f0, f1, f2, f3, f4⟩, _⟩ := hboxb wx hS
            go_simp
            try with_reducible rfl
          · exact fun L wx hS => hS
          simp only [Act.put, List.setIfInBounds_toArray, List.set_cons_zero, List.set_cons_succ]
          apply St.step_into
          · rfl
          · intro wx
            go_simp
            exact ⟨rfl, rfl⟩
          · exact fun L wx hS hcl hrd => cpa2 wx w2 hb2 hS
          simp only [Act.put, List.setIfInBounds_toArray, List.set_cons_zero, List.set_cons_succ]
          apply St.step_give
          · rfl
          · intro L wx hS hcl hrd
            obtain ⟨_, ⟨d0, d1, d2, d3, d4⟩, _⟩ := hboxa wx hS
            obtain ⟨_, ⟨f0, f1, f2, f3, f4⟩, _⟩ := hboxb wx hS
            go_simp
            try with_reducible rfl
          · exact fun L wx hS => hS
          simp only [Act.put, List.setIfInBounds_toArray, List.set_cons_zero, List.set_cons_succ]
          apply St.step_into
          · rfl
          · intro wx
            go_simp
            exact ⟨rfl, rfl⟩
          · exact fun L wx hS hcl hrd => cpb2 wx w2 hb2 hS
          simp only [Act.put, List.setIfInBounds_toArray, List.set_cons_zero, List.set_cons_succ]
          apply St.step_give
          · rfl
          · intro L wx hS hcl hrd
            obtain ⟨_, ⟨d0, d1, d2, d3, d4⟩, _⟩ := hboxa wx hS
            obtain ⟨_, ⟨f0, f1, f2, f3, f4⟩, _⟩ := hboxb wx hS
            go_simp
            try with_reducible rfl
          · exact fun L wx hS => hS
          simp only [Act.put, List.setIfInBounds_toArray, List.set_cons_zero, List.set_cons_succ]
          apply St.step_give
          · rfl
          · intro L wx hS hcl hrd
            obtain ⟨_, ⟨d0, d1, d2, d3, d4⟩, _⟩ := hboxa wx hS
            obtain ⟨_, ⟨f0, f1, f2, f3, f4⟩, _⟩ := hboxb wx hS
            go_simp
            try with_reducible rfl
          · exact fun L wx hS => hS
          simp only [Act.put, List.setIfInBounds_toArray, List.set_cons_zero, List.set_cons_succ]
          refine St.step_last ?_
          intro L w3 hS _
          have A3 := A2.keep hS
          have B3 := B2.keep hS
          have hb3 := hb2.trans (hS.mono hz2)
          have hz3 := hb3.size
          clear hboxa hboxb cpa2 cpb2 hS A2 B2
          clear p_0 p_1 p_2 p_3 p_4 p_5 p_6
          clear q_0 q_1 q_2 q_3 q_4 q_5 q_6
          obtain ⟨p_0, ⟨p_1, p_2, p_3, p_4, p_5⟩, p_6⟩ := _root_.id A3
          obtain ⟨q_0, ⟨q_1, q_2, q_3, q_4, q_5⟩, q_6⟩ := _root_.id B3
          go_wp2_with fail
          refine (cs _ (kpa _ hb3) (kpb _ hb3)).mono ?_
          rintro e w4 ⟨rfl, b4⟩
          have A4 := A3.keep b4
          have hb4 := hb3.trans (b4.mono hz3)
          have hz4 := hb4.size
          clear b4
          clear p_0 p_1 p_2 p_3 p_4 p_5 p_6
          clear q_0 q_1 q_2 q_3 q_4 q_5 q_6
          obtain ⟨p_0, ⟨p_1, p_2, p_3, p_4, p_5⟩, p_6⟩ := _root_.id A4
          go_wp2_with fail
          refine (cr _ (hg.below hb4)).mono ?_
          rintro e w5 ⟨s5, rfl, P5, b5⟩
          obtain ⟨A5, k5, rfl⟩ := P5.form
          have A6 := A4.keep b5
          have hb5 := hb4.trans (b5.mono hz4)
          have hz5 := hb5.size
          have s6 := A6.1
          clear b5
          clear p_0 p_1 p_2 p_3 p_4 p_5 p_6
          obtain ⟨p_0, ⟨p_1, p_2, p_3, p_4, p_5⟩, p_6⟩ := _root_.id A6
          have hb6 := hb5.alloc hz5 (.cells #[.int .i64 a.code, .int .i64 a.err, .bool a.has, .string a.val, .slice A5 a.ps.length k5] 71)
          have hz6 := hb6.size
          have hal : Below w5.heap.size w5 (w5.alloc (.cells #[.int .i64 a.code, .int .i64 a.err, .bool a.has, .string a.val, .slice A5 a.ps.length k5] 71)) := (Below.refl _ _).alloc (Nat.le_refl _) _
          have N6 := BoxR.new w5 a (.slice A5 a.ps.length k5)
          have P6 := (P5.below hal).more hal.size
          have A7 := A6.keep hal
          clear P5 hal
          go_wp2_with fail
          refine (cc _ (kpa _ hb6)).mono ?_
          rintro e w7 ⟨rfl, b7⟩
          have hb7 := hb6.trans (b7.mono hz6)
          have hz7 := hb7.size
          have N7 := N6.keep b7
          have P7 := (P6.below b7).more b7.size
          have A8 := A7.keep b7
          clear b7 N6 P6 A7
          clear p_0 p_1 p_2 p_3 p_4 p_5 p_6
          obtain ⟨p_0, ⟨p_1, p_2, p_3, p_4, p_5⟩, p_6⟩ := _root_.id A8
          obtain ⟨n_0, ⟨n_1, n_2, n_3, n_4, n_5⟩, n_6⟩ := _root_.id N7
          go_wp2_with fail
          refine (num_any _ _).mono ?_
          rintro e w' ⟨rfl, rfl⟩
          go_wp2_with fail
          refine (num_any _ _).mono ?_
          rintro e w' ⟨rfl, rfl⟩
          go_wp2_with fail
          refine (ct _ _ P7 (kpa _ hb7)).mono ?_
          rintro e w8 ⟨rfl, b8⟩
          have hb8 := hb7.trans (b8.mono hz7)
          clear b8
          go_wp2_with fail
          refine (live_any _ (hg.below hb8)).mono ?_
          rintro e w9 ⟨rfl, b9⟩
          go_wp2_with fail
          go_ret
          exact ⟨rfl, (hb8).trans (b9.mono (hb8).size)⟩
      · cases hI : isR a with
        | false =>
          rw [hI] at cr
          rw [show chkR a = 70 by unfold chkR; rw [hI]; rfl] at cc
          simp only [Bool.false_eq_true, if_false] at cr
          clear hI ct
          obtain ⟨p_0, ⟨p_1, p_2, p_3, p_4, p_5⟩, p_6⟩ := _root_.id A0
          obtain ⟨q_0, ⟨q_1, q_2, q_3, q_4, q_5⟩, q_6⟩ := _root_.id B0
          go_enter Tryd.func8, Tryd.ntmps8
          go_wp2_with fail
          refine (ca _ (kpa _ hb0)).mono ?_
          rintro e w1 ⟨rfl, b1⟩
          have hb1 := hb0.trans (b1.mono hz0)
          have hz1 := hb1.size
          have A1 := A0.keep b1
          have B1 := B0.keep b1
          clear hW0 b1
          clear p_0 p_1 p_2 p_3 p_4 p_5 p_6
          clear q_0 q_1 q_2 q_3 q_4 q_5 q_6
          obtain ⟨p_0, ⟨p_1, p_2, p_3, p_4, p_5⟩, p_6⟩ := _root_.id A1
          obtain ⟨q_0, ⟨q_1, q_2, q_3, q_4, q_5⟩, q_6⟩ := _root_.id B1
          go_wp2_with fail
          refine (cb _ (kpb _ hb1)).mono ?_
          rintro e w2 ⟨rfl, b2⟩
          have hb2 := hb1.trans (b2.mono hz1)
          have hz2 := hb2.size
          have A2 := A1.keep b2
          have B2 := B1.keep b2
          clear b2
          clear p_0 p_1 p_2 p_3 p_4 p_5 p_6
          clear q_0 q_1 q_2 q_3 q_4 q_5 q_6
          obtain ⟨p_0, ⟨p_1, p_2, p_3, p_4, p_5⟩, p_6⟩ := _root_.id A2
          obtain ⟨q_0, ⟨q_1, q_2, q_3, q_4, q_5⟩, q_6⟩ := _root_.id B2
          go_wp2_with fail
          refine St.wp_region_stage (fun _ wx => Below w2.heap.size w2 wx) (by kernel_rfl) (by kernel_rfl) (by kernel_rfl) (Below.refl _ _).drew ?_
          have hboxa : ∀ wx, Below w2.heap.size w2 wx → BoxR w.heap.size a (.slice A a.ps.length ka) wx := fun wx hx => A2.keep hx
          have hboxb : ∀ wx, Below w2.heap.size w2 wx → BoxR (w.heap.size + 1) b (.slice D b.ps.length kb) wx := fun wx hx => B2.keep hx
          apply St.step_give
          · rfl
          · intro L wx hS hcl hrd
            obtain ⟨_, ⟨d0, d1, d2, d3, d4⟩, _⟩ := hboxa wx hS
            obtain ⟨_, ⟨f0, f1, f2, f3, f4⟩, _⟩ := hboxb wx hS
            go_simp
            try with_reducible rfl
          · exact fun L wx hS => hS
          simp only [Act.put, List.setIfInBounds_toArray, List.set_cons_zero, List.set_cons_succ]
          apply St.step_into
          · rfl
          · intro wx
            go_simp
            exact ⟨rfl, rfl⟩
          · exact fun L wx hS hcl hrd => cpa2 wx w2 hb2 hS
          simp only [Act.put, List.setIfInBounds_toArray, List.set_cons_zero, List.set_cons_succ]
          apply St.step_give
          · rfl
          · intro L wx hS hcl hrd
            obtain ⟨_, ⟨d0, d1, d2, d3, d4⟩, _⟩ := hboxa wx hS
            obtain ⟨_, ⟨f0, f1, f2, f3, f4⟩, _⟩ := hboxb wx hS
            go_simp
            try with_reducible rfl
          · exact fun L wx hS => hS
          simp only [Act.put, List.setIfInBounds_toArray, List.set_cons_zero, List.set_cons_succ]
          apply St.step_into
          · rfl
          · intro wx
            go_simp
            exact ⟨rfl, rfl⟩
          · exact fun L wx hS hcl hrd => cpb2 wx w2 hb2 hS
          simp only [Act.put, List.setIfInBounds_toArray, List.set_cons_zero, List.set_cons_succ]
          apply St.step_give
          · rfl
          · intro L wx hS hcl hrd
            obtain ⟨_, ⟨d0, d1, d2, d3, d4⟩, _⟩ := hboxa wx hS
            obtain ⟨_, ⟨f0, f1, f2, f3, f4⟩, _⟩ := hboxb wx hS
            go_simp
            try with_reducible rfl
          · exact fun L wx hS => hS
          simp only [Act.put, List.setIfInBounds_toArray, List.set_cons_zero, List.set_cons_succ]
          apply St.step_give
          · rfl
          · intro L wx hS hcl hrd
            obtain ⟨_, ⟨d0, d1, d2, d3, d4⟩, _⟩ := hboxa wx hS
            obtain ⟨_, ⟨f0, f1, f2, f3, f4⟩, _⟩ := hboxb wx hS
            go_simp
            try with_reducible rfl
          · exact fun L wx hS => hS
          simp only [Act.put, List.setIfInBounds_toArray, List.set_cons_zero, List.set_cons_succ]
          refine St.step_last ?_
          intro L w3 hS _
          have A3 := A2.keep hS
          have B3 := B2.keep hS
          have hb3 := hb2.trans (hS.mono hz2)
          have hz3 := hb3.size
          clear hboxa hboxb cpa2 cpb2 hS A2 B2
          clear p_0 p_1 p_2 p_3 p_4 p_5 p_6
          clear q_0 q_1 q_2 q_3 q_4 q_5 q_6
          obtain ⟨p_0, ⟨p_1, p_2, p_3, p_4, p_5⟩, p_6⟩ := _root_.id A3
          obtain ⟨q_0, ⟨q_1, q_2, q_3, q_4, q_5⟩, q_6⟩ := _root_.id B3
          go_wp2_with fail
          refine (cs _ (kpa _ hb3) (kpb _ hb3)).mono ?_
          rintro e w4 ⟨rfl, b4⟩
          have A4 := A3.keep b4
          have hb4 := hb3.trans (b4.mono hz3)
          have hz4 := hb4.size
          clear b4
          clear p_0 p_1 p_2 p_3 p_4 p_5 p_6
          clear q_0 q_1 q_2 q_3 q_4 q_5 q_6
          obtain ⟨p_0, ⟨p_1, p_2, p_3, p_4, p_5⟩, p_6⟩ := _root_.id A4
          go_wp2_with fail
          refine (cr _ (hg.below hb4)).mono ?_
          rintro e w5 ⟨s5, rfl, P5, b5⟩
          obtain ⟨A5, k5, rfl⟩ := P5.form
          have A6 := A4.keep b5
          have hb5 := hb4.trans (b5.mono hz4)
          have hz5 := hb5.size
          have s6 := A6.1
          clear b5
          clear p_0 p_1 p_2 p_3 p_4 p_5 p_6
          obtain ⟨p_0, ⟨p_1, p_2, p_3, p_4, p_5⟩, p_6⟩ := _root_.id A6
          have hb6 := hb5.alloc hz5 (.cells #[.int .i64 Rep.zero.code, .int .i64 Rep.zero.err, .bool Rep.zero.has, .string Rep.zero.val, .slice A5 Rep.zero.ps.length k5] 71)
          have hz6 := hb6.size
          clear P5
          go_wp2_with fail
          refine (cc _ (kpa _ hb6)).mono ?_
          rintro e w7 ⟨rfl, b7⟩
          have hb7 := hb6.trans (b7.mono hz6)
          have hz7 := hb7.size
          clear b7
          go_wp2_with fail
          refine (num_any _ _).mono ?_
          rintro e w' ⟨rfl, rfl⟩
          go_wp2_with fail
          refine (num_any _ _).mono ?_
          rintro e w' ⟨rfl, rfl⟩
          go_wp2_with fail
          refine (live_any _ (hg.below hb7)).mono ?_
          rintro e w9 ⟨rfl, b9⟩
          go_wp2_with fail
          go_ret
          exact ⟨rfl, (hb7).trans (b9.mono (hb7).size)⟩
        | true =>
          rw [hI] at cr
          rw [show chkR a = 0 by unfold chkR; rw [hI]; rfl] at cc
          simp only [if_true] at cr
          clear hI
          obtain ⟨p_0, ⟨p_1, p_2, p_3, p_4, p_5⟩, p_6⟩ := _root_.id A0
          obtain ⟨q_0, ⟨q_1, q_2, q_3, q_4, q_5⟩, q_6⟩ := _root_.id B0
          go_enter Tryd.func8, Tryd.ntmps8
          go_wp2_with fail
          refine (ca _ (kpa _ hb0)).mono ?_
          rintro e w1 ⟨rfl, b1⟩
          have hb1 := hb0.trans (b1.mono hz0)
          have hz1 := hb1.size
          have A1 := A0.keep b1
          have B1 := B0.keep b1
          clear hW0 b1
          clear p_0 p_1 p_2 p_3 p_4 p_5 p_6
          clear q_0 q_1 q_2 q_3 q_4 q_5 q_6
          obtain ⟨p_0, ⟨p_1, p_2, p_3, p_4, p_5⟩, p_6⟩ := _root_.id A1
          obtain ⟨q_0, ⟨q_1, q_2, q_3, q_4, q_5⟩, q_6⟩ := _root_.id B1
          go_wp2_with fail
          refine (cb _ (kpb _ hb1)).mono ?_
          rintro e w2 ⟨rfl, b2⟩
          have hb2 := hb1.trans (b2.mono hz1)
          have hz2 := hb2.size
          have A2 := A1.keep b2
          have B2 := B1.keep b2
          clear b2
          clear p_0 p_1 p_2 p_3 p_4 p_5 p_6
          clear q_0 q_1 q_2 q_3 q_4 q_5 q_6
          obtain ⟨p_0, ⟨p_1, p_2, p_3, p_4, p_5⟩, p_6⟩ := _root_.id A2
          obtain ⟨q_0, ⟨q_1, q_2, q_3, q_4, q_5⟩, q_6⟩ := _root_.id B2
          go_wp2_with fail
          refine St.wp_region_stage (fun _ wx => Below w2.heap.size w2 wx) (by kernel_rfl) (by kernel_rfl) (by kernel_rfl) (Below.refl _ _).drew ?_
          have hboxa : ∀ wx, Below w2.heap.size w2 wx → BoxR w.heap.size a (.slice A a.ps.length ka) wx := fun wx hx => A2.keep hx
          have hboxb : ∀ wx, Below w2.heap.size w2 wx → BoxR (w.heap.size + 1) b (.slice D b.ps.length kb) wx := fun wx hx => B2.keep hx
          apply St.step_give
          · rfl
          · intro L wx hS hcl hrd
            obtain ⟨_, ⟨d0, d1, d2, d3, d4⟩, _⟩ := hboxa wx hS
            obtain ⟨_, ⟨f0, f1, f2, f3, f4⟩, _⟩ := hboxb wx hS
            go_simp
            try with_reducible rfl
          · exact fun L wx hS => hS
          simp only [Act.put, List.setIfInBounds_toArray, List.set_cons_zero, List.set_cons_succ]
          apply St.step_into
          · rfl
          · intro wx
            go_simp
            exact ⟨rfl, rfl⟩
          · exact fun L wx hS hcl hrd => cpa2 wx w2 hb2 hS
          simp only [Act.put, List.setIfInBounds_toArray, List.set_cons_zero, List.set_cons_succ]
          apply St.step_give
          · rfl
          · intro L wx hS hcl hrd
            obtain ⟨_, ⟨d0, d1, d2, d3, d4⟩, _⟩ := hboxa wx hS
            obtain ⟨_, ⟨f0, f1, f2, f3, f4⟩, _⟩ := hboxb wx hS
            go_simp
            try with_reducible rfl
          · exact fun L wx hS => hS
          simp only [Act.put, List.setIfInBounds_toArray, List.set_cons_zero, List.set_cons_succ]
          apply St.step_into
          · rfl
          · intro wx
            go_simp
            exact ⟨rfl, rfl⟩
          · exact fun L wx hS hcl hrd => cpb2 wx w2 hb2 hS
          simp only [Act.put, List.setIfInBounds_toArray, List.set_cons_zero, List.set_cons_succ]
          apply St.step_give
          · rfl
          · intro L wx hS hcl hrd
            obtain ⟨_, ⟨d0, d1, d2, d3, d4⟩, _⟩ := hboxa wx hS
            obtain ⟨_, ⟨f0, f1, f2, f3, f4⟩, _⟩ := hboxb wx hS
            go_simp
            try with_reducible rfl
          · exact fun L wx hS => hS
          simp only [Act.put, List.setIfInBounds_toArray, List.set_cons_zero, List.set_cons_succ]
          apply St.step_give
          · rfl
          · intro L wx hS hcl hrd
            obtain ⟨_, ⟨d0, d1, d2, d3, d4⟩, _⟩ := hboxa wx hS
            obtain ⟨_, ⟨f0, f1, f2, f3, f4⟩, _⟩ := hboxb wx hS
            go_simp
            try with_reducible rfl
          · exact fun L wx hS => hS
          simp only [Act.put, List.setIfInBounds_toArray, List.set_cons_zero, List.set_cons_succ]
          refine St.step_last ?_
          intro L w3 hS _
          have A3 := A2.keep hS
          have B3 := B2.keep hS
          have hb3 := hb2.trans (hS.mono hz2)
          have hz3 := hb3.size
          clear hboxa hboxb cpa2 cpb2 hS A2 B2
          clear p_0 p_1 p_2 p_3 p_4 p_5 p_6
          clear q_0 q_1 q_2 q_3 q_4 q_5 q_6
          obtain ⟨p_0, ⟨p_1, p_2, p_3, p_4, p_5⟩, p_6⟩ := _root_.id A3
          obtain ⟨q_0, ⟨q_1, q_2, q_3, q_4, q_5⟩, q_6⟩ := _root_.id B3
          go_wp2_with fail
          refine (cs _ (kpa _ hb3) (kpb _ hb3)).mono ?_
          rintro e w4 ⟨rfl, b4⟩
          have A4 := A3.keep b4
          have hb4 := hb3.trans (b4.mono hz3)
          have hz4 := hb4.size
          clear b4
          clear p_0 p_1 p_2 p_3 p_4 p_5 p_6
          clear q_0 q_1 q_2 q_3 q_4 q_5 q_6
          obtain ⟨p_0, ⟨p_1, p_2, p_3, p_4, p_5⟩, p_6⟩ := _root_.id A4
          go_wp2_with fail
          refine (cr _ (hg.below hb4)).mono ?_
          rintro e w5 ⟨s5, rfl, P5, b5⟩
          obtain ⟨A5, k5, rfl⟩ := P5.form
          have A6 := A4.keep b5
          have hb5 := hb4.trans (b5.mono hz4)
          have hz5 := hb5.size
          have s6 := A6.1
          clear b5
          clear p_0 p_1 p_2 p_3 p_4 p_5 p_6
          obtain ⟨p_0, ⟨p_1, p_2, p_3, p_4, p_5⟩, p_6⟩ := _root_.id A6
          have hb6 := hb5.alloc hz5 (.cells #[.int .i64 a.code, .int .i64 a.err, .bool a.has, .string a.val, .slice A5 a.ps.length k5] 71)
          have hz6 := hb6.size
          have hal : Below w5.heap.size w5 (w5.alloc (.cells #[.int .i64 a.code, .int .i64 a.err, .bool a.has, .string a.val, .slice A5 a.ps.length k5] 71)) := (Below.refl _ _).alloc (Nat.le_refl _) _
          have N6 := BoxR.new w5 a (.slice A5 a.ps.length k5)
          have P6 := (P5.below hal).more hal.size
          have A7 := A6.keep hal
          clear P5 hal
          go_wp2_with fail
          refine (cc _ (kpa _ hb6)).mono ?_
          rintro e w7 ⟨rfl, b7⟩
          have hb7 := hb6.trans (b7.mono hz6)
          have hz7 := hb7.size
          have N7 := N6.keep b7
          have P7 := (P6.below b7).more b7.size
          have A8 := A7.keep b7
          clear b7 N6 P6 A7
          clear p_0 p_1 p_2 p_3 p_4 p_5 p_6
          obtain ⟨p_0, ⟨p_1, p_2, p_3, p_4, p_5⟩, p_6⟩ := _root_.id A8
          obtain ⟨n_0, ⟨n_1, n_2, n_3, n_4, n_5⟩, n_6⟩ := _root_.id N7
          go_wp2_with fail
          refine (num_any _ _).mono ?_
          rintro e w' ⟨rfl, rfl⟩
          go_wp2_with fail
          refine (num_any _ _).mono ?_
          rintro e w' ⟨rfl, rfl⟩
          go_wp2_with fail
          refine (ct _ _ P7 (kpa _ hb7)).mono ?_
          rintro e w8 ⟨rfl, b8⟩
          have hb8 := hb7.trans (b8.mono hz7)
          clear b8
          go_wp2_with fail
          refine (live_any _ (hg.below hb8)).mono ?_
          rintro e w9 ⟨rfl, b9⟩
          go_wp2_with fail
          go_ret
          exact ⟨rfl, (hb8).trans (b9.mono (hb8).size)⟩
end Go.Proofs.YtlmecfnoipnccaaDoor.Od

