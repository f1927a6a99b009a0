/-
  RollCompacts, walked. Conditions: lengths at most 2^47; numbers such as a program can hold; the library's variables hold what their types allow.
-/
import Derived.Test.YtimodohcihnoiaaDoorRoGM
namespace Go.Proofs.YtimodohcihnoiaaDoor.Ro
open Go.RowKit

set_option maxHeartbeats 16000000 in
set_option maxRecDepth 100000 in
theorem compacts_walk (v : Value) (r : Lg) (to i : Int) (w : World) (ha : InL w v r) (hto : inI to) (hi : inI i) (hg : Good w) :
    Calls Tryd.prog 6 #[lv r v, .int .i64 to, .int .i64 i] w fun e w' => e = .returned (.bool true) ∧ Below w.heap.size w w' := by
  obtain ⟨A, c, rfl⟩ := ha.arg.form
  obtain ⟨n, hn⟩ : ∃ n, r.es.length = n := ⟨_, rfl⟩
  rw [hn] at ha ⊢
  have HN := Lib.hid hn
  clear hn
  obtain ⟨W0, hW0⟩ : ∃ W0, w.alloc (.cells #[.int .i64 r.base, .int .i64 r.bt, .slice A n c] 24) = W0 := ⟨_, rfl⟩
  have hb0 : Below w.heap.size w W0 := hW0 ▸ (by (repeat' (first | with_reducible assumption | with_reducible exact Below.refl _ _ | with_reducible refine Below.alloc ?_ ?_ _ | with_reducible refine Below.setCell ?_ ?_ _ | with_reducible refine Below.drew ?_ | omega | (simp; done) | (simp; omega))))
  have B0 : BoxL w.heap.size r (.slice A n c) W0 := hW0 ▸ BoxL.new w r (.slice A n c)
  have hbox : ∀ wx, Below W0.heap.size W0 wx → BoxL w.heap.size r (.slice A n c) wx := fun wx h => B0.keep h
  have KA : ∀ w', Below W0.heap.size W0 w' → InL w' (.slice A n c) r := fun w' h => ha.keep (hb0.trans (h.mono hb0.size))
  have KG : ∀ w', Below W0.heap.size W0 w' → Good w' := fun w' h => hg.below (hb0.trans (h.mono hb0.size))
  have cS1 := fun w' (h : Below W0.heap.size W0 w') => small_any r _ w' (KA w' h).arg.sm (KA w' h).len (KA w' h).txt
  have cI1 := fun w' (h : Below W0.heap.size W0 w') => ris_any r _ w' (KA w' h).arg.sm (KA w' h).len
  have cL := fun w' (h : Below W0.heap.size W0 w') => live_any w' (KG w' h)
  have h0 := Below.refl W0.heap.size W0
  clear ha B0 hg
  go_enter Tryd.func6, Tryd.ntmps6
  obtain ⟨_, ⟨z0, z1, z2⟩, y0⟩ := hbox _ h0
  go_wp2_with fail
  refine (cS1 _ h0).mono ?_
  rintro e w1 ⟨⟨x1, rfl, s1⟩, b⟩
  have h1 := h0.trans (b.mono h0.size)
  clear b z0 z1 z2 y0
  clear hW0
  cases x1 with
  | false =>
    go_wp2_with fail
    refine (cL _ h1).mono ?_
    rintro e w2 ⟨rfl, b⟩
    have h2 := h1.trans (b.mono h1.size)
    clear b
    go_wp2_with fail
    go_ret
    exact ⟨rfl, hb0.trans (h2.mono hb0.size)⟩
  | true =>
  have sa : SmallL r := by simpa using s1
  clear s1
  have hA : isL r = true ∨ isL r = false := by cases isL r <;> simp
  rcases hA.symm with hA | hA
  ·
    rw [hA] at cI1
    clear hA sa
    obtain ⟨_, ⟨z0, z1, z2⟩, y0⟩ := hbox _ h1
    go_wp2_with fail
    refine (cI1 _ h1).mono ?_
    rintro e w2 ⟨rfl, b⟩
    have h2 := h1.trans (b.mono h1.size)
    clear b z0 z1 z2 y0
    go_wp2_with fail
    refine (cL _ h2).mono ?_
    rintro e w3 ⟨rfl, b⟩
    have h3 := h2.trans (b.mono h2.size)
    clear b
    go_wp2_with fail
    go_ret
    exact ⟨rfl, hb0.trans (h3.mono hb0.size)⟩
  ·
    have en := sa.n
    have fa := FitL.of hA (by omega)
    obtain ⟨f1, f2, _⟩ := fa
    have fa := FitL.of hA (by omega)
    have fc : FitL (compL r to) := FitL.of (comp_is hA to) (by have := comp_len r to; omega)
    have cC := fun w' (h : Below W0.heap.size W0 w') => compact_any r _ to w' (KA w' h).arg fa (by omega) hto
    have cLr := fun w' (h : Below W0.heap.size W0 w') => last_any r _ w' (KA w' h).arg.sm fa
    have cTr := fun w' (h : Below W0.heap.size W0 w') => term_any r _ i w' (KA w' h).arg.sm fa hi
    obtain ⟨l1, l2⟩ := comp_last r to
    obtain ⟨b1, b2⟩ := comp_base r to
    obtain ⟨t1, t2⟩ := comp_term r to i
    have ho := fun h => comp_out (r := r) (to := to) h
    have hin := fun h1 h2 => comp_in (r := r) (to := to) h1 h2 (by omega)
    have hcl := comp_len r to
    have hci := comp_is hA to
    have hlI := Lib.hid (show lastI r = r.base + r.es.length from rfl)
    obtain ⟨C, hC⟩ : ∃ C, compL r to = C := ⟨_, rfl⟩
    rw [hC] at cC l1 l2 b1 b2 t1 t2 ho hin hcl hci fc
    have ck0 : chkL C = 0 := by unfold chkL; rw [hci]; rfl
    rw [hA] at cI1
    clear hA hC sa hci cS1
    obtain ⟨_, ⟨z0, z1, z2⟩, y0⟩ := hbox _ h1
    go_wp2_with fail
    refine (cI1 _ h1).mono ?_
    rintro e w2 ⟨rfl, b⟩
    have h2 := h1.trans (b.mono h1.size)
    clear b z0 z1 z2 y0
    clear cI1
    obtain ⟨_, ⟨z0, z1, z2⟩, y0⟩ := hbox _ h2
    go_wp2_with fail
    refine (cC _ h2).mono ?_
    rintro e w3 ⟨s3, rfl, a3, b⟩
    obtain ⟨A3, c3, rfl⟩ := a3.form
    have h3 := h2.trans (b.mono h2.size)
    clear b z0 z1 z2 y0 cC
    obtain ⟨m, hm⟩ : ∃ m, C.es.length = m := ⟨_, rfl⟩
    rw [hm] at a3 hcl ⊢
    have HM := Lib.hid hm
    clear hm
    obtain ⟨W1, hW1⟩ : ∃ W1, w3.alloc (.cells #[.int .i64 C.base, .int .i64 C.bt, .slice A3 m c3] 24) = W1 := ⟨_, rfl⟩
    have h31 : Below w3.heap.size w3 W1 := hW1 ▸ (Below.refl _ w3).alloc (Nat.le_refl _) _
    have B1 : BoxL w3.heap.size C (.slice A3 m c3) W1 := hW1 ▸ BoxL.new w3 C (.slice A3 m c3)
    have h01 := h3.trans (h31.mono h3.size)
    have hlow : ∀ wx, Below W1.heap.size W1 wx → Below W0.heap.size W0 wx := fun wx h => h01.trans (h.mono h01.size)
    have hb1 := hb0.trans (h01.mono hb0.size)
    have hboxs : ∀ wx, Below W1.heap.size W1 wx → BoxL w.heap.size r (.slice A n c) wx ∧ BoxL w3.heap.size C (.slice A3 m c3) wx := fun wx h => ⟨hbox wx (hlow wx h), B1.keep h⟩
    have KC : ∀ w', Below W1.heap.size W1 w' → ArgE w' (.slice A3 m c3) C.es := fun w' h => a3.keep (h31.trans (h.mono h31.size))
    have cL1 := fun w' (h : Below W1.heap.size W1 w') => cLr w' (hlow w' h)
    have cT1 := fun w' (h : Below W1.heap.size W1 w') => cTr w' (hlow w' h)
    have cZ := fun w' (h : Below W1.heap.size W1 w') => cL w' (hlow w' h)
    have cL2 := fun w' (h : Below W1.heap.size W1 w') => last_any C _ w' (KC w' h).sm fc
    have cT2 := fun w' (h : Below W1.heap.size W1 w') => term_any C _ i w' (KC w' h).sm fc hi
    have cK := fun w' (h : Below W1.heap.size W1 w') => check_any C _ w' (KC w' h).sm (by have := HM.out; omega)
    have cE := fun w' (h : Below W1.heap.size W1 w') => rsame_any C r _ _ w' (KC w' h).sm (KA w' (hlow w' h)).arg.sm (by have := HM.out; omega) (by omega)
    have cX := fun w' (h : Below W1.heap.size W1 w') (h2 : inI (to + 1)) => slice_any r _ (to + 1) 1000 w' (KA w' (hlow w' h)).arg fa (by omega) h2 ⟨by decide, by decide⟩
    rw [l1, l2] at cL2
    rw [ck0] at cK
    have n1 : (lastI r != lastI r) = false := by simp
    have n2 : (lastT r != lastT r) = false := by simp
    have n3 : (C.base < r.base) = False := eq_false (by omega)
    have n4 : (max to r.base < C.base) = False := eq_false (by omega)
    clear l1 l2 ck0 b1 cLr cTr cL h3 h31 B1 a3 hbox
    have h10 := Below.refl W1.heap.size W1
    obtain ⟨⟨_, ⟨z0, z1, z2⟩, y0⟩, ⟨_, ⟨z3, z4, z5⟩, y1⟩⟩ := hboxs _ h10
    go_wp2_with fail
    refine (cL1 _ h10).mono ?_
    rintro e w11 ⟨rfl, b⟩
    have h11 := h10.trans (b.mono h10.size)
    clear b z0 z1 z2 y0 z3 z4 z5 y1
    clear hW1
    obtain ⟨⟨_, ⟨z0, z1, z2⟩, y0⟩, ⟨_, ⟨z3, z4, z5⟩, y1⟩⟩ := hboxs _ h11
    go_wp2_with fail
    refine (cL2 _ h11).mono ?_
    rintro e w12 ⟨rfl, b⟩
    have h12 := h11.trans (b.mono h11.size)
    clear b z0 z1 z2 y0 z3 z4 z5 y1
    obtain ⟨⟨_, ⟨z0, z1, z2⟩, y0⟩, ⟨_, ⟨z3, z4, z5⟩, y1⟩⟩ := hboxs _ h12
    go_wp2_with fail
    refine (cK _ h12).mono ?_
    rintro e w13 ⟨rfl, b⟩
    have h13 := h12.trans (b.mono h12.size)
    clear b z0 z1 z2 y0 z3 z4 z5 y1
    obtain ⟨⟨_, ⟨z0, z1, z2⟩, y0⟩, ⟨_, ⟨z3, z4, z5⟩, y1⟩⟩ := hboxs _ h13
    go_wp2_with fail
    refine (num_any _ _).mono ?_
    rintro e w' ⟨rfl, rfl⟩
    clear z0 z1 z2 y0 z3 z4 z5 y1
    have hcase : (C.base ≤ i ∧ termL C i = termL r i) ∨ (i < C.base ∧ termL C i = none) := by
      by_cases h : C.base ≤ i
      · exact .inl ⟨h, t1 h⟩
      · exact .inr ⟨by omega, t2 (by omega)⟩
    clear t1 t2 cL1 cL2 cK
    obtain ⟨T, hT⟩ : ∃ T, termL r i = T := ⟨_, rfl⟩
    obtain ⟨U, hU⟩ : ∃ U, termL C i = U := ⟨_, rfl⟩
    rw [hT] at cT1 hcase
    rw [hU] at cT2 hcase
    clear hT hU
    rcases hcase with ⟨hi1, rfl⟩ | ⟨hi1, rfl⟩
    ·
      have i1 : (C.base ≤ i) = True := eq_true hi1
      have i2 : (i < C.base) = False := eq_false (by omega)
      clear hi1
      cases U with
      | none =>
        simp only [termV] at cT1 cT2
        obtain ⟨⟨_, ⟨z0, z1, z2⟩, y0⟩, ⟨_, ⟨z3, z4, z5⟩, y1⟩⟩ := hboxs _ h13
        go_wp2_with fail
        refine (cT1 _ h13).mono ?_
        rintro e w14 ⟨rfl, b⟩
        have h14 := h13.trans (b.mono h13.size)
        clear b z0 z1 z2 y0 z3 z4 z5 y1
        obtain ⟨⟨_, ⟨z0, z1, z2⟩, y0⟩, ⟨_, ⟨z3, z4, z5⟩, y1⟩⟩ := hboxs _ h14
        go_wp2_with fail
        refine (cT2 _ h14).mono ?_
        rintro e w15 ⟨rfl, b⟩
        have h15 := h14.trans (b.mono h14.size)
        clear b z0 z1 z2 y0 z3 z4 z5 y1
        clear cT1 cT2
        by_cases hx1 : to < r.base
        ·
          have hx := hx1
          have m1 : (to < r.base) = True := eq_true hx1
          have e9 := ho (.inl hx)
          clear hin hcl hlI
          rw [show decide (C = r) = true from decide_eq_true e9] at cE
          clear e9 ho hx1 hx HM HN
          obtain ⟨⟨_, ⟨z0, z1, z2⟩, y0⟩, ⟨_, ⟨z3, z4, z5⟩, y1⟩⟩ := hboxs _ h15
          go_wp2_with fail
          refine (cE _ h15).mono ?_
          rintro e w16 ⟨rfl, b⟩
          have h16 := h15.trans (b.mono h15.size)
          clear b z0 z1 z2 y0 z3 z4 z5 y1
          clear cE
          go_wp2_with fail
          refine (cZ _ h16).mono ?_
          rintro e w17 ⟨rfl, b⟩
          have h17 := h16.trans (b.mono h16.size)
          clear b
          go_wp2_with fail
          go_ret
          exact ⟨rfl, hb1.trans (h17.mono hb1.size)⟩
        by_cases hx2 : lastI r < to
        ·
          have hx := hx2
          have m1 : (to < r.base) = False := eq_false hx1
          have m2 : (lastI r < to) = True := eq_true hx2
          clear hx2
          have e9 := ho (.inr hx)
          clear hin hcl hlI
          rw [show decide (C = r) = true from decide_eq_true e9] at cE
          clear e9 ho hx1 hx HM HN
          obtain ⟨⟨_, ⟨z0, z1, z2⟩, y0⟩, ⟨_, ⟨z3, z4, z5⟩, y1⟩⟩ := hboxs _ h15
          go_wp2_with fail
          refine (cE _ h15).mono ?_
          rintro e w16 ⟨rfl, b⟩
          have h16 := h15.trans (b.mono h15.size)
          clear b z0 z1 z2 y0 z3 z4 z5 y1
          clear cE
          go_wp2_with fail
          refine (cZ _ h16).mono ?_
          rintro e w17 ⟨rfl, b⟩
          have h17 := h16.trans (b.mono h16.size)
          clear b
          go_wp2_with fail
          go_ret
          exact ⟨rfl, hb1.trans (h17.mono hb1.size)⟩
        have m1 : (to < r.base) = False := eq_false hx1
        have m2 : (lastI r < to) = False := eq_false hx2
        obtain ⟨e5, e6⟩ := hin (by omega) (by omega)
        have hto1 : inI (to + 1) := by unfold inI at hto ⊢; have := hlI.out; omega
        have j1 : IntKind.i64.wrap (to + 1) = to + 1 := by rw [IntKind.wrap_i64] <;> (unfold inI at hto1; omega)
        have e7 : (C.base == to) = true := by simpa using e6
        have cX2 := fun w' h => cX w' h hto1
        rw [e5] at cX2
        have cEn := fun va w' (h1 : ArgE w' va C.es) (h : Below W1.heap.size W1 w') => entries_any va _ C.es C.es w' h1.sm (KC w' h).sm (by have := HM.out; omega) (by have := HM.out; omega)
        rw [show decide (C.es = C.es) = true from decide_eq_true rfl] at cEn
        clear cX cE ho hin e5 e6 hx1 hx2 hto1 hcl
        obtain ⟨⟨_, ⟨z0, z1, z2⟩, y0⟩, ⟨_, ⟨z3, z4, z5⟩, y1⟩⟩ := hboxs _ h15
        go_wp2_with fail
        clear z0 z1 z2 y0 z3 z4 z5 y1
        refine St.wp_region_mixed (RG W1 (fun k => match k with | 3 => some (.en C.es) | _ => none)) (fun j x => match j with | 3 => ∃ A c, x = .slice A m c | _ => x = .bool true) (by kernel_rfl) (by kernel_rfl) (by kernel_rfl) (RG.start h15) ?_
        apply St.mix_give
        · rfl
        · intro L u' wx hS hcl hrd hag
          obtain ⟨⟨_, ⟨z0, z1, z2⟩, y0⟩, ⟨_, ⟨z3, z4, z5⟩, y1⟩⟩ := hboxs wx hS.low
          go_simp
          try with_reducible rfl
        · exact fun L u' wx hS => hS.plain rfl _
        simp only [Act.put, List.setIfInBounds_toArray, List.set_cons_zero, List.set_cons_succ]
        apply St.mix_give
        · rfl
        · intro L u' wx hS hcl hrd hag
          go_simp
          try with_reducible rfl
        · exact fun L u' wx hS => hS.plain rfl _
        simp only [Act.put, List.setIfInBounds_toArray, List.set_cons_zero, List.set_cons_succ]
        apply St.mix_give
        · rfl
        · intro L u' wx hS hcl hrd hag
          go_simp
          try with_reducible rfl
        · exact fun L u' wx hS => hS.plain rfl _
        simp only [Act.put, List.setIfInBounds_toArray, List.set_cons_zero, List.set_cons_succ]
        refine St.mix_call (f := 24) (args := #[lv r (.slice A n c), .int .i64 (to + 1), .int .i64 1000]) rfl ?_ ?_ ?_
        · intro wx
          go_simp
          try with_reducible rfl
        · intro L u' wx hS hcl hrd hag
          refine (cX2 wx hS.low).mono ?_
          rintro e w' ⟨v3, rfl, o3, b⟩
          exact ⟨_, rfl, (by obtain ⟨A4, c4, e4⟩ := (ArgE.of_own o3).form; rw [HM.out] at e4; exact ⟨A4, c4, e4⟩), hS.got rfl b (ArgE.of_own o3)⟩
        rintro y ⟨A4, c4, rfl⟩
        simp only [Act.put, List.setIfInBounds_toArray, List.set_cons_zero, List.set_cons_succ]
        apply St.mix_give
        · rfl
        · intro L u' wx hS hcl hrd hag
          obtain ⟨⟨_, ⟨z0, z1, z2⟩, y0⟩, ⟨_, ⟨z3, z4, z5⟩, y1⟩⟩ := hboxs wx hS.low
          go_simp
          try with_reducible rfl
        · exact fun L u' wx hS => hS.plain rfl _
        simp only [Act.put, List.setIfInBounds_toArray, List.set_cons_zero, List.set_cons_succ]
        apply St.mix_give
        · rfl
        · intro L u' wx hS hcl hrd hag
          obtain ⟨⟨_, ⟨z0, z1, z2⟩, y0⟩, ⟨_, ⟨z3, z4, z5⟩, y1⟩⟩ := hboxs wx hS.low
          go_simp
          try with_reducible rfl
        · exact fun L u' wx hS => hS.plain rfl _
        simp only [Act.put, List.setIfInBounds_toArray, List.set_cons_zero, List.set_cons_succ]
        refine St.mix_into (v := .bool true) (f := 23) (args := #[.slice A4 m c4, .slice A3 m c3]) rfl rfl ?_ ?_ ?_
        · intro wx
          go_simp
          try with_reducible rfl
        · intro L u' wx hS hcl hrd hag
          refine (cEn _ wx (hS.en (l := C.es) (St.before_ready hcl hrd 6 3 (by kernel_rfl)) rfl (hag 6 3 (by kernel_rfl))) hS.low).mono ?_
          rintro e w' ⟨rfl, b⟩
          exact ⟨rfl, hS.into rfl b _⟩
        simp only [Act.put, List.setIfInBounds_toArray, List.set_cons_zero, List.set_cons_succ]
        apply St.mix_give
        · rfl
        · intro L u' wx hS hcl hrd hag
          go_simp
          try with_reducible rfl
        · exact fun L u' wx hS => hS.plain rfl _
        simp only [Act.put, List.setIfInBounds_toArray, List.set_cons_zero, List.set_cons_succ]
        apply St.mix_give
        · rfl
        · intro L u' wx hS hcl hrd hag
          obtain ⟨⟨_, ⟨z0, z1, z2⟩, y0⟩, ⟨_, ⟨z3, z4, z5⟩, y1⟩⟩ := hboxs wx hS.low
          go_simp
          try with_reducible rfl
        · exact fun L u' wx hS => hS.plain rfl _
        simp only [Act.put, List.setIfInBounds_toArray, List.set_cons_zero, List.set_cons_succ]
        apply St.mix_give
        · rfl
        · intro L u' wx hS hcl hrd hag
          obtain ⟨⟨_, ⟨z0, z1, z2⟩, y0⟩, ⟨_, ⟨z3, z4, z5⟩, y1⟩⟩ := hboxs wx hS.low
          go_simp
          try with_reducible rfl
        · exact fun L u' wx hS => hS.plain rfl _
        simp only [Act.put, List.setIfInBounds_toArray, List.set_cons_zero, List.set_cons_succ]
        apply St.mix_give
        · rfl
        · intro L u' wx hS hcl hrd hag
          go_simp
          try with_reducible rfl
        · exact fun L u' wx hS => hS.plain rfl _
        simp only [Act.put, List.setIfInBounds_toArray, List.set_cons_zero, List.set_cons_succ]
        apply St.mix_give
        · rfl
        · intro L u' wx hS hcl hrd hag
          go_simp
          try with_reducible rfl
        · exact fun L u' wx hS => hS.plain rfl _
        simp only [Act.put, List.setIfInBounds_toArray, List.set_cons_zero, List.set_cons_succ]
        apply St.mix_give
        · rfl
        · intro L u' wx hS hcl hrd hag
          go_simp
          try with_reducible rfl
        · exact fun L u' wx hS => hS.plain rfl _
        simp only [Act.put, List.setIfInBounds_toArray, List.set_cons_zero, List.set_cons_succ]
        apply St.mix_give
        · rfl
        · intro L u' wx hS hcl hrd hag
          go_simp
          try with_reducible rfl
        · exact fun L u' wx hS => hS.plain rfl _
        simp only [Act.put, List.setIfInBounds_toArray, List.set_cons_zero, List.set_cons_succ]
        refine St.mix_into (v := .bool true) (f := 9) (args := #[]) rfl rfl ?_ ?_ ?_
        · intro wx
          go_simp
          try with_reducible rfl
        · intro L u' wx hS hcl hrd hag
          refine (cZ wx hS.low).mono ?_
          rintro e w' ⟨rfl, b⟩
          exact ⟨rfl, hS.into rfl b _⟩
        simp only [Act.put, List.setIfInBounds_toArray, List.set_cons_zero, List.set_cons_succ]
        apply St.mix_give
        · rfl
        · intro L u' wx hS hcl hrd hag
          go_simp
          try with_reducible rfl
        · exact fun L u' wx hS => hS.plain rfl _
        simp only [Act.put, List.setIfInBounds_toArray, List.set_cons_zero, List.set_cons_succ]
        apply St.mix_give
        · rfl
        · intro L u' wx hS hcl hrd hag
          go_simp
          try with_reducible rfl
        · exact fun L u' wx hS => hS.plain rfl _
        simp only [Act.put, List.setIfInBounds_toArray, List.set_cons_zero, List.set_cons_succ]
        refine St.mix_last ?_
        intro L w9 hS _
        have h9 := hS.low
        clear hS hboxs cZ cX2 KC cEn
        go_wp2_with fail
        go_ret
        exact ⟨rfl, hb1.trans (h9.mono hb1.size)⟩
      | some t =>
        simp only [termV] at cT1 cT2
        have n5 : (t != t) = false := by simp
        obtain ⟨⟨_, ⟨z0, z1, z2⟩, y0⟩, ⟨_, ⟨z3, z4, z5⟩, y1⟩⟩ := hboxs _ h13
        go_wp2_with fail
        refine (cT1 _ h13).mono ?_
        rintro e w14 ⟨rfl, b⟩
        have h14 := h13.trans (b.mono h13.size)
        clear b z0 z1 z2 y0 z3 z4 z5 y1
        obtain ⟨⟨_, ⟨z0, z1, z2⟩, y0⟩, ⟨_, ⟨z3, z4, z5⟩, y1⟩⟩ := hboxs _ h14
        go_wp2_with fail
        refine (cT2 _ h14).mono ?_
        rintro e w15 ⟨rfl, b⟩
        have h15 := h14.trans (b.mono h14.size)
        clear b z0 z1 z2 y0 z3 z4 z5 y1
        clear cT1 cT2
        by_cases hx1 : to < r.base
        ·
          have hx := hx1
          have m1 : (to < r.base) = True := eq_true hx1
          have e9 := ho (.inl hx)
          clear hin hcl hlI
          rw [show decide (C = r) = true from decide_eq_true e9] at cE
          clear e9 ho hx1 hx HM HN
          obtain ⟨⟨_, ⟨z0, z1, z2⟩, y0⟩, ⟨_, ⟨z3, z4, z5⟩, y1⟩⟩ := hboxs _ h15
          go_wp2_with fail
          refine (cE _ h15).mono ?_
          rintro e w16 ⟨rfl, b⟩
          have h16 := h15.trans (b.mono h15.size)
          clear b z0 z1 z2 y0 z3 z4 z5 y1
          clear cE
          go_wp2_with fail
          refine (cZ _ h16).mono ?_
          rintro e w17 ⟨rfl, b⟩
          have h17 := h16.trans (b.mono h16.size)
          clear b
          go_wp2_with fail
          go_ret
          exact ⟨rfl, hb1.trans (h17.mono hb1.size)⟩
        by_cases hx2 : lastI r < to
        ·
          have hx := hx2
          have m1 : (to < r.base) = False := eq_false hx1
          have m2 : (lastI r < to) = True := eq_true hx2
          clear hx2
          have e9 := ho (.inr hx)
          clear hin hcl hlI
          rw [show decide (C = r) = true from decide_eq_true e9] at cE
          clear e9 ho hx1 hx HM HN
          obtain ⟨⟨_, ⟨z0, z1, z2⟩, y0⟩, ⟨_, ⟨z3, z4, z5⟩, y1⟩⟩ := hboxs _ h15
          go_wp2_with fail
          refine (cE _ h15).mono ?_
          rintro e w16 ⟨rfl, b⟩
          have h16 := h15.trans (b.mono h15.size)
          clear b z0 z1 z2 y0 z3 z4 z5 y1
          clear cE
          go_wp2_with fail
          refine (cZ _ h16).mono ?_
          rintro e w17 ⟨rfl, b⟩
          have h17 := h16.trans (b.mono h16.size)
          clear b
          go_wp2_with fail
          go_ret
          exact ⟨rfl, hb1.trans (h17.mono hb1.size)⟩
        have m1 : (to < r.base) = False := eq_false hx1
        have m2 : (lastI r < to) = False := eq_false hx2
        obtain ⟨e5, e6⟩ := hin (by omega) (by omega)
        have hto1 : inI (to + 1) := by unfold inI at hto ⊢; have := hlI.out; omega
        have j1 : IntKind.i64.wrap (to + 1) = to + 1 := by rw [IntKind.wrap_i64] <;> (unfold inI at hto1; omega)
        have e7 : (C.base == to) = true := by simpa using e6
        have cX2 := fun w' h => cX w' h hto1
        rw [e5] at cX2
        have cEn := fun va w' (h1 : ArgE w' va C.es) (h : Below W1.heap.size W1 w') => entries_any va _ C.es C.es w' h1.sm (KC w' h).sm (by have := HM.out; omega) (by have := HM.out; omega)
        rw [show decide (C.es = C.es) = true from decide_eq_true rfl] at cEn
        clear cX cE ho hin e5 e6 hx1 hx2 hto1 hcl
        obtain ⟨⟨_, ⟨z0, z1, z2⟩, y0⟩, ⟨_, ⟨z3, z4, z5⟩, y1⟩⟩ := hboxs _ h15
        go_wp2_with fail
        clear z0 z1 z2 y0 z3 z4 z5 y1
        refine St.wp_region_mixed (RG W1 (fun k => match k with | 3 => some (.en C.es) | _ => none)) (fun j x => match j with | 3 => ∃ A c, x = .slice A m c | _ => x = .bool true) (by kernel_rfl) (by kernel_rfl) (by kernel_rfl) (RG.start h15) ?_
        apply St.mix_give
        · rfl
        · intro L u' wx hS hcl hrd hag
          obtain ⟨⟨_, ⟨z0, z1, z2⟩, y0⟩, ⟨_, ⟨z3, z4, z5⟩, y1⟩⟩ := hboxs wx hS.low
          go_simp
          try with_reducible rfl
        · exact fun L u' wx hS => hS.plain rfl _
        simp only [Act.put, List.setIfInBounds_toArray, List.set_cons_zero, List.set_cons_succ]
        apply St.mix_give
        · rfl
        · intro L u' wx hS hcl hrd hag
          go_simp
          try with_reducible rfl
        · exact fun L u' wx hS => hS.plain rfl _
        simp only [Act.put, List.setIfInBounds_toArray, List.set_cons_zero, List.set_cons_succ]
        apply St.mix_give
        · rfl
        · intro L u' wx hS hcl hrd hag
          go_simp
          try with_reducible rfl
        · exact fun L u' wx hS => hS.plain rfl _
        simp only [Act.put, List.setIfInBounds_toArray, List.set_cons_zero, List.set_cons_succ]
        refine St.mix_call (f := 24) (args := #[lv r (.slice A n c), .int .i64 (to + 1), .int .i64 1000]) rfl ?_ ?_ ?_
        · intro wx
          go_simp
          try with_reducible rfl
        · intro L u' wx hS hcl hrd hag
          refine (cX2 wx hS.low).mono ?_
          rintro e w' ⟨v3, rfl, o3, b⟩
          exact ⟨_, rfl, (by obtain ⟨A4, c4, e4⟩ := (ArgE.of_own o3).form; rw [HM.out] at e4; exact ⟨A4, c4, e4⟩), hS.got rfl b (ArgE.of_own o3)⟩
        rintro y ⟨A4, c4, rfl⟩
        simp only [Act.put, List.setIfInBounds_toArray, List.set_cons_zero, List.set_cons_succ]
        apply St.mix_give
        · rfl
        · intro L u' wx hS hcl hrd hag
          obtain ⟨⟨_, ⟨z0, z1, z2⟩, y0⟩, ⟨_, ⟨z3, z4, z5⟩, y1⟩⟩ := hboxs wx hS.low
          go_simp
          try with_reducible rfl
        · exact fun L u' wx hS => hS.plain rfl _
        simp only [Act.put, List.setIfInBounds_toArray, List.set_cons_zero, List.set_cons_succ]
        apply St.mix_give
        · rfl
        · intro L u' wx hS hcl hrd hag
          obtain ⟨⟨_, ⟨z0, z1, z2⟩, y0⟩, ⟨_, ⟨z3, z4, z5⟩, y1⟩⟩ := hboxs wx hS.low
          go_simp
          try with_reducible rfl
        · exact fun L u' wx hS => hS.plain rfl _
        simp only [Act.put, List.setIfInBounds_toArray, List.set_cons_zero, List.set_cons_succ]
        refine St.mix_into (v := .bool true) (f := 23) (args := #[.slice A4 m c4, .slice A3 m c3]) rfl rfl ?_ ?_ ?_
        · intro wx
          go_simp
          try with_reducible rfl
        · intro L u' wx hS hcl hrd hag
          refine (cEn _ wx (hS.en (l := C.es) (St.before_ready hcl hrd 6 3 (by kernel_rfl)) rfl (hag 6 3 (by kernel_rfl))) hS.low).mono ?_
          rintro e w' ⟨rfl, b⟩
          exact ⟨rfl, hS.into rfl b _⟩
        simp only [Act.put, List.setIfInBounds_toArray, List.set_cons_zero, List.set_cons_succ]
        apply St.mix_give
        · rfl
        · intro L u' wx hS hcl hrd hag
          go_simp
          try with_reducible rfl
        · exact fun L u' wx hS => hS.plain rfl _
        simp only [Act.put, List.setIfInBounds_toArray, List.set_cons_zero, List.set_cons_succ]
        apply St.mix_give
        · rfl
        · intro L u' wx hS hcl hrd hag
          obtain ⟨⟨_, ⟨z0, z1, z2⟩, y0⟩, ⟨_, ⟨z3, z4, z5⟩, y1⟩⟩ := hboxs wx hS.low
          go_simp
          try with_reducible rfl
        · exact fun L u' wx hS => hS.plain rfl _
        simp only [Act.put, List.setIfInBounds_toArray, List.set_cons_zero, List.set_cons_succ]
        apply St.mix_give
        · rfl
        · intro L u' wx hS hcl hrd hag
          obtain ⟨⟨_, ⟨z0, z1, z2⟩, y0⟩, ⟨_, ⟨z3, z4, z5⟩, y1⟩⟩ := hboxs wx hS.low
          go_simp
          try with_reducible rfl
        · exact fun L u' wx hS => hS.plain rfl _
        simp only [Act.put, List.setIfInBounds_toArray, List.set_cons_zero, List.set_cons_succ]
        apply St.mix_give
        · rfl
        · intro L u' wx hS hcl hrd hag
          go_simp
          try with_reducible rfl
        · exact fun L u' wx hS => hS.plain rfl _
        simp only [Act.put, List.setIfInBounds_toArray, List.set_cons_zero, List.set_cons_succ]
        apply St.mix_give
        · rfl
        · intro L u' wx hS hcl hrd hag
          go_simp
          try with_reducible rfl
        · exact fun L u' wx hS => hS.plain rfl _
        simp only [Act.put, List.setIfInBounds_toArray, List.set_cons_zero, List.set_cons_succ]
        apply St.mix_give
        · rfl
        · intro L u' wx hS hcl hrd hag
          go_simp
          try with_reducible rfl
        · exact fun L u' wx hS => hS.plain rfl _
        simp only [Act.put, List.setIfInBounds_toArray, List.set_cons_zero, List.set_cons_succ]
        apply St.mix_give
        · rfl
        · intro L u' wx hS hcl hrd hag
          go_simp
          try with_reducible rfl
        · exact fun L u' wx hS => hS.plain rfl _
        simp only [Act.put, List.setIfInBounds_toArray, List.set_cons_zero, List.set_cons_succ]
        refine St.mix_into (v := .bool true) (f := 9) (args := #[]) rfl rfl ?_ ?_ ?_
        · intro wx
          go_simp
          try with_reducible rfl
        · intro L u' wx hS hcl hrd hag
          refine (cZ wx hS.low).mono ?_
          rintro e w' ⟨rfl, b⟩
          exact ⟨rfl, hS.into rfl b _⟩
        simp only [Act.put, List.setIfInBounds_toArray, List.set_cons_zero, List.set_cons_succ]
        apply St.mix_give
        · rfl
        · intro L u' wx hS hcl hrd hag
          go_simp
          try with_reducible rfl
        · exact fun L u' wx hS => hS.plain rfl _
        simp only [Act.put, List.setIfInBounds_toArray, List.set_cons_zero, List.set_cons_succ]
        apply St.mix_give
        · rfl
        · intro L u' wx hS hcl hrd hag
          go_simp
          try with_reducible rfl
        · exact fun L u' wx hS => hS.plain rfl _
        simp only [Act.put, List.setIfInBounds_toArray, List.set_cons_zero, List.set_cons_succ]
        refine St.mix_last ?_
        intro L w9 hS _
        have h9 := hS.low
        clear hS hboxs cZ cX2 KC cEn
        go_wp2_with fail
        go_ret
        exact ⟨rfl, hb1.trans (h9.mono hb1.size)⟩
    ·
      have i1 : (C.base ≤ i) = False := eq_false (by omega)
      have i2 : (i < C.base) = True := eq_true hi1
      clear hi1
      cases T with
      | none =>
        simp only [termV] at cT1 cT2
        obtain ⟨⟨_, ⟨z0, z1, z2⟩, y0⟩, ⟨_, ⟨z3, z4, z5⟩, y1⟩⟩ := hboxs _ h13
        go_wp2_with fail
        refine (cT1 _ h13).mono ?_
        rintro e w14 ⟨rfl, b⟩
        have h14 := h13.trans (b.mono h13.size)
        clear b z0 z1 z2 y0 z3 z4 z5 y1
        obtain ⟨⟨_, ⟨z0, z1, z2⟩, y0⟩, ⟨_, ⟨z3, z4, z5⟩, y1⟩⟩ := hboxs _ h14
        go_wp2_with fail
        refine (cT2 _ h14).mono ?_
        rintro e w15 ⟨rfl, b⟩
        have h15 := h14.trans (b.mono h14.size)
        clear b z0 z1 z2 y0 z3 z4 z5 y1
        clear cT1 cT2
        by_cases hx1 : to < r.base
        ·
          have hx := hx1
          have m1 : (to < r.base) = True := eq_true hx1
          have e9 := ho (.inl hx)
          clear hin hcl hlI
          rw [show decide (C = r) = true from decide_eq_true e9] at cE
          clear e9 ho hx1 hx HM HN
          obtain ⟨⟨_, ⟨z0, z1, z2⟩, y0⟩, ⟨_, ⟨z3, z4, z5⟩, y1⟩⟩ := hboxs _ h15
          go_wp2_with fail
          refine (cE _ h15).mono ?_
          rintro e w16 ⟨rfl, b⟩
          have h16 := h15.trans (b.mono h15.size)
          clear b z0 z1 z2 y0 z3 z4 z5 y1
          clear cE
          go_wp2_with fail
          refine (cZ _ h16).mono ?_
          rintro e w17 ⟨rfl, b⟩
          have h17 := h16.trans (b.mono h16.size)
          clear b
          go_wp2_with fail
          go_ret
          exact ⟨rfl, hb1.trans (h17.mono hb1.size)⟩
        by_cases hx2 : lastI r < to
        ·
          have hx := hx2
          have m1 : (to < r.base) = False := eq_false hx1
          have m2 : (lastI r < to) = True := eq_true hx2
          clear hx2
          have e9 := ho (.inr hx)
          clear hin hcl hlI
          rw [show decide (C = r) = true from decide_eq_true e9] at cE
          clear e9 ho hx1 hx HM HN
          obtain ⟨⟨_, ⟨z0, z1, z2⟩, y0⟩, ⟨_, ⟨z3, z4, z5⟩, y1⟩⟩ := hboxs _ h15
          go_wp2_with fail
          refine (cE _ h15).mono ?_
          rintro e w16 ⟨rfl, b⟩
          have h16 := h15.trans (b.mono h15.size)
          clear b z0 z1 z2 y0 z3 z4 z5 y1
          clear cE
          go_wp2_with fail
          refine (cZ _ h16).mono ?_
          rintro e w17 ⟨rfl, b⟩
          have h17 := h16.trans (b.mono h16.size)
          clear b
          go_wp2_with fail
          go_ret
          exact ⟨rfl, hb1.trans (h17.mono hb1.size)⟩
        have m1 : (to < r.base) = False := eq_false hx1
        have m2 : (lastI r < to) = False := eq_false hx2
        obtain ⟨e5, e6⟩ := hin (by omega) (by omega)
        have hto1 : inI (to + 1) := by unfold inI at hto ⊢; have := hlI.out; omega
        have j1 : IntKind.i64.wrap (to + 1) = to + 1 := by rw [IntKind.wrap_i64] <;> (unfold inI at hto1; omega)
        have e7 : (C.base == to) = true := by simpa using e6
        have cX2 := fun w' h => cX w' h hto1
        rw [e5] at cX2
        have cEn := fun va w' (h1 : ArgE w' va C.es) (h : Below W1.heap.size W1 w') => entries_any va _ C.es C.es w' h1.sm (KC w' h).sm (by have := HM.out; omega) (by have := HM.out; omega)
        rw [show decide (C.es = C.es) = true from decide_eq_true rfl] at cEn
        clear cX cE ho hin e5 e6 hx1 hx2 hto1 hcl
        obtain ⟨⟨_, ⟨z0, z1, z2⟩, y0⟩, ⟨_, ⟨z3, z4, z5⟩, y1⟩⟩ := hboxs _ h15
        go_wp2_with fail
        clear z0 z1 z2 y0 z3 z4 z5 y1
        refine St.wp_region_mixed (RG W1 (fun k => match k with | 3 => some (.en C.es) | _ => none)) (fun j x => match j with | 3 => ∃ A c, x = .slice A m c | _ => x = .bool true) (by kernel_rfl) (by kernel_rfl) (by kernel_rfl) (RG.start h15) ?_
        apply St.mix_give
        · rfl
        · intro L u' wx hS hcl hrd hag
          obtain ⟨⟨_, ⟨z0, z1, z2⟩, y0⟩, ⟨_, ⟨z3, z4, z5⟩, y1⟩⟩ := hboxs wx hS.low
          go_simp
          try with_reducible rfl
        · exact fun L u' wx hS => hS.plain rfl _
        simp only [Act.put, List.setIfInBounds_toArray, List.set_cons_zero, List.set_cons_succ]
        apply St.mix_give
        · rfl
        · intro L u' wx hS hcl hrd hag
          go_simp
          try with_reducible rfl
        · exact fun L u' wx hS => hS.plain rfl _
        simp only [Act.put, List.setIfInBounds_toArray, List.set_cons_zero, List.set_cons_succ]
        apply St.mix_give
        · rfl
        · intro L u' wx hS hcl hrd hag
          go_simp
          try with_reducible rfl
        · exact fun L u' wx hS => hS.plain rfl _
        simp only [Act.put, List.setIfInBounds_toArray, List.set_cons_zero, List.set_cons_succ]
        refine St.mix_call (f := 24) (args := #[lv r (.slice A n c), .int .i64 (to + 1), .int .i64 1000]) rfl ?_ ?_ ?_
        · intro wx
          go_simp
          try with_reducible rfl
        · intro L u' wx hS hcl hrd hag
          refine (cX2 wx hS.low).mono ?_
          rintro e w' ⟨v3, rfl, o3, b⟩
          exact ⟨_, rfl, (by obtain ⟨A4, c4, e4⟩ := (ArgE.of_own o3).form; rw [HM.out] at e4; exact ⟨A4, c4, e4⟩), hS.got rfl b (ArgE.of_own o3)⟩
        rintro y ⟨A4, c4, rfl⟩
        simp only [Act.put, List.setIfInBounds_toArray, List.set_cons_zero, List.set_cons_succ]
        apply St.mix_give
        · rfl
        · intro L u' wx hS hcl hrd hag
          obtain ⟨⟨_, ⟨z0, z1, z2⟩, y0⟩, ⟨_, ⟨z3, z4, z5⟩, y1⟩⟩ := hboxs wx hS.low
          go_simp
          try with_reducible rfl
        · exact fun L u' wx hS => hS.plain rfl _
        simp only [Act.put, List.setIfInBounds_toArray, List.set_cons_zero, List.set_cons_succ]
        apply St.mix_give
        · rfl
        · intro L u' wx hS hcl hrd hag
          obtain ⟨⟨_, ⟨z0, z1, z2⟩, y0⟩, ⟨_, ⟨z3, z4, z5⟩, y1⟩⟩ := hboxs wx hS.low
          go_simp
          try with_reducible rfl
        · exact fun L u' wx hS => hS.plain rfl _
        simp only [Act.put, List.setIfInBounds_toArray, List.set_cons_zero, List.set_cons_succ]
        refine St.mix_into (v := .bool true) (f := 23) (args := #[.slice A4 m c4, .slice A3 m c3]) rfl rfl ?_ ?_ ?_
        · intro wx
          go_simp
          try with_reducible rfl
        · intro L u' wx hS hcl hrd hag
          refine (cEn _ wx (hS.en (l := C.es) (St.before_ready hcl hrd 6 3 (by kernel_rfl)) rfl (hag 6 3 (by kernel_rfl))) hS.low).mono ?_
          rintro e w' ⟨rfl, b⟩
          exact ⟨rfl, hS.into rfl b _⟩
        simp only [Act.put, List.setIfInBounds_toArray, List.set_cons_zero, List.set_cons_succ]
        apply St.mix_give
        · rfl
        · intro L u' wx hS hcl hrd hag
          go_simp
          try with_reducible rfl
        · exact fun L u' wx hS => hS.plain rfl _
        simp only [Act.put, List.setIfInBounds_toArray, List.set_cons_zero, List.set_cons_succ]
        apply St.mix_give
        · rfl
        · intro L u' wx hS hcl hrd hag
          obtain ⟨⟨_, ⟨z0, z1, z2⟩, y0⟩, ⟨_, ⟨z3, z4, z5⟩, y1⟩⟩ := hboxs wx hS.low
          go_simp
          try with_reducible rfl
        · exact fun L u' wx hS => hS.plain rfl _
        simp only [Act.put, List.setIfInBounds_toArray, List.set_cons_zero, List.set_cons_succ]
        apply St.mix_give
        · rfl
        · intro L u' wx hS hcl hrd hag
          obtain ⟨⟨_, ⟨z0, z1, z2⟩, y0⟩, ⟨_, ⟨z3, z4, z5⟩, y1⟩⟩ := hboxs wx hS.low
          go_simp
          try with_reducible rfl
        · exact fun L u' wx hS => hS.plain rfl _
        simp only [Act.put, List.setIfInBounds_toArray, List.set_cons_zero, List.set_cons_succ]
        apply St.mix_give
        · rfl
        · intro L u' wx hS hcl hrd hag
          go_simp
          try with_reducible rfl
        · exact fun L u' wx hS => hS.plain rfl _
        simp only [Act.put, List.setIfInBounds_toArray, List.set_cons_zero, List.set_cons_succ]
        apply St.mix_give
        · rfl
        · intro L u' wx hS hcl hrd hag
          go_simp
          try with_reducible rfl
        · exact fun L u' wx hS => hS.plain rfl _
        simp only [Act.put, List.setIfInBounds_toArray, List.set_cons_zero, List.set_cons_succ]
        apply St.mix_give
        · rfl
        · intro L u' wx hS hcl hrd hag
          go_simp
          try with_reducible rfl
        · exact fun L u' wx hS => hS.plain rfl _
        simp only [Act.put, List.setIfInBounds_toArray, List.set_cons_zero, List.set_cons_succ]
        apply St.mix_give
        · rfl
        · intro L u' wx hS hcl hrd hag
          go_simp
          try with_reducible rfl
        · exact fun L u' wx hS => hS.plain rfl _
        simp only [Act.put, List.setIfInBounds_toArray, List.set_cons_zero, List.set_cons_succ]
        refine St.mix_into (v := .bool true) (f := 9) (args := #[]) rfl rfl ?_ ?_ ?_
        · intro wx
          go_simp
          try with_reducible rfl
        · intro L u' wx hS hcl hrd hag
          refine (cZ wx hS.low).mono ?_
          rintro e w' ⟨rfl, b⟩
          exact ⟨rfl, hS.into rfl b _⟩
        simp only [Act.put, List.setIfInBounds_toArray, List.set_cons_zero, List.set_cons_succ]
        apply St.mix_give
        · rfl
        · intro L u' wx hS hcl hrd hag
          go_simp
          try with_reducible rfl
        · exact fun L u' wx hS => hS.plain rfl _
        simp only [Act.put, List.setIfInBounds_toArray, List.set_cons_zero, List.set_cons_succ]
        apply St.mix_give
        · rfl
        · intro L u' wx hS hcl hrd hag
          go_simp
          try with_reducible rfl
        · exact fun L u' wx hS => hS.plain rfl _
        simp only [Act.put, List.setIfInBounds_toArray, List.set_cons_zero, List.set_cons_succ]
        refine St.mix_last ?_
        intro L w9 hS _
        have h9 := hS.low
        clear hS hboxs cZ cX2 KC cEn
        go_wp2_with fail
        go_ret
        exact ⟨rfl, hb1.trans (h9.mono hb1.size)⟩
      | some t =>
        simp only [termV] at cT1 cT2
        have n5 : (t != t) = false := by simp
        obtain ⟨⟨_, ⟨z0, z1, z2⟩, y0⟩, ⟨_, ⟨z3, z4, z5⟩, y1⟩⟩ := hboxs _ h13
        go_wp2_with fail
        refine (cT1 _ h13).mono ?_
        rintro e w14 ⟨rfl, b⟩
        have h14 := h13.trans (b.mono h13.size)
        clear b z0 z1 z2 y0 z3 z4 z5 y1
        obtain ⟨⟨_, ⟨z0, z1, z2⟩, y0⟩, ⟨_, ⟨z3, z4, z5⟩, y1⟩⟩ := hboxs _ h14
        go_wp2_with fail
        refine (cT2 _ h14).mono ?_
        rintro e w15 ⟨rfl, b⟩
        have h15 := h14.trans (b.mono h14.size)
        clear b z0 z1 z2 y0 z3 z4 z5 y1
        clear cT1 cT2
        by_cases hx1 : to < r.base
        ·
          have hx := hx1
          have m1 : (to < r.base) = True := eq_true hx1
          have e9 := ho (.inl hx)
          clear hin hcl hlI
          rw [show decide (C = r) = true from decide_eq_true e9] at cE
          clear e9 ho hx1 hx HM HN
          obtain ⟨⟨_, ⟨z0, z1, z2⟩, y0⟩, ⟨_, ⟨z3, z4, z5⟩, y1⟩⟩ := hboxs _ h15
          go_wp2_with fail
          refine (cE _ h15).mono ?_
          rintro e w16 ⟨rfl, b⟩
          have h16 := h15.trans (b.mono h15.size)
          clear b z0 z1 z2 y0 z3 z4 z5 y1
          clear cE
          go_wp2_with fail
          refine (cZ _ h16).mono ?_
          rintro e w17 ⟨rfl, b⟩
          have h17 := h16.trans (b.mono h16.size)
          clear b
          go_wp2_with fail
          go_ret
          exact ⟨rfl, hb1.trans (h17.mono hb1.size)⟩
        by_cases hx2 : lastI r < to
        ·
          have hx := hx2
          have m1 : (to < r.base) = False := eq_false hx1
          have m2 : (lastI r < to) = True := eq_true hx2
          clear hx2
          have e9 := ho (.inr hx)
          clear hin hcl hlI
          rw [show decide (C = r) = true from decide_eq_true e9] at cE
          clear e9 ho hx1 hx HM HN
          obtain ⟨⟨_, ⟨z0, z1, z2⟩, y0⟩, ⟨_, ⟨z3, z4, z5⟩, y1⟩⟩ := hboxs _ h15
          go_wp2_with fail
          refine (cE _ h15).mono ?_
          rintro e w16 ⟨rfl, b⟩
          have h16 := h15.trans (b.mono h15.size)
          clear b z0 z1 z2 y0 z3 z4 z5 y1
          clear cE
          go_wp2_with fail
          refine (cZ _ h16).mono ?_
          rintro e w17 ⟨rfl, b⟩
          have h17 := h16.trans (b.mono h16.size)
          clear b
          go_wp2_with fail
          go_ret
          exact ⟨rfl, hb1.trans (h17.mono hb1.size)⟩
        have m1 : (to < r.base) = False := eq_false hx1
        have m2 : (lastI r < to) = False := eq_false hx2
        obtain ⟨e5, e6⟩ := hin (by omega) (by omega)
        have hto1 : inI (to + 1) := by unfold inI at hto ⊢; have := hlI.out; omega
        have j1 : IntKind.i64.wrap (to + 1) = to + 1 := by rw [IntKind.wrap_i64] <;> (unfold inI at hto1; omega)
        have e7 : (C.base == to) = true := by simpa using e6
        have cX2 := fun w' h => cX w' h hto1
        rw [e5] at cX2
        have cEn := fun va w' (h1 : ArgE w' va C.es) (h : Below W1.heap.size W1 w') => entries_any va _ C.es C.es w' h1.sm (KC w' h).sm (by have := HM.out; omega) (by have := HM.out; omega)
        rw [show decide (C.es = C.es) = true from decide_eq_true rfl] at cEn
        clear cX cE ho hin e5 e6 hx1 hx2 hto1 hcl
        obtain ⟨⟨_, ⟨z0, z1, z2⟩, y0⟩, ⟨_, ⟨z3, z4, z5⟩, y1⟩⟩ := hboxs _ h15
        go_wp2_with fail
        clear z0 z1 z2 y0 z3 z4 z5 y1
        refine St.wp_region_mixed (RG W1 (fun k => match k with | 3 => some (.en C.es) | _ => none)) (fun j x => match j with | 3 => ∃ A c, x = .slice A m c | _ => x = .bool true) (by kernel_rfl) (by kernel_rfl) (by kernel_rfl) (RG.start h15) ?_
        apply St.mix_give
        · rfl
        · intro L u' wx hS hcl hrd hag
          obtain ⟨⟨_, ⟨z0, z1, z2⟩, y0⟩, ⟨_, ⟨z3, z4, z5⟩, y1⟩⟩ := hboxs wx hS.low
          go_simp
          try with_reducible rfl
        · exact fun L u' wx hS => hS.plain rfl _
        simp only [Act.put, List.setIfInBounds_toArray, List.set_cons_zero, List.set_cons_succ]
        apply St.mix_give
        · rfl
        · intro L u' wx hS hcl hrd hag
          go_simp
          try with_reducible rfl
        · exact fun L u' wx hS => hS.plain rfl _
        simp only [Act.put, List.setIfInBounds_toArray, List.set_cons_zero, List.set_cons_succ]
        apply St.mix_give
        · rfl
        · intro L u' wx hS hcl hrd hag
          go_simp
          try with_reducible rfl
        · exact fun L u' wx hS => hS.plain rfl _
        simp only [Act.put, List.setIfInBounds_toArray, List.set_cons_zero, List.set_cons_succ]
        refine St.mix_call (f := 24) (args := #[lv r (.slice A n c), .int .i64 (to + 1), .int .i64 1000]) rfl ?_ ?_ ?_
        · intro wx
          go_simp
          try with_reducible rfl
        · intro L u' wx hS hcl hrd hag
          refine (cX2 wx hS.low).mono ?_
          rintro e w' ⟨v3, rfl, o3, b⟩
          exact ⟨_, rfl, (by obtain ⟨A4, c4, e4⟩ := (ArgE.of_own o3).form; rw [HM.out] at e4; exact ⟨A4, c4, e4⟩), hS.got rfl b (ArgE.of_own o3)⟩
        rintro y ⟨A4, c4, rfl⟩
        simp only [Act.put, List.setIfInBounds_toArray, List.set_cons_zero, List.set_cons_succ]
        apply St.mix_give
        · rfl
        · intro L u' wx hS hcl hrd hag
          obtain ⟨⟨_, ⟨z0, z1, z2⟩, y0⟩, ⟨_, ⟨z3, z4, z5⟩, y1⟩⟩ := hboxs wx hS.low
          go_simp
          try with_reducible rfl
        · exact fun L u' wx hS => hS.plain rfl _
        simp only [Act.put, List.setIfInBounds_toArray, List.set_cons_zero, List.set_cons_succ]
        apply St.mix_give
        · rfl
        · intro L u' wx hS hcl hrd hag
          obtain ⟨⟨_, ⟨z0, z1, z2⟩, y0⟩, ⟨_, ⟨z3, z4, z5⟩, y1⟩⟩ := hboxs wx hS.low
          go_simp
          try with_reducible rfl
        · exact fun L u' wx hS => hS.plain rfl _
        simp only [Act.put, List.setIfInBounds_toArray, List.set_cons_zero, List.set_cons_succ]
        refine St.mix_into (v := .bool true) (f := 23) (args := #[.slice A4 m c4, .slice A3 m c3]) rfl rfl ?_ ?_ ?_
        · intro wx
          go_simp
          try with_reducible rfl
        · intro L u' wx hS hcl hrd hag
          refine (cEn _ wx (hS.en (l := C.es) (St.before_ready hcl hrd 6 3 (by kernel_rfl)) rfl (hag 6 3 (by kernel_rfl))) hS.low).mono ?_
          rintro e w' ⟨rfl, b⟩
          exact ⟨rfl, hS.into rfl b _⟩
        simp only [Act.put, List.setIfInBounds_toArray, List.set_cons_zero, List.set_cons_succ]
        apply St.mix_give
        · rfl
        · intro L u' wx hS hcl hrd hag
          go_simp
          try with_reducible rfl
        · exact fun L u' wx hS => hS.plain rfl _
        simp only [Act.put, List.setIfInBounds_toArray, List.set_cons_zero, List.set_cons_succ]
        apply St.mix_give
        · rfl
        · intro L u' wx hS hcl hrd hag
          obtain ⟨⟨_, ⟨z0, z1, z2⟩, y0⟩, ⟨_, ⟨z3, z4, z5⟩, y1⟩⟩ := hboxs wx hS.low
          go_simp
          try with_reducible rfl
        · exact fun L u' wx hS => hS.plain rfl _
        simp only [Act.put, List.setIfInBounds_toArray, List.set_cons_zero, List.set_cons_succ]
        apply St.mix_give
        · rfl
        · intro L u' wx hS hcl hrd hag
          obtain ⟨⟨_, ⟨z0, z1, z2⟩, y0⟩, ⟨_, ⟨z3, z4, z5⟩, y1⟩⟩ := hboxs wx hS.low
          go_simp
          try with_reducible rfl
        · exact fun L u' wx hS => hS.plain rfl _
        simp only [Act.put, List.setIfInBounds_toArray, List.set_cons_zero, List.set_cons_succ]
        apply St.mix_give
        · rfl
        · intro L u' wx hS hcl hrd hag
          go_simp
          try with_reducible rfl
        · exact fun L u' wx hS => hS.plain rfl _
        simp only [Act.put, List.setIfInBounds_toArray, List.set_cons_zero, List.set_cons_succ]
        apply St.mix_give
        · rfl
        · intro L u' wx hS hcl hrd hag
          go_simp
          try with_reducible rfl
        · exact fun L u' wx hS => hS.plain rfl _
        simp only [Act.put, List.setIfInBounds_toArray, List.set_cons_zero, List.set_cons_succ]
        apply St.mix_give
        · rfl
        · intro L u' wx hS hcl hrd hag
          go_simp
          try with_reducible rfl
        · exact fun L u' wx hS => hS.plain rfl _
        simp only [Act.put, List.setIfInBounds_toArray, List.set_cons_zero, List.set_cons_succ]
        apply St.mix_give
        · rfl
        · intro L u' wx hS hcl hrd hag
          go_simp
          try with_reducible rfl
        · exact fun L u' wx hS => hS.plain rfl _
        simp only [Act.put, List.setIfInBounds_toArray, List.set_cons_zero, List.set_cons_succ]
        refine St.mix_into (v := .bool true) (f := 9) (args := #[]) rfl rfl ?_ ?_ ?_
        · intro wx
          go_simp
          try with_reducible rfl
        · intro L u' wx hS hcl hrd hag
          refine (cZ wx hS.low).mono ?_
          rintro e w' ⟨rfl, b⟩
          exact ⟨rfl, hS.into rfl b _⟩
        simp only [Act.put, List.setIfInBounds_toArray, List.set_cons_zero, List.set_cons_succ]
        apply St.mix_give
        · rfl
        · intro L u' wx hS hcl hrd hag
          go_simp
          try with_reducible rfl
        · exact fun L u' wx hS => hS.plain rfl _
        simp only [Act.put, List.setIfInBounds_toArray, List.set_cons_zero, List.set_cons_succ]
        apply St.mix_give
        · rfl
        · intro L u' wx hS hcl hrd hag
          go_simp
          try with_reducible rfl
        · exact fun L u' wx hS => hS.plain rfl _
        simp only [Act.put, List.setIfInBounds_toArray, List.set_cons_zero, List.set_cons_succ]
        refine St.mix_last ?_
        intro L w9 hS _
        have h9 := hS.low
        clear hS hboxs cZ cX2 KC cEn
        go_wp2_with fail
        go_ret
        exact ⟨rfl, hb1.trans (h9.mono hb1.size)⟩
end Go.Proofs.YtimodohcihnoiaaDoor.Ro
