/-
  RollTells, walked. Conditions: lengths at most 2^47; numbers such as a program can hold; the library's variables hold what their types allow.
-/
import Derived.Test.YtimodohcihnoiaaDoorRoGM
import Derived.Test.YtimodohcihnoiaaDoorRoRCm
import Derived.Test.YtimodohcihnoiaaDoorRoRSl
namespace Go.Proofs.YtimodohcihnoiaaDoor.Ro
open Go.RowKit

theorem sliceL_len (r : Lg) (f lim : Int) : (sliceL r f lim).length ≤ r.es.length := by
  unfold sliceL
  rw [List.length_take, List.length_drop]
  omega
set_option maxHeartbeats 16000000 in
set_option maxRecDepth 100000 in
theorem tells_walk (v y : Value) (r : Lg) (l : List En) (i fr lim t : Int) (w : World) (ha : InL w v r) (hv : ArgE w y l) (hl : l.length ≤ 140737488355328) (hi : inI i) (hfr : inI fr) (hlim : inI lim) (hg : Good w) :
    Calls Tryd.prog 4 #[lv r v, .int .i64 i, .int .i64 fr, .int .i64 lim, .int .i64 t, y] w fun e w' => e = .returned (.bool true) ∧ Below w.heap.size w w' := by
  obtain ⟨A, c, rfl⟩ := ha.arg.form
  obtain ⟨D, d, rfl⟩ := hv.form
  obtain ⟨n, hn⟩ : ∃ n, r.es.length = n := ⟨_, rfl⟩
  obtain ⟨q, hq⟩ : ∃ q, l.length = q := ⟨_, rfl⟩
  rw [hn] at ha ⊢
  rw [hq] at hv hl ⊢
  have HN := Lib.hid hn
  have HQ := Lib.hid hq
  clear hn hq
  obtain ⟨W0, hW0⟩ : ∃ W0, w.alloc (.cells #[.int .i64 r.base, .int .i64 r.bt, .slice A n c] 24) = W0 := ⟨_, rfl⟩
  have hb0 : Below w.heap.size w W0 := hW0 ▸ (by (repeat' (first | with_reducible assumption | with_reducible exact Below.refl _ _ | with_reducible refine Below.alloc ?_ ?_ _ | with_reducible refine Below.setCell ?_ ?_ _ | with_reducible refine Below.drew ?_ | omega | (simp; done) | (simp; omega))))
  have B0 : BoxL w.heap.size r (.slice A n c) W0 := hW0 ▸ BoxL.new w r (.slice A n c)
  have hbox : ∀ wx, Below W0.heap.size W0 wx → BoxL w.heap.size r (.slice A n c) wx := fun wx h => B0.keep h
  have KA : ∀ w', Below W0.heap.size W0 w' → InL w' (.slice A n c) r := fun w' h => ha.keep (hb0.trans (h.mono hb0.size))
  have KV : ∀ w', Below W0.heap.size W0 w' → ArgE w' (.slice D q d) l := fun w' h => hv.keep (hb0.trans (h.mono hb0.size))
  have KG : ∀ w', Below W0.heap.size W0 w' → Good w' := fun w' h => hg.below (hb0.trans (h.mono hb0.size))
  have cS1 := fun w' (h : Below W0.heap.size W0 w') => small_any r _ w' (KA w' h).arg.sm (KA w' h).len (KA w' h).txt
  have cI1 := fun w' (h : Below W0.heap.size W0 w') => ris_any r _ w' (KA w' h).arg.sm (KA w' h).len
  have cL := fun w' (h : Below W0.heap.size W0 w') => live_any w' (KG w' h)
  have h0 := Below.refl W0.heap.size W0
  clear ha hv B0 hg
  go_enter Tryd.func4, Tryd.ntmps4
  obtain ⟨_, ⟨z0, z1, z2⟩, y0⟩ := hbox _ h0
  go_wp2_with fail
  refine (cS1 _ h0).mono ?_
  rintro e w1 ⟨⟨x1, rfl, s1⟩, b⟩
  have h1 := h0.trans (b.mono h0.size)
  clear b z0 z1 z2 y0
  clear hW0
  cases x1 with
  | false =>
    go_wp2_with fail
    refine (cL _ h1).mono ?_
    rintro e w2 ⟨rfl, b⟩
    have h2 := h1.trans (b.mono h1.size)
    clear b
    go_wp2_with fail
    go_ret
    exact ⟨rfl, hb0.trans (h2.mono hb0.size)⟩
  | true =>
  have sa : SmallL r := by simpa using s1
  clear s1
  have hA : isL r = true ∨ isL r = false := by cases isL r <;> simp
  rcases hA.symm with hA | hA
  ·
    rw [hA] at cI1
    clear hA sa
    obtain ⟨_, ⟨z0, z1, z2⟩, y0⟩ := hbox _ h1
    go_wp2_with fail
    refine (cI1 _ h1).mono ?_
    rintro e w2 ⟨rfl, b⟩
    have h2 := h1.trans (b.mono h1.size)
    clear b z0 z1 z2 y0
    go_wp2_with fail
    refine (cL _ h2).mono ?_
    rintro e w3 ⟨rfl, b⟩
    have h3 := h2.trans (b.mono h2.size)
    clear b
    go_wp2_with fail
    go_ret
    exact ⟨rfl, hb0.trans (h3.mono hb0.size)⟩
  have en := sa.n
  have fa := FitL.of hA (by omega)
  rw [hA] at cI1
  clear hA sa cS1
  obtain ⟨_, ⟨z0, z1, z2⟩, y0⟩ := hbox _ h1
  go_wp2_with fail
  refine (cI1 _ h1).mono ?_
  rintro e w2 ⟨rfl, b⟩
  have h2 := h1.trans (b.mono h1.size)
  clear b z0 z1 z2 y0
  clear cI1
  by_cases hq60 : 60 < q
  ·
    have g1 : ((60 : Int) < (q : Int)) = True := eq_true (by omega)
    clear hq60
    go_wp2_with fail
    refine (cL _ h2).mono ?_
    rintro e w3 ⟨rfl, b⟩
    have h3 := h2.trans (b.mono h2.size)
    clear b
    go_wp2_with fail
    go_ret
    exact ⟨rfl, hb0.trans (h3.mono hb0.size)⟩
  have g1 : ((60 : Int) < (q : Int)) = False := eq_false (by omega)
  have hq1 : q ≤ 60 := by omega
  have hl1 : l.length ≤ 60 := by have := HQ.out; omega
  clear hq60 hl
  have cO := fun w' (h : Below W0.heap.size W0 w') => own_any r _ w' (KA w' h).arg (by omega)
  have cLa := fun s w' (h : ArgE w' s r.es) => last_any r s w' h.sm fa
  have cLr := fun w' (h : Below W0.heap.size W0 w') => rlast_any r _ w' (KA w' h).arg.sm fa
  have cTa := fun s w' (h : ArgE w' s r.es) => term_any r s i w' h.sm fa hi
  have cTr := fun w' (h : Below W0.heap.size W0 w') => rterm_any r _ i w' (KA w' h).arg.sm fa hi
  have cXa := fun s w' (h : ArgE w' s r.es) => slice_any r s fr lim w' h fa (by omega) hfr hlim
  have cXr := fun w' (h : Below W0.heap.size W0 w') => rslice_any r _ fr lim w' (KA w' h).arg.sm fa (by omega) hfr hlim
  have cPa := fun s y w' (h : ArgE w' s r.es) (h2 : ArgE w' y l) => append_any r s y l w' h h2 (by omega) (by omega)
  have cPr := fun w' (h : Below W0.heap.size W0 w') => rappend_any r _ _ l w' (KA w' h).arg (KV w' h) (by omega) (by omega)
  have cCa := fun s w' (h : ArgE w' s r.es) => compact_any r s i w' h fa (by omega) hi
  have cCr := fun w' (h : Below W0.heap.size W0 w') => rcompact_any r _ i w' (KA w' h).arg fa (by omega) hi
  have cNa := fun s w' (h : ArgE w' s r.es) => newer_any t i r s w' h.sm fa
  have cNr := fun w' (h : Below W0.heap.size W0 w') => rnewer_any t i r _ w' (KA w' h).arg.sm fa
  have hS1 := sliceL_len r fr lim
  have hC1 := comp_len r i
  have hP1 : (appL r l).es.length ≤ 120 := by show (r.es ++ l).length ≤ 120; rw [List.length_append]; omega
  obtain ⟨S, hS⟩ : ∃ x, sliceL r fr lim = x := ⟨_, rfl⟩
  obtain ⟨C, hC⟩ : ∃ x, compL r i = x := ⟨_, rfl⟩
  obtain ⟨P, hP⟩ : ∃ x, appL r l = x := ⟨_, rfl⟩
  obtain ⟨X, hX⟩ : ∃ x, newerL t i r = x := ⟨_, rfl⟩
  obtain ⟨T, hT⟩ : ∃ x, termL r i = x := ⟨_, rfl⟩
  obtain ⟨aI, haI⟩ : ∃ x, lastI r = x := ⟨_, rfl⟩
  obtain ⟨aT, haT⟩ : ∃ x, lastT r = x := ⟨_, rfl⟩
  rw [hS] at cXa cXr hS1
  rw [hC] at cCa cCr hC1
  rw [hP] at cPa cPr hP1
  rw [hX] at cNa cNr
  rw [hT] at cTa cTr
  rw [haI, haT] at cLa cLr
  have HS1 := Lib.hid hS1
  have HC1 := Lib.hid hC1
  have HP1 := Lib.hid hP1
  have HEN := Lib.hid en
  have HL1 := Lib.hid hl1
  have cEn := fun va vb w' (h1 : ArgE w' va S) (h2 : ArgE w' vb S) => entries_any va vb S S w' h1.sm h2.sm (by have := HS1.out; have := HEN.out; omega) (by have := HS1.out; have := HEN.out; omega)
  rw [show decide (S = S) = true from decide_eq_true rfl] at cEn
  have cSP := fun s s' w' (h1 : ArgE w' s P.es) (h2 : ArgE w' s' P.es) => rsame_any P P s s' w' h1.sm h2.sm (by have := HP1.out; omega) (by have := HP1.out; omega)
  rw [show decide (P = P) = true from decide_eq_true rfl] at cSP
  have cSC := fun s s' w' (h1 : ArgE w' s C.es) (h2 : ArgE w' s' C.es) => rsame_any C C s s' w' h1.sm h2.sm (by have := HC1.out; have := HEN.out; omega) (by have := HC1.out; have := HEN.out; omega)
  rw [show decide (C = C) = true from decide_eq_true rfl] at cSC
  have n1 : (aI != aI) = false := by simp
  have n2 : (aT != aT) = false := by simp
  have n3 : (X == X) = true := by simp
  obtain ⟨m, hm⟩ : ∃ m, S.length = m := ⟨_, rfl⟩
  have HM := Lib.hid hm
  clear hS hC hP hX hT haI haT hS1 hC1 hP1 hm fa hi hfr hlim en hl1 hq1
  obtain ⟨_, ⟨z0, z1, z2⟩, y0⟩ := hbox _ h2
  go_wp2_with fail
  refine (cO _ h2).mono ?_
  rintro e w3 ⟨s3, rfl, o3, b⟩
  have a3 := ArgE.of_own o3
  have h3 := h2.trans (b.mono h2.size)
  clear b o3 z0 z1 z2 y0
  go_wp2_with fail
  refine (cLa _ _ a3).mono ?_
  rintro e w4 ⟨rfl, b⟩
  have h4 := h3.trans (b.mono h3.size)
  clear b a3
  obtain ⟨_, ⟨z0, z1, z2⟩, y0⟩ := hbox _ h4
  go_wp2_with fail
  refine (cLr _ h4).mono ?_
  rintro e w5 ⟨rfl, b⟩
  have h5 := h4.trans (b.mono h4.size)
  clear b z0 z1 z2 y0
  obtain ⟨_, ⟨z0, z1, z2⟩, y0⟩ := hbox _ h5
  go_wp2_with fail
  refine (cO _ h5).mono ?_
  rintro e w6 ⟨s3, rfl, o3, b⟩
  have a5 := ArgE.of_own o3
  have h6 := h5.trans (b.mono h5.size)
  clear b o3 z0 z1 z2 y0
  clear cLa cLr
  cases T with
  | none =>
    simp only [termV] at cTa cTr
    go_wp2_with fail
    refine (cTa _ _ a5).mono ?_
    rintro e w7 ⟨rfl, b⟩
    have h7 := h6.trans (b.mono h6.size)
    clear b a5
    obtain ⟨_, ⟨z0, z1, z2⟩, y0⟩ := hbox _ h7
    go_wp2_with fail
    refine (cTr _ h7).mono ?_
    rintro e w8 ⟨rfl, b⟩
    have h8 := h7.trans (b.mono h7.size)
    clear b z0 z1 z2 y0
    clear cTa cTr
    go_wp2_with fail
    refine St.wp_region_mixed (RG W0 (fun k => match k with | 20 => some (.ro r) | 23 => some (.en S) | 27 => some (.en S) | _ => none)) (fun j x => match j with | 20 => ∃ s, x = lv r s | 23 => ∃ A c, x = .slice A m c | 27 => ∃ A c, x = .slice A m c | _ => x = .bool true) (by kernel_rfl) (by kernel_rfl) (by kernel_rfl) (RG.start h8) ?_
    apply St.mix_give
    · rfl
    · intro L u' wx hS hcl hrd hag
      go_simp
      try with_reducible rfl
    · exact fun L u' wx hS => hS.plain rfl _
    simp only [Act.put, List.setIfInBounds_toArray, List.set_cons_zero, List.set_cons_succ]
    apply St.mix_give
    · rfl
    · intro L u' wx hS hcl hrd hag
      go_simp
      try with_reducible rfl
    · exact fun L u' wx hS => hS.plain rfl _
    simp only [Act.put, List.setIfInBounds_toArray, List.set_cons_zero, List.set_cons_succ]
    apply St.mix_give
    · rfl
    · intro L u' wx hS hcl hrd hag
      go_simp
      try with_reducible rfl
    · exact fun L u' wx hS => hS.plain rfl _
    simp only [Act.put, List.setIfInBounds_toArray, List.set_cons_zero, List.set_cons_succ]
    apply St.mix_give
    · rfl
    · intro L u' wx hS hcl hrd hag
      go_simp
      try with_reducible rfl
    · exact fun L u' wx hS => hS.plain rfl _
    simp only [Act.put, List.setIfInBounds_toArray, List.set_cons_zero, List.set_cons_succ]
    apply St.mix_give
    · rfl
    · intro L u' wx hS hcl hrd hag
      go_simp
      try with_reducible rfl
    · exact fun L u' wx hS => hS.plain rfl _
    simp only [Act.put, List.setIfInBounds_toArray, List.set_cons_zero, List.set_cons_succ]
    apply St.mix_give
    · rfl
    · intro L u' wx hS hcl hrd hag
      go_simp
      try with_reducible rfl
    · exact fun L u' wx hS => hS.plain rfl _
    simp only [Act.put, List.setIfInBounds_toArray, List.set_cons_zero, List.set_cons_succ]
    apply St.mix_give
    · rfl
    · intro L u' wx hS hcl hrd hag
      go_simp
      try with_reducible rfl
    · exact fun L u' wx hS => hS.plain rfl _
    simp only [Act.put, List.setIfInBounds_toArray, List.set_cons_zero, List.set_cons_succ]
    apply St.mix_give
    · rfl
    · intro L u' wx hS hcl hrd hag
      go_simp
      try with_reducible rfl
    · exact fun L u' wx hS => hS.plain rfl _
    simp only [Act.put, List.setIfInBounds_toArray, List.set_cons_zero, List.set_cons_succ]
    apply St.mix_give
    · rfl
    · intro L u' wx hS hcl hrd hag
      go_simp
      try with_reducible rfl
    · exact fun L u' wx hS => hS.plain rfl _
    simp only [Act.put, List.setIfInBounds_toArray, List.set_cons_zero, List.set_cons_succ]
    apply St.mix_give
    · rfl
    · intro L u' wx hS hcl hrd hag
      go_simp
      try with_reducible rfl
    · exact fun L u' wx hS => hS.plain rfl _
    simp only [Act.put, List.setIfInBounds_toArray, List.set_cons_zero, List.set_cons_succ]
    apply St.mix_give
    · rfl
    · intro L u' wx hS hcl hrd hag
      go_simp
      try with_reducible rfl
    · exact fun L u' wx hS => hS.plain rfl _
    simp only [Act.put, List.setIfInBounds_toArray, List.set_cons_zero, List.set_cons_succ]
    apply St.mix_give
    · rfl
    · intro L u' wx hS hcl hrd hag
      go_simp
      try with_reducible rfl
    · exact fun L u' wx hS => hS.plain rfl _
    simp only [Act.put, List.setIfInBounds_toArray, List.set_cons_zero, List.set_cons_succ]
    apply St.mix_give
    · rfl
    · intro L u' wx hS hcl hrd hag
      go_simp
      try with_reducible rfl
    · exact fun L u' wx hS => hS.plain rfl _
    simp only [Act.put, List.setIfInBounds_toArray, List.set_cons_zero, List.set_cons_succ]
    apply St.mix_give
    · rfl
    · intro L u' wx hS hcl hrd hag
      go_simp
      try with_reducible rfl
    · exact fun L u' wx hS => hS.plain rfl _
    simp only [Act.put, List.setIfInBounds_toArray, List.set_cons_zero, List.set_cons_succ]
    apply St.mix_give
    · rfl
    · intro L u' wx hS hcl hrd hag
      go_simp
      try with_reducible rfl
    · exact fun L u' wx hS => hS.plain rfl _
    simp only [Act.put, List.setIfInBounds_toArray, List.set_cons_zero, List.set_cons_succ]
    apply St.mix_give
    · rfl
    · intro L u' wx hS hcl hrd hag
      go_simp
      try with_reducible rfl
    · exact fun L u' wx hS => hS.plain rfl _
    simp only [Act.put, List.setIfInBounds_toArray, List.set_cons_zero, List.set_cons_succ]
    apply St.mix_give
    · rfl
    · intro L u' wx hS hcl hrd hag
      go_simp
      try with_reducible rfl
    · exact fun L u' wx hS => hS.plain rfl _
    simp only [Act.put, List.setIfInBounds_toArray, List.set_cons_zero, List.set_cons_succ]
    apply St.mix_give
    · rfl
    · intro L u' wx hS hcl hrd hag
      go_simp
      try with_reducible rfl
    · exact fun L u' wx hS => hS.plain rfl _
    simp only [Act.put, List.setIfInBounds_toArray, List.set_cons_zero, List.set_cons_succ]
    apply St.mix_give
    · rfl
    · intro L u' wx hS hcl hrd hag
      go_simp
      try with_reducible rfl
    · exact fun L u' wx hS => hS.plain rfl _
    simp only [Act.put, List.setIfInBounds_toArray, List.set_cons_zero, List.set_cons_succ]
    apply St.mix_give
    · rfl
    · intro L u' wx hS hcl hrd hag
      obtain ⟨_, ⟨z0, z1, z2⟩, y0⟩ := hbox wx hS.low
      go_simp
      try with_reducible rfl
    · exact fun L u' wx hS => hS.plain rfl _
    simp only [Act.put, List.setIfInBounds_toArray, List.set_cons_zero, List.set_cons_succ]
    refine St.mix_call (f := 16) (args := #[lv r (.slice A n c)]) rfl ?_ ?_ ?_
    · intro wx
      go_simp
      try with_reducible rfl
    · intro L u' wx hS hcl hrd hag
      refine (cO wx hS.low).mono ?_
      rintro e w' ⟨s20, rfl, o, b⟩
      exact ⟨_, rfl, ⟨s20, rfl⟩, hS.got rfl b ⟨s20, rfl, ArgE.of_own o⟩⟩
    rintro y ⟨s20, rfl⟩
    simp only [Act.put, List.setIfInBounds_toArray, List.set_cons_zero, List.set_cons_succ]
    apply St.mix_give
    · rfl
    · intro L u' wx hS hcl hrd hag
      go_simp
      try with_reducible rfl
    · exact fun L u' wx hS => hS.plain rfl _
    simp only [Act.put, List.setIfInBounds_toArray, List.set_cons_zero, List.set_cons_succ]
    apply St.mix_give
    · rfl
    · intro L u' wx hS hcl hrd hag
      go_simp
      try with_reducible rfl
    · exact fun L u' wx hS => hS.plain rfl _
    simp only [Act.put, List.setIfInBounds_toArray, List.set_cons_zero, List.set_cons_succ]
    refine St.mix_call (f := 24) (args := #[lv r s20, .int .i64 fr, .int .i64 lim]) rfl ?_ ?_ ?_
    · intro wx
      go_simp
      try with_reducible rfl
    · intro L u' wx hS hcl hrd hag
      refine (cXa s20 wx (hS.ro (St.before_ready hcl hrd 23 20 (by kernel_rfl)) rfl (hag 23 20 (by kernel_rfl)))).mono ?_
      rintro e w' ⟨v3, rfl, o, b⟩
      exact ⟨_, rfl, (by obtain ⟨A4, c4, e4⟩ := (ArgE.of_own o).form; rw [HM.out] at e4; exact ⟨A4, c4, e4⟩), hS.got rfl b (ArgE.of_own o)⟩
    rintro y ⟨A4, c4, rfl⟩
    simp only [Act.put, List.setIfInBounds_toArray, List.set_cons_zero, List.set_cons_succ]
    apply St.mix_give
    · rfl
    · intro L u' wx hS hcl hrd hag
      obtain ⟨_, ⟨z0, z1, z2⟩, y0⟩ := hbox wx hS.low
      go_simp
      try with_reducible rfl
    · exact fun L u' wx hS => hS.plain rfl _
    simp only [Act.put, List.setIfInBounds_toArray, List.set_cons_zero, List.set_cons_succ]
    apply St.mix_give
    · rfl
    · intro L u' wx hS hcl hrd hag
      go_simp
      try with_reducible rfl
    · exact fun L u' wx hS => hS.plain rfl _
    simp only [Act.put, List.setIfInBounds_toArray, List.set_cons_zero, List.set_cons_succ]
    apply St.mix_give
    · rfl
    · intro L u' wx hS hcl hrd hag
      go_simp
      try with_reducible rfl
    · exact fun L u' wx hS => hS.plain rfl _
    simp only [Act.put, List.setIfInBounds_toArray, List.set_cons_zero, List.set_cons_succ]
    refine St.mix_call (f := 25) (args := #[lv r (.slice A n c), .int .i64 fr, .int .i64 lim]) rfl ?_ ?_ ?_
    · intro wx
      go_simp
      try with_reducible rfl
    · intro L u' wx hS hcl hrd hag
      refine (cXr wx hS.low).mono ?_
      rintro e w' ⟨v3, rfl, o, b⟩
      exact ⟨_, rfl, (by obtain ⟨A4, c4, e4⟩ := (ArgE.of_own o).form; rw [HM.out] at e4; exact ⟨A4, c4, e4⟩), hS.got rfl b (ArgE.of_own o)⟩
    rintro y ⟨A5, c5, rfl⟩
    simp only [Act.put, List.setIfInBounds_toArray, List.set_cons_zero, List.set_cons_succ]
    refine St.mix_into (v := .bool true) (f := 23) (args := #[.slice A4 m c4, .slice A5 m c5]) rfl rfl ?_ ?_ ?_
    · intro wx
      go_simp
      try with_reducible rfl
    · intro L u' wx hS hcl hrd hag
      refine (cEn _ _ wx (hS.en (St.before_ready hcl hrd 28 23 (by kernel_rfl)) rfl (hag 28 23 (by kernel_rfl))) (hS.en (St.before_ready hcl hrd 28 27 (by kernel_rfl)) rfl (hag 28 27 (by kernel_rfl)))).mono ?_
      rintro e w' ⟨rfl, b⟩
      exact ⟨rfl, hS.into rfl b _⟩
    simp only [Act.put, List.setIfInBounds_toArray, List.set_cons_zero, List.set_cons_succ]
    apply St.mix_give
    · rfl
    · intro L u' wx hS hcl hrd hag
      go_simp
      try with_reducible rfl
    · exact fun L u' wx hS => hS.plain rfl _
    simp only [Act.put, List.setIfInBounds_toArray, List.set_cons_zero, List.set_cons_succ]
    apply St.mix_give
    · rfl
    · intro L u' wx hS hcl hrd hag
      go_simp
      try with_reducible rfl
    · exact fun L u' wx hS => hS.plain rfl _
    simp only [Act.put, List.setIfInBounds_toArray, List.set_cons_zero, List.set_cons_succ]
    refine St.mix_last ?_
    intro L w9 hS _
    have h9 := hS.low
    clear hS cEn cXa cXr
    go_wp2_with fail
    refine St.wp_region_mixed (RG W0 (fun k => match k with | 1 => some (.ro r) | 4 => some (.en l) | 5 => some (.ro P) | 8 => some (.ro P) | 12 => some (.ro r) | 14 => some (.ro C) | 17 => some (.ro C) | 24 => some (.ro r) | _ => none)) (fun j x => match j with | 1 => ∃ s, x = lv r s | 5 => ∃ s, x = lv P s | 8 => ∃ s, x = lv P s | 12 => ∃ s, x = lv r s | 14 => ∃ s, x = lv C s | 17 => ∃ s, x = lv C s | 24 => ∃ s, x = lv r s | 25 => x = .bool X | 29 => x = .bool X | _ => x = .bool true) (by kernel_rfl) (by kernel_rfl) (by kernel_rfl) (RG.start h9) ?_
    apply St.mix_give
    · rfl
    · intro L u' wx hS hcl hrd hag
      obtain ⟨_, ⟨z0, z1, z2⟩, y0⟩ := hbox wx hS.low
      go_simp
      try with_reducible rfl
    · exact fun L u' wx hS => hS.plain rfl _
    simp only [Act.put, List.setIfInBounds_toArray, List.set_cons_zero, List.set_cons_succ]
    refine St.mix_call (f := 16) (args := #[lv r (.slice A n c)]) rfl ?_ ?_ ?_
    · intro wx
      go_simp
      try with_reducible rfl
    · intro L u' wx hS hcl hrd hag
      refine (cO wx hS.low).mono ?_
      rintro e w' ⟨s1, rfl, o, b⟩
      exact ⟨_, rfl, ⟨s1, rfl⟩, hS.got rfl b ⟨s1, rfl, ArgE.of_own o⟩⟩
    rintro y ⟨s1, rfl⟩
    simp only [Act.put, List.setIfInBounds_toArray, List.set_cons_zero, List.set_cons_succ]
    refine St.mix_free (fun z => ∃ b, z = .slice (some ⟨b, 0, none⟩) 0 0) rfl ?_ ?_
    · intro L u' wx hS hcl hrd hag
      refine ⟨.slice (some ⟨wx.heap.size, 0, none⟩) 0 0, wx.alloc (.cells #[] 54), ⟨_, rfl⟩, ?_, hS.into rfl ((Below.refl _ wx).alloc (Nat.le_refl _) _) _⟩
      go_simp
      try with_reducible rfl
    rintro y3 ⟨b3, rfl⟩
    simp only [Act.put, List.setIfInBounds_toArray, List.set_cons_zero, List.set_cons_succ]
    apply St.mix_give
    · rfl
    · intro L u' wx hS hcl hrd hag
      go_simp
      try with_reducible rfl
    · exact fun L u' wx hS => hS.plain rfl _
    simp only [Act.put, List.setIfInBounds_toArray, List.set_cons_zero, List.set_cons_succ]
    refine St.mix_free (fun z => ∃ A c, z = .slice A q c) rfl ?_ ?_
    · intro L u' wx hS hcl hrd hag
      obtain ⟨v', w', k1, k2, k3⟩ := run_append_zero ⟨b3, 0, none⟩ (KV wx hS.low) (by have := HL1.out; omega) 22
      obtain ⟨A', c', e'⟩ := k2.form_n HQ.out
      exact ⟨v', w', ⟨A', c', e'⟩, run_append2 rfl rfl rfl k1, hS.got rfl k3 k2⟩
    rintro y5 ⟨A5, c5, rfl⟩
    simp only [Act.put, List.setIfInBounds_toArray, List.set_cons_zero, List.set_cons_succ]
    refine St.mix_call (f := 26) (args := #[lv r s1, .slice A5 q c5]) rfl ?_ ?_ ?_
    · intro wx
      go_simp
      try with_reducible rfl
    · intro L u' wx hS hcl hrd hag
      refine (cPa s1 _ wx (hS.ro (St.before_ready hcl hrd 5 1 (by kernel_rfl)) rfl (hag 5 1 (by kernel_rfl))) (hS.en (St.before_ready hcl hrd 5 4 (by kernel_rfl)) rfl (hag 5 4 (by kernel_rfl)))).mono ?_
      rintro e w' ⟨s5, rfl, a, b⟩
      exact ⟨_, rfl, ⟨s5, rfl⟩, hS.got rfl b ⟨s5, rfl, a⟩⟩
    rintro y ⟨s5, rfl⟩
    simp only [Act.put, List.setIfInBounds_toArray, List.set_cons_zero, List.set_cons_succ]
    apply St.mix_give
    · rfl
    · intro L u' wx hS hcl hrd hag
      obtain ⟨_, ⟨z0, z1, z2⟩, y0⟩ := hbox wx hS.low
      go_simp
      try with_reducible rfl
    · exact fun L u' wx hS => hS.plain rfl _
    simp only [Act.put, List.setIfInBounds_toArray, List.set_cons_zero, List.set_cons_succ]
    apply St.mix_give
    · rfl
    · intro L u' wx hS hcl hrd hag
      go_simp
      try with_reducible rfl
    · exact fun L u' wx hS => hS.plain rfl _
    simp only [Act.put, List.setIfInBounds_toArray, List.set_cons_zero, List.set_cons_succ]
    refine St.mix_call (f := 27) (args := #[lv r (.slice A n c), .slice D q d]) rfl ?_ ?_ ?_
    · intro wx
      go_simp
      try with_reducible rfl
    · intro L u' wx hS hcl hrd hag
      refine (cPr wx hS.low).mono ?_
      rintro e w' ⟨s8, rfl, o, b⟩
      exact ⟨_, rfl, ⟨s8, rfl⟩, hS.got rfl b ⟨s8, rfl, ArgE.of_own o⟩⟩
    rintro y ⟨s8, rfl⟩
    simp only [Act.put, List.setIfInBounds_toArray, List.set_cons_zero, List.set_cons_succ]
    refine St.mix_into (v := .bool true) (f := 18) (args := #[lv P s5, lv P s8]) rfl rfl ?_ ?_ ?_
    · intro wx
      go_simp
      try with_reducible rfl
    · intro L u' wx hS hcl hrd hag
      refine (cSP s5 s8 wx (hS.ro (St.before_ready hcl hrd 9 5 (by kernel_rfl)) rfl (hag 9 5 (by kernel_rfl))) (hS.ro (St.before_ready hcl hrd 9 8 (by kernel_rfl)) rfl (hag 9 8 (by kernel_rfl)))).mono ?_
      rintro e w' ⟨rfl, b⟩
      exact ⟨rfl, hS.into rfl b _⟩
    simp only [Act.put, List.setIfInBounds_toArray, List.set_cons_zero, List.set_cons_succ]
    apply St.mix_give
    · rfl
    · intro L u' wx hS hcl hrd hag
      go_simp
      try with_reducible rfl
    · exact fun L u' wx hS => hS.plain rfl _
    simp only [Act.put, List.setIfInBounds_toArray, List.set_cons_zero, List.set_cons_succ]
    apply St.mix_give
    · rfl
    · intro L u' wx hS hcl hrd hag
      obtain ⟨_, ⟨z0, z1, z2⟩, y0⟩ := hbox wx hS.low
      go_simp
      try with_reducible rfl
    · exact fun L u' wx hS => hS.plain rfl _
    simp only [Act.put, List.setIfInBounds_toArray, List.set_cons_zero, List.set_cons_succ]
    refine St.mix_call (f := 16) (args := #[lv r (.slice A n c)]) rfl ?_ ?_ ?_
    · intro wx
      go_simp
      try with_reducible rfl
    · intro L u' wx hS hcl hrd hag
      refine (cO wx hS.low).mono ?_
      rintro e w' ⟨s12, rfl, o, b⟩
      exact ⟨_, rfl, ⟨s12, rfl⟩, hS.got rfl b ⟨s12, rfl, ArgE.of_own o⟩⟩
    rintro y ⟨s12, rfl⟩
    simp only [Act.put, List.setIfInBounds_toArray, List.set_cons_zero, List.set_cons_succ]
    apply St.mix_give
    · rfl
    · intro L u' wx hS hcl hrd hag
      go_simp
      try with_reducible rfl
    · exact fun L u' wx hS => hS.plain rfl _
    simp only [Act.put, List.setIfInBounds_toArray, List.set_cons_zero, List.set_cons_succ]
    refine St.mix_call (f := 28) (args := #[lv r s12, .int .i64 i]) rfl ?_ ?_ ?_
    · intro wx
      go_simp
      try with_reducible rfl
    · intro L u' wx hS hcl hrd hag
      refine (cCa s12 wx (hS.ro (St.before_ready hcl hrd 14 12 (by kernel_rfl)) rfl (hag 14 12 (by kernel_rfl)))).mono ?_
      rintro e w' ⟨s14, rfl, a, b⟩
      exact ⟨_, rfl, ⟨s14, rfl⟩, hS.got rfl b ⟨s14, rfl, a⟩⟩
    rintro y ⟨s14, rfl⟩
    simp only [Act.put, List.setIfInBounds_toArray, List.set_cons_zero, List.set_cons_succ]
    apply St.mix_give
    · rfl
    · intro L u' wx hS hcl hrd hag
      obtain ⟨_, ⟨z0, z1, z2⟩, y0⟩ := hbox wx hS.low
      go_simp
      try with_reducible rfl
    · exact fun L u' wx hS => hS.plain rfl _
    simp only [Act.put, List.setIfInBounds_toArray, List.set_cons_zero, List.set_cons_succ]
    apply St.mix_give
    · rfl
    · intro L u' wx hS hcl hrd hag
      go_simp
      try with_reducible rfl
    · exact fun L u' wx hS => hS.plain rfl _
    simp only [Act.put, List.setIfInBounds_toArray, List.set_cons_zero, List.set_cons_succ]
    refine St.mix_call (f := 29) (args := #[lv r (.slice A n c), .int .i64 i]) rfl ?_ ?_ ?_
    · intro wx
      go_simp
      try with_reducible rfl
    · intro L u' wx hS hcl hrd hag
      refine (cCr wx hS.low).mono ?_
      rintro e w' ⟨s17, rfl, a, b⟩
      exact ⟨_, rfl, ⟨s17, rfl⟩, hS.got rfl b ⟨s17, rfl, a⟩⟩
    rintro y ⟨s17, rfl⟩
    simp only [Act.put, List.setIfInBounds_toArray, List.set_cons_zero, List.set_cons_succ]
    refine St.mix_into (v := .bool true) (f := 18) (args := #[lv C s14, lv C s17]) rfl rfl ?_ ?_ ?_
    · intro wx
      go_simp
      try with_reducible rfl
    · intro L u' wx hS hcl hrd hag
      refine (cSC s14 s17 wx (hS.ro (St.before_ready hcl hrd 18 14 (by kernel_rfl)) rfl (hag 18 14 (by kernel_rfl))) (hS.ro (St.before_ready hcl hrd 18 17 (by kernel_rfl)) rfl (hag 18 17 (by kernel_rfl)))).mono ?_
      rintro e w' ⟨rfl, b⟩
      exact ⟨rfl, hS.into rfl b _⟩
    simp only [Act.put, List.setIfInBounds_toArray, List.set_cons_zero, List.set_cons_succ]
    apply St.mix_give
    · rfl
    · intro L u' wx hS hcl hrd hag
      go_simp
      try with_reducible rfl
    · exact fun L u' wx hS => hS.plain rfl _
    simp only [Act.put, List.setIfInBounds_toArray, List.set_cons_zero, List.set_cons_succ]
    apply St.mix_give
    · rfl
    · intro L u' wx hS hcl hrd hag
      go_simp
      try with_reducible rfl
    · exact fun L u' wx hS => hS.plain rfl _
    simp only [Act.put, List.setIfInBounds_toArray, List.set_cons_zero, List.set_cons_succ]
    apply St.mix_give
    · rfl
    · intro L u' wx hS hcl hrd hag
      go_simp
      try with_reducible rfl
    · exact fun L u' wx hS => hS.plain rfl _
    simp only [Act.put, List.setIfInBounds_toArray, List.set_cons_zero, List.set_cons_succ]
    apply St.mix_give
    · rfl
    · intro L u' wx hS hcl hrd hag
      go_simp
      try with_reducible rfl
    · exact fun L u' wx hS => hS.plain rfl _
    simp only [Act.put, List.setIfInBounds_toArray, List.set_cons_zero, List.set_cons_succ]
    apply St.mix_give
    · rfl
    · intro L u' wx hS hcl hrd hag
      obtain ⟨_, ⟨z0, z1, z2⟩, y0⟩ := hbox wx hS.low
      go_simp
      try with_reducible rfl
    · exact fun L u' wx hS => hS.plain rfl _
    simp only [Act.put, List.setIfInBounds_toArray, List.set_cons_zero, List.set_cons_succ]
    refine St.mix_call (f := 16) (args := #[lv r (.slice A n c)]) rfl ?_ ?_ ?_
    · intro wx
      go_simp
      try with_reducible rfl
    · intro L u' wx hS hcl hrd hag
      refine (cO wx hS.low).mono ?_
      rintro e w' ⟨s24, rfl, o, b⟩
      exact ⟨_, rfl, ⟨s24, rfl⟩, hS.got rfl b ⟨s24, rfl, ArgE.of_own o⟩⟩
    rintro y ⟨s24, rfl⟩
    simp only [Act.put, List.setIfInBounds_toArray, List.set_cons_zero, List.set_cons_succ]
    refine St.mix_into (v := .bool X) (f := 30) (args := #[.int .i64 t, .int .i64 i, lv r s24]) rfl rfl ?_ ?_ ?_
    · intro wx
      go_simp
      try with_reducible rfl
    · intro L u' wx hS hcl hrd hag
      refine (cNa s24 wx (hS.ro (St.before_ready hcl hrd 25 24 (by kernel_rfl)) rfl (hag 25 24 (by kernel_rfl)))).mono ?_
      rintro e w' ⟨rfl, b⟩
      exact ⟨rfl, hS.into rfl b _⟩
    simp only [Act.put, List.setIfInBounds_toArray, List.set_cons_zero, List.set_cons_succ]
    apply St.mix_give
    · rfl
    · intro L u' wx hS hcl hrd hag
      go_simp
      try with_reducible rfl
    · exact fun L u' wx hS => hS.plain rfl _
    simp only [Act.put, List.setIfInBounds_toArray, List.set_cons_zero, List.set_cons_succ]
    apply St.mix_give
    · rfl
    · intro L u' wx hS hcl hrd hag
      go_simp
      try with_reducible rfl
    · exact fun L u' wx hS => hS.plain rfl _
    simp only [Act.put, List.setIfInBounds_toArray, List.set_cons_zero, List.set_cons_succ]
    apply St.mix_give
    · rfl
    · intro L u' wx hS hcl hrd hag
      obtain ⟨_, ⟨z0, z1, z2⟩, y0⟩ := hbox wx hS.low
      go_simp
      try with_reducible rfl
    · exact fun L u' wx hS => hS.plain rfl _
    simp only [Act.put, List.setIfInBounds_toArray, List.set_cons_zero, List.set_cons_succ]
    refine St.mix_into (v := .bool X) (f := 31) (args := #[.int .i64 t, .int .i64 i, lv r (.slice A n c)]) rfl rfl ?_ ?_ ?_
    · intro wx
      go_simp
      try with_reducible rfl
    · intro L u' wx hS hcl hrd hag
      refine (cNr wx hS.low).mono ?_
      rintro e w' ⟨rfl, b⟩
      exact ⟨rfl, hS.into rfl b _⟩
    simp only [Act.put, List.setIfInBounds_toArray, List.set_cons_zero, List.set_cons_succ]
    apply St.mix_give
    · rfl
    · intro L u' wx hS hcl hrd hag
      go_simp
      try with_reducible rfl
    · exact fun L u' wx hS => hS.plain rfl _
    simp only [Act.put, List.setIfInBounds_toArray, List.set_cons_zero, List.set_cons_succ]
    apply St.mix_give
    · rfl
    · intro L u' wx hS hcl hrd hag
      go_simp
      try with_reducible rfl
    · exact fun L u' wx hS => hS.plain rfl _
    simp only [Act.put, List.setIfInBounds_toArray, List.set_cons_zero, List.set_cons_succ]
    apply St.mix_give
    · rfl
    · intro L u' wx hS hcl hrd hag
      go_simp
      try with_reducible rfl
    · exact fun L u' wx hS => hS.plain rfl _
    simp only [Act.put, List.setIfInBounds_toArray, List.set_cons_zero, List.set_cons_succ]
    refine St.mix_into (v := .bool true) (f := 9) (args := #[]) rfl rfl ?_ ?_ ?_
    · intro wx
      go_simp
      try with_reducible rfl
    · intro L u' wx hS hcl hrd hag
      refine (cL wx hS.low).mono ?_
      rintro e w' ⟨rfl, b⟩
      exact ⟨rfl, hS.into rfl b _⟩
    simp only [Act.put, List.setIfInBounds_toArray, List.set_cons_zero, List.set_cons_succ]
    apply St.mix_give
    · rfl
    · intro L u' wx hS hcl hrd hag
      go_simp
      try with_reducible rfl
    · exact fun L u' wx hS => hS.plain rfl _
    simp only [Act.put, List.setIfInBounds_toArray, List.set_cons_zero, List.set_cons_succ]
    apply St.mix_give
    · rfl
    · intro L u' wx hS hcl hrd hag
      go_simp
      try with_reducible rfl
    · exact fun L u' wx hS => hS.plain rfl _
    simp only [Act.put, List.setIfInBounds_toArray, List.set_cons_zero, List.set_cons_succ]
    refine St.mix_last ?_
    intro L w10 hS _
    have h10 := hS.low
    clear hS hbox
    go_wp2_with fail
    go_ret
    exact ⟨rfl, hb0.trans (h10.mono hb0.size)⟩
  | some tm =>
    simp only [termV] at cTa cTr
    have n5 : (tm != tm) = false := by simp
    go_wp2_with fail
    refine (cTa _ _ a5).mono ?_
    rintro e w7 ⟨rfl, b⟩
    have h7 := h6.trans (b.mono h6.size)
    clear b a5
    obtain ⟨_, ⟨z0, z1, z2⟩, y0⟩ := hbox _ h7
    go_wp2_with fail
    refine (cTr _ h7).mono ?_
    rintro e w8 ⟨rfl, b⟩
    have h8 := h7.trans (b.mono h7.size)
    clear b z0 z1 z2 y0
    clear cTa cTr
    go_wp2_with fail
    refine St.wp_region_mixed (RG W0 (fun k => match k with | 20 => some (.ro r) | 23 => some (.en S) | 27 => some (.en S) | _ => none)) (fun j x => match j with | 20 => ∃ s, x = lv r s | 23 => ∃ A c, x = .slice A m c | 27 => ∃ A c, x = .slice A m c | _ => x = .bool true) (by kernel_rfl) (by kernel_rfl) (by kernel_rfl) (RG.start h8) ?_
    apply St.mix_give
    · rfl
    · intro L u' wx hS hcl hrd hag
      go_simp
      try with_reducible rfl
    · exact fun L u' wx hS => hS.plain rfl _
    simp only [Act.put, List.setIfInBounds_toArray, List.set_cons_zero, List.set_cons_succ]
    apply St.mix_give
    · rfl
    · intro L u' wx hS hcl hrd hag
      go_simp
      try with_reducible rfl
    · exact fun L u' wx hS => hS.plain rfl _
    simp only [Act.put, List.setIfInBounds_toArray, List.set_cons_zero, List.set_cons_succ]
    apply St.mix_give
    · rfl
    · intro L u' wx hS hcl hrd hag
      go_simp
      try with_reducible rfl
    · exact fun L u' wx hS => hS.plain rfl _
    simp only [Act.put, List.setIfInBounds_toArray, List.set_cons_zero, List.set_cons_succ]
    apply St.mix_give
    · rfl
    · intro L u' wx hS hcl hrd hag
      go_simp
      try with_reducible rfl
    · exact fun L u' wx hS => hS.plain rfl _
    simp only [Act.put, List.setIfInBounds_toArray, List.set_cons_zero, List.set_cons_succ]
    apply St.mix_give
    · rfl
    · intro L u' wx hS hcl hrd hag
      go_simp
      try with_reducible rfl
    · exact fun L u' wx hS => hS.plain rfl _
    simp only [Act.put, List.setIfInBounds_toArray, List.set_cons_zero, List.set_cons_succ]
    apply St.mix_give
    · rfl
    · intro L u' wx hS hcl hrd hag
      go_simp
      try with_reducible rfl
    · exact fun L u' wx hS => hS.plain rfl _
    simp only [Act.put, List.setIfInBounds_toArray, List.set_cons_zero, List.set_cons_succ]
    apply St.mix_give
    · rfl
    · intro L u' wx hS hcl hrd hag
      go_simp
      try with_reducible rfl
    · exact fun L u' wx hS => hS.plain rfl _
    simp only [Act.put, List.setIfInBounds_toArray, List.set_cons_zero, List.set_cons_succ]
    apply St.mix_give
    · rfl
    · intro L u' wx hS hcl hrd hag
      go_simp
      try with_reducible rfl
    · exact fun L u' wx hS => hS.plain rfl _
    simp only [Act.put, List.setIfInBounds_toArray, List.set_cons_zero, List.set_cons_succ]
    apply St.mix_give
    · rfl
    · intro L u' wx hS hcl hrd hag
      go_simp
      try with_reducible rfl
    · exact fun L u' wx hS => hS.plain rfl _
    simp only [Act.put, List.setIfInBounds_toArray, List.set_cons_zero, List.set_cons_succ]
    apply St.mix_give
    · rfl
    · intro L u' wx hS hcl hrd hag
      go_simp
      try with_reducible rfl
    · exact fun L u' wx hS => hS.plain rfl _
    simp only [Act.put, List.setIfInBounds_toArray, List.set_cons_zero, List.set_cons_succ]
    apply St.mix_give
    · rfl
    · intro L u' wx hS hcl hrd hag
      go_simp
      try with_reducible rfl
    · exact fun L u' wx hS => hS.plain rfl _
    simp only [Act.put, List.setIfInBounds_toArray, List.set_cons_zero, List.set_cons_succ]
    apply St.mix_give
    · rfl
    · intro L u' wx hS hcl hrd hag
      go_simp
      try with_reducible rfl
    · exact fun L u' wx hS => hS.plain rfl _
    simp only [Act.put, List.setIfInBounds_toArray, List.set_cons_zero, List.set_cons_succ]
    apply St.mix_give
    · rfl
    · intro L u' wx hS hcl hrd hag
      go_simp
      try with_reducible rfl
    · exact fun L u' wx hS => hS.plain rfl _
    simp only [Act.put, List.setIfInBounds_toArray, List.set_cons_zero, List.set_cons_succ]
    apply St.mix_give
    · rfl
    · intro L u' wx hS hcl hrd hag
      go_simp
      try with_reducible rfl
    · exact fun L u' wx hS => hS.plain rfl _
    simp only [Act.put, List.setIfInBounds_toArray, List.set_cons_zero, List.set_cons_succ]
    apply St.mix_give
    · rfl
    · intro L u' wx hS hcl hrd hag
      go_simp
      try with_reducible rfl
    · exact fun L u' wx hS => hS.plain rfl _
    simp only [Act.put, List.setIfInBounds_toArray, List.set_cons_zero, List.set_cons_succ]
    apply St.mix_give
    · rfl
    · intro L u' wx hS hcl hrd hag
      go_simp
      try with_reducible rfl
    · exact fun L u' wx hS => hS.plain rfl _
    simp only [Act.put, List.setIfInBounds_toArray, List.set_cons_zero, List.set_cons_succ]
    apply St.mix_give
    · rfl
    · intro L u' wx hS hcl hrd hag
      go_simp
      try with_reducible rfl
    · exact fun L u' wx hS => hS.plain rfl _
    simp only [Act.put, List.setIfInBounds_toArray, List.set_cons_zero, List.set_cons_succ]
    apply St.mix_give
    · rfl
    · intro L u' wx hS hcl hrd hag
      go_simp
      try with_reducible rfl
    · exact fun L u' wx hS => hS.plain rfl _
    simp only [Act.put, List.setIfInBounds_toArray, List.set_cons_zero, List.set_cons_succ]
    apply St.mix_give
    · rfl
    · intro L u' wx hS hcl hrd hag
      go_simp
      try with_reducible rfl
    · exact fun L u' wx hS => hS.plain rfl _
    simp only [Act.put, List.setIfInBounds_toArray, List.set_cons_zero, List.set_cons_succ]
    apply St.mix_give
    · rfl
    · intro L u' wx hS hcl hrd hag
      obtain ⟨_, ⟨z0, z1, z2⟩, y0⟩ := hbox wx hS.low
      go_simp
      try with_reducible rfl
    · exact fun L u' wx hS => hS.plain rfl _
    simp only [Act.put, List.setIfInBounds_toArray, List.set_cons_zero, List.set_cons_succ]
    refine St.mix_call (f := 16) (args := #[lv r (.slice A n c)]) rfl ?_ ?_ ?_
    · intro wx
      go_simp
      try with_reducible rfl
    · intro L u' wx hS hcl hrd hag
      refine (cO wx hS.low).mono ?_
      rintro e w' ⟨s20, rfl, o, b⟩
      exact ⟨_, rfl, ⟨s20, rfl⟩, hS.got rfl b ⟨s20, rfl, ArgE.of_own o⟩⟩
    rintro y ⟨s20, rfl⟩
    simp only [Act.put, List.setIfInBounds_toArray, List.set_cons_zero, List.set_cons_succ]
    apply St.mix_give
    · rfl
    · intro L u' wx hS hcl hrd hag
      go_simp
      try with_reducible rfl
    · exact fun L u' wx hS => hS.plain rfl _
    simp only [Act.put, List.setIfInBounds_toArray, List.set_cons_zero, List.set_cons_succ]
    apply St.mix_give
    · rfl
    · intro L u' wx hS hcl hrd hag
      go_simp
      try with_reducible rfl
    · exact fun L u' wx hS => hS.plain rfl _
    simp only [Act.put, List.setIfInBounds_toArray, List.set_cons_zero, List.set_cons_succ]
    refine St.mix_call (f := 24) (args := #[lv r s20, .int .i64 fr, .int .i64 lim]) rfl ?_ ?_ ?_
    · intro wx
      go_simp
      try with_reducible rfl
    · intro L u' wx hS hcl hrd hag
      refine (cXa s20 wx (hS.ro (St.before_ready hcl hrd 23 20 (by kernel_rfl)) rfl (hag 23 20 (by kernel_rfl)))).mono ?_
      rintro e w' ⟨v3, rfl, o, b⟩
      exact ⟨_, rfl, (by obtain ⟨A4, c4, e4⟩ := (ArgE.of_own o).form; rw [HM.out] at e4; exact ⟨A4, c4, e4⟩), hS.got rfl b (ArgE.of_own o)⟩
    rintro y ⟨A4, c4, rfl⟩
    simp only [Act.put, List.setIfInBounds_toArray, List.set_cons_zero, List.set_cons_succ]
    apply St.mix_give
    · rfl
    · intro L u' wx hS hcl hrd hag
      obtain ⟨_, ⟨z0, z1, z2⟩, y0⟩ := hbox wx hS.low
      go_simp
      try with_reducible rfl
    · exact fun L u' wx hS => hS.plain rfl _
    simp only [Act.put, List.setIfInBounds_toArray, List.set_cons_zero, List.set_cons_succ]
    apply St.mix_give
    · rfl
    · intro L u' wx hS hcl hrd hag
      go_simp
      try with_reducible rfl
    · exact fun L u' wx hS => hS.plain rfl _
    simp only [Act.put, List.setIfInBounds_toArray, List.set_cons_zero, List.set_cons_succ]
    apply St.mix_give
    · rfl
    · intro L u' wx hS hcl hrd hag
      go_simp
      try with_reducible rfl
    · exact fun L u' wx hS => hS.plain rfl _
    simp only [Act.put, List.setIfInBounds_toArray, List.set_cons_zero, List.set_cons_succ]
    refine St.mix_call (f := 25) (args := #[lv r (.slice A n c), .int .i64 fr, .int .i64 lim]) rfl ?_ ?_ ?_
    · intro wx
      go_simp
      try with_reducible rfl
    · intro L u' wx hS hcl hrd hag
      refine (cXr wx hS.low).mono ?_
      rintro e w' ⟨v3, rfl, o, b⟩
      exact ⟨_, rfl, (by obtain ⟨A4, c4, e4⟩ := (ArgE.of_own o).form; rw [HM.out] at e4; exact ⟨A4, c4, e4⟩), hS.got rfl b (ArgE.of_own o)⟩
    rintro y ⟨A5, c5, rfl⟩
    simp only [Act.put, List.setIfInBounds_toArray, List.set_cons_zero, List.set_cons_succ]
    refine St.mix_into (v := .bool true) (f := 23) (args := #[.slice A4 m c4, .slice A5 m c5]) rfl rfl ?_ ?_ ?_
    · intro wx
      go_simp
      try with_reducible rfl
    · intro L u' wx hS hcl hrd hag
      refine (cEn _ _ wx (hS.en (St.before_ready hcl hrd 28 23 (by kernel_rfl)) rfl (hag 28 23 (by kernel_rfl))) (hS.en (St.before_ready hcl hrd 28 27 (by kernel_rfl)) rfl (hag 28 27 (by kernel_rfl)))).mono ?_
      rintro e w' ⟨rfl, b⟩
      exact ⟨rfl, hS.into rfl b _⟩
    simp only [Act.put, List.setIfInBounds_toArray, List.set_cons_zero, List.set_cons_succ]
    apply St.mix_give
    · rfl
    · intro L u' wx hS hcl hrd hag
      go_simp
      try with_reducible rfl
    · exact fun L u' wx hS => hS.plain rfl _
    simp only [Act.put, List.setIfInBounds_toArray, List.set_cons_zero, List.set_cons_succ]
    apply St.mix_give
    · rfl
    · intro L u' wx hS hcl hrd hag
      go_simp
      try with_reducible rfl
    · exact fun L u' wx hS => hS.plain rfl _
    simp only [Act.put, List.setIfInBounds_toArray, List.set_cons_zero, List.set_cons_succ]
    refine St.mix_last ?_
    intro L w9 hS _
    have h9 := hS.low
    clear hS cEn cXa cXr
    go_wp2_with fail
    refine St.wp_region_mixed (RG W0 (fun k => match k with | 1 => some (.ro r) | 4 => some (.en l) | 5 => some (.ro P) | 8 => some (.ro P) | 12 => some (.ro r) | 14 => some (.ro C) | 17 => some (.ro C) | 24 => some (.ro r) | _ => none)) (fun j x => match j with | 1 => ∃ s, x = lv r s | 5 => ∃ s, x = lv P s | 8 => ∃ s, x = lv P s | 12 => ∃ s, x = lv r s | 14 => ∃ s, x = lv C s | 17 => ∃ s, x = lv C s | 24 => ∃ s, x = lv r s | 25 => x = .bool X | 29 => x = .bool X | _ => x = .bool true) (by kernel_rfl) (by kernel_rfl) (by kernel_rfl) (RG.start h9) ?_
    apply St.mix_give
    · rfl
    · intro L u' wx hS hcl hrd hag
      obtain ⟨_, ⟨z0, z1, z2⟩, y0⟩ := hbox wx hS.low
      go_simp
      try with_reducible rfl
    · exact fun L u' wx hS => hS.plain rfl _
    simp only [Act.put, List.setIfInBounds_toArray, List.set_cons_zero, List.set_cons_succ]
    refine St.mix_call (f := 16) (args := #[lv r (.slice A n c)]) rfl ?_ ?_ ?_
    · intro wx
      go_simp
      try with_reducible rfl
    · intro L u' wx hS hcl hrd hag
      refine (cO wx hS.low).mono ?_
      rintro e w' ⟨s1, rfl, o, b⟩
      exact ⟨_, rfl, ⟨s1, rfl⟩, hS.got rfl b ⟨s1, rfl, ArgE.of_own o⟩⟩
    rintro y ⟨s1, rfl⟩
    simp only [Act.put, List.setIfInBounds_toArray, List.set_cons_zero, List.set_cons_succ]
    refine St.mix_free (fun z => ∃ b, z = .slice (some ⟨b, 0, none⟩) 0 0) rfl ?_ ?_
    · intro L u' wx hS hcl hrd hag
      refine ⟨.slice (some ⟨wx.heap.size, 0, none⟩) 0 0, wx.alloc (.cells #[] 54), ⟨_, rfl⟩, ?_, hS.into rfl ((Below.refl _ wx).alloc (Nat.le_refl _) _) _⟩
      go_simp
      try with_reducible rfl
    rintro y3 ⟨b3, rfl⟩
    simp only [Act.put, List.setIfInBounds_toArray, List.set_cons_zero, List.set_cons_succ]
    apply St.mix_give
    · rfl
    · intro L u' wx hS hcl hrd hag
      go_simp
      try with_reducible rfl
    · exact fun L u' wx hS => hS.plain rfl _
    simp only [Act.put, List.setIfInBounds_toArray, List.set_cons_zero, List.set_cons_succ]
    refine St.mix_free (fun z => ∃ A c, z = .slice A q c) rfl ?_ ?_
    · intro L u' wx hS hcl hrd hag
      obtain ⟨v', w', k1, k2, k3⟩ := run_append_zero ⟨b3, 0, none⟩ (KV wx hS.low) (by have := HL1.out; omega) 22
      obtain ⟨A', c', e'⟩ := k2.form_n HQ.out
      exact ⟨v', w', ⟨A', c', e'⟩, run_append2 rfl rfl rfl k1, hS.got rfl k3 k2⟩
    rintro y5 ⟨A5, c5, rfl⟩
    simp only [Act.put, List.setIfInBounds_toArray, List.set_cons_zero, List.set_cons_succ]
    refine St.mix_call (f := 26) (args := #[lv r s1, .slice A5 q c5]) rfl ?_ ?_ ?_
    · intro wx
      go_simp
      try with_reducible rfl
    · intro L u' wx hS hcl hrd hag
      refine (cPa s1 _ wx (hS.ro (St.before_ready hcl hrd 5 1 (by kernel_rfl)) rfl (hag 5 1 (by kernel_rfl))) (hS.en (St.before_ready hcl hrd 5 4 (by kernel_rfl)) rfl (hag 5 4 (by kernel_rfl)))).mono ?_
      rintro e w' ⟨s5, rfl, a, b⟩
      exact ⟨_, rfl, ⟨s5, rfl⟩, hS.got rfl b ⟨s5, rfl, a⟩⟩
    rintro y ⟨s5, rfl⟩
    simp only [Act.put, List.setIfInBounds_toArray, List.set_cons_zero, List.set_cons_succ]
    apply St.mix_give
    · rfl
    · intro L u' wx hS hcl hrd hag
      obtain ⟨_, ⟨z0, z1, z2⟩, y0⟩ := hbox wx hS.low
      go_simp
      try with_reducible rfl
    · exact fun L u' wx hS => hS.plain rfl _
    simp only [Act.put, List.setIfInBounds_toArray, List.set_cons_zero, List.set_cons_succ]
    apply St.mix_give
    · rfl
    · intro L u' wx hS hcl hrd hag
      go_simp
      try with_reducible rfl
    · exact fun L u' wx hS => hS.plain rfl _
    simp only [Act.put, List.setIfInBounds_toArray, List.set_cons_zero, List.set_cons_succ]
    refine St.mix_call (f := 27) (args := #[lv r (.slice A n c), .slice D q d]) rfl ?_ ?_ ?_
    · intro wx
      go_simp
      try with_reducible rfl
    · intro L u' wx hS hcl hrd hag
      refine (cPr wx hS.low).mono ?_
      rintro e w' ⟨s8, rfl, o, b⟩
      exact ⟨_, rfl, ⟨s8, rfl⟩, hS.got rfl b ⟨s8, rfl, ArgE.of_own o⟩⟩
    rintro y ⟨s8, rfl⟩
    simp only [Act.put, List.setIfInBounds_toArray, List.set_cons_zero, List.set_cons_succ]
    refine St.mix_into (v := .bool true) (f := 18) (args := #[lv P s5, lv P s8]) rfl rfl ?_ ?_ ?_
    · intro wx
      go_simp
      try with_reducible rfl
    · intro L u' wx hS hcl hrd hag
      refine (cSP s5 s8 wx (hS.ro (St.before_ready hcl hrd 9 5 (by kernel_rfl)) rfl (hag 9 5 (by kernel_rfl))) (hS.ro (St.before_ready hcl hrd 9 8 (by kernel_rfl)) rfl (hag 9 8 (by kernel_rfl)))).mono ?_
      rintro e w' ⟨rfl, b⟩
      exact ⟨rfl, hS.into rfl b _⟩
    simp only [Act.put, List.setIfInBounds_toArray, List.set_cons_zero, List.set_cons_succ]
    apply St.mix_give
    · rfl
    · intro L u' wx hS hcl hrd hag
      go_simp
      try with_reducible rfl
    · exact fun L u' wx hS => hS.plain rfl _
    simp only [Act.put, List.setIfInBounds_toArray, List.set_cons_zero, List.set_cons_succ]
    apply St.mix_give
    · rfl
    · intro L u' wx hS hcl hrd hag
      obtain ⟨_, ⟨z0, z1, z2⟩, y0⟩ := hbox wx hS.low
      go_simp
      try with_reducible rfl
    · exact fun L u' wx hS => hS.plain rfl _
    simp only [Act.put, List.setIfInBounds_toArray, List.set_cons_zero, List.set_cons_succ]
    refine St.mix_call (f := 16) (args := #[lv r (.slice A n c)]) rfl ?_ ?_ ?_
    · intro wx
      go_simp
      try with_reducible rfl
    · intro L u' wx hS hcl hrd hag
      refine (cO wx hS.low).mono ?_
      rintro e w' ⟨s12, rfl, o, b⟩
      exact ⟨_, rfl, ⟨s12, rfl⟩, hS.got rfl b ⟨s12, rfl, ArgE.of_own o⟩⟩
    rintro y ⟨s12, rfl⟩
    simp only [Act.put, List.setIfInBounds_toArray, List.set_cons_zero, List.set_cons_succ]
    apply St.mix_give
    · rfl
    · intro L u' wx hS hcl hrd hag
      go_simp
      try with_reducible rfl
    · exact fun L u' wx hS => hS.plain rfl _
    simp only [Act.put, List.setIfInBounds_toArray, List.set_cons_zero, List.set_cons_succ]
    refine St.mix_call (f := 28) (args := #[lv r s12, .int .i64 i]) rfl ?_ ?_ ?_
    · intro wx
      go_simp
      try with_reducible rfl
    · intro L u' wx hS hcl hrd hag
      refine (cCa s12 wx (hS.ro (St.before_ready hcl hrd 14 12 (by kernel_rfl)) rfl (hag 14 12 (by kernel_rfl)))).mono ?_
      rintro e w' ⟨s14, rfl, a, b⟩
      exact ⟨_, rfl, ⟨s14, rfl⟩, hS.got rfl b ⟨s14, rfl, a⟩⟩
    rintro y ⟨s14, rfl⟩
    simp only [Act.put, List.setIfInBounds_toArray, List.set_cons_zero, List.set_cons_succ]
    apply St.mix_give
    · rfl
    · intro L u' wx hS hcl hrd hag
      obtain ⟨_, ⟨z0, z1, z2⟩, y0⟩ := hbox wx hS.low
      go_simp
      try with_reducible rfl
    · exact fun L u' wx hS => hS.plain rfl _
    simp only [Act.put, List.setIfInBounds_toArray, List.set_cons_zero, List.set_cons_succ]
    apply St.mix_give
    · rfl
    · intro L u' wx hS hcl hrd hag
      go_simp
      try with_reducible rfl
    · exact fun L u' wx hS => hS.plain rfl _
    simp only [Act.put, List.setIfInBounds_toArray, List.set_cons_zero, List.set_cons_succ]
    refine St.mix_call (f := 29) (args := #[lv r (.slice A n c), .int .i64 i]) rfl ?_ ?_ ?_
    · intro wx
      go_simp
      try with_reducible rfl
    · intro L u' wx hS hcl hrd hag
      refine (cCr wx hS.low).mono ?_
      rintro e w' ⟨s17, rfl, a, b⟩
      exact ⟨_, rfl, ⟨s17, rfl⟩, hS.got rfl b ⟨s17, rfl, a⟩⟩
    rintro y ⟨s17, rfl⟩
    simp only [Act.put, List.setIfInBounds_toArray, List.set_cons_zero, List.set_cons_succ]
    refine St.mix_into (v := .bool true) (f := 18) (args := #[lv C s14, lv C s17]) rfl rfl ?_ ?_ ?_
    · intro wx
      go_simp
      try with_reducible rfl
    · intro L u' wx hS hcl hrd hag
      refine (cSC s14 s17 wx (hS.ro (St.before_ready hcl hrd 18 14 (by kernel_rfl)) rfl (hag 18 14 (by kernel_rfl))) (hS.ro (St.before_ready hcl hrd 18 17 (by kernel_rfl)) rfl (hag 18 17 (by kernel_rfl)))).mono ?_
      rintro e w' ⟨rfl, b⟩
      exact ⟨rfl, hS.into rfl b _⟩
    simp only [Act.put, List.setIfInBounds_toArray, List.set_cons_zero, List.set_cons_succ]
    apply St.mix_give
    · rfl
    · intro L u' wx hS hcl hrd hag
      go_simp
      try with_reducible rfl
    · exact fun L u' wx hS => hS.plain rfl _
    simp only [Act.put, List.setIfInBounds_toArray, List.set_cons_zero, List.set_cons_succ]
    apply St.mix_give
    · rfl
    · intro L u' wx hS hcl hrd hag
      go_simp
      try with_reducible rfl
    · exact fun L u' wx hS => hS.plain rfl _
    simp only [Act.put, List.setIfInBounds_toArray, List.set_cons_zero, List.set_cons_succ]
    apply St.mix_give
    · rfl
    · intro L u' wx hS hcl hrd hag
      go_simp
      try with_reducible rfl
    · exact fun L u' wx hS => hS.plain rfl _
    simp only [Act.put, List.setIfInBounds_toArray, List.set_cons_zero, List.set_cons_succ]
    apply St.mix_give
    · rfl
    · intro L u' wx hS hcl hrd hag
      go_simp
      try with_reducible rfl
    · exact fun L u' wx hS => hS.plain rfl _
    simp only [Act.put, List.setIfInBounds_toArray, List.set_cons_zero, List.set_cons_succ]
    apply St.mix_give
    · rfl
    · intro L u' wx hS hcl hrd hag
      obtain ⟨_, ⟨z0, z1, z2⟩, y0⟩ := hbox wx hS.low
      go_simp
      try with_reducible rfl
    · exact fun L u' wx hS => hS.plain rfl _
    simp only [Act.put, List.setIfInBounds_toArray, List.set_cons_zero, List.set_cons_succ]
    refine St.mix_call (f := 16) (args := #[lv r (.slice A n c)]) rfl ?_ ?_ ?_
    · intro wx
      go_simp
      try with_reducible rfl
    · intro L u' wx hS hcl hrd hag
      refine (cO wx hS.low).mono ?_
      rintro e w' ⟨s24, rfl, o, b⟩
      exact ⟨_, rfl, ⟨s24, rfl⟩, hS.got rfl b ⟨s24, rfl, ArgE.of_own o⟩⟩
    rintro y ⟨s24, rfl⟩
    simp only [Act.put, List.setIfInBounds_toArray, List.set_cons_zero, List.set_cons_succ]
    refine St.mix_into (v := .bool X) (f := 30) (args := #[.int .i64 t, .int .i64 i, lv r s24]) rfl rfl ?_ ?_ ?_
    · intro wx
      go_simp
      try with_reducible rfl
    · intro L u' wx hS hcl hrd hag
      refine (cNa s24 wx (hS.ro (St.before_ready hcl hrd 25 24 (by kernel_rfl)) rfl (hag 25 24 (by kernel_rfl)))).mono ?_
      rintro e w' ⟨rfl, b⟩
      exact ⟨rfl, hS.into rfl b _⟩
    simp only [Act.put, List.setIfInBounds_toArray, List.set_cons_zero, List.set_cons_succ]
    apply St.mix_give
    · rfl
    · intro L u' wx hS hcl hrd hag
      go_simp
      try with_reducible rfl
    · exact fun L u' wx hS => hS.plain rfl _
    simp only [Act.put, List.setIfInBounds_toArray, List.set_cons_zero, List.set_cons_succ]
    apply St.mix_give
    · rfl
    · intro L u' wx hS hcl hrd hag
      go_simp
      try with_reducible rfl
    · exact fun L u' wx hS => hS.plain rfl _
    simp only [Act.put, List.setIfInBounds_toArray, List.set_cons_zero, List.set_cons_succ]
    apply St.mix_give
    · rfl
    · intro L u' wx hS hcl hrd hag
      obtain ⟨_, ⟨z0, z1, z2⟩, y0⟩ := hbox wx hS.low
      go_simp
      try with_reducible rfl
    · exact fun L u' wx hS => hS.plain rfl _
    simp only [Act.put, List.setIfInBounds_toArray, List.set_cons_zero, List.set_cons_succ]
    refine St.mix_into (v := .bool X) (f := 31) (args := #[.int .i64 t, .int .i64 i, lv r (.slice A n c)]) rfl rfl ?_ ?_ ?_
    · intro wx
      go_simp
      try with_reducible rfl
    · intro L u' wx hS hcl hrd hag
      refine (cNr wx hS.low).mono ?_
      rintro e w' ⟨rfl, b⟩
      exact ⟨rfl, hS.into rfl b _⟩
    simp only [Act.put, List.setIfInBounds_toArray, List.set_cons_zero, List.set_cons_succ]
    apply St.mix_give
    · rfl
    · intro L u' wx hS hcl hrd hag
      go_simp
      try with_reducible rfl
    · exact fun L u' wx hS => hS.plain rfl _
    simp only [Act.put, List.setIfInBounds_toArray, List.set_cons_zero, List.set_cons_succ]
    apply St.mix_give
    · rfl
    · intro L u' wx hS hcl hrd hag
      go_simp
      try with_reducible rfl
    · exact fun L u' wx hS => hS.plain rfl _
    simp only [Act.put, List.setIfInBounds_toArray, List.set_cons_zero, List.set_cons_succ]
    apply St.mix_give
    · rfl
    · intro L u' wx hS hcl hrd hag
      go_simp
      try with_reducible rfl
    · exact fun L u' wx hS => hS.plain rfl _
    simp only [Act.put, List.setIfInBounds_toArray, List.set_cons_zero, List.set_cons_succ]
    refine St.mix_into (v := .bool true) (f := 9) (args := #[]) rfl rfl ?_ ?_ ?_
    · intro wx
      go_simp
      try with_reducible rfl
    · intro L u' wx hS hcl hrd hag
      refine (cL wx hS.low).mono ?_
      rintro e w' ⟨rfl, b⟩
      exact ⟨rfl, hS.into rfl b _⟩
    simp only [Act.put, List.setIfInBounds_toArray, List.set_cons_zero, List.set_cons_succ]
    apply St.mix_give
    · rfl
    · intro L u' wx hS hcl hrd hag
      go_simp
      try with_reducible rfl
    · exact fun L u' wx hS => hS.plain rfl _
    simp only [Act.put, List.setIfInBounds_toArray, List.set_cons_zero, List.set_cons_succ]
    apply St.mix_give
    · rfl
    · intro L u' wx hS hcl hrd hag
      go_simp
      try with_reducible rfl
    · exact fun L u' wx hS => hS.plain rfl _
    simp only [Act.put, List.setIfInBounds_toArray, List.set_cons_zero, List.set_cons_succ]
    refine St.mix_last ?_
    intro L w10 hS _
    have h10 := hS.low
    clear hS hbox
    go_wp2_with fail
    go_ret
    exact ⟨rfl, hb0.trans (h10.mono hb0.size)⟩
end Go.Proofs.YtimodohcihnoiaaDoor.Ro
