/-
  OrderReplies, walked: it answers true. Conditions: lengths at most 2^47; numbers such as a program can hold; the library's variables hold what their types allow.
-/
import Derived.Test.YthglghlkchhjlaaGreatDoorOdLight
import Derived.Test.YthglghlkchhjlaaGreatDoorOdRParseR
namespace Go.Proofs.YthglghlkchhjlaaGreatDoor.Od
open Go.RowKit Bnd

theorem parseR_ps (s : Text) : (parseR s).1.ps.length ≤ 100 := by
  rcases parseR_cases s with ⟨o, h, _, e⟩ | e
  · rw [e]
    have := h
    rw [isR_head] at this
    simp only [Bool.and_eq_true, decide_eq_true_eq] at this
    exact this.1.2.2.2.2
  · rw [e]; show (0 : Nat) ≤ 100; omega
set_option maxHeartbeats 16000000 in
set_option maxRecDepth 100000 in
theorem walk_replies (r o : Rep) (sr so : Value) (s : ByteArray) (w : World) (hr : SP w w.heap.size sr r.ps) (ho : SP w w.heap.size so o.ps) (lr : LimR r) (lo : LimR o) (hs : s.size ≤ 140737488355328) (hg : Good w) :
    Calls Tryz.prog 5 #[rv r sr, rv o so, .string s] w fun e w' => e = .returned (.bool true) ∧ Below w.heap.size w w' := by
  obtain ⟨A, ka, rfl⟩ := hr.form
  obtain ⟨D, kb, rfl⟩ := ho.form
  have kpr : ∀ wx, Below w.heap.size w wx → SP wx wx.heap.size (.slice A r.ps.length ka) r.ps := fun wx h => (hr.below h).more h.size
  have kpo : ∀ wx, Below w.heap.size w wx → SP wx wx.heap.size (.slice D o.ps.length kb) o.ps := fun wx h => (ho.below h).more h.size
  have ca := fun w hs => light_any r (.slice A r.ps.length ka) w hs lr
  have cb := fun w hs => light_any o (.slice D o.ps.length kb) w hs lo
  obtain ⟨W0, hW0⟩ : ∃ W0, (w.alloc (.cells #[.int .i64 r.code, .int .i64 r.err, .bool r.has, .string r.val, .slice A r.ps.length ka] 37)).alloc (.cells #[.int .i64 o.code, .int .i64 o.err, .bool o.has, .string o.val, .slice D o.ps.length kb] 37) = W0 := ⟨_, rfl⟩
  have A0 : BoxR w.heap.size r (.slice A r.ps.length ka) W0 := hW0 ▸ (BoxR.new w r (.slice A r.ps.length ka)).alloc _
  have B0 : BoxR (w.heap.size + 1) o (.slice D o.ps.length kb) W0 := by
    have := BoxR.new (w.alloc (.cells #[.int .i64 r.code, .int .i64 r.err, .bool r.has, .string r.val, .slice A r.ps.length ka] 37)) o (.slice D o.ps.length kb)
    rw [hW0, World.size_alloc] at this
    exact this
  have hb0 : Below w.heap.size w W0 := by rw [← hW0]; exact ((Below.refl _ w).alloc (Nat.le_refl _) _).alloc (by simp) _
  have hz0 := hb0.size
  clear hr ho
  cases hsa : lightR r with
  | false =>
    rw [hsa] at ca
    clear hsa cb
    obtain ⟨p_0, ⟨p_1, p_2, p_3, p_4, p_5⟩, p_6⟩ := _root_.id A0
    obtain ⟨q_0, ⟨q_1, q_2, q_3, q_4, q_5⟩, q_6⟩ := _root_.id B0
    go_enter Tryz.func5, Tryz.ntmps5
    go_wp2_with fail
    refine (ca _ (kpr _ hb0)).mono ?_
    rintro e w1 ⟨rfl, b1⟩
    have hb1 := hb0.trans (b1.mono hz0)
    clear hW0 b1
    go_wp2_with fail
    refine (live_any _ (hg.below hb1)).mono ?_
    rintro e w9 ⟨rfl, b9⟩
    go_wp2_with fail
    go_ret
    exact ⟨rfl, (hb1).trans (b9.mono (hb1).size)⟩
  | true =>
    have fr := lr.fit hsa
    rw [hsa] at ca
    clear hsa
    cases hsb : lightR o with
    | false =>
      rw [hsb] at cb
      clear hsb fr
      obtain ⟨p_0, ⟨p_1, p_2, p_3, p_4, p_5⟩, p_6⟩ := _root_.id A0
      obtain ⟨q_0, ⟨q_1, q_2, q_3, q_4, q_5⟩, q_6⟩ := _root_.id B0
      go_enter Tryz.func5, Tryz.ntmps5
      go_wp2_with fail
      refine (ca _ (kpr _ hb0)).mono ?_
      rintro e w1 ⟨rfl, b1⟩
      have hb1 := hb0.trans (b1.mono hz0)
      have hz1 := hb1.size
      have B1 := B0.keep b1
      clear hW0 b1
      clear p_0 p_1 p_2 p_3 p_4 p_5 p_6
      clear q_0 q_1 q_2 q_3 q_4 q_5 q_6
      obtain ⟨q_0, ⟨q_1, q_2, q_3, q_4, q_5⟩, q_6⟩ := _root_.id B1
      go_wp2_with fail
      refine (cb _ (kpo _ hb1)).mono ?_
      rintro e w2 ⟨rfl, b2⟩
      have hb2 := hb1.trans (b2.mono hz1)
      clear b2
      go_wp2_with fail
      refine (live_any _ (hg.below hb2)).mono ?_
      rintro e w9 ⟨rfl, b9⟩
      go_wp2_with fail
      go_ret
      exact ⟨rfl, (hb2).trans (b9.mono (hb2).size)⟩
    | true =>
      have fo := lo.fit hsb
      rw [hsb] at cb
      clear hsb
      by_cases hlong : 20000 < s.size
      · have e1 : ((s.size : Int) > 20000) = True := eq_true (by omega)
        clear hlong fr fo
        obtain ⟨p_0, ⟨p_1, p_2, p_3, p_4, p_5⟩, p_6⟩ := _root_.id A0
        obtain ⟨q_0, ⟨q_1, q_2, q_3, q_4, q_5⟩, q_6⟩ := _root_.id B0
        go_enter Tryz.func5, Tryz.ntmps5
        go_wp2_with fail
        refine (ca _ (kpr _ hb0)).mono ?_
        rintro e w1 ⟨rfl, b1⟩
        have hb1 := hb0.trans (b1.mono hz0)
        have hz1 := hb1.size
        have B1 := B0.keep b1
        clear hW0 b1
        clear p_0 p_1 p_2 p_3 p_4 p_5 p_6
        clear q_0 q_1 q_2 q_3 q_4 q_5 q_6
        obtain ⟨q_0, ⟨q_1, q_2, q_3, q_4, q_5⟩, q_6⟩ := _root_.id B1
        go_wp2_with fail
        refine (cb _ (kpo _ hb1)).mono ?_
        rintro e w2 ⟨rfl, b2⟩
        have hb2 := hb1.trans (b2.mono hz1)
        clear b2
        go_wp2_with fail
        refine (live_any _ (hg.below hb2)).mono ?_
        rintro e w9 ⟨rfl, b9⟩
        go_wp2_with fail
        go_ret
        exact ⟨rfl, (hb2).trans (b9.mono (hb2).size)⟩
      have e1 : ((s.size : Int) > 20000) = False := eq_false (by omega)
      clear hlong
      have hxl := parseR_ps s.data.toList
      obtain ⟨⟨x, n⟩, hq⟩ : ∃ q, parseR s.data.toList = q := ⟨_, rfl⟩
      rw [hq] at hxl
      simp only at hxl
      have cp : ∀ w, Good w → Calls Tryz.prog 17 #[.string s] w fun e w' => GaveR w (x, n) e w' := by
        intro w hg
        have := parseR_any s w hs hg
        rw [hq] at this
        exact this
      have cr : ∀ w, Calls Tryz.prog 18 #[.string s] w fun e w' => GaveR w (x, n) e w' := by
        intro w
        have := rparseR_any s w hs
        rw [hq] at this
        exact this
      obtain ⟨Pt, hP⟩ : ∃ P : ByteArray, (⟨(putR r).toArray⟩ : ByteArray) = P := ⟨_, rfl⟩
      obtain ⟨I, hI⟩ : ∃ I, isR r = I := ⟨_, rfl⟩
      obtain ⟨K, hK⟩ : ∃ K, chkR r = K := ⟨_, rfl⟩
      have hKI : (I = true ∧ K = 0) ∨ (I = false ∧ K = 70) := by
        rw [← hK, ← hI]
        unfold chkR
        cases isR r <;> simp
      obtain ⟨S, hS0⟩ : ∃ S, sameR r o = S := ⟨_, rfl⟩
      clear hq
      obtain ⟨p_0, ⟨p_1, p_2, p_3, p_4, p_5⟩, p_6⟩ := _root_.id A0
      obtain ⟨q_0, ⟨q_1, q_2, q_3, q_4, q_5⟩, q_6⟩ := _root_.id B0
      go_enter Tryz.func5, Tryz.ntmps5
      go_wp2_with fail
      refine (ca _ (kpr _ hb0)).mono ?_
      rintro e w1 ⟨rfl, b1⟩
      have A1 := A0.keep b1
      have B1 := B0.keep b1
      have hb1 := hb0.trans (b1.mono hz0)
      have hz1 := hb1.size
      clear hW0 b1 ca
      clear p_0 p_1 p_2 p_3 p_4 p_5 p_6
      clear q_0 q_1 q_2 q_3 q_4 q_5 q_6
      obtain ⟨q_0, ⟨q_1, q_2, q_3, q_4, q_5⟩, q_6⟩ := _root_.id B1
      go_wp2_with fail
      refine (cb _ (kpo _ hb1)).mono ?_
      rintro e w2 ⟨rfl, b2⟩
      have A2 := A1.keep b2
      have B2 := B1.keep b2
      have hb2 := hb1.trans (b2.mono hz1)
      have hz2 := hb2.size
      have hg2 := hg.below hb2
      clear q_0 q_1 q_2 q_3 q_4 q_5 q_6
      clear b2 cb
      go_wp2_with fail
      refine (cp _ hg2).mono ?_
      rintro e w3 ⟨s1, rfl, sp1, b3⟩
      obtain ⟨A1', k1', rfl⟩ := sp1.form
      have A3 := A2.keep b3
      have B3 := B2.keep b3
      have hb3 := hb2.trans (b3.mono hz2)
      have hz3 := hb3.size
      clear b3 A1 B1 A2 B2
      simp only at sp1
      go_wp2_with fail
      refine (cr _).mono ?_
      rintro e w4 ⟨s2, rfl, sp2, b4⟩
      obtain ⟨A2', k2', rfl⟩ := sp2.form
      simp only at sp2
      have A4 := (A3.alloc (.cells #[.int .i64 x.code, .int .i64 x.err, .bool x.has, .string x.val, (.slice A1' x.ps.length k1')] 37)).keep b4
      have B4 := (B3.alloc (.cells #[.int .i64 x.code, .int .i64 x.err, .bool x.has, .string x.val, (.slice A1' x.ps.length k1')] 37)).keep b4
      have X4 := (BoxR.new w3 x (.slice A1' x.ps.length k1')).keep b4
      have sp1' : SP w4 w4.heap.size (.slice A1' x.ps.length k1') x.ps := by
        have hh := (Below.refl w3.heap.size w3).alloc (Nat.le_refl _) (.cells #[.int .i64 x.code, .int .i64 x.err, .bool x.has, .string x.val, (.slice A1' x.ps.length k1')] 37)
        have hh2 := hh.trans (b4.mono hh.size)
        exact (sp1.below hh2).more hh2.size
      have hb4 : Below w.heap.size w w4 := (hb3.alloc hz3 _).trans (b4.mono (by simp; omega))
      have hz4 := hb4.size
      obtain ⟨W5, hW5⟩ : ∃ W5, w4.alloc (.cells #[.int .i64 x.code, .int .i64 x.err, .bool x.has, .string x.val, (.slice A2' x.ps.length k2')] 37) = W5 := ⟨_, rfl⟩
      have A5 : BoxR w.heap.size r (.slice A r.ps.length ka) W5 := hW5 ▸ A4.alloc _
      have B5 : BoxR (w.heap.size + 1) o (.slice D o.ps.length kb) W5 := hW5 ▸ B4.alloc _
      have X5 : BoxR w3.heap.size x (.slice A1' x.ps.length k1') W5 := hW5 ▸ X4.alloc _
      have Y5 : BoxR w4.heap.size x (.slice A2' x.ps.length k2') W5 := hW5 ▸ BoxR.new w4 x (.slice A2' x.ps.length k2')
      have hb5 : Below w.heap.size w W5 := hW5 ▸ hb4.alloc hz4 _
      have h45 : Below w4.heap.size w4 W5 := hW5 ▸ (Below.refl _ w4).alloc (Nat.le_refl _) _
      have hg5 := hg.below hb5
      clear b4 A3 B3 A4 B4 X4 sp1
      have hbox : ∀ wx, Below W5.heap.size W5 wx → BoxR w.heap.size r (.slice A r.ps.length ka) wx ∧ BoxR (w.heap.size + 1) o (.slice D o.ps.length kb) wx ∧ BoxR w3.heap.size x (.slice A1' x.ps.length k1') wx ∧ BoxR w4.heap.size x (.slice A2' x.ps.length k2') wx := fun wx hx => ⟨BoxR.kept (N := W5.heap.size) A5 A5.1 hx, BoxR.kept (N := W5.heap.size) B5 B5.1 hx, BoxR.kept (N := W5.heap.size) X5 X5.1 hx, BoxR.kept (N := W5.heap.size) Y5 Y5.1 hx⟩
      have dn : ∀ wx, Below W5.heap.size W5 wx → Below w.heap.size w wx := fun wx hx => hb5.trans (hx.mono hb5.size)
      have d4 : ∀ wx, Below W5.heap.size W5 wx → Below w4.heap.size w4 wx := fun wx hx => h45.trans (hx.mono h45.size)
      have c1 : ∀ wx, Below W5.heap.size W5 wx → Calls Tryz.prog 19 #[rv r (.slice A r.ps.length ka)] wx fun e w' => e = .returned (.int .i64 K) ∧ Below W5.heap.size W5 w' := by
        intro wx hx
        refine (checkR_any r _ wx (kpr wx (dn wx hx)) lr.val lr.n lr.ps).mono ?_
        rintro e w' ⟨rfl, b⟩
        exact ⟨by rw [hK], hx.trans (b.mono hx.size)⟩
      have c2 : ∀ wx, Below W5.heap.size W5 wx → Calls Tryz.prog 20 #[rv r (.slice A r.ps.length ka)] wx fun e w' => e = .returned (.bool I) ∧ Below W5.heap.size W5 w' := by
        intro wx hx
        refine (risR_any r _ wx (kpr wx (dn wx hx)) lr.val lr.n lr.ps).mono ?_
        rintro e w' ⟨rfl, b⟩
        exact ⟨by rw [hI], hx.trans (b.mono hx.size)⟩
      have c3 : ∀ wx, Below W5.heap.size W5 wx → Calls Tryz.prog 21 #[rv r (.slice A r.ps.length ka)] wx fun e w' => e = .returned (.string Pt) ∧ Below W5.heap.size W5 w' := by
        intro wx hx
        refine (putR_any r _ wx (kpr wx (dn wx hx)) fr).mono ?_
        rintro e w' ⟨rfl, b⟩
        exact ⟨by rw [← hP], hx.trans (b.mono hx.size)⟩
      have c4 : ∀ wx, Below W5.heap.size W5 wx → Calls Tryz.prog 22 #[rv r (.slice A r.ps.length ka)] wx fun e w' => e = .returned (.string Pt) ∧ Below W5.heap.size W5 w' := by
        intro wx hx
        refine (rputR_any r _ wx (kpr wx (dn wx hx)) fr).mono ?_
        rintro e w' ⟨rfl, b⟩
        exact ⟨by rw [← hP], hx.trans (b.mono hx.size)⟩
      have c5 : ∀ wx, Below W5.heap.size W5 wx → Calls Tryz.prog 23 #[rv x (.slice A1' x.ps.length k1'), rv x (.slice A2' x.ps.length k2')] wx fun e w' => e = .returned (.bool true) ∧ Below W5.heap.size W5 w' := by
        intro wx hx
        have h4 := d4 wx hx
        refine (rsameR_any x x _ _ wx ((sp1'.below h4).more h4.size) ((sp2.below h4).more h4.size) (by omega) (by omega)).mono ?_
        rintro e w' ⟨rfl, b⟩
        exact ⟨by rw [(sameR_iff x x).2 rfl], hx.trans (b.mono hx.size)⟩
      have hrl := fr.n
      have hol := fo.n
      have c6 : ∀ wx, Below W5.heap.size W5 wx → Calls Tryz.prog 24 #[rv r (.slice A r.ps.length ka), rv o (.slice D o.ps.length kb)] wx fun e w' => e = .returned (.bool S) ∧ Below W5.heap.size W5 w' := by
        intro wx hx
        refine (sameR_any r o _ _ wx (kpr wx (dn wx hx)) (kpo wx (dn wx hx)) (by omega) (by omega)).mono ?_
        rintro e w' ⟨rfl, b⟩
        exact ⟨by rw [hS0], hx.trans (b.mono hx.size)⟩
      have c7 : ∀ wx, Below W5.heap.size W5 wx → Calls Tryz.prog 23 #[rv r (.slice A r.ps.length ka), rv o (.slice D o.ps.length kb)] wx fun e w' => e = .returned (.bool S) ∧ Below W5.heap.size W5 w' := by
        intro wx hx
        refine (rsameR_any r o _ _ wx (kpr wx (dn wx hx)) (kpo wx (dn wx hx)) (by omega) (by omega)).mono ?_
        rintro e w' ⟨rfl, b⟩
        exact ⟨by rw [hS0], hx.trans (b.mono hx.size)⟩
      have cn : ∀ n wx, Below W5.heap.size W5 wx → Calls Tryz.prog 9 #[.int .i64 n] wx fun e w' => e = .returned (.int .i64 n) ∧ Below W5.heap.size W5 w' := by
        intro n wx hx
        refine (num_any n wx).mono ?_
        rintro e w' ⟨rfl, rfl⟩
        exact ⟨rfl, hx⟩
      have cl : ∀ wx, Below W5.heap.size W5 wx → Calls Tryz.prog 8 #[] wx fun e w' => e = .returned (.bool true) ∧ Below W5.heap.size W5 w' := by
        intro wx hx
        refine (live_any wx (hg5.below hx)).mono ?_
        rintro e w' ⟨rfl, b⟩
        exact ⟨rfl, hx.trans (b.mono hx.size)⟩
      clear hP hI hK hS0 A5 B5 X5 Y5 cp cr kpr kpo d4 dn h45 sp1' sp2 hrl hol fr fo
      rcases hKI with ⟨rfl, rfl⟩ | ⟨rfl, rfl⟩
      ·
        go_wp2_with fail
        try rw [hW5]
        refine St.wp_region_stage (fun _ wx => Below W5.heap.size W5 wx) (by kernel_rfl) (by kernel_rfl) (by kernel_rfl) (Below.refl _ _).drew ?_
        iterate 1
          apply St.step_give
          · rfl
          · intro L wx hS hcl hrd
            obtain ⟨⟨_, ⟨d0, d1, d2, d3, d4⟩, _⟩, ⟨_, ⟨g0, g1, g2, g3, g4⟩, _⟩, ⟨_, ⟨h0, h1, h2, h3, h4⟩, _⟩, ⟨_, ⟨k0, k1, k2, k3, k4⟩, _⟩⟩ := hbox wx hS
            go_simp
            try with_reducible rfl
          · exact fun L wx hS => hS
          simp only [Act.put, List.setIfInBounds_toArray, List.set_cons_zero, List.set_cons_succ]
        apply St.step_into
        · rfl
        · intro wx
          go_simp
          exact ⟨rfl, rfl⟩
        · exact fun L wx hS hcl hrd => c1 wx hS
        simp only [Act.put, List.setIfInBounds_toArray, List.set_cons_zero, List.set_cons_succ]
        apply St.step_into
        · rfl
        · intro wx
          go_simp
          exact ⟨rfl, rfl⟩
        · exact fun L wx hS hcl hrd => cn _ wx hS
        simp only [Act.put, List.setIfInBounds_toArray, List.set_cons_zero, List.set_cons_succ]
        iterate 2
          apply St.step_give
          · rfl
          · intro L wx hS hcl hrd
            obtain ⟨⟨_, ⟨d0, d1, d2, d3, d4⟩, _⟩, ⟨_, ⟨g0, g1, g2, g3, g4⟩, _⟩, ⟨_, ⟨h0, h1, h2, h3, h4⟩, _⟩, ⟨_, ⟨k0, k1, k2, k3, k4⟩, _⟩⟩ := hbox wx hS
            go_simp
            try with_reducible rfl
          · exact fun L wx hS => hS
          simp only [Act.put, List.setIfInBounds_toArray, List.set_cons_zero, List.set_cons_succ]
        apply St.step_into
        · rfl
        · intro wx
          go_simp
          exact ⟨rfl, rfl⟩
        · exact fun L wx hS hcl hrd => c2 wx hS
        simp only [Act.put, List.setIfInBounds_toArray, List.set_cons_zero, List.set_cons_succ]
        iterate 3
          apply St.step_give
          · rfl
          · intro L wx hS hcl hrd
            obtain ⟨⟨_, ⟨d0, d1, d2, d3, d4⟩, _⟩, ⟨_, ⟨g0, g1, g2, g3, g4⟩, _⟩, ⟨_, ⟨h0, h1, h2, h3, h4⟩, _⟩, ⟨_, ⟨k0, k1, k2, k3, k4⟩, _⟩⟩ := hbox wx hS
            go_simp
            try with_reducible rfl
          · exact fun L wx hS => hS
          simp only [Act.put, List.setIfInBounds_toArray, List.set_cons_zero, List.set_cons_succ]
        apply St.step_into
        · rfl
        · intro wx
          go_simp
          exact ⟨rfl, rfl⟩
        · exact fun L wx hS hcl hrd => c3 wx hS
        simp only [Act.put, List.setIfInBounds_toArray, List.set_cons_zero, List.set_cons_succ]
        iterate 1
          apply St.step_give
          · rfl
          · intro L wx hS hcl hrd
            obtain ⟨⟨_, ⟨d0, d1, d2, d3, d4⟩, _⟩, ⟨_, ⟨g0, g1, g2, g3, g4⟩, _⟩, ⟨_, ⟨h0, h1, h2, h3, h4⟩, _⟩, ⟨_, ⟨k0, k1, k2, k3, k4⟩, _⟩⟩ := hbox wx hS
            go_simp
            try with_reducible rfl
          · exact fun L wx hS => hS
          simp only [Act.put, List.setIfInBounds_toArray, List.set_cons_zero, List.set_cons_succ]
        apply St.step_into
        · rfl
        · intro wx
          go_simp
          exact ⟨rfl, rfl⟩
        · exact fun L wx hS hcl hrd => c4 wx hS
        simp only [Act.put, List.setIfInBounds_toArray, List.set_cons_zero, List.set_cons_succ]
        iterate 5
          apply St.step_give
          · rfl
          · intro L wx hS hcl hrd
            obtain ⟨⟨_, ⟨d0, d1, d2, d3, d4⟩, _⟩, ⟨_, ⟨g0, g1, g2, g3, g4⟩, _⟩, ⟨_, ⟨h0, h1, h2, h3, h4⟩, _⟩, ⟨_, ⟨k0, k1, k2, k3, k4⟩, _⟩⟩ := hbox wx hS
            go_simp
            try with_reducible rfl
          · exact fun L wx hS => hS
          simp only [Act.put, List.setIfInBounds_toArray, List.set_cons_zero, List.set_cons_succ]
        apply St.step_into
        · rfl
        · intro wx
          go_simp
          exact ⟨rfl, rfl⟩
        · exact fun L wx hS hcl hrd => c5 wx hS
        simp only [Act.put, List.setIfInBounds_toArray, List.set_cons_zero, List.set_cons_succ]
        iterate 3
          apply St.step_give
          · rfl
          · intro L wx hS hcl hrd
            obtain ⟨⟨_, ⟨d0, d1, d2, d3, d4⟩, _⟩, ⟨_, ⟨g0, g1, g2, g3, g4⟩, _⟩, ⟨_, ⟨h0, h1, h2, h3, h4⟩, _⟩, ⟨_, ⟨k0, k1, k2, k3, k4⟩, _⟩⟩ := hbox wx hS
            go_simp
            try with_reducible rfl
          · exact fun L wx hS => hS
          simp only [Act.put, List.setIfInBounds_toArray, List.set_cons_zero, List.set_cons_succ]
        apply St.step_into
        · rfl
        · intro wx
          go_simp
          exact ⟨rfl, rfl⟩
        · exact fun L wx hS hcl hrd => cn _ wx hS
        simp only [Act.put, List.setIfInBounds_toArray, List.set_cons_zero, List.set_cons_succ]
        iterate 6
          apply St.step_give
          · rfl
          · intro L wx hS hcl hrd
            obtain ⟨⟨_, ⟨d0, d1, d2, d3, d4⟩, _⟩, ⟨_, ⟨g0, g1, g2, g3, g4⟩, _⟩, ⟨_, ⟨h0, h1, h2, h3, h4⟩, _⟩, ⟨_, ⟨k0, k1, k2, k3, k4⟩, _⟩⟩ := hbox wx hS
            go_simp
            try with_reducible rfl
          · exact fun L wx hS => hS
          simp only [Act.put, List.setIfInBounds_toArray, List.set_cons_zero, List.set_cons_succ]
        apply St.step_into
        · rfl
        · intro wx
          go_simp
          exact ⟨rfl, rfl⟩
        · exact fun L wx hS hcl hrd => c6 wx hS
        simp only [Act.put, List.setIfInBounds_toArray, List.set_cons_zero, List.set_cons_succ]
        iterate 2
          apply St.step_give
          · rfl
          · intro L wx hS hcl hrd
            obtain ⟨⟨_, ⟨d0, d1, d2, d3, d4⟩, _⟩, ⟨_, ⟨g0, g1, g2, g3, g4⟩, _⟩, ⟨_, ⟨h0, h1, h2, h3, h4⟩, _⟩, ⟨_, ⟨k0, k1, k2, k3, k4⟩, _⟩⟩ := hbox wx hS
            go_simp
            try with_reducible rfl
          · exact fun L wx hS => hS
          simp only [Act.put, List.setIfInBounds_toArray, List.set_cons_zero, List.set_cons_succ]
        apply St.step_into
        · rfl
        · intro wx
          go_simp
          exact ⟨rfl, rfl⟩
        · exact fun L wx hS hcl hrd => c7 wx hS
        simp only [Act.put, List.setIfInBounds_toArray, List.set_cons_zero, List.set_cons_succ]
        iterate 3
          apply St.step_give
          · rfl
          · intro L wx hS hcl hrd
            obtain ⟨⟨_, ⟨d0, d1, d2, d3, d4⟩, _⟩, ⟨_, ⟨g0, g1, g2, g3, g4⟩, _⟩, ⟨_, ⟨h0, h1, h2, h3, h4⟩, _⟩, ⟨_, ⟨k0, k1, k2, k3, k4⟩, _⟩⟩ := hbox wx hS
            go_simp
            try with_reducible rfl
          · exact fun L wx hS => hS
          simp only [Act.put, List.setIfInBounds_toArray, List.set_cons_zero, List.set_cons_succ]
        apply St.step_into
        · rfl
        · intro wx
          go_simp
          exact ⟨rfl, rfl⟩
        · exact fun L wx hS hcl hrd => cl wx hS
        simp only [Act.put, List.setIfInBounds_toArray, List.set_cons_zero, List.set_cons_succ]
        iterate 2
          apply St.step_give
          · rfl
          · intro L wx hS hcl hrd
            obtain ⟨⟨_, ⟨d0, d1, d2, d3, d4⟩, _⟩, ⟨_, ⟨g0, g1, g2, g3, g4⟩, _⟩, ⟨_, ⟨h0, h1, h2, h3, h4⟩, _⟩, ⟨_, ⟨k0, k1, k2, k3, k4⟩, _⟩⟩ := hbox wx hS
            go_simp
            try with_reducible rfl
          · exact fun L wx hS => hS
          simp only [Act.put, List.setIfInBounds_toArray, List.set_cons_zero, List.set_cons_succ]
        refine St.step_last ?_
        intro L wx hS _
        clear c1 c2 c3 c4 c5 c6 c7 cn cl
        go_wp2_with fail
        go_ret
        exact ⟨rfl, hb5.trans (hS.mono (hb5).size)⟩
      ·
        go_wp2_with fail
        try rw [hW5]
        refine St.wp_region_stage (fun _ wx => Below W5.heap.size W5 wx) (by kernel_rfl) (by kernel_rfl) (by kernel_rfl) (Below.refl _ _).drew ?_
        iterate 1
          apply St.step_give
          · rfl
          · intro L wx hS hcl hrd
            obtain ⟨⟨_, ⟨d0, d1, d2, d3, d4⟩, _⟩, ⟨_, ⟨g0, g1, g2, g3, g4⟩, _⟩, ⟨_, ⟨h0, h1, h2, h3, h4⟩, _⟩, ⟨_, ⟨k0, k1, k2, k3, k4⟩, _⟩⟩ := hbox wx hS
            go_simp
            try with_reducible rfl
          · exact fun L wx hS => hS
          simp only [Act.put, List.setIfInBounds_toArray, List.set_cons_zero, List.set_cons_succ]
        apply St.step_into
        · rfl
        · intro wx
          go_simp
          exact ⟨rfl, rfl⟩
        · exact fun L wx hS hcl hrd => c1 wx hS
        simp only [Act.put, List.setIfInBounds_toArray, List.set_cons_zero, List.set_cons_succ]
        apply St.step_into
        · rfl
        · intro wx
          go_simp
          exact ⟨rfl, rfl⟩
        · exact fun L wx hS hcl hrd => cn _ wx hS
        simp only [Act.put, List.setIfInBounds_toArray, List.set_cons_zero, List.set_cons_succ]
        iterate 2
          apply St.step_give
          · rfl
          · intro L wx hS hcl hrd
            obtain ⟨⟨_, ⟨d0, d1, d2, d3, d4⟩, _⟩, ⟨_, ⟨g0, g1, g2, g3, g4⟩, _⟩, ⟨_, ⟨h0, h1, h2, h3, h4⟩, _⟩, ⟨_, ⟨k0, k1, k2, k3, k4⟩, _⟩⟩ := hbox wx hS
            go_simp
            try with_reducible rfl
          · exact fun L wx hS => hS
          simp only [Act.put, List.setIfInBounds_toArray, List.set_cons_zero, List.set_cons_succ]
        apply St.step_into
        · rfl
        · intro wx
          go_simp
          exact ⟨rfl, rfl⟩
        · exact fun L wx hS hcl hrd => c2 wx hS
        simp only [Act.put, List.setIfInBounds_toArray, List.set_cons_zero, List.set_cons_succ]
        iterate 3
          apply St.step_give
          · rfl
          · intro L wx hS hcl hrd
            obtain ⟨⟨_, ⟨d0, d1, d2, d3, d4⟩, _⟩, ⟨_, ⟨g0, g1, g2, g3, g4⟩, _⟩, ⟨_, ⟨h0, h1, h2, h3, h4⟩, _⟩, ⟨_, ⟨k0, k1, k2, k3, k4⟩, _⟩⟩ := hbox wx hS
            go_simp
            try with_reducible rfl
          · exact fun L wx hS => hS
          simp only [Act.put, List.setIfInBounds_toArray, List.set_cons_zero, List.set_cons_succ]
        apply St.step_into
        · rfl
        · intro wx
          go_simp
          exact ⟨rfl, rfl⟩
        · exact fun L wx hS hcl hrd => c3 wx hS
        simp only [Act.put, List.setIfInBounds_toArray, List.set_cons_zero, List.set_cons_succ]
        iterate 1
          apply St.step_give
          · rfl
          · intro L wx hS hcl hrd
            obtain ⟨⟨_, ⟨d0, d1, d2, d3, d4⟩, _⟩, ⟨_, ⟨g0, g1, g2, g3, g4⟩, _⟩, ⟨_, ⟨h0, h1, h2, h3, h4⟩, _⟩, ⟨_, ⟨k0, k1, k2, k3, k4⟩, _⟩⟩ := hbox wx hS
            go_simp
            try with_reducible rfl
          · exact fun L wx hS => hS
          simp only [Act.put, List.setIfInBounds_toArray, List.set_cons_zero, List.set_cons_succ]
        apply St.step_into
        · rfl
        · intro wx
          go_simp
          exact ⟨rfl, rfl⟩
        · exact fun L wx hS hcl hrd => c4 wx hS
        simp only [Act.put, List.setIfInBounds_toArray, List.set_cons_zero, List.set_cons_succ]
        iterate 5
          apply St.step_give
          · rfl
          · intro L wx hS hcl hrd
            obtain ⟨⟨_, ⟨d0, d1, d2, d3, d4⟩, _⟩, ⟨_, ⟨g0, g1, g2, g3, g4⟩, _⟩, ⟨_, ⟨h0, h1, h2, h3, h4⟩, _⟩, ⟨_, ⟨k0, k1, k2, k3, k4⟩, _⟩⟩ := hbox wx hS
            go_simp
            try with_reducible rfl
          · exact fun L wx hS => hS
          simp only [Act.put, List.setIfInBounds_toArray, List.set_cons_zero, List.set_cons_succ]
        apply St.step_into
        · rfl
        · intro wx
          go_simp
          exact ⟨rfl, rfl⟩
        · exact fun L wx hS hcl hrd => c5 wx hS
        simp only [Act.put, List.setIfInBounds_toArray, List.set_cons_zero, List.set_cons_succ]
        iterate 3
          apply St.step_give
          · rfl
          · intro L wx hS hcl hrd
            obtain ⟨⟨_, ⟨d0, d1, d2, d3, d4⟩, _⟩, ⟨_, ⟨g0, g1, g2, g3, g4⟩, _⟩, ⟨_, ⟨h0, h1, h2, h3, h4⟩, _⟩, ⟨_, ⟨k0, k1, k2, k3, k4⟩, _⟩⟩ := hbox wx hS
            go_simp
            try with_reducible rfl
          · exact fun L wx hS => hS
          simp only [Act.put, List.setIfInBounds_toArray, List.set_cons_zero, List.set_cons_succ]
        apply St.step_into
        · rfl
        · intro wx
          go_simp
          exact ⟨rfl, rfl⟩
        · exact fun L wx hS hcl hrd => cn _ wx hS
        simp only [Act.put, List.setIfInBounds_toArray, List.set_cons_zero, List.set_cons_succ]
        iterate 6
          apply St.step_give
          · rfl
          · intro L wx hS hcl hrd
            obtain ⟨⟨_, ⟨d0, d1, d2, d3, d4⟩, _⟩, ⟨_, ⟨g0, g1, g2, g3, g4⟩, _⟩, ⟨_, ⟨h0, h1, h2, h3, h4⟩, _⟩, ⟨_, ⟨k0, k1, k2, k3, k4⟩, _⟩⟩ := hbox wx hS
            go_simp
            try with_reducible rfl
          · exact fun L wx hS => hS
          simp only [Act.put, List.setIfInBounds_toArray, List.set_cons_zero, List.set_cons_succ]
        apply St.step_into
        · rfl
        · intro wx
          go_simp
          exact ⟨rfl, rfl⟩
        · exact fun L wx hS hcl hrd => c6 wx hS
        simp only [Act.put, List.setIfInBounds_toArray, List.set_cons_zero, List.set_cons_succ]
        iterate 2
          apply St.step_give
          · rfl
          · intro L wx hS hcl hrd
            obtain ⟨⟨_, ⟨d0, d1, d2, d3, d4⟩, _⟩, ⟨_, ⟨g0, g1, g2, g3, g4⟩, _⟩, ⟨_, ⟨h0, h1, h2, h3, h4⟩, _⟩, ⟨_, ⟨k0, k1, k2, k3, k4⟩, _⟩⟩ := hbox wx hS
            go_simp
            try with_reducible rfl
          · exact fun L wx hS => hS
          simp only [Act.put, List.setIfInBounds_toArray, List.set_cons_zero, List.set_cons_succ]
        apply St.step_into
        · rfl
        · intro wx
          go_simp
          exact ⟨rfl, rfl⟩
        · exact fun L wx hS hcl hrd => c7 wx hS
        simp only [Act.put, List.setIfInBounds_toArray, List.set_cons_zero, List.set_cons_succ]
        iterate 3
          apply St.step_give
          · rfl
          · intro L wx hS hcl hrd
            obtain ⟨⟨_, ⟨d0, d1, d2, d3, d4⟩, _⟩, ⟨_, ⟨g0, g1, g2, g3, g4⟩, _⟩, ⟨_, ⟨h0, h1, h2, h3, h4⟩, _⟩, ⟨_, ⟨k0, k1, k2, k3, k4⟩, _⟩⟩ := hbox wx hS
            go_simp
            try with_reducible rfl
          · exact fun L wx hS => hS
          simp only [Act.put, List.setIfInBounds_toArray, List.set_cons_zero, List.set_cons_succ]
        apply St.step_into
        · rfl
        · intro wx
          go_simp
          exact ⟨rfl, rfl⟩
        · exact fun L wx hS hcl hrd => cl wx hS
        simp only [Act.put, List.setIfInBounds_toArray, List.set_cons_zero, List.set_cons_succ]
        iterate 2
          apply St.step_give
          · rfl
          · intro L wx hS hcl hrd
            obtain ⟨⟨_, ⟨d0, d1, d2, d3, d4⟩, _⟩, ⟨_, ⟨g0, g1, g2, g3, g4⟩, _⟩, ⟨_, ⟨h0, h1, h2, h3, h4⟩, _⟩, ⟨_, ⟨k0, k1, k2, k3, k4⟩, _⟩⟩ := hbox wx hS
            go_simp
            try with_reducible rfl
          · exact fun L wx hS => hS
          simp only [Act.put, List.setIfInBounds_toArray, List.set_cons_zero, List.set_cons_succ]
        refine St.step_last ?_
        intro L wx hS _
        clear c1 c2 c3 c4 c5 c6 c7 cn cl
        go_wp2_with fail
        go_ret
        exact ⟨rfl, hb5.trans (hS.mono (hb5).size)⟩
end Go.Proofs.YthglghlkchhjlaaGreatDoor.Od
