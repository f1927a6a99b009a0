/-
  The program's begin, tidy and Open, told of the model. Conditions: what may be of a reel; the library's variables hold what their types allow; fewer than 2^62 operations.
-/
import Derived.Test.YtglkapamkigdhaaGreatDoorBoth
namespace Go.Proofs.YtglkapamkigdhaaGreatDoor.Rl
open Go.RowKit
open Go.Proofs.YtglkapamkigdhaaGreatDoor.M (pageT kBase kRec inR tellT tell_len)

theorem FL.keep9 {b q : Nat} {m : M} {l : Lg} {w w' : World} (f : FL b q w w') (h : RP b m w) (hl : LP q b l w) : ∀ (k : Nat) (cs : Array Value) (fz : Nat × Nat), w.heap[k]? = some (Obj.cells cs 9 fz) → w'.heap[k]? = some (Obj.cells cs 9 fz) := by
  intro k cs fz hk
  refine f.other h k cs 9 fz hk ?_ ?_ (by decide)
  · rintro rfl
    obtain ⟨v0, v1, hb, _⟩ := h
    rw [hk] at hb
    injection hb with hb
    injection hb with _ hb
    exact absurd hb (by decide)
  · rintro rfl
    rw [show w.heap[_]? = _ from hl] at hk
    injection hk with hk
    injection hk with _ hk
    exact absurd hk (by decide)
theorem Fr.keep9 {b : Nat} {m : M} {w w' : World} (f : Fr b w w') (h : RP b m w) : ∀ (k : Nat) (cs : Array Value) (fz : Nat × Nat), w.heap[k]? = some (Obj.cells cs 9 fz) → w'.heap[k]? = some (Obj.cells cs 9 fz) := by
  intro k cs fz hk
  refine f.other h k cs 9 fz hk ?_ (by decide)
  rintro rfl
  obtain ⟨v0, v1, hb, _⟩ := h
  rw [hk] at hb
  injection hb with hb
  injection hb with _ hb
  exact absurd hb (by decide)

/-- two tapes as a value -/
abbrev two (e0 r0 z0 e1 r1 z1 : Int) (b0 b1 : ByteArray) (v0 v1 : Value) : Value := .agg #[.int .i64 e0, .string b0, v0, .int .i64 r0, .int .i64 z0, .int .i64 e1, .string b1, v1, .int .i64 r1, .int .i64 z1]
noncomputable def beginM (l : Lg) (m : M) (z0 z1 : Nat) : Int × Lg × M :=
  if (emptyM m 0 z0).1 ≠ 0 then ((emptyM m 0 z0).1, l, (emptyM m 0 z0).2) else
    if (emptyM (emptyM m 0 z0).2 1 z1).1 ≠ 0 then ((emptyM (emptyM m 0 z0).2 1 z1).1, l, (emptyM (emptyM m 0 z0).2 1 z1).2) else
      putM { l with epoch := 1 } (emptyM (emptyM m 0 z0).2 1 z1).2 l.t (pageT kBase 1 [])

set_option maxHeartbeats 8000000 in
set_option maxRecDepth 100000 in
theorem l_begin {q b : Nat} {l : Lg} {m : M} {w : World} (e0 r0 e1 r1 : Int) (z0 z1 : Nat) (b0 b1 : ByteArray) (v0 v1 : Value) (h : LP q b l w) (hr : RP b m w) (hm : m.ok) (ho : m.ops < 4611686018427387890) (hv0 : ∃ A n c, v0 = .slice A n c) (hv1 : ∃ A n c, v1 = .slice A n c) :
    Calls Tryz.prog 30 #[ptr q, two e0 r0 z0 e1 r1 z1 b0 b1 v0 v1] w fun a w' => a = .returned (.int .i64 (beginM l m z0 z1).1) ∧ LP q b (beginM l m z0 z1).2.1 w' ∧ RP b (beginM l m z0 z1).2.2 w' ∧ FL b q w w' := by
  obtain ⟨A0, n0, k0, rfl⟩ := hv0
  obtain ⟨A1, n1, k1, rfl⟩ := hv1
  have i0 : ∀ (x0 x1 x2 x3 x4 x5 x6 x7 x8 x9 : Value) (w : World), (Instr.index 71 (.agg #[x0, x1, x2, x3, x4, x5, x6, x7, x8, x9]) (.int .i64 0)).run Tryz.prog w = .ok (.agg #[x0, x1, x2, x3, x4]) w := fun _ _ _ _ _ _ _ _ _ _ _ => by kernel_rfl
  have i1 : ∀ (x0 x1 x2 x3 x4 x5 x6 x7 x8 x9 : Value) (w : World), (Instr.index 71 (.agg #[x0, x1, x2, x3, x4, x5, x6, x7, x8, x9]) (.int .i64 1)).run Tryz.prog w = .ok (.agg #[x5, x6, x7, x8, x9]) w := fun _ _ _ _ _ _ _ _ _ _ _ => by kernel_rfl
  have walk : ∀ R, R = beginM l m z0 z1 → Calls Tryz.prog 30 #[ptr q, two e0 r0 z0 e1 r1 z1 b0 b1 (.slice A0 n0 k0) (.slice A1 n1 k1)] w fun a w' => a = .returned (.int .i64 R.1) ∧ LP q b R.2.1 w' ∧ RP b R.2.2 w' ∧ FL b q w w' := by
    intro R hR
    unfold beginM at hR
    have hblt := hr.lt
    have ok1 := emptyM_ok hm (by omega) 0 z0
    obtain ⟨a1, ha1⟩ : ∃ a, (emptyM m 0 z0).1 = a := ⟨_, rfl⟩
    obtain ⟨m1, hm1⟩ : ∃ a, (emptyM m 0 z0).2 = a := ⟨_, rfl⟩
    have ce := fun w (h : LP q b l w) (hr : RP b m w) => empty_any 0 e0 r0 z0 b0 (.slice A0 n0 k0) h hr hm (by omega)
    rw [ha1, hm1] at hR
    rw [ha1, hm1] at ce
    rw [hm1] at ok1
    have hbig : Below w.heap.size w ((w.alloc (.cells #[.int .i64 e0, .string b0, .slice A0 n0 k0, .int .i64 r0, .int .i64 z0, .int .i64 e1, .string b1, .slice A1 n1 k1, .int .i64 r1, .int .i64 z1] 71)).alloc (.cells #[.int .i64 e0, .string b0, .slice A0 n0 k0, .int .i64 r0, .int .i64 z0] 70)) := ((Below.refl _ w).alloc (Nat.le_refl _) _).alloc (by simp) _
    have hL := h.below hbig
    have hRr := hr.below hbig
    have F0 : FL b q w _ := FL.of_below hbig hblt
    clear ha1 hm1
    go_enter Tryz.func30, Tryz.ntmps30
    go_wp2_with fail
    refine wp_loop_rounds 3 ?_
    rw [rounds_succ]
    go_wp2_with fail
    refine (ce _ hL hRr).mono ?_
    rintro a w1 ⟨rfl, r1', f1, L1⟩
    have F1 := F0.tr f1
    clear ce hL hRr hbig F0
    by_cases h1 : a1 = 0
    · subst h1
      rw [if_neg (by simp)] at hR
      have ok2 := emptyM_ok ok1.1 (by omega) 1 z1
      obtain ⟨a2, ha2⟩ : ∃ a, (emptyM m1 1 z1).1 = a := ⟨_, rfl⟩
      obtain ⟨m2, hm2⟩ : ∃ a, (emptyM m1 1 z1).2 = a := ⟨_, rfl⟩
      have ce := fun w (h : LP q b l w) (hr : RP b m1 w) => empty_any 1 e1 r1 z1 b1 (.slice A1 n1 k1) h hr ok1.1 (by omega)
      rw [ha2, hm2] at hR
      rw [ha2, hm2] at ce
      rw [hm2] at ok2
      have hbig : Below w1.heap.size w1 (w1.alloc (.cells #[.int .i64 e1, .string b1, .slice A1 n1 k1, .int .i64 r1, .int .i64 z1] 70)) := (Below.refl _ w1).alloc (Nat.le_refl _) _
      have hL := L1.below hbig
      have hRr := r1'.below hbig
      have F1' := F1.tr (FL.of_below hbig r1'.lt)
      clear ha2 hm2
      go_wp2_with fail
      rw [rounds_succ]
      go_wp2_with fail
      refine (ce _ hL hRr).mono ?_
      rintro a w2 ⟨rfl, r2', f2, L2⟩
      have F2 := F1'.tr f2
      clear ce hL hRr hbig F1 F1' f1 f2 L1 r1'
      by_cases h2 : a2 = 0
      · subst h2
        rw [if_neg (by simp)] at hR
        have hne := L2.ne r2'
        obtain ⟨d0, d1, d2, d3, d4, g⟩ := L2.cells
        have L3 := L2.set2 1
        have r3 := r2'.lset L2 2 (.int .i64 1)
        have F3 := F2.tr (FL.set 2 (.int .i64 1) (Ne.symm hne))
        have cp := fun w (h : LP q b { l with epoch := 1 } w) (hr : RP b m2 w) => l_put l.t ⟨#[98, 97, 115, 101]⟩ ⟨#[]⟩ 1 h hr ok2.1 (by omega) (by unfold inR; omega) (by decide) (by decide)
        rw [show ((⟨#[98, 97, 115, 101]⟩ : ByteArray).data.toList) = kBase from rfl, show ((⟨#[]⟩ : ByteArray).data.toList) = [] from rfl] at cp
        obtain ⟨R', hR'⟩ : ∃ R', putM { l with epoch := 1 } m2 l.t (pageT kBase 1 []) = R' := ⟨_, rfl⟩
        rw [hR'] at hR
        rw [hR'] at cp
        subst hR
        obtain ⟨p0, p1, p2, p3, p4, pg⟩ := L3.cells
        simp only at p1 p2 p3 p4
        go_wp2_with fail
        rw [rounds_succ]
        go_wp2_with fail
        refine St.wp_region_tail 10 (fun _ wx => wx = (w2.setCell ⟨q, 2, none⟩ (.int .i64 1)).drew) (by kernel_rfl) (by kernel_rfl) (by kernel_rfl) (by kernel_rfl) (by decide) rfl ?_
        simp only [List.take, List.drop]
        repeat (first
          | (apply St.step_give
             · rfl
             · intro L wx hS hcl hrd
               subst hS
               go_simp
               try with_reducible rfl
             · exact fun L wx hS => hS
             simp only [Act.put, List.setIfInBounds_toArray, List.set_cons_zero, List.set_cons_succ]))
        refine St.step_last ?_
        intro L wx hS _
        subst hS
        clear p0 p1 p2 p3 p4 pg d0 d1 d2 d3 d4 g
        go_wp2_with fail
        refine (cp _ L3.drew r3.drew).mono ?_
        rintro a w4 ⟨rfl, L4, r4, f4⟩
        go_wp2_with fail
        go_ret
        exact ⟨rfl, L4, r4, F3.drew.tr f4⟩
      · have h2b : (a2 != 0) = true := by simpa using h2
        rw [if_pos h2] at hR
        subst hR
        clear h2
        go_wp2_with fail
        try rw [Exit.noGoto_ret]
        go_ret
        exact ⟨rfl, L2, r2', F2⟩
    · have h1b : (a1 != 0) = true := by simpa using h1
      rw [if_pos h1] at hR
      subst hR
      clear h1
      go_wp2_with fail
      try rw [Exit.noGoto_ret]
      go_ret
      exact ⟨rfl, L1, r1', F1⟩
  exact walk _ rfl

noncomputable def tidyM (m : M) (t : Int) (r : Nat) (z zo : Nat) : Int × M :=
  if r < z then (if (m.trim t r).1 ≠ 0 then m.trim t r else emptyM (m.trim t r).2 (1 - t) zo) else emptyM m (1 - t) zo

set_option maxHeartbeats 8000000 in
set_option maxRecDepth 100000 in
theorem tidy0 {q b : Nat} {l : Lg} {m : M} {w : World} (e0 e1 : Int) (r0 r1 z0 z1 : Nat) (b0 b1 : ByteArray) (v0 v1 : Value) (h : LP q b l w) (ht : l.t = 0) (hr : RP b m w) (hm : m.ok) (ho : m.ops < 4611686018427387890) (hv0 : ∃ A n c, v0 = .slice A n c) (hv1 : ∃ A n c, v1 = .slice A n c) :
    Calls Tryz.prog 31 #[ptr q, two e0 r0 z0 e1 r1 z1 b0 b1 v0 v1] w fun a w' => a = .returned (.int .i64 (tidyM m 0 r0 z0 z1).1) ∧ LP q b l w' ∧ RP b (tidyM m 0 r0 z0 z1).2 w' ∧ FL b q w w' := by
  obtain ⟨A0, n0, k0, rfl⟩ := hv0
  obtain ⟨A1, n1, k1, rfl⟩ := hv1
  have walk : ∀ R, R = tidyM m 0 r0 z0 z1 → Calls Tryz.prog 31 #[ptr q, two e0 r0 z0 e1 r1 z1 b0 b1 (.slice A0 n0 k0) (.slice A1 n1 k1)] w fun a w' => a = .returned (.int .i64 R.1) ∧ LP q b l w' ∧ RP b R.2 w' ∧ FL b q w w' := by
    intro R hR
    unfold tidyM at hR
    have hblt := hr.lt
    obtain ⟨d0, d1, d2, d3, d4, g⟩ := h.cells
    have hqlt := h.lt
    rw [ht] at d1
    have hbig : Below w.heap.size w ((w.alloc (.cells #[.int .i64 e0, .string b0, .slice A0 n0 k0, .int .i64 r0, .int .i64 z0, .int .i64 e1, .string b1, .slice A1 n1 k1, .int .i64 r1, .int .i64 z1] 71)).alloc (.cells #[.int .i64 e0, .string b0, .slice A0 n0 k0, .int .i64 r0, .int .i64 z0] 70)) := ((Below.refl _ w).alloc (Nat.le_refl _) _).alloc (by simp) _
    obtain ⟨W, hW⟩ : ∃ W, W = ((w.alloc (.cells #[.int .i64 e0, .string b0, .slice A0 n0 k0, .int .i64 r0, .int .i64 z0, .int .i64 e1, .string b1, .slice A1 n1 k1, .int .i64 r1, .int .i64 z1] 71)).alloc (.cells #[.int .i64 e0, .string b0, .slice A0 n0 k0, .int .i64 r0, .int .i64 z0] 70)) := ⟨_, rfl⟩
    rw [← hW] at hbig
    have hWs : W.heap.size = w.heap.size + 2 := by rw [hW]; simp
    have hL := h.below hbig
    have hRr := hr.below hbig
    have F0 : FL b q w W := FL.of_below hbig hblt
    have zb0 : W.heap[w.heap.size]? = some (.cells #[.int .i64 e0, .string b0, .slice A0 n0 k0, .int .i64 r0, .int .i64 z0, .int .i64 e1, .string b1, .slice A1 n1 k1, .int .i64 r1, .int .i64 z1] 71 (0, 0)) := by rw [hW, Below.heap_alloc _ _ _ (by simp)]; exact heap_alloc_new w _
    have zb1 : W.heap[w.heap.size + 1]? = some (.cells #[.int .i64 e0, .string b0, .slice A0 n0 k0, .int .i64 r0, .int .i64 z0] 70 (0, 0)) := by
      rw [hW]
      have := heap_alloc_new (w.alloc (.cells #[.int .i64 e0, .string b0, .slice A0 n0 k0, .int .i64 r0, .int .i64 z0, .int .i64 e1, .string b1, .slice A1 n1 k1, .int .i64 r1, .int .i64 z1] 71)) (.cells #[.int .i64 e0, .string b0, .slice A0 n0 k0, .int .i64 r0, .int .i64 z0] 70)
      simpa using this
    obtain ⟨p0, p1, p2, p3, p4, pg⟩ := hL.cells
    rw [ht] at p1
    have q0 : ∀ i, W.cell? ⟨w.heap.size, i, none⟩ = _ := fun i => Lib.cell_of_heap zb0 i
    have q1 : ∀ i, W.cell? ⟨w.heap.size + 1, i, none⟩ = _ := fun i => Lib.cell_of_heap zb1 i
    have co := fun w => l_other 0 w rfl
    by_cases hlt : r0 < z0
    · rw [if_pos hlt] at hR
      have hlti : (r0 : Int) < (z0 : Int) := by omega
      have ct := fun w (hr : RP b m w) => c_trim 0 (r0 : Int) hr hm (by omega)
      have okt := hm.trim 0 (r0 : Int) (by omega)
      have opt := m.trim_ops 0 (r0 : Int)
      obtain ⟨a1, ha1⟩ : ∃ a, (m.trim 0 r0).1 = a := ⟨_, rfl⟩
      obtain ⟨m1, hm1⟩ : ∃ a, (m.trim 0 r0).2 = a := ⟨_, rfl⟩
      have hpair : m.trim 0 r0 = (a1, m1) := by rw [← ha1, ← hm1]
      rw [hpair] at hR
      simp only at hR
      rw [ha1, hm1] at ct
      rw [hm1] at okt opt
      clear ha1 hm1 hpair hlt
      go_enter Tryz.func31, Tryz.ntmps31
      go_wp2_with fail
      rw [← hW]
      clear hW hbig d0 d1 d2 d3 d4 g
      go_wp2_with fail
      refine St.wp_region_tail 10 (fun _ wx => wx = W.drew) (by kernel_rfl) (by kernel_rfl) (by kernel_rfl) (by kernel_rfl) (by decide) rfl ?_
      simp only [List.take, List.drop]
      repeat (first
        | (apply St.step_give
           · rfl
           · intro L wx hS hcl hrd
             subst hS
             go_simp
             try with_reducible rfl
           · exact fun L wx hS => hS
           simp only [Act.put, List.setIfInBounds_toArray, List.set_cons_zero, List.set_cons_succ]))
      refine St.step_last ?_
      intro L wx hS _
      subst hS
      go_wp2_with fail
      refine (ct _ hRr.drew).mono ?_
      rintro a w1 ⟨rfl, r1', f1⟩
      have L1 := hL.drew.fr hRr.drew f1
      have F1 := F0.drew.tr (FL.of_fr f1)
      have yb0 := f1.other hRr.drew w.heap.size _ _ _ zb0 (by omega) (by decide)
      have q2 : ∀ i, w1.cell? ⟨w.heap.size, i, none⟩ = _ := fun i => Lib.cell_of_heap yb0 i
      obtain ⟨s0, s1, s2, s3, s4, sg⟩ := L1.cells
      rw [ht] at s1
      clear q0 q1 p0 p1 p2 p3 p4 pg zb0 zb1 ct F0 f1 yb0 hL hRr
      by_cases h1 : a1 = 0
      · subst h1
        rw [if_neg (by simp)] at hR
        have ce := empty_any 1 e1 (r1 : Int) z1 b1 (.slice A1 n1 k1) L1 r1' okt (by omega)
        rw [show (1 : Int) - 0 = 1 from rfl] at hR
        go_wp2_with fail
        refine (co _).mono ?_
        rintro a w' ⟨rfl, rfl⟩
        go_wp2_with fail
        refine ce.mono ?_
        rintro a w2 ⟨rfl, r2', f2, L2⟩
        go_wp2_with fail
        go_ret
        subst hR
        exact ⟨rfl, L2, r2', F1.tr f2⟩
      · have h1b : (a1 != 0) = true := by simpa using h1
        rw [if_pos h1] at hR
        subst hR
        clear h1
        go_wp2_with fail
        go_ret
        exact ⟨rfl, L1, r1', F1⟩
    · rw [if_neg hlt] at hR
      have hlti : ¬ (r0 : Int) < (z0 : Int) := by omega
      have hlti2 : (z0 : Int) ≤ (r0 : Int) := by omega
      have ce := empty_any 1 e1 (r1 : Int) z1 b1 (.slice A1 n1 k1) hL hRr hm (by omega)
      rw [show (1 : Int) - 0 = 1 from rfl] at hR
      clear hlt
      go_enter Tryz.func31, Tryz.ntmps31
      go_wp2_with fail
      rw [← hW]
      clear hW hbig d0 d1 d2 d3 d4 g
      refine (co _).mono ?_
      rintro a w' ⟨rfl, rfl⟩
      go_wp2_with fail
      refine ce.mono ?_
      rintro a w2 ⟨rfl, r2', f2, L2⟩
      go_wp2_with fail
      go_ret
      subst hR
      exact ⟨rfl, L2, r2', F0.tr f2⟩
  exact walk _ rfl

set_option maxHeartbeats 8000000 in
set_option maxRecDepth 100000 in
theorem tidy1 {q b : Nat} {l : Lg} {m : M} {w : World} (e0 e1 : Int) (r0 r1 z0 z1 : Nat) (b0 b1 : ByteArray) (v0 v1 : Value) (h : LP q b l w) (ht : l.t = 1) (hr : RP b m w) (hm : m.ok) (ho : m.ops < 4611686018427387890) (hv0 : ∃ A n c, v0 = .slice A n c) (hv1 : ∃ A n c, v1 = .slice A n c) :
    Calls Tryz.prog 31 #[ptr q, two e0 r0 z0 e1 r1 z1 b0 b1 v0 v1] w fun a w' => a = .returned (.int .i64 (tidyM m 1 r1 z1 z0).1) ∧ LP q b l w' ∧ RP b (tidyM m 1 r1 z1 z0).2 w' ∧ FL b q w w' := by
  obtain ⟨A0, n0, k0, rfl⟩ := hv0
  obtain ⟨A1, n1, k1, rfl⟩ := hv1
  have walk : ∀ R, R = tidyM m 1 r1 z1 z0 → Calls Tryz.prog 31 #[ptr q, two e0 r0 z0 e1 r1 z1 b0 b1 (.slice A0 n0 k0) (.slice A1 n1 k1)] w fun a w' => a = .returned (.int .i64 R.1) ∧ LP q b l w' ∧ RP b R.2 w' ∧ FL b q w w' := by
    intro R hR
    unfold tidyM at hR
    have hblt := hr.lt
    obtain ⟨d0, d1, d2, d3, d4, g⟩ := h.cells
    have hqlt := h.lt
    rw [ht] at d1
    have hbig : Below w.heap.size w ((w.alloc (.cells #[.int .i64 e0, .string b0, .slice A0 n0 k0, .int .i64 r0, .int .i64 z0, .int .i64 e1, .string b1, .slice A1 n1 k1, .int .i64 r1, .int .i64 z1] 71)).alloc (.cells #[.int .i64 e1, .string b1, .slice A1 n1 k1, .int .i64 r1, .int .i64 z1] 70)) := ((Below.refl _ w).alloc (Nat.le_refl _) _).alloc (by simp) _
    obtain ⟨W, hW⟩ : ∃ W, W = ((w.alloc (.cells #[.int .i64 e0, .string b0, .slice A0 n0 k0, .int .i64 r0, .int .i64 z0, .int .i64 e1, .string b1, .slice A1 n1 k1, .int .i64 r1, .int .i64 z1] 71)).alloc (.cells #[.int .i64 e1, .string b1, .slice A1 n1 k1, .int .i64 r1, .int .i64 z1] 70)) := ⟨_, rfl⟩
    rw [← hW] at hbig
    have hWs : W.heap.size = w.heap.size + 2 := by rw [hW]; simp
    have hL := h.below hbig
    have hRr := hr.below hbig
    have F0 : FL b q w W := FL.of_below hbig hblt
    have zb0 : W.heap[w.heap.size]? = some (.cells #[.int .i64 e0, .string b0, .slice A0 n0 k0, .int .i64 r0, .int .i64 z0, .int .i64 e1, .string b1, .slice A1 n1 k1, .int .i64 r1, .int .i64 z1] 71 (0, 0)) := by rw [hW, Below.heap_alloc _ _ _ (by simp)]; exact heap_alloc_new w _
    have zb1 : W.heap[w.heap.size + 1]? = some (.cells #[.int .i64 e1, .string b1, .slice A1 n1 k1, .int .i64 r1, .int .i64 z1] 70 (0, 0)) := by
      rw [hW]
      have := heap_alloc_new (w.alloc (.cells #[.int .i64 e0, .string b0, .slice A0 n0 k0, .int .i64 r0, .int .i64 z0, .int .i64 e1, .string b1, .slice A1 n1 k1, .int .i64 r1, .int .i64 z1] 71)) (.cells #[.int .i64 e1, .string b1, .slice A1 n1 k1, .int .i64 r1, .int .i64 z1] 70)
      simpa using this
    obtain ⟨p0, p1, p2, p3, p4, pg⟩ := hL.cells
    rw [ht] at p1
    have q0 : ∀ i, W.cell? ⟨w.heap.size, i, none⟩ = _ := fun i => Lib.cell_of_heap zb0 i
    have q1 : ∀ i, W.cell? ⟨w.heap.size + 1, i, none⟩ = _ := fun i => Lib.cell_of_heap zb1 i
    have co := fun w => l_other 1 w rfl
    by_cases hlt : r1 < z1
    · rw [if_pos hlt] at hR
      have hlti : (r1 : Int) < (z1 : Int) := by omega
      have ct := fun w (hr : RP b m w) => c_trim 1 (r1 : Int) hr hm (by omega)
      have okt := hm.trim 1 (r1 : Int) (by omega)
      have opt := m.trim_ops 1 (r1 : Int)
      obtain ⟨a1, ha1⟩ : ∃ a, (m.trim 1 r1).1 = a := ⟨_, rfl⟩
      obtain ⟨m1, hm1⟩ : ∃ a, (m.trim 1 r1).2 = a := ⟨_, rfl⟩
      have hpair : m.trim 1 r1 = (a1, m1) := by rw [← ha1, ← hm1]
      rw [hpair] at hR
      simp only at hR
      rw [ha1, hm1] at ct
      rw [hm1] at okt opt
      clear ha1 hm1 hpair hlt
      go_enter Tryz.func31, Tryz.ntmps31
      go_wp2_with fail
      rw [← hW]
      clear hW hbig d0 d1 d2 d3 d4 g
      go_wp2_with fail
      refine St.wp_region_tail 10 (fun _ wx => wx = W.drew) (by kernel_rfl) (by kernel_rfl) (by kernel_rfl) (by kernel_rfl) (by decide) rfl ?_
      simp only [List.take, List.drop]
      repeat (first
        | (apply St.step_give
           · rfl
           · intro L wx hS hcl hrd
             subst hS
             go_simp
             try with_reducible rfl
           · exact fun L wx hS => hS
           simp only [Act.put, List.setIfInBounds_toArray, List.set_cons_zero, List.set_cons_succ]))
      refine St.step_last ?_
      intro L wx hS _
      subst hS
      go_wp2_with fail
      refine (ct _ hRr.drew).mono ?_
      rintro a w1 ⟨rfl, r1', f1⟩
      have L1 := hL.drew.fr hRr.drew f1
      have F1 := F0.drew.tr (FL.of_fr f1)
      have yb0 := f1.other hRr.drew w.heap.size _ _ _ zb0 (by omega) (by decide)
      have q2 : ∀ i, w1.cell? ⟨w.heap.size, i, none⟩ = _ := fun i => Lib.cell_of_heap yb0 i
      obtain ⟨s0, s1, s2, s3, s4, sg⟩ := L1.cells
      rw [ht] at s1
      clear q0 q1 p0 p1 p2 p3 p4 pg zb0 zb1 ct F0 f1 yb0 hL hRr
      by_cases h1 : a1 = 0
      · subst h1
        rw [if_neg (by simp)] at hR
        have ce := empty_any 0 e0 (r0 : Int) z0 b0 (.slice A0 n0 k0) L1 r1' okt (by omega)
        rw [show (1 : Int) - 1 = 0 from rfl] at hR
        go_wp2_with fail
        refine (co _).mono ?_
        rintro a w' ⟨rfl, rfl⟩
        go_wp2_with fail
        refine ce.mono ?_
        rintro a w2 ⟨rfl, r2', f2, L2⟩
        go_wp2_with fail
        go_ret
        subst hR
        exact ⟨rfl, L2, r2', F1.tr f2⟩
      · have h1b : (a1 != 0) = true := by simpa using h1
        rw [if_pos h1] at hR
        subst hR
        clear h1
        go_wp2_with fail
        go_ret
        exact ⟨rfl, L1, r1', F1⟩
    · rw [if_neg hlt] at hR
      have hlti : ¬ (r1 : Int) < (z1 : Int) := by omega
      have hlti2 : (z1 : Int) ≤ (r1 : Int) := by omega
      have ce := empty_any 0 e0 (r0 : Int) z0 b0 (.slice A0 n0 k0) hL hRr hm (by omega)
      rw [show (1 : Int) - 1 = 0 from rfl] at hR
      clear hlt
      go_enter Tryz.func31, Tryz.ntmps31
      go_wp2_with fail
      rw [← hW]
      clear hW hbig d0 d1 d2 d3 d4 g
      refine (co _).mono ?_
      rintro a w' ⟨rfl, rfl⟩
      go_wp2_with fail
      refine ce.mono ?_
      rintro a w2 ⟨rfl, r2', f2, L2⟩
      go_wp2_with fail
      go_ret
      subst hR
      exact ⟨rfl, L2, r2', F0.tr f2⟩
  exact walk _ rfl

/-! ### Open -/
def OpenOut (o : Int × Option (Lg × Text × List Text) × M) (b : Nat) (w : World) (e : Ending) (w' : World) : Prop :=
  RP b o.2.2 w' ∧ Fr b w w' ∧ match o.2.1 with
  | none => e = .returned (.tuple #[.pointer none, .string ⟨#[]⟩, .slice none 0 0, .int .i64 o.1])
  | some (l, base, recs) => ∃ q B v ss, e = .returned (.tuple #[ptr q, .string B, v, .int .i64 0]) ∧ B.data.toList = base ∧ texts ss = recs ∧ LP q b l w' ∧ w.heap.size ≤ q ∧ SR w.heap.size v ss w'
theorem Fr.of_fl {b q : Nat} {w w' : World} (f : FL b q w w') (hb : b < w.heap.size) (hq : w.heap.size ≤ q) : Fr b w w' :=
  ⟨f.below b (Nat.le_refl _) (by omega), fun k hk hm => f.old k hk hm (by omega), f.mine⟩
theorem scan4_tell (s : Text) : scan4 s = tellT s := rfl

theorem openM_off {m : M} (h : m.off = true) : openM m = (30, none, m) := by unfold openM; rw [if_pos h]
theorem nil_len (s : Text) : (s = []) ↔ s.length = 0 := by cases s <;> simp
theorem openM_begin {m : M} (h : m.off = false) (ha : (tellT m.a.s).1 = 0) (hb : (tellT m.b.s).1 = 0) (_ : m.ok) :
    openM m = (if (beginM ⟨0, 0, 0, false⟩ m m.a.s.length m.b.s.length).1 = 0 then (0, some (⟨0, 1, 0, false⟩, [], []), (beginM ⟨0, 0, 0, false⟩ m m.a.s.length m.b.s.length).2.2) else ((beginM ⟨0, 0, 0, false⟩ m m.a.s.length m.b.s.length).1, none, (beginM ⟨0, 0, 0, false⟩ m m.a.s.length m.b.s.length).2.2)) := by
  unfold openM
  rw [if_neg (by rw [h]; decide), scan4_tell, scan4_tell, if_pos ⟨ha, hb⟩]
  have er1 : (if m.a.s = [] then ((0 : Int), m) else m.trim 0 0) = emptyM m 0 m.a.s.length := by
    unfold emptyM
    by_cases he : m.a.s = []
    · rw [if_pos he, if_pos ((nil_len _).1 he)]
    · rw [if_neg he, if_neg (fun h => he ((nil_len _).2 h))]
  simp only [er1]
  unfold beginM
  rcases hr1 : emptyM m 0 m.a.s.length with ⟨a1, m1⟩
  simp only
  by_cases h1 : a1 = 0
  · subst h1
    simp only [true_and, ne_eq, not_true_eq_false, if_false]
    have er2 : (if ¬ m.b.s = [] then m1.trim 1 0 else ((0 : Int), m1)) = emptyM m1 1 m.b.s.length := by
      unfold emptyM
      by_cases he : m.b.s = []
      · rw [if_neg (by simpa using he), if_pos ((nil_len _).1 he)]
      · rw [if_pos he, if_neg (fun h => he ((nil_len _).2 h))]
    rw [er2]
    rcases hr2 : emptyM m1 1 m.b.s.length with ⟨a2, m2⟩
    simp only
    by_cases h2 : a2 = 0
    · subst h2
      simp only [if_true, not_true_eq_false, if_false]
      unfold putM
      rcases hr3 : m2.write 0 (pageT kBase 1 []) with ⟨a3, m3⟩
      simp only
      by_cases h3 : a3 = 0
      · subst h3
        rcases hr4 : m3.sync 0 with ⟨a4, m4⟩
        by_cases h4 : a4 = 0
        · subst h4; simp
        · simp [h4]
      · by_cases h5 : a3 = 5
        · subst h5; simp
        · simp [h3, h5]
    · simp [h2]
  · simp [h1]
theorem openM_tidy {m : M} (h : m.off = false) (t : Int) (ht : t = (if (tellT m.a.s).1 < (tellT m.b.s).1 then 1 else 0)) (hz : (tellT (m.get t).s).1 ≠ 0) :
    openM m = (if (tidyM m t (tellT (m.get t).s).2.2.2 (m.get t).s.length (m.get (1 - t)).s.length).1 = 0 then (0, some (⟨t, (tellT (m.get t).s).1, (tellT (m.get t).s).2.2.1.length, false⟩, (tellT (m.get t).s).2.1, (tellT (m.get t).s).2.2.1), (tidyM m t (tellT (m.get t).s).2.2.2 (m.get t).s.length (m.get (1 - t)).s.length).2)
      else ((tidyM m t (tellT (m.get t).s).2.2.2 (m.get t).s.length (m.get (1 - t)).s.length).1, none, (tidyM m t (tellT (m.get t).s).2.2.2 (m.get t).s.length (m.get (1 - t)).s.length).2)) := by
  have hn0 := (tell_len m.a.s).2.2.1
  have hn1 := (tell_len m.b.s).2.2.1
  have hpick : (if (tellT m.a.s).1 < (tellT m.b.s).1 then tellT m.b.s else tellT m.a.s) = tellT (m.get t).s := by
    by_cases hl : (tellT m.a.s).1 < (tellT m.b.s).1
    · rw [if_pos hl, ht, if_pos hl]; rfl
    · rw [if_neg hl, ht, if_neg hl]; rfl
  unfold openM
  rw [if_neg (by rw [h]; decide), scan4_tell, scan4_tell]
  rw [if_neg (by
    rintro ⟨h1, h2⟩
    apply hz
    rw [← hpick]
    split
    · exact h2
    · exact h1)]
  simp only [hpick, ← ht]
  unfold tidyM
  have er : ∀ (m' : M) (a : Int), (if a = 0 ∧ (m.get (1 - t)).s ≠ [] then m'.trim (1 - t) 0 else (a, m')) = (if a ≠ 0 then (a, m') else emptyM m' (1 - t) (m.get (1 - t)).s.length) := by
    intro m' a
    by_cases ha : a = 0
    · subst ha
      rw [if_neg (c := (0 : Int) ≠ 0) (by simp)]
      unfold emptyM
      by_cases he : (m.get (1 - t)).s = []
      · rw [if_neg (by rintro ⟨_, h⟩; exact h he), if_pos ((nil_len _).1 he)]
      · rw [if_pos ⟨rfl, he⟩, if_neg (fun h => he ((nil_len _).2 h))]
    · rw [if_neg (by rintro ⟨h, _⟩; exact ha h), if_pos ha]
  by_cases hlt : (tellT (m.get t).s).2.2.2 < (m.get t).s.length
  · rw [if_pos hlt, if_pos hlt]
    rcases hr1 : m.trim t ((tellT (m.get t).s).2.2.2 : Nat) with ⟨a1, m1⟩
    simp only
    rw [er m1 a1]
  · rw [if_neg hlt, if_neg hlt]
    have e0 := er m 0
    rw [if_neg (c := (0 : Int) ≠ 0) (by simp)] at e0
    simp only [true_and] at e0 ⊢
    rw [e0]

end Go.Proofs.YtglkapamkigdhaaGreatDoor.Rl
