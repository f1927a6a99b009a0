/-
  OrderChecks, walked: it answers true. Conditions: lengths at most 2^47; numbers such as a program can hold; the library's variables hold what their types allow.
-/
import Derived.Test.YthglghlkchhjlaaGreatDoorOdLawB
import Derived.Test.YthglghlkchhjlaaGreatDoorOdRIs
namespace Go.Proofs.YthglghlkchhjlaaGreatDoor.Od
open Go.RowKit Bnd

set_option maxHeartbeats 8000000 in
set_option maxRecDepth 100000 in
theorem walk_checks (o : Ask) (w : World) (la : LimA o) (hg : Good w) :
    Calls Tryz.prog 3 #[av o] w fun e w' => e = .returned (.bool true) ∧ Below w.heap.size w w' := by
  have ca := fun w => small_any o w la.key la.til la.val la.old
  obtain ⟨W0, hW0⟩ : ∃ W0, w.alloc (.cells #[.int .i64 o.kind, .int .i64 o.client, .int .i64 o.seq, .string o.key, .string o.til, .string o.val, .string o.old, .bool o.has, .int .i64 o.lim, .int .i64 o.id, .int .i64 o.node] 23) = W0 := ⟨_, rfl⟩
  have A0 : BoxA w.heap.size o W0 := hW0 ▸ BoxA.new w o
  have hb0 : Below w.heap.size w W0 := by rw [← hW0]; exact (Below.refl _ w).alloc (Nat.le_refl _) _
  have hz0 := hb0.size
  cases hsa : smallA o with
  | false =>
    rw [hsa] at ca
    clear hsa
    obtain ⟨p_0, ⟨p_1, p_2, p_3, p_4, p_5, p_6, p_7, p_8, p_9, p_10, p_11⟩, p_12⟩ := _root_.id A0
    go_enter Tryz.func3, Tryz.ntmps3
    go_wp2_with fail
    refine (ca _).mono ?_
    rintro e w1 ⟨rfl, b1⟩
    have hb1 := hb0.trans (b1.mono hz0)
    clear hW0 b1
    go_wp2_with fail
    refine (live_any _ (hg.below hb1)).mono ?_
    rintro e w9 ⟨rfl, b9⟩
    go_wp2_with fail
    go_ret
    exact ⟨rfl, (hb1).trans (b9.mono (hb1).size)⟩
  | true =>
    rw [hsa] at ca
    clear hsa
    obtain ⟨I, hI⟩ : ∃ I, isA o = I := ⟨_, rfl⟩
    obtain ⟨K, hK⟩ : ∃ K, chkA o = K := ⟨_, rfl⟩
    have hKI : (I = true ∧ K = 0) ∨ (I = false ∧ K = 70) := by
      rw [← hK, ← hI]
      unfold chkA
      cases isA o <;> simp
    obtain ⟨p_0, ⟨p_1, p_2, p_3, p_4, p_5, p_6, p_7, p_8, p_9, p_10, p_11⟩, p_12⟩ := _root_.id A0
    go_enter Tryz.func3, Tryz.ntmps3
    go_wp2_with fail
    refine (ca _).mono ?_
    rintro e w1 ⟨rfl, b1⟩
    have A1 := A0.keep b1
    have hb1 := hb0.trans (b1.mono hz0)
    have hg1 := hg.below hb1
    have hbox : ∀ wx, Below w1.heap.size w1 wx → BoxA w.heap.size o wx := fun wx hx => BoxA.kept (N := w1.heap.size) A1 A1.1 hx
    have co : ∀ wx, Below w1.heap.size w1 wx → Calls Tryz.prog 10 #[av o] wx fun e w' => e = .returned (.int .i64 K) ∧ Below w1.heap.size w1 w' := by
      intro wx hx
      refine (check_any o wx la.key la.til la.val (hg1.below hx)).mono ?_
      rintro e w' ⟨rfl, b⟩
      exact ⟨by rw [hK], hx.trans (b.mono hx.size)⟩
    have ci : ∀ wx, Below w1.heap.size w1 wx → Calls Tryz.prog 11 #[av o] wx fun e w' => e = .returned (.bool I) ∧ Below w1.heap.size w1 w' := by
      intro wx hx
      refine (ris_any o wx la.key la.til la.val).mono ?_
      rintro e w' ⟨rfl, b⟩
      exact ⟨by rw [hI], hx.trans (b.mono hx.size)⟩
    have cn : ∀ n wx, Below w1.heap.size w1 wx → Calls Tryz.prog 9 #[.int .i64 n] wx fun e w' => e = .returned (.int .i64 n) ∧ Below w1.heap.size w1 w' := by
      intro n wx hx
      refine (num_any n wx).mono ?_
      rintro e w' ⟨rfl, rfl⟩
      exact ⟨rfl, hx⟩
    have cl : ∀ wx, Below w1.heap.size w1 wx → Calls Tryz.prog 8 #[] wx fun e w' => e = .returned (.bool true) ∧ Below w1.heap.size w1 w' := by
      intro wx hx
      refine (live_any wx (hg1.below hx)).mono ?_
      rintro e w' ⟨rfl, b⟩
      exact ⟨rfl, hx.trans (b.mono hx.size)⟩
    clear hI hK hW0 b1 ca A1
    clear p_0 p_1 p_2 p_3 p_4 p_5 p_6 p_7 p_8 p_9 p_10 p_11 p_12
    rcases hKI with ⟨rfl, rfl⟩ | ⟨rfl, rfl⟩
    all_goals
      go_wp2_with fail
      refine St.wp_region_stage (fun _ wx => Below w1.heap.size w1 wx) (by kernel_rfl) (by kernel_rfl) (by kernel_rfl) (Below.refl _ _).drew ?_
      repeat (first
        | (apply St.step_past
           · rfl
           · exact fun L wx hS => hS
           simp only [Act.put, List.setIfInBounds_toArray, List.set_cons_zero, List.set_cons_succ])
        | (apply St.step_give
           · rfl
           · intro L wx hS hcl hrd
             obtain ⟨_, ⟨d0, d1, d2, d3, d4, d5, d6, d7, d8, d9, d10⟩, _⟩ := hbox wx hS
             go_simp
             try with_reducible rfl
           · exact fun L wx hS => hS
           simp only [Act.put, List.setIfInBounds_toArray, List.set_cons_zero, List.set_cons_succ])
        | (apply St.step_into
           · rfl
           · intro wx
             go_simp
             exact ⟨rfl, rfl⟩
           · first
             | exact fun L wx hS hcl hrd => co wx hS
             | exact fun L wx hS hcl hrd => ci wx hS
             | exact fun L wx hS hcl hrd => cl wx hS
             | exact fun L wx hS hcl hrd => cn _ wx hS
           simp only [Act.put, List.setIfInBounds_toArray, List.set_cons_zero, List.set_cons_succ]))
      refine St.step_last ?_
      intro L wx hS _
      clear co ci cn cl
      go_wp2_with fail
      go_ret
      exact ⟨rfl, hb1.trans (hS.mono (hb1).size)⟩
end Go.Proofs.YthglghlkchhjlaaGreatDoor.Od
