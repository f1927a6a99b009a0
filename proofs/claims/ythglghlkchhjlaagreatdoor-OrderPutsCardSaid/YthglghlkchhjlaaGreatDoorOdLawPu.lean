/-
  OrderPuts, walked: it answers true. Conditions: lengths at most 2^47; numbers such as a program can hold; the library's variables hold what their types allow.
-/
import Derived.Test.YthglghlkchhjlaaGreatDoorOdLawB
import Derived.Test.YthglghlkchhjlaaGreatDoorOdRParse
namespace Go.Proofs.YthglghlkchhjlaaGreatDoor.Od
open Go.RowKit Bnd

set_option maxHeartbeats 8000000 in
set_option maxRecDepth 100000 in
theorem walk_puts (o : Ask) (s : ByteArray) (w : World) (la : LimA o) (hs : s.size ≤ 140737488355328) (hg : Good w) :
    Calls Tryz.prog 4 #[av o, .string s] w fun e w' => e = .returned (.bool true) ∧ Below w.heap.size w w' := by
  have ca := fun w => small_any o w la.key la.til la.val la.old
  obtain ⟨W0, hW0⟩ : ∃ W0, w.alloc (.cells #[.int .i64 o.kind, .int .i64 o.client, .int .i64 o.seq, .string o.key, .string o.til, .string o.val, .string o.old, .bool o.has, .int .i64 o.lim, .int .i64 o.id, .int .i64 o.node] 23) = W0 := ⟨_, rfl⟩
  have A0 : BoxA w.heap.size o W0 := hW0 ▸ BoxA.new w o
  have hb0 : Below w.heap.size w W0 := by rw [← hW0]; exact (Below.refl _ w).alloc (Nat.le_refl _) _
  have hz0 := hb0.size
  cases hsa : smallA o with
  | false =>
    rw [hsa] at ca
    clear hsa
    obtain ⟨p_0, ⟨p_1, p_2, p_3, p_4, p_5, p_6, p_7, p_8, p_9, p_10, p_11⟩, p_12⟩ := _root_.id A0
    go_enter Tryz.func4, Tryz.ntmps4
    go_wp2_with fail
    refine (ca _).mono ?_
    rintro e w1 ⟨rfl, b1⟩
    have hb1 := hb0.trans (b1.mono hz0)
    clear hW0 b1
    go_wp2_with fail
    refine (live_any _ (hg.below hb1)).mono ?_
    rintro e w9 ⟨rfl, b9⟩
    go_wp2_with fail
    go_ret
    exact ⟨rfl, (hb1).trans (b9.mono (hb1).size)⟩
  | true =>
    have fa := la.fit hsa
    rw [hsa] at ca
    clear hsa
    by_cases hlong : 20000 < s.size
    · have e1 : ((s.size : Int) > 20000) = True := eq_true (by omega)
      clear hlong
      obtain ⟨p_0, ⟨p_1, p_2, p_3, p_4, p_5, p_6, p_7, p_8, p_9, p_10, p_11⟩, p_12⟩ := _root_.id A0
      go_enter Tryz.func4, Tryz.ntmps4
      go_wp2_with fail
      refine (ca _).mono ?_
      rintro e w1 ⟨rfl, b1⟩
      have hb1 := hb0.trans (b1.mono hz0)
      clear hW0 b1
      go_wp2_with fail
      refine (live_any _ (hg.below hb1)).mono ?_
      rintro e w9 ⟨rfl, b9⟩
      go_wp2_with fail
      go_ret
      exact ⟨rfl, (hb1).trans (b9.mono (hb1).size)⟩
    have e1 : ((s.size : Int) > 20000) = False := eq_false (by omega)
    clear hlong
    obtain ⟨⟨x, n⟩, hq⟩ : ∃ q, parseA s.data.toList = q := ⟨_, rfl⟩
    have cp : ∀ w, Good w → Calls Tryz.prog 12 #[.string s] w fun e w' => e = .returned (.tuple #[av x, .int .i64 n]) ∧ Below w.heap.size w w' := by
      intro w hg
      have := parse_any s w hs hg
      rw [hq] at this
      exact this
    have cr : ∀ w, Calls Tryz.prog 13 #[.string s] w fun e w' => e = .returned (.tuple #[av x, .int .i64 n]) ∧ Below w.heap.size w w' := by
      intro w
      have := rparse_any s w hs
      rw [hq] at this
      exact this
    have hE := fun w => run_same_ask x x w
    rw [same_self x] at hE
    obtain ⟨P, hP⟩ : ∃ P : ByteArray, (⟨(putA o).toArray⟩ : ByteArray) = P := ⟨_, rfl⟩
    clear hq
    obtain ⟨p_0, ⟨p_1, p_2, p_3, p_4, p_5, p_6, p_7, p_8, p_9, p_10, p_11⟩, p_12⟩ := _root_.id A0
    go_enter Tryz.func4, Tryz.ntmps4
    go_wp2_with fail
    refine (ca _).mono ?_
    rintro e w1 ⟨rfl, b1⟩
    have A1 := A0.keep b1
    have hb1 := hb0.trans (b1.mono hz0)
    have hg1 := hg.below hb1
    have hz1 := hb1.size
    clear hW0 b1 ca
    clear p_0 p_1 p_2 p_3 p_4 p_5 p_6 p_7 p_8 p_9 p_10 p_11 p_12
    go_wp2_with fail
    refine (cp _ hg1).mono ?_
    rintro e w2 ⟨rfl, b2⟩
    have A2 := A1.keep b2
    have hb2 := hb1.trans (b2.mono hz1)
    have hz2 := hb2.size
    clear b2 A1
    go_wp2_with fail
    refine (cr _).mono ?_
    rintro e w3 ⟨rfl, b3⟩
    have A3 := (A2.alloc (.cells #[.int .i64 x.kind, .int .i64 x.client, .int .i64 x.seq, .string x.key, .string x.til, .string x.val, .string x.old, .bool x.has, .int .i64 x.lim, .int .i64 x.id, .int .i64 x.node] 23)).keep b3
    have X3 := (BoxA.new w2 x).keep b3
    have hb3 : Below w.heap.size w w3 := (hb2.alloc hz2 _).trans (b3.mono (by simp; omega))
    have hz3 := hb3.size
    obtain ⟨W3, hW3⟩ : ∃ W3, w3.alloc (.cells #[.int .i64 x.kind, .int .i64 x.client, .int .i64 x.seq, .string x.key, .string x.til, .string x.val, .string x.old, .bool x.has, .int .i64 x.lim, .int .i64 x.id, .int .i64 x.node] 23) = W3 := ⟨_, rfl⟩
    have A4 : BoxA w.heap.size o W3 := hW3 ▸ A3.alloc _
    have X4 : BoxA w2.heap.size x W3 := hW3 ▸ X3.alloc _
    have Y4 : BoxA w3.heap.size x W3 := hW3 ▸ BoxA.new w3 x
    have hb4 : Below w.heap.size w W3 := hW3 ▸ hb3.alloc hz3 _
    have hg4 := hg.below hb4
    clear b3 A2 A3 X3
    have hbox : ∀ wx, Below W3.heap.size W3 wx → BoxA w.heap.size o wx ∧ BoxA w2.heap.size x wx ∧ BoxA w3.heap.size x wx := fun wx hx => ⟨BoxA.kept (N := W3.heap.size) A4 A4.1 hx, BoxA.kept (N := W3.heap.size) X4 X4.1 hx, BoxA.kept (N := W3.heap.size) Y4 Y4.1 hx⟩
    have c1 : ∀ wx, Below W3.heap.size W3 wx → Calls Tryz.prog 14 #[av o] wx fun e w' => e = .returned (.string P) ∧ Below W3.heap.size W3 w' := by
      intro wx hx
      refine (put_any o wx fa).mono ?_
      rintro e w' ⟨rfl, b⟩
      exact ⟨by rw [← hP], hx.trans (b.mono hx.size)⟩
    have c2 : ∀ wx, Below W3.heap.size W3 wx → Calls Tryz.prog 15 #[av o] wx fun e w' => e = .returned (.string P) ∧ Below W3.heap.size W3 w' := by
      intro wx hx
      refine (rput_any o wx fa).mono ?_
      rintro e w' ⟨rfl, b⟩
      exact ⟨by rw [← hP], hx.trans (b.mono hx.size)⟩
    have cn : ∀ wx, Below W3.heap.size W3 wx → Calls Tryz.prog 9 #[.int .i64 n] wx fun e w' => e = .returned (.int .i64 n) ∧ Below W3.heap.size W3 w' := by
      intro wx hx
      refine (num_any n wx).mono ?_
      rintro e w' ⟨rfl, rfl⟩
      exact ⟨rfl, hx⟩
    have cl : ∀ wx, Below W3.heap.size W3 wx → Calls Tryz.prog 8 #[] wx fun e w' => e = .returned (.bool true) ∧ Below W3.heap.size W3 w' := by
      intro wx hx
      refine (live_any wx (hg4.below hx)).mono ?_
      rintro e w' ⟨rfl, b⟩
      exact ⟨rfl, hx.trans (b.mono hx.size)⟩
    clear hP A4 X4 Y4 cp cr
    go_wp2_with fail
    try rw [hW3]
    refine St.wp_region_stage (fun _ wx => Below W3.heap.size W3 wx) (by kernel_rfl) (by kernel_rfl) (by kernel_rfl) (Below.refl _ _).drew ?_
    repeat (first
      | (apply St.step_past
         · rfl
         · exact fun L wx hS => hS
         simp only [Act.put, List.setIfInBounds_toArray, List.set_cons_zero, List.set_cons_succ])
      | (apply St.step_give
         · rfl
         · intro L wx hS hcl hrd
           obtain ⟨⟨_, ⟨d0, d1, d2, d3, d4, d5, d6, d7, d8, d9, d10⟩, _⟩, ⟨_, ⟨f0, f1, f2, f3, f4, f5, f6, f7, f8, f9, f10⟩, _⟩, ⟨_, ⟨g0, g1, g2, g3, g4, g5, g6, g7, g8, g9, g10⟩, _⟩⟩ := hbox wx hS
           go_simp
           try with_reducible rfl
         · exact fun L wx hS => hS
         simp only [Act.put, List.setIfInBounds_toArray, List.set_cons_zero, List.set_cons_succ])
      | (apply St.step_into
         · rfl
         · intro wx
           go_simp
           exact ⟨rfl, rfl⟩
         · first
           | exact fun L wx hS hcl hrd => c1 wx hS
           | exact fun L wx hS hcl hrd => c2 wx hS
           | exact fun L wx hS hcl hrd => cl wx hS
           | exact fun L wx hS hcl hrd => cn wx hS
         simp only [Act.put, List.setIfInBounds_toArray, List.set_cons_zero, List.set_cons_succ]))
    refine St.step_last ?_
    intro L wx hS _
    clear c1 c2 cn cl
    go_wp2_with fail
    go_ret
    exact ⟨rfl, hb4.trans (hS.mono (hb4).size)⟩
end Go.Proofs.YthglghlkchhjlaaGreatDoor.Od
