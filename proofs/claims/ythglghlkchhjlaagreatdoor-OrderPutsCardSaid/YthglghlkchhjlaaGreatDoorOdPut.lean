/-
  Put, the program's: an order's text. Conditions: its texts at most 2^20 bytes; its numbers such as a program can hold.
-/
import Derived.Test.YthglghlkchhjlaaGreatDoorOdA
import Derived.Test.YthglghlkchhjlaaGreatDoorDsPut
import Derived.Test.YthglghlkchhjlaaGreatDoorRegA
namespace Go.Proofs.YthglghlkchhjlaaGreatDoor.Od
open Go.RowKit Bnd
open Go.Proofs.YthglghlkchhjlaaGreatDoor.M (tieT numT inR)
open Ds (nb nb_size own_new)

theorem BoxA.kept {N n : Nat} {o : Ask} {w1 w2 : World} (h : BoxA n o w1) (hn : n < N) (hb : Below N w1 w2) : BoxA n o w2 := by
  obtain ⟨h0, ⟨h1, h2, h3, h4, h5, h6, h7, h8, h9, h10, h11⟩, hf⟩ := h
  have hc : ∀ o, w2.cell? ⟨n, o, none⟩ = w1.cell? ⟨n, o, none⟩ := fun o => hb.cell (p := ⟨n, o, none⟩) hn
  refine ⟨Nat.lt_of_lt_of_le h0 hb.size, ⟨?_, ?_, ?_, ?_, ?_, ?_, ?_, ?_, ?_, ?_, ?_⟩, fun o => (hb.frozen (p := ⟨n, o, none⟩) hn).trans (hf o)⟩
  all_goals rw [hc]; assumption
theorem BoxR.kept {N n : Nat} {o : Rep} {s : Value} {w1 w2 : World} (h : BoxR n o s w1) (hn : n < N) (hb : Below N w1 w2) : BoxR n o s w2 := by
  obtain ⟨h0, ⟨h1, h2, h3, h4, h5⟩, hf⟩ := h
  have hc : ∀ o, w2.cell? ⟨n, o, none⟩ = w1.cell? ⟨n, o, none⟩ := fun o => hb.cell (p := ⟨n, o, none⟩) hn
  refine ⟨Nat.lt_of_lt_of_le h0 hb.size, ⟨?_, ?_, ?_, ?_, ?_⟩, fun o => (hb.frozen (p := ⟨n, o, none⟩) hn).trans (hf o)⟩
  all_goals rw [hc]; assumption

abbrev tb (b : Bool) : ByteArray := ⟨(truthT b).toArray⟩
def strS (o : Ask) : List ByteArray := [nb o.kind, nb o.client, nb o.seq, o.key, o.til, o.val, o.old, tb o.has, nb o.lim, nb o.id, nb o.node]
theorem texts_strS (o : Ask) : texts (strS o) = strandsA o := by simp [strS, strandsA, texts]
theorem tb_size (b : Bool) : (tb b).size = 1 := by cases b <;> rfl
/-- what is asked of an order that comes in -/
structure FitA (o : Ask) : Prop where
  r : InA o
  key : o.key.size ≤ 1048576
  til : o.til.size ≤ 1048576
  val : o.val.size ≤ 1048576
  old : o.old.size ≤ 1048576
theorem few_strS {o : Ask} (h : FitA o) : Few (strS o) := by
  refine ⟨by simp [strS], fun s hs => ?_⟩
  have a1 := nb_size h.r.kind
  have a2 := nb_size h.r.client
  have a3 := nb_size h.r.seq
  have a4 := nb_size h.r.lim
  have a5 := nb_size h.r.id
  have a6 := nb_size h.r.node
  have a7 := tb_size o.has
  have b1 := h.key
  have b2 := h.til
  have b3 := h.val
  have b4 := h.old
  simp only [strS, List.mem_cons, List.not_mem_nil, or_false] at hs
  rcases hs with rfl | rfl | rfl | rfl | rfl | rfl | rfl | rfl | rfl | rfl | rfl <;> omega

set_option maxHeartbeats 8000000 in
set_option maxRecDepth 100000 in
theorem put_any (o : Ask) (w : World) (h : FitA o) : Calls Tryz.prog 14 #[av o] w fun e w' => e = .returned (str (putA o)) ∧ Below w.heap.size w w' := by
  have hfew := few_strS h
  have HT := Lib.hid (texts_strS o)
  have c1 : ∀ n w, inR n → Calls Tryz.prog 51 #[.int .i64 n] w fun e w' => e = .returned (.string (nb n)) ∧ Below w.heap.size w w' := fun n w h => (num_any n w h)
  have c2 : ∀ w, Calls Tryz.prog 52 #[.bool o.has] w fun e w' => e = .returned (.string (tb o.has)) ∧ w = w' := fun w => truth_any o.has w
  obtain ⟨W1, hW1⟩ : ∃ W1, w.alloc (.cells #[.int .i64 o.kind, .int .i64 o.client, .int .i64 o.seq, .string o.key, .string o.til, .string o.val, .string o.old, .bool o.has, .int .i64 o.lim, .int .i64 o.id, .int .i64 o.node] 23) = W1 := ⟨_, rfl⟩
  have B0 : BoxA w.heap.size o W1 := hW1 ▸ BoxA.new w o
  have hz1 : W1.heap.size = w.heap.size + 1 := by rw [← hW1]; simp
  have hbw1 : Below w.heap.size w W1 := by rw [← hW1]; exact (Below.refl _ w).alloc (Nat.le_refl _) _
  have call : ∀ n wx, inR n → Below W1.heap.size W1 wx → Calls Tryz.prog 51 #[.int .i64 n] wx fun e w' => e = .returned (.string (nb n)) ∧ Below W1.heap.size W1 w' := by
    intro n wx hn hx
    refine (c1 n wx hn).mono ?_
    rintro e w' ⟨rfl, b⟩
    exact ⟨rfl, hx.trans (b.mono hx.size)⟩
  have call2 : ∀ wx, Below W1.heap.size W1 wx → Calls Tryz.prog 52 #[.bool o.has] wx fun e w' => e = .returned (.string (tb o.has)) ∧ Below W1.heap.size W1 w' := by
    intro wx hx
    refine (c2 wx).mono ?_
    rintro e w' ⟨rfl, rfl⟩
    exact ⟨rfl, hx⟩
  have hI1 := h.r.kind
  have hI2 := h.r.client
  have hI3 := h.r.seq
  have hI4 := h.r.lim
  have hI5 := h.r.id
  have hI6 := h.r.node
  have hbox : ∀ wx, Below W1.heap.size W1 wx → BoxA w.heap.size o wx := fun wx hx => BoxA.kept (N := W1.heap.size) B0 (by omega) hx
  go_enter Tryz.func14, Tryz.ntmps14
  go_wp2
  try rw [hW1]
  refine St.wp_region_tail 29 (fun _ wx => Below W1.heap.size W1 wx) (by kernel_rfl) (by kernel_rfl) (by kernel_rfl) (by kernel_rfl) (by decide) (Below.refl _ _).drew ?_
  simp only [List.take, List.drop]
  repeat (first
    | (apply St.step_give
       · rfl
       · intro L wx hS hcl hrd
         obtain ⟨_, ⟨d0, d1, d2, d3, d4, d5, d6, d7, d8, d9, d10⟩, _⟩ := hbox wx hS
         go_simp
         try with_reducible rfl
       · exact fun L wx hS => hS
       simp only [Act.put, List.setIfInBounds_toArray, List.set_cons_zero, List.set_cons_succ])
    | (apply St.step_into
       · rfl
       · intro wx
         go_simp
         exact ⟨rfl, rfl⟩
       · first
         | exact fun L wx hS hcl hrd => call2 wx hS
         | exact fun L wx hS hcl hrd => call _ wx (by first | exact hI1 | exact hI2 | exact hI3 | exact hI4 | exact hI5 | exact hI6) hS
       simp only [Act.put, List.setIfInBounds_toArray, List.set_cons_zero, List.set_cons_succ]))
  refine St.step_last ?_
  intro L wx hS _
  clear hI1 hI2 hI3 hI4 hI5 hI6 call call2
  have hz : W1.heap.size ≤ wx.heap.size := hS.size
  have hown0 := own_new wx W1.heap.size (strS o) hz (by simp [strS])
  have hsl := SL.of_own hown0
  have ct := tie_any _ (strS o) _ hsl hfew
  rw [HT.out] at ct
  have hS1 := hS.alloc hz (.cells #[.string (nb o.kind), .string (nb o.client), .string (nb o.seq), .string o.key, .string o.til, .string o.val, .string o.old, .string (tb o.has), .string (nb o.lim), .string (nb o.id), .string (nb o.node)] 9)
  have ct2 : Calls Tryz.prog 50 #[.slice (some ⟨wx.heap.size, 0, none⟩) 11 11] (wx.alloc (.cells #[.string (nb o.kind), .string (nb o.client), .string (nb o.seq), .string o.key, .string o.til, .string o.val, .string o.old, .string (tb o.has), .string (nb o.lim), .string (nb o.id), .string (nb o.node)] 9)) fun e w' => e = .returned (str (putA o)) ∧ Below W1.heap.size W1 w' := by
    refine ct.mono ?_
    rintro e w' ⟨rfl, b⟩
    exact ⟨rfl, hS1.trans (b.mono hS1.size)⟩
  clear hown0 hW1 hsl ct hS1 hS hfew hbox
  go_wp2_with fail
  refine ct2.mono ?_
  rintro e w2 ⟨rfl, b2⟩
  go_wp2_with fail
  go_ret
  exact ⟨rfl, hbw1.trans (b2.mono (by omega))⟩
end Go.Proofs.YthglghlkchhjlaaGreatDoor.Od
