/-
  Put, the program's: an order's text. Conditions: its texts at most 2^20 bytes; its numbers such as a program can hold.
  Check, the program's: whether an order may be. Conditions: lengths at most 2^47; the library's variables hold what their types allow.
  The program's answers of replies: tells, CheckReply, Same, the library's Equal at pairs; the document's Same. Conditions: lengths at most 2^47, at most a million pairs.
-/
import Derived.Test.YtkpakiiijphjeaaGreatDoorPOdA
import Derived.Test.YtkpakiiijphjeaaGreatDoorPDsPNA
import Derived.Test.YtkpakiiijphjeaaGreatDoorPRegA
import Derived.Test.YtkpakiiijphjeaaGreatDoorPOdOFA
namespace Go.Proofs.YtkpakiiijphjeaaGreatDoor.Od
open Go.RowKit Bnd
open Go.Proofs.YtkpakiiijphjeaaGreatDoor.M (tieT numT inR)
open Ds (nb nb_size own_new)
theorem BoxA.kept {N n : Nat} {o : Ask} {w1 w2 : World} (h : BoxA n o w1) (hn : n < N) (hb : Below N w1 w2) : BoxA n o w2 := by
  obtain ⟨h0, ⟨h1, h2, h3, h4, h5, h6, h7, h8, h9, h10, h11⟩, hf⟩ := h
  have hc : ∀ o, w2.cell? ⟨n, o, none⟩ = w1.cell? ⟨n, o, none⟩ := fun o => hb.cell (p := ⟨n, o, none⟩) hn
  refine ⟨Nat.lt_of_lt_of_le h0 hb.size, ⟨?_, ?_, ?_, ?_, ?_, ?_, ?_, ?_, ?_, ?_, ?_⟩, fun o => (hb.frozen (p := ⟨n, o, none⟩) hn).trans (hf o)⟩
  all_goals rw [hc]; assumption
theorem BoxR.kept {N n : Nat} {o : Rep} {s : Value} {w1 w2 : World} (h : BoxR n o s w1) (hn : n < N) (hb : Below N w1 w2) : BoxR n o s w2 := by
  obtain ⟨h0, ⟨h1, h2, h3, h4, h5⟩, hf⟩ := h
  have hc : ∀ o, w2.cell? ⟨n, o, none⟩ = w1.cell? ⟨n, o, none⟩ := fun o => hb.cell (p := ⟨n, o, none⟩) hn
  refine ⟨Nat.lt_of_lt_of_le h0 hb.size, ⟨?_, ?_, ?_, ?_, ?_⟩, fun o => (hb.frozen (p := ⟨n, o, none⟩) hn).trans (hf o)⟩
  all_goals rw [hc]; assumption
abbrev tb (b : Bool) : ByteArray := ⟨(truthT b).toArray⟩
def strS (o : Ask) : List ByteArray := [nb o.kind, nb o.client, nb o.seq, o.key, o.til, o.val, o.old, tb o.has, nb o.lim, nb o.id, nb o.node]
theorem texts_strS (o : Ask) : texts (strS o) = strandsA o := by simp [strS, strandsA, texts]
theorem tb_size (b : Bool) : (tb b).size = 1 := by cases b <;> rfl
structure FitA (o : Ask) : Prop where
  r : InA o
  key : o.key.size ≤ 1048576
  til : o.til.size ≤ 1048576
  val : o.val.size ≤ 1048576
  old : o.old.size ≤ 1048576
theorem few_strS {o : Ask} (h : FitA o) : Few (strS o) := by
  refine ⟨by simp [strS], fun s hs => ?_⟩
  have a1 := nb_size h.r.kind
  have a2 := nb_size h.r.client
  have a3 := nb_size h.r.seq
  have a4 := nb_size h.r.lim
  have a5 := nb_size h.r.id
  have a6 := nb_size h.r.node
  have a7 := tb_size o.has
  have b1 := h.key
  have b2 := h.til
  have b3 := h.val
  have b4 := h.old
  simp only [strS, List.mem_cons, List.not_mem_nil, or_false] at hs
  rcases hs with rfl | rfl | rfl | rfl | rfl | rfl | rfl | rfl | rfl | rfl | rfl <;> omega
set_option maxHeartbeats 8000000 in
set_option maxRecDepth 100000 in
theorem put_any (o : Ask) (w : World) (h : FitA o) : Calls Tryz.prog 35 #[av o] w fun e w' => e = .returned (str (putA o)) ∧ Below w.heap.size w w' := by
  have hfew := few_strS h
  have HT := Lib.hid (texts_strS o)
  have c1 : ∀ n w, inR n → Calls Tryz.prog 33 #[.int .i64 n] w fun e w' => e = .returned (.string (nb n)) ∧ Below w.heap.size w w' := fun n w h => (num_any n w h)
  have c2 : ∀ w, Calls Tryz.prog 79 #[.bool o.has] w fun e w' => e = .returned (.string (tb o.has)) ∧ w = w' := fun w => truth_any o.has w
  obtain ⟨W1, hW1⟩ : ∃ W1, w.alloc (.cells #[.int .i64 o.kind, .int .i64 o.client, .int .i64 o.seq, .string o.key, .string o.til, .string o.val, .string o.old, .bool o.has, .int .i64 o.lim, .int .i64 o.id, .int .i64 o.node] 26) = W1 := ⟨_, rfl⟩
  have B0 : BoxA w.heap.size o W1 := hW1 ▸ BoxA.new w o
  have hz1 : W1.heap.size = w.heap.size + 1 := by rw [← hW1]; simp
  have hbw1 : Below w.heap.size w W1 := by rw [← hW1]; exact (Below.refl _ w).alloc (Nat.le_refl _) _
  have call : ∀ n wx, inR n → Below W1.heap.size W1 wx → Calls Tryz.prog 33 #[.int .i64 n] wx fun e w' => e = .returned (.string (nb n)) ∧ Below W1.heap.size W1 w' := by
    intro n wx hn hx
    refine (c1 n wx hn).mono ?_
    rintro e w' ⟨rfl, b⟩
    exact ⟨rfl, hx.trans (b.mono hx.size)⟩
  have call2 : ∀ wx, Below W1.heap.size W1 wx → Calls Tryz.prog 79 #[.bool o.has] wx fun e w' => e = .returned (.string (tb o.has)) ∧ Below W1.heap.size W1 w' := by
    intro wx hx
    refine (c2 wx).mono ?_
    rintro e w' ⟨rfl, rfl⟩
    exact ⟨rfl, hx⟩
  have hI1 := h.r.kind
  have hI2 := h.r.client
  have hI3 := h.r.seq
  have hI4 := h.r.lim
  have hI5 := h.r.id
  have hI6 := h.r.node
  have hbox : ∀ wx, Below W1.heap.size W1 wx → BoxA w.heap.size o wx := fun wx hx => BoxA.kept (N := W1.heap.size) B0 (by omega) hx
  go_enter Tryz.func35, Tryz.ntmps35
  go_wp2
  try rw [hW1]
  refine St.wp_region_tail 29 (fun _ wx => Below W1.heap.size W1 wx) (by kernel_rfl) (by kernel_rfl) (by kernel_rfl) (by kernel_rfl) (by decide) (Below.refl _ _).drew ?_
  simp only [List.take, List.drop]
  repeat (first
    | (apply St.step_give
       · rfl
       · intro L wx hS hcl hrd
         obtain ⟨_, ⟨d0, d1, d2, d3, d4, d5, d6, d7, d8, d9, d10⟩, _⟩ := hbox wx hS
         go_simp
         try with_reducible rfl
       · exact fun L wx hS => hS
       simp only [Act.put, List.setIfInBounds_toArray, List.set_cons_zero, List.set_cons_succ])
    | (apply St.step_into
       · rfl
       · intro wx
         go_simp
         exact ⟨rfl, rfl⟩
       · first
         | exact fun L wx hS hcl hrd => call2 wx hS
         | exact fun L wx hS hcl hrd => call _ wx (by first | exact hI1 | exact hI2 | exact hI3 | exact hI4 | exact hI5 | exact hI6) hS
       simp only [Act.put, List.setIfInBounds_toArray, List.set_cons_zero, List.set_cons_succ]))
  refine St.step_last ?_
  intro L wx hS _
  clear hI1 hI2 hI3 hI4 hI5 hI6 call call2
  have hz : W1.heap.size ≤ wx.heap.size := hS.size
  have hown0 := own_new wx W1.heap.size (strS o) hz (by simp [strS])
  have hsl := SL.of_own hown0
  have ct := tie_any _ (strS o) _ hsl hfew
  rw [HT.out] at ct
  have hS1 := hS.alloc hz (.cells #[.string (nb o.kind), .string (nb o.client), .string (nb o.seq), .string o.key, .string o.til, .string o.val, .string o.old, .string (tb o.has), .string (nb o.lim), .string (nb o.id), .string (nb o.node)] 9)
  have ct2 : Calls Tryz.prog 32 #[.slice (some ⟨wx.heap.size, 0, none⟩) 11 11] (wx.alloc (.cells #[.string (nb o.kind), .string (nb o.client), .string (nb o.seq), .string o.key, .string o.til, .string o.val, .string o.old, .string (tb o.has), .string (nb o.lim), .string (nb o.id), .string (nb o.node)] 9)) fun e w' => e = .returned (str (putA o)) ∧ Below W1.heap.size W1 w' := by
    refine ct.mono ?_
    rintro e w' ⟨rfl, b⟩
    exact ⟨rfl, hS1.trans (b.mono hS1.size)⟩
  clear hown0 hW1 hsl ct hS1 hS hfew hbox
  go_wp2_with fail
  refine ct2.mono ?_
  rintro e w2 ⟨rfl, b2⟩
  go_wp2_with fail
  go_ret
  exact ⟨rfl, hbw1.trans (b2.mono (by omega))⟩
end Go.Proofs.YtkpakiiijphjeaaGreatDoor.Od

namespace Go.Proofs.YtkpakiiijphjeaaGreatDoor.Od
open Go.RowKit Bnd
open Go.Proofs.YtkpakiiijphjeaaGreatDoor.O (Bd isB keyB)
theorem ba_iff (a b : ByteArray) : a.toList = b.toList ↔ a = b := ⟨fun h => Ds.ba_ext h, fun h => by rw [h]⟩
theorem ite_ok (w : World) (c : Prop) [Decidable c] (x : Bool) : (if c then (Result.ok x w : Result Bool) else .ok false w) = .ok (decide c && x) w := by by_cases h : c <;> simp [h]
theorem own_any (o : Ask) (w : World) : Calls Tryz.prog 95 #[av o] w fun e w' => e = .returned (av (ownA o)) ∧ Below w.heap.size w w' := by
  obtain ⟨kind, client, seq, key, til, val, old, has, lim, id, node⟩ := o
  by_cases h2 : kind = 2
  · subst h2; exact own_2 client seq key til val old has lim id node w
  by_cases h9 : kind = 9
  · subst h9; exact own_9 client seq key til val old has lim id node w
  by_cases h4 : kind = 4
  · subst h4; exact own_4 client seq key til val old has lim id node w
  by_cases h5 : kind = 5
  · subst h5; exact own_5 client seq key til val old has lim id node w
  by_cases h7 : kind = 7
  · subst h7; exact own_7 client seq key til val old has lim id node w
  by_cases h11 : kind = 11
  · subst h11; exact own_11 client seq key til val old has lim id node w
  by_cases h10 : kind = 10
  · subst h10; exact own_10 client seq key til val old has lim id node w
  by_cases h13 : kind = 13
  · subst h13; exact own_13 client seq key til val old has lim id node w
  have e : ownA ⟨kind, client, seq, key, til, val, old, has, lim, id, node⟩ = ⟨kind, client, seq, if keyedK kind = true then key else E0, E0, E0, E0, false, 0, 0, 0⟩ := by
    simp [ownA, h2, h9, h4, h5, h7, h11, h10, h13]
  rw [e]
  cases hk : keyedK kind with
  | true => exact own_o1 kind client seq key til val old has lim id node hk (by simpa using h2) (by simpa using h9) (by simpa using h4) (by simpa using h5) (by simpa using h7) (by simpa using h11) (by simpa using h10) (by simpa using h13) w
  | false => exact own_o0 kind client seq key til val old has lim id node hk (by simpa using h2) (by simpa using h9) (by simpa using h4) (by simpa using h5) (by simpa using h7) (by simpa using h11) (by simpa using h10) (by simpa using h13) w
set_option maxHeartbeats 4000000 in
set_option maxRecDepth 100000 in
theorem run_same_ask (a b : Ask) (w : World) : (Op.equalIn 10000 26 (av a) (av b)).run Tryz.prog w = .ok (sameA a b) w := by
  have e : sameA a b = (decide (a.kind = b.kind) && (decide (a.client = b.client) && (decide (a.seq = b.seq) && (decide (a.key.toList = b.key.toList) && (decide (a.til.toList = b.til.toList) && (decide (a.val.toList = b.val.toList) && (decide (a.old.toList = b.old.toList) && (decide (a.has = b.has) && (decide (a.lim = b.lim) && (decide (a.id = b.id) && (decide (a.node = b.node) && true))))))))))) := by
    rw [Bool.eq_iff_iff]
    unfold sameA
    simp only [decide_eq_true_eq, Bool.and_eq_true, ba_iff, and_true]
  rw [e]
  clear e
  simp only [← ite_ok]
  simp [go_sem]
theorem chkA_zero {o : Ask} (h : sameA o Ask.zero = true) : chkA o = 0 := by unfold chkA isA; rw [h]; rfl
theorem chkA_own {o : Ask} (h : sameA o Ask.zero = false) (h1 : sameA o (ownA o) = false) : chkA o = 70 := by unfold chkA isA; rw [h, h1]; rfl
theorem chkA_cl {o : Ask} (h : sameA o Ask.zero = false) (h1 : seqB o.client = false) : chkA o = 70 := by unfold chkA isA; rw [h, h1]; simp
theorem chkA_sq {o : Ask} (h : sameA o Ask.zero = false) (h1 : seqB o.seq = false) : chkA o = 70 := by unfold chkA isA; rw [h, h1]; simp
theorem chkA_fit {o : Ask} (h : sameA o Ask.zero = false) (h1 : fitsA o = false) : chkA o = 70 := by unfold chkA isA; rw [h, h1]; simp
theorem chkA_all {o : Ask} (h1 : sameA o (ownA o) = true) (h2 : seqB o.client = true) (h3 : seqB o.seq = true) (h4 : fitsA o = true) : chkA o = 0 := by unfold chkA isA; rw [h1, h2, h3, h4]; simp
set_option maxHeartbeats 8000000 in
set_option maxRecDepth 100000 in
theorem check_any (o : Ask) (w : World) (hk : o.key.size ≤ 140737488355328) (ht : o.til.size ≤ 140737488355328) (hv : o.val.size ≤ 140737488355328) (hg : Good w) :
    Calls Tryz.prog 60 #[av o] w fun e w' => e = .returned (.int .i64 (chkA o)) ∧ Below w.heap.size w w' := by
  have hE := fun w => run_same_ask o Ask.zero w
  cases hz : sameA o Ask.zero with
  | true =>
    rw [chkA_zero hz]
    rw [hz] at hE
    clear hz
    go_enter Tryz.func60, Tryz.ntmps60
    go_wp2_with fail
    go_ret
    exact ⟨rfl, (by (repeat' (first | with_reducible assumption | with_reducible exact Below.refl _ _ | with_reducible refine Below.alloc ?_ ?_ _ | with_reducible refine Below.setCell ?_ ?_ _ | with_reducible refine Below.drew ?_ | omega | (simp; done) | (simp; omega))))⟩
  | false =>
    rw [hz] at hE
    obtain ⟨r, hr⟩ : ∃ r, ownA o = r := ⟨_, rfl⟩
    have hE2 := fun w => run_same_ask o r w
    obtain ⟨W1, hW1⟩ : ∃ W1, w.alloc (.cells #[.int .i64 o.kind, .int .i64 o.client, .int .i64 o.seq, .string o.key, .string o.til, .string o.val, .string o.old, .bool o.has, .int .i64 o.lim, .int .i64 o.id, .int .i64 o.node] 26) = W1 := ⟨_, rfl⟩
    have B0 : BoxA w.heap.size o W1 := hW1 ▸ BoxA.new w o
    have hz1 : W1.heap.size = w.heap.size + 1 := by rw [← hW1]; simp
    have hbw1 : Below w.heap.size w W1 := by rw [← hW1]; exact (Below.refl _ w).alloc (Nat.le_refl _) _
    have hg1 := hg.below hbw1
    have hbox : ∀ wx, Below W1.heap.size W1 wx → BoxA w.heap.size o wx := fun wx hx => BoxA.kept (N := W1.heap.size) B0 (by omega) hx
    have co : ∀ wx, Below W1.heap.size W1 wx → Calls Tryz.prog 95 #[av o] wx fun e w' => e = .returned (av r) ∧ Below W1.heap.size W1 w' := by
      intro wx hx
      refine (own_any o wx).mono ?_
      rintro e w' ⟨rfl, b⟩
      rw [hr]
      exact ⟨rfl, hx.trans (b.mono hx.size)⟩
    have cs : ∀ n wx, Below W1.heap.size W1 wx → Calls Tryz.prog 96 #[.int .i64 n] wx fun e w' => e = .returned (.bool (seqB n)) ∧ Below W1.heap.size W1 w' := by
      intro n wx hx
      refine (isSeq_any n wx).mono ?_
      rintro e w' ⟨rfl, rfl⟩
      exact ⟨rfl, hx⟩
    have cf : ∀ wx, Below W1.heap.size W1 wx → Calls Tryz.prog 97 #[av o] wx fun e w' => e = .returned (.bool (fitsA o)) ∧ Below W1.heap.size W1 w' := by
      intro wx hx
      refine (fits_any o wx hk ht hv (hg1.below hx)).mono ?_
      rintro e w' ⟨rfl, b⟩
      exact ⟨rfl, hx.trans (b.mono hx.size)⟩
    have cc := cs o.client
    have cq := cs o.seq
    clear cs
    cases h1 : sameA o r with
    | false =>
      rw [chkA_own hz (by rw [hr]; exact h1)]
      rw [h1] at hE2
      clear hr h1 hz
      obtain ⟨p_0, ⟨p_1, p_2, p_3, p_4, p_5, p_6, p_7, p_8, p_9, p_10, p_11⟩, p_12⟩ := _root_.id B0
      go_enter Tryz.func60, Tryz.ntmps60
      go_wp2_with fail
      try rw [hW1]
      clear p_0 p_1 p_2 p_3 p_4 p_5 p_6 p_7 p_8 p_9 p_10 p_11 p_12
      refine St.wp_region_stage (fun _ wx => Below W1.heap.size W1 wx) (by kernel_rfl) (by kernel_rfl) (by kernel_rfl) (Below.refl _ _).drew ?_
      repeat (first
        | (apply St.step_past
           · rfl
           · exact fun L wx hS => hS
           simp only [Act.put, List.setIfInBounds_toArray, List.set_cons_zero, List.set_cons_succ])
        | (apply St.step_give
           · rfl
           · intro L wx hS hcl hrd
             obtain ⟨_, ⟨d0, d1, d2, d3, d4, d5, d6, d7, d8, d9, d10⟩, _⟩ := hbox wx hS
             go_simp
             try with_reducible rfl
           · exact fun L wx hS => hS
           simp only [Act.put, List.setIfInBounds_toArray, List.set_cons_zero, List.set_cons_succ])
        | (apply St.step_into
           · rfl
           · intro wx
             go_simp
             exact ⟨rfl, rfl⟩
           · first
             | exact fun L wx hS hcl hrd => co wx hS
             | exact fun L wx hS hcl hrd => cc wx hS
             | exact fun L wx hS hcl hrd => cq wx hS
             | exact fun L wx hS hcl hrd => cf wx hS
           simp only [Act.put, List.setIfInBounds_toArray, List.set_cons_zero, List.set_cons_succ]))
      refine St.step_last ?_
      intro L wx hS _
      clear co cc cq cf hE hE2
      go_wp2_with fail
      go_ret
      exact ⟨rfl, hbw1.trans (hS.mono (by omega))⟩
    | true =>
      rw [h1] at hE2
      have h1' : sameA o (ownA o) = true := by rw [hr]; exact h1
      clear hr h1
      cases h2 : seqB o.client with
      | false =>
        rw [chkA_cl hz h2]
        rw [h2] at cc
        clear h2 hz h1'
        obtain ⟨p_0, ⟨p_1, p_2, p_3, p_4, p_5, p_6, p_7, p_8, p_9, p_10, p_11⟩, p_12⟩ := _root_.id B0
        go_enter Tryz.func60, Tryz.ntmps60
        go_wp2_with fail
        try rw [hW1]
        clear p_0 p_1 p_2 p_3 p_4 p_5 p_6 p_7 p_8 p_9 p_10 p_11 p_12
        refine St.wp_region_stage (fun _ wx => Below W1.heap.size W1 wx) (by kernel_rfl) (by kernel_rfl) (by kernel_rfl) (Below.refl _ _).drew ?_
        repeat (first
          | (apply St.step_past
             · rfl
             · exact fun L wx hS => hS
             simp only [Act.put, List.setIfInBounds_toArray, List.set_cons_zero, List.set_cons_succ])
          | (apply St.step_give
             · rfl
             · intro L wx hS hcl hrd
               obtain ⟨_, ⟨d0, d1, d2, d3, d4, d5, d6, d7, d8, d9, d10⟩, _⟩ := hbox wx hS
               go_simp
               try with_reducible rfl
             · exact fun L wx hS => hS
             simp only [Act.put, List.setIfInBounds_toArray, List.set_cons_zero, List.set_cons_succ])
          | (apply St.step_into
             · rfl
             · intro wx
               go_simp
               exact ⟨rfl, rfl⟩
             · first
               | exact fun L wx hS hcl hrd => co wx hS
               | exact fun L wx hS hcl hrd => cc wx hS
               | exact fun L wx hS hcl hrd => cq wx hS
               | exact fun L wx hS hcl hrd => cf wx hS
             simp only [Act.put, List.setIfInBounds_toArray, List.set_cons_zero, List.set_cons_succ]))
        refine St.step_last ?_
        intro L wx hS _
        clear co cc cq cf hE hE2
        go_wp2_with fail
        go_ret
        exact ⟨rfl, hbw1.trans (hS.mono (by omega))⟩
      | true =>
        rw [h2] at cc
        cases h3 : seqB o.seq with
        | false =>
          rw [chkA_sq hz h3]
          rw [h3] at cq
          clear h2 h3 hz h1'
          obtain ⟨p_0, ⟨p_1, p_2, p_3, p_4, p_5, p_6, p_7, p_8, p_9, p_10, p_11⟩, p_12⟩ := _root_.id B0
          go_enter Tryz.func60, Tryz.ntmps60
          go_wp2_with fail
          try rw [hW1]
          clear p_0 p_1 p_2 p_3 p_4 p_5 p_6 p_7 p_8 p_9 p_10 p_11 p_12
          refine St.wp_region_stage (fun _ wx => Below W1.heap.size W1 wx) (by kernel_rfl) (by kernel_rfl) (by kernel_rfl) (Below.refl _ _).drew ?_
          repeat (first
            | (apply St.step_past
               · rfl
               · exact fun L wx hS => hS
               simp only [Act.put, List.setIfInBounds_toArray, List.set_cons_zero, List.set_cons_succ])
            | (apply St.step_give
               · rfl
               · intro L wx hS hcl hrd
                 obtain ⟨_, ⟨d0, d1, d2, d3, d4, d5, d6, d7, d8, d9, d10⟩, _⟩ := hbox wx hS
                 go_simp
                 try with_reducible rfl
               · exact fun L wx hS => hS
               simp only [Act.put, List.setIfInBounds_toArray, List.set_cons_zero, List.set_cons_succ])
            | (apply St.step_into
               · rfl
               · intro wx
                 go_simp
                 exact ⟨rfl, rfl⟩
               · first
                 | exact fun L wx hS hcl hrd => co wx hS
                 | exact fun L wx hS hcl hrd => cc wx hS
                 | exact fun L wx hS hcl hrd => cq wx hS
                 | exact fun L wx hS hcl hrd => cf wx hS
               simp only [Act.put, List.setIfInBounds_toArray, List.set_cons_zero, List.set_cons_succ]))
          refine St.step_last ?_
          intro L wx hS _
          clear co cc cq cf hE hE2
          go_wp2_with fail
          go_ret
          exact ⟨rfl, hbw1.trans (hS.mono (by omega))⟩
        | true =>
          rw [h3] at cq
          cases h4 : fitsA o with
          | false =>
            rw [chkA_fit hz h4]
            rw [h4] at cf
            clear h2 h3 h4 hz h1'
            obtain ⟨p_0, ⟨p_1, p_2, p_3, p_4, p_5, p_6, p_7, p_8, p_9, p_10, p_11⟩, p_12⟩ := _root_.id B0
            go_enter Tryz.func60, Tryz.ntmps60
            go_wp2_with fail
            try rw [hW1]
            clear p_0 p_1 p_2 p_3 p_4 p_5 p_6 p_7 p_8 p_9 p_10 p_11 p_12
            refine St.wp_region_stage (fun _ wx => Below W1.heap.size W1 wx) (by kernel_rfl) (by kernel_rfl) (by kernel_rfl) (Below.refl _ _).drew ?_
            repeat (first
              | (apply St.step_past
                 · rfl
                 · exact fun L wx hS => hS
                 simp only [Act.put, List.setIfInBounds_toArray, List.set_cons_zero, List.set_cons_succ])
              | (apply St.step_give
                 · rfl
                 · intro L wx hS hcl hrd
                   obtain ⟨_, ⟨d0, d1, d2, d3, d4, d5, d6, d7, d8, d9, d10⟩, _⟩ := hbox wx hS
                   go_simp
                   try with_reducible rfl
                 · exact fun L wx hS => hS
                 simp only [Act.put, List.setIfInBounds_toArray, List.set_cons_zero, List.set_cons_succ])
              | (apply St.step_into
                 · rfl
                 · intro wx
                   go_simp
                   exact ⟨rfl, rfl⟩
                 · first
                   | exact fun L wx hS hcl hrd => co wx hS
                   | exact fun L wx hS hcl hrd => cc wx hS
                   | exact fun L wx hS hcl hrd => cq wx hS
                   | exact fun L wx hS hcl hrd => cf wx hS
                 simp only [Act.put, List.setIfInBounds_toArray, List.set_cons_zero, List.set_cons_succ]))
            refine St.step_last ?_
            intro L wx hS _
            clear co cc cq cf hE hE2
            go_wp2_with fail
            go_ret
            exact ⟨rfl, hbw1.trans (hS.mono (by omega))⟩
          | true =>
            rw [chkA_all h1' h2 h3 h4]
            rw [h4] at cf
            clear h2 h3 h4 hz h1'
            obtain ⟨p_0, ⟨p_1, p_2, p_3, p_4, p_5, p_6, p_7, p_8, p_9, p_10, p_11⟩, p_12⟩ := _root_.id B0
            go_enter Tryz.func60, Tryz.ntmps60
            go_wp2_with fail
            try rw [hW1]
            clear p_0 p_1 p_2 p_3 p_4 p_5 p_6 p_7 p_8 p_9 p_10 p_11 p_12
            refine St.wp_region_stage (fun _ wx => Below W1.heap.size W1 wx) (by kernel_rfl) (by kernel_rfl) (by kernel_rfl) (Below.refl _ _).drew ?_
            repeat (first
              | (apply St.step_past
                 · rfl
                 · exact fun L wx hS => hS
                 simp only [Act.put, List.setIfInBounds_toArray, List.set_cons_zero, List.set_cons_succ])
              | (apply St.step_give
                 · rfl
                 · intro L wx hS hcl hrd
                   obtain ⟨_, ⟨d0, d1, d2, d3, d4, d5, d6, d7, d8, d9, d10⟩, _⟩ := hbox wx hS
                   go_simp
                   try with_reducible rfl
                 · exact fun L wx hS => hS
                 simp only [Act.put, List.setIfInBounds_toArray, List.set_cons_zero, List.set_cons_succ])
              | (apply St.step_into
                 · rfl
                 · intro wx
                   go_simp
                   exact ⟨rfl, rfl⟩
                 · first
                   | exact fun L wx hS hcl hrd => co wx hS
                   | exact fun L wx hS hcl hrd => cc wx hS
                   | exact fun L wx hS hcl hrd => cq wx hS
                   | exact fun L wx hS hcl hrd => cf wx hS
                 simp only [Act.put, List.setIfInBounds_toArray, List.set_cons_zero, List.set_cons_succ]))
            refine St.step_last ?_
            intro L wx hS _
            clear co cc cq cf hE hE2
            go_wp2_with fail
            go_ret
            exact ⟨rfl, hbw1.trans (hS.mono (by omega))⟩
end Go.Proofs.YtkpakiiijphjeaaGreatDoor.Od

namespace Go.Proofs.YtkpakiiijphjeaaGreatDoor.Od
open Go.RowKit Bnd
open Go.Proofs.YtkpakiiijphjeaaGreatDoor.O (Bd isB keyB)
open Go.Proofs.YtkpakiiijphjeaaGreatDoor.Bnd (keyE)
theorem tells_any (c e : Int) (w : World) : Calls Tryz.prog 105 #[.int .i64 c, .int .i64 e] w fun x w' => x = .returned (.bool (tellsB c e)) ∧ w = w' := by
  have ca := among_any e 1 999 w
  by_cases h : c = 4
  · subst h
    rw [show tellsB 4 e = amongB e 1 999 from rfl]
    go_enter Tryz.func105, Tryz.ntmps105
    go_wp2_with fail
    refine ca.mono ?_
    rintro x w' ⟨rfl, rfl⟩
    go_wp2_with fail
    go_ret
    exact ⟨rfl, rfl⟩
  · rw [show tellsB c e = decide (e = 0) from if_neg h]
    have g : (c == 4) = false := by simpa using h
    clear h ca
    by_cases h : e = 0
    all_goals
      go_enter Tryz.func105, Tryz.ntmps105
      go_wp2_with fail
      go_ret
      exact ⟨ret_bool (by simp [h]), rfl⟩
theorem all_at {P : List Pr} {k : Nat} (h : k < P.length) : (P.drop k).all pairB = (pairB P[k] && (P.drop (k + 1)).all pairB) := by
  rw [List.drop_eq_getElem_cons h, List.all_cons]
set_option maxHeartbeats 8000000 in
set_option maxRecDepth 100000 in
theorem checkR_any (r : Rep) (s : Value) (w : World) (hs : SP w w.heap.size s r.ps) (hv : r.val.size ≤ 140737488355328) (hl : r.ps.length ≤ 140737488355328) (hsz : ∀ p ∈ r.ps, p.1.size ≤ 140737488355328 ∧ p.2.size ≤ 140737488355328) :
    Calls Tryz.prog 91 #[rv r s] w fun e w' => e = .returned (.int .i64 (chkR r)) ∧ Below w.heap.size w w' := by
  obtain ⟨A, c, rfl⟩ := hs.form
  have ca := fun w => among_any r.code 0 4 w
  have ct := fun w => tells_any r.code r.err w
  obtain ⟨ps, hps⟩ : ∃ ps, r.ps = ps := ⟨_, rfl⟩
  rw [hps] at hs hl hsz ⊢
  cases h1 : amongB r.code 0 4 with
  | false =>
    rw [show chkR r = 70 by unfold chkR isR; rw [h1]; rfl]
    rw [h1] at ca
    clear h1 hps
    go_enter Tryz.func91, Tryz.ntmps91
    go_wp2_with fail
    refine (ca _).mono ?_
    rintro e w1 ⟨rfl, rfl⟩
    go_wp2_with fail
    go_ret
    exact ⟨rfl, (by (repeat' (first | with_reducible assumption | with_reducible exact Below.refl _ _ | with_reducible refine Below.alloc ?_ ?_ _ | with_reducible refine Below.setCell ?_ ?_ _ | with_reducible refine Below.drew ?_ | omega | (simp; done) | (simp; omega))))⟩
  | true =>
    rw [h1] at ca
    cases h2 : tellsB r.code r.err with
    | false =>
      rw [show chkR r = 70 by unfold chkR isR; rw [h1, h2]; rfl]
      rw [h2] at ct
      clear h1 h2 hps
      go_enter Tryz.func91, Tryz.ntmps91
      go_wp2_with fail
      refine (ca _).mono ?_
      rintro e w1 ⟨rfl, rfl⟩
      go_wp2_with fail
      refine (ct _).mono ?_
      rintro e w1 ⟨rfl, rfl⟩
      go_wp2_with fail
      go_ret
      exact ⟨rfl, (by (repeat' (first | with_reducible assumption | with_reducible exact Below.refl _ _ | with_reducible refine Below.alloc ?_ ?_ _ | with_reducible refine Below.setCell ?_ ?_ _ | with_reducible refine Below.drew ?_ | omega | (simp; done) | (simp; omega))))⟩
    | true =>
      rw [h2] at ct
      by_cases h3 : r.val.size ≤ 65536
      rotate_left
      · rw [show chkR r = 70 by unfold chkR isR; rw [h1, h2]; simp [h3]]
        have g1 : ((r.val.size : Int) > 65536) = True := eq_true (by omega)
        clear h1 h2 hps h3
        go_enter Tryz.func91, Tryz.ntmps91
        go_wp2_with fail
        refine (ca _).mono ?_
        rintro e w1 ⟨rfl, rfl⟩
        go_wp2_with fail
        refine (ct _).mono ?_
        rintro e w1 ⟨rfl, rfl⟩
        go_wp2_with fail
        go_ret
        exact ⟨rfl, (by (repeat' (first | with_reducible assumption | with_reducible exact Below.refl _ _ | with_reducible refine Below.alloc ?_ ?_ _ | with_reducible refine Below.setCell ?_ ?_ _ | with_reducible refine Below.drew ?_ | omega | (simp; done) | (simp; omega))))⟩
      have g1 : ((r.val.size : Int) > 65536) = False := eq_false (by omega)
      by_cases h4 : ps.length ≤ 100
      rotate_left
      · rw [show chkR r = 70 by unfold chkR isR; rw [h1, h2, hps]; simp [h4]]
        have g2 : ((ps.length : Int) > 100) = True := eq_true (by omega)
        clear h1 h2 hps h3 h4
        go_enter Tryz.func91, Tryz.ntmps91
        go_wp2_with fail
        refine (ca _).mono ?_
        rintro e w1 ⟨rfl, rfl⟩
        go_wp2_with fail
        refine (ct _).mono ?_
        rintro e w1 ⟨rfl, rfl⟩
        go_wp2_with fail
        go_ret
        exact ⟨rfl, (by (repeat' (first | with_reducible assumption | with_reducible exact Below.refl _ _ | with_reducible refine Below.alloc ?_ ?_ _ | with_reducible refine Below.setCell ?_ ?_ _ | with_reducible refine Below.drew ?_ | omega | (simp; done) | (simp; omega))))⟩
      have g2 : ((ps.length : Int) > 100) = False := eq_false (by omega)
      obtain ⟨R, hR⟩ : ∃ R, (ps.drop 0).all pairB = R := ⟨_, rfl⟩
      have he : chkR r = if R = true then 0 else 70 := by
        unfold chkR isR
        rw [h1, h2, hps, ← hR]
        rw [decide_eq_true h3, decide_eq_true h4]
        rfl
      rw [he]
      have HR0 := Lib.hid hR
      clear h1 h2 h3 hps he hR
      go_enter Tryz.func91, Tryz.ntmps91
      go_wp2_with fail
      refine (ca _).mono ?_
      rintro e w1 ⟨rfl, rfl⟩
      go_wp2_with fail
      refine (ct _).mono ?_
      rintro e w1 ⟨rfl, rfl⟩
      go_wp2_with fail
      clear ca ct
      go_loopw [4, 30] (fun _ vi wr => ∃ k : Nat, k ≤ ps.length ∧ vi = .int .i64 (k : Int) ∧ Hid ((ps.drop k).all pairB = R) ∧ Below w.heap.size w wr) (fun _ vi _ => ps.length - (intOf vi).toNat)
      case atStart => exact ⟨0, Nat.zero_le _, rfl, HR0, (by (repeat' (first | with_reducible assumption | with_reducible exact Below.refl _ _ | with_reducible refine Below.alloc ?_ ?_ _ | with_reducible refine Below.setCell ?_ ?_ _ | with_reducible refine Below.drew ?_ | omega | (simp; done) | (simp; omega))))⟩
      case round =>
        obtain ⟨k, hk, rfl, HR, hbw⟩ := hrel
        have hz := hbw.size
        by_cases hlt : k < ps.length
        · obtain ⟨b, o, rfl, hb, hc1, hc2⟩ := (hs.below hbw).at_ hlt
          have hbz : b < wr.heap.size := by omega
          have hp := hsz _ (List.getElem_mem hlt)
          have hst := all_at hlt
          obtain ⟨⟨x, y⟩, hm⟩ : ∃ m, ps[k] = m := ⟨_, rfl⟩
          rw [hm] at hc1 hc2 hp hst
          have ck := fun w => key_any x w hp.1
          have HP := Lib.hid hp
          rw [HR.out] at hst
          have HS := Lib.hid hst
          have hk1 : (k : Int) < (ps.length : Int) := by omega
          have hk0 : (0 : Int) ≤ (k : Int) := by omega
          clear hm hst hp HR
          unfold keyE at ck
          cases hkb : keyB x.toList with
          | false =>
            have hRf : R = false := by rw [HS.out]; unfold pairB; simp [hkb]
            subst hRf
            rw [hkb] at ck
            simp only [Bool.false_eq_true, if_false] at ck ⊢
            clear hkb HS
            go_wp2_with fail
            refine (ck _).mono ?_
            rintro e w1 ⟨rfl, rfl⟩
            go_wp2_with fail
            go_ret
            exact ⟨rfl, (by (repeat' (first | with_reducible assumption | with_reducible exact Below.refl _ _ | with_reducible refine Below.alloc ?_ ?_ _ | with_reducible refine Below.setCell ?_ ?_ _ | with_reducible refine Below.drew ?_ | omega | (simp; done) | (simp; omega))))⟩
          | true =>
            rw [hkb] at ck
            simp only [if_true] at ck
            by_cases hy : y.size ≤ 512
            · have HN := Lib.hid (show (ps.drop (k + 1)).all pairB = R by rw [HS.out]; unfold pairB; simp [hkb, hy])
              have g3 : ((y.size : Int) > 512) = False := eq_false (by omega)
              clear hkb HS hy
              go_wp2_with fail
              refine (ck _).mono ?_
              rintro e w1 ⟨rfl, rfl⟩
              go_wp2_with fail
              go_roundw
              case rel => exact ⟨k + 1, by omega, by go_num, HN, (by (repeat' (first | with_reducible assumption | with_reducible exact Below.refl _ _ | with_reducible refine Below.alloc ?_ ?_ _ | with_reducible refine Below.setCell ?_ ?_ _ | with_reducible refine Below.drew ?_ | omega | (simp; done) | (simp; omega))))⟩
              case measure => simp [intOf]; omega
            · have hRf : R = false := by rw [HS.out]; unfold pairB; simp [hkb, hy]
              subst hRf
              have g3 : ((y.size : Int) > 512) = True := eq_true (by omega)
              clear hkb HS hy
              go_wp2_with fail
              refine (ck _).mono ?_
              rintro e w1 ⟨rfl, rfl⟩
              go_wp2_with fail
              go_ret
              exact ⟨rfl, (by (repeat' (first | with_reducible assumption | with_reducible exact Below.refl _ _ | with_reducible refine Below.alloc ?_ ?_ _ | with_reducible refine Below.setCell ?_ ?_ _ | with_reducible refine Below.drew ?_ | omega | (simp; done) | (simp; omega))))⟩
        · obtain rfl : k = ps.length := by omega
          have hRt : R = true := by rw [← HR.out]; simp
          subst hRt
          clear HR
          go_wp2_with fail
          go_ret
          exact ⟨rfl, (by (repeat' (first | with_reducible assumption | with_reducible exact Below.refl _ _ | with_reducible refine Below.alloc ?_ ?_ _ | with_reducible refine Below.setCell ?_ ?_ _ | with_reducible refine Below.drew ?_ | omega | (simp; done) | (simp; omega))))⟩
end Go.Proofs.YtkpakiiijphjeaaGreatDoor.Od
