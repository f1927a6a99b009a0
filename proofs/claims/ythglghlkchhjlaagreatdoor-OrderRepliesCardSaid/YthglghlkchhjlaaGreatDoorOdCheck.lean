/-
  Check, the program's: whether an order may be. Conditions: lengths at most 2^47; the library's variables hold what their types allow.
-/
import Derived.Test.YthglghlkchhjlaaGreatDoorOdOwn
import Derived.Test.YthglghlkchhjlaaGreatDoorOdFits
import Derived.Test.YthglghlkchhjlaaGreatDoorOdPut
namespace Go.Proofs.YthglghlkchhjlaaGreatDoor.Od
open Go.RowKit Bnd
open Go.Proofs.YthglghlkchhjlaaGreatDoor.O (Bd isB keyB)

theorem ba_iff (a b : ByteArray) : a.toList = b.toList ↔ a = b := ⟨fun h => Ds.ba_ext h, fun h => by rw [h]⟩
theorem ite_ok (w : World) (c : Prop) [Decidable c] (x : Bool) : (if c then (Result.ok x w : Result Bool) else .ok false w) = .ok (decide c && x) w := by by_cases h : c <;> simp [h]
theorem own_any (o : Ask) (w : World) : Calls Tryz.prog 38 #[av o] w fun e w' => e = .returned (av (ownA o)) ∧ Below w.heap.size w w' := by
  obtain ⟨kind, client, seq, key, til, val, old, has, lim, id, node⟩ := o
  by_cases h2 : kind = 2
  · subst h2; exact own_2 client seq key til val old has lim id node w
  by_cases h9 : kind = 9
  · subst h9; exact own_9 client seq key til val old has lim id node w
  by_cases h4 : kind = 4
  · subst h4; exact own_4 client seq key til val old has lim id node w
  by_cases h5 : kind = 5
  · subst h5; exact own_5 client seq key til val old has lim id node w
  by_cases h7 : kind = 7
  · subst h7; exact own_7 client seq key til val old has lim id node w
  by_cases h11 : kind = 11
  · subst h11; exact own_11 client seq key til val old has lim id node w
  by_cases h10 : kind = 10
  · subst h10; exact own_10 client seq key til val old has lim id node w
  by_cases h13 : kind = 13
  · subst h13; exact own_13 client seq key til val old has lim id node w
  have e : ownA ⟨kind, client, seq, key, til, val, old, has, lim, id, node⟩ = ⟨kind, client, seq, if keyedK kind = true then key else E0, E0, E0, E0, false, 0, 0, 0⟩ := by
    simp [ownA, h2, h9, h4, h5, h7, h11, h10, h13]
  rw [e]
  cases hk : keyedK kind with
  | true => exact own_o1 kind client seq key til val old has lim id node hk (by simpa using h2) (by simpa using h9) (by simpa using h4) (by simpa using h5) (by simpa using h7) (by simpa using h11) (by simpa using h10) (by simpa using h13) w
  | false => exact own_o0 kind client seq key til val old has lim id node hk (by simpa using h2) (by simpa using h9) (by simpa using h4) (by simpa using h5) (by simpa using h7) (by simpa using h11) (by simpa using h10) (by simpa using h13) w
set_option maxHeartbeats 4000000 in
set_option maxRecDepth 100000 in
/-- two orders are compared field by field -/
theorem run_same_ask (a b : Ask) (w : World) : (Op.equalIn 10000 23 (av a) (av b)).run Tryz.prog w = .ok (sameA a b) w := by
  have e : sameA a b = (decide (a.kind = b.kind) && (decide (a.client = b.client) && (decide (a.seq = b.seq) && (decide (a.key.toList = b.key.toList) && (decide (a.til.toList = b.til.toList) && (decide (a.val.toList = b.val.toList) && (decide (a.old.toList = b.old.toList) && (decide (a.has = b.has) && (decide (a.lim = b.lim) && (decide (a.id = b.id) && (decide (a.node = b.node) && true))))))))))) := by
    rw [Bool.eq_iff_iff]
    unfold sameA
    simp only [decide_eq_true_eq, Bool.and_eq_true, ba_iff, and_true]
  rw [e]
  clear e
  simp only [← ite_ok]
  simp [go_sem]

/-- what Check goes by -/
theorem chkA_zero {o : Ask} (h : sameA o Ask.zero = true) : chkA o = 0 := by unfold chkA isA; rw [h]; rfl
theorem chkA_own {o : Ask} (h : sameA o Ask.zero = false) (h1 : sameA o (ownA o) = false) : chkA o = 70 := by unfold chkA isA; rw [h, h1]; rfl
theorem chkA_cl {o : Ask} (h : sameA o Ask.zero = false) (h1 : seqB o.client = false) : chkA o = 70 := by unfold chkA isA; rw [h, h1]; simp
theorem chkA_sq {o : Ask} (h : sameA o Ask.zero = false) (h1 : seqB o.seq = false) : chkA o = 70 := by unfold chkA isA; rw [h, h1]; simp
theorem chkA_fit {o : Ask} (h : sameA o Ask.zero = false) (h1 : fitsA o = false) : chkA o = 70 := by unfold chkA isA; rw [h, h1]; simp
theorem chkA_all {o : Ask} (h1 : sameA o (ownA o) = true) (h2 : seqB o.client = true) (h3 : seqB o.seq = true) (h4 : fitsA o = true) : chkA o = 0 := by unfold chkA isA; rw [h1, h2, h3, h4]; simp

set_option maxHeartbeats 8000000 in
set_option maxRecDepth 100000 in
theorem check_any (o : Ask) (w : World) (hk : o.key.size ≤ 140737488355328) (ht : o.til.size ≤ 140737488355328) (hv : o.val.size ≤ 140737488355328) (hg : Good w) :
    Calls Tryz.prog 10 #[av o] w fun e w' => e = .returned (.int .i64 (chkA o)) ∧ Below w.heap.size w w' := by
  have hE := fun w => run_same_ask o Ask.zero w
  cases hz : sameA o Ask.zero with
  | true =>
    rw [chkA_zero hz]
    rw [hz] at hE
    clear hz
    go_enter Tryz.func10, Tryz.ntmps10
    go_wp2_with fail
    go_ret
    exact ⟨rfl, (by (repeat' (first | with_reducible assumption | with_reducible exact Below.refl _ _ | with_reducible refine Below.alloc ?_ ?_ _ | with_reducible refine Below.setCell ?_ ?_ _ | with_reducible refine Below.drew ?_ | omega | (simp; done) | (simp; omega))))⟩
  | false =>
    rw [hz] at hE
    obtain ⟨r, hr⟩ : ∃ r, ownA o = r := ⟨_, rfl⟩
    have hE2 := fun w => run_same_ask o r w
    obtain ⟨W1, hW1⟩ : ∃ W1, w.alloc (.cells #[.int .i64 o.kind, .int .i64 o.client, .int .i64 o.seq, .string o.key, .string o.til, .string o.val, .string o.old, .bool o.has, .int .i64 o.lim, .int .i64 o.id, .int .i64 o.node] 23) = W1 := ⟨_, rfl⟩
    have B0 : BoxA w.heap.size o W1 := hW1 ▸ BoxA.new w o
    have hz1 : W1.heap.size = w.heap.size + 1 := by rw [← hW1]; simp
    have hbw1 : Below w.heap.size w W1 := by rw [← hW1]; exact (Below.refl _ w).alloc (Nat.le_refl _) _
    have hg1 := hg.below hbw1
    have hbox : ∀ wx, Below W1.heap.size W1 wx → BoxA w.heap.size o wx := fun wx hx => BoxA.kept (N := W1.heap.size) B0 (by omega) hx
    have co : ∀ wx, Below W1.heap.size W1 wx → Calls Tryz.prog 38 #[av o] wx fun e w' => e = .returned (av r) ∧ Below W1.heap.size W1 w' := by
      intro wx hx
      refine (own_any o wx).mono ?_
      rintro e w' ⟨rfl, b⟩
      rw [hr]
      exact ⟨rfl, hx.trans (b.mono hx.size)⟩
    have cs : ∀ n wx, Below W1.heap.size W1 wx → Calls Tryz.prog 39 #[.int .i64 n] wx fun e w' => e = .returned (.bool (seqB n)) ∧ Below W1.heap.size W1 w' := by
      intro n wx hx
      refine (isSeq_any n wx).mono ?_
      rintro e w' ⟨rfl, rfl⟩
      exact ⟨rfl, hx⟩
    have cf : ∀ wx, Below W1.heap.size W1 wx → Calls Tryz.prog 40 #[av o] wx fun e w' => e = .returned (.bool (fitsA o)) ∧ Below W1.heap.size W1 w' := by
      intro wx hx
      refine (fits_any o wx hk ht hv (hg1.below hx)).mono ?_
      rintro e w' ⟨rfl, b⟩
      exact ⟨rfl, hx.trans (b.mono hx.size)⟩
    have cc := cs o.client
    have cq := cs o.seq
    clear cs
    cases h1 : sameA o r with
    | false =>
      rw [chkA_own hz (by rw [hr]; exact h1)]
      rw [h1] at hE2
      clear hr h1 hz
      obtain ⟨p_0, ⟨p_1, p_2, p_3, p_4, p_5, p_6, p_7, p_8, p_9, p_10, p_11⟩, p_12⟩ := _root_.id B0
      go_enter Tryz.func10, Tryz.ntmps10
      go_wp2_with fail
      try rw [hW1]
      clear p_0 p_1 p_2 p_3 p_4 p_5 p_6 p_7 p_8 p_9 p_10 p_11 p_12
      refine St.wp_region_stage (fun _ wx => Below W1.heap.size W1 wx) (by kernel_rfl) (by kernel_rfl) (by kernel_rfl) (Below.refl _ _).drew ?_
      repeat (first
        | (apply St.step_past
           · rfl
           · exact fun L wx hS => hS
           simp only [Act.put, List.setIfInBounds_toArray, List.set_cons_zero, List.set_cons_succ])
        | (apply St.step_give
           · rfl
           · intro L wx hS hcl hrd
             obtain ⟨_, ⟨d0, d1, d2, d3, d4, d5, d6, d7, d8, d9, d10⟩, _⟩ := hbox wx hS
             go_simp
             try with_reducible rfl
           · exact fun L wx hS => hS
           simp only [Act.put, List.setIfInBounds_toArray, List.set_cons_zero, List.set_cons_succ])
        | (apply St.step_into
           · rfl
           · intro wx
             go_simp
             exact ⟨rfl, rfl⟩
           · first
             | exact fun L wx hS hcl hrd => co wx hS
             | exact fun L wx hS hcl hrd => cc wx hS
             | exact fun L wx hS hcl hrd => cq wx hS
             | exact fun L wx hS hcl hrd => cf wx hS
           simp only [Act.put, List.setIfInBounds_toArray, List.set_cons_zero, List.set_cons_succ]))
      refine St.step_last ?_
      intro L wx hS _
      clear co cc cq cf hE hE2
      go_wp2_with fail
      go_ret
      exact ⟨rfl, hbw1.trans (hS.mono (by omega))⟩
    | true =>
      rw [h1] at hE2
      have h1' : sameA o (ownA o) = true := by rw [hr]; exact h1
      clear hr h1
      cases h2 : seqB o.client with
      | false =>
        rw [chkA_cl hz h2]
        rw [h2] at cc
        clear h2 hz h1'
        obtain ⟨p_0, ⟨p_1, p_2, p_3, p_4, p_5, p_6, p_7, p_8, p_9, p_10, p_11⟩, p_12⟩ := _root_.id B0
        go_enter Tryz.func10, Tryz.ntmps10
        go_wp2_with fail
        try rw [hW1]
        clear p_0 p_1 p_2 p_3 p_4 p_5 p_6 p_7 p_8 p_9 p_10 p_11 p_12
        refine St.wp_region_stage (fun _ wx => Below W1.heap.size W1 wx) (by kernel_rfl) (by kernel_rfl) (by kernel_rfl) (Below.refl _ _).drew ?_
        repeat (first
          | (apply St.step_past
             · rfl
             · exact fun L wx hS => hS
             simp only [Act.put, List.setIfInBounds_toArray, List.set_cons_zero, List.set_cons_succ])
          | (apply St.step_give
             · rfl
             · intro L wx hS hcl hrd
               obtain ⟨_, ⟨d0, d1, d2, d3, d4, d5, d6, d7, d8, d9, d10⟩, _⟩ := hbox wx hS
               go_simp
               try with_reducible rfl
             · exact fun L wx hS => hS
             simp only [Act.put, List.setIfInBounds_toArray, List.set_cons_zero, List.set_cons_succ])
          | (apply St.step_into
             · rfl
             · intro wx
               go_simp
               exact ⟨rfl, rfl⟩
             · first
               | exact fun L wx hS hcl hrd => co wx hS
               | exact fun L wx hS hcl hrd => cc wx hS
               | exact fun L wx hS hcl hrd => cq wx hS
               | exact fun L wx hS hcl hrd => cf wx hS
             simp only [Act.put, List.setIfInBounds_toArray, List.set_cons_zero, List.set_cons_succ]))
        refine St.step_last ?_
        intro L wx hS _
        clear co cc cq cf hE hE2
        go_wp2_with fail
        go_ret
        exact ⟨rfl, hbw1.trans (hS.mono (by omega))⟩
      | true =>
        rw [h2] at cc
        cases h3 : seqB o.seq with
        | false =>
          rw [chkA_sq hz h3]
          rw [h3] at cq
          clear h2 h3 hz h1'
          obtain ⟨p_0, ⟨p_1, p_2, p_3, p_4, p_5, p_6, p_7, p_8, p_9, p_10, p_11⟩, p_12⟩ := _root_.id B0
          go_enter Tryz.func10, Tryz.ntmps10
          go_wp2_with fail
          try rw [hW1]
          clear p_0 p_1 p_2 p_3 p_4 p_5 p_6 p_7 p_8 p_9 p_10 p_11 p_12
          refine St.wp_region_stage (fun _ wx => Below W1.heap.size W1 wx) (by kernel_rfl) (by kernel_rfl) (by kernel_rfl) (Below.refl _ _).drew ?_
          repeat (first
            | (apply St.step_past
               · rfl
               · exact fun L wx hS => hS
               simp only [Act.put, List.setIfInBounds_toArray, List.set_cons_zero, List.set_cons_succ])
            | (apply St.step_give
               · rfl
               · intro L wx hS hcl hrd
                 obtain ⟨_, ⟨d0, d1, d2, d3, d4, d5, d6, d7, d8, d9, d10⟩, _⟩ := hbox wx hS
                 go_simp
                 try with_reducible rfl
               · exact fun L wx hS => hS
               simp only [Act.put, List.setIfInBounds_toArray, List.set_cons_zero, List.set_cons_succ])
            | (apply St.step_into
               · rfl
               · intro wx
                 go_simp
                 exact ⟨rfl, rfl⟩
               · first
                 | exact fun L wx hS hcl hrd => co wx hS
                 | exact fun L wx hS hcl hrd => cc wx hS
                 | exact fun L wx hS hcl hrd => cq wx hS
                 | exact fun L wx hS hcl hrd => cf wx hS
               simp only [Act.put, List.setIfInBounds_toArray, List.set_cons_zero, List.set_cons_succ]))
          refine St.step_last ?_
          intro L wx hS _
          clear co cc cq cf hE hE2
          go_wp2_with fail
          go_ret
          exact ⟨rfl, hbw1.trans (hS.mono (by omega))⟩
        | true =>
          rw [h3] at cq
          cases h4 : fitsA o with
          | false =>
            rw [chkA_fit hz h4]
            rw [h4] at cf
            clear h2 h3 h4 hz h1'
            obtain ⟨p_0, ⟨p_1, p_2, p_3, p_4, p_5, p_6, p_7, p_8, p_9, p_10, p_11⟩, p_12⟩ := _root_.id B0
            go_enter Tryz.func10, Tryz.ntmps10
            go_wp2_with fail
            try rw [hW1]
            clear p_0 p_1 p_2 p_3 p_4 p_5 p_6 p_7 p_8 p_9 p_10 p_11 p_12
            refine St.wp_region_stage (fun _ wx => Below W1.heap.size W1 wx) (by kernel_rfl) (by kernel_rfl) (by kernel_rfl) (Below.refl _ _).drew ?_
            repeat (first
              | (apply St.step_past
                 · rfl
                 · exact fun L wx hS => hS
                 simp only [Act.put, List.setIfInBounds_toArray, List.set_cons_zero, List.set_cons_succ])
              | (apply St.step_give
                 · rfl
                 · intro L wx hS hcl hrd
                   obtain ⟨_, ⟨d0, d1, d2, d3, d4, d5, d6, d7, d8, d9, d10⟩, _⟩ := hbox wx hS
                   go_simp
                   try with_reducible rfl
                 · exact fun L wx hS => hS
                 simp only [Act.put, List.setIfInBounds_toArray, List.set_cons_zero, List.set_cons_succ])
              | (apply St.step_into
                 · rfl
                 · intro wx
                   go_simp
                   exact ⟨rfl, rfl⟩
                 · first
                   | exact fun L wx hS hcl hrd => co wx hS
                   | exact fun L wx hS hcl hrd => cc wx hS
                   | exact fun L wx hS hcl hrd => cq wx hS
                   | exact fun L wx hS hcl hrd => cf wx hS
                 simp only [Act.put, List.setIfInBounds_toArray, List.set_cons_zero, List.set_cons_succ]))
            refine St.step_last ?_
            intro L wx hS _
            clear co cc cq cf hE hE2
            go_wp2_with fail
            go_ret
            exact ⟨rfl, hbw1.trans (hS.mono (by omega))⟩
          | true =>
            rw [chkA_all h1' h2 h3 h4]
            rw [h4] at cf
            clear h2 h3 h4 hz h1'
            obtain ⟨p_0, ⟨p_1, p_2, p_3, p_4, p_5, p_6, p_7, p_8, p_9, p_10, p_11⟩, p_12⟩ := _root_.id B0
            go_enter Tryz.func10, Tryz.ntmps10
            go_wp2_with fail
            try rw [hW1]
            clear p_0 p_1 p_2 p_3 p_4 p_5 p_6 p_7 p_8 p_9 p_10 p_11 p_12
            refine St.wp_region_stage (fun _ wx => Below W1.heap.size W1 wx) (by kernel_rfl) (by kernel_rfl) (by kernel_rfl) (Below.refl _ _).drew ?_
            repeat (first
              | (apply St.step_past
                 · rfl
                 · exact fun L wx hS => hS
                 simp only [Act.put, List.setIfInBounds_toArray, List.set_cons_zero, List.set_cons_succ])
              | (apply St.step_give
                 · rfl
                 · intro L wx hS hcl hrd
                   obtain ⟨_, ⟨d0, d1, d2, d3, d4, d5, d6, d7, d8, d9, d10⟩, _⟩ := hbox wx hS
                   go_simp
                   try with_reducible rfl
                 · exact fun L wx hS => hS
                 simp only [Act.put, List.setIfInBounds_toArray, List.set_cons_zero, List.set_cons_succ])
              | (apply St.step_into
                 · rfl
                 · intro wx
                   go_simp
                   exact ⟨rfl, rfl⟩
                 · first
                   | exact fun L wx hS hcl hrd => co wx hS
                   | exact fun L wx hS hcl hrd => cc wx hS
                   | exact fun L wx hS hcl hrd => cq wx hS
                   | exact fun L wx hS hcl hrd => cf wx hS
                 simp only [Act.put, List.setIfInBounds_toArray, List.set_cons_zero, List.set_cons_succ]))
            refine St.step_last ?_
            intro L wx hS _
            clear co cc cq cf hE hE2
            go_wp2_with fail
            go_ret
            exact ⟨rfl, hbw1.trans (hS.mono (by omega))⟩
end Go.Proofs.YthglghlkchhjlaaGreatDoor.Od
