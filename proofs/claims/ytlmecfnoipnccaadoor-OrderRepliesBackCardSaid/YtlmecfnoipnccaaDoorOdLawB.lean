/-
  OrderBack, walked: there and back; unlike orders have unlike texts; cut off, a text is none. Conditions: lengths at most 2^47; numbers such as a program can hold; the library's variables hold what their types allow.
-/
import Derived.Test.YtlmecfnoipnccaaDoorOdLive
namespace Go.Proofs.YtlmecfnoipnccaaDoor.Od
open Go.RowKit Bnd

/-- an order that comes in -/
structure LimA (o : Ask) : Prop where
  r : InA o
  key : o.key.size ≤ 140737488355328
  til : o.til.size ≤ 140737488355328
  val : o.val.size ≤ 140737488355328
  old : o.old.size ≤ 140737488355328
theorem LimA.fit {o : Ask} (h : LimA o) (hs : smallA o = true) : FitA o := by
  unfold smallA at hs
  simp only [decide_eq_true_eq] at hs
  exact ⟨h.r, by omega, by omega, by omega, by omega⟩
theorem put_short {o : Ask} (h : FitA o) (hs : smallA o = true) : (putA o).length ≤ 200000 := by
  have := putA_length h
  unfold smallA at hs
  simp only [decide_eq_true_eq] at hs
  omega
theorem same_self (a : Ask) : sameA a a = true := (sameA_iff a a).2 rfl
theorem same_no' {a b : Ask} (h : a ≠ b) : sameA a b = false := by
  cases e : sameA a b with
  | false => rfl
  | true => exact absurd ((sameA_iff a b).1 e) h
theorem take_text {o : Ask} {S : ByteArray} (hS : S.data.toList = putA o) (k : Nat) : (S.extract 0 k).data.toList = (putA o).take k := by
  rw [← hS]; simp

set_option maxHeartbeats 16000000 in
set_option maxRecDepth 100000 in
theorem walk_back (a b : Ask) (cut : Int) (w : World) (la : LimA a) (lb : LimA b) (hc : -9223372036854775808 ≤ cut ∧ cut ≤ 9223372036854775807) (hg : Good w) :
    Calls Tryd.prog 7 #[av a, av b, .int .i64 cut] w fun e w' => e = .returned (.bool true) ∧ Below w.heap.size w w' := by
  have ca := fun w => small_any a w la.key la.til la.val la.old
  have cb := fun w => small_any b w lb.key lb.til lb.val lb.old
  obtain ⟨W0, hW0⟩ : ∃ W0, (w.alloc (.cells #[.int .i64 a.kind, .int .i64 a.client, .int .i64 a.seq, .string a.key, .string a.til, .string a.val, .string a.old, .bool a.has, .int .i64 a.lim, .int .i64 a.id, .int .i64 a.node] 62)).alloc (.cells #[.int .i64 b.kind, .int .i64 b.client, .int .i64 b.seq, .string b.key, .string b.til, .string b.val, .string b.old, .bool b.has, .int .i64 b.lim, .int .i64 b.id, .int .i64 b.node] 62) = W0 := ⟨_, rfl⟩
  have A0 : BoxA w.heap.size a W0 := hW0 ▸ (BoxA.new w a).alloc _
  have B0 : BoxA (w.heap.size + 1) b W0 := by
    have := BoxA.new (w.alloc (.cells #[.int .i64 a.kind, .int .i64 a.client, .int .i64 a.seq, .string a.key, .string a.til, .string a.val, .string a.old, .bool a.has, .int .i64 a.lim, .int .i64 a.id, .int .i64 a.node] 62)) b
    rw [hW0, World.size_alloc] at this
    exact this
  have hb0 : Below w.heap.size w W0 := by rw [← hW0]; exact ((Below.refl _ w).alloc (Nat.le_refl _) _).alloc (by simp) _
  have hz0 := hb0.size
  cases hsa : smallA a with
  | false =>
    rw [hsa] at ca
    clear hsa cb
    obtain ⟨p_0, ⟨p_1, p_2, p_3, p_4, p_5, p_6, p_7, p_8, p_9, p_10, p_11⟩, p_12⟩ := _root_.id A0
    obtain ⟨q_0, ⟨q_1, q_2, q_3, q_4, q_5, q_6, q_7, q_8, q_9, q_10, q_11⟩, q_12⟩ := _root_.id B0
    go_enter Tryd.func7, Tryd.ntmps7
    go_wp2_with fail
    refine (ca _).mono ?_
    rintro e w1 ⟨rfl, b1⟩
    have hb1 := hb0.trans (b1.mono hz0)
    clear hW0 b1
    go_wp2_with fail
    refine (live_any _ (hg.below hb1)).mono ?_
    rintro e w9 ⟨rfl, b9⟩
    go_wp2_with fail
    go_ret
    exact ⟨rfl, (hb1).trans (b9.mono (hb1).size)⟩
  | true =>
    have fa := la.fit hsa
    have sa := put_short fa hsa
    rw [hsa] at ca
    clear hsa
    cases hsb : smallA b with
    | false =>
      rw [hsb] at cb
      clear hsb fa sa
      obtain ⟨p_0, ⟨p_1, p_2, p_3, p_4, p_5, p_6, p_7, p_8, p_9, p_10, p_11⟩, p_12⟩ := _root_.id A0
      obtain ⟨q_0, ⟨q_1, q_2, q_3, q_4, q_5, q_6, q_7, q_8, q_9, q_10, q_11⟩, q_12⟩ := _root_.id B0
      go_enter Tryd.func7, Tryd.ntmps7
      go_wp2_with fail
      refine (ca _).mono ?_
      rintro e w1 ⟨rfl, b1⟩
      have hb1 := hb0.trans (b1.mono hz0)
      have hz1 := hb1.size
      have B1 := B0.keep b1
      clear hW0 b1
      clear p_0 p_1 p_2 p_3 p_4 p_5 p_6 p_7 p_8 p_9 p_10 p_11 p_12
      clear q_0 q_1 q_2 q_3 q_4 q_5 q_6 q_7 q_8 q_9 q_10 q_11 q_12
      obtain ⟨q_0, ⟨q_1, q_2, q_3, q_4, q_5, q_6, q_7, q_8, q_9, q_10, q_11⟩, q_12⟩ := _root_.id B1
      go_wp2_with fail
      refine (cb _).mono ?_
      rintro e w2 ⟨rfl, b2⟩
      have hb2 := hb1.trans (b2.mono hz1)
      clear b2
      go_wp2_with fail
      refine (live_any _ (hg.below hb2)).mono ?_
      rintro e w9 ⟨rfl, b9⟩
      go_wp2_with fail
      go_ret
      exact ⟨rfl, (hb2).trans (b9.mono (hb2).size)⟩
    | true =>
      have fb := lb.fit hsb
      rw [hsb] at cb
      clear hsb
      have cpa := fun w => put_any a w fa
      have cpb := fun w => put_any b w fb
      obtain ⟨P, hP⟩ : ∃ P : ByteArray, (⟨(putA a).toArray⟩ : ByteArray) = P := ⟨_, rfl⟩
      obtain ⟨Q, hQ⟩ : ∃ Q : ByteArray, (⟨(putA b).toArray⟩ : ByteArray) = Q := ⟨_, rfl⟩
      have hPd : P.data.toList = putA a := by rw [← hP]
      have hQd : Q.data.toList = putA b := by rw [← hQ]
      have hPs : P.size = (putA a).length := by rw [← hPd]; simp
      have cpa2 : ∀ wx W, Below W.heap.size W wx → Calls Tryd.prog 42 #[av a] wx fun e w' => e = .returned (.string P) ∧ Below W.heap.size W w' := by
        intro wx W hx
        refine (cpa wx).mono ?_
        rintro e w' ⟨rfl, b⟩
        exact ⟨by rw [← hP], hx.trans (b.mono hx.size)⟩
      have cpb2 : ∀ wx W, Below W.heap.size W wx → Calls Tryd.prog 42 #[av b] wx fun e w' => e = .returned (.string Q) ∧ Below W.heap.size W w' := by
        intro wx W hx
        refine (cpb wx).mono ?_
        rintro e w' ⟨rfl, b⟩
        exact ⟨by rw [← hQ], hx.trans (b.mono hx.size)⟩
      have cc := fun w hg => check_any a w la.key la.til la.val hg
      have cr : ∀ w, Good w → Calls Tryd.prog 45 #[.string P] w fun e w' => e = .returned (.tuple #[av (if isA a = true then (a, (0 : Int)) else (Ask.zero, 70)).1, .int .i64 (if isA a = true then (a, (0 : Int)) else (Ask.zero, 70)).2]) ∧ Below w.heap.size w w' := by
        intro w hg
        have := parse_any P w (by omega) hg
        rw [hPd, parse_put fa.r (by omega)] at this
        exact this
      have ck : ∀ k : Nat, k < P.size → ∀ w, Good w → Calls Tryd.prog 45 #[.string (P.extract 0 k)] w fun e w' => e = .returned (.tuple #[av Ask.zero, .int .i64 70]) ∧ Below w.heap.size w w' := by
        intro k hk w hg
        have := parse_any (P.extract 0 k) w (by rw [ByteArray.size_extract]; omega) hg
        rw [take_text hPd, parse_cut (by omega)] at this
        exact this
      have hEa := fun w => run_same_ask a a w
      rw [same_self] at hEa
      have hPS : P.size ≤ 200000 := by omega
      have hPQ : P = Q → a = b := fun h => putA_inj (by rw [← hPd, ← hQd, h])
      have hPQ2 : a = b → P = Q := fun h => by rw [← hP, ← hQ, h]
      clear cpa cpb hP hQ hPd hQd hPs fa fb sa la lb
      by_cases hab : a = b
      · have hpq := hPQ2 hab
        subst hab
        subst hpq
        clear hPQ hPQ2
        obtain ⟨p_0, ⟨p_1, p_2, p_3, p_4, p_5, p_6, p_7, p_8, p_9, p_10, p_11⟩, p_12⟩ := _root_.id A0
        obtain ⟨q_0, ⟨q_1, q_2, q_3, q_4, q_5, q_6, q_7, q_8, q_9, q_10, q_11⟩, q_12⟩ := _root_.id B0
        go_enter Tryd.func7, Tryd.ntmps7
        go_wp2_with fail
        refine (ca _).mono ?_
        rintro e w1 ⟨rfl, b1⟩
        have hb1 := hb0.trans (b1.mono hz0)
        have hz1 := hb1.size
        have A1 := A0.keep b1
        have B1 := B0.keep b1
        clear hW0 b1
        clear p_0 p_1 p_2 p_3 p_4 p_5 p_6 p_7 p_8 p_9 p_10 p_11 p_12
        clear q_0 q_1 q_2 q_3 q_4 q_5 q_6 q_7 q_8 q_9 q_10 q_11 q_12
        obtain ⟨p_0, ⟨p_1, p_2, p_3, p_4, p_5, p_6, p_7, p_8, p_9, p_10, p_11⟩, p_12⟩ := _root_.id A1
        obtain ⟨q_0, ⟨q_1, q_2, q_3, q_4, q_5, q_6, q_7, q_8, q_9, q_10, q_11⟩, q_12⟩ := _root_.id B1
        go_wp2_with fail
        refine (cb _).mono ?_
        rintro e w2 ⟨rfl, b2⟩
        have hb2 := hb1.trans (b2.mono hz1)
        have hz2 := hb2.size
        have A2 := A1.keep b2
        have B2 := B1.keep b2
        clear b2
        clear p_0 p_1 p_2 p_3 p_4 p_5 p_6 p_7 p_8 p_9 p_10 p_11 p_12
        clear q_0 q_1 q_2 q_3 q_4 q_5 q_6 q_7 q_8 q_9 q_10 q_11 q_12
        obtain ⟨p_0, ⟨p_1, p_2, p_3, p_4, p_5, p_6, p_7, p_8, p_9, p_10, p_11⟩, p_12⟩ := _root_.id A2
        obtain ⟨q_0, ⟨q_1, q_2, q_3, q_4, q_5, q_6, q_7, q_8, q_9, q_10, q_11⟩, q_12⟩ := _root_.id B2
        go_wp2_with fail
        refine St.wp_region_stage (fun _ wx => Below w2.heap.size w2 wx) (by kernel_rfl) (by kernel_rfl) (by kernel_rfl) (Below.refl _ _).drew ?_
        have hboxa : ∀ wx, Below w2.heap.size w2 wx → BoxA w.heap.size a wx := fun wx hx => A2.keep hx
        have hboxb : ∀ wx, Below w2.heap.size w2 wx → BoxA (w.heap.size + 1) a wx := fun wx hx => B2.keep hx
        apply St.step_give
        · rfl
        · intro L wx hS hcl hrd
          obtain ⟨_, ⟨d0, d1, d2, d3, d4, d5, d6, d7, d8, d9, d10⟩, _⟩ := hboxa wx hS
          obtain ⟨_, ⟨f0, f1, f2, f3, f4, f5, f6, f7, f8, f9, f10⟩, _⟩ := hboxb wx hS
          go_simp
          try with_reducible rfl
        · exact fun L wx hS => hS
        simp only [Act.put, List.setIfInBounds_toArray, List.set_cons_zero, List.set_cons_succ]
        apply St.step_into
        · rfl
        · intro wx
          go_simp
          exact ⟨rfl, rfl⟩
        · exact fun L wx hS hcl hrd => cpa2 wx w2 hS
        simp only [Act.put, List.setIfInBounds_toArray, List.set_cons_zero, List.set_cons_succ]
        apply St.step_give
        · rfl
        · intro L wx hS hcl hrd
          obtain ⟨_, ⟨d0, d1, d2, d3, d4, d5, d6, d7, d8, d9, d10⟩, _⟩ := hboxa wx hS
          obtain ⟨_, ⟨f0, f1, f2, f3, f4, f5, f6, f7, f8, f9, f10⟩, _⟩ := hboxb wx hS
          go_simp
          try with_reducible rfl
        · exact fun L wx hS => hS
        simp only [Act.put, List.setIfInBounds_toArray, List.set_cons_zero, List.set_cons_succ]
        apply St.step_into
        · rfl
        · intro wx
          go_simp
          exact ⟨rfl, rfl⟩
        · exact fun L wx hS hcl hrd => cpb2 wx w2 hS
        simp only [Act.put, List.setIfInBounds_toArray, List.set_cons_zero, List.set_cons_succ]
        apply St.step_give
        · rfl
        · intro L wx hS hcl hrd
          obtain ⟨_, ⟨d0, d1, d2, d3, d4, d5, d6, d7, d8, d9, d10⟩, _⟩ := hboxa wx hS
          obtain ⟨_, ⟨f0, f1, f2, f3, f4, f5, f6, f7, f8, f9, f10⟩, _⟩ := hboxb wx hS
          go_simp
          try with_reducible rfl
        · exact fun L wx hS => hS
        simp only [Act.put, List.setIfInBounds_toArray, List.set_cons_zero, List.set_cons_succ]
        apply St.step_give
        · rfl
        · intro L wx hS hcl hrd
          obtain ⟨_, ⟨d0, d1, d2, d3, d4, d5, d6, d7, d8, d9, d10⟩, _⟩ := hboxa wx hS
          obtain ⟨_, ⟨f0, f1, f2, f3, f4, f5, f6, f7, f8, f9, f10⟩, _⟩ := hboxb wx hS
          go_simp
          try with_reducible rfl
        · exact fun L wx hS => hS
        simp only [Act.put, List.setIfInBounds_toArray, List.set_cons_zero, List.set_cons_succ]
        refine St.step_last ?_
        intro L w3 hS _
        have A3 := A2.keep hS
        have B3 := B2.keep hS
        have hb3 := hb2.trans (hS.mono hz2)
        have hz3 := hb3.size
        clear hboxa hboxb cpa2 cpb2 hS A2 B2
        clear p_0 p_1 p_2 p_3 p_4 p_5 p_6 p_7 p_8 p_9 p_10 p_11 p_12
        clear q_0 q_1 q_2 q_3 q_4 q_5 q_6 q_7 q_8 q_9 q_10 q_11 q_12
        obtain ⟨p_0, ⟨p_1, p_2, p_3, p_4, p_5, p_6, p_7, p_8, p_9, p_10, p_11⟩, p_12⟩ := _root_.id A3
        obtain ⟨q_0, ⟨q_1, q_2, q_3, q_4, q_5, q_6, q_7, q_8, q_9, q_10, q_11⟩, q_12⟩ := _root_.id B3
        cases hI : isA a with
        | false =>
          rw [show chkA a = 70 by unfold chkA; rw [hI]; rfl] at cc
          rw [hI] at cr
          simp only [Bool.false_eq_true, if_false] at cr
          clear hI ck
          go_wp2_with fail
          refine (cc _ (hg.below hb3)).mono ?_
          rintro e w4 ⟨rfl, b4⟩
          have hb4 := hb3.trans (b4.mono hz3)
          have hz4 := hb4.size
          clear b4
          go_wp2_with fail
          refine (num_any _ _).mono ?_
          rintro e w' ⟨rfl, rfl⟩
          go_wp2_with fail
          refine (cr _ (hg.below hb4)).mono ?_
          rintro e w5 ⟨rfl, b5⟩
          have hb5 := hb4.trans (b5.mono hz4)
          have hz5 := hb5.size
          clear b5
          go_wp2_with fail
          refine (num_any _ _).mono ?_
          rintro e w' ⟨rfl, rfl⟩
          go_wp2_with fail
          refine (live_any _ (hg.below (hb5.alloc hz5 _))).mono ?_
          rintro e w9 ⟨rfl, b9⟩
          go_wp2_with fail
          go_ret
          exact ⟨rfl, ((hb5.alloc hz5 _)).trans (b9.mono ((hb5.alloc hz5 _)).size)⟩
        | true =>
          rw [show chkA a = 0 by unfold chkA; rw [hI]; rfl] at cc
          rw [hI] at cr
          simp only [if_true] at cr
          clear hI
          go_wp2_with fail
          refine (cc _ (hg.below hb3)).mono ?_
          rintro e w4 ⟨rfl, b4⟩
          have hb4 := hb3.trans (b4.mono hz3)
          have hz4 := hb4.size
          have A4 := A3.keep b4
          clear b4
          go_wp2_with fail
          refine (num_any _ _).mono ?_
          rintro e w' ⟨rfl, rfl⟩
          go_wp2_with fail
          refine (cr _ (hg.below hb4)).mono ?_
          rintro e w5 ⟨rfl, b5⟩
          have hb5 := hb4.trans (b5.mono hz4)
          have hz5 := hb5.size
          have A5 := A4.keep b5
          have s5 := A5.1
          clear b5
          clear p_0 p_1 p_2 p_3 p_4 p_5 p_6 p_7 p_8 p_9 p_10 p_11 p_12
          obtain ⟨p_0, ⟨p_1, p_2, p_3, p_4, p_5, p_6, p_7, p_8, p_9, p_10, p_11⟩, p_12⟩ := _root_.id A5
          have hb6 := hb5.alloc hz5 (.cells #[.int .i64 a.kind, .int .i64 a.client, .int .i64 a.seq, .string a.key, .string a.til, .string a.val, .string a.old, .bool a.has, .int .i64 a.lim, .int .i64 a.id, .int .i64 a.node] 62)
          have hz6 := hb6.size
          by_cases h1 : cut < 0
          · have g1 : (cut < 0) = True := eq_true h1
            clear hc
            go_wp2_with fail
            refine (num_any _ _).mono ?_
            rintro e w' ⟨rfl, rfl⟩
            go_wp2_with fail
            refine (live_any _ (hg.below hb6)).mono ?_
            rintro e w9 ⟨rfl, b9⟩
            go_wp2_with fail
            go_ret
            exact ⟨rfl, (hb6).trans (b9.mono (hb6).size)⟩
          · have g1 : (cut < 0) = False := eq_false h1
            by_cases h2 : cut ≥ (P.size : Int)
            · have g2 : (cut ≥ (P.size : Int)) = True := eq_true h2
              clear hc
              go_wp2_with fail
              refine (num_any _ _).mono ?_
              rintro e w' ⟨rfl, rfl⟩
              go_wp2_with fail
              refine (live_any _ (hg.below hb6)).mono ?_
              rintro e w9 ⟨rfl, b9⟩
              go_wp2_with fail
              go_ret
              exact ⟨rfl, (hb6).trans (b9.mono (hb6).size)⟩
            · obtain ⟨k, rfl⟩ : ∃ k : Nat, cut = (k : Int) := ⟨cut.toNat, by omega⟩
              have hk : k < P.size := by omega
              have ck2 := ck k hk
              have g2 : ((k : Int) ≥ (P.size : Int)) = False := eq_false h2
              have g3 : ((k : Int) ≤ (P.size : Int)) = True := eq_true (by omega)
              clear hc ck h1 h2 g1
              go_wp2_with fail
              refine (num_any _ _).mono ?_
              rintro e w' ⟨rfl, rfl⟩
              go_wp2_with fail
              refine (ck2 _ (hg.below hb6)).mono ?_
              rintro e w7 ⟨rfl, b7⟩
              have hb7 := hb6.trans (b7.mono hz6)
              have hz7 := hb7.size
              clear b7
              go_wp2_with fail
              refine (num_any _ _).mono ?_
              rintro e w' ⟨rfl, rfl⟩
              go_wp2_with fail
              refine (live_any _ (hg.below (hb7.alloc hz7 _))).mono ?_
              rintro e w9 ⟨rfl, b9⟩
              go_wp2_with fail
              go_ret
              exact ⟨rfl, ((hb7.alloc hz7 _)).trans (b9.mono ((hb7.alloc hz7 _)).size)⟩
      · have q2 : (P.toList == Q.toList) = false := by rw [beq_eq_false_iff_ne]; exact fun h => hab (hPQ ((ba_iff P Q).1 h))
        have q3 : (P.toList = Q.toList) = False := eq_false (fun h => hab (hPQ ((ba_iff P Q).1 h)))
        have hEb := fun w => run_same_ask a b w
        rw [same_no' hab] at hEb
        clear hPQ hPQ2 hab
        obtain ⟨p_0, ⟨p_1, p_2, p_3, p_4, p_5, p_6, p_7, p_8, p_9, p_10, p_11⟩, p_12⟩ := _root_.id A0
        obtain ⟨q_0, ⟨q_1, q_2, q_3, q_4, q_5, q_6, q_7, q_8, q_9, q_10, q_11⟩, q_12⟩ := _root_.id B0
        go_enter Tryd.func7, Tryd.ntmps7
        go_wp2_with fail
        refine (ca _).mono ?_
        rintro e w1 ⟨rfl, b1⟩
        have hb1 := hb0.trans (b1.mono hz0)
        have hz1 := hb1.size
        have A1 := A0.keep b1
        have B1 := B0.keep b1
        clear hW0 b1
        clear p_0 p_1 p_2 p_3 p_4 p_5 p_6 p_7 p_8 p_9 p_10 p_11 p_12
        clear q_0 q_1 q_2 q_3 q_4 q_5 q_6 q_7 q_8 q_9 q_10 q_11 q_12
        obtain ⟨p_0, ⟨p_1, p_2, p_3, p_4, p_5, p_6, p_7, p_8, p_9, p_10, p_11⟩, p_12⟩ := _root_.id A1
        obtain ⟨q_0, ⟨q_1, q_2, q_3, q_4, q_5, q_6, q_7, q_8, q_9, q_10, q_11⟩, q_12⟩ := _root_.id B1
        go_wp2_with fail
        refine (cb _).mono ?_
        rintro e w2 ⟨rfl, b2⟩
        have hb2 := hb1.trans (b2.mono hz1)
        have hz2 := hb2.size
        have A2 := A1.keep b2
        have B2 := B1.keep b2
        clear b2
        clear p_0 p_1 p_2 p_3 p_4 p_5 p_6 p_7 p_8 p_9 p_10 p_11 p_12
        clear q_0 q_1 q_2 q_3 q_4 q_5 q_6 q_7 q_8 q_9 q_10 q_11 q_12
        obtain ⟨p_0, ⟨p_1, p_2, p_3, p_4, p_5, p_6, p_7, p_8, p_9, p_10, p_11⟩, p_12⟩ := _root_.id A2
        obtain ⟨q_0, ⟨q_1, q_2, q_3, q_4, q_5, q_6, q_7, q_8, q_9, q_10, q_11⟩, q_12⟩ := _root_.id B2
        go_wp2_with fail
        refine St.wp_region_stage (fun _ wx => Below w2.heap.size w2 wx) (by kernel_rfl) (by kernel_rfl) (by kernel_rfl) (Below.refl _ _).drew ?_
        have hboxa : ∀ wx, Below w2.heap.size w2 wx → BoxA w.heap.size a wx := fun wx hx => A2.keep hx
        have hboxb : ∀ wx, Below w2.heap.size w2 wx → BoxA (w.heap.size + 1) b wx := fun wx hx => B2.keep hx
        apply St.step_give
        · rfl
        · intro L wx hS hcl hrd
          obtain ⟨_, ⟨d0, d1, d2, d3, d4, d5, d6, d7, d8, d9, d10⟩, _⟩ := hboxa wx hS
          obtain ⟨_, ⟨f0, f1, f2, f3, f4, f5, f6, f7, f8, f9, f10⟩, _⟩ := hboxb wx hS
          go_simp
          try with_reducible rfl
        · exact fun L wx hS => hS
        simp only [Act.put, List.setIfInBounds_toArray, List.set_cons_zero, List.set_cons_succ]
        apply St.step_into
        · rfl
        · intro wx
          go_simp
          exact ⟨rfl, rfl⟩
        · exact fun L wx hS hcl hrd => cpa2 wx w2 hS
        simp only [Act.put, List.setIfInBounds_toArray, List.set_cons_zero, List.set_cons_succ]
        apply St.step_give
        · rfl
        · intro L wx hS hcl hrd
          obtain ⟨_, ⟨d0, d1, d2, d3, d4, d5, d6, d7, d8, d9, d10⟩, _⟩ := hboxa wx hS
          obtain ⟨_, ⟨f0, f1, f2, f3, f4, f5, f6, f7, f8, f9, f10⟩, _⟩ := hboxb wx hS
          go_simp
          try with_reducible rfl
        · exact fun L wx hS => hS
        simp only [Act.put, List.setIfInBounds_toArray, List.set_cons_zero, List.set_cons_succ]
        apply St.step_into
        · rfl
        · intro wx
          go_simp
          exact ⟨rfl, rfl⟩
        · exact fun L wx hS hcl hrd => cpb2 wx w2 hS
        simp only [Act.put, List.setIfInBounds_toArray, List.set_cons_zero, List.set_cons_succ]
        apply St.step_give
        · rfl
        · intro L wx hS hcl hrd
          obtain ⟨_, ⟨d0, d1, d2, d3, d4, d5, d6, d7, d8, d9, d10⟩, _⟩ := hboxa wx hS
          obtain ⟨_, ⟨f0, f1, f2, f3, f4, f5, f6, f7, f8, f9, f10⟩, _⟩ := hboxb wx hS
          go_simp
          try with_reducible rfl
        · exact fun L wx hS => hS
        simp only [Act.put, List.setIfInBounds_toArray, List.set_cons_zero, List.set_cons_succ]
        apply St.step_give
        · rfl
        · intro L wx hS hcl hrd
          obtain ⟨_, ⟨d0, d1, d2, d3, d4, d5, d6, d7, d8, d9, d10⟩, _⟩ := hboxa wx hS
          obtain ⟨_, ⟨f0, f1, f2, f3, f4, f5, f6, f7, f8, f9, f10⟩, _⟩ := hboxb wx hS
          go_simp
          try with_reducible rfl
        · exact fun L wx hS => hS
        simp only [Act.put, List.setIfInBounds_toArray, List.set_cons_zero, List.set_cons_succ]
        refine St.step_last ?_
        intro L w3 hS _
        have A3 := A2.keep hS
        have B3 := B2.keep hS
        have hb3 := hb2.trans (hS.mono hz2)
        have hz3 := hb3.size
        clear hboxa hboxb cpa2 cpb2 hS A2 B2
        clear p_0 p_1 p_2 p_3 p_4 p_5 p_6 p_7 p_8 p_9 p_10 p_11 p_12
        clear q_0 q_1 q_2 q_3 q_4 q_5 q_6 q_7 q_8 q_9 q_10 q_11 q_12
        obtain ⟨p_0, ⟨p_1, p_2, p_3, p_4, p_5, p_6, p_7, p_8, p_9, p_10, p_11⟩, p_12⟩ := _root_.id A3
        obtain ⟨q_0, ⟨q_1, q_2, q_3, q_4, q_5, q_6, q_7, q_8, q_9, q_10, q_11⟩, q_12⟩ := _root_.id B3
        cases hI : isA a with
        | false =>
          rw [show chkA a = 70 by unfold chkA; rw [hI]; rfl] at cc
          rw [hI] at cr
          simp only [Bool.false_eq_true, if_false] at cr
          clear hI ck
          go_wp2_with fail
          refine (cc _ (hg.below hb3)).mono ?_
          rintro e w4 ⟨rfl, b4⟩
          have hb4 := hb3.trans (b4.mono hz3)
          have hz4 := hb4.size
          clear b4
          go_wp2_with fail
          refine (num_any _ _).mono ?_
          rintro e w' ⟨rfl, rfl⟩
          go_wp2_with fail
          refine (cr _ (hg.below hb4)).mono ?_
          rintro e w5 ⟨rfl, b5⟩
          have hb5 := hb4.trans (b5.mono hz4)
          have hz5 := hb5.size
          clear b5
          go_wp2_with fail
          refine (num_any _ _).mono ?_
          rintro e w' ⟨rfl, rfl⟩
          go_wp2_with fail
          refine (live_any _ (hg.below (hb5.alloc hz5 _))).mono ?_
          rintro e w9 ⟨rfl, b9⟩
          go_wp2_with fail
          go_ret
          exact ⟨rfl, ((hb5.alloc hz5 _)).trans (b9.mono ((hb5.alloc hz5 _)).size)⟩
        | true =>
          rw [show chkA a = 0 by unfold chkA; rw [hI]; rfl] at cc
          rw [hI] at cr
          simp only [if_true] at cr
          clear hI
          go_wp2_with fail
          refine (cc _ (hg.below hb3)).mono ?_
          rintro e w4 ⟨rfl, b4⟩
          have hb4 := hb3.trans (b4.mono hz3)
          have hz4 := hb4.size
          have A4 := A3.keep b4
          clear b4
          go_wp2_with fail
          refine (num_any _ _).mono ?_
          rintro e w' ⟨rfl, rfl⟩
          go_wp2_with fail
          refine (cr _ (hg.below hb4)).mono ?_
          rintro e w5 ⟨rfl, b5⟩
          have hb5 := hb4.trans (b5.mono hz4)
          have hz5 := hb5.size
          have A5 := A4.keep b5
          have s5 := A5.1
          clear b5
          clear p_0 p_1 p_2 p_3 p_4 p_5 p_6 p_7 p_8 p_9 p_10 p_11 p_12
          obtain ⟨p_0, ⟨p_1, p_2, p_3, p_4, p_5, p_6, p_7, p_8, p_9, p_10, p_11⟩, p_12⟩ := _root_.id A5
          have hb6 := hb5.alloc hz5 (.cells #[.int .i64 a.kind, .int .i64 a.client, .int .i64 a.seq, .string a.key, .string a.til, .string a.val, .string a.old, .bool a.has, .int .i64 a.lim, .int .i64 a.id, .int .i64 a.node] 62)
          have hz6 := hb6.size
          by_cases h1 : cut < 0
          · have g1 : (cut < 0) = True := eq_true h1
            clear hc
            go_wp2_with fail
            refine (num_any _ _).mono ?_
            rintro e w' ⟨rfl, rfl⟩
            go_wp2_with fail
            refine (live_any _ (hg.below hb6)).mono ?_
            rintro e w9 ⟨rfl, b9⟩
            go_wp2_with fail
            go_ret
            exact ⟨rfl, (hb6).trans (b9.mono (hb6).size)⟩
          · have g1 : (cut < 0) = False := eq_false h1
            by_cases h2 : cut ≥ (P.size : Int)
            · have g2 : (cut ≥ (P.size : Int)) = True := eq_true h2
              clear hc
              go_wp2_with fail
              refine (num_any _ _).mono ?_
              rintro e w' ⟨rfl, rfl⟩
              go_wp2_with fail
              refine (live_any _ (hg.below hb6)).mono ?_
              rintro e w9 ⟨rfl, b9⟩
              go_wp2_with fail
              go_ret
              exact ⟨rfl, (hb6).trans (b9.mono (hb6).size)⟩
            · obtain ⟨k, rfl⟩ : ∃ k : Nat, cut = (k : Int) := ⟨cut.toNat, by omega⟩
              have hk : k < P.size := by omega
              have ck2 := ck k hk
              have g2 : ((k : Int) ≥ (P.size : Int)) = False := eq_false h2
              have g3 : ((k : Int) ≤ (P.size : Int)) = True := eq_true (by omega)
              clear hc ck h1 h2 g1
              go_wp2_with fail
              refine (num_any _ _).mono ?_
              rintro e w' ⟨rfl, rfl⟩
              go_wp2_with fail
              refine (ck2 _ (hg.below hb6)).mono ?_
              rintro e w7 ⟨rfl, b7⟩
              have hb7 := hb6.trans (b7.mono hz6)
              have hz7 := hb7.size
              clear b7
              go_wp2_with fail
              refine (num_any _ _).mono ?_
              rintro e w' ⟨rfl, rfl⟩
              go_wp2_with fail
              refine (live_any _ (hg.below (hb7.alloc hz7 _))).mono ?_
              rintro e w9 ⟨rfl, b9⟩
              go_wp2_with fail
              go_ret
              exact ⟨rfl, ((hb7.alloc hz7 _)).trans (b9.mono ((hb7.alloc hz7 _)).size)⟩
end Go.Proofs.YtlmecfnoipnccaaDoor.Od

