/-
  slices.Index and slices.Delete at members: where a member stands; a row of the call's own without one of its members. Condition: at most 1000 members.
-/
import Derived.Test.YtlmecfnoipnccaaDoorDsSame
import Derived.Test.YtlmecfnoipnccaaDoorDsAdd
import Derived.Test.YtlmecfnoipnccaaDoorDsPut
import Derived.Test.YtlmecfnoipnccaaDoorRegA
import Derived.Laws.CopyRow
namespace Go.Proofs.YtlmecfnoipnccaaDoor.Ds
open Go.RowKit Bnd
section
attribute [local go_sem ↓] Go.wp_at_zero Go.wp_at_succ

theorem mem_ne {x y : Mem} (h : x ≠ y) : ((x.1 == y.1) = false) ∨ (x.1 = y.1 ∧ (x.2 == y.2) = false) := by
  by_cases q : x.1 = y.1
  · refine .inr ⟨q, ?_⟩
    simp only [beq_eq_false_iff_ne]
    intro e
    exact h (Prod.ext q e)
  · exact .inl (by simpa using q)

set_option maxHeartbeats 4000000 in
set_option maxRecDepth 100000 in
theorem index_any (v : Value) (xs : List Mem) (x : Mem) (i : Nat) (w : World) (hv : SM w w.heap.size v xs) (hl : xs.length ≤ 1000000) (hi : i < xs.length) (hx : xs[i] = x) (hb : ∀ j (h : j < i), xs[j]'(by omega) ≠ x) :
    Calls Tryd.prog 76 #[v, mv x] w fun e w' => e = .returned (.int .i64 (i : Int)) ∧ Below w.heap.size w w' := by
  obtain ⟨A, c, rfl⟩ := hv.form
  obtain ⟨x1, x2⟩ := x
  obtain ⟨n, hn⟩ : ∃ n, n = xs.length := ⟨_, rfl⟩
  have HX := Lib.hid hn
  have HI := Lib.hid hx
  have HB := Lib.hid hb
  have hin : i < n := by omega
  rw [← hn] at hv ⊢
  have hl' : n ≤ 1000000 := by omega
  clear hn hx hb hl
  go_enter Tryd.func76, Tryd.ntmps76
  go_wp2_with fail
  go_loopw [5, 8] (fun _ vi wr => ∃ (k : Nat), k ≤ i ∧ vi = .int .i64 (k : Int) ∧ (wr.cell? ⟨w.heap.size, 0, none⟩ = some (.int .i64 x1) ∧ wr.cell? ⟨w.heap.size, 1, none⟩ = some (.int .i64 x2)) ∧ Below w.heap.size w wr) (fun _ vi _ => n - (intOf vi).toNat)
  case atStart => exact ⟨0, by omega, rfl, by simp [go_sem], (Below.refl _ w).alloc (Nat.le_refl _) _⟩
  case round =>
    obtain ⟨k, hk, rfl, ⟨r1, r2⟩, hbw⟩ := hrel
    have hkx : k < xs.length := by rw [← HX.out]; omega
    obtain ⟨b, o, rfl, hb, hc1, hc2⟩ := (hv.below hbw).at_ hkx
    have hk0 : (0 : Int) ≤ (k : Int) := by omega
    have hk1 : (k : Int) < (n : Int) := by omega
    by_cases he : k = i
    · subst he
      rw [HI.out] at hc1 hc2
      go_wp2_with fail
      go_quiet (fail)
      go_wp2_with fail
      go_ret
      exact ⟨rfl, below_drewN hbw _⟩
    · have hne := HB.out k (by omega)
      obtain ⟨⟨y1, y2⟩, hy⟩ : ∃ y, xs[k] = y := ⟨_, rfl⟩
      rw [hy] at hc1 hc2 hne
      have hor := mem_ne (fun e => hne e.symm)
      simp only at hor
      clear hy hne
      rcases hor with q1 | ⟨rfl, q2⟩
      all_goals
        go_wp2_with fail
        go_quiet (fail)
        go_wp2_with fail
        go_roundw
        case rel => exact ⟨k + 1, by omega, by go_num, ⟨r1, r2⟩, below_drewN hbw _⟩
        case measure => simp [intOf]; omega

end

/-! ### slices.Delete -/
theorem wpList_run_builtin {P : Program} {ops : Array Oper} {rest : List Oper} {o : Oper} {a : Act} {w w' : World} {Q : Exit → Act → World → Prop} (hgd : o.guard = none) {s x : Operand} {t : TypeId} {v y v' : Value}
    (ho : o.op = .call { callee := .builtin .append, args := #[s, x], argTypes := #[t, t] }) (hs : a.eval s = v) (hx : a.eval x = y) (hrun : (Builtin.append_ #[t, t] o.type #[v, y]).run P w = .ok v' w')
    (h : wpList P ops Q rest (a.put o.dst v') w') : wpList P ops Q (o :: rest) a w := by
  refine wpList_plain hgd fun _ hK => ?_
  unfold Oper.wp
  rw [run_append2 ho hs hx hrun]
  exact hK _ _ h
theorem wpList_run_clear {P : Program} {ops : Array Oper} {rest : List Oper} {o : Oper} {a : Act} {w w' : World} {Q : Exit → Act → World → Prop} (hgd : o.guard = none) {x : Operand} {t : TypeId} {y v' : Value}
    (ho : o.op = .call { callee := .builtin .clear, args := #[x], argTypes := #[t] }) (hx : a.eval x = y) (hrun : (Builtin.clear_ #[t] o.type #[y]).run P w = .ok v' w')
    (h : wpList P ops Q rest (a.put o.dst v') w') : wpList P ops Q (o :: rest) a w := by
  refine wpList_plain hgd fun _ hK => ?_
  unfold Oper.wp
  have : (execOp a.eval o).run P w = .ok (.value v') w' := by simp [execOp, ho, resolve, invoke, builtin, hx, hrun, Result.andThen]
  rw [this]
  exact hK _ _ h
theorem run_clear_one {w : World} {g m c : Nat} {cur : Array Value} (ty : TypeId) (hg : w.heap[g]? = some (.cells cur 30 (0, 0))) (hm : m * 2 + 2 ≤ cur.size) :
    (Builtin.clear_ #[24] ty #[.slice (some ⟨g, m * 2, none⟩) 1 c]).run Tryd.prog w = .ok (.tuple #[]) (w.setRow g (cur.toList.take (m * 2) ++ [Value.int .i64 0, Value.int .i64 0] ++ cur.toList.drop (m * 2 + 2)).toArray) := by
  have hst := run_storeCells_at Tryd.prog g (m * 2) 30 [Value.int .i64 0, Value.int .i64 0] 0 cur w hg (by simpa using hm) (by intro v hv; simp at hv; rcases hv with rfl | rfl <;> rfl)
  simp only [Nat.add_zero, List.length_cons, List.length_nil, Nat.zero_add, Nat.reduceAdd] at hst
  have hz : (Builtin.zeroCells (Value.agg #[Value.int .i64 0, Value.int .i64 0]).cells 1).toList = [Value.int .i64 0, Value.int .i64 0] := by first | kernel_rfl | simp [Builtin.zeroCells, Value.cells]
  simp [Builtin.clear_, run_underlying Tryd.underlying24, Tryd.zeroValue30, hz, hst]

set_option maxHeartbeats 4000000 in
set_option maxRecDepth 100000 in
theorem delete_any (g cap base : Nat) (ms : List Mem) (m i : Nat) (w : World) (hm : ms.length = m + 1) (hown : OwnM w base (.slice (some ⟨g, 0, none⟩) (m + 1) cap) ms) (hi : i ≤ m) (hl : m ≤ 1000) (hbase : base ≤ w.heap.size) :
    Calls Tryd.prog 77 #[.slice (some ⟨g, 0, none⟩) (m + 1) cap, .int .i64 (i : Int), .int .i64 ((i : Int) + 1)] w fun e w' =>
      e = .returned (.slice (some ⟨g, 0, none⟩) m cap) ∧ OwnM w' base (.slice (some ⟨g, 0, none⟩) m cap) (ms.take i ++ ms.drop (i + 1)) ∧ Below base w w' := by
  obtain ⟨i0, hi0, hz0, hz1, hz2⟩ := info_parts infoM
  obtain ⟨g', cap9, cur, e1, hbg, hg, hnc, hcm, hcs, htk⟩ := hown.2.resolve_left (fun h => by simp at h)
  injection e1 with e1 e2 e3
  injection e1 with e1
  injection e1 with e1
  subst e1 e3
  clear e2
  rw [hm] at hnc htk
  -- what the append leaves
  have hnews : (mcells (ms.drop (i + 1))).length = (m - i) * 2 := by rw [mcells_length, List.length_drop]; omega
  have hread : ∀ (ad : Addr), (0 < m - i → ad = ⟨g, (i + 1) * 2, none⟩) → ∀ j u, (mcells (ms.drop (i + 1)))[j]? = some u → w.drew.cell? (ad.add j) = some u := by
    intro ad had j u hj
    have hjl : j < (m - i) * 2 := by rw [← hnews]; exact (List.getElem?_eq_some_iff.1 hj).1
    rw [had (by omega), Addr.add_lit]
    have h1 : (mcells ms)[(i + 1) * 2 + j]? = some u := by
      have e : mcells ms = mcells (ms.take (i + 1)) ++ mcells (ms.drop (i + 1)) := by rw [← mcells_append, List.take_append_drop]
      have hlt : (mcells (ms.take (i + 1))).length = (i + 1) * 2 := by rw [mcells_length, List.length_take]; congr 1; omega
      rw [e, List.getElem?_append_right (by omega), hlt, Nat.add_sub_cancel_left]
      exact hj
    have := hown.cells (g := g) rfl _ _ h1
    rw [Addr.add_lit, Nat.zero_add] at this
    exact this
  have hone : ∀ u ∈ mcells (ms.drop (i + 1)), u.oneCell' = true := mcells_one _
  have hpre : OwnM w.drew base (.slice (some ⟨g, 0, none⟩) i cap) (ms.take i) := by
    have hil : (ms.take i).length = i := by rw [List.length_take]; omega
    refine ⟨by rw [mcells_length], .inr ⟨g, cap, cur, by rw [hil], hbg, hg, by rw [hil]; omega, hcm, hcs, ?_⟩⟩
    rw [hil]
    have e : mcells ms = mcells (ms.take i) ++ mcells (ms.drop i) := by rw [← mcells_append, List.take_append_drop]
    have hlt : (mcells (ms.take i)).length = i * 2 := by rw [mcells_length, hil]
    have h2 : cur.toList.take (i * 2) = (cur.toList.take ((m + 1) * 2)).take (i * 2) := by rw [List.take_take]; congr 1; omega
    rw [h2, htk, e, ← hlt, List.take_left]
  obtain ⟨W1, hW1⟩ : ∃ W1, w.drew.setRow g (cur.toList.take (i * i0.size) ++ mcells (ms.drop (i + 1)) ++ cur.toList.drop (i * i0.size + (mcells (ms.drop (i + 1))).length)).toArray = W1 := ⟨_, rfl⟩
  have hres : ∀ (ad : Addr) (c : Nat), (0 < m - i → ad = ⟨g, (i + 1) * 2, none⟩) → (Builtin.append_ #[24, 24] 24 #[.slice (some ⟨g, 0, none⟩) i cap, .slice (some ad) (m - i) c]).run Tryd.prog w.drew = .ok (.slice (some ⟨g, 0, none⟩) m cap) W1 := by
    intro ad c had
    have := run_append_room (P := Tryd.prog) (w := w.drew) 24 24 30 i0 Tryd.underlying24 hi0 g i cap cur hg ad (m - i) c (mcells (ms.drop (i + 1))) (by rw [hz1]; exact hnews) (hread ad had) hone (by omega) (by rw [hz1, hnews, hcs]; omega)
    rw [hW1, show i + (m - i) = m by omega] at this
    exact this
  have hW1own : OwnM W1 base (.slice (some ⟨g, 0, none⟩) m cap) (ms.take i ++ ms.drop (i + 1)) ∧ Below base w W1 := by
    have hil : (ms.take i).length = i := by rw [List.length_take]; omega
    obtain ⟨v', w', k1, k2, k3, _⟩ := run_append_own (P := Tryd.prog) (w := w.drew) base 24 24 30 i0 (.agg #[Value.int .i64 0, Value.int .i64 0]) 2 16 Tryd.underlying24 hi0 hz0 hz1 hz2 rfl (by decide)
      (.slice (some ⟨g, 0, none⟩) i cap) i (mcells (ms.take i)) (by have h3 : w.drew.ownsRow base 30 2 (.slice (some ⟨g, 0, none⟩) i cap) (ms.take i).length (mcells (ms.take i)) := hpre; rw [hil] at h3; exact h3) ⟨g, (i + 1) * 2, none⟩ (m - i) 0 (mcells (ms.drop (i + 1))) hnews (hread _ (fun _ => rfl)) hone (by unfold maxLen; omega) (by omega) hbase
    rw [hres ⟨g, (i + 1) * 2, none⟩ 0 (fun _ => rfl)] at k1
    injection k1 with k1 k4
    subst k1 k4
    refine ⟨?_, (Below.refl _ w).drew.grown k3 hbase (fun k hk => (hpre.lt k hk).1)⟩
    have hlen : (ms.take i ++ ms.drop (i + 1)).length = m := by rw [List.length_append, hil, List.length_drop]; omega
    show W1.ownsRow _ _ _ _ _ _
    rw [hlen, mcells_append]
    have := k2
    rw [show i + (m - i) = m by omega] at this
    exact this
  obtain ⟨hO1, hb1⟩ := hW1own
  have hlen : (ms.take i ++ ms.drop (i + 1)).length = m := by rw [List.length_append, List.length_take, List.length_drop]; omega
  obtain ⟨g2, cap2, cur2, e1, _, hg2, hnc2, hcm2, hcs2, htk2⟩ := hO1.2.resolve_left (fun h => by simp at h)
  injection e1 with e1 e2 e3
  injection e1 with e1
  injection e1 with e1
  subst e1 e3
  clear e2
  have hclr : ∀ ty c, (Builtin.clear_ #[24] ty #[.slice (some ⟨g, m * 2, none⟩) 1 c]).run Tryd.prog W1 = .ok (.tuple #[]) (W1.setRow g (cur2.toList.take (m * 2) ++ [Value.int .i64 0, Value.int .i64 0] ++ cur2.toList.drop (m * 2 + 2)).toArray) := fun ty c => run_clear_one ty hg2 (by rw [hcs2]; omega)
  obtain ⟨W2, hW2⟩ : ∃ W2, W1.setRow g (cur2.toList.take (m * 2) ++ [Value.int .i64 0, Value.int .i64 0] ++ cur2.toList.drop (m * 2 + 2)).toArray = W2 := ⟨_, rfl⟩
  rw [hW2] at hclr
  have hO2 : OwnM W2 base (.slice (some ⟨g, 0, none⟩) m cap) (ms.take i ++ ms.drop (i + 1)) := by
    refine ⟨hO1.1, .inr ⟨g, cap, _, by rw [hlen], hbg, by rw [← hW2]; exact setRow_heap W1 g cur2 _ 30 (0, 0) hg2, by omega, hcm, ?_, ?_⟩⟩
    · simp only [List.size_toArray, List.length_append, List.length_take, List.length_drop, Array.length_toList, List.length_cons, List.length_nil]
      rw [hcs2]; omega
    · rw [hlen] at htk2 ⊢
      rw [List.append_assoc]
      have : (cur2.toList.take (m * 2)).length = m * 2 := by rw [List.length_take, Array.length_toList, hcs2]; omega
      rw [← htk2]
      exact List.take_left' this
  have hb2 : Below base w W2 := hb1.trans (by
    rw [← hW2]
    refine (Below.refl base W1).grown (row := some g) ⟨rfl, rfl, rfl, by simp [World.setRow], fun k _ hk => setRow_other W1 g k _ (fun e => hk (by rw [e]))⟩ (Nat.le_trans hbase hb1.size) (fun k hk => by injection hk with hk; omega))
  have HO2 := Lib.hid hO2
  have HB2 := Lib.hid hb2
  clear hO1 hO2 hb1 hb2 hW1 hW2 hg2 hcs2 htk2 hpre hread hnews hone hown htk hcs hg
  have HRES := Lib.hid hres
  have HCLR := Lib.hid hclr
  clear hres hclr hm hlen
  have f1 : ((i : Int) ≤ (i : Int) + 1) = True := eq_true (by omega)
  have f2 : ((i : Int) + 1 ≤ (m : Int) + 1) = True := eq_true (by omega)
  have f3 : ((m : Int) + 1 ≤ (cap : Int)) = True := eq_true (by omega)
  have f4 : ((i : Int) == (i : Int) + 1) = false := by simp; omega
  have f5 : ((i : Int) ≤ (cap : Int)) = True := eq_true (by omega)
  have f6 : ((m : Int) ≤ (m : Int) + 1) = True := eq_true (by omega)
  have f7 : (cap = m) = False := eq_false (by omega)
  have f8 : ((i : Int) + 1 ≤ (cap : Int)) = True := eq_true (by omega)
  go_enter Tryd.func77, Tryd.ntmps77
  have f0 : ((0 : Int) ≤ (i : Int) + 1) = True := eq_true (by omega)
  have hcase : (cap = m + 1 ∧ i = m) ∨ ¬ cap = i + 1 := by
    by_cases h : cap = i + 1
    · exact .inl ⟨by omega, by omega⟩
    · exact .inr h
  rcases hcase with ⟨rfl, rfl⟩ | f9
  rotate_left
  · have H0 := Lib.hid (HRES.out ⟨g, (i + 1) * 2, none⟩ (cap - (i + 1)) (fun _ => rfl))
    clear HRES
    go_wp2_with fail
    refine St.wp_region_tail 6 (fun _ wx => wx = w.drew) (by kernel_rfl) (by kernel_rfl) (by kernel_rfl) (by kernel_rfl) (by decide) rfl ?_
    simp only [List.take, List.drop]
    repeat
      (apply St.step_give
       · rfl
       · rintro L wx rfl hcl hrd
         go_simp
         try with_reducible rfl
       · exact fun L wx hS => hS
       simp only [Act.put, List.setIfInBounds_toArray, List.set_cons_zero, List.set_cons_succ])
    refine St.step_last ?_
    rintro L wx rfl -
    go_wp2_with (at_builtin; refine wpList_run_builtin rfl rfl rfl rfl H0.out ?_)
    go_wp2_with fail
    rw [HCLR.out 0 (cap - m)]
    go_wp2_with fail
    go_ret
    exact ⟨rfl, HO2.out, HB2.out⟩
  · have H0 := HRES.out ⟨g, 0, none⟩ 0 (by intro h; exfalso; omega)
    rw [Nat.sub_self] at H0
    have H0 := Lib.hid H0
    clear HRES
    go_wp2_with fail
    refine St.wp_region_tail 6 (fun _ wx => wx = w.drew) (by kernel_rfl) (by kernel_rfl) (by kernel_rfl) (by kernel_rfl) (by decide) rfl ?_
    simp only [List.take, List.drop]
    repeat
      (apply St.step_give
       · rfl
       · rintro L wx rfl hcl hrd
         go_simp
         try with_reducible rfl
       · exact fun L wx hS => hS
       simp only [Act.put, List.setIfInBounds_toArray, List.set_cons_zero, List.set_cons_succ])
    refine St.step_last ?_
    rintro L wx rfl -
    go_wp2_with (at_builtin; refine wpList_run_builtin rfl rfl rfl rfl H0.out ?_)
    go_wp2_with fail
    rw [HCLR.out 0 1]
    go_wp2_with fail
    go_ret
    exact ⟨rfl, HO2.out, HB2.out⟩
end Go.Proofs.YtlmecfnoipnccaaDoor.Ds
