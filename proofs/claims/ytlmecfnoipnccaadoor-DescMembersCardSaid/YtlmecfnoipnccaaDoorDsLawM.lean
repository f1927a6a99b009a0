/-
  DescMembers, walked: the first range, one more, one less are what the document says. Conditions: lengths at most 2^47; the library's variables hold what their types allow.
-/
import Derived.Test.YtlmecfnoipnccaaDoorDsRAdd
import Derived.Test.YtlmecfnoipnccaaDoorDsRFst
import Derived.Test.YtlmecfnoipnccaaDoorDsRemove
import Derived.Test.YtlmecfnoipnccaaDoorDsSmall
namespace Go.Proofs.YtlmecfnoipnccaaDoor.Ds
open Go.RowKit Bnd

theorem infoN : (Tryd.prog.info? 3).map (fun i => (i.zero, i.size, i.bytes)) = some (some (.int .i64 0), 1, 8) := by kernel_rfl
/-- a row of ints of the call's own -/
abbrev OwnN (w : World) (base : Nat) (v : Value) (ns : List Int) : Prop := w.ownsRow base 3 1 v ns.length (ns.map (Value.int .i64))
theorem ownN_empty (w : World) (k : Nat) (h : w.heap.size = k) : OwnN (w.alloc (.cells #[] 3)) k (.slice (some ⟨k, 0, none⟩) 0 0) [] := h ▸
  ⟨rfl, .inr ⟨w.heap.size, 0, #[], rfl, Nat.le_refl _, heap_alloc_new w _, Nat.le_refl _, by unfold maxLen; omega, rfl, rfl⟩⟩
theorem SI.of_ownN {w : World} {base : Nat} {v : Value} {ns : List Int} (h : OwnN w base v ns) : SI w w.heap.size v ns := by
  rcases h.2 with ⟨rfl, h0⟩ | ⟨g, cap, cur, rfl, _, hh, _⟩
  · have : ns = [] := List.length_eq_zero_iff.1 h0
    subst this
    exact ⟨none, 0, rfl, fun h => absurd h (by simp)⟩
  · refine ⟨_, _, rfl, fun h0 => ⟨g, 0, rfl, ?_, fun i hi => ?_⟩⟩
    · exact (Array.getElem?_eq_some_iff.1 hh).1
    · have := h.cells (g := g) rfl i _ (by rw [List.getElem?_map, List.getElem?_eq_getElem hi]; rfl)
      rw [Addr.add_lit] at this
      exact this
theorem wpList_append_ns {w : World} {ops : Array Oper} {rest : List Oper} {o : Oper} {a : Act} {Q : Exit → Act → World → Prop} (hw : Region.wanted o (yielded ops a.tmps) = true) (s x : Operand)
    (ho : o.op = .call { callee := .builtin .append, args := #[s, x], argTypes := #[52, 52] }) (base : Nat) (v : Value) (hs : a.eval s = v)
    (hown : OwnN w base v []) (hbase : base ≤ w.heap.size) (A : Option Addr) (c : Nat) (ys : List Int) (hx : a.eval x = .slice A ys.length c) (hy : SI w w.heap.size (.slice A ys.length c) ys) (hnil : A = none → ys.length = 0 ∧ c = 0) (hlen : ys.length ≤ 1000000)
    (h : ∀ v' w', OwnN w' base v' ys → Below base w w' → wpList Tryd.prog ops Q rest (a.put o.dst v') w') : wpList Tryd.prog ops Q (o :: rest) a w := by
  obtain ⟨i0, hi, hz0, hz1, hz2⟩ := info_parts infoN
  refine wpList_step fun K hK => ?_
  rw [if_pos hw]
  cases A with
  | none =>
    obtain ⟨h0, rfl⟩ := hnil rfl
    obtain rfl := List.length_eq_zero_iff.1 h0
    have hrun := run_append_owned_none (P := Tryd.prog) (w := w) base 52 o.type 3 i0 1 Tryd.underlying52 hi v 0 [] hown
    unfold Oper.wp
    have hx' : a.eval x = .slice none 0 0 := hx
    simp [execOp, ho, resolve, invoke, builtin, hs, hx', hrun, Result.andThen]
    exact hK _ _ (h v w hown (Below.refl _ w))
  | some ad =>
    refine wp_append_own w s x 52 ho base 3 i0 (.int .i64 0) 1 8 Tryd.underlying52 hi hz0 hz1 hz2 rfl (by decide) v 0 [] hs hown ad ys.length c (ys.map (Value.int .i64)) hx (by simp) ?_ ?_ (by unfold maxLen; omega) (by omega) hbase ?_
    · intro j u hj
      rw [List.getElem?_map] at hj
      cases hq : ys[j]? with
      | none => rw [hq] at hj; cases hj
      | some y =>
        rw [hq] at hj
        have hu : u = .int .i64 y := by simpa using hj.symm
        subst hu
        obtain ⟨hjl, hye⟩ := List.getElem?_eq_some_iff.1 hq
        obtain ⟨A', c', e, hh⟩ := hy
        obtain ⟨b, f, k1, _, k2⟩ := hh (by omega)
        have e1 : some ad = A' := by cases e; rfl
        rw [← e1] at k1
        obtain rfl := Option.some.inj k1
        rw [Addr.add_lit, ← hye]
        exact k2 j hjl
    · intro u hu
      obtain ⟨y, _, rfl⟩ := List.mem_map.1 hu
      rfl
    · intro v' w' h2 h3 _
      refine hK _ _ (h v' w' ?_ ((Below.refl _ w).grown h3 hbase (fun k hk => (hown.lt k hk).1)))
      show w'.ownsRow _ _ _ _ _ _
      rw [Nat.zero_add] at h2
      exact h2

/-- a box with a descriptor, and its members -/
def Held (n : Nat) (x : De) (s : Value) (w : World) : Prop := BoxD n x s w ∧ ArgM w s x.ms
theorem Held.keep {n : Nat} {x : De} {s : Value} {w w' : World} (h : Held n x s w) (hb : Below w.heap.size w w') : Held n x s w' := ⟨h.1.keep hb, h.2.keep hb⟩
theorem Held.new (w : World) (x : De) (s : Value) (h : ArgM w s x.ms) : Held w.heap.size x s (w.alloc (.cells #[.int .i64 x.id, .string x.f, .string x.t, .int .i64 x.gen, s, .int .i64 x.next] 26)) :=
  ⟨BoxD.new w x s, h.keep ((Below.refl _ w).alloc (Nat.le_refl _) _)⟩

theorem gave_form {w w' : World} {p : De × Int} {e : Ending} (h : Gave w p e w') : ∃ A c, e = .returned (.tuple #[dv p.1 (.slice A p.1.ms.length c), .int .i64 p.2]) ∧ ArgM w' (.slice A p.1.ms.length c) p.1.ms ∧ Below w.heap.size w w' := by
  obtain ⟨s, h1, h2, h3⟩ := h
  obtain ⟨A, c, rfl⟩ := h2.form
  exact ⟨A, c, h1, h2, h3⟩
theorem okD_few {d : De} {n : Nat} (h : d.ms.length ≤ n) : (okD d).1.ms.length ≤ n := by
  unfold okD
  split
  · exact h
  · simp [De.zero]
theorem first_few (ns : List Int) (h : ns.length ≤ 30) : (firstD ns).1.ms.length ≤ 1000000000 := by
  unfold firstD
  exact okD_few (by simp only [numbered_length]; omega)
theorem add_few (d : De) (n : Int) (h : d.ms.length ≤ 30) : (addD d n).1.ms.length ≤ 1000000000 := by
  unfold addD
  repeat' split
  all_goals first | (simp [De.zero]; done) | exact okD_few (by simp; omega)
theorem remove_few (d : De) (n : Int) (h : d.ms.length ≤ 30) : (removeD d n).1.ms.length ≤ 1000000000 := by
  unfold removeD
  repeat' split
  all_goals first | (simp [De.zero]; done) | exact okD_few (by simp only [dropM]; exact Nat.le_trans (List.length_filter_le _ _) (by omega))

set_option maxHeartbeats 16000000 in
set_option maxRecDepth 100000 in
theorem walk_members (A0 : Option Addr) (c0 : Nat) (ns : List Int) (d : De) (s : Value) (n i : Int) (w : World) (hv : SI w w.heap.size (.slice A0 ns.length c0) ns) (hnil : A0 = none → ns.length = 0 ∧ c0 = 0) (hnl : ns.length ≤ 140737488355328) (hs : ArgM w s d.ms) (ld : Lim d) (hg : Good w) :
    Calls Tryd.prog 5 #[.slice A0 ns.length c0, dv d s, .int .i64 n, .int .i64 i] w fun e w' => e = .returned (.bool true) ∧ Below w.heap.size w w' := by
  obtain ⟨A, k, rfl⟩ := hs.form
  have hlive := fun wx (hb : Below w.heap.size w wx) => live_any wx (hg.below hb)
  have csm := fun w h => small_any d (.slice A d.ms.length k) w h ld
  have ks : ∀ wx, Below w.heap.size w wx → ArgM wx (.slice A d.ms.length k) d.ms := fun wx h => hs.keep h
  have kv : ∀ wx, Below w.heap.size w wx → SI wx wx.heap.size (.slice A0 ns.length c0) ns := fun wx h => (hv.below h).more h.size
  have hD0 := BoxD.new w d (.slice A d.ms.length k)
  cases hsm : smallD d with
  | false =>
    rw [hsm] at csm
    clear hsm
    go_enter Tryd.func5, Tryd.ntmps5
    go_wp2_with fail
    refine (csm _ (ks _ (by (repeat' (first | with_reducible assumption | with_reducible exact Below.refl _ _ | with_reducible refine Below.alloc ?_ ?_ _ | with_reducible refine Below.setCell ?_ ?_ _ | with_reducible refine Below.drew ?_ | omega | (simp; done) | (simp; omega)))))).mono ?_
    rintro e w1 ⟨rfl, b1⟩
    have hb1 : Below w.heap.size w w1 := (show Below w.heap.size w _ from (by (repeat' (first | with_reducible assumption | with_reducible exact Below.refl _ _ | with_reducible refine Below.alloc ?_ ?_ _ | with_reducible refine Below.setCell ?_ ?_ _ | with_reducible refine Below.drew ?_ | omega | (simp; done) | (simp; omega))))).trans (b1.mono (by simp))
    go_wp2_with fail
    refine (hlive _ hb1).mono ?_
    rintro e w2 ⟨rfl, b2⟩
    go_wp2_with fail
    go_ret
    exact ⟨rfl, hb1.trans (b2.mono hb1.size)⟩
  | true =>
    have hsm' := small_iff.1 hsm
    rw [hsm] at csm
    by_cases h30 : ns.length ≤ 30
    rotate_left
    · have g1 : ((ns.length : Int) > 30) = True := eq_true (by omega)
      clear hsm hsm'
      go_enter Tryd.func5, Tryd.ntmps5
      go_wp2_with fail
      refine (csm _ (ks _ (by (repeat' (first | with_reducible assumption | with_reducible exact Below.refl _ _ | with_reducible refine Below.alloc ?_ ?_ _ | with_reducible refine Below.setCell ?_ ?_ _ | with_reducible refine Below.drew ?_ | omega | (simp; done) | (simp; omega)))))).mono ?_
      rintro e w1 ⟨rfl, b1⟩
      have hb1 : Below w.heap.size w w1 := (show Below w.heap.size w _ from (by (repeat' (first | with_reducible assumption | with_reducible exact Below.refl _ _ | with_reducible refine Below.alloc ?_ ?_ _ | with_reducible refine Below.setCell ?_ ?_ _ | with_reducible refine Below.drew ?_ | omega | (simp; done) | (simp; omega))))).trans (b1.mono (by simp))
      go_wp2_with fail
      refine (hlive _ hb1).mono ?_
      rintro e w2 ⟨rfl, b2⟩
      go_wp2_with fail
      go_ret
      exact ⟨rfl, hb1.trans (b2.mono hb1.size)⟩
    have g1 : ((ns.length : Int) > 30) = False := eq_false (by omega)
    have fd : Fit d := ld.fit hsm
    have l1 := first_few ns h30
    have l2 := add_few d n (by omega)
    have l3 := remove_few d i (by omega)
    obtain ⟨p1, hp1⟩ : ∃ p, firstD ns = p := ⟨_, rfl⟩
    obtain ⟨p2, hp2⟩ : ∃ p, addD d n = p := ⟨_, rfl⟩
    obtain ⟨p3, hp3⟩ : ∃ p, removeD d i = p := ⟨_, rfl⟩
    rw [hp1] at l1
    rw [hp2] at l2
    rw [hp3] at l3
    have hdn : d.ms.length ≤ 1000 := by omega
    have c1 : ∀ v w, SI w w.heap.size v ns → Calls Tryd.prog 30 #[v] w fun e w' => ∃ A c, e = .returned (.tuple #[dv p1.1 (.slice A p1.1.ms.length c), .int .i64 p1.2]) ∧ ArgM w' (.slice A p1.1.ms.length c) p1.1.ms ∧ Below w.heap.size w w' := by
      intro v w h
      rw [← hp1]
      exact (first_any v ns w h (by omega)).mono fun e w' hh => gave_form hh
    have c2 : ∀ w, SI w w.heap.size (.slice A0 ns.length c0) ns → Calls Tryd.prog 31 #[.slice A0 ns.length c0] w fun e w' => ∃ A c, e = .returned (.tuple #[dv p1.1 (.slice A p1.1.ms.length c), .int .i64 p1.2]) ∧ ArgM w' (.slice A p1.1.ms.length c) p1.1.ms ∧ Below w.heap.size w w' := by
      intro w h
      rw [← hp1]
      exact (rfirst_any (.slice A0 ns.length c0) ns w h (by omega)).mono fun e w' hh => gave_form hh
    have co : ∀ w, ArgM w (.slice A d.ms.length k) d.ms → Calls Tryd.prog 26 #[dv d (.slice A d.ms.length k)] w fun e w' => ∃ A' c', e = .returned (dv d (.slice A' d.ms.length c')) ∧ ArgM w' (.slice A' d.ms.length c') d.ms ∧ Below w.heap.size w w' := by
      intro w h
      refine (own_any d (.slice A d.ms.length k) w h hdn).mono ?_
      rintro e w' ⟨s', h1, h2, h3⟩
      obtain ⟨A', c', rfl⟩ := h2.form
      exact ⟨A', c', h1, h2, h3⟩
    have c3 : ∀ s w, ArgM w s d.ms → Calls Tryd.prog 32 #[dv d s, .int .i64 n] w fun e w' => ∃ A c, e = .returned (.tuple #[dv p2.1 (.slice A p2.1.ms.length c), .int .i64 p2.2]) ∧ ArgM w' (.slice A p2.1.ms.length c) p2.1.ms ∧ Below w.heap.size w w' := by
      intro s w h
      rw [← hp2]
      exact (add_any d s n w h fd).mono fun e w' hh => gave_form hh
    have c4 : ∀ s w, ArgM w s d.ms → Calls Tryd.prog 33 #[dv d s, .int .i64 n] w fun e w' => ∃ A c, e = .returned (.tuple #[dv p2.1 (.slice A p2.1.ms.length c), .int .i64 p2.2]) ∧ ArgM w' (.slice A p2.1.ms.length c) p2.1.ms ∧ Below w.heap.size w w' := by
      intro s w h
      rw [← hp2]
      exact (radd_any d s n w h fd).mono fun e w' hh => gave_form hh
    have c5 : ∀ s w, ArgM w s d.ms → Calls Tryd.prog 34 #[dv d s, .int .i64 i] w fun e w' => ∃ A c, e = .returned (.tuple #[dv p3.1 (.slice A p3.1.ms.length c), .int .i64 p3.2]) ∧ ArgM w' (.slice A p3.1.ms.length c) p3.1.ms ∧ Below w.heap.size w w' := by
      intro s w h
      rw [← hp3]
      exact (remove_any d s i w h fd).mono fun e w' hh => gave_form hh
    have c6 : ∀ s w, ArgM w s d.ms → Calls Tryd.prog 35 #[dv d s, .int .i64 i] w fun e w' => ∃ A c, e = .returned (.tuple #[dv p3.1 (.slice A p3.1.ms.length c), .int .i64 p3.2]) ∧ ArgM w' (.slice A p3.1.ms.length c) p3.1.ms ∧ Below w.heap.size w w' := by
      intro s w h
      rw [← hp3]
      exact (rremove_any d s i w h fd).mono fun e w' hh => gave_form hh
    have e1 : ∀ s s' w, ArgM w s p1.1.ms → ArgM w s' p1.1.ms → Calls Tryd.prog 21 #[dv p1.1 s, dv p1.1 s'] w fun e w' => e = .returned (.bool true) ∧ Below w.heap.size w w' := by
      intro s s' w h h'
      have := rsame_any p1.1 p1.1 s s' w h.sm h'.sm l1 l1
      rw [sameD_self] at this
      exact this
    have e2 : ∀ s s' w, ArgM w s p2.1.ms → ArgM w s' p2.1.ms → Calls Tryd.prog 21 #[dv p2.1 s, dv p2.1 s'] w fun e w' => e = .returned (.bool true) ∧ Below w.heap.size w w' := by
      intro s s' w h h'
      have := rsame_any p2.1 p2.1 s s' w h.sm h'.sm l2 l2
      rw [sameD_self] at this
      exact this
    have e3 : ∀ s s' w, ArgM w s p3.1.ms → ArgM w s' p3.1.ms → Calls Tryd.prog 21 #[dv p3.1 s, dv p3.1 s'] w fun e w' => e = .returned (.bool true) ∧ Below w.heap.size w w' := by
      intro s s' w h h'
      have := rsame_any p3.1 p3.1 s s' w h.sm h'.sm l3 l3
      rw [sameD_self] at this
      exact this
    clear hp1 hp2 hp3 l1 l2 l3 fd hsm hsm' ld
    obtain ⟨x1, y1⟩ := p1
    obtain ⟨x2, y2⟩ := p2
    obtain ⟨x3, y3⟩ := p3
    simp only at c1 c2 c3 c4 c5 c6 e1 e2 e3
    go_enter Tryd.func5, Tryd.ntmps5
    go_wp2_with fail
    refine (csm _ (ks _ (by (repeat' (first | with_reducible assumption | with_reducible exact Below.refl _ _ | with_reducible refine Below.alloc ?_ ?_ _ | with_reducible refine Below.setCell ?_ ?_ _ | with_reducible refine Below.drew ?_ | omega | (simp; done) | (simp; omega)))))).mono ?_
    rintro e w1 ⟨rfl, b1⟩
    have D1 := hD0.keep b1
    have hb1 : Below w.heap.size w w1 := (show Below w.heap.size w _ from (by (repeat' (first | with_reducible assumption | with_reducible exact Below.refl _ _ | with_reducible refine Below.alloc ?_ ?_ _ | with_reducible refine Below.setCell ?_ ?_ _ | with_reducible refine Below.drew ?_ | omega | (simp; done) | (simp; omega))))).trans (b1.mono (by simp))
    have hz1 := hb1.size
    clear b1 csm hD0
    go_wp2_with (at_builtin; refine wpList_append_ns rfl _ _ rfl w1.heap.size _ rfl (ownN_empty _ _ rfl) (by simp) A0 c0 ns rfl (kv _ (hb1.alloc hz1 _)) hnil (by omega) ?_)
    intro v2 w2 o2 b2
    have hal : Below w1.heap.size w1 w2 := ((Below.refl _ w1).alloc (Nat.le_refl _) _).trans b2
    have D2 := D1.keep hal
    have hb2 : Below w.heap.size w w2 := hb1.trans (hal.mono hz1)
    have hz2 := hb2.size
    have hi2 := Lib.hid (SI.of_ownN o2)
    clear o2 b2 hal D1
    go_wp2_with fail
    refine (c1 _ _ hi2.out).mono ?_
    rintro e w3 ⟨A3, c3_, rfl, a3, b3⟩
    have r3 := b3
    have hb3 : Below w.heap.size w w3 := hb2.trans (r3.mono hz2)
    have hz3 := hb3.size
    have D3 := D2.keep r3
    clear b3 r3 D2
    go_wp2_with fail
    refine (c2 _ (kv _ (hb3.alloc hz3 _))).mono ?_
    rintro e w4 ⟨A4, c4_, rfl, a4, b4⟩
    have q4 : Below w3.heap.size w3 (w3.alloc (.cells #[.int .i64 x1.id, .string x1.f, .string x1.t, .int .i64 x1.gen, .slice A3 x1.ms.length c3_, .int .i64 x1.next] 26)) := (Below.refl _ w3).alloc (Nat.le_refl _) _
    have r4 : Below w3.heap.size w3 w4 := q4.trans (b4.mono q4.size)
    have N4 := (Held.new w3 x1 (.slice A3 x1.ms.length c3_) a3).keep b4
    have hb4 : Below w.heap.size w w4 := hb3.trans (r4.mono hz3)
    have hz4 := hb4.size
    have D4 := D3.keep r4
    clear b4 r4 D3 q4 a3
    obtain ⟨p_0, ⟨p_1, p_2, p_3, p_4, p_5, p_6⟩, p_7⟩ := id D4
    have hlt4 := D4.1
    go_wp2_with fail
    refine (co _ (ks _ (hb4.alloc hz4 _))).mono ?_
    rintro e w5 ⟨A5, c5_, rfl, a5, b5⟩
    have q5 : Below w4.heap.size w4 (w4.alloc (.cells #[.int .i64 x1.id, .string x1.f, .string x1.t, .int .i64 x1.gen, .slice A4 x1.ms.length c4_, .int .i64 x1.next] 26)) := (Below.refl _ w4).alloc (Nat.le_refl _) _
    have r5 : Below w4.heap.size w4 w5 := q5.trans (b5.mono q5.size)
    have N5 := (Held.new w4 x1 (.slice A4 x1.ms.length c4_) a4).keep b5
    have hb5 : Below w.heap.size w w5 := hb4.trans (r5.mono hz4)
    have hz5 := hb5.size
    have D5 := D4.keep r5
    have N4_5 := N4.keep r5
    clear b5 r5 D4 q5 a4 N4
    go_wp2_with fail
    refine (c3 _ _ a5).mono ?_
    rintro e w6 ⟨A6, c6_, rfl, a6, b6⟩
    have r6 := b6
    have hb6 : Below w.heap.size w w6 := hb5.trans (r6.mono hz5)
    have hz6 := hb6.size
    have D6 := D5.keep r6
    have N4_5_6 := N4_5.keep r6
    have N5_6 := N5.keep r6
    clear b6 r6 D5 N4_5 N5
    clear p_0 p_1 p_2 p_3 p_4 p_5 p_6 p_7
    obtain ⟨p_0, ⟨p_1, p_2, p_3, p_4, p_5, p_6⟩, p_7⟩ := id D6
    have hlt6 := D6.1
    go_wp2_with fail
    refine (c4 _ _ (ks _ (hb6.alloc hz6 _))).mono ?_
    rintro e w7 ⟨A7, c7_, rfl, a7, b7⟩
    have q7 : Below w6.heap.size w6 (w6.alloc (.cells #[.int .i64 x2.id, .string x2.f, .string x2.t, .int .i64 x2.gen, .slice A6 x2.ms.length c6_, .int .i64 x2.next] 26)) := (Below.refl _ w6).alloc (Nat.le_refl _) _
    have r7 : Below w6.heap.size w6 w7 := q7.trans (b7.mono q7.size)
    have N7 := (Held.new w6 x2 (.slice A6 x2.ms.length c6_) a6).keep b7
    have hb7 : Below w.heap.size w w7 := hb6.trans (r7.mono hz6)
    have hz7 := hb7.size
    have D7 := D6.keep r7
    have N4_5_6_7 := N4_5_6.keep r7
    have N5_6_7 := N5_6.keep r7
    clear b7 r7 D6 q7 a6 N4_5_6 N5_6
    clear p_0 p_1 p_2 p_3 p_4 p_5 p_6 p_7
    obtain ⟨p_0, ⟨p_1, p_2, p_3, p_4, p_5, p_6⟩, p_7⟩ := id D7
    have hlt7 := D7.1
    go_wp2_with fail
    refine (co _ (ks _ (hb7.alloc hz7 _))).mono ?_
    rintro e w8 ⟨A8, c8_, rfl, a8, b8⟩
    have q8 : Below w7.heap.size w7 (w7.alloc (.cells #[.int .i64 x2.id, .string x2.f, .string x2.t, .int .i64 x2.gen, .slice A7 x2.ms.length c7_, .int .i64 x2.next] 26)) := (Below.refl _ w7).alloc (Nat.le_refl _) _
    have r8 : Below w7.heap.size w7 w8 := q8.trans (b8.mono q8.size)
    have N8 := (Held.new w7 x2 (.slice A7 x2.ms.length c7_) a7).keep b8
    have hb8 : Below w.heap.size w w8 := hb7.trans (r8.mono hz7)
    have hz8 := hb8.size
    have D8 := D7.keep r8
    have N4_5_6_7_8 := N4_5_6_7.keep r8
    have N5_6_7_8 := N5_6_7.keep r8
    have N7_8 := N7.keep r8
    clear b8 r8 D7 q8 a7 N4_5_6_7 N5_6_7 N7
    go_wp2_with fail
    refine (c5 _ _ a8).mono ?_
    rintro e w9 ⟨A9, c9_, rfl, a9, b9⟩
    have r9 := b9
    have hb9 : Below w.heap.size w w9 := hb8.trans (r9.mono hz8)
    have hz9 := hb9.size
    have D9 := D8.keep r9
    have N4_5_6_7_8_9 := N4_5_6_7_8.keep r9
    have N5_6_7_8_9 := N5_6_7_8.keep r9
    have N7_8_9 := N7_8.keep r9
    have N8_9 := N8.keep r9
    clear b9 r9 D8 N4_5_6_7_8 N5_6_7_8 N7_8 N8
    clear p_0 p_1 p_2 p_3 p_4 p_5 p_6 p_7
    obtain ⟨p_0, ⟨p_1, p_2, p_3, p_4, p_5, p_6⟩, p_7⟩ := id D9
    have hlt9 := D9.1
    go_wp2_with fail
    refine (c6 _ _ (ks _ (hb9.alloc hz9 _))).mono ?_
    rintro e w10 ⟨A10, c10_, rfl, a10, b10⟩
    have q10 : Below w9.heap.size w9 (w9.alloc (.cells #[.int .i64 x3.id, .string x3.f, .string x3.t, .int .i64 x3.gen, .slice A9 x3.ms.length c9_, .int .i64 x3.next] 26)) := (Below.refl _ w9).alloc (Nat.le_refl _) _
    have r10 : Below w9.heap.size w9 w10 := q10.trans (b10.mono q10.size)
    have N10 := (Held.new w9 x3 (.slice A9 x3.ms.length c9_) a9).keep b10
    have hb10 : Below w.heap.size w w10 := hb9.trans (r10.mono hz9)
    have hz10 := hb10.size
    have D10 := D9.keep r10
    have N4_5_6_7_8_9_10 := N4_5_6_7_8_9.keep r10
    have N5_6_7_8_9_10 := N5_6_7_8_9.keep r10
    have N7_8_9_10 := N7_8_9.keep r10
    have N8_9_10 := N8_9.keep r10
    clear b10 r10 D9 q10 a9 N4_5_6_7_8_9 N5_6_7_8_9 N7_8_9 N8_9
    have hq : Below w10.heap.size w10 (w10.alloc (.cells #[.int .i64 x3.id, .string x3.f, .string x3.t, .int .i64 x3.gen, .slice A10 x3.ms.length c10_, .int .i64 x3.next] 26)) := (Below.refl _ w10).alloc (Nat.le_refl _) _
    have T6 := Held.new w10 x3 (.slice A10 x3.ms.length c10_) a10
    have T1 := N4_5_6_7_8_9_10.keep hq
    have T2 := N5_6_7_8_9_10.keep hq
    have T3 := N7_8_9_10.keep hq
    have T4 := N8_9_10.keep hq
    have T5 := N10.keep hq
    have hb11 := hb10.trans (hq.mono hz10)
    have hz11 := hb11.size
    clear hq a10 D10 N4_5_6_7_8_9_10 N5_6_7_8_9_10 N7_8_9_10 N8_9_10 N10
    clear p_0 p_1 p_2 p_3 p_4 p_5 p_6 p_7
    obtain ⟨⟨t1, ⟨u1, u2, u3, u4, u5, u6⟩, _⟩, ta1⟩ := id T1
    obtain ⟨⟨t2, ⟨v1, v2', v3, v4, v5, v6⟩, _⟩, ta2⟩ := id T2
    go_wp2_with fail
    refine (e1 _ _ _ T1.2 T2.2).mono ?_
    rintro e w12 ⟨rfl, b12⟩
    have S3 := T3.keep b12
    have S4 := T4.keep b12
    have S5 := T5.keep b12
    have S6 := T6.keep b12
    have hb12 := hb11.trans (b12.mono hz11)
    have hz12 := hb12.size
    clear b12 T1 T2 T3 T4 T5 T6 t1 u1 u2 u3 u4 u5 u6 ta1 t2 v1 v2' v3 v4 v5 v6 ta2
    go_wp2_with fail
    refine (num_any _ _).mono ?_
    rintro e w' ⟨rfl, rfl⟩
    obtain ⟨⟨t1, ⟨u1, u2, u3, u4, u5, u6⟩, _⟩, ta1⟩ := id S3
    obtain ⟨⟨t2, ⟨v1, v2', v3, v4, v5, v6⟩, _⟩, ta2⟩ := id S4
    go_wp2_with fail
    refine (e2 _ _ _ S3.2 S4.2).mono ?_
    rintro e w13 ⟨rfl, b13⟩
    have R5 := S5.keep b13
    have R6 := S6.keep b13
    have hb13 := hb12.trans (b13.mono hz12)
    have hz13 := hb13.size
    clear b13 S3 S4 S5 S6 t1 u1 u2 u3 u4 u5 u6 ta1 t2 v1 v2' v3 v4 v5 v6 ta2
    go_wp2_with fail
    refine (num_any _ _).mono ?_
    rintro e w' ⟨rfl, rfl⟩
    obtain ⟨⟨t1, ⟨u1, u2, u3, u4, u5, u6⟩, _⟩, ta1⟩ := id R5
    obtain ⟨⟨t2, ⟨v1, v2', v3, v4, v5, v6⟩, _⟩, ta2⟩ := id R6
    go_wp2_with fail
    refine (e3 _ _ _ R5.2 R6.2).mono ?_
    rintro e w14 ⟨rfl, b14⟩
    have hb14 := hb13.trans (b14.mono hz13)
    clear b14 R5 R6 t1 u1 u2 u3 u4 u5 u6 ta1 t2 v1 v2' v3 v4 v5 v6 ta2
    go_wp2_with fail
    refine (num_any _ _).mono ?_
    rintro e w' ⟨rfl, rfl⟩
    go_wp2_with fail
    refine (hlive _ hb14).mono ?_
    rintro e w15 ⟨rfl, b15⟩
    go_wp2_with fail
    go_ret
    exact ⟨rfl, hb14.trans (b15.mono hb14.size)⟩
theorem walk_members_of (A0 : Option Addr) (n0 c0 : Nat) (ns : List Int) (d : De) (s : Value) (n i : Int) (w : World) (hv : SI w w.heap.size (.slice A0 n0 c0) ns) (hnil : A0 = none → n0 = 0 ∧ c0 = 0) (hnl : ns.length ≤ 140737488355328) (hs : ArgM w s d.ms) (ld : Lim d) (hg : Good w) :
    Calls Tryd.prog 5 #[.slice A0 n0 c0, dv d s, .int .i64 n, .int .i64 i] w fun e w' => e = .returned (.bool true) ∧ Below w.heap.size w w' := by
  have e : n0 = ns.length := by
    obtain ⟨A, c, e, _⟩ := id hv
    cases e
    rfl
  subst e
  exact walk_members A0 c0 ns d s n i w hv hnil hnl hs ld hg
end Go.Proofs.YtlmecfnoipnccaaDoor.Ds

