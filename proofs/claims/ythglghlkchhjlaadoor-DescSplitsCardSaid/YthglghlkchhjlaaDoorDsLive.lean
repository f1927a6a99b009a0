/-
  The law's own functions: num, small, own, live: live answers true. Conditions: the library's variables hold what their types allow.
-/
import Derived.Test.YthglghlkchhjlaaDoorDsParse
import Derived.Test.YthglghlkchhjlaaDoorDsSplit
import Derived.Test.YthglghlkchhjlaaDoorDsA
namespace Go.Proofs.YthglghlkchhjlaaDoor.Ds
open Go.RowKit Bnd
open Go.Proofs.YthglghlkchhjlaaDoor.M (numT inR tieT intT untieT)

theorem num_any (n : Int) (w : World) : Calls Tryd.prog 17 #[.int .i64 n] w fun e w' => e = .returned (.int .i64 n) ∧ w = w' := by
  go_enter Tryd.func17, Tryd.ntmps17
  go_wp2_with fail
  go_ret
  exact ⟨rfl, rfl⟩

/-! ### the descriptors that live makes -/
abbrev kM : ByteArray := ⟨#[109]⟩
abbrev dF : De := ⟨1, ⟨#[]⟩, ⟨#[]⟩, 1, [(1, 1), (2, 2), (3, 3)], 4⟩
abbrev dL : De := ⟨1, ⟨#[]⟩, kM, 2, [(1, 1), (2, 2), (3, 3)], 4⟩
abbrev dR : De := ⟨2, kM, ⟨#[]⟩, 2, [(1, 1), (2, 2), (3, 3)], 4⟩
abbrev dA : De := ⟨2, kM, ⟨#[]⟩, 3, [(1, 1), (2, 2), (3, 3), (4, 4)], 5⟩
theorem live_first : firstD [1, 2, 3] = (dF, 0) := by kernel_rfl
theorem live_split : splitD dF kM 2 = (dL, dR, 0) := by kernel_rfl
theorem live_add : addD dR 4 = (dA, 0) := by kernel_rfl
theorem live_merge : mergeD dR dL = (De.zero, 20) := by kernel_rfl
theorem live_isA : isD dA = true := by kernel_rfl
theorem live_zero : chkD De.zero = 60 := by kernel_rfl
theorem inR_small {n : Int} (h0 : 0 ≤ n) (h : n ≤ 100) : inR n := by unfold M.inR; omega
theorem fit_of {d : De} (hf : d.f.size ≤ 2) (ht : d.t.size ≤ 2) (hn : d.ms.length ≤ 5) (h1 : 0 ≤ d.id ∧ d.id ≤ 100) (h2 : 0 ≤ d.gen ∧ d.gen ≤ 100) (h3 : 0 ≤ d.next ∧ d.next ≤ 100) (hm : ∀ m ∈ d.ms, (0 ≤ m.1 ∧ m.1 ≤ 100) ∧ 0 ≤ m.2 ∧ m.2 ≤ 100) : Fit d :=
  ⟨by omega, by omega, by omega, ⟨inR_small h1.1 h1.2, inR_small h2.1 h2.2, inR_small h3.1 h3.2, fun m h => ⟨inR_small (hm m h).1.1 (hm m h).1.2, inR_small (hm m h).2.1 (hm m h).2.2⟩⟩⟩
theorem fitF : Fit dF := fit_of (by decide) (by decide) (by decide) (by decide) (by decide) (by decide) (by decide)
theorem fitL : Fit dL := fit_of (by decide) (by decide) (by decide) (by decide) (by decide) (by decide) (by decide)
theorem fitR : Fit dR := fit_of (by decide) (by decide) (by decide) (by decide) (by decide) (by decide) (by decide)
theorem fitA : Fit dA := fit_of (by decide) (by decide) (by decide) (by decide) (by decide) (by decide) (by decide)
/-- a descriptor's text is short -/
theorem put_length {d : De} (fd : Fit d) (hf : d.f.size ≤ 2000) (ht : d.t.size ≤ 2000) (hn : d.ms.length ≤ 30) : (putT d).length ≤ 10000 := by
  unfold putT
  have hfew : ∀ x ∈ strandsT d, x.length ≤ 1048576 := by
    rw [← texts_strands]
    intro x hx
    obtain ⟨s, hs, rfl⟩ := List.mem_map.1 hx
    have := (few_strands fd (by omega) (by omega)).short s hs
    simp; omega
  have h1 := M.tie_length (strandsT d) hfew
  have hl : (strandsT d).length = 5 + d.ms.length * 2 := by unfold strandsT; rw [List.length_append, memsT_length]; rfl
  have hsum : ((strandsT d).map List.length).sum ≤ 4060 + d.ms.length * 40 := by
    unfold strandsT
    rw [List.map_append, List.sum_append]
    have e1 : ([numT d.id, d.f.toList, d.t.toList, numT d.gen, numT d.next].map List.length).sum ≤ 4060 := by
      have a1 := M.numT_length fd.r.id
      have a2 := M.numT_length fd.r.gen
      have a3 := M.numT_length fd.r.next
      have a4 : d.f.toList.length = d.f.size := by rw [ByteArray.toList_eq]; simp
      have a5 : d.t.toList.length = d.t.size := by rw [ByteArray.toList_eq]; simp
      simp only [List.map_cons, List.map_nil, List.sum_cons, List.sum_nil]
      omega
    have e2 : ∀ l : List Mem, (∀ m ∈ l, inR m.1 ∧ inR m.2) → ((memsT l).map List.length).sum ≤ l.length * 40 := by
      intro l
      induction l with
      | nil => intro _; simp [memsT]
      | cons m l ih =>
        intro h
        have a1 := M.numT_length (h m (by simp)).1
        have a2 := M.numT_length (h m (by simp)).2
        have := ih (fun x hx => h x (by simp [hx]))
        rw [memsT_cons]
        simp only [List.map_cons, List.sum_cons, List.length_cons]
        omega
    have := e2 d.ms fd.r.ms
    omega
  omega
theorem live_parse : parseD (putT dA) = (dA, 0) := by
  rw [parse_put fitA.r (by decide) (by have := put_length fitA (by decide) (by decide) (by decide); omega)]
  exact okD_is live_isA
theorem si_three (w : World) : SI (w.alloc (.cells #[.int .i64 1, .int .i64 2, .int .i64 3] 3)) (w.heap.size + 1) (.slice (some ⟨w.heap.size, 0, none⟩) 3 3) [1, 2, 3] :=
  ⟨_, _, rfl, fun _ => ⟨w.heap.size, 0, rfl, by omega, fun i hi => by
    match i, hi with
    | 0, _ => simp
    | 1, _ => simp
    | 2, _ => simp⟩⟩

theorem one_box {W w1 : World} (d : De) (sv : Value) (b : Below (W.alloc (.cells #[.int .i64 d.id, .string d.f, .string d.t, .int .i64 d.gen, sv, .int .i64 d.next] 26)).heap.size (W.alloc (.cells #[.int .i64 d.id, .string d.f, .string d.t, .int .i64 d.gen, sv, .int .i64 d.next] 26)) w1) : BoxD W.heap.size d sv w1 ∧ Below W.heap.size W w1 :=
  ⟨(BoxD.new W d sv).keep b, ((Below.refl _ W).alloc (Nat.le_refl _) _).trans (b.mono (by simp))⟩
theorem live_boxes {W w1 : World} (l : De) (sl : Value) (r : De) (sr : Value) (b : Below ((W.alloc (.cells #[.int .i64 l.id, .string l.f, .string l.t, .int .i64 l.gen, sl, .int .i64 l.next] 26)).alloc (.cells #[.int .i64 r.id, .string r.f, .string r.t, .int .i64 r.gen, sr, .int .i64 r.next] 26)).heap.size ((W.alloc (.cells #[.int .i64 l.id, .string l.f, .string l.t, .int .i64 l.gen, sl, .int .i64 l.next] 26)).alloc (.cells #[.int .i64 r.id, .string r.f, .string r.t, .int .i64 r.gen, sr, .int .i64 r.next] 26)) w1) :
    BoxD W.heap.size l sl w1 ∧ BoxD (W.heap.size + 1) r sr w1 ∧ Below W.heap.size W w1 := by
  have B := (BoxD.new (W.alloc (.cells #[.int .i64 l.id, .string l.f, .string l.t, .int .i64 l.gen, sl, .int .i64 l.next] 26)) r sr).keep b
  rw [World.size_alloc] at B
  exact ⟨((BoxD.new W l sl).alloc _).keep b, B, (((Below.refl _ W).alloc (Nat.le_refl _) _).alloc (by simp) _).trans (b.mono (by simp; omega))⟩
theorem box_dead {w1 : World} {s : Value} (h : ArgM w1 s De.zero.ms) : ∃ A c, s = .slice A 0 c := h.form

set_option maxHeartbeats 16000000 in
set_option maxRecDepth 100000 in
theorem live_any (w : World) (hg : Good w) : Calls Tryd.prog 10 #[] w fun e w' => e = .returned (.bool true) ∧ Below w.heap.size w w' := by
  obtain ⟨F, hF⟩ : ∃ F, F = dF := ⟨_, rfl⟩
  obtain ⟨L, hL⟩ : ∃ L, L = dL := ⟨_, rfl⟩
  obtain ⟨R, hR⟩ : ∃ R, R = dR := ⟨_, rfl⟩
  obtain ⟨Z, hZ⟩ : ∃ Z, Z = dA := ⟨_, rfl⟩
  obtain ⟨T, hT⟩ : ∃ T : ByteArray, T = ⟨(putT Z).toArray⟩ := ⟨_, rfl⟩
  have hTd : T.data.toList = putT Z := by rw [hT]
  have hTs : T.size ≤ 140737488355328 := by
    have h1 := put_length fitA (by decide) (by decide) (by decide)
    have h2 : T.size = (putT Z).length := by rw [hT]; simp [ByteArray.size]
    rw [h2, hZ]; omega
  have c1 : ∀ w : World, Calls Tryd.prog 45 #[.slice (some ⟨w.heap.size, 0, none⟩) 3 3] (w.alloc (.cells #[.int .i64 1, .int .i64 2, .int .i64 3] 3)) fun e w' => ∃ s', e = .returned (.tuple #[dv F s', .int .i64 0]) ∧ ArgM w' s' F.ms ∧ Below (w.heap.size + 1) (w.alloc (.cells #[.int .i64 1, .int .i64 2, .int .i64 3] 3)) w' := by
    intro w
    have := first_any (.slice (some ⟨w.heap.size, 0, none⟩) 3 3) [1, 2, 3] (w.alloc (.cells #[.int .i64 1, .int .i64 2, .int .i64 3] 3)) (by simpa using si_three w) (by decide)
    rw [live_first] at this
    rw [hF]
    simpa using this
  have c2 : ∀ (s : Value) w, ArgM w s F.ms → Calls Tryd.prog 24 #[dv F s, .string kM, .int .i64 2] w fun e w' => ∃ s' s'', e = .returned (.tuple #[dv L s', dv R s'', .int .i64 0]) ∧ ArgM w' s' L.ms ∧ ArgM w' s'' R.ms ∧ Below w.heap.size w w' := by
    intro s w h
    subst hF hL hR
    have := split_any dF s kM 2 w h fitF (by decide)
    rw [live_split] at this
    exact this
  have c3 : ∀ (s : Value) w, ArgM w s R.ms → Calls Tryd.prog 46 #[dv R s, .int .i64 4] w fun e w' => ∃ s', e = .returned (.tuple #[dv Z s', .int .i64 0]) ∧ ArgM w' s' Z.ms ∧ Below w.heap.size w w' := by
    intro s w h
    subst hR hZ
    have := add_any dR s 4 w h fitR
    rw [live_add] at this
    exact this
  have c4 : ∀ (s : Value) w, ArgM w s Z.ms → Calls Tryd.prog 22 #[dv Z s] w fun e w' => e = .returned (.string T) ∧ Below w.heap.size w w' := by
    intro s w h
    rw [hT]
    subst hZ
    exact put_any dA s w h.sm fitA (by decide) (by decide)
  have c5 : ∀ w, Good w → Calls Tryd.prog 15 #[.string T] w fun e w' => ∃ s', e = .returned (.tuple #[dv Z s', .int .i64 0]) ∧ ArgM w' s' Z.ms ∧ Below w.heap.size w w' := by
    intro w h
    have := parse_any T w hTs h
    rw [hTd, hZ, live_parse] at this
    rw [hZ]
    exact this
  have c6 : ∀ (s : Value) w, ArgM w s Z.ms → Calls Tryd.prog 11 #[dv Z s, .int .i64 4] w fun e w' => e = .returned (.tuple #[.agg #[.int .i64 4, .int .i64 4], .bool true]) ∧ Below w.heap.size w w' := by
    intro s w h
    subst hZ
    exact on_any dA s 4 w h.sm (by decide)
  have c7 : ∀ (s s' : Value) w, ArgM w s R.ms → ArgM w s' L.ms → Calls Tryd.prog 27 #[dv R s, dv L s'] w fun e w' => ∃ A c, e = .returned (.tuple #[dv De.zero (.slice A 0 c), .int .i64 20]) ∧ Below w.heap.size w w' := by
    intro s s' w h h'
    subst hR hL
    have := merge_any dR dL s s' w h h' fitR fitL
    rw [live_merge] at this
    refine this.mono ?_
    rintro e w' ⟨s2, h1, h2, h3⟩
    obtain ⟨A, c, rfl⟩ := box_dead h2
    exact ⟨A, c, h1, h3⟩
  have c8 : ∀ (s s' : Value) w, ArgM w s Z.ms → ArgM w s' Z.ms → Calls Tryd.prog 20 #[dv Z s, dv Z s'] w fun e w' => e = .returned (.bool true) ∧ Below w.heap.size w w' := by
    intro s s' w h h'
    have := rsame_any Z Z s s' w h.sm h'.sm (by rw [hZ]; decide) (by rw [hZ]; decide)
    rw [sameD_self] at this
    exact this
  have c9 : ∀ w : World, Calls Tryd.prog 47 #[.int .i64 4] w fun e w' => e = .returned (.int .i64 3) ∧ w = w' := fun w => quorum_any 4 w (by decide) (by decide)
  have c10 : ∀ w : World, Calls Tryd.prog 18 #[dv De.zero (.slice none 0 0)] w fun e w' => e = .returned (.int .i64 60) ∧ Below w.heap.size w w' := by
    intro w
    have := check_any De.zero (.slice none 0 0) w (SM.nil _ _) (by decide) (by decide) (by decide)
    rw [live_zero] at this
    exact this
  have v1 : (L.t.toList == [109]) = true := by rw [hL]; kernel_rfl
  have v2 : R.id = 2 := by rw [hR]
  have v3 : R.gen = 2 := by rw [hR]
  have v4 : Z.next = 5 := by rw [hZ]
  have V2 := Lib.hid v2
  have V3 := Lib.hid v3
  have V4 := Lib.hid v4
  clear hF hL hR hZ hT hTd hTs v2 v3 v4
  go_enter Tryd.func10, Tryd.ntmps10
  go_wp2_with fail
  refine (c1 _).mono ?_
  rintro e w1 ⟨s1, rfl, a1, b1⟩
  obtain ⟨A1, k1, rfl⟩ := a1.form
  have hb1 : Below w.heap.size w w1 := (show Below w.heap.size w _ from (by (repeat' (first | with_reducible assumption | with_reducible exact Below.refl _ _ | with_reducible refine Below.alloc ?_ ?_ _ | with_reducible refine Below.setCell ?_ ?_ _ | with_reducible refine Below.drew ?_ | omega | (simp; done) | (simp; omega))))).trans (b1.mono (by omega))
  clear b1 c1
  go_wp2_with fail
  refine (c2 _ _ (a1.keep (by (repeat' (first | with_reducible assumption | with_reducible exact Below.refl _ _ | with_reducible refine Below.alloc ?_ ?_ _ | with_reducible refine Below.setCell ?_ ?_ _ | with_reducible refine Below.drew ?_ | omega | (simp; done) | (simp; omega)))))).mono ?_
  rintro e w2 ⟨s2, s3, rfl, a2, a3, b2⟩
  obtain ⟨A2, k2, rfl⟩ := a2.form
  obtain ⟨A3, k3, rfl⟩ := a3.form
  have hb2 : Below w.heap.size w w2 := (hb1.alloc hb1.size _).trans (b2.mono (by have := hb1.size; simp; omega))
  clear b2 c2 a1
  go_wp2_with fail
  refine (c3 _ _ ((a3.keep ((Below.refl _ _).alloc (Nat.le_refl _) _)).keep ((Below.refl _ _).alloc (Nat.le_refl _) _))).mono ?_
  rintro e w3 ⟨s4, rfl, a4, b3⟩
  obtain ⟨A4, k4, rfl⟩ := a4.form
  obtain ⟨BL, BR, hb23⟩ := live_boxes L (.slice A2 L.ms.length k2) R (.slice A3 R.ms.length k3) b3
  have hb3 : Below w.heap.size w w3 := hb2.trans (hb23.mono hb2.size)
  have a2 := a2.keep hb23
  have a3 := a3.keep hb23
  clear b3 c3 hb23
  go_wp2_with fail
  refine (c4 _ _ (a4.keep (by (repeat' (first | with_reducible assumption | with_reducible exact Below.refl _ _ | with_reducible refine Below.alloc ?_ ?_ _ | with_reducible refine Below.setCell ?_ ?_ _ | with_reducible refine Below.drew ?_ | omega | (simp; done) | (simp; omega)))))).mono ?_
  rintro e w4 ⟨rfl, b4⟩
  obtain ⟨BZ, hb34⟩ := one_box Z (.slice A4 Z.ms.length k4) b4
  have hb4 : Below w.heap.size w w4 := hb3.trans (hb34.mono hb3.size)
  have BL := BL.keep hb34
  have BR := BR.keep hb34
  have a2 := a2.keep hb34
  have a3 := a3.keep hb34
  have a4 := a4.keep hb34
  clear b4 c4 hb34
  go_wp2_with fail
  refine (c5 _ (hg.below hb4)).mono ?_
  rintro e w5 ⟨s5, rfl, a5, b5⟩
  obtain ⟨A5, k5, rfl⟩ := a5.form
  have hb5 : Below w.heap.size w w5 := hb4.trans (b5.mono hb4.size)
  have BL := BL.keep b5
  have BR := BR.keep b5
  have BZ := BZ.keep b5
  have a2 := a2.keep b5
  have a3 := a3.keep b5
  have a4 := a4.keep b5
  clear b5 c5
  obtain ⟨z_0, ⟨z_1, z_2, z_3, z_4, z_5, z_6⟩, z_7⟩ := id BZ
  go_wp2_with fail
  refine (c6 _ _ (a4.keep (by (repeat' (first | with_reducible assumption | with_reducible exact Below.refl _ _ | with_reducible refine Below.alloc ?_ ?_ _ | with_reducible refine Below.setCell ?_ ?_ _ | with_reducible refine Below.drew ?_ | omega | (simp; done) | (simp; omega)))))).mono ?_
  rintro e w6 ⟨rfl, b6⟩
  obtain ⟨BP, hb56⟩ := one_box Z (.slice A5 Z.ms.length k5) b6
  have hb6 : Below w.heap.size w w6 := hb5.trans (hb56.mono hb5.size)
  have BL := BL.keep hb56
  have BR := BR.keep hb56
  have BZ := BZ.keep hb56
  have a2 := a2.keep hb56
  have a3 := a3.keep hb56
  have a4 := a4.keep hb56
  have a5 := a5.keep hb56
  clear z_0 z_1 z_2 z_3 z_4 z_5 z_6 z_7
  obtain ⟨l_0, ⟨l_1, l_2, l_3, l_4, l_5, l_6⟩, l_7⟩ := id BL
  obtain ⟨r_0, ⟨r_1, r_2, r_3, r_4, r_5, r_6⟩, r_7⟩ := id BR
  clear b6 c6 hb56
  go_wp2_with fail
  refine (c7 _ _ _ (a3.keep (by (repeat' (first | with_reducible assumption | with_reducible exact Below.refl _ _ | with_reducible refine Below.alloc ?_ ?_ _ | with_reducible refine Below.setCell ?_ ?_ _ | with_reducible refine Below.drew ?_ | omega | (simp; done) | (simp; omega))))) (a2.keep (by (repeat' (first | with_reducible assumption | with_reducible exact Below.refl _ _ | with_reducible refine Below.alloc ?_ ?_ _ | with_reducible refine Below.setCell ?_ ?_ _ | with_reducible refine Below.drew ?_ | omega | (simp; done) | (simp; omega)))))).mono ?_
  rintro e w7 ⟨A7, k7, rfl, b7⟩
  have m0 : w7.cell? ⟨w6.heap.size, 0, none⟩ = some (.int .i64 4) := by rw [b7.cell (p := ⟨w6.heap.size, 0, none⟩) (by simp)]; simp [go_sem]
  have m1 : w7.cell? ⟨w6.heap.size, 1, none⟩ = some (.int .i64 4) := by rw [b7.cell (p := ⟨w6.heap.size, 1, none⟩) (by simp)]; simp [go_sem]
  have hm : w6.heap.size < w7.heap.size := by have := b7.size; simp at this; omega
  have hb67 : Below w6.heap.size w6 w7 := ((Below.refl _ w6).alloc (Nat.le_refl _) _).trans (b7.mono (by simp))
  have hb7 : Below w.heap.size w w7 := hb6.trans (hb67.mono hb6.size)
  have BL := BL.keep hb67
  have BR := BR.keep hb67
  have BZ := BZ.keep hb67
  have BP := BP.keep hb67
  have a4 := a4.keep hb67
  have a5 := a5.keep hb67
  clear l_0 l_1 l_2 l_3 l_4 l_5 l_6 l_7
  clear r_0 r_1 r_2 r_3 r_4 r_5 r_6 r_7
  obtain ⟨l_0, ⟨l_1, l_2, l_3, l_4, l_5, l_6⟩, l_7⟩ := id BL
  obtain ⟨r_0, ⟨r_1, r_2, r_3, r_4, r_5, r_6⟩, r_7⟩ := id BR
  obtain ⟨z_0, ⟨z_1, z_2, z_3, z_4, z_5, z_6⟩, z_7⟩ := id BZ
  obtain ⟨p_0, ⟨p_1, p_2, p_3, p_4, p_5, p_6⟩, p_7⟩ := id BP
  rw [V2.out] at r_1
  rw [V3.out] at r_4
  have v4 : (Z.next == 5) = true := by rw [V4.out]; rfl
  have v5 : (Z.next = 5) = True := eq_true V4.out
  clear b7 c7 hb67 a2 a3
  go_wp2_with fail
  refine (num_any _ _).mono ?_
  rintro e w' ⟨rfl, rfl⟩
  go_wp2_with fail
  refine (num_any _ _).mono ?_
  rintro e w' ⟨rfl, rfl⟩
  go_wp2_with fail
  refine (num_any _ _).mono ?_
  rintro e w' ⟨rfl, rfl⟩
  go_wp2_with fail
  refine (num_any _ _).mono ?_
  rintro e w' ⟨rfl, rfl⟩
  go_wp2_with fail
  refine (c8 _ _ _ (a5.keep (by (repeat' (first | with_reducible assumption | with_reducible exact Below.refl _ _ | with_reducible refine Below.alloc ?_ ?_ _ | with_reducible refine Below.setCell ?_ ?_ _ | with_reducible refine Below.drew ?_ | omega | (simp; done) | (simp; omega))))) (a4.keep (by (repeat' (first | with_reducible assumption | with_reducible exact Below.refl _ _ | with_reducible refine Below.alloc ?_ ?_ _ | with_reducible refine Below.setCell ?_ ?_ _ | with_reducible refine Below.drew ?_ | omega | (simp; done) | (simp; omega)))))).mono ?_
  rintro e w9 ⟨rfl, b9⟩
  have hb79 : Below w7.heap.size w7 w9 := (show Below w7.heap.size w7 _ from (by (repeat' (first | with_reducible assumption | with_reducible exact Below.refl _ _ | with_reducible refine Below.alloc ?_ ?_ _ | with_reducible refine Below.setCell ?_ ?_ _ | with_reducible refine Below.drew ?_ | omega | (simp; done) | (simp; omega))))).trans (b9.mono (by simp))
  have hb9 : Below w.heap.size w w9 := hb7.trans (hb79.mono hb7.size)
  have n1 := (hb79.cell (p := ⟨w6.heap.size, 1, none⟩) hm).trans m1
  clear l_0 l_1 l_2 l_3 l_4 l_5 l_6 l_7
  clear r_0 r_1 r_2 r_3 r_4 r_5 r_6 r_7
  clear z_0 z_1 z_2 z_3 z_4 z_5 z_6 z_7
  clear p_0 p_1 p_2 p_3 p_4 p_5 p_6 p_7
  clear b9 c8 hb79 m0 m1
  go_wp2_with fail
  refine (c9 _).mono ?_
  rintro e w' ⟨rfl, rfl⟩
  go_wp2_with fail
  refine (num_any _ _).mono ?_
  rintro e w' ⟨rfl, rfl⟩
  go_wp2_with fail
  refine (c10 _).mono ?_
  rintro e w10 ⟨rfl, b10⟩
  have hb10 : Below w.heap.size w w10 := hb9.trans (b10.mono hb9.size)
  clear b10 c10
  go_wp2_with fail
  refine (num_any _ _).mono ?_
  rintro e w' ⟨rfl, rfl⟩
  go_wp2_with fail
  go_ret
  exact ⟨rfl, hb10⟩
end Go.Proofs.YthglghlkchhjlaaDoor.Ds
