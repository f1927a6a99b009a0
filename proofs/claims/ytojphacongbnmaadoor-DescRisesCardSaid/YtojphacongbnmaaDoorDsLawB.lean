/-
  The law DescBack, walked: it answers true, at every descriptor, node, key and number. Conditions: the form's own reach; the library's variables hold what their types allow.
-/
import Derived.Test.YtojphacongbnmaaDoorDsSmall
import Derived.Test.YtojphacongbnmaaDoorDsRemove
namespace Go.Proofs.YtojphacongbnmaaDoor.Ds
open Go.RowKit Bnd
open Go.Proofs.YtojphacongbnmaaDoor.M (numT inR tieT intT untieT)

theorem inR_isD {d : De} (h : isD d = true) : 1 ≤ d.gen ∧ d.gen ≤ 1099511627776 := isD_gen h
/-- what a change answers: a descriptor that may be, or none and a number that is not 0 -/
theorem add_cases {d : De} (n : Int) (hd : isD d = true) : (∃ x, addD d n = (x, 0) ∧ isD x = true) ∨ ∃ e, addD d n = (De.zero, e) ∧ e ≠ 0 := by
  unfold addD
  rw [if_pos hd]
  by_cases h1 : nodeB n = true
  · rw [if_pos h1]
    by_cases h2 : (onM n d.ms).isSome = true
    · rw [if_pos h2]; exact .inr ⟨8, rfl, by decide⟩
    · rw [if_neg h2]
      by_cases h3 : d.ms.length = 5
      · rw [if_pos h3]; exact .inr ⟨6, rfl, by decide⟩
      · rw [if_neg h3]
        rcases okD_cases { d with ms := d.ms ++ [(n, d.next)], next := d.next + 1, gen := d.gen + 1 } with ⟨h, e⟩ | e
        · exact .inl ⟨_, e, h⟩
        · exact .inr ⟨60, e, by decide⟩
  · rw [if_neg h1]; exact .inr ⟨2, rfl, by decide⟩
theorem split_cases (d : De) (k : ByteArray) (n : Int) : (∃ x y, splitD d k n = (x, y, 0)) ∨ ∃ e, splitD d k n = (De.zero, De.zero, e) ∧ e ≠ 0 := by
  unfold splitD
  by_cases h1 : isD d = true
  · rw [if_pos h1]
    by_cases h2 : cutsB d.b k.toList = true
    · rw [if_pos h2]
      by_cases h3 : n ≤ d.id
      · rw [if_pos h3]; exact .inr ⟨2, rfl, by decide⟩
      · rw [if_neg h3]
        by_cases h4 : isD { d with t := k, gen := d.gen + 1 } = true ∧ isD { d with f := k, gen := d.gen + 1, id := n } = true
        · rw [if_pos h4]; exact .inl ⟨_, _, rfl⟩
        · rw [if_neg h4]; exact .inr ⟨60, rfl, by decide⟩
    · rw [if_neg h2]; exact .inr ⟨20, rfl, by decide⟩
  · rw [if_neg h1]; exact .inr ⟨60, rfl, by decide⟩
/-- one that may be, in numbers of 64 bits, is fit for every call -/
theorem fit_isD {d : De} (h : isD d = true) (hf : d.f.size ≤ 140737488355328) (ht : d.t.size ≤ 140737488355328) : Fit d := by
  obtain ⟨h1, h2, h3, _, h5, _⟩ := (isD_iff d).1 h
  have a1 := (idB_iff _).1 h1
  have a2 := (idB_iff _).1 h2
  have a3 := (idB_iff _).1 h3
  refine ⟨hf, ht, by omega, ⟨by unfold M.inR; omega, by unfold M.inR; omega, by unfold M.inR; omega, fun m hm => ?_⟩⟩
  have hp := (isD_parts h).1 m hm
  have hn := (nodeB_iff _).1 hp.1
  refine ⟨?_, ?_⟩ <;> (unfold M.inR; omega)
theorem add_same {d x : De} {n : Int} (hd : isD d = true) (h : addD d n = (x, 0)) : x.f = d.f ∧ x.t = d.t := by
  obtain ⟨_, _, _, rfl⟩ := add_rise hd h
  exact ⟨rfl, rfl⟩
theorem mem_of_on {n : Int} {x d : De} (h : onM n x.ms = some (n, d.next)) : optV (onM n x.ms) = .tuple #[.agg #[.int .i64 n, .int .i64 d.next], .bool true] := by rw [h]; rfl

theorem Gave.form {w w' : World} {p : De × Int} {x : De} {q : Int} {e : Ending} (h : Gave w p e w') (hp : p = (x, q)) : ∃ A c, e = .returned (.tuple #[dv x (.slice A x.ms.length c), .int .i64 q]) ∧ ArgM w' (.slice A x.ms.length c) x.ms ∧ Below w.heap.size w w' := by
  subst hp
  obtain ⟨s, rfl, ha, hb⟩ := h
  obtain ⟨A, c, rfl⟩ := ha.form
  exact ⟨A, c, rfl, ha, hb⟩
theorem Gave2.form {w w' : World} {p : De × De × Int} {x y : De} {q : Int} {e : Ending} (h : Gave2 w p e w') (hp : p = (x, y, q)) : ∃ A c A' c', e = .returned (.tuple #[dv x (.slice A x.ms.length c), dv y (.slice A' y.ms.length c'), .int .i64 q]) ∧ ArgM w' (.slice A x.ms.length c) x.ms ∧ ArgM w' (.slice A' y.ms.length c') y.ms ∧ Below w.heap.size w w' := by
  subst hp
  obtain ⟨s, s', rfl, ha, ha', hb⟩ := h
  obtain ⟨A, c, rfl⟩ := ha.form
  obtain ⟨A', c', rfl⟩ := ha'.form
  exact ⟨A, c, A', c', rfl, ha, ha', hb⟩

set_option maxHeartbeats 16000000 in
set_option maxRecDepth 100000 in
theorem walk_back (d : De) (s : Value) (n : Int) (k : ByteArray) (i : Int) (w : World) (hd : ArgM w s d.ms) (ld : Lim d) (hk : k.size ≤ 140737488355328) (hg : Good w) :
    Calls Tryd.prog 7 #[dv d s, .int .i64 n, .string k, .int .i64 i] w fun e w' => e = .returned (.bool true) ∧ Below w.heap.size w w' := by
  obtain ⟨A, k1, rfl⟩ := hd.form
  have kd : ∀ w1, Below w.heap.size w w1 → ArgM w1 (.slice A d.ms.length k1) d.ms := fun w1 h => hd.keep h
  have c1 := fun w h => small_any d (.slice A d.ms.length k1) w h ld
  cases h1 : smallD d with
  | false =>
    rw [h1] at c1
    go_enter Tryd.func7, Tryd.ntmps7
    go_wp2_with fail
    refine (c1 _ (kd _ (by (repeat' (first | with_reducible assumption | with_reducible exact Below.refl _ _ | with_reducible refine Below.alloc ?_ ?_ _ | with_reducible refine Below.setCell ?_ ?_ _ | with_reducible refine Below.drew ?_ | omega | (simp; done) | (simp; omega)))))).mono ?_
    rintro e w1 ⟨rfl, b1⟩
    have hb1 : Below w.heap.size w w1 := (show Below w.heap.size w _ from (by (repeat' (first | with_reducible assumption | with_reducible exact Below.refl _ _ | with_reducible refine Below.alloc ?_ ?_ _ | with_reducible refine Below.setCell ?_ ?_ _ | with_reducible refine Below.drew ?_ | omega | (simp; done) | (simp; omega))))).trans (b1.mono (by simp))
    clear b1
    go_wp2_with fail
    refine (live_any _ (hg.below hb1)).mono ?_
    rintro e w2 ⟨rfl, b2⟩
    go_wp2_with fail
    go_ret
    exact ⟨rfl, hb1.trans (b2.mono hb1.size)⟩
  | true =>
    rw [h1] at c1
    have fd := ld.fit h1
    obtain ⟨g1, g2, g3⟩ := small_iff.1 h1
    have c2 := fun w h => check_any d (.slice A d.ms.length k1) w h (by omega) (by omega) (by omega)
    by_cases h2 : k.size ≤ 2000
    rotate_left
    · have e1 : ((2000 : Int) < (k.size : Int)) = True := eq_true (by omega)
      have e2 : ((k.size : Int) > 2000) = True := eq_true (by omega)
      go_enter Tryd.func7, Tryd.ntmps7
      go_wp2_with fail
      refine (c1 _ (kd _ (by (repeat' (first | with_reducible assumption | with_reducible exact Below.refl _ _ | with_reducible refine Below.alloc ?_ ?_ _ | with_reducible refine Below.setCell ?_ ?_ _ | with_reducible refine Below.drew ?_ | omega | (simp; done) | (simp; omega)))))).mono ?_
      rintro e w1 ⟨rfl, b1⟩
      have hb1 : Below w.heap.size w w1 := (show Below w.heap.size w _ from (by (repeat' (first | with_reducible assumption | with_reducible exact Below.refl _ _ | with_reducible refine Below.alloc ?_ ?_ _ | with_reducible refine Below.setCell ?_ ?_ _ | with_reducible refine Below.drew ?_ | omega | (simp; done) | (simp; omega))))).trans (b1.mono (by simp))
      clear b1
      go_wp2_with fail
      refine (live_any _ (hg.below hb1)).mono ?_
      rintro e w2 ⟨rfl, b2⟩
      go_wp2_with fail
      go_ret
      exact ⟨rfl, hb1.trans (b2.mono hb1.size)⟩
    · have e1 : ((2000 : Int) < (k.size : Int)) = False := eq_false (by omega)
      have e2 : ((k.size : Int) > 2000) = False := eq_false (by omega)
      cases h3 : isD d with
      | false =>
        rw [chkD_no h3] at c2
        go_enter Tryd.func7, Tryd.ntmps7
        go_wp2_with fail
        refine (c1 _ (kd _ (by (repeat' (first | with_reducible assumption | with_reducible exact Below.refl _ _ | with_reducible refine Below.alloc ?_ ?_ _ | with_reducible refine Below.setCell ?_ ?_ _ | with_reducible refine Below.drew ?_ | omega | (simp; done) | (simp; omega)))))).mono ?_
        rintro e w1 ⟨rfl, b1⟩
        obtain ⟨B0, hb1⟩ := one_box d (.slice A d.ms.length k1) b1
        obtain ⟨o_0, ⟨o_1, o_2, o_3, o_4, o_5, o_6⟩, o_7⟩ := id B0
        clear b1
        go_wp2_with fail
        refine (c2 _ (kd _ hb1).sm).mono ?_
        rintro e w2 ⟨rfl, b2⟩
        have hb2 : Below w.heap.size w w2 := hb1.trans (b2.mono hb1.size)
        clear b2
        go_wp2_with fail
        refine (num_any _ _).mono ?_
        rintro e w' ⟨rfl, rfl⟩
        go_wp2_with fail
        refine (live_any _ (hg.below hb2)).mono ?_
        rintro e w3 ⟨rfl, b3⟩
        go_wp2_with fail
        go_ret
        exact ⟨rfl, hb2.trans (b3.mono hb2.size)⟩
      | true =>
        rw [chkD_yes h3] at c2
        have c30 := fun w h => add_any d (.slice A d.ms.length k1) n w h fd
        have c40 := fun w h => split_any d (.slice A d.ms.length k1) k i w h fd hk
        rcases add_cases n h3 with ⟨x, hx, hxd⟩ | ⟨q3, hx, hq3⟩
        rotate_left
        · obtain ⟨x, hxz⟩ : ∃ x, x = De.zero := ⟨_, rfl⟩
          have c3 := fun w h => (c30 w h).mono fun e w' hh => Gave.form hh (show addD d n = (x, q3) by rw [hx, hxz])
          have u1 : (q3 == 0) = false := by simpa using hq3
          have u2 : (q3 = 0) = False := eq_false hq3
          clear hx hxz c30 hq3
          rcases split_cases d k i with ⟨l, r, hs⟩ | ⟨q4, hs, hq4⟩
          rotate_left
          · obtain ⟨l, hl⟩ : ∃ l, l = De.zero := ⟨_, rfl⟩
            obtain ⟨r, hr⟩ : ∃ r, r = De.zero := ⟨_, rfl⟩
            have c4 := fun w h => (c40 w h).mono fun e w' hh => Gave2.form hh (show splitD d k i = (l, r, q4) by rw [hs, hl, hr])
            have v1 : (q4 == 0) = false := by simpa using hq4
            have v2 : (q4 != 0) = true := by simpa using hq4
            have v3 : (q4 = 0) = False := eq_false hq4
            clear hs hl hr c40 hq4
            go_enter Tryd.func7, Tryd.ntmps7
            go_wp2_with fail
            refine (c1 _ (kd _ (by (repeat' (first | with_reducible assumption | with_reducible exact Below.refl _ _ | with_reducible refine Below.alloc ?_ ?_ _ | with_reducible refine Below.setCell ?_ ?_ _ | with_reducible refine Below.drew ?_ | omega | (simp; done) | (simp; omega)))))).mono ?_
            rintro e w1 ⟨rfl, b1⟩
            obtain ⟨B0, hb1⟩ := one_box d (.slice A d.ms.length k1) b1
            obtain ⟨o_0, ⟨o_1, o_2, o_3, o_4, o_5, o_6⟩, o_7⟩ := id B0
            clear b1
            go_wp2_with fail
            refine (c2 _ (kd _ hb1).sm).mono ?_
            rintro e w2 ⟨rfl, b2⟩
            have hb2 : Below w.heap.size w w2 := hb1.trans (b2.mono hb1.size)
            have B0 := B0.keep b2
            clear o_0 o_1 o_2 o_3 o_4 o_5 o_6 o_7
            obtain ⟨o_0, ⟨o_1, o_2, o_3, o_4, o_5, o_6⟩, o_7⟩ := id B0
            clear b2
            go_wp2_with fail
            refine (num_any _ _).mono ?_
            rintro e w' ⟨rfl, rfl⟩
            go_wp2_with fail
            refine (c3 _ (kd _ hb2)).mono ?_
            rintro e w3 ⟨A3, k3, rfl, a3, b3⟩
            have hb3 : Below w.heap.size w w3 := hb2.trans (b3.mono hb2.size)
            have B0 := B0.keep b3
            clear o_0 o_1 o_2 o_3 o_4 o_5 o_6 o_7
            obtain ⟨o_0, ⟨o_1, o_2, o_3, o_4, o_5, o_6⟩, o_7⟩ := id B0
            clear b3
            go_wp2_with fail
            refine (num_any _ _).mono ?_
            rintro e w' ⟨rfl, rfl⟩
            go_wp2_with fail
            refine (c4 _ (kd _ (hb3.alloc hb3.size _))).mono ?_
            rintro e w7 ⟨A7, k7, A8, k8, rfl, a7, a8, b7⟩
            have hb7 : Below w.heap.size w w7 := (hb3.alloc hb3.size _).trans (b7.mono (by have := hb3.size; simp; omega))
            have B0 := (B0.alloc _).keep b7
            clear o_0 o_1 o_2 o_3 o_4 o_5 o_6 o_7
            obtain ⟨o_0, ⟨o_1, o_2, o_3, o_4, o_5, o_6⟩, o_7⟩ := id B0
            clear b7
            go_wp2_with fail
            refine (num_any _ _).mono ?_
            rintro e w' ⟨rfl, rfl⟩
            have hb7' := (hb7.alloc hb7.size (.cells #[.int .i64 l.id, .string l.f, .string l.t, .int .i64 l.gen, .slice A7 l.ms.length k7, .int .i64 l.next] 26)).alloc (by have := hb7.size; simp; omega) (.cells #[.int .i64 r.id, .string r.f, .string r.t, .int .i64 r.gen, .slice A8 r.ms.length k8, .int .i64 r.next] 26)
            go_wp2_with fail
            refine (live_any _ (hg.below hb7')).mono ?_
            rintro e wz ⟨rfl, bz⟩
            go_wp2_with fail
            go_ret
            exact ⟨rfl, hb7'.trans (bz.mono hb7'.size)⟩
          · have c4 := fun w h => (c40 w h).mono fun e w' hh => Gave2.form hh hs
            obtain ⟨_, hsc, _, hl1, hr1, hl2, hr2⟩ := split_spec hs
            have fl : Fit l := fit_isD hl1 (by rw [hl2]; exact fd.f) (by rw [hl2]; exact hk)
            have fr : Fit r := fit_isD hr1 (by rw [hr2]; exact hk) (by rw [hr2]; exact fd.t)
            rcases split_back hs with hm | hm
            · obtain ⟨m, hmz⟩ : ∃ m, m = De.zero := ⟨_, rfl⟩
              have c5 := fun w s s' h h' => (merge_any l r s s' w h h' fl fr).mono fun e w' hh => Gave.form hh (show mergeD l r = (m, 60) by rw [hm, hmz])
              clear hs hm hmz hl2 hr2 hl1 hr1 hsc fl fr c40
              go_enter Tryd.func7, Tryd.ntmps7
              go_wp2_with fail
              refine (c1 _ (kd _ (by (repeat' (first | with_reducible assumption | with_reducible exact Below.refl _ _ | with_reducible refine Below.alloc ?_ ?_ _ | with_reducible refine Below.setCell ?_ ?_ _ | with_reducible refine Below.drew ?_ | omega | (simp; done) | (simp; omega)))))).mono ?_
              rintro e w1 ⟨rfl, b1⟩
              obtain ⟨B0, hb1⟩ := one_box d (.slice A d.ms.length k1) b1
              obtain ⟨o_0, ⟨o_1, o_2, o_3, o_4, o_5, o_6⟩, o_7⟩ := id B0
              clear b1
              go_wp2_with fail
              refine (c2 _ (kd _ hb1).sm).mono ?_
              rintro e w2 ⟨rfl, b2⟩
              have hb2 : Below w.heap.size w w2 := hb1.trans (b2.mono hb1.size)
              have B0 := B0.keep b2
              clear o_0 o_1 o_2 o_3 o_4 o_5 o_6 o_7
              obtain ⟨o_0, ⟨o_1, o_2, o_3, o_4, o_5, o_6⟩, o_7⟩ := id B0
              clear b2
              go_wp2_with fail
              refine (num_any _ _).mono ?_
              rintro e w' ⟨rfl, rfl⟩
              go_wp2_with fail
              refine (c3 _ (kd _ hb2)).mono ?_
              rintro e w3 ⟨A3, k3, rfl, a3, b3⟩
              have hb3 : Below w.heap.size w w3 := hb2.trans (b3.mono hb2.size)
              have B0 := B0.keep b3
              clear o_0 o_1 o_2 o_3 o_4 o_5 o_6 o_7
              obtain ⟨o_0, ⟨o_1, o_2, o_3, o_4, o_5, o_6⟩, o_7⟩ := id B0
              clear b3
              go_wp2_with fail
              refine (num_any _ _).mono ?_
              rintro e w' ⟨rfl, rfl⟩
              go_wp2_with fail
              refine (c4 _ (kd _ (hb3.alloc hb3.size _))).mono ?_
              rintro e w7 ⟨A7, k7, A8, k8, rfl, a7, a8, b7⟩
              have hb7 : Below w.heap.size w w7 := (hb3.alloc hb3.size _).trans (b7.mono (by have := hb3.size; simp; omega))
              have B0 := (B0.alloc _).keep b7
              clear o_0 o_1 o_2 o_3 o_4 o_5 o_6 o_7
              obtain ⟨o_0, ⟨o_1, o_2, o_3, o_4, o_5, o_6⟩, o_7⟩ := id B0
              clear b7
              go_wp2_with fail
              refine (num_any _ _).mono ?_
              rintro e w' ⟨rfl, rfl⟩
              go_wp2_with fail
              refine (c5 _ _ _ ((a7.keep ((Below.refl _ _).alloc (Nat.le_refl _) _)).keep ((Below.refl _ _).alloc (Nat.le_refl _) _)) ((a8.keep ((Below.refl _ _).alloc (Nat.le_refl _) _)).keep ((Below.refl _ _).alloc (Nat.le_refl _) _))).mono ?_
              rintro e w8 ⟨A9, k9, rfl, a9, b8⟩
              obtain ⟨_, BR, hb78⟩ := live_boxes l (.slice A7 l.ms.length k7) r (.slice A8 r.ms.length k8) b8
              have hb8 : Below w.heap.size w w8 := hb7.trans (hb78.mono hb7.size)
              have B0 := B0.keep hb78
              clear o_0 o_1 o_2 o_3 o_4 o_5 o_6 o_7
              obtain ⟨o_0, ⟨o_1, o_2, o_3, o_4, o_5, o_6⟩, o_7⟩ := id B0
              obtain ⟨r_0, ⟨r_1, r_2, r_3, r_4, r_5, r_6⟩, r_7⟩ := id BR
              have hz8 := hb8.size
              clear b8 hb78
              go_wp2_with fail
              refine (num_any _ _).mono ?_
              rintro e w' ⟨rfl, rfl⟩
              go_wp2_with fail
              refine (num_any _ _).mono ?_
              rintro e w' ⟨rfl, rfl⟩
              have hb8' := hb8.alloc hz8 (.cells #[.int .i64 m.id, .string m.f, .string m.t, .int .i64 m.gen, .slice A9 m.ms.length k9, .int .i64 m.next] 26)
              go_wp2_with fail
              refine (live_any _ (hg.below hb8')).mono ?_
              rintro e wz ⟨rfl, bz⟩
              go_wp2_with fail
              go_ret
              exact ⟨rfl, hb8'.trans (bz.mono hb8'.size)⟩
            · obtain ⟨m, hmm⟩ : ∃ m, m = ({ d with gen := d.gen + 1 + 1 } : De) := ⟨_, rfl⟩
              have c5 := fun w s s' h h' => (merge_any l r s s' w h h' fl fr).mono fun e w' hh => Gave.form hh (show mergeD l r = (m, 0) by rw [hm, hmm])
              have c6 : ∀ s w, ArgM w s m.ms → ArgM w (.slice A d.ms.length k1) d.ms → Calls Tryd.prog 36 #[s, .slice A d.ms.length k1] w fun e w' => e = .returned (.bool true) ∧ Below w.heap.size w w' := by
                intro s w h h'
                have h0 := members_any s (.slice A d.ms.length k1) m.ms d.ms w h.sm h'.sm (by rw [hmm]; show d.ms.length ≤ _; omega) (by omega)
                rw [show decide (m.ms = d.ms) = true by rw [hmm]; simp] at h0
                exact h0
              have v1 : (m.id == d.id) = true := by rw [hmm]; simp
              have v2 : (m.f.toList == d.f.toList) = true := by rw [hmm]; simp
              have v3 : (m.t.toList == d.t.toList) = true := by rw [hmm]; simp
              have v4 : (d.gen < m.gen) = True := eq_true (by rw [hmm]; show d.gen < d.gen + 1 + 1; omega)
              have v5 : (r.gen < m.gen) = True := eq_true (by rw [hmm, hr2]; show d.gen + 1 < d.gen + 1 + 1; omega)
              have v6 : (m.id = d.id) = True := eq_true (by rw [hmm])
              clear hs hm hmm hl2 hr2 hl1 hr1 hsc fl fr c40
              go_enter Tryd.func7, Tryd.ntmps7
              go_wp2_with fail
              refine (c1 _ (kd _ (by (repeat' (first | with_reducible assumption | with_reducible exact Below.refl _ _ | with_reducible refine Below.alloc ?_ ?_ _ | with_reducible refine Below.setCell ?_ ?_ _ | with_reducible refine Below.drew ?_ | omega | (simp; done) | (simp; omega)))))).mono ?_
              rintro e w1 ⟨rfl, b1⟩
              obtain ⟨B0, hb1⟩ := one_box d (.slice A d.ms.length k1) b1
              obtain ⟨o_0, ⟨o_1, o_2, o_3, o_4, o_5, o_6⟩, o_7⟩ := id B0
              clear b1
              go_wp2_with fail
              refine (c2 _ (kd _ hb1).sm).mono ?_
              rintro e w2 ⟨rfl, b2⟩
              have hb2 : Below w.heap.size w w2 := hb1.trans (b2.mono hb1.size)
              have B0 := B0.keep b2
              clear o_0 o_1 o_2 o_3 o_4 o_5 o_6 o_7
              obtain ⟨o_0, ⟨o_1, o_2, o_3, o_4, o_5, o_6⟩, o_7⟩ := id B0
              clear b2
              go_wp2_with fail
              refine (num_any _ _).mono ?_
              rintro e w' ⟨rfl, rfl⟩
              go_wp2_with fail
              refine (c3 _ (kd _ hb2)).mono ?_
              rintro e w3 ⟨A3, k3, rfl, a3, b3⟩
              have hb3 : Below w.heap.size w w3 := hb2.trans (b3.mono hb2.size)
              have B0 := B0.keep b3
              clear o_0 o_1 o_2 o_3 o_4 o_5 o_6 o_7
              obtain ⟨o_0, ⟨o_1, o_2, o_3, o_4, o_5, o_6⟩, o_7⟩ := id B0
              clear b3
              go_wp2_with fail
              refine (num_any _ _).mono ?_
              rintro e w' ⟨rfl, rfl⟩
              go_wp2_with fail
              refine (c4 _ (kd _ (hb3.alloc hb3.size _))).mono ?_
              rintro e w7 ⟨A7, k7, A8, k8, rfl, a7, a8, b7⟩
              have hb7 : Below w.heap.size w w7 := (hb3.alloc hb3.size _).trans (b7.mono (by have := hb3.size; simp; omega))
              have B0 := (B0.alloc _).keep b7
              clear o_0 o_1 o_2 o_3 o_4 o_5 o_6 o_7
              obtain ⟨o_0, ⟨o_1, o_2, o_3, o_4, o_5, o_6⟩, o_7⟩ := id B0
              clear b7
              go_wp2_with fail
              refine (num_any _ _).mono ?_
              rintro e w' ⟨rfl, rfl⟩
              go_wp2_with fail
              refine (c5 _ _ _ ((a7.keep ((Below.refl _ _).alloc (Nat.le_refl _) _)).keep ((Below.refl _ _).alloc (Nat.le_refl _) _)) ((a8.keep ((Below.refl _ _).alloc (Nat.le_refl _) _)).keep ((Below.refl _ _).alloc (Nat.le_refl _) _))).mono ?_
              rintro e w8 ⟨A9, k9, rfl, a9, b8⟩
              obtain ⟨_, BR, hb78⟩ := live_boxes l (.slice A7 l.ms.length k7) r (.slice A8 r.ms.length k8) b8
              have hb8 : Below w.heap.size w w8 := hb7.trans (hb78.mono hb7.size)
              have B0 := B0.keep hb78
              clear o_0 o_1 o_2 o_3 o_4 o_5 o_6 o_7
              obtain ⟨o_0, ⟨o_1, o_2, o_3, o_4, o_5, o_6⟩, o_7⟩ := id B0
              obtain ⟨r_0, ⟨r_1, r_2, r_3, r_4, r_5, r_6⟩, r_7⟩ := id BR
              have hz8 := hb8.size
              clear b8 hb78
              go_wp2_with fail
              refine (num_any _ _).mono ?_
              rintro e w' ⟨rfl, rfl⟩
              have hb8' := hb8.alloc hz8 (.cells #[.int .i64 m.id, .string m.f, .string m.t, .int .i64 m.gen, .slice A9 m.ms.length k9, .int .i64 m.next] 26)
              go_wp2_with fail
              refine (c6 _ _ (a9.keep ((Below.refl _ _).alloc (Nat.le_refl _) _)) (kd _ hb8')).mono ?_
              rintro e w9 ⟨rfl, b9⟩
              have hb9 : Below w.heap.size w w9 := hb8'.trans (b9.mono (by have := hb8'.size; omega))
              obtain ⟨BM, hb89⟩ := one_box m (.slice A9 m.ms.length k9) b9
              have B0 := B0.keep hb89
              have BR := BR.keep hb89
              clear o_0 o_1 o_2 o_3 o_4 o_5 o_6 o_7
              clear r_0 r_1 r_2 r_3 r_4 r_5 r_6 r_7
              obtain ⟨o_0, ⟨o_1, o_2, o_3, o_4, o_5, o_6⟩, o_7⟩ := id B0
              obtain ⟨r_0, ⟨r_1, r_2, r_3, r_4, r_5, r_6⟩, r_7⟩ := id BR
              obtain ⟨m_0, ⟨m_1, m_2, m_3, m_4, m_5, m_6⟩, m_7⟩ := id BM
              clear b9 hb89
              go_wp2_with fail
              refine (live_any _ (hg.below hb9)).mono ?_
              rintro e wz ⟨rfl, bz⟩
              go_wp2_with fail
              go_ret
              exact ⟨rfl, hb9.trans (bz.mono hb9.size)⟩
        · have c3 := fun w h => (c30 w h).mono fun e w' hh => Gave.form hh hx
          obtain ⟨hon, hrem⟩ := add_back h3 hx
          obtain ⟨hxf, hxt⟩ := add_same h3 hx
          have fx : Fit x := fit_isD hxd (by rw [hxf]; exact fd.f) (by rw [hxt]; exact fd.t)
          have hxl : x.ms.length ≤ 1000 := fx.n
          have c7 : ∀ s w, ArgM w s x.ms → Calls Tryd.prog 12 #[dv x s, .int .i64 n] w fun e w' => e = .returned (.tuple #[.agg #[.int .i64 n, .int .i64 d.next], .bool true]) ∧ Below w.heap.size w w' := by
            intro s w h
            have h0 := on_any x s n w h.sm (by omega)
            rw [mem_of_on hon] at h0
            exact h0
          have c80 := fun s w h => remove_any x s d.next w h fx
          have hrc : (∃ q, removeD x d.next = (De.zero, q) ∧ q ≠ 0) ∨ ∃ y, removeD x d.next = (y, 0) ∧ y.ms = d.ms := by
            rcases hrem with h | h | h | ⟨y, h, hy⟩
            · exact .inl ⟨60, h, by decide⟩
            · exact .inl ⟨7, h, by decide⟩
            · exact .inl ⟨2, h, by decide⟩
            · exact .inr ⟨y, h, hy⟩
          clear hx hon hrem hxf hxt hxd fx c30
          rcases hrc with ⟨q5, hr5, hq5⟩ | ⟨y, hr5, hyms⟩
          · obtain ⟨y, hyz⟩ : ∃ y, y = De.zero := ⟨_, rfl⟩
            have c8 := fun s w h => (c80 s w h).mono fun e w' hh => Gave.form hh (show removeD x d.next = (y, q5) by rw [hr5, hyz])
            have u1 : (q5 == 0) = false := by simpa using hq5
            have u2 : (q5 != 0) = true := by simpa using hq5
            have u3 : (q5 = 0) = False := eq_false hq5
            have u4 : (y.gen != 0) = false := by rw [hyz]; rfl
            have u5 : (y.gen == 0) = true := by rw [hyz]; rfl
            have u6 : (y.gen = 0) = True := eq_true (by rw [hyz]; rfl)
            clear hr5 hyz c80 hq5
            rcases split_cases d k i with ⟨l, r, hs⟩ | ⟨q4, hs, hq4⟩
            rotate_left
            · obtain ⟨l, hl⟩ : ∃ l, l = De.zero := ⟨_, rfl⟩
              obtain ⟨r, hr⟩ : ∃ r, r = De.zero := ⟨_, rfl⟩
              have c4 := fun w h => (c40 w h).mono fun e w' hh => Gave2.form hh (show splitD d k i = (l, r, q4) by rw [hs, hl, hr])
              have v1 : (q4 == 0) = false := by simpa using hq4
              have v2 : (q4 != 0) = true := by simpa using hq4
              have v3 : (q4 = 0) = False := eq_false hq4
              clear hs hl hr c40 hq4
              go_enter Tryd.func7, Tryd.ntmps7
              go_wp2_with fail
              refine (c1 _ (kd _ (by (repeat' (first | with_reducible assumption | with_reducible exact Below.refl _ _ | with_reducible refine Below.alloc ?_ ?_ _ | with_reducible refine Below.setCell ?_ ?_ _ | with_reducible refine Below.drew ?_ | omega | (simp; done) | (simp; omega)))))).mono ?_
              rintro e w1 ⟨rfl, b1⟩
              obtain ⟨B0, hb1⟩ := one_box d (.slice A d.ms.length k1) b1
              obtain ⟨o_0, ⟨o_1, o_2, o_3, o_4, o_5, o_6⟩, o_7⟩ := id B0
              clear b1
              go_wp2_with fail
              refine (c2 _ (kd _ hb1).sm).mono ?_
              rintro e w2 ⟨rfl, b2⟩
              have hb2 : Below w.heap.size w w2 := hb1.trans (b2.mono hb1.size)
              have B0 := B0.keep b2
              clear o_0 o_1 o_2 o_3 o_4 o_5 o_6 o_7
              obtain ⟨o_0, ⟨o_1, o_2, o_3, o_4, o_5, o_6⟩, o_7⟩ := id B0
              clear b2
              go_wp2_with fail
              refine (num_any _ _).mono ?_
              rintro e w' ⟨rfl, rfl⟩
              go_wp2_with fail
              refine (c3 _ (kd _ hb2)).mono ?_
              rintro e w3 ⟨A3, k3, rfl, a3, b3⟩
              have hb3 : Below w.heap.size w w3 := hb2.trans (b3.mono hb2.size)
              have B0 := B0.keep b3
              clear o_0 o_1 o_2 o_3 o_4 o_5 o_6 o_7
              obtain ⟨o_0, ⟨o_1, o_2, o_3, o_4, o_5, o_6⟩, o_7⟩ := id B0
              clear b3
              go_wp2_with fail
              refine (num_any _ _).mono ?_
              rintro e w' ⟨rfl, rfl⟩
              go_wp2_with fail
              refine (c7 _ _ (a3.keep ((Below.refl _ _).alloc (Nat.le_refl _) _))).mono ?_
              rintro e w4 ⟨rfl, b4⟩
              obtain ⟨BX, hb34⟩ := one_box x (.slice A3 x.ms.length k3) b4
              have hb4 : Below w.heap.size w w4 := hb3.trans (hb34.mono hb3.size)
              have B0 := B0.keep hb34
              have a4 := a3.keep hb34
              clear o_0 o_1 o_2 o_3 o_4 o_5 o_6 o_7
              obtain ⟨o_0, ⟨o_1, o_2, o_3, o_4, o_5, o_6⟩, o_7⟩ := id B0
              obtain ⟨x_0, ⟨x_1, x_2, x_3, x_4, x_5, x_6⟩, x_7⟩ := id BX
              have hz4 := hb4.size
              clear b4 hb34 a3
              go_wp2_with fail
              refine (c8 _ _ (a4.keep ((Below.refl _ _).alloc (Nat.le_refl _) _))).mono ?_
              rintro e w5 ⟨A5, k5, rfl, a5, b5⟩
              have hb45 : Below w4.heap.size w4 w5 := ((Below.refl _ w4).alloc (Nat.le_refl _) _).trans (b5.mono (by simp))
              have hb5 : Below w.heap.size w w5 := hb4.trans (hb45.mono hz4)
              have B0 := B0.keep hb45
              clear o_0 o_1 o_2 o_3 o_4 o_5 o_6 o_7
              clear x_0 x_1 x_2 x_3 x_4 x_5 x_6 x_7
              obtain ⟨o_0, ⟨o_1, o_2, o_3, o_4, o_5, o_6⟩, o_7⟩ := id B0
              have hz5 := hb5.size
              clear b5 hb45 a4
              go_wp2_with fail
              refine (num_any _ _).mono ?_
              rintro e w' ⟨rfl, rfl⟩
              go_wp2_with fail
              refine (num_any _ _).mono ?_
              rintro e w' ⟨rfl, rfl⟩
              go_wp2_with fail
              refine (c4 _ (kd _ (hb5.alloc hb5.size _))).mono ?_
              rintro e w7 ⟨A7, k7, A8, k8, rfl, a7, a8, b7⟩
              have hb7 : Below w.heap.size w w7 := (hb5.alloc hb5.size _).trans (b7.mono (by have := hb5.size; simp; omega))
              have B0 := (B0.alloc _).keep b7
              clear o_0 o_1 o_2 o_3 o_4 o_5 o_6 o_7
              obtain ⟨o_0, ⟨o_1, o_2, o_3, o_4, o_5, o_6⟩, o_7⟩ := id B0
              clear b7
              go_wp2_with fail
              refine (num_any _ _).mono ?_
              rintro e w' ⟨rfl, rfl⟩
              have hb7' := (hb7.alloc hb7.size (.cells #[.int .i64 l.id, .string l.f, .string l.t, .int .i64 l.gen, .slice A7 l.ms.length k7, .int .i64 l.next] 26)).alloc (by have := hb7.size; simp; omega) (.cells #[.int .i64 r.id, .string r.f, .string r.t, .int .i64 r.gen, .slice A8 r.ms.length k8, .int .i64 r.next] 26)
              go_wp2_with fail
              refine (live_any _ (hg.below hb7')).mono ?_
              rintro e wz ⟨rfl, bz⟩
              go_wp2_with fail
              go_ret
              exact ⟨rfl, hb7'.trans (bz.mono hb7'.size)⟩
            · have c4 := fun w h => (c40 w h).mono fun e w' hh => Gave2.form hh hs
              obtain ⟨_, hsc, _, hl1, hr1, hl2, hr2⟩ := split_spec hs
              have fl : Fit l := fit_isD hl1 (by rw [hl2]; exact fd.f) (by rw [hl2]; exact hk)
              have fr : Fit r := fit_isD hr1 (by rw [hr2]; exact hk) (by rw [hr2]; exact fd.t)
              rcases split_back hs with hm | hm
              · obtain ⟨m, hmz⟩ : ∃ m, m = De.zero := ⟨_, rfl⟩
                have c5 := fun w s s' h h' => (merge_any l r s s' w h h' fl fr).mono fun e w' hh => Gave.form hh (show mergeD l r = (m, 60) by rw [hm, hmz])
                clear hs hm hmz hl2 hr2 hl1 hr1 hsc fl fr c40
                go_enter Tryd.func7, Tryd.ntmps7
                go_wp2_with fail
                refine (c1 _ (kd _ (by (repeat' (first | with_reducible assumption | with_reducible exact Below.refl _ _ | with_reducible refine Below.alloc ?_ ?_ _ | with_reducible refine Below.setCell ?_ ?_ _ | with_reducible refine Below.drew ?_ | omega | (simp; done) | (simp; omega)))))).mono ?_
                rintro e w1 ⟨rfl, b1⟩
                obtain ⟨B0, hb1⟩ := one_box d (.slice A d.ms.length k1) b1
                obtain ⟨o_0, ⟨o_1, o_2, o_3, o_4, o_5, o_6⟩, o_7⟩ := id B0
                clear b1
                go_wp2_with fail
                refine (c2 _ (kd _ hb1).sm).mono ?_
                rintro e w2 ⟨rfl, b2⟩
                have hb2 : Below w.heap.size w w2 := hb1.trans (b2.mono hb1.size)
                have B0 := B0.keep b2
                clear o_0 o_1 o_2 o_3 o_4 o_5 o_6 o_7
                obtain ⟨o_0, ⟨o_1, o_2, o_3, o_4, o_5, o_6⟩, o_7⟩ := id B0
                clear b2
                go_wp2_with fail
                refine (num_any _ _).mono ?_
                rintro e w' ⟨rfl, rfl⟩
                go_wp2_with fail
                refine (c3 _ (kd _ hb2)).mono ?_
                rintro e w3 ⟨A3, k3, rfl, a3, b3⟩
                have hb3 : Below w.heap.size w w3 := hb2.trans (b3.mono hb2.size)
                have B0 := B0.keep b3
                clear o_0 o_1 o_2 o_3 o_4 o_5 o_6 o_7
                obtain ⟨o_0, ⟨o_1, o_2, o_3, o_4, o_5, o_6⟩, o_7⟩ := id B0
                clear b3
                go_wp2_with fail
                refine (num_any _ _).mono ?_
                rintro e w' ⟨rfl, rfl⟩
                go_wp2_with fail
                refine (c7 _ _ (a3.keep ((Below.refl _ _).alloc (Nat.le_refl _) _))).mono ?_
                rintro e w4 ⟨rfl, b4⟩
                obtain ⟨BX, hb34⟩ := one_box x (.slice A3 x.ms.length k3) b4
                have hb4 : Below w.heap.size w w4 := hb3.trans (hb34.mono hb3.size)
                have B0 := B0.keep hb34
                have a4 := a3.keep hb34
                clear o_0 o_1 o_2 o_3 o_4 o_5 o_6 o_7
                obtain ⟨o_0, ⟨o_1, o_2, o_3, o_4, o_5, o_6⟩, o_7⟩ := id B0
                obtain ⟨x_0, ⟨x_1, x_2, x_3, x_4, x_5, x_6⟩, x_7⟩ := id BX
                have hz4 := hb4.size
                clear b4 hb34 a3
                go_wp2_with fail
                refine (c8 _ _ (a4.keep ((Below.refl _ _).alloc (Nat.le_refl _) _))).mono ?_
                rintro e w5 ⟨A5, k5, rfl, a5, b5⟩
                have hb45 : Below w4.heap.size w4 w5 := ((Below.refl _ w4).alloc (Nat.le_refl _) _).trans (b5.mono (by simp))
                have hb5 : Below w.heap.size w w5 := hb4.trans (hb45.mono hz4)
                have B0 := B0.keep hb45
                clear o_0 o_1 o_2 o_3 o_4 o_5 o_6 o_7
                clear x_0 x_1 x_2 x_3 x_4 x_5 x_6 x_7
                obtain ⟨o_0, ⟨o_1, o_2, o_3, o_4, o_5, o_6⟩, o_7⟩ := id B0
                have hz5 := hb5.size
                clear b5 hb45 a4
                go_wp2_with fail
                refine (num_any _ _).mono ?_
                rintro e w' ⟨rfl, rfl⟩
                go_wp2_with fail
                refine (num_any _ _).mono ?_
                rintro e w' ⟨rfl, rfl⟩
                go_wp2_with fail
                refine (c4 _ (kd _ (hb5.alloc hb5.size _))).mono ?_
                rintro e w7 ⟨A7, k7, A8, k8, rfl, a7, a8, b7⟩
                have hb7 : Below w.heap.size w w7 := (hb5.alloc hb5.size _).trans (b7.mono (by have := hb5.size; simp; omega))
                have B0 := (B0.alloc _).keep b7
                clear o_0 o_1 o_2 o_3 o_4 o_5 o_6 o_7
                obtain ⟨o_0, ⟨o_1, o_2, o_3, o_4, o_5, o_6⟩, o_7⟩ := id B0
                clear b7
                go_wp2_with fail
                refine (num_any _ _).mono ?_
                rintro e w' ⟨rfl, rfl⟩
                go_wp2_with fail
                refine (c5 _ _ _ ((a7.keep ((Below.refl _ _).alloc (Nat.le_refl _) _)).keep ((Below.refl _ _).alloc (Nat.le_refl _) _)) ((a8.keep ((Below.refl _ _).alloc (Nat.le_refl _) _)).keep ((Below.refl _ _).alloc (Nat.le_refl _) _))).mono ?_
                rintro e w8 ⟨A9, k9, rfl, a9, b8⟩
                obtain ⟨_, BR, hb78⟩ := live_boxes l (.slice A7 l.ms.length k7) r (.slice A8 r.ms.length k8) b8
                have hb8 : Below w.heap.size w w8 := hb7.trans (hb78.mono hb7.size)
                have B0 := B0.keep hb78
                clear o_0 o_1 o_2 o_3 o_4 o_5 o_6 o_7
                obtain ⟨o_0, ⟨o_1, o_2, o_3, o_4, o_5, o_6⟩, o_7⟩ := id B0
                obtain ⟨r_0, ⟨r_1, r_2, r_3, r_4, r_5, r_6⟩, r_7⟩ := id BR
                have hz8 := hb8.size
                clear b8 hb78
                go_wp2_with fail
                refine (num_any _ _).mono ?_
                rintro e w' ⟨rfl, rfl⟩
                go_wp2_with fail
                refine (num_any _ _).mono ?_
                rintro e w' ⟨rfl, rfl⟩
                have hb8' := hb8.alloc hz8 (.cells #[.int .i64 m.id, .string m.f, .string m.t, .int .i64 m.gen, .slice A9 m.ms.length k9, .int .i64 m.next] 26)
                go_wp2_with fail
                refine (live_any _ (hg.below hb8')).mono ?_
                rintro e wz ⟨rfl, bz⟩
                go_wp2_with fail
                go_ret
                exact ⟨rfl, hb8'.trans (bz.mono hb8'.size)⟩
              · obtain ⟨m, hmm⟩ : ∃ m, m = ({ d with gen := d.gen + 1 + 1 } : De) := ⟨_, rfl⟩
                have c5 := fun w s s' h h' => (merge_any l r s s' w h h' fl fr).mono fun e w' hh => Gave.form hh (show mergeD l r = (m, 0) by rw [hm, hmm])
                have c6 : ∀ s w, ArgM w s m.ms → ArgM w (.slice A d.ms.length k1) d.ms → Calls Tryd.prog 36 #[s, .slice A d.ms.length k1] w fun e w' => e = .returned (.bool true) ∧ Below w.heap.size w w' := by
                  intro s w h h'
                  have h0 := members_any s (.slice A d.ms.length k1) m.ms d.ms w h.sm h'.sm (by rw [hmm]; show d.ms.length ≤ _; omega) (by omega)
                  rw [show decide (m.ms = d.ms) = true by rw [hmm]; simp] at h0
                  exact h0
                have v1 : (m.id == d.id) = true := by rw [hmm]; simp
                have v2 : (m.f.toList == d.f.toList) = true := by rw [hmm]; simp
                have v3 : (m.t.toList == d.t.toList) = true := by rw [hmm]; simp
                have v4 : (d.gen < m.gen) = True := eq_true (by rw [hmm]; show d.gen < d.gen + 1 + 1; omega)
                have v5 : (r.gen < m.gen) = True := eq_true (by rw [hmm, hr2]; show d.gen + 1 < d.gen + 1 + 1; omega)
                have v6 : (m.id = d.id) = True := eq_true (by rw [hmm])
                clear hs hm hmm hl2 hr2 hl1 hr1 hsc fl fr c40
                go_enter Tryd.func7, Tryd.ntmps7
                go_wp2_with fail
                refine (c1 _ (kd _ (by (repeat' (first | with_reducible assumption | with_reducible exact Below.refl _ _ | with_reducible refine Below.alloc ?_ ?_ _ | with_reducible refine Below.setCell ?_ ?_ _ | with_reducible refine Below.drew ?_ | omega | (simp; done) | (simp; omega)))))).mono ?_
                rintro e w1 ⟨rfl, b1⟩
                obtain ⟨B0, hb1⟩ := one_box d (.slice A d.ms.length k1) b1
                obtain ⟨o_0, ⟨o_1, o_2, o_3, o_4, o_5, o_6⟩, o_7⟩ := id B0
                clear b1
                go_wp2_with fail
                refine (c2 _ (kd _ hb1).sm).mono ?_
                rintro e w2 ⟨rfl, b2⟩
                have hb2 : Below w.heap.size w w2 := hb1.trans (b2.mono hb1.size)
                have B0 := B0.keep b2
                clear o_0 o_1 o_2 o_3 o_4 o_5 o_6 o_7
                obtain ⟨o_0, ⟨o_1, o_2, o_3, o_4, o_5, o_6⟩, o_7⟩ := id B0
                clear b2
                go_wp2_with fail
                refine (num_any _ _).mono ?_
                rintro e w' ⟨rfl, rfl⟩
                go_wp2_with fail
                refine (c3 _ (kd _ hb2)).mono ?_
                rintro e w3 ⟨A3, k3, rfl, a3, b3⟩
                have hb3 : Below w.heap.size w w3 := hb2.trans (b3.mono hb2.size)
                have B0 := B0.keep b3
                clear o_0 o_1 o_2 o_3 o_4 o_5 o_6 o_7
                obtain ⟨o_0, ⟨o_1, o_2, o_3, o_4, o_5, o_6⟩, o_7⟩ := id B0
                clear b3
                go_wp2_with fail
                refine (num_any _ _).mono ?_
                rintro e w' ⟨rfl, rfl⟩
                go_wp2_with fail
                refine (c7 _ _ (a3.keep ((Below.refl _ _).alloc (Nat.le_refl _) _))).mono ?_
                rintro e w4 ⟨rfl, b4⟩
                obtain ⟨BX, hb34⟩ := one_box x (.slice A3 x.ms.length k3) b4
                have hb4 : Below w.heap.size w w4 := hb3.trans (hb34.mono hb3.size)
                have B0 := B0.keep hb34
                have a4 := a3.keep hb34
                clear o_0 o_1 o_2 o_3 o_4 o_5 o_6 o_7
                obtain ⟨o_0, ⟨o_1, o_2, o_3, o_4, o_5, o_6⟩, o_7⟩ := id B0
                obtain ⟨x_0, ⟨x_1, x_2, x_3, x_4, x_5, x_6⟩, x_7⟩ := id BX
                have hz4 := hb4.size
                clear b4 hb34 a3
                go_wp2_with fail
                refine (c8 _ _ (a4.keep ((Below.refl _ _).alloc (Nat.le_refl _) _))).mono ?_
                rintro e w5 ⟨A5, k5, rfl, a5, b5⟩
                have hb45 : Below w4.heap.size w4 w5 := ((Below.refl _ w4).alloc (Nat.le_refl _) _).trans (b5.mono (by simp))
                have hb5 : Below w.heap.size w w5 := hb4.trans (hb45.mono hz4)
                have B0 := B0.keep hb45
                clear o_0 o_1 o_2 o_3 o_4 o_5 o_6 o_7
                clear x_0 x_1 x_2 x_3 x_4 x_5 x_6 x_7
                obtain ⟨o_0, ⟨o_1, o_2, o_3, o_4, o_5, o_6⟩, o_7⟩ := id B0
                have hz5 := hb5.size
                clear b5 hb45 a4
                go_wp2_with fail
                refine (num_any _ _).mono ?_
                rintro e w' ⟨rfl, rfl⟩
                go_wp2_with fail
                refine (num_any _ _).mono ?_
                rintro e w' ⟨rfl, rfl⟩
                go_wp2_with fail
                refine (c4 _ (kd _ (hb5.alloc hb5.size _))).mono ?_
                rintro e w7 ⟨A7, k7, A8, k8, rfl, a7, a8, b7⟩
                have hb7 : Below w.heap.size w w7 := (hb5.alloc hb5.size _).trans (b7.mono (by have := hb5.size; simp; omega))
                have B0 := (B0.alloc _).keep b7
                clear o_0 o_1 o_2 o_3 o_4 o_5 o_6 o_7
                obtain ⟨o_0, ⟨o_1, o_2, o_3, o_4, o_5, o_6⟩, o_7⟩ := id B0
                clear b7
                go_wp2_with fail
                refine (num_any _ _).mono ?_
                rintro e w' ⟨rfl, rfl⟩
                go_wp2_with fail
                refine (c5 _ _ _ ((a7.keep ((Below.refl _ _).alloc (Nat.le_refl _) _)).keep ((Below.refl _ _).alloc (Nat.le_refl _) _)) ((a8.keep ((Below.refl _ _).alloc (Nat.le_refl _) _)).keep ((Below.refl _ _).alloc (Nat.le_refl _) _))).mono ?_
                rintro e w8 ⟨A9, k9, rfl, a9, b8⟩
                obtain ⟨_, BR, hb78⟩ := live_boxes l (.slice A7 l.ms.length k7) r (.slice A8 r.ms.length k8) b8
                have hb8 : Below w.heap.size w w8 := hb7.trans (hb78.mono hb7.size)
                have B0 := B0.keep hb78
                clear o_0 o_1 o_2 o_3 o_4 o_5 o_6 o_7
                obtain ⟨o_0, ⟨o_1, o_2, o_3, o_4, o_5, o_6⟩, o_7⟩ := id B0
                obtain ⟨r_0, ⟨r_1, r_2, r_3, r_4, r_5, r_6⟩, r_7⟩ := id BR
                have hz8 := hb8.size
                clear b8 hb78
                go_wp2_with fail
                refine (num_any _ _).mono ?_
                rintro e w' ⟨rfl, rfl⟩
                have hb8' := hb8.alloc hz8 (.cells #[.int .i64 m.id, .string m.f, .string m.t, .int .i64 m.gen, .slice A9 m.ms.length k9, .int .i64 m.next] 26)
                go_wp2_with fail
                refine (c6 _ _ (a9.keep ((Below.refl _ _).alloc (Nat.le_refl _) _)) (kd _ hb8')).mono ?_
                rintro e w9 ⟨rfl, b9⟩
                have hb9 : Below w.heap.size w w9 := hb8'.trans (b9.mono (by have := hb8'.size; omega))
                obtain ⟨BM, hb89⟩ := one_box m (.slice A9 m.ms.length k9) b9
                have B0 := B0.keep hb89
                have BR := BR.keep hb89
                clear o_0 o_1 o_2 o_3 o_4 o_5 o_6 o_7
                clear r_0 r_1 r_2 r_3 r_4 r_5 r_6 r_7
                obtain ⟨o_0, ⟨o_1, o_2, o_3, o_4, o_5, o_6⟩, o_7⟩ := id B0
                obtain ⟨r_0, ⟨r_1, r_2, r_3, r_4, r_5, r_6⟩, r_7⟩ := id BR
                obtain ⟨m_0, ⟨m_1, m_2, m_3, m_4, m_5, m_6⟩, m_7⟩ := id BM
                clear b9 hb89
                go_wp2_with fail
                refine (live_any _ (hg.below hb9)).mono ?_
                rintro e wz ⟨rfl, bz⟩
                go_wp2_with fail
                go_ret
                exact ⟨rfl, hb9.trans (bz.mono hb9.size)⟩
          · have c8 := fun s w h => (c80 s w h).mono fun e w' hh => Gave.form hh hr5
            have c9 : ∀ s w, ArgM w s y.ms → ArgM w (.slice A d.ms.length k1) d.ms → Calls Tryd.prog 36 #[s, .slice A d.ms.length k1] w fun e w' => e = .returned (.bool true) ∧ Below w.heap.size w w' := by
              intro s w h h'
              have h0 := members_any s (.slice A d.ms.length k1) y.ms d.ms w h.sm h'.sm (by rw [hyms]; omega) (by omega)
              rw [show decide (y.ms = d.ms) = true by rw [hyms]; simp] at h0
              exact h0
            clear hr5 hyms c80
            rcases split_cases d k i with ⟨l, r, hs⟩ | ⟨q4, hs, hq4⟩
            rotate_left
            · obtain ⟨l, hl⟩ : ∃ l, l = De.zero := ⟨_, rfl⟩
              obtain ⟨r, hr⟩ : ∃ r, r = De.zero := ⟨_, rfl⟩
              have c4 := fun w h => (c40 w h).mono fun e w' hh => Gave2.form hh (show splitD d k i = (l, r, q4) by rw [hs, hl, hr])
              have v1 : (q4 == 0) = false := by simpa using hq4
              have v2 : (q4 != 0) = true := by simpa using hq4
              have v3 : (q4 = 0) = False := eq_false hq4
              clear hs hl hr c40 hq4
              go_enter Tryd.func7, Tryd.ntmps7
              go_wp2_with fail
              refine (c1 _ (kd _ (by (repeat' (first | with_reducible assumption | with_reducible exact Below.refl _ _ | with_reducible refine Below.alloc ?_ ?_ _ | with_reducible refine Below.setCell ?_ ?_ _ | with_reducible refine Below.drew ?_ | omega | (simp; done) | (simp; omega)))))).mono ?_
              rintro e w1 ⟨rfl, b1⟩
              obtain ⟨B0, hb1⟩ := one_box d (.slice A d.ms.length k1) b1
              obtain ⟨o_0, ⟨o_1, o_2, o_3, o_4, o_5, o_6⟩, o_7⟩ := id B0
              clear b1
              go_wp2_with fail
              refine (c2 _ (kd _ hb1).sm).mono ?_
              rintro e w2 ⟨rfl, b2⟩
              have hb2 : Below w.heap.size w w2 := hb1.trans (b2.mono hb1.size)
              have B0 := B0.keep b2
              clear o_0 o_1 o_2 o_3 o_4 o_5 o_6 o_7
              obtain ⟨o_0, ⟨o_1, o_2, o_3, o_4, o_5, o_6⟩, o_7⟩ := id B0
              clear b2
              go_wp2_with fail
              refine (num_any _ _).mono ?_
              rintro e w' ⟨rfl, rfl⟩
              go_wp2_with fail
              refine (c3 _ (kd _ hb2)).mono ?_
              rintro e w3 ⟨A3, k3, rfl, a3, b3⟩
              have hb3 : Below w.heap.size w w3 := hb2.trans (b3.mono hb2.size)
              have B0 := B0.keep b3
              clear o_0 o_1 o_2 o_3 o_4 o_5 o_6 o_7
              obtain ⟨o_0, ⟨o_1, o_2, o_3, o_4, o_5, o_6⟩, o_7⟩ := id B0
              clear b3
              go_wp2_with fail
              refine (num_any _ _).mono ?_
              rintro e w' ⟨rfl, rfl⟩
              go_wp2_with fail
              refine (c7 _ _ (a3.keep ((Below.refl _ _).alloc (Nat.le_refl _) _))).mono ?_
              rintro e w4 ⟨rfl, b4⟩
              obtain ⟨BX, hb34⟩ := one_box x (.slice A3 x.ms.length k3) b4
              have hb4 : Below w.heap.size w w4 := hb3.trans (hb34.mono hb3.size)
              have B0 := B0.keep hb34
              have a4 := a3.keep hb34
              clear o_0 o_1 o_2 o_3 o_4 o_5 o_6 o_7
              obtain ⟨o_0, ⟨o_1, o_2, o_3, o_4, o_5, o_6⟩, o_7⟩ := id B0
              obtain ⟨x_0, ⟨x_1, x_2, x_3, x_4, x_5, x_6⟩, x_7⟩ := id BX
              have hz4 := hb4.size
              clear b4 hb34 a3
              go_wp2_with fail
              refine (c8 _ _ (a4.keep ((Below.refl _ _).alloc (Nat.le_refl _) _))).mono ?_
              rintro e w5 ⟨A5, k5, rfl, a5, b5⟩
              have hb45 : Below w4.heap.size w4 w5 := ((Below.refl _ w4).alloc (Nat.le_refl _) _).trans (b5.mono (by simp))
              have hb5 : Below w.heap.size w w5 := hb4.trans (hb45.mono hz4)
              have B0 := B0.keep hb45
              clear o_0 o_1 o_2 o_3 o_4 o_5 o_6 o_7
              clear x_0 x_1 x_2 x_3 x_4 x_5 x_6 x_7
              obtain ⟨o_0, ⟨o_1, o_2, o_3, o_4, o_5, o_6⟩, o_7⟩ := id B0
              have hz5 := hb5.size
              clear b5 hb45 a4
              go_wp2_with fail
              refine (num_any _ _).mono ?_
              rintro e w' ⟨rfl, rfl⟩
              go_wp2_with fail
              refine (num_any _ _).mono ?_
              rintro e w' ⟨rfl, rfl⟩
              have hb5' := hb5.alloc hz5 (.cells #[.int .i64 y.id, .string y.f, .string y.t, .int .i64 y.gen, .slice A5 y.ms.length k5, .int .i64 y.next] 26)
              go_wp2_with fail
              refine (c9 _ _ (a5.keep ((Below.refl _ _).alloc (Nat.le_refl _) _)) (kd _ hb5')).mono ?_
              rintro e w6 ⟨rfl, b6⟩
              obtain ⟨_, hb56⟩ := one_box y (.slice A5 y.ms.length k5) b6
              have hb6 : Below w.heap.size w w6 := hb5.trans (hb56.mono hz5)
              have B0 := B0.keep hb56
              clear o_0 o_1 o_2 o_3 o_4 o_5 o_6 o_7
              obtain ⟨o_0, ⟨o_1, o_2, o_3, o_4, o_5, o_6⟩, o_7⟩ := id B0
              clear b6 hb56
              go_wp2_with fail
              refine (c4 _ (kd _ hb6)).mono ?_
              rintro e w7 ⟨A7, k7, A8, k8, rfl, a7, a8, b7⟩
              have hb7 : Below w.heap.size w w7 := hb6.trans (b7.mono hb6.size)
              have B0 := B0.keep b7
              clear o_0 o_1 o_2 o_3 o_4 o_5 o_6 o_7
              obtain ⟨o_0, ⟨o_1, o_2, o_3, o_4, o_5, o_6⟩, o_7⟩ := id B0
              clear b7
              go_wp2_with fail
              refine (num_any _ _).mono ?_
              rintro e w' ⟨rfl, rfl⟩
              have hb7' := (hb7.alloc hb7.size (.cells #[.int .i64 l.id, .string l.f, .string l.t, .int .i64 l.gen, .slice A7 l.ms.length k7, .int .i64 l.next] 26)).alloc (by have := hb7.size; simp; omega) (.cells #[.int .i64 r.id, .string r.f, .string r.t, .int .i64 r.gen, .slice A8 r.ms.length k8, .int .i64 r.next] 26)
              go_wp2_with fail
              refine (live_any _ (hg.below hb7')).mono ?_
              rintro e wz ⟨rfl, bz⟩
              go_wp2_with fail
              go_ret
              exact ⟨rfl, hb7'.trans (bz.mono hb7'.size)⟩
            · have c4 := fun w h => (c40 w h).mono fun e w' hh => Gave2.form hh hs
              obtain ⟨_, hsc, _, hl1, hr1, hl2, hr2⟩ := split_spec hs
              have fl : Fit l := fit_isD hl1 (by rw [hl2]; exact fd.f) (by rw [hl2]; exact hk)
              have fr : Fit r := fit_isD hr1 (by rw [hr2]; exact hk) (by rw [hr2]; exact fd.t)
              rcases split_back hs with hm | hm
              · obtain ⟨m, hmz⟩ : ∃ m, m = De.zero := ⟨_, rfl⟩
                have c5 := fun w s s' h h' => (merge_any l r s s' w h h' fl fr).mono fun e w' hh => Gave.form hh (show mergeD l r = (m, 60) by rw [hm, hmz])
                clear hs hm hmz hl2 hr2 hl1 hr1 hsc fl fr c40
                go_enter Tryd.func7, Tryd.ntmps7
                go_wp2_with fail
                refine (c1 _ (kd _ (by (repeat' (first | with_reducible assumption | with_reducible exact Below.refl _ _ | with_reducible refine Below.alloc ?_ ?_ _ | with_reducible refine Below.setCell ?_ ?_ _ | with_reducible refine Below.drew ?_ | omega | (simp; done) | (simp; omega)))))).mono ?_
                rintro e w1 ⟨rfl, b1⟩
                obtain ⟨B0, hb1⟩ := one_box d (.slice A d.ms.length k1) b1
                obtain ⟨o_0, ⟨o_1, o_2, o_3, o_4, o_5, o_6⟩, o_7⟩ := id B0
                clear b1
                go_wp2_with fail
                refine (c2 _ (kd _ hb1).sm).mono ?_
                rintro e w2 ⟨rfl, b2⟩
                have hb2 : Below w.heap.size w w2 := hb1.trans (b2.mono hb1.size)
                have B0 := B0.keep b2
                clear o_0 o_1 o_2 o_3 o_4 o_5 o_6 o_7
                obtain ⟨o_0, ⟨o_1, o_2, o_3, o_4, o_5, o_6⟩, o_7⟩ := id B0
                clear b2
                go_wp2_with fail
                refine (num_any _ _).mono ?_
                rintro e w' ⟨rfl, rfl⟩
                go_wp2_with fail
                refine (c3 _ (kd _ hb2)).mono ?_
                rintro e w3 ⟨A3, k3, rfl, a3, b3⟩
                have hb3 : Below w.heap.size w w3 := hb2.trans (b3.mono hb2.size)
                have B0 := B0.keep b3
                clear o_0 o_1 o_2 o_3 o_4 o_5 o_6 o_7
                obtain ⟨o_0, ⟨o_1, o_2, o_3, o_4, o_5, o_6⟩, o_7⟩ := id B0
                clear b3
                go_wp2_with fail
                refine (num_any _ _).mono ?_
                rintro e w' ⟨rfl, rfl⟩
                go_wp2_with fail
                refine (c7 _ _ (a3.keep ((Below.refl _ _).alloc (Nat.le_refl _) _))).mono ?_
                rintro e w4 ⟨rfl, b4⟩
                obtain ⟨BX, hb34⟩ := one_box x (.slice A3 x.ms.length k3) b4
                have hb4 : Below w.heap.size w w4 := hb3.trans (hb34.mono hb3.size)
                have B0 := B0.keep hb34
                have a4 := a3.keep hb34
                clear o_0 o_1 o_2 o_3 o_4 o_5 o_6 o_7
                obtain ⟨o_0, ⟨o_1, o_2, o_3, o_4, o_5, o_6⟩, o_7⟩ := id B0
                obtain ⟨x_0, ⟨x_1, x_2, x_3, x_4, x_5, x_6⟩, x_7⟩ := id BX
                have hz4 := hb4.size
                clear b4 hb34 a3
                go_wp2_with fail
                refine (c8 _ _ (a4.keep ((Below.refl _ _).alloc (Nat.le_refl _) _))).mono ?_
                rintro e w5 ⟨A5, k5, rfl, a5, b5⟩
                have hb45 : Below w4.heap.size w4 w5 := ((Below.refl _ w4).alloc (Nat.le_refl _) _).trans (b5.mono (by simp))
                have hb5 : Below w.heap.size w w5 := hb4.trans (hb45.mono hz4)
                have B0 := B0.keep hb45
                clear o_0 o_1 o_2 o_3 o_4 o_5 o_6 o_7
                clear x_0 x_1 x_2 x_3 x_4 x_5 x_6 x_7
                obtain ⟨o_0, ⟨o_1, o_2, o_3, o_4, o_5, o_6⟩, o_7⟩ := id B0
                have hz5 := hb5.size
                clear b5 hb45 a4
                go_wp2_with fail
                refine (num_any _ _).mono ?_
                rintro e w' ⟨rfl, rfl⟩
                go_wp2_with fail
                refine (num_any _ _).mono ?_
                rintro e w' ⟨rfl, rfl⟩
                have hb5' := hb5.alloc hz5 (.cells #[.int .i64 y.id, .string y.f, .string y.t, .int .i64 y.gen, .slice A5 y.ms.length k5, .int .i64 y.next] 26)
                go_wp2_with fail
                refine (c9 _ _ (a5.keep ((Below.refl _ _).alloc (Nat.le_refl _) _)) (kd _ hb5')).mono ?_
                rintro e w6 ⟨rfl, b6⟩
                obtain ⟨_, hb56⟩ := one_box y (.slice A5 y.ms.length k5) b6
                have hb6 : Below w.heap.size w w6 := hb5.trans (hb56.mono hz5)
                have B0 := B0.keep hb56
                clear o_0 o_1 o_2 o_3 o_4 o_5 o_6 o_7
                obtain ⟨o_0, ⟨o_1, o_2, o_3, o_4, o_5, o_6⟩, o_7⟩ := id B0
                clear b6 hb56
                go_wp2_with fail
                refine (c4 _ (kd _ hb6)).mono ?_
                rintro e w7 ⟨A7, k7, A8, k8, rfl, a7, a8, b7⟩
                have hb7 : Below w.heap.size w w7 := hb6.trans (b7.mono hb6.size)
                have B0 := B0.keep b7
                clear o_0 o_1 o_2 o_3 o_4 o_5 o_6 o_7
                obtain ⟨o_0, ⟨o_1, o_2, o_3, o_4, o_5, o_6⟩, o_7⟩ := id B0
                clear b7
                go_wp2_with fail
                refine (num_any _ _).mono ?_
                rintro e w' ⟨rfl, rfl⟩
                go_wp2_with fail
                refine (c5 _ _ _ ((a7.keep ((Below.refl _ _).alloc (Nat.le_refl _) _)).keep ((Below.refl _ _).alloc (Nat.le_refl _) _)) ((a8.keep ((Below.refl _ _).alloc (Nat.le_refl _) _)).keep ((Below.refl _ _).alloc (Nat.le_refl _) _))).mono ?_
                rintro e w8 ⟨A9, k9, rfl, a9, b8⟩
                obtain ⟨_, BR, hb78⟩ := live_boxes l (.slice A7 l.ms.length k7) r (.slice A8 r.ms.length k8) b8
                have hb8 : Below w.heap.size w w8 := hb7.trans (hb78.mono hb7.size)
                have B0 := B0.keep hb78
                clear o_0 o_1 o_2 o_3 o_4 o_5 o_6 o_7
                obtain ⟨o_0, ⟨o_1, o_2, o_3, o_4, o_5, o_6⟩, o_7⟩ := id B0
                obtain ⟨r_0, ⟨r_1, r_2, r_3, r_4, r_5, r_6⟩, r_7⟩ := id BR
                have hz8 := hb8.size
                clear b8 hb78
                go_wp2_with fail
                refine (num_any _ _).mono ?_
                rintro e w' ⟨rfl, rfl⟩
                go_wp2_with fail
                refine (num_any _ _).mono ?_
                rintro e w' ⟨rfl, rfl⟩
                have hb8' := hb8.alloc hz8 (.cells #[.int .i64 m.id, .string m.f, .string m.t, .int .i64 m.gen, .slice A9 m.ms.length k9, .int .i64 m.next] 26)
                go_wp2_with fail
                refine (live_any _ (hg.below hb8')).mono ?_
                rintro e wz ⟨rfl, bz⟩
                go_wp2_with fail
                go_ret
                exact ⟨rfl, hb8'.trans (bz.mono hb8'.size)⟩
              · obtain ⟨m, hmm⟩ : ∃ m, m = ({ d with gen := d.gen + 1 + 1 } : De) := ⟨_, rfl⟩
                have c5 := fun w s s' h h' => (merge_any l r s s' w h h' fl fr).mono fun e w' hh => Gave.form hh (show mergeD l r = (m, 0) by rw [hm, hmm])
                have c6 : ∀ s w, ArgM w s m.ms → ArgM w (.slice A d.ms.length k1) d.ms → Calls Tryd.prog 36 #[s, .slice A d.ms.length k1] w fun e w' => e = .returned (.bool true) ∧ Below w.heap.size w w' := by
                  intro s w h h'
                  have h0 := members_any s (.slice A d.ms.length k1) m.ms d.ms w h.sm h'.sm (by rw [hmm]; show d.ms.length ≤ _; omega) (by omega)
                  rw [show decide (m.ms = d.ms) = true by rw [hmm]; simp] at h0
                  exact h0
                have v1 : (m.id == d.id) = true := by rw [hmm]; simp
                have v2 : (m.f.toList == d.f.toList) = true := by rw [hmm]; simp
                have v3 : (m.t.toList == d.t.toList) = true := by rw [hmm]; simp
                have v4 : (d.gen < m.gen) = True := eq_true (by rw [hmm]; show d.gen < d.gen + 1 + 1; omega)
                have v5 : (r.gen < m.gen) = True := eq_true (by rw [hmm, hr2]; show d.gen + 1 < d.gen + 1 + 1; omega)
                have v6 : (m.id = d.id) = True := eq_true (by rw [hmm])
                clear hs hm hmm hl2 hr2 hl1 hr1 hsc fl fr c40
                go_enter Tryd.func7, Tryd.ntmps7
                go_wp2_with fail
                refine (c1 _ (kd _ (by (repeat' (first | with_reducible assumption | with_reducible exact Below.refl _ _ | with_reducible refine Below.alloc ?_ ?_ _ | with_reducible refine Below.setCell ?_ ?_ _ | with_reducible refine Below.drew ?_ | omega | (simp; done) | (simp; omega)))))).mono ?_
                rintro e w1 ⟨rfl, b1⟩
                obtain ⟨B0, hb1⟩ := one_box d (.slice A d.ms.length k1) b1
                obtain ⟨o_0, ⟨o_1, o_2, o_3, o_4, o_5, o_6⟩, o_7⟩ := id B0
                clear b1
                go_wp2_with fail
                refine (c2 _ (kd _ hb1).sm).mono ?_
                rintro e w2 ⟨rfl, b2⟩
                have hb2 : Below w.heap.size w w2 := hb1.trans (b2.mono hb1.size)
                have B0 := B0.keep b2
                clear o_0 o_1 o_2 o_3 o_4 o_5 o_6 o_7
                obtain ⟨o_0, ⟨o_1, o_2, o_3, o_4, o_5, o_6⟩, o_7⟩ := id B0
                clear b2
                go_wp2_with fail
                refine (num_any _ _).mono ?_
                rintro e w' ⟨rfl, rfl⟩
                go_wp2_with fail
                refine (c3 _ (kd _ hb2)).mono ?_
                rintro e w3 ⟨A3, k3, rfl, a3, b3⟩
                have hb3 : Below w.heap.size w w3 := hb2.trans (b3.mono hb2.size)
                have B0 := B0.keep b3
                clear o_0 o_1 o_2 o_3 o_4 o_5 o_6 o_7
                obtain ⟨o_0, ⟨o_1, o_2, o_3, o_4, o_5, o_6⟩, o_7⟩ := id B0
                clear b3
                go_wp2_with fail
                refine (num_any _ _).mono ?_
                rintro e w' ⟨rfl, rfl⟩
                go_wp2_with fail
                refine (c7 _ _ (a3.keep ((Below.refl _ _).alloc (Nat.le_refl _) _))).mono ?_
                rintro e w4 ⟨rfl, b4⟩
                obtain ⟨BX, hb34⟩ := one_box x (.slice A3 x.ms.length k3) b4
                have hb4 : Below w.heap.size w w4 := hb3.trans (hb34.mono hb3.size)
                have B0 := B0.keep hb34
                have a4 := a3.keep hb34
                clear o_0 o_1 o_2 o_3 o_4 o_5 o_6 o_7
                obtain ⟨o_0, ⟨o_1, o_2, o_3, o_4, o_5, o_6⟩, o_7⟩ := id B0
                obtain ⟨x_0, ⟨x_1, x_2, x_3, x_4, x_5, x_6⟩, x_7⟩ := id BX
                have hz4 := hb4.size
                clear b4 hb34 a3
                go_wp2_with fail
                refine (c8 _ _ (a4.keep ((Below.refl _ _).alloc (Nat.le_refl _) _))).mono ?_
                rintro e w5 ⟨A5, k5, rfl, a5, b5⟩
                have hb45 : Below w4.heap.size w4 w5 := ((Below.refl _ w4).alloc (Nat.le_refl _) _).trans (b5.mono (by simp))
                have hb5 : Below w.heap.size w w5 := hb4.trans (hb45.mono hz4)
                have B0 := B0.keep hb45
                clear o_0 o_1 o_2 o_3 o_4 o_5 o_6 o_7
                clear x_0 x_1 x_2 x_3 x_4 x_5 x_6 x_7
                obtain ⟨o_0, ⟨o_1, o_2, o_3, o_4, o_5, o_6⟩, o_7⟩ := id B0
                have hz5 := hb5.size
                clear b5 hb45 a4
                go_wp2_with fail
                refine (num_any _ _).mono ?_
                rintro e w' ⟨rfl, rfl⟩
                go_wp2_with fail
                refine (num_any _ _).mono ?_
                rintro e w' ⟨rfl, rfl⟩
                have hb5' := hb5.alloc hz5 (.cells #[.int .i64 y.id, .string y.f, .string y.t, .int .i64 y.gen, .slice A5 y.ms.length k5, .int .i64 y.next] 26)
                go_wp2_with fail
                refine (c9 _ _ (a5.keep ((Below.refl _ _).alloc (Nat.le_refl _) _)) (kd _ hb5')).mono ?_
                rintro e w6 ⟨rfl, b6⟩
                obtain ⟨_, hb56⟩ := one_box y (.slice A5 y.ms.length k5) b6
                have hb6 : Below w.heap.size w w6 := hb5.trans (hb56.mono hz5)
                have B0 := B0.keep hb56
                clear o_0 o_1 o_2 o_3 o_4 o_5 o_6 o_7
                obtain ⟨o_0, ⟨o_1, o_2, o_3, o_4, o_5, o_6⟩, o_7⟩ := id B0
                clear b6 hb56
                go_wp2_with fail
                refine (c4 _ (kd _ hb6)).mono ?_
                rintro e w7 ⟨A7, k7, A8, k8, rfl, a7, a8, b7⟩
                have hb7 : Below w.heap.size w w7 := hb6.trans (b7.mono hb6.size)
                have B0 := B0.keep b7
                clear o_0 o_1 o_2 o_3 o_4 o_5 o_6 o_7
                obtain ⟨o_0, ⟨o_1, o_2, o_3, o_4, o_5, o_6⟩, o_7⟩ := id B0
                clear b7
                go_wp2_with fail
                refine (num_any _ _).mono ?_
                rintro e w' ⟨rfl, rfl⟩
                go_wp2_with fail
                refine (c5 _ _ _ ((a7.keep ((Below.refl _ _).alloc (Nat.le_refl _) _)).keep ((Below.refl _ _).alloc (Nat.le_refl _) _)) ((a8.keep ((Below.refl _ _).alloc (Nat.le_refl _) _)).keep ((Below.refl _ _).alloc (Nat.le_refl _) _))).mono ?_
                rintro e w8 ⟨A9, k9, rfl, a9, b8⟩
                obtain ⟨_, BR, hb78⟩ := live_boxes l (.slice A7 l.ms.length k7) r (.slice A8 r.ms.length k8) b8
                have hb8 : Below w.heap.size w w8 := hb7.trans (hb78.mono hb7.size)
                have B0 := B0.keep hb78
                clear o_0 o_1 o_2 o_3 o_4 o_5 o_6 o_7
                obtain ⟨o_0, ⟨o_1, o_2, o_3, o_4, o_5, o_6⟩, o_7⟩ := id B0
                obtain ⟨r_0, ⟨r_1, r_2, r_3, r_4, r_5, r_6⟩, r_7⟩ := id BR
                have hz8 := hb8.size
                clear b8 hb78
                go_wp2_with fail
                refine (num_any _ _).mono ?_
                rintro e w' ⟨rfl, rfl⟩
                have hb8' := hb8.alloc hz8 (.cells #[.int .i64 m.id, .string m.f, .string m.t, .int .i64 m.gen, .slice A9 m.ms.length k9, .int .i64 m.next] 26)
                go_wp2_with fail
                refine (c6 _ _ (a9.keep ((Below.refl _ _).alloc (Nat.le_refl _) _)) (kd _ hb8')).mono ?_
                rintro e w9 ⟨rfl, b9⟩
                have hb9 : Below w.heap.size w w9 := hb8'.trans (b9.mono (by have := hb8'.size; omega))
                obtain ⟨BM, hb89⟩ := one_box m (.slice A9 m.ms.length k9) b9
                have B0 := B0.keep hb89
                have BR := BR.keep hb89
                clear o_0 o_1 o_2 o_3 o_4 o_5 o_6 o_7
                clear r_0 r_1 r_2 r_3 r_4 r_5 r_6 r_7
                obtain ⟨o_0, ⟨o_1, o_2, o_3, o_4, o_5, o_6⟩, o_7⟩ := id B0
                obtain ⟨r_0, ⟨r_1, r_2, r_3, r_4, r_5, r_6⟩, r_7⟩ := id BR
                obtain ⟨m_0, ⟨m_1, m_2, m_3, m_4, m_5, m_6⟩, m_7⟩ := id BM
                clear b9 hb89
                go_wp2_with fail
                refine (live_any _ (hg.below hb9)).mono ?_
                rintro e wz ⟨rfl, bz⟩
                go_wp2_with fail
                go_ret
                exact ⟨rfl, hb9.trans (bz.mono hb9.size)⟩
end Go.Proofs.YtojphacongbnmaaDoor.Ds
