/-
  Remove, the program's. Condition: at most 1000 members, lengths at most 2^47.
-/
import Derived.Test.YtlmecfnoipnccaaDoorDsDel
import Derived.Test.YtlmecfnoipnccaaDoorDsA
namespace Go.Proofs.YtlmecfnoipnccaaDoor.Ds
open Go.RowKit Bnd
open Go.Proofs.YtlmecfnoipnccaaDoor.O (Bd isB keyB hasB nextB)

/-- where a number's member stands, and what is left without it -/
theorem place_of {i : Int} {x : Mem} : ∀ {l : List Mem}, l.Pairwise (fun a b => a.2 < b.2) → hasM i l = some x → ∃ p, ∃ hp : p < l.length, l[p] = x ∧ (∀ j (h : j < p), l[j]'(by omega) ≠ x) ∧ dropM i l = l.take p ++ l.drop (p + 1)
  | y :: l, hp, h => by
    rw [List.pairwise_cons] at hp
    rw [hasM] at h
    by_cases e : y.2 = i
    · rw [if_pos e] at h
      obtain rfl := Option.some.inj h
      refine ⟨0, by simp, rfl, fun j hj => by omega, ?_⟩
      unfold dropM
      rw [List.filter_cons_of_neg (by simpa using e), List.filter_eq_self.2]
      · simp
      · intro m hm
        have := hp.1 m hm
        simp; omega
    · rw [if_neg e] at h
      obtain ⟨p, hpl, h1, h2, h3⟩ := place_of hp.2 h
      refine ⟨p + 1, by simp; omega, by simpa using h1, fun j hj => ?_, ?_⟩
      · cases j with
        | zero =>
          intro he
          have h4 := (hasM_some h).2
          have he' : y = x := he
          rw [← he'] at h4
          exact e h4
        | succ j => simpa using h2 j (by omega)
      · unfold dropM at *
        rw [List.filter_cons_of_pos (by simpa using e), h3]
        simp

set_option maxHeartbeats 8000000 in
set_option maxRecDepth 100000 in
theorem remove_any (d : De) (s : Value) (i : Int) (w : World) (hl : ArgM w s d.ms) (fl : Fit d) :
    Calls Tryd.prog 34 #[dv d s, .int .i64 i] w fun e w' => Gave w (removeD d i) e w' := by
  obtain ⟨A, c, rfl⟩ := hl.form
  have kl : ∀ w1, Below w.heap.size w w1 → ArgM w1 (.slice A d.ms.length c) d.ms := fun w1 hb => hl.keep hb
  have c1 := fun w hs => check_any d (.slice A d.ms.length c) w hs (by have := fl.n; omega) fl.f fl.t
  have c3 := fun w hs => has_any d (.slice A d.ms.length c) i w hs (by have := fl.n; omega)
  cases h1 : isD d with
  | false =>
    have hr : removeD d i = (De.zero, 60) := by unfold removeD; rw [if_neg (by simp [h1])]
    rw [hr]
    rw [chkD_no h1] at c1
    clear hr h1
    go_enter Tryd.func34, Tryd.ntmps34
    go_wp2_with fail
    refine (c1 _ (kl _ (by (repeat' (first | with_reducible assumption | with_reducible exact Below.refl _ _ | with_reducible refine Below.alloc ?_ ?_ _ | with_reducible refine Below.setCell ?_ ?_ _ | with_reducible refine Below.drew ?_ | omega | (simp; done) | (simp; omega))))).sm).mono ?_
    rintro e w1 ⟨rfl, b1⟩
    obtain ⟨B0, B1, hb⟩ := boxes2 d (.slice A d.ms.length c) b1
    obtain ⟨p_0, ⟨p_1, p_2, p_3, p_4, p_5, p_6⟩, p_7⟩ := id B1
    clear b1
    go_wp2_with fail
    exact bodyPost_ret (res_box_tmp Tryd.results34 rfl rfl (BoxD.put B1 De.zero (.slice none 0 0))) rfl (Gave.zero (by (repeat' (first | with_reducible assumption | with_reducible exact Below.refl _ _ | with_reducible refine Below.alloc ?_ ?_ _ | with_reducible refine Below.setCell ?_ ?_ _ | with_reducible refine Below.drew ?_ | omega | (simp; done) | (simp; omega)))))
  | true =>
    rw [chkD_yes h1] at c1
    cases h3 : hasM i d.ms with
    | none =>
      have hr : removeD d i = (De.zero, 7) := by unfold removeD; rw [if_pos h1, if_neg (by rw [h3]; simp)]
      rw [hr]
      rw [h3] at c3
      simp only [optV] at c3
      clear hr h1 h3
      go_enter Tryd.func34, Tryd.ntmps34
      go_wp2_with fail
      refine (c1 _ (kl _ (by (repeat' (first | with_reducible assumption | with_reducible exact Below.refl _ _ | with_reducible refine Below.alloc ?_ ?_ _ | with_reducible refine Below.setCell ?_ ?_ _ | with_reducible refine Below.drew ?_ | omega | (simp; done) | (simp; omega))))).sm).mono ?_
      rintro e w1 ⟨rfl, b1⟩
      obtain ⟨B0, B1, hb⟩ := boxes2 d (.slice A d.ms.length c) b1
      obtain ⟨o_0, ⟨o_1, o_2, o_3, o_4, o_5, o_6⟩, o_7⟩ := id B0
      clear b1
      go_wp2_with fail
      refine (c3 _ (kl _ hb).sm).mono ?_
      rintro e w2 ⟨rfl, b2⟩
      have C1 := B1.keep b2
      have hb2 : Below w.heap.size w w2 := hb.trans (b2.mono hb.size)
      have hz2 := hb2.size
      clear o_0 o_1 o_2 o_3 o_4 o_5 o_6 o_7
      obtain ⟨p_0, ⟨p_1, p_2, p_3, p_4, p_5, p_6⟩, p_7⟩ := id C1
      clear b2
      go_wp2_with fail
      exact bodyPost_ret (res_box_tmp Tryd.results34 rfl rfl ((BoxD.put C1 De.zero (.slice none 0 0)).alloc _)) rfl (Gave.zero (by (repeat' (first | with_reducible assumption | with_reducible exact Below.refl _ _ | with_reducible refine Below.alloc ?_ ?_ _ | with_reducible refine Below.setCell ?_ ?_ _ | with_reducible refine Below.drew ?_ | omega | (simp; done) | (simp; omega)))))
    | some x =>
      obtain ⟨x1, x2⟩ := x
      rw [h3] at c3
      simp only [optV] at c3
      by_cases h4 : d.ms.length = 1
      · have hr : removeD d i = (De.zero, 2) := by unfold removeD; rw [if_pos h1, if_pos (by rw [h3]; rfl), if_pos h4]
        rw [hr]
        have n1 : ((d.ms.length : Int) == 1) = true := by simp; omega
        have n2 : ((d.ms.length : Int) = 1) = True := eq_true (by omega)
        clear hr h1 h3 h4
        go_enter Tryd.func34, Tryd.ntmps34
        go_wp2_with fail
        refine (c1 _ (kl _ (by (repeat' (first | with_reducible assumption | with_reducible exact Below.refl _ _ | with_reducible refine Below.alloc ?_ ?_ _ | with_reducible refine Below.setCell ?_ ?_ _ | with_reducible refine Below.drew ?_ | omega | (simp; done) | (simp; omega))))).sm).mono ?_
        rintro e w1 ⟨rfl, b1⟩
        obtain ⟨B0, B1, hb⟩ := boxes2 d (.slice A d.ms.length c) b1
        obtain ⟨o_0, ⟨o_1, o_2, o_3, o_4, o_5, o_6⟩, o_7⟩ := id B0
        clear b1
        go_wp2_with fail
        refine (c3 _ (kl _ hb).sm).mono ?_
        rintro e w2 ⟨rfl, b2⟩
        have C0 := B0.keep b2
        have C1 := B1.keep b2
        have hb2 : Below w.heap.size w w2 := hb.trans (b2.mono hb.size)
        have hz2 := hb2.size
        clear o_0 o_1 o_2 o_3 o_4 o_5 o_6 o_7
        obtain ⟨o_0, ⟨o_1, o_2, o_3, o_4, o_5, o_6⟩, o_7⟩ := id C0
        obtain ⟨p_0, ⟨p_1, p_2, p_3, p_4, p_5, p_6⟩, p_7⟩ := id C1
        clear b2
        go_wp2_with fail
        exact bodyPost_ret (res_box_tmp Tryd.results34 rfl rfl ((BoxD.put C1 De.zero (.slice none 0 0)).alloc _)) rfl (Gave.zero (by (repeat' (first | with_reducible assumption | with_reducible exact Below.refl _ _ | with_reducible refine Below.alloc ?_ ?_ _ | with_reducible refine Below.setCell ?_ ?_ _ | with_reducible refine Below.drew ?_ | omega | (simp; done) | (simp; omega)))))
      · obtain ⟨P, hP, hPx, hPb, hdrop⟩ := place_of (isD_parts h1).2.1 h3
        obtain ⟨M, hM⟩ : ∃ M, d.ms.length = M + 1 := ⟨d.ms.length - 1, by omega⟩
        obtain ⟨ls, hls⟩ : ∃ ls, d.ms.take P ++ d.ms.drop (P + 1) = ls := ⟨_, rfl⟩
        obtain ⟨D, hD⟩ : ∃ D, ({ d with ms := ls, gen := d.gen + 1 } : De) = D := ⟨_, rfl⟩
        have hr : removeD d i = okD D := by unfold removeD; rw [if_pos h1, if_pos (by rw [h3]; rfl), if_neg h4, hdrop, hls, hD]
        obtain ⟨p, q, hpq⟩ : ∃ p q, okD D = (p, q) := ⟨_, _, rfl⟩
        rw [hr, hpq]
        have n1 : ((d.ms.length : Int) == 1) = false := by simp; omega
        have n2 : ((d.ms.length : Int) = 1) = False := eq_false (by omega)
        have c4 := fun w hv => raised_any d (.slice A d.ms.length c) d.gen w hv fl.n (by have := isD_gen h1; omega) (by have := isD_gen h1; omega)
        have hle : d.ms.length ≤ 1000 := fl.n
        have hlsl : ls.length = M := by rw [← hls, List.length_append, List.length_take, List.length_drop]; omega
        have HPQ := Lib.hid hpq
        have HD := Lib.hid hD
        have HM := Lib.hid hM
        have HLL := Lib.hid hlsl
        have hPM : P ≤ M := by omega
        have hP1 : P ≤ 1000 := by omega
        have hg0 := isD_gen h1
        have c5 := fun v w (hv : SM w w.heap.size v d.ms) => index_any v d.ms (x1, x2) P w hv (by omega) hP hPx hPb
        have c6 : ∀ (g cap base : Nat) (w : World), OwnM w base (.slice (some ⟨g, 0, none⟩) d.ms.length cap) d.ms → base ≤ w.heap.size → Calls Tryd.prog 77 #[.slice (some ⟨g, 0, none⟩) d.ms.length cap, .int .i64 (P : Int), .int .i64 ((P : Int) + 1)] w fun e w' => e = .returned (.slice (some ⟨g, 0, none⟩) M cap) ∧ OwnM w' base (.slice (some ⟨g, 0, none⟩) M cap) ls ∧ Below base w w' := by
          intro g cap base w ho hb
          have := delete_any g cap base d.ms M P w hM (by rw [← hM]; exact ho) hPM (by omega) hb
          rw [hls, ← hM] at this
          exact this
        clear hr h1 h3 h4 hpq hD hM hls hlsl hdrop hP hPx hPb
        go_enter Tryd.func34, Tryd.ntmps34
        go_wp2_with fail
        refine (c1 _ (kl _ (by (repeat' (first | with_reducible assumption | with_reducible exact Below.refl _ _ | with_reducible refine Below.alloc ?_ ?_ _ | with_reducible refine Below.setCell ?_ ?_ _ | with_reducible refine Below.drew ?_ | omega | (simp; done) | (simp; omega))))).sm).mono ?_
        rintro e w1 ⟨rfl, b1⟩
        obtain ⟨B0, B1, hb⟩ := boxes2 d (.slice A d.ms.length c) b1
        obtain ⟨o_0, ⟨o_1, o_2, o_3, o_4, o_5, o_6⟩, o_7⟩ := id B0
        clear b1
        go_wp2_with fail
        refine (c3 _ (kl _ hb).sm).mono ?_
        rintro e w2 ⟨rfl, b2⟩
        have C0 := B0.keep b2
        have C1 := B1.keep b2
        have hb2 : Below w.heap.size w w2 := hb.trans (b2.mono hb.size)
        have hz2 := hb2.size
        have hl2 : w.heap.size < w2.heap.size := C0.1
        clear o_0 o_1 o_2 o_3 o_4 o_5 o_6 o_7
        obtain ⟨o_0, ⟨o_1, o_2, o_3, o_4, o_5, o_6⟩, o_7⟩ := id C0
        clear b2 B0 B1
        go_wp2_with fail
        refine (c4 _ ((kl _ hb2).keep ((Below.refl _ w2).alloc (Nat.le_refl _) _))).mono ?_
        rintro e w3 ⟨s', rfl, hown, b3⟩
        have hx1 : w3.cell? ⟨w2.heap.size, 0, none⟩ = some (.int .i64 x1) := by rw [b3.cell (p := ⟨w2.heap.size, 0, none⟩) (by simp)]; simp [go_sem]
        have hx2 : w3.cell? ⟨w2.heap.size, 1, none⟩ = some (.int .i64 x2) := by rw [b3.cell (p := ⟨w2.heap.size, 1, none⟩) (by simp)]; simp [go_sem]
        have E0 := (C0.alloc _).keep b3
        have E1 := (C1.alloc _).keep b3
        obtain ⟨g, cap, rfl, hbg⟩ : ∃ g cap, s' = .slice (some ⟨g, 0, none⟩) d.ms.length cap ∧ w2.heap.size + 1 ≤ g := by
          rcases hown.2 with ⟨_, h0⟩ | ⟨g, cap, _, h, hb, _⟩
          · exfalso; have := HM.out; omega
          · exact ⟨g, cap, h, by simpa using hb⟩
        have hown1 := own_base (base' := w.heap.size + 2) hown (by have := C1.1; simp; omega)
        have hb3 : Below w.heap.size w w3 := (hb2.alloc hz2 _).trans (b3.mono (by simp; omega))
        have hz3 := hb3.size
        have hne : (w2.heap.size = w.heap.size) = False := eq_false (by omega)
        have hne2 : (w.heap.size = w2.heap.size) = False := eq_false (by omega)
        have hz31 := E1.1
        clear o_0 o_1 o_2 o_3 o_4 o_5 o_6 o_7
        obtain ⟨o_0, ⟨o_1, o_2, o_3, o_4, o_5, o_6⟩, o_7⟩ := id E0
        clear b3 hown C0 C1
        go_wp2_with fail
        obtain ⟨W8, hW8⟩ : ∃ W8, ((((((w3.setCell ⟨w.heap.size, 0, none⟩ (.int .i64 d.id)).setCell ⟨w.heap.size, 1, none⟩ (.string d.f)).setCell ⟨w.heap.size, 2, none⟩ (.string d.t)).setCell ⟨w.heap.size, 3, none⟩ (.int .i64 (d.gen + 1))).setCell ⟨w.heap.size, 4, none⟩ (.slice (some ⟨g, 0, none⟩) d.ms.length cap)).setCell ⟨w.heap.size, 5, none⟩ (.int .i64 d.next)) = W8 := ⟨_, rfl⟩
        have E8 : BoxD w.heap.size { d with gen := d.gen + 1 } (.slice (some ⟨g, 0, none⟩) d.ms.length cap) W8 := by rw [← hW8]; exact BoxD.put E0 { d with gen := d.gen + 1 } _
        have E18 : BoxD (w.heap.size + 1) De.zero (.slice none 0 0) W8 := by
          rw [← hW8]
          clear hl
          (repeat' (first | with_reducible assumption | with_reducible refine BoxD.other ?_ ?_ _ | with_reducible refine BoxD.alloc ?_ _ | with_reducible refine BoxD.drew ?_ | omega | (simp; done) | (simp; omega)))
        have own8 : OwnM W8 (w.heap.size + 2) (.slice (some ⟨g, 0, none⟩) d.ms.length cap) d.ms := by
          rw [← hW8]
          clear hl
          (repeat' (first | with_reducible assumption | with_reducible refine own_set ?_ ?_ _ | with_reducible refine own_alloc ?_ _ | with_reducible refine own_drew ?_ | omega | (simp; done) | (simp; omega)))
        have hb8 : Below w.heap.size w W8 := by
          rw [← hW8]
          (repeat' (first | with_reducible assumption | with_reducible exact Below.refl _ _ | with_reducible refine Below.alloc ?_ ?_ _ | with_reducible refine Below.setCell ?_ ?_ _ | with_reducible refine Below.drew ?_ | omega | (simp; done) | (simp; omega)))
        rw [hW8]
        clear o_0 o_1 o_2 o_3 o_4 o_5 o_6 o_7
        clear hW8 E0 E1 hown1 hx1 hx2
        refine (c5 _ W8 (SM.of_own own8)).mono ?_
        rintro e w4 ⟨rfl, b4⟩
        have E4 := E8.keep b4
        have E14 := E18.keep b4
        have own4 := own_keep own8 b4
        have hb4 : Below w.heap.size w w4 := hb8.trans (b4.mono hb8.size)
        have hz4 : w.heap.size + 2 ≤ w4.heap.size := by have := E14.1; omega
        obtain ⟨o_0, ⟨o_1, o_2, o_3, o_4, o_5, o_6⟩, o_7⟩ := id E4
        simp only at o_1 o_2 o_3 o_4 o_5 o_6
        have O4 := Lib.hid own4
        clear b4 E8 E18 own8 own4 c5
        go_wp2_with fail
        refine (c6 g cap (w.heap.size + 2) w4 O4.out hz4).mono ?_
        rintro e w5 ⟨rfl, own5, b5⟩
        have E5 := E4.kept (N := w.heap.size + 2) (by omega) b5
        have E15 := E14.kept (N := w.heap.size + 2) (by omega) b5
        have hb5 : Below w.heap.size w w5 := hb4.trans (b5.mono (by omega))
        have hz5 := hb5.size
        have O5 := Lib.hid own5
        obtain ⟨s2, hs2, ha2⟩ := okV_spec D (.slice (some ⟨g, 0, none⟩) M cap)
        have hDm : D.ms = ls := by rw [← HD.out]
        have cc : ∀ w1, SM w1 w1.heap.size (.slice (some ⟨g, 0, none⟩) M cap) ls → Calls Tryd.prog 55 #[.agg #[.int .i64 d.id, .string d.f, .string d.t, .int .i64 (d.gen + 1), .slice (some ⟨g, 0, none⟩) M cap, .int .i64 d.next]] w1 fun e w' => e = .returned (okV D (.slice (some ⟨g, 0, none⟩) M cap)) ∧ Below w1.heap.size w1 w' := by
          intro w1 hs
          have h := checked_any D (.slice (some ⟨g, 0, none⟩) M cap) w1 (by rw [hDm]; exact hs) (by rw [hDm, HLL.out]; have := HM.out; omega) (by rw [← HD.out]; exact fl.f) (by rw [← HD.out]; exact fl.t)
          have e : dv D (.slice (some ⟨g, 0, none⟩) M cap) = .agg #[.int .i64 d.id, .string d.f, .string d.t, .int .i64 (d.gen + 1), .slice (some ⟨g, 0, none⟩) M cap, .int .i64 d.next] := by rw [← HD.out]
          rw [e] at h; exact h
        rw [hs2, HPQ.out] at cc
        rw [HPQ.out, hDm] at ha2
        simp only at cc ha2
        obtain ⟨A4, c4', rfl⟩ := (ha2 _ (ArgM.of_own own5)).form
        have HA := Lib.hid ha2
        clear o_0 o_1 o_2 o_3 o_4 o_5 o_6 o_7
        obtain ⟨o_0, ⟨o_1, o_2, o_3, o_4, o_5, o_6⟩, o_7⟩ := id E5
        simp only at o_1 o_2 o_3 o_4 o_5 o_6
        clear b5 E4 E14 own5 c6 hs2 ha2 hDm
        go_wp2_with fail
        refine (cc _ (SM.of_own (own_set O5.out (by show w.heap.size < w.heap.size + 2; omega) _))).mono ?_
        rintro e w6 ⟨rfl, b6⟩
        have F1 : BoxD (w.heap.size + 1) De.zero (.slice none 0 0) w6 := (E15.other (by simp) _).keep b6
        have O6 := Lib.hid (own_keep (own_set O5.out (a := ⟨w.heap.size, 4, none⟩) (by show w.heap.size < w.heap.size + 2; omega) (.slice (some ⟨g, 0, none⟩) M cap)) b6)
        have hb6 : Below w.heap.size w w6 := (hb5.setCell (p := ⟨w.heap.size, 4, none⟩) (Nat.le_refl _) _).trans (b6.mono (by simpa using hz5))
        clear o_0 o_1 o_2 o_3 o_4 o_5 o_6 o_7
        obtain ⟨o_0, ⟨o_1, o_2, o_3, o_4, o_5, o_6⟩, o_7⟩ := id F1
        clear b6 E5 E15 cc
        go_wp2_with fail
        refine bodyPost_ret (res_box_tmp Tryd.results34 rfl rfl (BoxD.put F1 p (.slice A4 p.ms.length c4'))) rfl ⟨_, rfl, HA.out _ (ArgM.of_own (base := w.heap.size + 2) ?_), (by (repeat' (first | with_reducible assumption | with_reducible exact Below.refl _ _ | with_reducible refine Below.alloc ?_ ?_ _ | with_reducible refine Below.setCell ?_ ?_ _ | with_reducible refine Below.drew ?_ | omega | (simp; done) | (simp; omega))))⟩
        have := O6.out
        clear hl
        (repeat' (first | with_reducible assumption | with_reducible refine own_set ?_ ?_ _ | with_reducible refine own_alloc ?_ _ | with_reducible refine own_drew ?_ | omega | (simp; done) | (simp; omega)))
end Go.Proofs.YtlmecfnoipnccaaDoor.Ds
