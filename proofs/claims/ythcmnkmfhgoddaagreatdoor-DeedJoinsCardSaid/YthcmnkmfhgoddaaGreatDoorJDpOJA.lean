/-
  The document's last word on what a change comes to: the descriptor, if it may be. Conditions: texts at most 2^47 bytes.
  The document's Merge. Conditions: lengths at most 2^47.
-/
import Derived.Test.YthcmnkmfhgoddaaGreatDoorJDpRIA
import Derived.Test.YthcmnkmfhgoddaaGreatDoorJDsJoin
import Derived.Test.YthcmnkmfhgoddaaGreatDoorJBndA
namespace Go.Proofs.YthcmnkmfhgoddaaGreatDoor.Ds
open Go.RowKit Bnd
set_option maxHeartbeats 2000000 in
theorem right_any (d : De) (s : Value) (w : World) (hs : SM w w.heap.size s d.ms) (hl : d.ms.length <= 140737488355328) (hf : d.f.size <= 140737488355328) (ht : d.t.size <= 140737488355328) :
    Calls Tryz.prog 101 #[dv d s] w fun e w' => e = .returned (okV d s) /\ Below w.heap.size w w' := by
  obtain ⟨A, c, rfl⟩ := hs.form
  have cc := fun w hs => ris_any d (.slice A d.ms.length c) w hs hf ht hl
  have hst : ∀ w1, Below w.heap.size w w1 -> SM w1 w1.heap.size (.slice A d.ms.length c) d.ms := fun w1 hb => (hs.below hb).more hb.size
  cases hd : isD d with
  | false =>
    have hr : okV d (.slice A d.ms.length c) = .tuple #[dv De.zero (.slice none 0 0), .int .i64 60] := by unfold okV; rw [if_neg (by simp [hd])]
    rw [hr]
    rw [hd] at cc
    clear hr hd
    go_enter Tryz.func101, Tryz.ntmps101
    go_wp2_with fail
    refine (cc _ (hst _ (by exact Ds.bex1))).mono ?_
    rintro e w1 ⟨rfl, b1⟩
    have B2 := (BoxD.zero (w.alloc (.cells #[.int .i64 d.id, .string d.f, .string d.t, .int .i64 d.gen, .slice A d.ms.length c, .int .i64 d.next] 26))).keep b1
    rw [World.size_alloc] at B2
    obtain ⟨z2, ⟨f1, f2, f3, f4, f5, f6⟩, f7⟩ := id B2
    have hb : Below w.heap.size w w1 := (((Below.refl _ w).alloc (Nat.le_refl _) _).alloc (by simp) _).trans (b1.mono (by simp; omega))
    clear b1
    go_wp2_with fail
    refine bodyPost_ret (v := .tuple #[dv De.zero (.slice none 0 0), .int .i64 60]) (res_box_tmp Tryz.results101 rfl rfl (BoxD.put B2 De.zero (.slice none 0 0))) rfl ⟨rfl, ?_⟩
    (exact Ds.bex1)
  | true =>
    have hr : okV d (.slice A d.ms.length c) = .tuple #[dv d (.slice A d.ms.length c), .int .i64 0] := by unfold okV; rw [if_pos hd]
    rw [hr]
    rw [hd] at cc
    clear hr hd
    go_enter Tryz.func101, Tryz.ntmps101
    go_wp2_with fail
    refine (cc _ (hst _ (by exact Ds.bex1))).mono ?_
    rintro e w1 ⟨rfl, b1⟩
    have B1 := ((BoxD.new w d (.slice A d.ms.length c)).alloc (.cells #[.int .i64 0, .string ⟨#[]⟩, .string ⟨#[]⟩, .int .i64 0, .slice none 0 0, .int .i64 0] 26)).keep b1
    have B2 := (BoxD.zero (w.alloc (.cells #[.int .i64 d.id, .string d.f, .string d.t, .int .i64 d.gen, .slice A d.ms.length c, .int .i64 d.next] 26))).keep b1
    rw [World.size_alloc] at B2
    obtain ⟨z1, ⟨e1, e2, e3, e4, e5, e6⟩, e7⟩ := id B1
    obtain ⟨z2, ⟨f1, f2, f3, f4, f5, f6⟩, f7⟩ := id B2
    have hb : Below w.heap.size w w1 := (((Below.refl _ w).alloc (Nat.le_refl _) _).alloc (by simp) _).trans (b1.mono (by simp; omega))
    clear b1
    go_wp2_with fail
    refine bodyPost_ret (v := .tuple #[dv d (.slice A d.ms.length c), .int .i64 0]) (res_box_tmp Tryz.results101 rfl rfl (BoxD.put B2 d (.slice A d.ms.length c))) rfl ⟨rfl, ?_⟩
    (exact Ds.bex1)
end Go.Proofs.YthcmnkmfhgoddaaGreatDoor.Ds

namespace Go.Proofs.YthcmnkmfhgoddaaGreatDoor.Ds
open Go.RowKit Bnd
open Go.Proofs.YthcmnkmfhgoddaaGreatDoor.O (Bd isB keyB hasB nextB)
theorem gen_max {l r : De} (h1 : isD l = true) (h2 : isD r = true) : wrap64 (l.gen + 1) = l.gen + 1 /\ wrap64 (r.gen + 1) = r.gen + 1 /\ wrap64 (max l.gen r.gen + 1) = max l.gen r.gen + 1 := by
  have := isD_gen h1
  have := isD_gen h2
  exact ⟨by unfold wrap64; omega, by unfold wrap64; omega, by unfold wrap64; omega⟩
set_option maxHeartbeats 8000000 in
set_option maxRecDepth 100000 in
theorem rmerge_any (l r : De) (sl sr : Value) (w : World) (hl : ArgM w sl l.ms) (hr : ArgM w sr r.ms) (fl : Fit l) (fr : Fit r) :
    Calls Tryz.prog 72 #[dv l sl, dv r sr] w fun e w' => Gave w (mergeD l r) e w' := by
  obtain ⟨Al, cl, rfl⟩ := hl.form
  obtain ⟨Ar, cr, rfl⟩ := hr.form
  have kl : ∀ w1, Below w.heap.size w w1 -> ArgM w1 (.slice Al l.ms.length cl) l.ms := fun w1 hb => hl.keep hb
  have kr : ∀ w1, Below w.heap.size w w1 -> ArgM w1 (.slice Ar r.ms.length cr) r.ms := fun w1 hb => hr.keep hb
  have c1 := fun w hs => ris_any l (.slice Al l.ms.length cl) w hs fl.f fl.t (by have := fl.n; omega)
  have c2 := fun w hs => ris_any r (.slice Ar r.ms.length cr) w hs fr.f fr.t (by have := fr.n; omega)
  have c3 := fun w => Bnd.rjoin_any l.f l.t r.f r.t w fl.f fl.t fr.f fr.t
  have hj : joinV l.f l.t r.f r.t = if nextB l.b r.b = true then .tuple #[bd l.f r.t, .int .i64 0] else .tuple #[bd E0 E0, .int .i64 20] := rfl
  rw [hj] at c3
  clear hj
  cases h1 : isD l with
  | false =>
    have hr : mergeD l r = (De.zero, 60) := by unfold mergeD; rw [if_neg (by simp [h1])]
    rw [hr]
    rw [h1] at c1
    clear hr h1
    go_enter Tryz.func72, Tryz.ntmps72
    go_wp2_with fail
    refine (c1 _ (kl _ (by exact Ds.bex1)).sm).mono ?_
    rintro e w1 ⟨rfl, b1⟩
    obtain ⟨B0, B1, B2, hb⟩ := boxes3 l (.slice Al l.ms.length cl) r (.slice Ar r.ms.length cr) b1
    clear b1
    obtain ⟨p_0, ⟨p_1, p_2, p_3, p_4, p_5, p_6⟩, p_7⟩ := id B2
    go_wp2_with fail
    exact bodyPost_ret (res_box_tmp Tryz.results72 rfl rfl (BoxD.put B2 De.zero (.slice none 0 0))) rfl (Gave.zero (by exact Ds.bex1))
  | true =>
    cases h2 : isD r with
    | false =>
      have hr : mergeD l r = (De.zero, 60) := by unfold mergeD; rw [if_neg (by simp [h2])]
      rw [hr]
      rw [h1] at c1
      rw [h2] at c2
      clear hr h1 h2
      go_enter Tryz.func72, Tryz.ntmps72
      go_wp2_with fail
      refine (c1 _ (kl _ (by exact Ds.bex1)).sm).mono ?_
      rintro e w1 ⟨rfl, b1⟩
      obtain ⟨B0, B1, B2, hb⟩ := boxes3 l (.slice Al l.ms.length cl) r (.slice Ar r.ms.length cr) b1
      clear b1
      obtain ⟨q_0, ⟨q_1, q_2, q_3, q_4, q_5, q_6⟩, q_7⟩ := id B1
      go_wp2_with fail
      refine (c2 _ (kr _ hb).sm).mono ?_
      rintro e w2 ⟨rfl, b2⟩
      have C0 := B0.keep b2
      have C1 := B1.keep b2
      have C2 := B2.keep b2
      clear q_0 q_1 q_2 q_3 q_4 q_5 q_6 q_7
      have hb2 : Below w.heap.size w w2 := hb.trans (b2.mono hb.size)
      clear b2 B0 B1 B2
      obtain ⟨p_0, ⟨p_1, p_2, p_3, p_4, p_5, p_6⟩, p_7⟩ := id C2
      go_wp2_with fail
      exact bodyPost_ret (res_box_tmp Tryz.results72 rfl rfl (BoxD.put C2 De.zero (.slice none 0 0))) rfl (Gave.zero (by exact Ds.bex1))
    | true =>
      have hd1 := h1
      have hd2 := h2
      rw [h1] at c1
      rw [h2] at c2
      cases h3 : nextB l.b r.b with
      | false =>
        have hr : mergeD l r = (De.zero, 20) := by unfold mergeD; rw [if_pos ⟨h1, h2⟩, if_neg (by simp [h3])]
        rw [hr]
        rw [h3] at c3
        clear hr h1 h2 h3 hd1 hd2
        simp only [Bool.false_eq_true, if_false] at c3
        go_enter Tryz.func72, Tryz.ntmps72
        go_wp2_with fail
        refine (c1 _ (kl _ (by exact Ds.bex1)).sm).mono ?_
        rintro e w1 ⟨rfl, b1⟩
        obtain ⟨B0, B1, B2, hb⟩ := boxes3 l (.slice Al l.ms.length cl) r (.slice Ar r.ms.length cr) b1
        clear b1
        obtain ⟨q_0, ⟨q_1, q_2, q_3, q_4, q_5, q_6⟩, q_7⟩ := id B1
        go_wp2_with fail
        refine (c2 _ (kr _ hb).sm).mono ?_
        rintro e w2 ⟨rfl, b2⟩
        have C0 := B0.keep b2
        have C1 := B1.keep b2
        have C2 := B2.keep b2
        clear q_0 q_1 q_2 q_3 q_4 q_5 q_6 q_7
        have hb2 : Below w.heap.size w w2 := hb.trans (b2.mono hb.size)
        clear b2 B0 B1 B2
        obtain ⟨o_0, ⟨o_1, o_2, o_3, o_4, o_5, o_6⟩, o_7⟩ := id C0
        obtain ⟨q_0, ⟨q_1, q_2, q_3, q_4, q_5, q_6⟩, q_7⟩ := id C1
        go_wp2_with fail
        refine (c3 _).mono ?_
        rintro e w3 ⟨rfl, b3⟩
        have D0 := C0.keep b3
        have D1 := C1.keep b3
        have D2 := C2.keep b3
        clear o_0 o_1 o_2 o_3 o_4 o_5 o_6 o_7
        clear q_0 q_1 q_2 q_3 q_4 q_5 q_6 q_7
        have hb3 : Below w.heap.size w w3 := hb2.trans (b3.mono hb2.size)
        have hz3 := hb3.size
        clear b3 C0 C1 C2
        obtain ⟨p_0, ⟨p_1, p_2, p_3, p_4, p_5, p_6⟩, p_7⟩ := id D2
        go_wp2_with fail
        exact bodyPost_ret (res_box_tmp Tryz.results72 rfl rfl ((BoxD.put D2 De.zero (.slice none 0 0)).alloc _)) rfl (Gave.zero (by exact Ds.bex1))
      | true =>
        rw [h3] at c3
        simp only [if_true] at c3
        by_cases h4 : l.id = r.id
        · have hr : mergeD l r = (De.zero, 2) := by unfold mergeD; rw [if_pos ⟨h1, h2⟩, if_pos h3, if_pos h4]
          rw [hr]
          have n1 : (l.id == r.id) = true := by simpa using h4
          have n2 : (l.id = r.id) = True := eq_true h4
          clear hr h1 h2 h3 hd1 hd2 h4
          go_enter Tryz.func72, Tryz.ntmps72
          go_wp2_with fail
          refine (c1 _ (kl _ (by exact Ds.bex1)).sm).mono ?_
          rintro e w1 ⟨rfl, b1⟩
          obtain ⟨B0, B1, B2, hb⟩ := boxes3 l (.slice Al l.ms.length cl) r (.slice Ar r.ms.length cr) b1
          clear b1
          obtain ⟨q_0, ⟨q_1, q_2, q_3, q_4, q_5, q_6⟩, q_7⟩ := id B1
          go_wp2_with fail
          refine (c2 _ (kr _ hb).sm).mono ?_
          rintro e w2 ⟨rfl, b2⟩
          have C0 := B0.keep b2
          have C1 := B1.keep b2
          have C2 := B2.keep b2
          clear q_0 q_1 q_2 q_3 q_4 q_5 q_6 q_7
          have hb2 : Below w.heap.size w w2 := hb.trans (b2.mono hb.size)
          clear b2 B0 B1 B2
          obtain ⟨o_0, ⟨o_1, o_2, o_3, o_4, o_5, o_6⟩, o_7⟩ := id C0
          obtain ⟨q_0, ⟨q_1, q_2, q_3, q_4, q_5, q_6⟩, q_7⟩ := id C1
          go_wp2_with fail
          refine (c3 _).mono ?_
          rintro e w3 ⟨rfl, b3⟩
          have D0 := C0.keep b3
          have D1 := C1.keep b3
          have D2 := C2.keep b3
          clear o_0 o_1 o_2 o_3 o_4 o_5 o_6 o_7
          clear q_0 q_1 q_2 q_3 q_4 q_5 q_6 q_7
          have hb3 : Below w.heap.size w w3 := hb2.trans (b3.mono hb2.size)
          have hz3 := hb3.size
          clear b3 C0 C1 C2
          obtain ⟨o_0, ⟨o_1, o_2, o_3, o_4, o_5, o_6⟩, o_7⟩ := id D0
          obtain ⟨q_0, ⟨q_1, q_2, q_3, q_4, q_5, q_6⟩, q_7⟩ := id D1
          obtain ⟨p_0, ⟨p_1, p_2, p_3, p_4, p_5, p_6⟩, p_7⟩ := id D2
          go_wp2_with fail
          exact bodyPost_ret (res_box_tmp Tryz.results72 rfl rfl ((BoxD.put D2 De.zero (.slice none 0 0)).alloc _)) rfl (Gave.zero (by exact Ds.bex1))
        · obtain ⟨D, hD⟩ : ∃ D, ({ l with t := r.t, gen := max l.gen r.gen + 1 } : De) = D := ⟨_, rfl⟩
          have hr : mergeD l r = okD D := by unfold mergeD; rw [if_pos ⟨h1, h2⟩, if_pos h3, if_neg h4, hD]
          obtain ⟨p, q, hpq⟩ : ∃ p q, okD D = (p, q) := ⟨_, _, rfl⟩
          rw [hr, hpq]
          have n1 : (l.id == r.id) = false := by simpa using h4
          have n2 : (l.id = r.id) = False := eq_false h4
          obtain ⟨g2, g3, g4⟩ := gen_max hd1 hd2
          obtain ⟨s2, hs2, ha2⟩ := okV_spec D (.slice Al l.ms.length cl)
          have cc := fun w hs => right_any D (.slice Al l.ms.length cl) w hs (by rw [<- hD]; have := fl.n; show l.ms.length <= _; omega) (by rw [<- hD]; exact fl.f) (by rw [<- hD]; exact fr.t)
          rw [hs2, hpq] at cc
          rw [hpq] at ha2
          have hms : D.ms = l.ms := by rw [<- hD]
          obtain ⟨A3, c3', rfl⟩ := (ha2 _ (by rw [hms]; exact hl)).form
          have HA := Lib.hid ha2
          have HD := Lib.hid hD
          have HG := Lib.hid (show wrap64 (l.gen + 1) = l.gen + 1 /\ wrap64 (r.gen + 1) = r.gen + 1 /\ wrap64 (max l.gen r.gen + 1) = max l.gen r.gen + 1 from ⟨g2, g3, g4⟩)
          clear hr h1 h2 h3 hd1 hd2 h4 hpq hs2 ha2 hD g2 g3
          go_enter Tryz.func72, Tryz.ntmps72
          go_wp2_with fail
          refine (c1 _ (kl _ (by exact Ds.bex1)).sm).mono ?_
          rintro e w1 ⟨rfl, b1⟩
          obtain ⟨B0, B1, B2, hb⟩ := boxes3 l (.slice Al l.ms.length cl) r (.slice Ar r.ms.length cr) b1
          clear b1
          obtain ⟨q_0, ⟨q_1, q_2, q_3, q_4, q_5, q_6⟩, q_7⟩ := id B1
          go_wp2_with fail
          refine (c2 _ (kr _ hb).sm).mono ?_
          rintro e w2 ⟨rfl, b2⟩
          have C0 := B0.keep b2
          have C1 := B1.keep b2
          have C2 := B2.keep b2
          clear q_0 q_1 q_2 q_3 q_4 q_5 q_6 q_7
          have hb2 : Below w.heap.size w w2 := hb.trans (b2.mono hb.size)
          clear b2 B0 B1 B2
          obtain ⟨o_0, ⟨o_1, o_2, o_3, o_4, o_5, o_6⟩, o_7⟩ := id C0
          obtain ⟨q_0, ⟨q_1, q_2, q_3, q_4, q_5, q_6⟩, q_7⟩ := id C1
          go_wp2_with fail
          refine (c3 _).mono ?_
          rintro e w3 ⟨rfl, b3⟩
          have D0 := C0.keep b3
          have D1 := C1.keep b3
          have D2 := C2.keep b3
          clear o_0 o_1 o_2 o_3 o_4 o_5 o_6 o_7
          clear q_0 q_1 q_2 q_3 q_4 q_5 q_6 q_7
          have hb3 : Below w.heap.size w w3 := hb2.trans (b3.mono hb2.size)
          have hz3 := hb3.size
          clear b3 C0 C1 C2
          have BB0 : BoxD w.heap.size l (.slice Al l.ms.length cl) w3 := D0
          obtain ⟨o_0, ⟨o_1, o_2, o_3, o_4, o_5, o_6⟩, o_7⟩ := id D0
          obtain ⟨q_0, ⟨q_1, q_2, q_3, q_4, q_5, q_6⟩, q_7⟩ := id D1
          obtain ⟨p_0, ⟨p_1, p_2, p_3, p_4, p_5, p_6⟩, p_7⟩ := id D2
          go_wp2_with fail
          all_goals
            obtain ⟨k2, k3, k4⟩ := HG.out
            first
              | rw [k2]
              | rw [k3]
              | rw [k4]
            clear k2 k3 k4
            have hD' := HD.out
            have hA' := HA.out
            first
              | rw [show max l.gen r.gen = l.gen by omega] at hD'
              | rw [show max l.gen r.gen = r.gen by omega] at hD'
              | skip
            subst hD'
            simp only at cc hA'
            have HA' := Lib.hid hA'
            clear hA' HA
            have bz : w.heap.size + 2 < w3.heap.size := D2.1
            refine (cc _ (ArgM.sm (kl _ (by exact Ds.bex1)))).mono ?_
            rintro e w5 ⟨rfl, b5⟩
            have F2 : BoxD (w.heap.size + 2) De.zero (.slice none 0 0) w5 := BoxD.keep (by (repeat' (first | with_reducible assumption | with_reducible refine BoxD.other ?_ ?_ _ | with_reducible refine BoxD.alloc ?_ _ | with_reducible refine BoxD.drew ?_ | omega | (simp; done) | (simp; omega)))) b5
            have hb5 : Below w.heap.size w w5 := (show Below w.heap.size w _ from (by exact Ds.bex1)).trans (b5.mono (by simp; omega))
            have bz5 := hb5.size
            clear o_0 o_1 o_2 o_3 o_4 o_5 o_6 o_7
            clear q_0 q_1 q_2 q_3 q_4 q_5 q_6 q_7
            clear p_0 p_1 p_2 p_3 p_4 p_5 p_6 p_7
            obtain ⟨p_0, ⟨p_1, p_2, p_3, p_4, p_5, p_6⟩, p_7⟩ := id F2
            clear b5 cc
            go_wp2_with fail
            exact bodyPost_ret (res_box_tmp Tryz.results72 rfl rfl (BoxD.put F2 p (.slice A3 p.ms.length c3'))) rfl ⟨_, rfl, HA'.out _ (kl _ (by exact Ds.bex1)), (by exact Ds.bex1)⟩
end Go.Proofs.YthcmnkmfhgoddaaGreatDoor.Ds
