/-
  Add, the program's. Condition: at most 1000 members, lengths at most 2^47.
  Split, the program's. Condition: at most 1000 members, lengths at most 2^47.
-/
import Derived.Test.YthcmnkmfhgoddaaGreatDoorODsJoin
import Derived.Test.YthcmnkmfhgoddaaGreatDoorORegA
namespace Go.Proofs.YthcmnkmfhgoddaaGreatDoor.Ds
open Go.RowKit Bnd
open Go.Proofs.YthcmnkmfhgoddaaGreatDoor.O (Bd isB keyB hasB)
theorem boxes2 {w w1 : World} (l : De) (sl : Value)
    (b1 : Below ((w.alloc (.cells #[.int .i64 l.id, .string l.f, .string l.t, .int .i64 l.gen, sl, .int .i64 l.next] 26)).alloc (.cells #[.int .i64 0, .string ⟨#[]⟩, .string ⟨#[]⟩, .int .i64 0, .slice none 0 0, .int .i64 0] 26)).heap.size
      ((w.alloc (.cells #[.int .i64 l.id, .string l.f, .string l.t, .int .i64 l.gen, sl, .int .i64 l.next] 26)).alloc (.cells #[.int .i64 0, .string ⟨#[]⟩, .string ⟨#[]⟩, .int .i64 0, .slice none 0 0, .int .i64 0] 26)) w1) :
    BoxD w.heap.size l sl w1 ∧ BoxD (w.heap.size + 1) De.zero (.slice none 0 0) w1 ∧ Below w.heap.size w w1 := by
  have B2 := (BoxD.zero (w.alloc (.cells #[.int .i64 l.id, .string l.f, .string l.t, .int .i64 l.gen, sl, .int .i64 l.next] 26))).keep b1
  rw [World.size_alloc] at B2
  exact ⟨((BoxD.new w l sl).alloc _).keep b1, B2, (show Below w.heap.size w _ from (by (repeat' (first | with_reducible assumption | with_reducible exact Below.refl _ _ | with_reducible refine Below.alloc ?_ ?_ _ | with_reducible refine Below.setCell ?_ ?_ _ | with_reducible refine Below.drew ?_ | omega | (simp; done) | (simp; omega))))).trans (b1.mono (by simp; omega))⟩
theorem arg_one_at (w : World) (p : Mem) (k : Nat) (h : w.heap.size = k) : ArgM (w.alloc (.cells #[.int .i64 p.1, .int .i64 p.2] 70)) (.slice (some ⟨k, 0, none⟩) 1 1) [p] := by
  subst h; exact arg_one w p
set_option maxHeartbeats 4000000 in
theorem add_any (d : De) (s : Value) (n : Int) (w : World) (hl : ArgM w s d.ms) (fl : Fit d) :
    Calls Tryz.prog 96 #[dv d s, .int .i64 n] w fun e w' => Gave w (addD d n) e w' := by
  obtain ⟨A, c, rfl⟩ := hl.form
  have kl : ∀ w1, Below w.heap.size w w1 → ArgM w1 (.slice A d.ms.length c) d.ms := fun w1 hb => hl.keep hb
  have c1 := fun w hs => check_any d (.slice A d.ms.length c) w hs (by have := fl.n; omega) fl.f fl.t
  have c2 := fun w => isNode_any n w
  have c3 := fun w hs => on_any d (.slice A d.ms.length c) n w hs (by have := fl.n; omega)
  cases h1 : isD d with
  | false =>
    have hr : addD d n = (De.zero, 60) := by unfold addD; rw [if_neg (by simp [h1])]
    rw [hr]
    rw [chkD_no h1] at c1
    clear hr h1
    go_enter Tryz.func96, Tryz.ntmps96
    go_wp2_with fail
    refine (c1 _ (kl _ (by (repeat' (first | with_reducible assumption | with_reducible exact Below.refl _ _ | with_reducible refine Below.alloc ?_ ?_ _ | with_reducible refine Below.setCell ?_ ?_ _ | with_reducible refine Below.drew ?_ | omega | (simp; done) | (simp; omega))))).sm).mono ?_
    rintro e w1 ⟨rfl, b1⟩
    obtain ⟨B0, B1, hb⟩ := boxes2 d (.slice A d.ms.length c) b1
    obtain ⟨p_0, ⟨p_1, p_2, p_3, p_4, p_5, p_6⟩, p_7⟩ := id B1
    clear b1
    go_wp2_with fail
    exact bodyPost_ret (res_box_tmp Tryz.results96 rfl rfl (BoxD.put B1 De.zero (.slice none 0 0))) rfl (Gave.zero (by (repeat' (first | with_reducible assumption | with_reducible exact Below.refl _ _ | with_reducible refine Below.alloc ?_ ?_ _ | with_reducible refine Below.setCell ?_ ?_ _ | with_reducible refine Below.drew ?_ | omega | (simp; done) | (simp; omega)))))
  | true =>
    rw [chkD_yes h1] at c1
    cases h2 : nodeB n with
    | false =>
      have hr : addD d n = (De.zero, 2) := by unfold addD; rw [if_pos h1, if_neg (by simp [h2])]
      rw [hr]
      rw [h2] at c2
      clear hr h1 h2
      go_enter Tryz.func96, Tryz.ntmps96
      go_wp2_with fail
      refine (c1 _ (kl _ (by (repeat' (first | with_reducible assumption | with_reducible exact Below.refl _ _ | with_reducible refine Below.alloc ?_ ?_ _ | with_reducible refine Below.setCell ?_ ?_ _ | with_reducible refine Below.drew ?_ | omega | (simp; done) | (simp; omega))))).sm).mono ?_
      rintro e w1 ⟨rfl, b1⟩
      obtain ⟨B0, B1, hb⟩ := boxes2 d (.slice A d.ms.length c) b1
      obtain ⟨p_0, ⟨p_1, p_2, p_3, p_4, p_5, p_6⟩, p_7⟩ := id B1
      clear b1
      go_wp2_with fail
      refine (c2 _).mono ?_
      rintro e w2 ⟨rfl, rfl⟩
      go_wp2_with fail
      exact bodyPost_ret (res_box_tmp Tryz.results96 rfl rfl (BoxD.put B1 De.zero (.slice none 0 0))) rfl (Gave.zero (by (repeat' (first | with_reducible assumption | with_reducible exact Below.refl _ _ | with_reducible refine Below.alloc ?_ ?_ _ | with_reducible refine Below.setCell ?_ ?_ _ | with_reducible refine Below.drew ?_ | omega | (simp; done) | (simp; omega)))))
    | true =>
      rw [h2] at c2
      cases h3 : onM n d.ms with
      | some m =>
        obtain ⟨mx, my⟩ := m
        have hr : addD d n = (De.zero, 8) := by unfold addD; rw [if_pos h1, if_pos h2, if_pos (by rw [h3]; rfl)]
        rw [hr]
        rw [h3] at c3
        simp only [optV] at c3
        clear hr h1 h2 h3
        go_enter Tryz.func96, Tryz.ntmps96
        go_wp2_with fail
        refine (c1 _ (kl _ (by (repeat' (first | with_reducible assumption | with_reducible exact Below.refl _ _ | with_reducible refine Below.alloc ?_ ?_ _ | with_reducible refine Below.setCell ?_ ?_ _ | with_reducible refine Below.drew ?_ | omega | (simp; done) | (simp; omega))))).sm).mono ?_
        rintro e w1 ⟨rfl, b1⟩
        obtain ⟨B0, B1, hb⟩ := boxes2 d (.slice A d.ms.length c) b1
        obtain ⟨o_0, ⟨o_1, o_2, o_3, o_4, o_5, o_6⟩, o_7⟩ := id B0
        clear b1
        go_wp2_with fail
        refine (c2 _).mono ?_
        rintro e w2 ⟨rfl, rfl⟩
        go_wp2_with fail
        refine (c3 _ (kl _ hb).sm).mono ?_
        rintro e w2 ⟨rfl, b2⟩
        have C1 := B1.keep b2
        have hb2 : Below w.heap.size w w2 := hb.trans (b2.mono hb.size)
        have hz2 := hb2.size
        clear o_0 o_1 o_2 o_3 o_4 o_5 o_6 o_7
        obtain ⟨p_0, ⟨p_1, p_2, p_3, p_4, p_5, p_6⟩, p_7⟩ := id C1
        clear b2
        go_wp2_with fail
        exact bodyPost_ret (res_box_tmp Tryz.results96 rfl rfl ((BoxD.put C1 De.zero (.slice none 0 0)).alloc _)) rfl (Gave.zero (by (repeat' (first | with_reducible assumption | with_reducible exact Below.refl _ _ | with_reducible refine Below.alloc ?_ ?_ _ | with_reducible refine Below.setCell ?_ ?_ _ | with_reducible refine Below.drew ?_ | omega | (simp; done) | (simp; omega)))))
      | none =>
        rw [h3] at c3
        simp only [optV] at c3
        by_cases h4 : d.ms.length = 5
        · have hr : addD d n = (De.zero, 6) := by unfold addD; rw [if_pos h1, if_pos h2, if_neg (by rw [h3]; simp), if_pos h4]
          rw [hr]
          have n1 : ((d.ms.length : Int) == 5) = true := by simp; omega
          have n2 : ((d.ms.length : Int) = 5) = True := eq_true (by omega)
          clear hr h1 h2 h3 h4
          go_enter Tryz.func96, Tryz.ntmps96
          go_wp2_with fail
          refine (c1 _ (kl _ (by (repeat' (first | with_reducible assumption | with_reducible exact Below.refl _ _ | with_reducible refine Below.alloc ?_ ?_ _ | with_reducible refine Below.setCell ?_ ?_ _ | with_reducible refine Below.drew ?_ | omega | (simp; done) | (simp; omega))))).sm).mono ?_
          rintro e w1 ⟨rfl, b1⟩
          obtain ⟨B0, B1, hb⟩ := boxes2 d (.slice A d.ms.length c) b1
          obtain ⟨o_0, ⟨o_1, o_2, o_3, o_4, o_5, o_6⟩, o_7⟩ := id B0
          clear b1
          go_wp2_with fail
          refine (c2 _).mono ?_
          rintro e w2 ⟨rfl, rfl⟩
          go_wp2_with fail
          refine (c3 _ (kl _ hb).sm).mono ?_
          rintro e w2 ⟨rfl, b2⟩
          have C0 := B0.keep b2
          have C1 := B1.keep b2
          have hb2 : Below w.heap.size w w2 := hb.trans (b2.mono hb.size)
          have hz2 := hb2.size
          clear o_0 o_1 o_2 o_3 o_4 o_5 o_6 o_7
          obtain ⟨o_0, ⟨o_1, o_2, o_3, o_4, o_5, o_6⟩, o_7⟩ := id C0
          obtain ⟨p_0, ⟨p_1, p_2, p_3, p_4, p_5, p_6⟩, p_7⟩ := id C1
          clear b2
          go_wp2_with fail
          exact bodyPost_ret (res_box_tmp Tryz.results96 rfl rfl ((BoxD.put C1 De.zero (.slice none 0 0)).alloc _)) rfl (Gave.zero (by (repeat' (first | with_reducible assumption | with_reducible exact Below.refl _ _ | with_reducible refine Below.alloc ?_ ?_ _ | with_reducible refine Below.setCell ?_ ?_ _ | with_reducible refine Below.drew ?_ | omega | (simp; done) | (simp; omega)))))
        · obtain ⟨D, hD⟩ : ∃ D, ({ d with ms := d.ms ++ [(n, d.next)], next := d.next + 1, gen := d.gen + 1 } : De) = D := ⟨_, rfl⟩
          have hr : addD d n = okD D := by unfold addD; rw [if_pos h1, if_pos h2, if_neg (by rw [h3]; simp), if_neg h4, hD]
          obtain ⟨p, q, hpq⟩ : ∃ p q, okD D = (p, q) := ⟨_, _, rfl⟩
          rw [hr, hpq]
          have n1 : ((d.ms.length : Int) == 5) = false := by simp; omega
          have n2 : ((d.ms.length : Int) = 5) = False := eq_false (by omega)
          have c4 := fun w hv => raised_any d (.slice A d.ms.length c) d.gen w hv fl.n (by have := isD_gen h1; omega) (by have := isD_gen h1; omega)
          have hnx := isD_next h1
          have hle : d.ms.length ≤ 1000 := fl.n
          have HPQ := Lib.hid hpq
          have HD := Lib.hid hD
          clear hr h1 h2 h3 h4 hpq hD
          go_enter Tryz.func96, Tryz.ntmps96
          go_wp2_with fail
          refine (c1 _ (kl _ (by (repeat' (first | with_reducible assumption | with_reducible exact Below.refl _ _ | with_reducible refine Below.alloc ?_ ?_ _ | with_reducible refine Below.setCell ?_ ?_ _ | with_reducible refine Below.drew ?_ | omega | (simp; done) | (simp; omega))))).sm).mono ?_
          rintro e w1 ⟨rfl, b1⟩
          obtain ⟨B0, B1, hb⟩ := boxes2 d (.slice A d.ms.length c) b1
          obtain ⟨o_0, ⟨o_1, o_2, o_3, o_4, o_5, o_6⟩, o_7⟩ := id B0
          clear b1
          go_wp2_with fail
          refine (c2 _).mono ?_
          rintro e w2 ⟨rfl, rfl⟩
          go_wp2_with fail
          refine (c3 _ (kl _ hb).sm).mono ?_
          rintro e w2 ⟨rfl, b2⟩
          have C0 := B0.keep b2
          have C1 := B1.keep b2
          have hb2 : Below w.heap.size w w2 := hb.trans (b2.mono hb.size)
          have hz2 := hb2.size
          clear o_0 o_1 o_2 o_3 o_4 o_5 o_6 o_7
          obtain ⟨o_0, ⟨o_1, o_2, o_3, o_4, o_5, o_6⟩, o_7⟩ := id C0
          clear b2 B0 B1
          go_wp2_with fail
          refine (c4 _ ((kl _ hb2).keep ((Below.refl _ w2).alloc (Nat.le_refl _) _))).mono ?_
          rintro e w3 ⟨s', rfl, hown, b3⟩
          obtain ⟨A2, c2', rfl⟩ := (SM.of_own hown).form
          have E0 := (C0.alloc _).keep b3
          have E1 := (C1.alloc _).keep b3
          clear o_0 o_1 o_2 o_3 o_4 o_5 o_6 o_7
          obtain ⟨o_0, ⟨o_1, o_2, o_3, o_4, o_5, o_6⟩, o_7⟩ := id E0
          have hb3 : Below w.heap.size w w3 := (hb2.alloc hz2 _).trans (b3.mono (by simp; omega))
          have hz3 := hb3.size
          have hown1 := own_base (base' := w.heap.size + 2) hown (by have := C1.lt; simp; omega)
          have HO := hown1
          have hz31 := E1.lt
          clear b3 hown hown1 C0 C1
          go_wp2_with (at_builtin; refine wpList_append_ms rfl _ _ rfl (w.heap.size + 2) (.slice A2 d.ms.length c2') d.ms rfl (by clear hl; (repeat' (first | with_reducible assumption | with_reducible refine own_set ?_ ?_ _ | with_reducible refine own_alloc ?_ _ | with_reducible refine own_drew ?_ | omega | (simp; done) | (simp; omega)))) (by simp; omega) (.slice (some ⟨w3.heap.size, 0, none⟩) 1 1) [(n, d.next)] rfl (arg_one_at _ (n, d.next) w3.heap.size (by simp)) (by simp; omega) ?_)
          intro v' w4 hown4 hb4 _
          obtain ⟨A3, c3', hv'⟩ := (SM.of_own hown4).form
          rw [List.length_append] at hv'
          obtain rfl := hv'
          have Q0 : BoxD w.heap.size { d with gen := d.gen + 1 } (.slice A2 d.ms.length c2') w4 := BoxD.kept (N := w.heap.size + 2) ((BoxD.put E0 { d with gen := d.gen + 1 } (.slice A2 d.ms.length c2')).alloc _) (by omega) hb4
          have Q1 : BoxD (w.heap.size + 1) De.zero (.slice none 0 0) w4 := by
            refine BoxD.kept (N := w.heap.size + 2) ?_ (by omega) hb4
            clear hl
            (repeat' (first | with_reducible assumption | with_reducible refine BoxD.other ?_ ?_ _ | with_reducible refine BoxD.alloc ?_ _ | with_reducible refine BoxD.drew ?_ | omega | (simp; done) | (simp; omega)))
          have hbig := hb4.size
          have hbn : Below w.heap.size w w4 := by
            refine Below.trans (?_ : Below w.heap.size w _) (hb4.mono (by omega))
            (repeat' (first | with_reducible assumption | with_reducible exact Below.refl _ _ | with_reducible refine Below.alloc ?_ ?_ _ | with_reducible refine Below.setCell ?_ ?_ _ | with_reducible refine Below.drew ?_ | omega | (simp; done) | (simp; omega)))
          clear o_0 o_1 o_2 o_3 o_4 o_5 o_6 o_7
          obtain ⟨o_0, ⟨o_1, o_2, o_3, o_4, o_5, o_6⟩, o_7⟩ := id Q0
          simp only at o_3
          clear hb4 E0 E1
          have hD' := HD.out
          obtain ⟨s2, hs2, ha2⟩ := okV_spec D (.slice A3 (d.ms.length + [(n, d.next)].length) c3')
          have cc := fun w hs => checked_any D (.slice A3 (d.ms.length + [(n, d.next)].length) c3') w hs (by rw [← hD']; show (d.ms ++ [(n, d.next)]).length ≤ _; rw [List.length_append]; simp; omega) (by rw [← hD']; exact fl.f) (by rw [← hD']; exact fl.t)
          rw [hs2, HPQ.out] at cc
          rw [HPQ.out] at ha2
          clear hs2
          subst hD'
          have hag : ArgM w4 (.slice A3 (d.ms.length + [(n, d.next)].length) c3') (d.ms ++ [(n, d.next)]) := ArgM.of_own hown4
          obtain ⟨A4, c4', rfl⟩ := (ha2 _ hag).form
          have HA := Lib.hid ha2
          clear ha2 hag hl
          simp only [List.length_cons, List.length_nil, Nat.zero_add] at cc hown4 HA ⊢
          go_wp2_with fail
          refine (cc _ (ArgM.of_own (base := w.heap.size + 2) (by (repeat' (first | with_reducible assumption | with_reducible refine own_set ?_ ?_ _ | with_reducible refine own_alloc ?_ _ | with_reducible refine own_drew ?_ | omega | (simp; done) | (simp; omega))))).sm).mono ?_
          rintro e w5 ⟨rfl, b5⟩
          have F1 : BoxD (w.heap.size + 1) De.zero (.slice none 0 0) w5 := by
            refine BoxD.keep ?_ b5
            (repeat' (first | with_reducible assumption | with_reducible refine BoxD.other ?_ ?_ _ | with_reducible refine BoxD.alloc ?_ _ | with_reducible refine BoxD.drew ?_ | omega | (simp; done) | (simp; omega)))
          have HO5 : OwnM w5 (w.heap.size + 2) (.slice A3 (d.ms.length + 1) c3') (d.ms ++ [(n, d.next)]) := by
            refine own_keep ?_ b5
            (repeat' (first | with_reducible assumption | with_reducible refine own_set ?_ ?_ _ | with_reducible refine own_alloc ?_ _ | with_reducible refine own_drew ?_ | omega | (simp; done) | (simp; omega)))
          have hb5 : Below w.heap.size w w5 := by
            refine Below.trans (?_ : Below w.heap.size w _) (b5.mono (by simp; omega))
            (repeat' (first | with_reducible assumption | with_reducible exact Below.refl _ _ | with_reducible refine Below.alloc ?_ ?_ _ | with_reducible refine Below.setCell ?_ ?_ _ | with_reducible refine Below.drew ?_ | omega | (simp; done) | (simp; omega)))
          clear o_0 o_1 o_2 o_3 o_4 o_5 o_6 o_7
          obtain ⟨o_0, ⟨o_1, o_2, o_3, o_4, o_5, o_6⟩, o_7⟩ := id F1
          clear b5 Q0 Q1 hown4
          go_wp2_with fail
          refine bodyPost_ret (res_box_tmp Tryz.results96 rfl rfl (BoxD.put F1 p (.slice A4 p.ms.length c4'))) rfl ⟨_, rfl, HA.out _ (ArgM.of_own (base := w.heap.size + 2) ?_), (by (repeat' (first | with_reducible assumption | with_reducible exact Below.refl _ _ | with_reducible refine Below.alloc ?_ ?_ _ | with_reducible refine Below.setCell ?_ ?_ _ | with_reducible refine Below.drew ?_ | omega | (simp; done) | (simp; omega))))⟩
          (repeat' (first | with_reducible assumption | with_reducible refine own_set ?_ ?_ _ | with_reducible refine own_alloc ?_ _ | with_reducible refine own_drew ?_ | omega | (simp; done) | (simp; omega)))
end Go.Proofs.YthcmnkmfhgoddaaGreatDoor.Ds

namespace Go.Proofs.YthcmnkmfhgoddaaGreatDoor.Ds
open Go.RowKit Bnd
open Go.Proofs.YthcmnkmfhgoddaaGreatDoor.O (Bd isB keyB hasB)
abbrev ptr (n : Nat) : Value := .pointer (some ⟨n, 0, none⟩)
structure R8 (W0 : World) (d : De) (L : Nat → Bool) (u : Nat → Value) (wx : World) : Prop where
  b : Below W0.heap.size W0 wx
  o3 : L 3 = true → ∃ s, u 3 = dv d s ∧ OwnM wx W0.heap.size s d.ms ∧ (L 8 = true → ∀ n, u 8 = ptr n → s.ownBlock ≠ some n) ∧ (L 9 = true → ∀ n, u 9 = ptr n → s.ownBlock ≠ some n)
  o7 : L 7 = true → ∃ s, u 7 = dv d s ∧ OwnM wx W0.heap.size s d.ms ∧ (L 8 = true → ∀ n, u 8 = ptr n → s.ownBlock ≠ some n) ∧ (L 9 = true → ∀ n, u 9 = ptr n → s.ownBlock ≠ some n)
  p8 : L 8 = true → ∃ n, u 8 = ptr n ∧ W0.heap.size ≤ n ∧ (∃ d' s', BoxD n d' s' wx) ∧ (L 10 = true → ∀ s, u 3 = dv d s → BoxD n d s wx) ∧ (L 9 = true → u 9 ≠ ptr n)
  p9 : L 9 = true → ∃ n, u 9 = ptr n ∧ W0.heap.size ≤ n ∧ (∃ d' s', BoxD n d' s' wx) ∧ (L 11 = true → ∀ s, u 7 = dv d s → BoxD n d s wx)
theorem R8.start (W0 : World) (d : De) : R8 W0 d (fun _ => false) (fun _ => undef) W0.drew :=
  ⟨(Below.refl _ W0).drew, fun h => (by cases h), fun h => (by cases h), fun h => (by cases h), fun h => (by cases h)⟩
def putW (w : World) (n : Nat) (d : De) (s : Value) : World := (((((w.setCell ⟨n, 0, none⟩ (.int .i64 d.id)).setCell ⟨n, 1, none⟩ (.string d.f)).setCell ⟨n, 2, none⟩ (.string d.t)).setCell ⟨n, 3, none⟩ (.int .i64 d.gen)).setCell ⟨n, 4, none⟩ s).setCell ⟨n, 5, none⟩ (.int .i64 d.next)
theorem putW_below {w w0 : World} {N n : Nat} {d : De} {s : Value} (h : Below N w0 w) (hn : N ≤ n) : Below N w0 (putW w n d s) := by
  unfold putW
  repeat refine Below.setCell ?_ hn _
  exact h
def Gave2 (w : World) (p : De × De × Int) (e : Ending) (w' : World) : Prop := ∃ s' s'', e = .returned (.tuple #[dv p.1 s', dv p.2.1 s'', .int .i64 p.2.2]) ∧ ArgM w' s' p.1.ms ∧ ArgM w' s'' p.2.1.ms ∧ Below w.heap.size w w'
theorem Gave2.zero {w w' : World} {n : Int} (h : Below w.heap.size w w') : Gave2 w (De.zero, De.zero, n) (.returned (.tuple #[dv De.zero (.slice none 0 0), dv De.zero (.slice none 0 0), .int .i64 n])) w' := ⟨_, _, rfl, .nil, .nil, h⟩
end Go.Proofs.YthcmnkmfhgoddaaGreatDoor.Ds
