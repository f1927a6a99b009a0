/-
  The document's Remove. Conditions: a descriptor that is fit.
-/
import Derived.Test.YtlmecfnoipnccaaDoorDsRight
import Derived.Test.YtlmecfnoipnccaaDoorDsAdd
namespace Go.Proofs.YtlmecfnoipnccaaDoor.Ds
open Go.RowKit Bnd

theorem drop_snoc {i : Int} {l : List Mem} {k : Nat} (h : k < l.length) : dropM i (l.take (k + 1)) = dropM i (l.take k) ++ (if l[k].2 ≠ i then [l[k]] else []) := by
  unfold dropM
  rw [List.take_succ_eq_append_getElem h, List.filter_append]
  by_cases he : l[k].2 = i <;> simp [he]
theorem drop_le (i : Int) (l : List Mem) (k : Nat) : (dropM i (l.take k)).length ≤ l.length := by
  unfold dropM
  exact Nat.le_trans (List.length_filter_le _ _) (by simp; omega)

set_option maxHeartbeats 8000000 in
set_option maxRecDepth 100000 in
theorem rremove_any (d : De) (s : Value) (i : Int) (w : World) (hl : ArgM w s d.ms) (fl : Fit d) :
    Calls Tryd.prog 35 #[dv d s, .int .i64 i] w (Gave w (removeD d i)) := by
  obtain ⟨A, c, rfl⟩ := hl.form
  have hn := fl.n
  have ch := fun w h => rhas_any d (.slice A d.ms.length c) i w h (by omega)
  have ci := fun w h => ris_any d (.slice A d.ms.length c) w h fl.f fl.t (by omega)
  have hst : ∀ w1, Below w.heap.size w w1 → SM w1 w1.heap.size (.slice A d.ms.length c) d.ms := fun w1 hb => (hl.keep hb).sm
  obtain ⟨u, v, z, hV, hz⟩ : ∃ (u v : Int) (z : Bool), optV (hasM i d.ms) = .tuple #[.agg #[.int .i64 u, .int .i64 v], .bool z] ∧ z = (hasM i d.ms).isSome := by
    cases h : hasM i d.ms with
    | none => exact ⟨0, 0, false, rfl, rfl⟩
    | some m => exact ⟨m.1, m.2, true, rfl, rfl⟩
  rw [hV] at ch
  clear hV
  cases hd : isD d with
  | false =>
    have hr : removeD d i = (De.zero, 60) := by unfold removeD; rw [if_neg (by simp [hd])]
    rw [hr]
    rw [hd] at ci
    clear hr hd hz
    go_enter Tryd.func35, Tryd.ntmps35
    go_wp2_with fail
    refine (ch _ (hst _ (by (repeat' (first | with_reducible assumption | with_reducible exact Below.refl _ _ | with_reducible refine Below.alloc ?_ ?_ _ | with_reducible refine Below.setCell ?_ ?_ _ | with_reducible refine Below.drew ?_ | omega | (simp; done) | (simp; omega)))))).mono ?_
    rintro e w1 ⟨rfl, b1⟩
    obtain ⟨B0, B1, hb1⟩ := boxes2 d (.slice A d.ms.length c) b1
    obtain ⟨p_0, ⟨p_1, p_2, p_3, p_4, p_5, p_6⟩, p_7⟩ := id B0
    obtain ⟨q_0, ⟨q_1, q_2, q_3, q_4, q_5, q_6⟩, q_7⟩ := id B1
    clear b1
    go_wp2_with fail
    refine (ci _ (hst _ (hb1.alloc hb1.size _))).mono ?_
    rintro e w2 ⟨rfl, b2⟩
    have hb2 : Below w.heap.size w w2 := (hb1.alloc hb1.size _).trans (b2.mono (by have := hb1.size; simp; omega))
    have B1 := (B1.alloc _).keep b2
    clear p_0 p_1 p_2 p_3 p_4 p_5 p_6 p_7
    clear q_0 q_1 q_2 q_3 q_4 q_5 q_6 q_7
    obtain ⟨q_0, ⟨q_1, q_2, q_3, q_4, q_5, q_6⟩, q_7⟩ := id B1
    clear b2 B0
    go_wp2_with fail
    exact bodyPost_ret (res_box_tmp Tryd.results35 rfl rfl (BoxD.put B1 De.zero (.slice none 0 0))) rfl (Gave.zero (by (repeat' (first | with_reducible assumption | with_reducible exact Below.refl _ _ | with_reducible refine Below.alloc ?_ ?_ _ | with_reducible refine Below.setCell ?_ ?_ _ | with_reducible refine Below.drew ?_ | omega | (simp; done) | (simp; omega)))))
  | true =>
    rw [hd] at ci
    have short : ∀ q : Int, (z = false ∧ q = 7 ∨ z = true ∧ d.ms.length = 1 ∧ q = 2) → removeD d i = (De.zero, q) := by
      rintro q (⟨h1, rfl⟩ | ⟨h1, h2, rfl⟩)
      · unfold removeD; rw [if_pos hd, if_neg (by rw [← hz, h1]; simp)]
      · unfold removeD; rw [if_pos hd, if_pos (by rw [← hz, h1]), if_pos h2]
    cases hzz : z with
    | false =>
      rw [short 7 (.inl ⟨hzz, rfl⟩)]
      rw [hzz] at ch
      clear short hz hzz hd
      go_enter Tryd.func35, Tryd.ntmps35
      go_wp2_with fail
      refine (ch _ (hst _ (by (repeat' (first | with_reducible assumption | with_reducible exact Below.refl _ _ | with_reducible refine Below.alloc ?_ ?_ _ | with_reducible refine Below.setCell ?_ ?_ _ | with_reducible refine Below.drew ?_ | omega | (simp; done) | (simp; omega)))))).mono ?_
      rintro e w1 ⟨rfl, b1⟩
      obtain ⟨B0, B1, hb1⟩ := boxes2 d (.slice A d.ms.length c) b1
      obtain ⟨p_0, ⟨p_1, p_2, p_3, p_4, p_5, p_6⟩, p_7⟩ := id B0
      obtain ⟨q_0, ⟨q_1, q_2, q_3, q_4, q_5, q_6⟩, q_7⟩ := id B1
      clear b1
      go_wp2_with fail
      refine (ci _ (hst _ (hb1.alloc hb1.size _))).mono ?_
      rintro e w2 ⟨rfl, b2⟩
      have hb2 : Below w.heap.size w w2 := (hb1.alloc hb1.size _).trans (b2.mono (by have := hb1.size; simp; omega))
      have B1 := (B1.alloc _).keep b2
      have B0 := (B0.alloc _).keep b2
      clear p_0 p_1 p_2 p_3 p_4 p_5 p_6 p_7
      clear q_0 q_1 q_2 q_3 q_4 q_5 q_6 q_7
      obtain ⟨p_0, ⟨p_1, p_2, p_3, p_4, p_5, p_6⟩, p_7⟩ := id B0
      obtain ⟨q_0, ⟨q_1, q_2, q_3, q_4, q_5, q_6⟩, q_7⟩ := id B1
      clear b2
      go_wp2_with fail
      exact bodyPost_ret (res_box_tmp Tryd.results35 rfl rfl (BoxD.put B1 De.zero (.slice none 0 0))) rfl (Gave.zero (by (repeat' (first | with_reducible assumption | with_reducible exact Below.refl _ _ | with_reducible refine Below.alloc ?_ ?_ _ | with_reducible refine Below.setCell ?_ ?_ _ | with_reducible refine Below.drew ?_ | omega | (simp; done) | (simp; omega)))))

    | true =>
      by_cases h1 : d.ms.length = 1
      · rw [short 2 (.inr ⟨hzz, h1, rfl⟩)]
        rw [hzz] at ch
        have e1 : ((d.ms.length : Int) == 1) = true := by simp [h1]
        have e2 : ((d.ms.length : Int) = 1) = True := eq_true (by omega)
        clear short hz hzz hd h1
        go_enter Tryd.func35, Tryd.ntmps35
        go_wp2_with fail
        refine (ch _ (hst _ (by (repeat' (first | with_reducible assumption | with_reducible exact Below.refl _ _ | with_reducible refine Below.alloc ?_ ?_ _ | with_reducible refine Below.setCell ?_ ?_ _ | with_reducible refine Below.drew ?_ | omega | (simp; done) | (simp; omega)))))).mono ?_
        rintro e w1 ⟨rfl, b1⟩
        obtain ⟨B0, B1, hb1⟩ := boxes2 d (.slice A d.ms.length c) b1
        obtain ⟨p_0, ⟨p_1, p_2, p_3, p_4, p_5, p_6⟩, p_7⟩ := id B0
        obtain ⟨q_0, ⟨q_1, q_2, q_3, q_4, q_5, q_6⟩, q_7⟩ := id B1
        clear b1
        go_wp2_with fail
        refine (ci _ (hst _ (hb1.alloc hb1.size _))).mono ?_
        rintro e w2 ⟨rfl, b2⟩
        have hb2 : Below w.heap.size w w2 := (hb1.alloc hb1.size _).trans (b2.mono (by have := hb1.size; simp; omega))
        have B1 := (B1.alloc _).keep b2
        have B0 := (B0.alloc _).keep b2
        clear p_0 p_1 p_2 p_3 p_4 p_5 p_6 p_7
        clear q_0 q_1 q_2 q_3 q_4 q_5 q_6 q_7
        obtain ⟨p_0, ⟨p_1, p_2, p_3, p_4, p_5, p_6⟩, p_7⟩ := id B0
        obtain ⟨q_0, ⟨q_1, q_2, q_3, q_4, q_5, q_6⟩, q_7⟩ := id B1
        clear b2
        go_wp2_with fail
        exact bodyPost_ret (res_box_tmp Tryd.results35 rfl rfl (BoxD.put B1 De.zero (.slice none 0 0))) rfl (Gave.zero (by (repeat' (first | with_reducible assumption | with_reducible exact Below.refl _ _ | with_reducible refine Below.alloc ?_ ?_ _ | with_reducible refine Below.setCell ?_ ?_ _ | with_reducible refine Below.drew ?_ | omega | (simp; done) | (simp; omega)))))

      · have hr : removeD d i = okD { d with ms := dropM i d.ms, gen := d.gen + 1 } := by unfold removeD; rw [if_pos hd, if_pos (by rw [← hz, hzz]), if_neg h1]
        obtain ⟨p, q, hpq⟩ : ∃ p q, removeD d i = (p, q) := ⟨_, _, rfl⟩
        rw [hpq]
        rw [hpq] at hr
        have HR := Lib.hid hr
        have HGN := Lib.hid (isD_gen hd)
        rw [hzz] at ch
        have e1 : ((d.ms.length : Int) == 1) = false := by simp; omega
        have e2 : ((d.ms.length : Int) = 1) = False := eq_false (by omega)
        clear short hz hzz hd h1 hr hpq
        go_enter Tryd.func35, Tryd.ntmps35
        go_wp2_with fail
        refine (ch _ (hst _ (by (repeat' (first | with_reducible assumption | with_reducible exact Below.refl _ _ | with_reducible refine Below.alloc ?_ ?_ _ | with_reducible refine Below.setCell ?_ ?_ _ | with_reducible refine Below.drew ?_ | omega | (simp; done) | (simp; omega)))))).mono ?_
        rintro e w1 ⟨rfl, b1⟩
        obtain ⟨B0, B1, hb1⟩ := boxes2 d (.slice A d.ms.length c) b1
        obtain ⟨p_0, ⟨p_1, p_2, p_3, p_4, p_5, p_6⟩, p_7⟩ := id B0
        obtain ⟨q_0, ⟨q_1, q_2, q_3, q_4, q_5, q_6⟩, q_7⟩ := id B1
        clear b1
        go_wp2_with fail
        refine (ci _ (hst _ (hb1.alloc hb1.size _))).mono ?_
        rintro e w2 ⟨rfl, b2⟩
        have hb2 : Below w.heap.size w w2 := (hb1.alloc hb1.size _).trans (b2.mono (by have := hb1.size; simp; omega))
        have B1 := (B1.alloc _).keep b2
        have B0 := (B0.alloc _).keep b2
        clear p_0 p_1 p_2 p_3 p_4 p_5 p_6 p_7
        clear q_0 q_1 q_2 q_3 q_4 q_5 q_6 q_7
        obtain ⟨p_0, ⟨p_1, p_2, p_3, p_4, p_5, p_6⟩, p_7⟩ := id B0
        obtain ⟨q_0, ⟨q_1, q_2, q_3, q_4, q_5, q_6⟩, q_7⟩ := id B1
        clear b2

        have hlt2 : w.heap.size + 1 < w2.heap.size := B1.1
        go_wp2_with fail
        have hs2 : ArgM w2 (.slice A d.ms.length c) d.ms := hl.keep hb2
        clear p_0 p_1 p_2 p_3 p_4 p_5 p_6 p_7
        clear q_0 q_1 q_2 q_3 q_4 q_5 q_6 q_7
        go_loopw [8, 9] (fun v8 vi wr => ∃ k : Nat, k ≤ d.ms.length ∧ vi = .int .i64 (k : Int) ∧ OwnM wr w2.heap.size v8 (dropM i (d.ms.take k)) ∧ Below w2.heap.size w2 wr) (fun _ vi _ => d.ms.length - (intOf vi).toNat)
        case atStart => exact ⟨0, Nat.zero_le _, rfl, own_nil _ _, Below.refl _ _⟩
        case round =>
          obtain ⟨k, hk, rfl, hown, hbw⟩ := hrel
          have Bd := B0.keep hbw
          obtain ⟨p_0, ⟨p_1, p_2, p_3, p_4, p_5, p_6⟩, p_7⟩ := id Bd
          by_cases hlt : k < d.ms.length
          rotate_left
          · obtain rfl : k = d.ms.length := by omega
            rw [List.take_length] at hown
            obtain ⟨A8, c8, rfl⟩ := (SM.of_own hown).form
            obtain ⟨s', hs', ha'⟩ := okV_spec { d with ms := dropM i d.ms, gen := d.gen + 1 } (.slice A8 (dropM i d.ms).length c8)
            have hdl : (dropM i d.ms).length ≤ 1000 := by have := drop_le i d.ms d.ms.length; rw [List.take_length] at this; omega
            have cc := fun wx h => right_any { d with ms := dropM i d.ms, gen := d.gen + 1 } (.slice A8 (dropM i d.ms).length c8) wx h (by simp only; omega) fl.f fl.t
            rw [hs'] at cc
            rw [← HR.out] at cc ha'
            have ha : ArgM wr (.slice A8 (dropM i d.ms).length c8) (dropM i d.ms) := ArgM.of_own hown
            obtain ⟨A2, c2, rfl⟩ := (ha' _ ha).form
            have HA := Lib.hid ha'
            have HO := Lib.hid hown
            have Bz := B1.keep hbw
            obtain ⟨q_0, ⟨q_1, q_2, q_3, q_4, q_5, q_6⟩, q_7⟩ := id Bz
            obtain ⟨e3, e4⟩ := HGN.out
            have hbr : Below w.heap.size w wr := hb2.trans (hbw.mono hb2.size)
            have hbz := hbw.size
            simp only at cc
            clear hs' ha' ha hown
            go_wp2_with fail
            refine (cc _ (SM.of_own (base := w2.heap.size) ?_)).mono ?_
            · have := HO.out
              (repeat' (first | with_reducible assumption | with_reducible refine own_set ?_ ?_ _ | with_reducible refine own_alloc ?_ _ | with_reducible refine own_drew ?_ | omega | (simp; done) | (simp; omega)))
            rintro e w4 ⟨rfl, b4⟩
            have F1 : BoxD (w.heap.size + 1) De.zero (.slice none 0 0) w4 := BoxD.keep (by (repeat' (first | with_reducible assumption | with_reducible refine BoxD.other ?_ ?_ _ | with_reducible refine BoxD.alloc ?_ _ | with_reducible refine BoxD.drew ?_ | omega | (simp; done) | (simp; omega)))) b4
            have hO4 : OwnM w4 w2.heap.size (.slice A8 (dropM i d.ms).length c8) (dropM i d.ms) := own_keep (by
              have := HO.out
              (repeat' (first | with_reducible assumption | with_reducible refine own_set ?_ ?_ _ | with_reducible refine own_alloc ?_ _ | with_reducible refine own_drew ?_ | omega | (simp; done) | (simp; omega)))) b4
            have hb4 : Below w.heap.size w w4 := (show Below w.heap.size w _ from (by (repeat' (first | with_reducible assumption | with_reducible exact Below.refl _ _ | with_reducible refine Below.alloc ?_ ?_ _ | with_reducible refine Below.setCell ?_ ?_ _ | with_reducible refine Below.drew ?_ | omega | (simp; done) | (simp; omega))))).trans (b4.mono (by have := hbr.size; simp; omega))
            have HO4 := Lib.hid hO4
            clear p_0 p_1 p_2 p_3 p_4 p_5 p_6 p_7
            clear q_0 q_1 q_2 q_3 q_4 q_5 q_6 q_7
            obtain ⟨q_0, ⟨q_1, q_2, q_3, q_4, q_5, q_6⟩, q_7⟩ := id F1
            clear b4 cc hO4
            go_wp2_with fail
            refine bodyPost_ret (res_box_tmp Tryd.results35 rfl rfl (BoxD.put F1 p (.slice A2 p.ms.length c2))) rfl ⟨_, rfl, HA.out _ (ArgM.of_own (base := w2.heap.size) ?_), (by (repeat' (first | with_reducible assumption | with_reducible exact Below.refl _ _ | with_reducible refine Below.alloc ?_ ?_ _ | with_reducible refine Below.setCell ?_ ?_ _ | with_reducible refine Below.drew ?_ | omega | (simp; done) | (simp; omega))))⟩
            show OwnM _ _ _ (dropM i d.ms)
            have := HO4.out
            (repeat' (first | with_reducible assumption | with_reducible refine own_set ?_ ?_ _ | with_reducible refine own_alloc ?_ _ | with_reducible refine own_drew ?_ | omega | (simp; done) | (simp; omega)))
          · obtain ⟨b, o, rfl, hb, m1, m2⟩ := (hs2.sm.below hbw).at_ hlt
            obtain ⟨⟨x, y⟩, hm⟩ : ∃ m, d.ms[k] = m := ⟨_, rfl⟩
            rw [hm] at m1 m2
            simp only at m1 m2
            have hsn := drop_snoc (i := i) hlt
            rw [hm] at hsn
            simp only at hsn
            clear hm
            have hO := Lib.hid hown
            by_cases hy : y = i
            · rw [if_neg (by simp [hy]), List.append_nil] at hsn
              have HS := Lib.hid hsn
              have y1 : (y == i) = true := by simpa using hy
              have y2 : (y = i) = True := eq_true hy
              have y3 : (y != i) = false := by simp [hy]
              clear hsn hy hown
              go_wp2_with fail
              go_roundw
              case rel => exact ⟨k + 1, by omega, by go_num, by rw [HS.out]; exact hO.out, hbw⟩
              case measure => simp [intOf]; omega
            · rw [if_pos hy] at hsn
              have HS := Lib.hid hsn
              have y1 : (y == i) = false := by simpa using hy
              have y2 : (y = i) = False := eq_false hy
              have y3 : (y != i) = true := by simpa using hy
              have hle := drop_le i d.ms k
              have hbz := hbw.size
              clear hsn hy hown
              go_wp2_with (at_builtin; refine wpList_append_ms rfl _ _ rfl w2.heap.size _ (dropM i (d.ms.take k)) rfl (own_alloc hO.out _) (by simp; omega) _ [(x, y)] rfl (arg_one wr (x, y)) (by simp; omega) ?_)
              intro v' w3 hown3 hb3 _
              have hbn : Below w2.heap.size w2 w3 := (hbw.alloc hbz _).trans hb3
              clear hb3
              go_wp2_with fail
              go_roundw
              case rel => exact ⟨k + 1, by omega, by go_num, by rw [HS.out]; exact hown3, hbn⟩
              case measure => simp [intOf]; omega

end Go.Proofs.YtlmecfnoipnccaaDoor.Ds
