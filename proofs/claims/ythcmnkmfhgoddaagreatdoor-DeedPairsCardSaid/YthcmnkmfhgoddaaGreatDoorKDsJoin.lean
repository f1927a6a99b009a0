/-
 Merge and Add, the program's. Condition: at most 1000 members, lengths at most 2^47.
-/
import Derived.Test.YthcmnkmfhgoddaaGreatDoorKDsSMA
namespace Go.Proofs.YthcmnkmfhgoddaaGreatDoor.Ds
open Go.RowKit Bnd
open Go.Proofs.YthcmnkmfhgoddaaGreatDoor.O (Bd isB keyB hasB nextB)
theorem chkD_yes {d : De} (h : isD d = true) : chkD d = 0 := if_pos h
theorem chkD_no {d : De} (h : isD d = false) : chkD d = 60 := by unfold chkD; rw [if_neg (by simp [h])]
theorem BoxD.set12 {n : Nat} {d : De} {s : Value} {w1 : World} (h : BoxD n d s w1) (f t : ByteArray) : BoxD n { d with f := f, t := t } s ((w1.setCell ⟨n, 1, none⟩ (.string f)).setCell ⟨n, 2, none⟩ (.string t)) := by
 obtain ⟨h0, ⟨h1, h2, h3, h4, h5, h6⟩, hf⟩ := h
 refine ⟨by simpa using h0, ⟨?_, ?_, ?_, ?_, ?_, ?_⟩, fun o => by simp [World.frozen?_setCell, hf]⟩
 all_goals simp [go_sem, h1, h2, h3, h4, h5, h6]
theorem BoxD.lt {n : Nat} {d : De} {s : Value} {w1 : World} (h : BoxD n d s w1) : n < w1.heap.size := h.1
theorem boxes3 {w w1 : World} (l : De) (sl : Value) (r : De) (sr : Value)
  (b1 : Below (((w.alloc (.cells #[.int .i64 l.id, .string l.f, .string l.t, .int .i64 l.gen, sl, .int .i64 l.next] 26)).alloc (.cells #[.int .i64 r.id, .string r.f, .string r.t, .int .i64 r.gen, sr, .int .i64 r.next] 26)).alloc (.cells #[.int .i64 0, .string ⟨#[]⟩, .string ⟨#[]⟩, .int .i64 0, .slice none 0 0, .int .i64 0] 26)).heap.size
   (((w.alloc (.cells #[.int .i64 l.id, .string l.f, .string l.t, .int .i64 l.gen, sl, .int .i64 l.next] 26)).alloc (.cells #[.int .i64 r.id, .string r.f, .string r.t, .int .i64 r.gen, sr, .int .i64 r.next] 26)).alloc (.cells #[.int .i64 0, .string ⟨#[]⟩, .string ⟨#[]⟩, .int .i64 0, .slice none 0 0, .int .i64 0] 26)) w1) :
  BoxD w.heap.size l sl w1 /\ BoxD (w.heap.size + 1) r sr w1 /\ BoxD (w.heap.size + 2) De.zero (.slice none 0 0) w1 /\ Below w.heap.size w w1 := by
 have B1 := ((BoxD.new (w.alloc (.cells #[.int .i64 l.id, .string l.f, .string l.t, .int .i64 l.gen, sl, .int .i64 l.next] 26)) r sr).alloc (.cells #[.int .i64 0, .string ⟨#[]⟩, .string ⟨#[]⟩, .int .i64 0, .slice none 0 0, .int .i64 0] 26)).keep b1
 have B2 := (BoxD.zero ((w.alloc (.cells #[.int .i64 l.id, .string l.f, .string l.t, .int .i64 l.gen, sl, .int .i64 l.next] 26)).alloc (.cells #[.int .i64 r.id, .string r.f, .string r.t, .int .i64 r.gen, sr, .int .i64 r.next] 26))).keep b1
 rw [World.size_alloc] at B1
 rw [World.size_alloc, World.size_alloc] at B2
 refine ⟨(((BoxD.new w l sl).alloc _).alloc _).keep b1, B1, B2, (show Below w.heap.size w _ from (by exact Ds.bex1)).trans (b1.mono (by simp; omega))⟩
def Gave (w : World) (p : De × Int) (e : Ending) (w' : World) : Prop := ∃ s', e = .returned (.tuple #[dv p.1 s', .int .i64 p.2]) /\ ArgM w' s' p.1.ms /\ Below w.heap.size w w'
theorem Gave.zero {w w' : World} {n : Int} (h : Below w.heap.size w w') : Gave w (De.zero, n) (.returned (.tuple #[dv De.zero (.slice none 0 0), .int .i64 n])) w' := ⟨_, rfl, .nil, h⟩
theorem isD_gen {d : De} (h : isD d = true) : 1 <= d.gen /\ d.gen <= 1099511627776 := (idB_iff _).1 ((isD_iff d).1 h).2.1
set_option maxHeartbeats 4000000 in
theorem merge_any (l r : De) (sl sr : Value) (w : World) (hl : ArgM w sl l.ms) (hr : ArgM w sr r.ms) (fl : Fit l) (fr : Fit r) :
  Calls Tryz.prog 65 #[dv l sl, dv r sr] w fun e w' => Gave w (mergeD l r) e w' := by
 obtain ⟨Al, cl, rfl⟩ := hl.form
 obtain ⟨Ar, cr, rfl⟩ := hr.form
 have kl : ∀ w1, Below w.heap.size w w1 -> ArgM w1 (.slice Al l.ms.length cl) l.ms := fun w1 hb => hl.keep hb
 have kr : ∀ w1, Below w.heap.size w w1 -> ArgM w1 (.slice Ar r.ms.length cr) r.ms := fun w1 hb => hr.keep hb
 have c1 := fun w hs => check_any l (.slice Al l.ms.length cl) w hs (by have := fl.n; omega) fl.f fl.t
 have c2 := fun w hs => check_any r (.slice Ar r.ms.length cr) w hs (by have := fr.n; omega) fr.f fr.t
 have c3 := fun w => Bnd.join_any l.f l.t r.f r.t w fl.f fl.t fr.f fr.t
 cases h1 : isD l with
 | false =>
  have hr : mergeD l r = (De.zero, 60) := by unfold mergeD; rw [if_neg (by simp [h1])]
  rw [hr]
  rw [chkD_no h1] at c1
  clear hr h1
  go_enter Tryz.func65, Tryz.ntmps65
  go_wp2_with fail
  refine (c1 _ (kl _ (by exact Ds.bex1)).sm).mono ?_
  rintro e w1 ⟨rfl, b1⟩
  have B2 := (BoxD.zero ((w.alloc (.cells #[.int .i64 l.id, .string l.f, .string l.t, .int .i64 l.gen, .slice Al l.ms.length cl, .int .i64 l.next] 26)).alloc (.cells #[.int .i64 r.id, .string r.f, .string r.t, .int .i64 r.gen, .slice Ar r.ms.length cr, .int .i64 r.next] 26))).keep b1
  rw [World.size_alloc, World.size_alloc] at B2
  obtain ⟨p_0, ⟨p_1, p_2, p_3, p_4, p_5, p_6⟩, p_7⟩ := id B2
  have hb : Below w.heap.size w w1 := (show Below w.heap.size w _ from (by exact Ds.bex1)).trans (b1.mono (by simp; omega))
  clear b1
  go_wp2_with fail
  exact bodyPost_ret (res_box_tmp Tryz.results65 rfl rfl (BoxD.put B2 De.zero (.slice none 0 0))) rfl (Gave.zero (by exact Ds.bex1))
 | true =>
  rw [chkD_yes h1] at c1
  cases h2 : isD r with
  | false =>
   have hr : mergeD l r = (De.zero, 60) := by unfold mergeD; rw [if_neg (by simp [h2])]
   rw [hr]
   rw [chkD_no h2] at c2
   clear hr h1 h2
   go_enter Tryz.func65, Tryz.ntmps65
   go_wp2_with fail
   refine (c1 _ (kl _ (by exact Ds.bex1)).sm).mono ?_
   rintro e w1 ⟨rfl, b1⟩
   have B1 := ((BoxD.new (w.alloc (.cells #[.int .i64 l.id, .string l.f, .string l.t, .int .i64 l.gen, .slice Al l.ms.length cl, .int .i64 l.next] 26)) r (.slice Ar r.ms.length cr)).alloc (.cells #[.int .i64 0, .string ⟨#[]⟩, .string ⟨#[]⟩, .int .i64 0, .slice none 0 0, .int .i64 0] 26)).keep b1
   have B2 := (BoxD.zero ((w.alloc (.cells #[.int .i64 l.id, .string l.f, .string l.t, .int .i64 l.gen, .slice Al l.ms.length cl, .int .i64 l.next] 26)).alloc (.cells #[.int .i64 r.id, .string r.f, .string r.t, .int .i64 r.gen, .slice Ar r.ms.length cr, .int .i64 r.next] 26))).keep b1
   rw [World.size_alloc] at B1
   rw [World.size_alloc, World.size_alloc] at B2
   obtain ⟨q_0, ⟨q_1, q_2, q_3, q_4, q_5, q_6⟩, q_7⟩ := id B1
   obtain ⟨p_0, ⟨p_1, p_2, p_3, p_4, p_5, p_6⟩, p_7⟩ := id B2
   have hb : Below w.heap.size w w1 := (show Below w.heap.size w _ from (by exact Ds.bex1)).trans (b1.mono (by simp; omega))
   clear b1
   go_wp2_with fail
   refine (c2 _ (kr _ hb).sm).mono ?_
   rintro e w2 ⟨rfl, b2⟩
   have D2 := B2.keep b2
   clear p_0 p_1 p_2 p_3 p_4 p_5 p_6 p_7
   obtain ⟨p_0, ⟨p_1, p_2, p_3, p_4, p_5, p_6⟩, p_7⟩ := id D2
   have hb2 : Below w.heap.size w w2 := hb.trans (b2.mono hb.size)
   clear b2
   go_wp2_with fail
   exact bodyPost_ret (res_box_tmp Tryz.results65 rfl rfl (BoxD.put D2 De.zero (.slice none 0 0))) rfl (Gave.zero (by exact Ds.bex1))
  | true =>
   rw [chkD_yes h2] at c2
   have hd1 := h1
   have hd2 := h2
   have hj : joinV l.f l.t r.f r.t = if nextB l.b r.b = true then .tuple #[bd l.f r.t, .int .i64 0] else .tuple #[bd E0 E0, .int .i64 20] := rfl
   rw [hj] at c3
   clear hj
   cases h3 : nextB l.b r.b with
   | false =>
    have hr : mergeD l r = (De.zero, 20) := by unfold mergeD; rw [if_pos ⟨h1, h2⟩, if_neg (by simp [h3])]
    rw [hr]
    rw [h3] at c3
    clear hr h1 h2 h3 hd1 hd2
    simp only [Bool.false_eq_true, if_false] at c3
    go_enter Tryz.func65, Tryz.ntmps65
    go_wp2_with fail
    refine (c1 _ (kl _ (by exact Ds.bex1)).sm).mono ?_
    rintro e w1 ⟨rfl, b1⟩
    obtain ⟨B0, B1, B2, hb⟩ := boxes3 l (.slice Al l.ms.length cl) r (.slice Ar r.ms.length cr) b1
    obtain ⟨o_0, ⟨o_1, o_2, o_3, o_4, o_5, o_6⟩, o_7⟩ := id B0
    obtain ⟨q_0, ⟨q_1, q_2, q_3, q_4, q_5, q_6⟩, q_7⟩ := id B1
    obtain ⟨p_0, ⟨p_1, p_2, p_3, p_4, p_5, p_6⟩, p_7⟩ := id B2
    clear b1
    go_wp2_with fail
    refine (c2 _ (kr _ hb).sm).mono ?_
    rintro e w2 ⟨rfl, b2⟩
    have C0 := B0.keep b2
    have C1 := B1.keep b2
    have C2 := B2.keep b2
    clear o_0 o_1 o_2 o_3 o_4 o_5 o_6 o_7
    clear q_0 q_1 q_2 q_3 q_4 q_5 q_6 q_7
    clear p_0 p_1 p_2 p_3 p_4 p_5 p_6 p_7
    obtain ⟨o_0, ⟨o_1, o_2, o_3, o_4, o_5, o_6⟩, o_7⟩ := id C0
    obtain ⟨q_0, ⟨q_1, q_2, q_3, q_4, q_5, q_6⟩, q_7⟩ := id C1
    obtain ⟨p_0, ⟨p_1, p_2, p_3, p_4, p_5, p_6⟩, p_7⟩ := id C2
    have hb2 : Below w.heap.size w w2 := hb.trans (b2.mono hb.size)
    clear b2 B0 B1 B2
    go_wp2_with fail
    refine (c3 _).mono ?_
    rintro e w3 ⟨rfl, b3⟩
    have D2 := C2.keep b3
    clear o_0 o_1 o_2 o_3 o_4 o_5 o_6 o_7
    clear q_0 q_1 q_2 q_3 q_4 q_5 q_6 q_7
    clear p_0 p_1 p_2 p_3 p_4 p_5 p_6 p_7
    obtain ⟨p_0, ⟨p_1, p_2, p_3, p_4, p_5, p_6⟩, p_7⟩ := id D2
    have hb3 : Below w.heap.size w w3 := hb2.trans (b3.mono hb2.size)
    have hz3 := hb3.size
    clear b3 C0 C1 C2
    go_wp2_with fail
    exact bodyPost_ret (res_box_tmp Tryz.results65 rfl rfl ((BoxD.put D2 De.zero (.slice none 0 0)).alloc _)) rfl (Gave.zero (by exact Ds.bex1))
   | true =>
    rw [h3] at c3
    simp only [if_true] at c3
    by_cases h4 : l.id = r.id
    ·have hr : mergeD l r = (De.zero, 2) := by unfold mergeD; rw [if_pos ⟨h1, h2⟩, if_pos h3, if_pos h4]
     rw [hr]
     have n1 : (l.id == r.id) = true := by simpa using h4
     have n2 : (l.id = r.id) = True := eq_true h4
     clear hr h1 h2 h3 hd1 hd2 h4
     go_enter Tryz.func65, Tryz.ntmps65
     go_wp2_with fail
     refine (c1 _ (kl _ (by exact Ds.bex1)).sm).mono ?_
     rintro e w1 ⟨rfl, b1⟩
     obtain ⟨B0, B1, B2, hb⟩ := boxes3 l (.slice Al l.ms.length cl) r (.slice Ar r.ms.length cr) b1
     obtain ⟨o_0, ⟨o_1, o_2, o_3, o_4, o_5, o_6⟩, o_7⟩ := id B0
     obtain ⟨q_0, ⟨q_1, q_2, q_3, q_4, q_5, q_6⟩, q_7⟩ := id B1
     obtain ⟨p_0, ⟨p_1, p_2, p_3, p_4, p_5, p_6⟩, p_7⟩ := id B2
     clear b1
     go_wp2_with fail
     refine (c2 _ (kr _ hb).sm).mono ?_
     rintro e w2 ⟨rfl, b2⟩
     have C0 := B0.keep b2
     have C1 := B1.keep b2
     have C2 := B2.keep b2
     clear o_0 o_1 o_2 o_3 o_4 o_5 o_6 o_7
     clear q_0 q_1 q_2 q_3 q_4 q_5 q_6 q_7
     clear p_0 p_1 p_2 p_3 p_4 p_5 p_6 p_7
     obtain ⟨o_0, ⟨o_1, o_2, o_3, o_4, o_5, o_6⟩, o_7⟩ := id C0
     obtain ⟨q_0, ⟨q_1, q_2, q_3, q_4, q_5, q_6⟩, q_7⟩ := id C1
     obtain ⟨p_0, ⟨p_1, p_2, p_3, p_4, p_5, p_6⟩, p_7⟩ := id C2
     have hb2 : Below w.heap.size w w2 := hb.trans (b2.mono hb.size)
     clear b2 B0 B1 B2
     go_wp2_with fail
     refine (c3 _).mono ?_
     rintro e w3 ⟨rfl, b3⟩
     have D0 := C0.keep b3
     have D1 := C1.keep b3
     have D2 := C2.keep b3
     clear o_0 o_1 o_2 o_3 o_4 o_5 o_6 o_7
     clear q_0 q_1 q_2 q_3 q_4 q_5 q_6 q_7
     clear p_0 p_1 p_2 p_3 p_4 p_5 p_6 p_7
     obtain ⟨o_0, ⟨o_1, o_2, o_3, o_4, o_5, o_6⟩, o_7⟩ := id D0
     obtain ⟨q_0, ⟨q_1, q_2, q_3, q_4, q_5, q_6⟩, q_7⟩ := id D1
     obtain ⟨p_0, ⟨p_1, p_2, p_3, p_4, p_5, p_6⟩, p_7⟩ := id D2
     have hb3 : Below w.heap.size w w3 := hb2.trans (b3.mono hb2.size)
     have hz3 := hb3.size
     clear b3 C0 C1 C2
     go_wp2_with fail
     exact bodyPost_ret (res_box_tmp Tryz.results65 rfl rfl ((BoxD.put D2 De.zero (.slice none 0 0)).alloc _)) rfl (Gave.zero (by exact Ds.bex1))
    ·obtain ⟨D, hD⟩ : ∃ D, ({ l with t := r.t, gen := max l.gen r.gen + 1 } : De) = D := ⟨_, rfl⟩
     have hr : mergeD l r = okD D := by unfold mergeD; rw [if_pos ⟨h1, h2⟩, if_pos h3, if_neg h4, hD]
     obtain ⟨p, q, hpq⟩ : ∃ p q, okD D = (p, q) := ⟨_, _, rfl⟩
     rw [hr, hpq]
     have n1 : (l.id == r.id) = false := by simpa using h4
     have n2 : (l.id = r.id) = False := eq_false h4
     have c4 := fun (g : Int) (hg : g = max l.gen r.gen) w hv => raised_any l (.slice Al l.ms.length cl) g w hv fl.n (by have := isD_gen hd1; have := isD_gen hd2; omega) (by have := isD_gen hd1; have := isD_gen hd2; rw [hg]; omega)
     have HPQ := Lib.hid hpq
     have HD := Lib.hid hD
     clear hr h1 h2 h3 hd1 hd2 h4 hpq hD
     go_enter Tryz.func65, Tryz.ntmps65
     go_wp2_with fail
     refine (c1 _ (kl _ (by exact Ds.bex1)).sm).mono ?_
     rintro e w1 ⟨rfl, b1⟩
     obtain ⟨B0, B1, B2, hb⟩ := boxes3 l (.slice Al l.ms.length cl) r (.slice Ar r.ms.length cr) b1
     obtain ⟨o_0, ⟨o_1, o_2, o_3, o_4, o_5, o_6⟩, o_7⟩ := id B0
     obtain ⟨q_0, ⟨q_1, q_2, q_3, q_4, q_5, q_6⟩, q_7⟩ := id B1
     obtain ⟨p_0, ⟨p_1, p_2, p_3, p_4, p_5, p_6⟩, p_7⟩ := id B2
     clear b1
     go_wp2_with fail
     refine (c2 _ (kr _ hb).sm).mono ?_
     rintro e w2 ⟨rfl, b2⟩
     have C0 := B0.keep b2
     have C1 := B1.keep b2
     have C2 := B2.keep b2
     clear o_0 o_1 o_2 o_3 o_4 o_5 o_6 o_7
     clear q_0 q_1 q_2 q_3 q_4 q_5 q_6 q_7
     clear p_0 p_1 p_2 p_3 p_4 p_5 p_6 p_7
     obtain ⟨o_0, ⟨o_1, o_2, o_3, o_4, o_5, o_6⟩, o_7⟩ := id C0
     obtain ⟨q_0, ⟨q_1, q_2, q_3, q_4, q_5, q_6⟩, q_7⟩ := id C1
     obtain ⟨p_0, ⟨p_1, p_2, p_3, p_4, p_5, p_6⟩, p_7⟩ := id C2
     have hb2 : Below w.heap.size w w2 := hb.trans (b2.mono hb.size)
     clear b2 B0 B1 B2
     go_wp2_with fail
     refine (c3 _).mono ?_
     rintro e w3 ⟨rfl, b3⟩
     have D0 := C0.keep b3
     have D1 := C1.keep b3
     have D2 := C2.keep b3
     clear o_0 o_1 o_2 o_3 o_4 o_5 o_6 o_7
     clear q_0 q_1 q_2 q_3 q_4 q_5 q_6 q_7
     clear p_0 p_1 p_2 p_3 p_4 p_5 p_6 p_7
     obtain ⟨o_0, ⟨o_1, o_2, o_3, o_4, o_5, o_6⟩, o_7⟩ := id D0
     obtain ⟨q_0, ⟨q_1, q_2, q_3, q_4, q_5, q_6⟩, q_7⟩ := id D1
     obtain ⟨p_0, ⟨p_1, p_2, p_3, p_4, p_5, p_6⟩, p_7⟩ := id D2
     have hb3 : Below w.heap.size w w3 := hb2.trans (b3.mono hb2.size)
     have hz3 := hb3.size
     clear b3 C0 C1 C2
     go_wp2_with fail
     all_goals
      refine (c4 _ (by omega) _ ((kl _ hb3).keep ((Below.refl _ w3).alloc (Nat.le_refl _) _))).mono ?_
      rintro e w4 ⟨s', rfl, hown, b4⟩
      obtain ⟨A2, c2', rfl⟩ := (SM.of_own hown).form
      have E2 := (D2.alloc (.cells #[.string l.f, .string r.t] 23)).keep b4
      have x0 : w4.cell? ⟨w3.heap.size, 0, none⟩ = some (.string l.f) := by rw [b4.cell (p := ⟨w3.heap.size, 0, none⟩) (by simp)]; simp [go_sem]
      have x1 : w4.cell? ⟨w3.heap.size, 1, none⟩ = some (.string r.t) := by rw [b4.cell (p := ⟨w3.heap.size, 1, none⟩) (by simp)]; simp [go_sem]
      have hz4 : w3.heap.size < w4.heap.size := by have := b4.size; simp at this; omega
      clear o_0 o_1 o_2 o_3 o_4 o_5 o_6 o_7
      clear q_0 q_1 q_2 q_3 q_4 q_5 q_6 q_7
      clear p_0 p_1 p_2 p_3 p_4 p_5 p_6 p_7
      obtain ⟨p_0, ⟨p_1, p_2, p_3, p_4, p_5, p_6⟩, p_7⟩ := id E2
      have hb4 : Below w.heap.size w w4 := (hb3.alloc hz3 _).trans (b4.mono (by simp; omega))
      have hbz := hb4.size
      have hown1 := own_base (base' := w.heap.size + 3) hown (by have := D2.lt; simp; omega)
      have HO := Lib.hid hown1
      clear b4 hown hown1 D0 D1 D2
      have hD' := HD.out
      obtain ⟨s2, hs2, ha2⟩ := okV_spec D (.slice A2 l.ms.length c2')
      have cc := fun w hs => checked_any D (.slice A2 l.ms.length c2') w hs (by rw [<- hD']; have := fl.n; show l.ms.length <= _; omega) (by rw [<- hD']; exact fl.f) (by rw [<- hD']; exact fr.t)
      rw [hs2, HPQ.out] at cc
      rw [HPQ.out] at ha2
      clear hs2
      first
       | rw [show max l.gen r.gen = l.gen by omega] at hD'
       | rw [show max l.gen r.gen = r.gen by omega] at hD'
       | skip
      subst hD'
      have hag : ArgM w4 (.slice A2 l.ms.length c2') l.ms := ArgM.of_own HO.out
      obtain ⟨A3, c3', rfl⟩ := (ha2 _ hag).form
      have HA := Lib.hid ha2
      have HG := Lib.hid hag
      clear ha2 hag
      simp only at cc
      go_wp2_with fail
      refine (cc _ (HG.out.keep ((Below.refl _ w4).alloc (Nat.le_refl _) _)).sm).mono ?_
      rintro e w5 ⟨rfl, b5⟩
      have F2 := (E2.alloc _).keep b5
      have hb5 : Below w.heap.size w w5 := (hb4.alloc hbz _).trans (b5.mono (by simp; omega))
      have HO5 := Lib.hid (own_keep (own_alloc HO.out _) b5)
      clear p_0 p_1 p_2 p_3 p_4 p_5 p_6 p_7
      obtain ⟨p_0, ⟨p_1, p_2, p_3, p_4, p_5, p_6⟩, p_7⟩ := id F2
      clear b5 E2
      go_wp2_with fail
      refine bodyPost_ret (res_box_tmp Tryz.results65 rfl rfl (BoxD.put F2 p (.slice A3 p.ms.length c3'))) rfl ⟨_, rfl, HA.out _ (ArgM.of_own (base := w.heap.size + 3) ?_), (by exact Ds.bex1)⟩
      have := HO5.out
      (repeat' (first | with_reducible assumption | with_reducible refine own_set ?_ ?_ _ | with_reducible refine own_alloc ?_ _ | with_reducible refine own_drew ?_ | omega | (simp; done) | (simp; omega)))
end Go.Proofs.YthcmnkmfhgoddaaGreatDoor.Ds
