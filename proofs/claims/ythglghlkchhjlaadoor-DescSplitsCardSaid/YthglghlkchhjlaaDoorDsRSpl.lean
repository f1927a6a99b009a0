/-
  The document's Split. Conditions: lengths at most 2^47.
-/
import Derived.Test.YthglghlkchhjlaaDoorDsRight
import Derived.Test.YthglghlkchhjlaaDoorDsSplit
import Derived.Test.YthglghlkchhjlaaDoorBndA
namespace Go.Proofs.YthglghlkchhjlaaDoor.Ds
open Go.RowKit Bnd
open Go.Proofs.YthglghlkchhjlaaDoor.O (Bd isB keyB hasB nextB)

/-- region 8: two boxes, made in any order, each with the descriptor -/
structure RS (W0 : World) (d : De) (s : Value) (L : Nat → Bool) (u : Nat → Value) (wx : World) : Prop where
  b : Below W0.heap.size W0 wx
  p : L 2 = true → ∃ n, u 2 = ptr n ∧ W0.heap.size ≤ n ∧ (∃ d' s', BoxD n d' s' wx) ∧ (L 4 = true → BoxD n d s wx) ∧ (L 3 = true → u 3 ≠ ptr n)
  q : L 3 = true → ∃ n, u 3 = ptr n ∧ W0.heap.size ≤ n ∧ (∃ d' s', BoxD n d' s' wx) ∧ (L 5 = true → BoxD n d s wx)
theorem RS.two {W0 wx : World} {d : De} {s : Value} {L : Nat → Bool} {u : Nat → Value} (h : RS W0 d s L u wx) (h4 : L 4 = false) :
    RS W0 d s (St.mark L 2) (St.upd u 2 (ptr wx.heap.size)) (wx.alloc (.cells #[.int .i64 0, .string ⟨#[]⟩, .string ⟨#[]⟩, .int .i64 0, .slice none 0 0, .int .i64 0] 26)) := by
  have f3 : St.upd u 2 (ptr wx.heap.size) 3 = u 3 := by simp [St.upd]
  refine ⟨h.b.alloc h.b.size _, fun _ => ⟨wx.heap.size, by simp [St.upd], h.b.size, ⟨_, _, BoxD.zero wx⟩, fun h' => ?_, fun h3 => ?_⟩, fun h3 => ?_⟩
  · rw [show St.mark L 2 4 = L 4 from rfl, h4] at h'; cases h'
  · rw [f3]
    obtain ⟨n, e, _, ⟨_, _, hB⟩, _⟩ := h.q h3
    rw [e]
    intro e'
    have := ptr_inj e'
    have := hB.1
    omega
  · obtain ⟨n, e, e2, ⟨d', s', hB⟩, e5⟩ := h.q h3
    exact ⟨n, f3.trans e, e2, ⟨d', s', hB.alloc _⟩, fun h5 => (e5 h5).alloc _⟩
theorem RS.three {W0 wx : World} {d : De} {s : Value} {L : Nat → Bool} {u : Nat → Value} (h : RS W0 d s L u wx) (h5 : L 5 = false) :
    RS W0 d s (St.mark L 3) (St.upd u 3 (ptr wx.heap.size)) (wx.alloc (.cells #[.int .i64 0, .string ⟨#[]⟩, .string ⟨#[]⟩, .int .i64 0, .slice none 0 0, .int .i64 0] 26)) := by
  have f2 : St.upd u 3 (ptr wx.heap.size) 2 = u 2 := by simp [St.upd]
  refine ⟨h.b.alloc h.b.size _, fun h2 => ?_, fun _ => ⟨wx.heap.size, by simp [St.upd], h.b.size, ⟨_, _, BoxD.zero wx⟩, fun h' => ?_⟩⟩
  · obtain ⟨n, e, e2, ⟨d', s', hB⟩, e4, _⟩ := h.p h2
    refine ⟨n, f2.trans e, e2, ⟨d', s', hB.alloc _⟩, fun h4 => (e4 h4).alloc _, fun _ e' => ?_⟩
    have e' : ptr wx.heap.size = ptr n := by simpa [St.upd] using e'
    have := ptr_inj e'
    have := hB.1
    omega
  · rw [show St.mark L 3 5 = L 5 from rfl, h5] at h'; cases h'
theorem RS.four {W0 wx : World} {d : De} {s : Value} {L : Nat → Bool} {u : Nat → Value} (h : RS W0 d s L u wx) {n : Nat} (h2 : L 2 = true) (hu : u 2 = ptr n) :
    RS W0 d s (St.mark L 4) (St.upd u 4 undef) (putW wx n d s) := by
  obtain ⟨n', e, e2, ⟨d', s', hB⟩, _, e3⟩ := h.p h2
  obtain rfl := ptr_inj (e.symm.trans hu)
  refine ⟨putW_below h.b e2, fun _ => ⟨n', by simp [St.upd, e], e2, ⟨_, _, BoxD.put hB d s⟩, fun _ => BoxD.put hB d s, fun h3 => by simpa [St.upd] using e3 h3⟩, fun h3 => ?_⟩
  obtain ⟨m, g1, g2, ⟨_, _, g3⟩, g4⟩ := h.q h3
  have hne : n' ≠ m := fun e' => e3 h3 (by rw [g1, e'])
  exact ⟨m, by simp [St.upd, g1], g2, ⟨_, _, putW_box g3 hne⟩, fun h5 => putW_box (g4 h5) hne⟩
theorem RS.five {W0 wx : World} {d : De} {s : Value} {L : Nat → Bool} {u : Nat → Value} (h : RS W0 d s L u wx) {n : Nat} (h3 : L 3 = true) (hu : u 3 = ptr n) :
    RS W0 d s (St.mark L 5) (St.upd u 5 undef) (putW wx n d s) := by
  obtain ⟨n', e, e2, ⟨d', s', hB⟩, _⟩ := h.q h3
  obtain rfl := ptr_inj (e.symm.trans hu)
  refine ⟨putW_below h.b e2, fun h2 => ?_, fun _ => ⟨n', by simp [St.upd, e], e2, ⟨_, _, BoxD.put hB d s⟩, fun _ => BoxD.put hB d s⟩⟩
  obtain ⟨m, g1, g2, ⟨_, _, g3⟩, g4, g5⟩ := h.p h2
  have hne : n' ≠ m := fun e' => g5 h3 (by rw [e, e'])
  exact ⟨m, by simp [St.upd, g1], g2, ⟨_, _, putW_box g3 hne⟩, fun h5 => putW_box (g4 h5) hne, fun h3 => by simpa [St.upd] using g5 h3⟩

/-! ### parts of a box are written -/
theorem BoxD.bound {n : Nat} {d : De} {s : Value} {w : World} (h : BoxD n d s w) (f t : ByteArray) : BoxD n { d with f := f, t := t } s ((w.setCell ⟨n, 1, none⟩ (.string f)).setCell ⟨n, 2, none⟩ (.string t)) := by
  obtain ⟨h0, ⟨h1, h2, h3, h4, h5, h6⟩, hf⟩ := h
  refine ⟨by simpa using h0, ⟨?_, ?_, ?_, ?_, ?_, ?_⟩, fun o => by simp [World.frozen?_setCell, hf]⟩
  all_goals simp [go_sem, h1, h2, h3, h4, h5, h6]
theorem BoxD.gen {n : Nat} {d : De} {s : Value} {w : World} (h : BoxD n d s w) (g : Int) : BoxD n { d with gen := g } s (w.setCell ⟨n, 3, none⟩ (.int .i64 g)) := by
  obtain ⟨h0, ⟨h1, h2, h3, h4, h5, h6⟩, hf⟩ := h
  refine ⟨by simpa using h0, ⟨?_, ?_, ?_, ?_, ?_, ?_⟩, fun o => by simp [World.frozen?_setCell, hf]⟩
  all_goals simp [go_sem, h1, h2, h3, h4, h5, h6]
theorem BoxD.number {n : Nat} {d : De} {s : Value} {w : World} (h : BoxD n d s w) (g : Int) : BoxD n { d with id := g } s (w.setCell ⟨n, 0, none⟩ (.int .i64 g)) := by
  obtain ⟨h0, ⟨h1, h2, h3, h4, h5, h6⟩, hf⟩ := h
  refine ⟨by simpa using h0, ⟨?_, ?_, ?_, ?_, ?_, ?_⟩, fun o => by simp [World.frozen?_setCell, hf]⟩
  all_goals simp [go_sem, h1, h2, h3, h4, h5, h6]
/-- regions 9 and 10: two boxes, whatever stands in them by now -/
structure RT (N : Nat) (W : World) (n8 n9 : Nat) (x y : De) (s : Value) (wx : World) : Prop where
  b : Below N W wx
  x : BoxD n8 x s wx
  y : BoxD n9 y s wx
def left9 (d : De) (k : ByteArray) (a b : Bool) : De := ⟨d.id, d.f, bif a then k else d.t, bif b then d.gen + 1 else d.gen, d.ms, d.next⟩
def right10 (d : De) (k : ByteArray) (n : Int) (a b c : Bool) : De := ⟨bif a then n else d.id, bif b then k else d.f, d.t, bif c then d.gen + 1 else d.gen, d.ms, d.next⟩

set_option maxHeartbeats 8000000 in
set_option maxRecDepth 100000 in
theorem rsplit_any (d : De) (s : Value) (k : ByteArray) (n : Int) (w : World) (hl : ArgM w s d.ms) (fl : Fit d) (hk : k.size ≤ 140737488355328) :
    Calls Tryd.prog 26 #[dv d s, .string k, .int .i64 n] w fun e w' => Gave2 w (splitD d k n) e w' := by
  obtain ⟨A, c, rfl⟩ := hl.form
  have kl : ∀ w1, Below w.heap.size w w1 → ArgM w1 (.slice A d.ms.length c) d.ms := fun w1 hb => hl.keep hb
  have c1 := fun w hs => ris_any d (.slice A d.ms.length c) w hs fl.f fl.t (by have := fl.n; omega)
  have c2 := fun w => Bnd.rcut_any d.f d.t k w fl.f fl.t hk
  have hcv : cutV d.f d.t k = if cutsB d.b k.toList = true then .tuple #[bd d.f k, bd k d.t, .int .i64 0] else .tuple #[bd E0 E0, bd E0 E0, .int .i64 20] := rfl
  rw [hcv] at c2
  clear hcv
  cases h1 : isD d with
  | false =>
    have hr : splitD d k n = (De.zero, De.zero, 60) := by unfold splitD; rw [if_neg (by simp [h1])]
    rw [hr]
    rw [h1] at c1
    clear hr h1
    go_enter Tryd.func26, Tryd.ntmps26
    go_wp2_with fail
    refine (c1 _ (kl _ (by (repeat' (first | with_reducible assumption | with_reducible exact Below.refl _ _ | with_reducible refine Below.alloc ?_ ?_ _ | with_reducible refine Below.setCell ?_ ?_ _ | with_reducible refine Below.drew ?_ | omega | (simp; done) | (simp; omega))))).sm).mono ?_
    rintro e w1 ⟨rfl, b1⟩
    obtain ⟨B0, B1, B2, hb⟩ := boxes4 d (.slice A d.ms.length c) b1
    clear b1
    obtain ⟨p_0, ⟨p_1, p_2, p_3, p_4, p_5, p_6⟩, p_7⟩ := id B1
    obtain ⟨q_0, ⟨q_1, q_2, q_3, q_4, q_5, q_6⟩, q_7⟩ := id B2
    go_wp2_with fail
    exact bodyPost_ret (put2_fin _ _ _ _ _ _ B1 B2 (by omega) De.zero De.zero (.slice none 0 0) (.slice none 0 0) Tryd.results26 rfl rfl rfl) rfl (Gave2.zero (by (repeat' (first | with_reducible assumption | with_reducible exact Below.refl _ _ | with_reducible refine Below.alloc ?_ ?_ _ | with_reducible refine Below.setCell ?_ ?_ _ | with_reducible refine Below.drew ?_ | omega | (simp; done) | (simp; omega)))))
  | true =>
    have c0 := c1
    rw [h1] at c1
    cases h2 : cutsB d.b k.toList with
    | false =>
      have hr : splitD d k n = (De.zero, De.zero, 20) := by unfold splitD; rw [if_pos h1, if_neg (by simp [h2])]
      rw [hr]
      rw [h2] at c2
      simp only [Bool.false_eq_true, if_false] at c2
      clear hr h1 h2 c0
      go_enter Tryd.func26, Tryd.ntmps26
      go_wp2_with fail
      refine (c1 _ (kl _ (by (repeat' (first | with_reducible assumption | with_reducible exact Below.refl _ _ | with_reducible refine Below.alloc ?_ ?_ _ | with_reducible refine Below.setCell ?_ ?_ _ | with_reducible refine Below.drew ?_ | omega | (simp; done) | (simp; omega))))).sm).mono ?_
      rintro e w1 ⟨rfl, b1⟩
      obtain ⟨B0, B1, B2, hb⟩ := boxes4 d (.slice A d.ms.length c) b1
      clear b1
      obtain ⟨o_0, ⟨o_1, o_2, o_3, o_4, o_5, o_6⟩, o_7⟩ := id B0
      go_wp2_with fail
      refine (c2 _).mono ?_
      rintro e w2 ⟨rfl, b2⟩
      have C0 := B0.keep b2
      have C1 := B1.keep b2
      have C2 := B2.keep b2
      have hb2 : Below w.heap.size w w2 := hb.trans (b2.mono hb.size)
      have hz2 := hb2.size
      have hl1 : w.heap.size < w2.heap.size := by have := C2.1; omega
      have hl2 : w.heap.size + 1 < w2.heap.size := C1.1
      clear o_0 o_1 o_2 o_3 o_4 o_5 o_6 o_7
      clear b2 B0 B1 B2
      obtain ⟨p_0, ⟨p_1, p_2, p_3, p_4, p_5, p_6⟩, p_7⟩ := id C1
      obtain ⟨q_0, ⟨q_1, q_2, q_3, q_4, q_5, q_6⟩, q_7⟩ := id C2
      go_wp2_with fail
      exact bodyPost_ret (put2_fin2 _ _ _ _ _ _ _ _ C1 C2 (by omega) De.zero De.zero (.slice none 0 0) (.slice none 0 0) Tryd.results26 rfl rfl rfl) rfl (Gave2.zero (by (repeat' (first | with_reducible assumption | with_reducible exact Below.refl _ _ | with_reducible refine Below.alloc ?_ ?_ _ | with_reducible refine Below.setCell ?_ ?_ _ | with_reducible refine Below.drew ?_ | omega | (simp; done) | (simp; omega)))))
    | true =>
      rw [h2] at c2
      simp only [if_true] at c2
      by_cases h3 : n ≤ d.id
      · have hr : splitD d k n = (De.zero, De.zero, 2) := by unfold splitD; rw [if_pos h1, if_pos h2, if_pos h3]
        rw [hr]
        have n1 : (n ≤ d.id) = True := eq_true h3
        clear hr h1 h2 h3 c0
        go_enter Tryd.func26, Tryd.ntmps26
        go_wp2_with fail
        refine (c1 _ (kl _ (by (repeat' (first | with_reducible assumption | with_reducible exact Below.refl _ _ | with_reducible refine Below.alloc ?_ ?_ _ | with_reducible refine Below.setCell ?_ ?_ _ | with_reducible refine Below.drew ?_ | omega | (simp; done) | (simp; omega))))).sm).mono ?_
        rintro e w1 ⟨rfl, b1⟩
        obtain ⟨B0, B1, B2, hb⟩ := boxes4 d (.slice A d.ms.length c) b1
        clear b1
        obtain ⟨o_0, ⟨o_1, o_2, o_3, o_4, o_5, o_6⟩, o_7⟩ := id B0
        go_wp2_with fail
        refine (c2 _).mono ?_
        rintro e w2 ⟨rfl, b2⟩
        have C0 := B0.keep b2
        have C1 := B1.keep b2
        have C2 := B2.keep b2
        have hb2 : Below w.heap.size w w2 := hb.trans (b2.mono hb.size)
        have hz2 := hb2.size
        have hl1 : w.heap.size < w2.heap.size := by have := C2.1; omega
        have hl2 : w.heap.size + 1 < w2.heap.size := C1.1
        clear o_0 o_1 o_2 o_3 o_4 o_5 o_6 o_7
        clear b2 B0 B1 B2
        obtain ⟨o_0, ⟨o_1, o_2, o_3, o_4, o_5, o_6⟩, o_7⟩ := id C0
        obtain ⟨p_0, ⟨p_1, p_2, p_3, p_4, p_5, p_6⟩, p_7⟩ := id C1
        obtain ⟨q_0, ⟨q_1, q_2, q_3, q_4, q_5, q_6⟩, q_7⟩ := id C2
        go_wp2_with fail
        exact bodyPost_ret (put2_fin2 _ _ _ _ _ _ _ _ C1 C2 (by omega) De.zero De.zero (.slice none 0 0) (.slice none 0 0) Tryd.results26 rfl rfl rfl) rfl (Gave2.zero (by (repeat' (first | with_reducible assumption | with_reducible exact Below.refl _ _ | with_reducible refine Below.alloc ?_ ?_ _ | with_reducible refine Below.setCell ?_ ?_ _ | with_reducible refine Below.drew ?_ | omega | (simp; done) | (simp; omega)))))
      · have n1 : (n ≤ d.id) = False := eq_false h3
        have hgen := isD_gen h1
        have hgw : IntKind.i64.wrap (d.gen + 1) = d.gen + 1 := by rw [IntKind.wrap_i64] <;> omega
        have HGW := Lib.hid hgw
        obtain ⟨L, hL⟩ : ∃ L, ({ d with t := k, gen := d.gen + 1 } : De) = L := ⟨_, rfl⟩
        obtain ⟨R, hR⟩ : ∃ R, ({ d with f := k, gen := d.gen + 1, id := n } : De) = R := ⟨_, rfl⟩
        obtain ⟨ans, hans⟩ : ∃ ans, splitD d k n = ans := ⟨_, rfl⟩
        have hr : ans = if isD L = true ∧ isD R = true then (L, R, 0) else (De.zero, De.zero, 60) := by rw [← hans, ← hL, ← hR]; unfold splitD; rw [if_pos h1, if_pos h2, if_neg h3]
        rw [hans]
        have cL : ∀ wx, ArgM wx (.slice A d.ms.length c) d.ms → Calls Tryd.prog 19 #[dv L (.slice A d.ms.length c)] wx fun e w' => e = .returned (.bool (isD L)) ∧ Below wx.heap.size wx w' := by
          intro wx h
          have hm : L.ms = d.ms := by rw [← hL]
          have := ris_any L (.slice A d.ms.length c) wx (by rw [hm]; exact h.sm) (by rw [← hL]; exact fl.f) (by rw [← hL]; exact hk) (by rw [hm]; have := fl.n; omega)
          exact this
        have cR : ∀ wx, ArgM wx (.slice A d.ms.length c) d.ms → Calls Tryd.prog 19 #[dv R (.slice A d.ms.length c)] wx fun e w' => e = .returned (.bool (isD R)) ∧ Below wx.heap.size wx w' := by
          intro wx h
          have hm : R.ms = d.ms := by rw [← hR]
          have := ris_any R (.slice A d.ms.length c) wx (by rw [hm]; exact h.sm) (by rw [← hR]; exact hk) (by rw [← hR]; exact fl.t) (by rw [hm]; have := fl.n; omega)
          exact this
        have HR := Lib.hid hr
        have HL := Lib.hid hL
        have HRR := Lib.hid hR
        clear hr h1 h2 h3 hans hL hR hgen hgw c0
        go_enter Tryd.func26, Tryd.ntmps26
        go_wp2_with fail
        refine (c1 _ (kl _ (by (repeat' (first | with_reducible assumption | with_reducible exact Below.refl _ _ | with_reducible refine Below.alloc ?_ ?_ _ | with_reducible refine Below.setCell ?_ ?_ _ | with_reducible refine Below.drew ?_ | omega | (simp; done) | (simp; omega))))).sm).mono ?_
        rintro e w1 ⟨rfl, b1⟩
        obtain ⟨B0, B1, B2, hb⟩ := boxes4 d (.slice A d.ms.length c) b1
        clear b1
        obtain ⟨o_0, ⟨o_1, o_2, o_3, o_4, o_5, o_6⟩, o_7⟩ := id B0
        go_wp2_with fail
        refine (c2 _).mono ?_
        rintro e w2 ⟨rfl, b2⟩
        have C0 := B0.keep b2
        have C1 := B1.keep b2
        have C2 := B2.keep b2
        have hb2 : Below w.heap.size w w2 := hb.trans (b2.mono hb.size)
        have hz2 := hb2.size
        have hl1 : w.heap.size < w2.heap.size := by have := C2.1; omega
        have hl2 : w.heap.size + 1 < w2.heap.size := C1.1
        clear o_0 o_1 o_2 o_3 o_4 o_5 o_6 o_7
        obtain ⟨o_0, ⟨o_1, o_2, o_3, o_4, o_5, o_6⟩, o_7⟩ := id C0
        clear b2 B0 B1 B2
        go_wp2_with fail
        obtain ⟨W0, hW0⟩ : ∃ W0, (w2.alloc (.cells #[.string d.f, .string k] 23)).alloc (.cells #[.string k, .string d.t] 23) = W0 := ⟨_, rfl⟩
        have hb0 : Below w2.heap.size w2 W0 := hW0 ▸ (by (repeat' (first | with_reducible assumption | with_reducible exact Below.refl _ _ | with_reducible refine Below.alloc ?_ ?_ _ | with_reducible refine Below.setCell ?_ ?_ _ | with_reducible refine Below.drew ?_ | omega | (simp; done) | (simp; omega))))
        have hw0 : Below w.heap.size w W0 := hb2.trans (hb0.mono hz2)
        have hz0 := hw0.size
        have D0 := C0.kept (N := w2.heap.size) C0.1 hb0
        have D1 := C1.kept (N := w2.heap.size) C1.1 hb0
        have D2 := C2.kept (N := w2.heap.size) C2.1 hb0
        have x0 : W0.cell? ⟨w2.heap.size, 0, none⟩ = some (.string d.f) := by rw [← hW0]; simp [go_sem]
        have x1 : W0.cell? ⟨w2.heap.size, 1, none⟩ = some (.string k) := by rw [← hW0]; simp [go_sem]
        have x2 : W0.cell? ⟨w2.heap.size + 1, 0, none⟩ = some (.string k) := by rw [← hW0]; simp [go_sem]
        have x3 : W0.cell? ⟨w2.heap.size + 1, 1, none⟩ = some (.string d.t) := by rw [← hW0]; simp [go_sem]
        have hzz : W0.heap.size = w2.heap.size + 2 := by rw [← hW0]; simp
        rw [hW0]
        clear o_0 o_1 o_2 o_3 o_4 o_5 o_6 o_7
        clear hW0 C0 C1 C2
        refine St.wp_region_mixed (RS W0 d (.slice A d.ms.length c)) (fun _ _ => False) (by kernel_rfl) (by kernel_rfl) (by kernel_rfl) ⟨(Below.refl _ _).drew, fun h => (by cases h), fun h => (by cases h)⟩ ?_
        apply St.mix_give
        · rfl
        · intro L u' wx hS hcl hrd hag
          obtain ⟨j0, ⟨j1, j2, j3, j4, j5, j6⟩, j7⟩ := D0.keep hS.b
          go_simp
          try with_reducible rfl
        · exact fun L u' wx hS => ⟨hS.b, hS.p, hS.q⟩
        simp only [Act.put, List.setIfInBounds_toArray, List.set_cons_zero, List.set_cons_succ]
        apply St.mix_give
        · rfl
        · intro L u' wx hS hcl hrd hag
          obtain ⟨j0, ⟨j1, j2, j3, j4, j5, j6⟩, j7⟩ := D0.keep hS.b
          go_simp
          try with_reducible rfl
        · exact fun L u' wx hS => ⟨hS.b, hS.p, hS.q⟩
        simp only [Act.put, List.setIfInBounds_toArray, List.set_cons_zero, List.set_cons_succ]
        refine St.mix_free (fun x => ∃ n, x = ptr n) rfl ?_ ?_
        · intro L u' wx hS hcl hrd hag
          refine ⟨_, _, ⟨wx.heap.size, rfl⟩, ?_, hS.two (St.not_yet hcl hrd 40 4 (by kernel_rfl))⟩
          go_simp
          try with_reducible rfl
        rintro y ⟨n8, rfl⟩
        simp only [Act.put, List.setIfInBounds_toArray, List.set_cons_zero, List.set_cons_succ]
        refine St.mix_free (fun x => ∃ n, x = ptr n) rfl ?_ ?_
        · intro L u' wx hS hcl hrd hag
          refine ⟨_, _, ⟨wx.heap.size, rfl⟩, ?_, hS.three (St.not_yet hcl hrd 40 5 (by kernel_rfl))⟩
          go_simp
          try with_reducible rfl
        rintro y ⟨n9, rfl⟩
        simp only [Act.put, List.setIfInBounds_toArray, List.set_cons_zero, List.set_cons_succ]
        refine St.mix_skip rfl ?_ ?_
        · intro L u' wx hS hcl hrd hag
          have hu : u' 2 = ptr n8 := hag 40 2 (by kernel_rfl)
          have h2 := St.before_ready hcl hrd 40 2 (by kernel_rfl)
          obtain ⟨n', e8, hN, ⟨d', s', hB⟩, _⟩ := hS.p h2
          obtain rfl := ptr_inj (e8.symm.trans hu)
          obtain ⟨j0, ⟨j1, j2, j3, j4, j5, j6⟩, j7⟩ := id hB
          refine ⟨_, ?_, hS.four h2 hu⟩
          unfold putW
          go_simp
          try with_reducible rfl
        simp only [Act.put]
        refine St.mix_skip rfl ?_ ?_
        · intro L u' wx hS hcl hrd hag
          have hu : u' 3 = ptr n9 := hag 40 3 (by kernel_rfl)
          have h2 := St.before_ready hcl hrd 40 3 (by kernel_rfl)
          obtain ⟨n', e8, hN, ⟨d', s', hB⟩, _⟩ := hS.q h2
          obtain rfl := ptr_inj (e8.symm.trans hu)
          obtain ⟨j0, ⟨j1, j2, j3, j4, j5, j6⟩, j7⟩ := id hB
          refine ⟨_, ?_, hS.five h2 hu⟩
          unfold putW
          go_simp
          try with_reducible rfl
        simp only [Act.put]
        refine St.mix_last ?_
        intro L5 wx hS hall
        obtain ⟨n8', e8, hN8, _, E8, h89⟩ := hS.p (hall 2 (by decide))
        obtain rfl : n8 = n8' := ptr_inj (show ptr n8 = ptr n8' from e8)
        obtain ⟨n9', e9, hN9, _, E9⟩ := hS.q (hall 3 (by decide))
        obtain rfl : n9 = n9' := ptr_inj (show ptr n9 = ptr n9' from e9)
        have E8 := E8 (hall 4 (by decide))
        have E9 := E9 (hall 5 (by decide))
        have hne : n8 ≠ n9 := fun e => h89 (hall 3 (by decide)) (by rw [e]; rfl)
        have bx := hS.b
        clear hS hall e8 e9 h89
        have hs0 : RT W0.heap.size W0 n8 n9 (left9 d k false false) d (.slice A d.ms.length c) wx := ⟨bx, E8, E9⟩
        have hD0 : ∀ wy, Below W0.heap.size W0 wy → BoxD w.heap.size d (.slice A d.ms.length c) wy := fun wy h => D0.keep h
        have hX : ∀ wy, Below W0.heap.size W0 wy → wy.cell? ⟨w2.heap.size, 0, none⟩ = some (.string d.f) ∧ wy.cell? ⟨w2.heap.size, 1, none⟩ = some (.string k) ∧ wy.cell? ⟨w2.heap.size + 1, 0, none⟩ = some (.string k) ∧ wy.cell? ⟨w2.heap.size + 1, 1, none⟩ = some (.string d.t) := fun wy h =>
          ⟨(h.cell (p := ⟨w2.heap.size, 0, none⟩) (show w2.heap.size < W0.heap.size by omega)).trans x0, (h.cell (p := ⟨w2.heap.size, 1, none⟩) (show w2.heap.size < W0.heap.size by omega)).trans x1, (h.cell (p := ⟨w2.heap.size + 1, 0, none⟩) (show w2.heap.size + 1 < W0.heap.size by omega)).trans x2, (h.cell (p := ⟨w2.heap.size + 1, 1, none⟩) (show w2.heap.size + 1 < W0.heap.size by omega)).trans x3⟩
        clear E8 E9 bx x0 x1 x2 x3
        go_wp2_with fail
        refine St.wp_region_mixed (fun L _ wy => RT W0.heap.size W0 n8 n9 (left9 d k (L 5) (L 7)) d (.slice A d.ms.length c) wy) (fun _ _ => False) (by kernel_rfl) (by kernel_rfl) (by kernel_rfl) ⟨hs0.b.drew, hs0.x.drew, hs0.y.drew⟩ ?_
        apply St.mix_give
        · rfl
        · intro L u' wx hS hcl hrd hag
          obtain ⟨j0, ⟨j1, j2, j3, j4, j5, j6⟩, j7⟩ := hD0 wx hS.b
          obtain ⟨x0, x1, x2, x3⟩ := hX wx hS.b
          go_simp
          try with_reducible rfl
        · exact fun L u' wx hS => ⟨hS.b, hS.x, hS.y⟩
        simp only [Act.put, List.setIfInBounds_toArray, List.set_cons_zero, List.set_cons_succ]
        apply St.mix_give
        · rfl
        · intro L u' wx hS hcl hrd hag
          go_simp
          try with_reducible rfl
        · exact fun L u' wx hS => ⟨hS.b, hS.x, hS.y⟩
        simp only [Act.put, List.setIfInBounds_toArray, List.set_cons_zero, List.set_cons_succ]
        apply St.mix_give
        · rfl
        · intro L u' wx hS hcl hrd hag
          obtain ⟨j0, ⟨j1, j2, j3, j4, j5, j6⟩, j7⟩ := hD0 wx hS.b
          obtain ⟨x0, x1, x2, x3⟩ := hX wx hS.b
          go_simp
          try with_reducible rfl
        · exact fun L u' wx hS => ⟨hS.b, hS.x, hS.y⟩
        simp only [Act.put, List.setIfInBounds_toArray, List.set_cons_zero, List.set_cons_succ]
        apply St.mix_give
        · rfl
        · intro L u' wx hS hcl hrd hag
          have hgw := HGW.out
          go_simp
          try with_reducible rfl
        · exact fun L u' wx hS => ⟨hS.b, hS.x, hS.y⟩
        simp only [Act.put, List.setIfInBounds_toArray, List.set_cons_zero, List.set_cons_succ]
        apply St.mix_give
        · rfl
        · intro L u' wx hS hcl hrd hag
          go_simp
          try with_reducible rfl
        · exact fun L u' wx hS => ⟨hS.b, hS.x, hS.y⟩
        simp only [Act.put, List.setIfInBounds_toArray, List.set_cons_zero, List.set_cons_succ]
        refine St.mix_skip rfl ?_ ?_
        · intro L u' wx hS hcl hrd hag
          obtain ⟨j0, ⟨j1, j2, j3, j4, j5, j6⟩, j7⟩ := id hS.x
          have e5 := hrd.1
          have hx := BoxD.bound hS.x d.f k
          refine ⟨(wx.setCell ⟨n8, 1, none⟩ (.string d.f)).setCell ⟨n8, 2, none⟩ (.string k), ?_, ⟨(hS.b.setCell (p := ⟨n8, 1, none⟩) hN8 _).setCell (p := ⟨n8, 2, none⟩) hN8 _, ?_, (hS.y.other hne _).other hne _⟩⟩
          rotate_left
          · rw [show St.mark L 5 7 = L 7 from rfl, show St.mark L 5 5 = true by simp [St.mark]]
            exact hx
          go_simp
          try with_reducible rfl
        simp only [Act.put]
        apply St.mix_give
        · rfl
        · intro L u' wx hS hcl hrd hag
          go_simp
          try with_reducible rfl
        · exact fun L u' wx hS => ⟨hS.b, hS.x, hS.y⟩
        simp only [Act.put, List.setIfInBounds_toArray, List.set_cons_zero, List.set_cons_succ]
        refine St.mix_skip rfl ?_ ?_
        · intro L u' wx hS hcl hrd hag
          obtain ⟨j0, ⟨j1, j2, j3, j4, j5, j6⟩, j7⟩ := id hS.x
          have hx := BoxD.gen hS.x (d.gen + 1)
          refine ⟨wx.setCell ⟨n8, 3, none⟩ (.int .i64 (d.gen + 1)), ?_, ⟨hS.b.setCell (p := ⟨n8, 3, none⟩) hN8 _, ?_, hS.y.other hne _⟩⟩
          rotate_left
          · rw [show St.mark L 7 5 = L 5 from rfl, show St.mark L 7 7 = true by simp [St.mark]]
            exact hx
          go_simp
          try with_reducible rfl
        simp only [Act.put]
        refine St.mix_last ?_
        intro L5 wy hS hall
        have h5 : L5 5 = true := hall 5 (by decide)
        have h7 : L5 7 = true := hall 7 (by decide)
        rw [h5, h7] at hS
        clear hall h5 h7 hs0 L5
        have hs1 : RT W0.heap.size W0 n8 n9 (left9 d k true true) (right10 d k n false false false) (.slice A d.ms.length c) wy := ⟨hS.b, hS.x, hS.y⟩
        clear hS
        go_wp2_with fail
        refine St.wp_region_mixed (fun L _ wz => RT W0.heap.size W0 n8 n9 (left9 d k true true) (right10 d k n (L 6) (L 8) (L 10)) (.slice A d.ms.length c) wz) (fun _ _ => False) (by kernel_rfl) (by kernel_rfl) (by kernel_rfl) ⟨hs1.b.drew, hs1.x.drew, hs1.y.drew⟩ ?_
        apply St.mix_give
        · rfl
        · intro L u' wx hS hcl hrd hag
          go_simp
          try with_reducible rfl
        · exact fun L u' wx hS => ⟨hS.b, hS.x, hS.y⟩
        simp only [Act.put, List.setIfInBounds_toArray, List.set_cons_zero, List.set_cons_succ]
        apply St.mix_give
        · rfl
        · intro L u' wx hS hcl hrd hag
          obtain ⟨j0, ⟨j1, j2, j3, j4, j5, j6⟩, j7⟩ := hD0 wx hS.b
          obtain ⟨x0, x1, x2, x3⟩ := hX wx hS.b
          go_simp
          try with_reducible rfl
        · exact fun L u' wx hS => ⟨hS.b, hS.x, hS.y⟩
        simp only [Act.put, List.setIfInBounds_toArray, List.set_cons_zero, List.set_cons_succ]
        apply St.mix_give
        · rfl
        · intro L u' wx hS hcl hrd hag
          go_simp
          try with_reducible rfl
        · exact fun L u' wx hS => ⟨hS.b, hS.x, hS.y⟩
        simp only [Act.put, List.setIfInBounds_toArray, List.set_cons_zero, List.set_cons_succ]
        apply St.mix_give
        · rfl
        · intro L u' wx hS hcl hrd hag
          obtain ⟨j0, ⟨j1, j2, j3, j4, j5, j6⟩, j7⟩ := hD0 wx hS.b
          obtain ⟨x0, x1, x2, x3⟩ := hX wx hS.b
          go_simp
          try with_reducible rfl
        · exact fun L u' wx hS => ⟨hS.b, hS.x, hS.y⟩
        simp only [Act.put, List.setIfInBounds_toArray, List.set_cons_zero, List.set_cons_succ]
        apply St.mix_give
        · rfl
        · intro L u' wx hS hcl hrd hag
          have hgw := HGW.out
          go_simp
          try with_reducible rfl
        · exact fun L u' wx hS => ⟨hS.b, hS.x, hS.y⟩
        simp only [Act.put, List.setIfInBounds_toArray, List.set_cons_zero, List.set_cons_succ]
        apply St.mix_give
        · rfl
        · intro L u' wx hS hcl hrd hag
          go_simp
          try with_reducible rfl
        · exact fun L u' wx hS => ⟨hS.b, hS.x, hS.y⟩
        simp only [Act.put, List.setIfInBounds_toArray, List.set_cons_zero, List.set_cons_succ]
        refine St.mix_skip rfl ?_ ?_
        · intro L u' wx hS hcl hrd hag
          obtain ⟨j0, ⟨j1, j2, j3, j4, j5, j6⟩, j7⟩ := id hS.y
          have hx := BoxD.number hS.y n
          refine ⟨wx.setCell ⟨n9, 0, none⟩ (.int .i64 n), ?_, ⟨hS.b.setCell (p := ⟨n9, 0, none⟩) hN9 _, hS.x.other (fun e => hne e.symm) _, ?_⟩⟩
          rotate_left
          · rw [show St.mark L 6 8 = L 8 from rfl, show St.mark L 6 10 = L 10 from rfl, show St.mark L 6 6 = true by simp [St.mark]]
            exact hx
          go_simp
          try with_reducible rfl
        simp only [Act.put]
        apply St.mix_give
        · rfl
        · intro L u' wx hS hcl hrd hag
          go_simp
          try with_reducible rfl
        · exact fun L u' wx hS => ⟨hS.b, hS.x, hS.y⟩
        simp only [Act.put, List.setIfInBounds_toArray, List.set_cons_zero, List.set_cons_succ]
        refine St.mix_skip rfl ?_ ?_
        · intro L u' wx hS hcl hrd hag
          obtain ⟨j0, ⟨j1, j2, j3, j4, j5, j6⟩, j7⟩ := id hS.y
          have hx := BoxD.bound hS.y k d.t
          refine ⟨(wx.setCell ⟨n9, 1, none⟩ (.string k)).setCell ⟨n9, 2, none⟩ (.string d.t), ?_, ⟨(hS.b.setCell (p := ⟨n9, 1, none⟩) hN9 _).setCell (p := ⟨n9, 2, none⟩) hN9 _, (hS.x.other (fun e => hne e.symm) _).other (fun e => hne e.symm) _, ?_⟩⟩
          rotate_left
          · rw [show St.mark L 8 6 = L 6 from rfl, show St.mark L 8 10 = L 10 from rfl, show St.mark L 8 8 = true by simp [St.mark]]
            exact hx
          go_simp
          try with_reducible rfl
        simp only [Act.put]
        apply St.mix_give
        · rfl
        · intro L u' wx hS hcl hrd hag
          go_simp
          try with_reducible rfl
        · exact fun L u' wx hS => ⟨hS.b, hS.x, hS.y⟩
        simp only [Act.put, List.setIfInBounds_toArray, List.set_cons_zero, List.set_cons_succ]
        refine St.mix_skip rfl ?_ ?_
        · intro L u' wx hS hcl hrd hag
          obtain ⟨j0, ⟨j1, j2, j3, j4, j5, j6⟩, j7⟩ := id hS.y
          have hx := BoxD.gen hS.y (d.gen + 1)
          refine ⟨wx.setCell ⟨n9, 3, none⟩ (.int .i64 (d.gen + 1)), ?_, ⟨hS.b.setCell (p := ⟨n9, 3, none⟩) hN9 _, hS.x.other (fun e => hne e.symm) _, ?_⟩⟩
          rotate_left
          · rw [show St.mark L 10 6 = L 6 from rfl, show St.mark L 10 8 = L 8 from rfl, show St.mark L 10 10 = true by simp [St.mark]]
            exact hx
          go_simp
          try with_reducible rfl
        simp only [Act.put]
        refine St.mix_last ?_
        intro L5 wz hS hall
        have h6 : L5 6 = true := hall 6 (by decide)
        have h8 : L5 8 = true := hall 8 (by decide)
        have h10 : L5 10 = true := hall 10 (by decide)
        rw [h6, h8, h10] at hS
        clear hall h6 h8 h10 hs1 L5
        have E8 : BoxD n8 L (.slice A d.ms.length c) wz := by rw [← HL.out]; exact hS.x
        have E9 : BoxD n9 R (.slice A d.ms.length c) wz := by rw [← HRR.out]; exact hS.y
        have E1 := D1.keep hS.b
        have E2 := D2.keep hS.b
        have hbz : Below w.heap.size w wz := hw0.trans (hS.b.mono hz0)
        have hzz9 := hbz.size
        have hn8 : w.heap.size + 2 < n8 := by have := D2.1; omega
        have hn9 : w.heap.size + 2 < n9 := by have := D2.1; omega
        clear hS hX hD0 D0 D1 D2 HGW
        obtain ⟨o_0, ⟨o_1, o_2, o_3, o_4, o_5, o_6⟩, o_7⟩ := id E8
        go_wp2_with fail
        refine (cL _ (kl _ hbz)).mono ?_
        rintro e w6 ⟨rfl, b6⟩
        have M1 := E1.keep b6
        have M2 := E2.keep b6
        have M8 := E8.keep b6
        have M9 := E9.keep b6
        have hb6 : Below w.heap.size w w6 := hbz.trans (b6.mono hzz9)
        have hz6 := hb6.size
        clear o_0 o_1 o_2 o_3 o_4 o_5 o_6 o_7
        clear b6 cL E1 E2 E8 E9
        cases hLd : isD L with
        | false =>
          have hA := Lib.hid (show ans = (De.zero, De.zero, 60) by rw [HR.out, if_neg (by simp [hLd])])
          clear hLd
          obtain ⟨p_0, ⟨p_1, p_2, p_3, p_4, p_5, p_6⟩, p_7⟩ := id M1
          obtain ⟨q_0, ⟨q_1, q_2, q_3, q_4, q_5, q_6⟩, q_7⟩ := id M2
          go_wp2_with fail
          exact bodyPost_ret (put2_fin _ _ _ _ _ _ M1 M2 (by omega) De.zero De.zero (.slice none 0 0) (.slice none 0 0) Tryd.results26 rfl rfl rfl) rfl (by rw [hA.out]; exact Gave2.zero (by (repeat' (first | with_reducible assumption | with_reducible exact Below.refl _ _ | with_reducible refine Below.alloc ?_ ?_ _ | with_reducible refine Below.setCell ?_ ?_ _ | with_reducible refine Below.drew ?_ | omega | (simp; done) | (simp; omega)))))
        | true =>
          obtain ⟨o_0, ⟨o_1, o_2, o_3, o_4, o_5, o_6⟩, o_7⟩ := id M9
          go_wp2_with fail
          refine (cR _ (kl _ hb6)).mono ?_
          rintro e w7 ⟨rfl, b7⟩
          have N1 := M1.keep b7
          have N2 := M2.keep b7
          have N8 := M8.keep b7
          have N9 := M9.keep b7
          have hb7 : Below w.heap.size w w7 := hb6.trans (b7.mono hz6)
          clear o_0 o_1 o_2 o_3 o_4 o_5 o_6 o_7
          clear b7 cR M1 M2 M8 M9
          cases hRd : isD R with
          | false =>
            have hA := Lib.hid (show ans = (De.zero, De.zero, 60) by rw [HR.out, if_neg (by simp [hRd])])
            clear hLd hRd
            obtain ⟨p_0, ⟨p_1, p_2, p_3, p_4, p_5, p_6⟩, p_7⟩ := id N1
            obtain ⟨q_0, ⟨q_1, q_2, q_3, q_4, q_5, q_6⟩, q_7⟩ := id N2
            go_wp2_with fail
            exact bodyPost_ret (put2_fin _ _ _ _ _ _ N1 N2 (by omega) De.zero De.zero (.slice none 0 0) (.slice none 0 0) Tryd.results26 rfl rfl rfl) rfl (by rw [hA.out]; exact Gave2.zero (by (repeat' (first | with_reducible assumption | with_reducible exact Below.refl _ _ | with_reducible refine Below.alloc ?_ ?_ _ | with_reducible refine Below.setCell ?_ ?_ _ | with_reducible refine Below.drew ?_ | omega | (simp; done) | (simp; omega)))))
          | true =>
            have hA := Lib.hid (show ans = (L, R, 0) by rw [HR.out, if_pos ⟨hLd, hRd⟩])
            clear hLd hRd
            have hmL : L.ms = d.ms := by rw [← HL.out]
            have hmR : R.ms = d.ms := by rw [← HRR.out]
            go_wp2_with fail
            refine St.wp_region_mixed (fun L' _ wx => R13 w7 (w.heap.size + 1) (w.heap.size + 1 + 1) L R (.slice A d.ms.length c) (.slice A d.ms.length c) L' wx) (fun _ _ => False) (by kernel_rfl) (by kernel_rfl) (by kernel_rfl) ⟨fun _ => rfl, fun h => (by cases h), fun h => (by cases h)⟩ ?_
            apply St.mix_give
            · rfl
            · intro L' u' wx hS hcl hrd hag
              obtain rfl := hS.a (St.not_yet hcl hrd 40 2 (by kernel_rfl))
              obtain ⟨v0, ⟨v1, v2, v3, v4, v5, v6⟩, v7⟩ := id N8
              go_simp
              try with_reducible rfl
            · exact fun L' u' wx hS => ⟨hS.a, hS.b, hS.c⟩
            simp only [Act.put, List.setIfInBounds_toArray, List.set_cons_zero, List.set_cons_succ]
            apply St.mix_give
            · rfl
            · intro L' u' wx hS hcl hrd hag
              have h3 := St.not_yet hcl hrd 40 3 (by kernel_rfl)
              have hB : BoxD n9 R (.slice A d.ms.length c) wx := by
                cases h2 : L' 2 with
                | false => rw [hS.a h2]; exact N9.drew
                | true => rw [hS.b h2 h3]; exact putW_box N9.drew (by omega)
              obtain ⟨v0, ⟨v1, v2, v3, v4, v5, v6⟩, v7⟩ := hB
              go_simp
              try with_reducible rfl
            · exact fun L' u' wx hS => ⟨hS.a, hS.b, hS.c⟩
            simp only [Act.put, List.setIfInBounds_toArray, List.set_cons_zero, List.set_cons_succ]
            refine St.mix_skip rfl ?_ ?_
            · intro L' u' wx hS hcl hrd hag
              have h3 := St.not_yet hcl hrd 40 3 (by kernel_rfl)
              obtain rfl := hS.a hrd.1
              obtain ⟨v0, ⟨v1, v2, v3, v4, v5, v6⟩, v7⟩ := id N1
              refine ⟨_, ?_, ⟨fun h => (by simp [St.mark] at h), fun _ _ => rfl, fun h => (by rw [show St.mark L' 2 3 = L' 3 from rfl, h3] at h; cases h)⟩⟩
              unfold putW
              go_simp
              try with_reducible rfl
            simp only [Act.put]
            refine St.mix_skip rfl ?_ ?_
            · intro L' u' wx hS hcl hrd hag
              have h2 := St.before_ready hcl hrd 40 2 (by kernel_rfl)
              have hB : BoxD (w.heap.size + 1 + 1) De.zero (.slice none 0 0) wx := by rw [hS.b h2 hrd.1]; exact putW_box N2.drew (by omega)
              obtain ⟨v0, ⟨v1, v2, v3, v4, v5, v6⟩, v7⟩ := hB
              refine ⟨putW wx (w.heap.size + 1 + 1) R (.slice A d.ms.length c), ?_, ⟨fun h => (by rw [show St.mark L' 3 2 = L' 2 from rfl, h2] at h; cases h), fun _ h => (by simp [St.mark] at h), fun _ => by rw [hS.b h2 hrd.1]⟩⟩
              unfold putW
              go_simp
              try with_reducible rfl
            simp only [Act.put]
            apply St.mix_give
            · rfl
            · intro L' u' wx hS hcl hrd hag
              go_simp
              try with_reducible rfl
            · exact fun L' u' wx hS => ⟨hS.a, hS.b, hS.c⟩
            simp only [Act.put, List.setIfInBounds_toArray, List.set_cons_zero, List.set_cons_succ]
            refine St.mix_last ?_
            intro L8 wx hS hall
            obtain rfl := hS.c (hall 3 (by decide))
            have F1 : BoxD (w.heap.size + 1) L (.slice A d.ms.length c) (putW (putW w7.drew (w.heap.size + 1) L (.slice A d.ms.length c)) (w.heap.size + 1 + 1) R (.slice A d.ms.length c)) := putW_box (BoxD.put N1.drew L _) (by omega)
            have F2 : BoxD (w.heap.size + 1 + 1) R (.slice A d.ms.length c) (putW (putW w7.drew (w.heap.size + 1) L (.slice A d.ms.length c)) (w.heap.size + 1 + 1) R (.slice A d.ms.length c)) := BoxD.put (putW_box N2.drew (by omega)) R _
            have hbF : Below w.heap.size w (putW (putW w7.drew (w.heap.size + 1) L (.slice A d.ms.length c)) (w.heap.size + 1 + 1) R (.slice A d.ms.length c)) := putW_below (putW_below hb7.drew (by omega)) (by omega)
            obtain ⟨WF, hWF⟩ : ∃ WF, putW (putW w7.drew (w.heap.size + 1) L (.slice A d.ms.length c)) (w.heap.size + 1 + 1) R (.slice A d.ms.length c) = WF := ⟨_, rfl⟩
            rw [hWF] at F1 F2 hbF ⊢
            clear hS hall hWF
            go_wp2_with fail
            refine bodyPost_ret (res_box_box Tryd.results26 rfl rfl rfl F1 F2) rfl ?_
            rw [hA.out]
            refine ⟨_, _, rfl, ?_, ?_, hbF⟩
            · show ArgM _ _ L.ms
              rw [hmL]; exact kl _ hbF
            · show ArgM _ _ R.ms
              rw [hmR]; exact kl _ hbF
end Go.Proofs.YthglghlkchhjlaaDoor.Ds
