/-
  The law's own; the document's Append. Conditions: at most 100,000 entries.
-/
import Derived.Test.YtimodohcihnoiaaDoorRoSlice
namespace Go.Proofs.YtimodohcihnoiaaDoor.Ro
open Go.RowKit

/-- what a call answers that makes a roll, its entries in new cells -/
def GaveO (w : World) (r : Lg) (e : Ending) (w' : World) : Prop := ∃ v, e = .returned (lv r v) ∧ OwnE w' w.heap.size v r.es ∧ Below w.heap.size w w'
theorem GaveO.gave {w w' : World} {r : Lg} {e : Ending} (h : GaveO w r e w') : GaveL w r e w' := by
  obtain ⟨v, h1, h2, h3⟩ := h
  exact ⟨v, h1, ArgE.of_own h2, h3⟩
theorem lg_es (r : Lg) : (⟨r.base, r.bt, r.es⟩ : Lg) = r := rfl

set_option maxHeartbeats 4000000 in
set_option maxRecDepth 100000 in
theorem own_any (r : Lg) (s : Value) (w : World) (hs : ArgE w s r.es) (hl : r.es.length ≤ 100000) :
    Calls Tryd.prog 16 #[lv r s] w fun e w' => GaveO w r e w' := by
  obtain ⟨A, c, rfl, _⟩ := hs.room
  have hk := fun w' (h : Below w.heap.size w w') => hs.keep h
  obtain ⟨base, bt, es⟩ := r
  simp only at hk hl ⊢
  obtain ⟨N, hN⟩ : ∃ N, es.length = N := ⟨_, rfl⟩
  have HN := Lib.hid hN
  obtain ⟨W0, hW0⟩ : ∃ W0, (w.alloc (.cells #[.int .i64 base, .int .i64 bt, .slice A N c] 24)).alloc (.cells #[.int .i64 0, .int .i64 0, .slice none 0 0] 24) = W0 := ⟨_, rfl⟩
  have B0 : BoxL w.heap.size ⟨base, bt, es⟩ (.slice A N c) W0 := hW0 ▸ (BoxL.new w ⟨base, bt, es⟩ (.slice A N c)).alloc (.cells #[.int .i64 0, .int .i64 0, .slice none 0 0] 24)
  have B1 : BoxL (w.heap.size + 1) Lg.zero (.slice none 0 0) W0 := hW0 ▸ box2 w (.cells #[.int .i64 base, .int .i64 bt, .slice A N c] 24) Lg.zero (.slice none 0 0)
  have hb0 : Below w.heap.size w W0 := by rw [← hW0]; exact (by (repeat' (first | with_reducible assumption | with_reducible exact Below.refl _ _ | with_reducible refine Below.alloc ?_ ?_ _ | with_reducible refine Below.setCell ?_ ?_ _ | with_reducible refine Below.drew ?_ | omega | (simp; done) | (simp; omega))))
  have hz0 := B1.1
  have hbE : Below W0.heap.size W0 (W0.alloc (.cells #[] 54)) := (Below.refl _ _).alloc (Nat.le_refl _) _
  have haE := hk _ (hb0.trans (hbE.mono hb0.size))
  rw [hN] at haE hl ⊢
  clear hs hN hk
  go_enter Tryd.func16, Tryd.ntmps16
  obtain ⟨p_0, ⟨p_1, p_2, p_3⟩, p_4⟩ := _root_.id B0
  go_wp2_with (at_builtin; refine wpList_append_es rfl _ _ rfl W0.heap.size _ [] rfl (own_empty W0) (by simp) _ es rfl haE (by simp; have := HN.out; omega) ?_)
  intro v' w2 ho b2 _
  have hb2 := hbE.trans b2
  have C0 := B0.keep hb2
  have C1 := B1.keep hb2
  obtain ⟨A2, c2, hv2, _⟩ := own_room ho
  rw [HN.out] at hv2
  subst hv2
  have hbw : Below w.heap.size w w2 := hb0.trans (hb2.mono hb0.size)
  have HO := Lib.hid (fun (u u0 u1 u2 : Value) => own_set (own_set (own_set (own_set ho (a := ⟨w.heap.size, 2, none⟩) (show w.heap.size < W0.heap.size by omega) u) (a := ⟨w.heap.size + 1, 0, none⟩) hz0 u0) (a := ⟨w.heap.size + 1, 1, none⟩) hz0 u1) (a := ⟨w.heap.size + 1, 2, none⟩) hz0 u2)
  clear p_0 p_1 p_2 p_3 p_4
  clear B0 B1 hW0 ho b2 hb2 hbE
  obtain ⟨p_0, ⟨p_1, p_2, p_3⟩, p_4⟩ := _root_.id C0
  obtain ⟨q_0, ⟨q_1, q_2, q_3⟩, q_4⟩ := _root_.id C1
  go_wp2_with fail
  have hbx := (((hbw.setCell (p := ⟨w.heap.size, 2, none⟩) (Nat.le_refl _) (.slice A2 N c2)).setCell (p := ⟨w.heap.size + 1, 0, none⟩) (show w.heap.size ≤ w.heap.size + 1 by omega) (.int .i64 base)).setCell (p := ⟨w.heap.size + 1, 1, none⟩) (show w.heap.size ≤ w.heap.size + 1 by omega) (.int .i64 bt)).setCell (p := ⟨w.heap.size + 1, 2, none⟩) (show w.heap.size ≤ w.heap.size + 1 by omega) (.slice A2 N c2)
  exact bodyPost_ret (res_box Tryd.results16 rfl ((C1.other (a := ⟨w.heap.size, 2, none⟩) (by simp) (.slice A2 N c2)).put ⟨base, bt, es⟩ (.slice A2 N c2))) rfl ⟨_, rfl, own_base (HO.out _ _ _ _) hb0.size, hbx⟩

set_option maxHeartbeats 4000000 in
set_option maxRecDepth 100000 in
theorem rappend_any (r : Lg) (s v : Value) (l : List En) (w : World) (hs : ArgE w s r.es) (hv : ArgE w v l) (hl : r.es.length ≤ 100000) (hl2 : l.length ≤ 100000) :
    Calls Tryd.prog 27 #[lv r s, v] w fun e w' => GaveO w (appL r l) e w' := by
  obtain ⟨A, c, rfl, _⟩ := hs.room
  have hk := fun w' (h : Below w.heap.size w w') => hs.keep h
  have hvk := fun w' (h : Below w.heap.size w w') => hv.keep h
  obtain ⟨base, bt, es⟩ := r
  simp only [appL] at hk hl ⊢
  obtain ⟨N, hN⟩ : ∃ N, es.length = N := ⟨_, rfl⟩
  have HN := Lib.hid hN
  obtain ⟨M, hM⟩ : ∃ M, (es ++ l).length = M := ⟨_, rfl⟩
  have HM := Lib.hid hM
  obtain ⟨W0, hW0⟩ : ∃ W0, (w.alloc (.cells #[.int .i64 base, .int .i64 bt, .slice A N c] 24)).alloc (.cells #[.int .i64 0, .int .i64 0, .slice none 0 0] 24) = W0 := ⟨_, rfl⟩
  have B0 : BoxL w.heap.size ⟨base, bt, es⟩ (.slice A N c) W0 := hW0 ▸ (BoxL.new w ⟨base, bt, es⟩ (.slice A N c)).alloc (.cells #[.int .i64 0, .int .i64 0, .slice none 0 0] 24)
  have B1 : BoxL (w.heap.size + 1) Lg.zero (.slice none 0 0) W0 := hW0 ▸ box2 w (.cells #[.int .i64 base, .int .i64 bt, .slice A N c] 24) Lg.zero (.slice none 0 0)
  have hb0 : Below w.heap.size w W0 := by rw [← hW0]; exact (by (repeat' (first | with_reducible assumption | with_reducible exact Below.refl _ _ | with_reducible refine Below.alloc ?_ ?_ _ | with_reducible refine Below.setCell ?_ ?_ _ | with_reducible refine Below.drew ?_ | omega | (simp; done) | (simp; omega))))
  have hz0 := B1.1
  have hbE : Below W0.heap.size W0 (W0.alloc (.cells #[] 54)) := (Below.refl _ _).alloc (Nat.le_refl _) _
  have haE := hk _ (hb0.trans (hbE.mono hb0.size))
  rw [hN] at haE hl ⊢
  clear hs hN hM hk hv
  go_enter Tryd.func27, Tryd.ntmps27
  obtain ⟨p_0, ⟨p_1, p_2, p_3⟩, p_4⟩ := _root_.id B0
  go_wp2_with (at_builtin; refine wpList_append_es rfl _ _ rfl W0.heap.size _ [] rfl (own_empty W0) (by simp) _ es rfl haE (by simp; have := HN.out; omega) ?_)
  intro v1 w1 ho1 b1 _
  have hb1 := hbE.trans b1
  have hbw1 : Below w.heap.size w w1 := hb0.trans (hb1.mono hb0.size)
  go_wp2_with (at_builtin; refine wpList_append_es rfl _ _ rfl W0.heap.size v1 es rfl ho1 hb1.size _ l rfl (hvk _ hbw1) (by have := HN.out; omega) ?_)
  intro v' w2 ho b2 _
  have hb2 := hb1.trans b2
  have C0 := B0.keep hb2
  have C1 := B1.keep hb2
  obtain ⟨A2, c2, hv2, _⟩ := own_room ho
  rw [HM.out] at hv2
  subst hv2
  have hbw : Below w.heap.size w w2 := hb0.trans (hb2.mono hb0.size)
  have HO := Lib.hid (fun (u u0 u1 u2 : Value) => own_set (own_set (own_set (own_set ho (a := ⟨w.heap.size, 2, none⟩) (show w.heap.size < W0.heap.size by omega) u) (a := ⟨w.heap.size + 1, 0, none⟩) hz0 u0) (a := ⟨w.heap.size + 1, 1, none⟩) hz0 u1) (a := ⟨w.heap.size + 1, 2, none⟩) hz0 u2)
  clear p_0 p_1 p_2 p_3 p_4
  clear B0 B1 hW0 ho ho1 b1 b2 hb1 hb2 hbE hbw1 haE hvk
  obtain ⟨p_0, ⟨p_1, p_2, p_3⟩, p_4⟩ := _root_.id C0
  obtain ⟨q_0, ⟨q_1, q_2, q_3⟩, q_4⟩ := _root_.id C1
  go_wp2_with fail
  have hbx := (((hbw.setCell (p := ⟨w.heap.size, 2, none⟩) (Nat.le_refl _) (.slice A2 M c2)).setCell (p := ⟨w.heap.size + 1, 0, none⟩) (show w.heap.size ≤ w.heap.size + 1 by omega) (.int .i64 base)).setCell (p := ⟨w.heap.size + 1, 1, none⟩) (show w.heap.size ≤ w.heap.size + 1 by omega) (.int .i64 bt)).setCell (p := ⟨w.heap.size + 1, 2, none⟩) (show w.heap.size ≤ w.heap.size + 1 by omega) (.slice A2 M c2)
  exact bodyPost_ret (res_box Tryd.results27 rfl ((C1.other (a := ⟨w.heap.size, 2, none⟩) (by simp) (.slice A2 M c2)).put ⟨base, bt, es ++ l⟩ (.slice A2 M c2))) rfl ⟨_, rfl, own_base (HO.out _ _ _ _) hb0.size, hbx⟩
end Go.Proofs.YtimodohcihnoiaaDoor.Ro
