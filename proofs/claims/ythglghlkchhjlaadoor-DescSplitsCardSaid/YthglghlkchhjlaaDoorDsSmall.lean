/-
  The law's own small and own: what is asked of a descriptor that comes in. Condition: lengths at most 2^47.
-/
import Derived.Test.YthglghlkchhjlaaDoorDsLive
namespace Go.Proofs.YthglghlkchhjlaaDoor.Ds
open Go.RowKit Bnd
open Go.Proofs.YthglghlkchhjlaaDoor.M (numT inR tieT intT untieT)

/-- what is known of a descriptor that comes in -/
structure Lim (d : De) : Prop where
  f : d.f.size ≤ 140737488355328
  t : d.t.size ≤ 140737488355328
  n : d.ms.length ≤ 140737488355328
  r : InR d
def smallD (d : De) : Bool := decide (d.ms.length ≤ 30 ∧ d.f.size ≤ 2000 ∧ d.t.size ≤ 2000)
theorem small_iff {d : De} : smallD d = true ↔ d.ms.length ≤ 30 ∧ d.f.size ≤ 2000 ∧ d.t.size ≤ 2000 := by simp [smallD]
theorem Lim.fit {d : De} (h : Lim d) (hs : smallD d = true) : Fit d := ⟨h.f, h.t, by have := (small_iff.1 hs).1; omega, h.r⟩

set_option maxHeartbeats 4000000 in
theorem small_any (d : De) (s : Value) (w : World) (hs : ArgM w s d.ms) (hd : Lim d) :
    Calls Tryd.prog 9 #[dv d s] w fun e w' => e = .returned (.bool (smallD d)) ∧ Below w.heap.size w w' := by
  obtain ⟨A, c, rfl⟩ := hs.form
  obtain ⟨h1, h2, h3, _⟩ := hd
  by_cases g1 : d.ms.length ≤ 30
  · by_cases g2 : d.f.size ≤ 2000
    · by_cases g3 : d.t.size ≤ 2000
      all_goals
        obtain ⟨R, hR⟩ : ∃ R, smallD d = R := ⟨_, rfl⟩
        have hr : R = decide (d.t.size ≤ 2000) := by rw [← hR]; simp [smallD, g1, g2]
        rw [hR]
        have HR := Lib.hid hr
        have e1 : ((d.ms.length : Int) ≤ 30) = True := eq_true (by omega)
        have e2 : ((d.f.size : Int) ≤ 2000) = True := eq_true (by omega)
        clear hR hr
        go_enter Tryd.func9, Tryd.ntmps9
        go_wp2_with fail
        go_ret
        exact ⟨ret_bool (by rw [HR.out]; simp <;> omega), (by (repeat' (first | with_reducible assumption | with_reducible exact Below.refl _ _ | with_reducible refine Below.alloc ?_ ?_ _ | with_reducible refine Below.setCell ?_ ?_ _ | with_reducible refine Below.drew ?_ | omega | (simp; done) | (simp; omega))))⟩
    · have hr : smallD d = false := by simp [smallD, g2]
      rw [hr]
      have e1 : ((d.ms.length : Int) ≤ 30) = True := eq_true (by omega)
      have e2 : ((d.f.size : Int) ≤ 2000) = False := eq_false (by omega)
      clear hr
      go_enter Tryd.func9, Tryd.ntmps9
      go_wp2_with fail
      go_ret
      exact ⟨rfl, (by (repeat' (first | with_reducible assumption | with_reducible exact Below.refl _ _ | with_reducible refine Below.alloc ?_ ?_ _ | with_reducible refine Below.setCell ?_ ?_ _ | with_reducible refine Below.drew ?_ | omega | (simp; done) | (simp; omega))))⟩
  · have hr : smallD d = false := by simp [smallD, g1]
    rw [hr]
    have e1 : ((d.ms.length : Int) ≤ 30) = False := eq_false (by omega)
    clear hr
    go_enter Tryd.func9, Tryd.ntmps9
    go_wp2_with fail
    go_ret
    exact ⟨rfl, (by (repeat' (first | with_reducible assumption | with_reducible exact Below.refl _ _ | with_reducible refine Below.alloc ?_ ?_ _ | with_reducible refine Below.setCell ?_ ?_ _ | with_reducible refine Below.drew ?_ | omega | (simp; done) | (simp; omega))))⟩

/-- the same descriptor, with a row of its own -/
def OwnD (w : World) (d : De) (e : Ending) (w' : World) : Prop := ∃ s', e = .returned (dv d s') ∧ ArgM w' s' d.ms ∧ Below w.heap.size w w'
theorem own_empty_at (w : World) (k : Nat) (h : w.heap.size = k) : OwnM (w.alloc (.cells #[] 30)) k (.slice (some ⟨k, 0, none⟩) 0 0) [] := h ▸ own_empty w
set_option maxHeartbeats 4000000 in
theorem own_any (d : De) (s : Value) (w : World) (hs : ArgM w s d.ms) (hl : d.ms.length ≤ 1000) :
    Calls Tryd.prog 25 #[dv d s] w fun e w' => OwnD w d e w' := by
  obtain ⟨A, c, rfl⟩ := hs.form
  have hk : ∀ w1, Below w.heap.size w w1 → ArgM w1 (.slice A d.ms.length c) d.ms := fun w1 h => hs.keep h
  go_enter Tryd.func25, Tryd.ntmps25
  go_wp2_with (at_builtin; refine wpList_append_ms rfl _ _ rfl (w.heap.size + 1 + 1) _ [] rfl (own_empty_at _ _ (by simp)) (by simp) _ d.ms rfl (hk _ (by (repeat' (first | with_reducible assumption | with_reducible exact Below.refl _ _ | with_reducible refine Below.alloc ?_ ?_ _ | with_reducible refine Below.setCell ?_ ?_ _ | with_reducible refine Below.drew ?_ | omega | (simp; done) | (simp; omega))))) (by simp; omega) ?_)
  intro v' w1 hown hb1 _
  obtain ⟨A1, c1, rfl⟩ := (SM.of_own hown).form
  have B0 : BoxD w.heap.size d (.slice A d.ms.length c) w1 := BoxD.kept (N := w.heap.size + 1 + 1) (((BoxD.new w d (.slice A d.ms.length c)).alloc _).alloc _) (by omega) hb1
  have B1 : BoxD (w.heap.size + 1) De.zero (.slice none 0 0) w1 := by
    have := (BoxD.zero (w.alloc (.cells #[.int .i64 d.id, .string d.f, .string d.t, .int .i64 d.gen, .slice A d.ms.length c, .int .i64 d.next] 26))).alloc (.cells #[] 30)
    rw [World.size_alloc] at this
    exact BoxD.kept (N := w.heap.size + 1 + 1) this (by omega) hb1
  have hbw : Below w.heap.size w w1 := (show Below w.heap.size w _ from (by (repeat' (first | with_reducible assumption | with_reducible exact Below.refl _ _ | with_reducible refine Below.alloc ?_ ?_ _ | with_reducible refine Below.setCell ?_ ?_ _ | with_reducible refine Below.drew ?_ | omega | (simp; done) | (simp; omega))))).trans (hb1.mono (by omega))
  have hz := hbw.size
  have HO := Lib.hid hown
  obtain ⟨o_0, ⟨o_1, o_2, o_3, o_4, o_5, o_6⟩, o_7⟩ := id B0
  obtain ⟨p_0, ⟨p_1, p_2, p_3, p_4, p_5, p_6⟩, p_7⟩ := id B1
  clear hown hb1
  go_wp2_with fail
  have F : BoxD (w.heap.size + 1) De.zero (.slice none 0 0) (w1.setCell ⟨w.heap.size, 4, none⟩ (.slice A1 d.ms.length c1)) := B1.other (by simp) _
  refine bodyPost_ret (res_box Tryd.results25 rfl (BoxD.put F d (.slice A1 d.ms.length c1))) rfl ⟨_, rfl, ArgM.of_own (base := w.heap.size + 1 + 1) ?_, (by (repeat' (first | with_reducible assumption | with_reducible exact Below.refl _ _ | with_reducible refine Below.alloc ?_ ?_ _ | with_reducible refine Below.setCell ?_ ?_ _ | with_reducible refine Below.drew ?_ | omega | (simp; done) | (simp; omega))))⟩
  have := HO.out
  (repeat' (first | with_reducible assumption | with_reducible refine own_set ?_ ?_ _ | with_reducible refine own_alloc ?_ _ | with_reducible refine own_drew ?_ | omega | (simp; done) | (simp; omega)))
end Go.Proofs.YthglghlkchhjlaaDoor.Ds
