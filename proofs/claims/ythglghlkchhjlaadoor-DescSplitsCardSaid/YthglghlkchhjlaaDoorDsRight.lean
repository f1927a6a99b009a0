/-
  The document's last word on what a change comes to: the descriptor, if it may be. Conditions: texts at most 2^47 bytes.
-/
import Derived.Test.YthglghlkchhjlaaDoorDsRIs
namespace Go.Proofs.YthglghlkchhjlaaDoor.Ds
open Go.RowKit Bnd

set_option maxHeartbeats 2000000 in
theorem right_any (d : De) (s : Value) (w : World) (hs : SM w w.heap.size s d.ms) (hl : d.ms.length ≤ 140737488355328) (hf : d.f.size ≤ 140737488355328) (ht : d.t.size ≤ 140737488355328) :
    Calls Tryd.prog 54 #[dv d s] w fun e w' => e = .returned (okV d s) ∧ Below w.heap.size w w' := by
  obtain ⟨A, c, rfl⟩ := hs.form
  have cc := fun w hs => ris_any d (.slice A d.ms.length c) w hs hf ht hl
  have hst : ∀ w1, Below w.heap.size w w1 → SM w1 w1.heap.size (.slice A d.ms.length c) d.ms := fun w1 hb => (hs.below hb).more hb.size
  cases hd : isD d with
  | false =>
    have hr : okV d (.slice A d.ms.length c) = .tuple #[dv De.zero (.slice none 0 0), .int .i64 60] := by unfold okV; rw [if_neg (by simp [hd])]
    rw [hr]
    rw [hd] at cc
    clear hr hd
    go_enter Tryd.func54, Tryd.ntmps54
    go_wp2_with fail
    refine (cc _ (hst _ (by (repeat' (first | with_reducible assumption | with_reducible exact Below.refl _ _ | with_reducible refine Below.alloc ?_ ?_ _ | with_reducible refine Below.setCell ?_ ?_ _ | with_reducible refine Below.drew ?_ | omega | (simp; done) | (simp; omega)))))).mono ?_
    rintro e w1 ⟨rfl, b1⟩
    have B2 := (BoxD.zero (w.alloc (.cells #[.int .i64 d.id, .string d.f, .string d.t, .int .i64 d.gen, .slice A d.ms.length c, .int .i64 d.next] 26))).keep b1
    rw [World.size_alloc] at B2
    obtain ⟨z2, ⟨f1, f2, f3, f4, f5, f6⟩, f7⟩ := id B2
    have hb : Below w.heap.size w w1 := (((Below.refl _ w).alloc (Nat.le_refl _) _).alloc (by simp) _).trans (b1.mono (by simp; omega))
    clear b1
    go_wp2_with fail
    refine bodyPost_ret (v := .tuple #[dv De.zero (.slice none 0 0), .int .i64 60]) (res_box_tmp Tryd.results54 rfl rfl (BoxD.put B2 De.zero (.slice none 0 0))) rfl ⟨rfl, ?_⟩
    (repeat' (first | with_reducible assumption | with_reducible exact Below.refl _ _ | with_reducible refine Below.alloc ?_ ?_ _ | with_reducible refine Below.setCell ?_ ?_ _ | with_reducible refine Below.drew ?_ | omega | (simp; done) | (simp; omega)))
  | true =>
    have hr : okV d (.slice A d.ms.length c) = .tuple #[dv d (.slice A d.ms.length c), .int .i64 0] := by unfold okV; rw [if_pos hd]
    rw [hr]
    rw [hd] at cc
    clear hr hd
    go_enter Tryd.func54, Tryd.ntmps54
    go_wp2_with fail
    refine (cc _ (hst _ (by (repeat' (first | with_reducible assumption | with_reducible exact Below.refl _ _ | with_reducible refine Below.alloc ?_ ?_ _ | with_reducible refine Below.setCell ?_ ?_ _ | with_reducible refine Below.drew ?_ | omega | (simp; done) | (simp; omega)))))).mono ?_
    rintro e w1 ⟨rfl, b1⟩
    have B1 := ((BoxD.new w d (.slice A d.ms.length c)).alloc (.cells #[.int .i64 0, .string ⟨#[]⟩, .string ⟨#[]⟩, .int .i64 0, .slice none 0 0, .int .i64 0] 26)).keep b1
    have B2 := (BoxD.zero (w.alloc (.cells #[.int .i64 d.id, .string d.f, .string d.t, .int .i64 d.gen, .slice A d.ms.length c, .int .i64 d.next] 26))).keep b1
    rw [World.size_alloc] at B2
    obtain ⟨z1, ⟨e1, e2, e3, e4, e5, e6⟩, e7⟩ := id B1
    obtain ⟨z2, ⟨f1, f2, f3, f4, f5, f6⟩, f7⟩ := id B2
    have hb : Below w.heap.size w w1 := (((Below.refl _ w).alloc (Nat.le_refl _) _).alloc (by simp) _).trans (b1.mono (by simp; omega))
    clear b1
    go_wp2_with fail
    refine bodyPost_ret (v := .tuple #[dv d (.slice A d.ms.length c), .int .i64 0]) (res_box_tmp Tryd.results54 rfl rfl (BoxD.put B2 d (.slice A d.ms.length c))) rfl ⟨rfl, ?_⟩
    (repeat' (first | with_reducible assumption | with_reducible exact Below.refl _ _ | with_reducible refine Below.alloc ?_ ?_ _ | with_reducible refine Below.setCell ?_ ?_ _ | with_reducible refine Below.drew ?_ | omega | (simp; done) | (simp; omega)))

end Go.Proofs.YthglghlkchhjlaaDoor.Ds
