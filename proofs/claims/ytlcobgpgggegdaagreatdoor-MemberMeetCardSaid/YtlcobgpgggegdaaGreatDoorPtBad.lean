
/-
  The small ones: bad, moved, isNoted; the document's bad, moved. Conditions: descriptors that may be.
-/
import Derived.Test.YtlcobgpgggegdaaGreatDoorPtBox
import Derived.Test.YtlcobgpgggegdaaGreatDoorDsPNA
import Derived.Test.YtlcobgpgggegdaaGreatDoorRegA
namespace Go.Proofs.YtlcobgpgggegdaaGreatDoor.Pt
open Go.RowKit Bnd
open Go.Proofs.YtlcobgpgggegdaaGreatDoor.Ds (De SM ArgM putT isD dv)
open Go.Proofs.YtlcobgpgggegdaaGreatDoor.Od (Rep BoxR rv readsK E0)
open Go.Proofs.YtlcobgpgggegdaaGreatDoor.Dp (Ph BoxP qv HA HP)

set_option maxHeartbeats 4000000 in
theorem bad_any (n : Int) (w : World) : Calls Tryz.prog 134 #[.int .i64 n] w fun e w' => e = .returned (rv (badR n) (.slice none 0 0)) ∧ Below w.heap.size w w' := by
  go_enter Tryz.func134, Tryz.ntmps134
  go_wp2_with fail
  exact bodyPost_ret (Od.res_BoxR Tryz.results134 rfl (BoxR.new w (badR n) (.slice none 0 0))) rfl ⟨rfl, (by (repeat' (first | with_reducible assumption | with_reducible exact Below.refl _ _ | with_reducible refine Below.alloc ?_ ?_ _ | with_reducible refine Below.setCell ?_ ?_ _ | with_reducible refine Below.drew ?_ | omega | (simp; done) | (simp; omega))))⟩
theorem isNoted_any (k c : Int) (w : World) : Calls Tryz.prog 132 #[.int .i64 k, .int .i64 c] w fun e w' => e = .returned (.bool (notedB k c)) ∧ w = w' := by
  have ck := fun w => Od.reads_any k w
  unfold notedB
  cases hr : readsK k with
  | true =>
    rw [hr] at ck
    go_enter Tryz.func132, Tryz.ntmps132
    go_wp2_with fail
    refine (ck _).mono ?_
    rintro e w1 ⟨rfl, rfl⟩
    go_wp2_with fail
    go_ret
    exact ⟨rfl, rfl⟩
  | false =>
    rw [hr] at ck
    by_cases hc : c = 1
    · have n1 : (c == 1) = true := by simpa using hc
      have n2 : (c != 1) = false := by simpa using hc
      rw [show decide (c ≠ 1) = false by simpa using hc]
      clear hc
      go_enter Tryz.func132, Tryz.ntmps132
      go_wp2_with fail
      refine (ck _).mono ?_
      rintro e w1 ⟨rfl, rfl⟩
      go_wp2_with fail
      go_ret
      exact ⟨rfl, rfl⟩
    · have n1 : (c == 1) = false := by simpa using hc
      have n2 : (c != 1) = true := by simpa using hc
      rw [show decide (c ≠ 1) = true by simpa using hc]
      clear hc
      go_enter Tryz.func132, Tryz.ntmps132
      go_wp2_with fail
      refine (ck _).mono ?_
      rintro e w1 ⟨rfl, rfl⟩
      go_wp2_with fail
      go_ret
      exact ⟨rfl, rfl⟩
/-- a descriptor's text is told -/
theorem put_is (d : De) (s : Value) (w : World) (hs : SM w w.heap.size s d.ms) (hd : isD d = true) :
    Calls Tryz.prog 120 #[dv d s] w fun e w' => e = .returned (.string (txt (putT d))) ∧ Below w.heap.size w w' := by
  obtain ⟨h1, h2, h3⟩ := Dp.isD_sizes hd
  exact Ds.put_any d s w hs (Dp.isD_fit hd) (by omega) (by omega)
set_option maxHeartbeats 4000000 in
theorem moved_any (o : Ph) (w : World) (h : HP w w.heap.size o) (hd : isD o.d = true) : Calls Tryz.prog 202 #[qv o] w fun e w' => e = .returned (rv (toldR 1 false (putT o.d)) (.slice none 0 0)) ∧ Below w.heap.size w w' := by
  have cp := fun w' (hb : Below w.heap.size w w') => put_is o.d o.sm w' ((h.sm.below hb).more hb.size) hd
  obtain ⟨d, ps, zs, fr, ea, al, A, B, C, D, a, b, c, e, rfl⟩ := h.open
  simp only at cp hd ⊢
  obtain ⟨T, hT⟩ : ∃ T, txt (putT d) = T := ⟨_, rfl⟩
  rw [hT] at cp
  have hT' : toldR 1 false (putT d) = ⟨1, 0, false, T, []⟩ := by rw [← hT]
  rw [hT']
  have R0 := BoxR.new (w.alloc (.cells #[.int .i64 d.id, .string d.f, .string d.t, .int .i64 d.gen, .slice A d.ms.length a, .int .i64 d.next, .slice B ps.length b, .slice C zs.length c, .bool fr, .slice D ea.length e, .int .i64 al] 38)) Od.Rep.zero (.slice none 0 0)
  rw [World.size_alloc] at R0
  obtain ⟨nm, hnm⟩ : ∃ n, d.ms.length = n := ⟨_, rfl⟩
  rw [hnm] at cp R0 ⊢
  clear h hd hT hT' hnm
  go_enter Tryz.func202, Tryz.ntmps202
  go_wp2_with fail
  refine (cp _ (by (repeat' (first | with_reducible assumption | with_reducible exact Below.refl _ _ | with_reducible refine Below.alloc ?_ ?_ _ | with_reducible refine Below.setCell ?_ ?_ _ | with_reducible refine Below.drew ?_ | omega | (simp; done) | (simp; omega))))).mono ?_
  rintro e1 w1 ⟨rfl, b1⟩
  have R1 := R0.keep b1
  have hb1 : Below w.heap.size w w1 := (show Below w.heap.size w _ from (by (repeat' (first | with_reducible assumption | with_reducible exact Below.refl _ _ | with_reducible refine Below.alloc ?_ ?_ _ | with_reducible refine Below.setCell ?_ ?_ _ | with_reducible refine Below.drew ?_ | omega | (simp; done) | (simp; omega))))).trans (b1.mono (by simp; omega))
  have hlt := R1.1
  clear b1 R0 cp
  obtain ⟨q_0, ⟨q_1, q_2, q_3, q_4, q_5⟩, q_6⟩ := _root_.id R1
  go_wp2_with fail
  exact bodyPost_ret (Od.res_BoxR Tryz.results202 rfl (BoxR.put R1 ⟨1, 0, false, T, []⟩ (.slice none 0 0))) rfl ⟨rfl, (by (repeat' (first | with_reducible assumption | with_reducible exact Below.refl _ _ | with_reducible refine Below.alloc ?_ ?_ _ | with_reducible refine Below.setCell ?_ ?_ _ | with_reducible refine Below.drew ?_ | omega | (simp; done) | (simp; omega))))⟩
end Go.Proofs.YtlcobgpgggegdaaGreatDoor.Pt
