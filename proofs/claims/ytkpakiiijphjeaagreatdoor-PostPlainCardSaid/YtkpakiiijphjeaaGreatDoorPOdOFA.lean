/-
  own, the program's: an order with nothing but the fields of its kind. No condition.
  Whether an order may be, the program's answers: fitsKey, fits. Conditions: lengths at most 2^47; the library's variables hold what their types allow.
-/
import Derived.Test.YtkpakiiijphjeaaGreatDoorPOdA
import Derived.Test.YtkpakiiijphjeaaGreatDoorPDsPaA
namespace Go.Proofs.YtkpakiiijphjeaaGreatDoor.Od
open Go.RowKit Bnd
theorem own_fin (w : World) (X Y : Obj) (r : Ask) : BoxA (w.heap.size + 1) r (((w.alloc X).alloc (.cells #[.int .i64 r.kind, .int .i64 r.client, .int .i64 r.seq, .string r.key, .string r.til, .string r.val, .string r.old, .bool r.has, .int .i64 r.lim, .int .i64 r.id, .int .i64 r.node] 26)).alloc Y) := by
  have := (BoxA.new (w.alloc X) r).alloc Y
  simpa using this
set_option maxHeartbeats 4000000 in
set_option maxRecDepth 100000 in
theorem own_2 (client seq : Int) (key til val old : ByteArray) (has : Bool) (lim id node : Int) (w : World) : Calls Tryz.prog 95 #[av ⟨2, client, seq, key, til, val, old, has, lim, id, node⟩] w fun e w' => e = .returned (av ⟨2, client, seq, key, E0, val, E0, false, 0, 0, 0⟩) ∧ Below w.heap.size w w' := by
  have c := fun w => keyed_any 2 w
  have e : keyedK 2 = true := rfl
  rw [e] at c
  clear e
  go_enter Tryz.func95, Tryz.ntmps95
  go_wp2_with fail
  refine (c _).mono ?_
  rintro e w1 ⟨rfl, rfl⟩
  go_wp2_with fail
  exact bodyPost_ret (res_BoxA Tryz.results95 rfl (own_fin w _ _ ⟨2, client, seq, key, E0, val, E0, false, 0, 0, 0⟩)) rfl ⟨rfl, (by (repeat' (first | with_reducible assumption | with_reducible exact Below.refl _ _ | with_reducible refine Below.alloc ?_ ?_ _ | with_reducible refine Below.setCell ?_ ?_ _ | with_reducible refine Below.drew ?_ | omega | (simp; done) | (simp; omega))))⟩
set_option maxHeartbeats 4000000 in
set_option maxRecDepth 100000 in
theorem own_9 (client seq : Int) (key til val old : ByteArray) (has : Bool) (lim id node : Int) (w : World) : Calls Tryz.prog 95 #[av ⟨9, client, seq, key, til, val, old, has, lim, id, node⟩] w fun e w' => e = .returned (av ⟨9, client, seq, key, E0, val, E0, false, 0, 0, 0⟩) ∧ Below w.heap.size w w' := by
  have c := fun w => keyed_any 9 w
  have e : keyedK 9 = true := rfl
  rw [e] at c
  clear e
  go_enter Tryz.func95, Tryz.ntmps95
  go_wp2_with fail
  refine (c _).mono ?_
  rintro e w1 ⟨rfl, rfl⟩
  go_wp2_with fail
  exact bodyPost_ret (res_BoxA Tryz.results95 rfl (own_fin w _ _ ⟨9, client, seq, key, E0, val, E0, false, 0, 0, 0⟩)) rfl ⟨rfl, (by (repeat' (first | with_reducible assumption | with_reducible exact Below.refl _ _ | with_reducible refine Below.alloc ?_ ?_ _ | with_reducible refine Below.setCell ?_ ?_ _ | with_reducible refine Below.drew ?_ | omega | (simp; done) | (simp; omega))))⟩
set_option maxHeartbeats 4000000 in
set_option maxRecDepth 100000 in
theorem own_4 (client seq : Int) (key til val old : ByteArray) (has : Bool) (lim id node : Int) (w : World) : Calls Tryz.prog 95 #[av ⟨4, client, seq, key, til, val, old, has, lim, id, node⟩] w fun e w' => e = .returned (av ⟨4, client, seq, key, E0, val, old, has, 0, 0, 0⟩) ∧ Below w.heap.size w w' := by
  have c := fun w => keyed_any 4 w
  have e : keyedK 4 = true := rfl
  rw [e] at c
  clear e
  go_enter Tryz.func95, Tryz.ntmps95
  go_wp2_with fail
  refine (c _).mono ?_
  rintro e w1 ⟨rfl, rfl⟩
  go_wp2_with fail
  go_region
  go_wp2_with fail
  exact bodyPost_ret (res_BoxA Tryz.results95 rfl (own_fin w _ _ ⟨4, client, seq, key, E0, val, old, has, 0, 0, 0⟩)) rfl ⟨rfl, (by (repeat' (first | with_reducible assumption | with_reducible exact Below.refl _ _ | with_reducible refine Below.alloc ?_ ?_ _ | with_reducible refine Below.setCell ?_ ?_ _ | with_reducible refine Below.drew ?_ | omega | (simp; done) | (simp; omega))))⟩
set_option maxHeartbeats 4000000 in
set_option maxRecDepth 100000 in
theorem own_5 (client seq : Int) (key til val old : ByteArray) (has : Bool) (lim id node : Int) (w : World) : Calls Tryz.prog 95 #[av ⟨5, client, seq, key, til, val, old, has, lim, id, node⟩] w fun e w' => e = .returned (av ⟨5, client, seq, key, til, E0, E0, false, lim, 0, 0⟩) ∧ Below w.heap.size w w' := by
  have c := fun w => keyed_any 5 w
  have e : keyedK 5 = true := rfl
  rw [e] at c
  clear e
  go_enter Tryz.func95, Tryz.ntmps95
  go_wp2_with fail
  refine (c _).mono ?_
  rintro e w1 ⟨rfl, rfl⟩
  go_wp2_with fail
  go_region
  go_wp2_with fail
  exact bodyPost_ret (res_BoxA Tryz.results95 rfl (own_fin w _ _ ⟨5, client, seq, key, til, E0, E0, false, lim, 0, 0⟩)) rfl ⟨rfl, (by (repeat' (first | with_reducible assumption | with_reducible exact Below.refl _ _ | with_reducible refine Below.alloc ?_ ?_ _ | with_reducible refine Below.setCell ?_ ?_ _ | with_reducible refine Below.drew ?_ | omega | (simp; done) | (simp; omega))))⟩
set_option maxHeartbeats 4000000 in
set_option maxRecDepth 100000 in
theorem own_7 (client seq : Int) (key til val old : ByteArray) (has : Bool) (lim id node : Int) (w : World) : Calls Tryz.prog 95 #[av ⟨7, client, seq, key, til, val, old, has, lim, id, node⟩] w fun e w' => e = .returned (av ⟨7, client, seq, key, E0, E0, E0, false, 0, id, 0⟩) ∧ Below w.heap.size w w' := by
  have c := fun w => keyed_any 7 w
  have e : keyedK 7 = true := rfl
  rw [e] at c
  clear e
  go_enter Tryz.func95, Tryz.ntmps95
  go_wp2_with fail
  refine (c _).mono ?_
  rintro e w1 ⟨rfl, rfl⟩
  go_wp2_with fail
  exact bodyPost_ret (res_BoxA Tryz.results95 rfl (own_fin w _ _ ⟨7, client, seq, key, E0, E0, E0, false, 0, id, 0⟩)) rfl ⟨rfl, (by (repeat' (first | with_reducible assumption | with_reducible exact Below.refl _ _ | with_reducible refine Below.alloc ?_ ?_ _ | with_reducible refine Below.setCell ?_ ?_ _ | with_reducible refine Below.drew ?_ | omega | (simp; done) | (simp; omega))))⟩
set_option maxHeartbeats 4000000 in
set_option maxRecDepth 100000 in
theorem own_11 (client seq : Int) (key til val old : ByteArray) (has : Bool) (lim id node : Int) (w : World) : Calls Tryz.prog 95 #[av ⟨11, client, seq, key, til, val, old, has, lim, id, node⟩] w fun e w' => e = .returned (av ⟨11, client, seq, key, E0, E0, E0, false, 0, id, 0⟩) ∧ Below w.heap.size w w' := by
  have c := fun w => keyed_any 11 w
  have e : keyedK 11 = true := rfl
  rw [e] at c
  clear e
  go_enter Tryz.func95, Tryz.ntmps95
  go_wp2_with fail
  refine (c _).mono ?_
  rintro e w1 ⟨rfl, rfl⟩
  go_wp2_with fail
  exact bodyPost_ret (res_BoxA Tryz.results95 rfl (own_fin w _ _ ⟨11, client, seq, key, E0, E0, E0, false, 0, id, 0⟩)) rfl ⟨rfl, (by (repeat' (first | with_reducible assumption | with_reducible exact Below.refl _ _ | with_reducible refine Below.alloc ?_ ?_ _ | with_reducible refine Below.setCell ?_ ?_ _ | with_reducible refine Below.drew ?_ | omega | (simp; done) | (simp; omega))))⟩
set_option maxHeartbeats 4000000 in
set_option maxRecDepth 100000 in
theorem own_10 (client seq : Int) (key til val old : ByteArray) (has : Bool) (lim id node : Int) (w : World) : Calls Tryz.prog 95 #[av ⟨10, client, seq, key, til, val, old, has, lim, id, node⟩] w fun e w' => e = .returned (av ⟨10, client, seq, key, E0, E0, E0, false, 0, 0, node⟩) ∧ Below w.heap.size w w' := by
  have c := fun w => keyed_any 10 w
  have e : keyedK 10 = true := rfl
  rw [e] at c
  clear e
  go_enter Tryz.func95, Tryz.ntmps95
  go_wp2_with fail
  refine (c _).mono ?_
  rintro e w1 ⟨rfl, rfl⟩
  go_wp2_with fail
  exact bodyPost_ret (res_BoxA Tryz.results95 rfl (own_fin w _ _ ⟨10, client, seq, key, E0, E0, E0, false, 0, 0, node⟩)) rfl ⟨rfl, (by (repeat' (first | with_reducible assumption | with_reducible exact Below.refl _ _ | with_reducible refine Below.alloc ?_ ?_ _ | with_reducible refine Below.setCell ?_ ?_ _ | with_reducible refine Below.drew ?_ | omega | (simp; done) | (simp; omega))))⟩
set_option maxHeartbeats 4000000 in
set_option maxRecDepth 100000 in
theorem own_13 (client seq : Int) (key til val old : ByteArray) (has : Bool) (lim id node : Int) (w : World) : Calls Tryz.prog 95 #[av ⟨13, client, seq, key, til, val, old, has, lim, id, node⟩] w fun e w' => e = .returned (av ⟨13, client, seq, E0, E0, val, E0, false, lim, 0, 0⟩) ∧ Below w.heap.size w w' := by
  have c := fun w => keyed_any 13 w
  have e : keyedK 13 = false := rfl
  rw [e] at c
  clear e
  go_enter Tryz.func95, Tryz.ntmps95
  go_wp2_with fail
  refine (c _).mono ?_
  rintro e w1 ⟨rfl, rfl⟩
  go_wp2_with fail
  go_region
  go_wp2_with fail
  exact bodyPost_ret (res_BoxA Tryz.results95 rfl (own_fin w _ _ ⟨13, client, seq, E0, E0, val, E0, false, lim, 0, 0⟩)) rfl ⟨rfl, (by (repeat' (first | with_reducible assumption | with_reducible exact Below.refl _ _ | with_reducible refine Below.alloc ?_ ?_ _ | with_reducible refine Below.setCell ?_ ?_ _ | with_reducible refine Below.drew ?_ | omega | (simp; done) | (simp; omega))))⟩
set_option maxHeartbeats 4000000 in
set_option maxRecDepth 100000 in
theorem own_o1 (kind client seq : Int) (key til val old : ByteArray) (has : Bool) (lim id node : Int) (hk : keyedK kind = true) (g2 : (kind == 2) = false) (g9 : (kind == 9) = false) (g4 : (kind == 4) = false) (g5 : (kind == 5) = false) (g7 : (kind == 7) = false) (g11 : (kind == 11) = false) (g10 : (kind == 10) = false) (g13 : (kind == 13) = false) (w : World) : Calls Tryz.prog 95 #[av ⟨kind, client, seq, key, til, val, old, has, lim, id, node⟩] w fun e w' => e = .returned (av ⟨kind, client, seq, key, E0, E0, E0, false, 0, 0, 0⟩) ∧ Below w.heap.size w w' := by
  have c := fun w => keyed_any kind w
  have e : keyedK kind = true := hk
  rw [e] at c
  clear e hk
  go_enter Tryz.func95, Tryz.ntmps95
  go_wp2_with fail
  refine (c _).mono ?_
  rintro e w1 ⟨rfl, rfl⟩
  go_wp2_with fail
  exact bodyPost_ret (res_BoxA Tryz.results95 rfl (own_fin w _ _ ⟨kind, client, seq, key, E0, E0, E0, false, 0, 0, 0⟩)) rfl ⟨rfl, (by (repeat' (first | with_reducible assumption | with_reducible exact Below.refl _ _ | with_reducible refine Below.alloc ?_ ?_ _ | with_reducible refine Below.setCell ?_ ?_ _ | with_reducible refine Below.drew ?_ | omega | (simp; done) | (simp; omega))))⟩
set_option maxHeartbeats 4000000 in
set_option maxRecDepth 100000 in
theorem own_o0 (kind client seq : Int) (key til val old : ByteArray) (has : Bool) (lim id node : Int) (hk : keyedK kind = false) (g2 : (kind == 2) = false) (g9 : (kind == 9) = false) (g4 : (kind == 4) = false) (g5 : (kind == 5) = false) (g7 : (kind == 7) = false) (g11 : (kind == 11) = false) (g10 : (kind == 10) = false) (g13 : (kind == 13) = false) (w : World) : Calls Tryz.prog 95 #[av ⟨kind, client, seq, key, til, val, old, has, lim, id, node⟩] w fun e w' => e = .returned (av ⟨kind, client, seq, E0, E0, E0, E0, false, 0, 0, 0⟩) ∧ Below w.heap.size w w' := by
  have c := fun w => keyed_any kind w
  have e : keyedK kind = false := hk
  rw [e] at c
  clear e hk
  go_enter Tryz.func95, Tryz.ntmps95
  go_wp2_with fail
  refine (c _).mono ?_
  rintro e w1 ⟨rfl, rfl⟩
  go_wp2_with fail
  exact bodyPost_ret (res_BoxA Tryz.results95 rfl (own_fin w _ _ ⟨kind, client, seq, E0, E0, E0, E0, false, 0, 0, 0⟩)) rfl ⟨rfl, (by (repeat' (first | with_reducible assumption | with_reducible exact Below.refl _ _ | with_reducible refine Below.alloc ?_ ?_ _ | with_reducible refine Below.setCell ?_ ?_ _ | with_reducible refine Below.drew ?_ | omega | (simp; done) | (simp; omega))))⟩
end Go.Proofs.YtkpakiiijphjeaaGreatDoor.Od

namespace Go.Proofs.YtkpakiiijphjeaaGreatDoor.Od
open Go.RowKit Bnd
open Go.Proofs.YtkpakiiijphjeaaGreatDoor.O (Bd isB keyB)
open Go.Proofs.YtkpakiiijphjeaaGreatDoor.Bnd (levelT chk keyE)
set_option maxHeartbeats 8000000 in
set_option maxRecDepth 100000 in
theorem fitsKey_any (o : Ask) (w : World) (hk : o.key.size ≤ 140737488355328) : Calls Tryz.prog 111 #[av o] w fun e w' => e = .returned (.bool (fitsKeyA o)) ∧ Below w.heap.size w w' := by
  obtain ⟨kind, client, seq, key, til, val, old, has, lim, id, node⟩ := o
  have ca := among_any
  have cm := fun w => mayCut_any key w hk
  by_cases k1 : kind = 1 ∨ kind = 3 ∨ kind = 8 ∨ kind = 12
  · rw [show fitsKeyA ⟨kind, client, seq, key, til, val, old, has, lim, id, node⟩ = true from if_pos k1]
    rcases k1 with rfl | rfl | rfl | rfl
    all_goals
      go_enter Tryz.func111, Tryz.ntmps111
      go_wp2_with fail
      go_ret
      exact ⟨rfl, (by (repeat' (first | with_reducible assumption | with_reducible exact Below.refl _ _ | with_reducible refine Below.alloc ?_ ?_ _ | with_reducible refine Below.setCell ?_ ?_ _ | with_reducible refine Below.drew ?_ | omega | (simp; done) | (simp; omega))))⟩
  by_cases k2 : kind = 2
  · subst k2
    by_cases h : val.size ≤ 64
    all_goals
      rw [show fitsKeyA ⟨2, client, seq, key, til, val, old, has, lim, id, node⟩ = decide (val.size ≤ 64) from rfl]
      have g : ((val.size : Int) ≤ 64) = (val.size ≤ 64) := by simp; omega
      go_enter Tryz.func111, Tryz.ntmps111
      go_wp2_with fail
      go_ret
      exact ⟨ret_bool (by simp), (by (repeat' (first | with_reducible assumption | with_reducible exact Below.refl _ _ | with_reducible refine Below.alloc ?_ ?_ _ | with_reducible refine Below.setCell ?_ ?_ _ | with_reducible refine Below.drew ?_ | omega | (simp; done) | (simp; omega))))⟩
  by_cases k3 : kind = 4
  · subst k3
    by_cases h : val.size ≤ 64
    rotate_left
    · rw [show fitsKeyA ⟨4, client, seq, key, til, val, old, has, lim, id, node⟩ = false by simp [fitsKeyA, h]]
      have g : ((val.size : Int) ≤ 64) = False := eq_false (by omega)
      go_enter Tryz.func111, Tryz.ntmps111
      go_wp2_with fail
      go_ret
      exact ⟨rfl, (by (repeat' (first | with_reducible assumption | with_reducible exact Below.refl _ _ | with_reducible refine Below.alloc ?_ ?_ _ | with_reducible refine Below.setCell ?_ ?_ _ | with_reducible refine Below.drew ?_ | omega | (simp; done) | (simp; omega))))⟩
    have g : ((val.size : Int) ≤ 64) = True := eq_true (by omega)
    by_cases h2 : old.size ≤ 64
    rotate_left
    · rw [show fitsKeyA ⟨4, client, seq, key, til, val, old, has, lim, id, node⟩ = false by simp [fitsKeyA, h2]]
      have g2 : ((old.size : Int) ≤ 64) = False := eq_false (by omega)
      go_enter Tryz.func111, Tryz.ntmps111
      go_wp2_with fail
      go_ret
      exact ⟨rfl, (by (repeat' (first | with_reducible assumption | with_reducible exact Below.refl _ _ | with_reducible refine Below.alloc ?_ ?_ _ | with_reducible refine Below.setCell ?_ ?_ _ | with_reducible refine Below.drew ?_ | omega | (simp; done) | (simp; omega))))⟩
    have g2 : ((old.size : Int) ≤ 64) = True := eq_true (by omega)
    cases has with
    | true =>
      rw [show fitsKeyA ⟨4, client, seq, key, til, val, old, true, lim, id, node⟩ = true by simp [fitsKeyA, h, h2]]
      go_enter Tryz.func111, Tryz.ntmps111
      go_wp2_with fail
      go_ret
      exact ⟨rfl, (by (repeat' (first | with_reducible assumption | with_reducible exact Below.refl _ _ | with_reducible refine Below.alloc ?_ ?_ _ | with_reducible refine Below.setCell ?_ ?_ _ | with_reducible refine Below.drew ?_ | omega | (simp; done) | (simp; omega))))⟩
    | false =>
      by_cases h3 : old = E0
      · subst h3
        rw [show fitsKeyA ⟨4, client, seq, key, til, val, E0, false, lim, id, node⟩ = true by simp [fitsKeyA, h, h2]]
        go_enter Tryz.func111, Tryz.ntmps111
        go_wp2_with fail
        go_ret
        exact ⟨rfl, (by (repeat' (first | with_reducible assumption | with_reducible exact Below.refl _ _ | with_reducible refine Below.alloc ?_ ?_ _ | with_reducible refine Below.setCell ?_ ?_ _ | with_reducible refine Below.drew ?_ | omega | (simp; done) | (simp; omega))))⟩
      · rw [show fitsKeyA ⟨4, client, seq, key, til, val, old, false, lim, id, node⟩ = false by simp [fitsKeyA, h3]]
        have g3 : old.toList.isEmpty = false := isEmpty_no (fun hh => h3 (empty_of hh))
        go_enter Tryz.func111, Tryz.ntmps111
        go_wp2_with fail
        go_ret
        exact ⟨rfl, (by (repeat' (first | with_reducible assumption | with_reducible exact Below.refl _ _ | with_reducible refine Below.alloc ?_ ?_ _ | with_reducible refine Below.setCell ?_ ?_ _ | with_reducible refine Below.drew ?_ | omega | (simp; done) | (simp; omega))))⟩
  by_cases k4 : kind = 7
  · subst k4
    rw [show fitsKeyA ⟨7, client, seq, key, til, val, old, has, lim, id, node⟩ = (cutLv key && amongB id 2 1099511627776) from rfl]
    cases hc : cutLv key with
    | false =>
      rw [hc] at cm
      go_enter Tryz.func111, Tryz.ntmps111
      go_wp2_with fail
      refine (cm _).mono ?_
      rintro e w1 ⟨rfl, rfl⟩
      go_wp2_with fail
      go_ret
      exact ⟨rfl, (by (repeat' (first | with_reducible assumption | with_reducible exact Below.refl _ _ | with_reducible refine Below.alloc ?_ ?_ _ | with_reducible refine Below.setCell ?_ ?_ _ | with_reducible refine Below.drew ?_ | omega | (simp; done) | (simp; omega))))⟩
    | true =>
      rw [hc] at cm
      go_enter Tryz.func111, Tryz.ntmps111
      go_wp2_with fail
      refine (cm _).mono ?_
      rintro e w1 ⟨rfl, rfl⟩
      go_wp2_with fail
      refine (ca _ _ _ _).mono ?_
      rintro e w1 ⟨rfl, rfl⟩
      go_wp2_with fail
      go_ret
      exact ⟨ret_bool (by simp), (by (repeat' (first | with_reducible assumption | with_reducible exact Below.refl _ _ | with_reducible refine Below.alloc ?_ ?_ _ | with_reducible refine Below.setCell ?_ ?_ _ | with_reducible refine Below.drew ?_ | omega | (simp; done) | (simp; omega))))⟩
  by_cases k5 : kind = 9
  · subst k5
    rw [show fitsKeyA ⟨9, client, seq, key, til, val, old, has, lim, id, node⟩ = amongB (val.size : Int) 1 65536 from rfl]
    go_enter Tryz.func111, Tryz.ntmps111
    go_wp2_with fail
    refine (ca _ _ _ _).mono ?_
    rintro e w1 ⟨rfl, rfl⟩
    go_wp2_with fail
    go_ret
    exact ⟨rfl, (by (repeat' (first | with_reducible assumption | with_reducible exact Below.refl _ _ | with_reducible refine Below.alloc ?_ ?_ _ | with_reducible refine Below.setCell ?_ ?_ _ | with_reducible refine Below.drew ?_ | omega | (simp; done) | (simp; omega))))⟩
  by_cases k6 : kind = 10
  · subst k6
    rw [show fitsKeyA ⟨10, client, seq, key, til, val, old, has, lim, id, node⟩ = amongB node 1 7 from rfl]
    go_enter Tryz.func111, Tryz.ntmps111
    go_wp2_with fail
    refine (ca _ _ _ _).mono ?_
    rintro e w1 ⟨rfl, rfl⟩
    go_wp2_with fail
    go_ret
    exact ⟨rfl, (by (repeat' (first | with_reducible assumption | with_reducible exact Below.refl _ _ | with_reducible refine Below.alloc ?_ ?_ _ | with_reducible refine Below.setCell ?_ ?_ _ | with_reducible refine Below.drew ?_ | omega | (simp; done) | (simp; omega))))⟩
  by_cases k7 : kind = 11
  · subst k7
    rw [show fitsKeyA ⟨11, client, seq, key, til, val, old, has, lim, id, node⟩ = amongB id 1 1099511627776 from rfl]
    go_enter Tryz.func111, Tryz.ntmps111
    go_wp2_with fail
    refine (ca _ _ _ _).mono ?_
    rintro e w1 ⟨rfl, rfl⟩
    go_wp2_with fail
    go_ret
    exact ⟨rfl, (by (repeat' (first | with_reducible assumption | with_reducible exact Below.refl _ _ | with_reducible refine Below.alloc ?_ ?_ _ | with_reducible refine Below.setCell ?_ ?_ _ | with_reducible refine Below.drew ?_ | omega | (simp; done) | (simp; omega))))⟩
  rw [show fitsKeyA ⟨kind, client, seq, key, til, val, old, has, lim, id, node⟩ = false by simp [fitsKeyA, k1, k2, k3, k4, k5, k6, k7]]
  have g1 : (kind == 1) = false := by simp; omega
  have g3 : (kind == 3) = false := by simp; omega
  have g8 : (kind == 8) = false := by simp; omega
  have g12 : (kind == 12) = false := by simp; omega
  have g2 : (kind == 2) = false := by simp; omega
  have g4 : (kind == 4) = false := by simp; omega
  have g7 : (kind == 7) = false := by simp; omega
  have g9 : (kind == 9) = false := by simp; omega
  have g10 : (kind == 10) = false := by simp; omega
  have g11 : (kind == 11) = false := by simp; omega
  clear k1 k2 k3 k4 k5 k6 k7
  go_enter Tryz.func111, Tryz.ntmps111
  go_wp2_with fail
  go_ret
  exact ⟨rfl, (by (repeat' (first | with_reducible assumption | with_reducible exact Below.refl _ _ | with_reducible refine Below.alloc ?_ ?_ _ | with_reducible refine Below.setCell ?_ ?_ _ | with_reducible refine Below.drew ?_ | omega | (simp; done) | (simp; omega))))⟩
theorem parseD_num (s : Ds.Text) : (Ds.parseD s).2 = 0 ∨ (Ds.parseD s).2 = 60 := by
  unfold Ds.parseD
  cases M.untieT s with
  | none => exact .inr rfl
  | some l =>
    simp only
    cases Ds.parseL l with
    | none => exact .inr rfl
    | some d =>
      simp only
      rcases Ds.okD_cases d with ⟨_, h⟩ | h
      · rw [h]; exact .inl rfl
      · rw [h]; exact .inr rfl
set_option maxHeartbeats 8000000 in
set_option maxRecDepth 100000 in
theorem fits_any (o : Ask) (w : World) (hk : o.key.size ≤ 140737488355328) (ht : o.til.size ≤ 140737488355328) (hv : o.val.size ≤ 140737488355328) (hg : Good w) :
    Calls Tryz.prog 97 #[av o] w fun e w' => e = .returned (.bool (fitsA o)) ∧ Below w.heap.size w w' := by
  obtain ⟨kind, client, seq, key, til, val, old, has, lim, id, node⟩ := o
  have ca := among_any
  by_cases k1 : kind = 6
  · rw [show fitsA ⟨kind, client, seq, key, til, val, old, has, lim, id, node⟩ = true from if_pos k1]
    subst k1
    go_enter Tryz.func97, Tryz.ntmps97
    go_wp2_with fail
    go_ret
    exact ⟨rfl, (by (repeat' (first | with_reducible assumption | with_reducible exact Below.refl _ _ | with_reducible refine Below.alloc ?_ ?_ _ | with_reducible refine Below.setCell ?_ ?_ _ | with_reducible refine Below.drew ?_ | omega | (simp; done) | (simp; omega))))⟩
  by_cases k2 : kind = 5
  · subst k2
    have cb := fun w => check_any key til w hk ht
    rw [show fitsA ⟨5, client, seq, key, til, val, old, has, lim, id, node⟩ = (isB (B key til) && amongB lim 1 100) from rfl]
    unfold chk at cb
    cases hb : isB (B key til) with
    | false =>
      rw [hb] at cb
      simp only [Bool.false_eq_true, if_false] at cb
      go_enter Tryz.func97, Tryz.ntmps97
      go_wp2_with fail
      refine (cb _).mono ?_
      rintro e w1 ⟨rfl, b1⟩
      go_wp2_with fail
      have b2 : Below w.heap.size w w1 := (show Below w.heap.size w _ from (by (repeat' (first | with_reducible assumption | with_reducible exact Below.refl _ _ | with_reducible refine Below.alloc ?_ ?_ _ | with_reducible refine Below.setCell ?_ ?_ _ | with_reducible refine Below.drew ?_ | omega | (simp; done) | (simp; omega))))).trans (b1.mono (by simp))
      go_ret
      exact ⟨rfl, (by (repeat' (first | with_reducible assumption | with_reducible exact Below.refl _ _ | with_reducible refine Below.alloc ?_ ?_ _ | with_reducible refine Below.setCell ?_ ?_ _ | with_reducible refine Below.drew ?_ | omega | (simp; done) | (simp; omega))))⟩
    | true =>
      rw [hb] at cb
      simp only [if_true] at cb
      go_enter Tryz.func97, Tryz.ntmps97
      go_wp2_with fail
      refine (cb _).mono ?_
      rintro e w1 ⟨rfl, b1⟩
      have B1 := (BoxA.new w ⟨5, client, seq, key, til, val, old, has, lim, id, node⟩).keep b1
      have b2 : Below w.heap.size w w1 := (show Below w.heap.size w _ from (by (repeat' (first | with_reducible assumption | with_reducible exact Below.refl _ _ | with_reducible refine Below.alloc ?_ ?_ _ | with_reducible refine Below.setCell ?_ ?_ _ | with_reducible refine Below.drew ?_ | omega | (simp; done) | (simp; omega))))).trans (b1.mono (by simp))
      obtain ⟨p_0, ⟨p_1, p_2, p_3, p_4, p_5, p_6, p_7, p_8, p_9, p_10, p_11⟩, p_12⟩ := _root_.id B1
      clear b1 B1
      go_wp2_with fail
      refine (ca _ _ _ _).mono ?_
      rintro e w1 ⟨rfl, rfl⟩
      go_wp2_with fail
      go_ret
      exact ⟨ret_bool (by simp), b2⟩
  by_cases k3 : kind = 13
  · subst k3
    have cp := fun w hg => Ds.parse_any val w hv hg
    rw [show fitsA ⟨13, client, seq, key, til, val, old, has, lim, id, node⟩ = (decide ((Ds.parseD val.data.toList).2 = 0) && amongB lim 1 2) from rfl]
    have hn := parseD_num val.data.toList
    obtain ⟨q, hq⟩ : ∃ q, Ds.parseD val.data.toList = q := ⟨_, rfl⟩
    rw [hq] at hn ⊢
    have cp2 : ∀ w, Good w → Calls Tryz.prog 110 #[.string val] w fun e w' => Ds.Gave w q e w' := by
      intro w hg
      have := cp w hg
      rw [hq] at this
      exact this
    clear cp hq
    obtain ⟨d, n⟩ := q
    simp only at hn
    rcases hn with rfl | rfl
    · simp only [decide_true, Bool.true_and]
      go_enter Tryz.func97, Tryz.ntmps97
      go_wp2_with fail
      refine (cp2 _ (hg.below (by (repeat' (first | with_reducible assumption | with_reducible exact Below.refl _ _ | with_reducible refine Below.alloc ?_ ?_ _ | with_reducible refine Below.setCell ?_ ?_ _ | with_reducible refine Below.drew ?_ | omega | (simp; done) | (simp; omega)))))).mono ?_
      rintro e w1 ⟨s1, rfl, a1, b1⟩
      have B1 := (BoxA.new w ⟨13, client, seq, key, til, val, old, has, lim, id, node⟩).keep b1
      have b2 : Below w.heap.size w w1 := (show Below w.heap.size w _ from (by (repeat' (first | with_reducible assumption | with_reducible exact Below.refl _ _ | with_reducible refine Below.alloc ?_ ?_ _ | with_reducible refine Below.setCell ?_ ?_ _ | with_reducible refine Below.drew ?_ | omega | (simp; done) | (simp; omega))))).trans (b1.mono (by simp))
      have hz := b2.size
      obtain ⟨p_0, ⟨p_1, p_2, p_3, p_4, p_5, p_6, p_7, p_8, p_9, p_10, p_11⟩, p_12⟩ := _root_.id B1
      obtain ⟨A1, k1, rfl⟩ := a1.form
      clear b1 B1 a1
      go_wp2_with fail
      refine (ca _ _ _ _).mono ?_
      rintro e w1 ⟨rfl, rfl⟩
      go_wp2_with fail
      go_ret
      exact ⟨rfl, (by (repeat' (first | with_reducible assumption | with_reducible exact Below.refl _ _ | with_reducible refine Below.alloc ?_ ?_ _ | with_reducible refine Below.setCell ?_ ?_ _ | with_reducible refine Below.drew ?_ | omega | (simp; done) | (simp; omega))))⟩
    · rw [show (decide ((60 : Int) = 0) && amongB lim 1 2) = false from rfl]
      go_enter Tryz.func97, Tryz.ntmps97
      go_wp2_with fail
      refine (cp2 _ (hg.below (by (repeat' (first | with_reducible assumption | with_reducible exact Below.refl _ _ | with_reducible refine Below.alloc ?_ ?_ _ | with_reducible refine Below.setCell ?_ ?_ _ | with_reducible refine Below.drew ?_ | omega | (simp; done) | (simp; omega)))))).mono ?_
      rintro e w1 ⟨s1, rfl, a1, b1⟩
      have B1 := (BoxA.new w ⟨13, client, seq, key, til, val, old, has, lim, id, node⟩).keep b1
      have b2 : Below w.heap.size w w1 := (show Below w.heap.size w _ from (by (repeat' (first | with_reducible assumption | with_reducible exact Below.refl _ _ | with_reducible refine Below.alloc ?_ ?_ _ | with_reducible refine Below.setCell ?_ ?_ _ | with_reducible refine Below.drew ?_ | omega | (simp; done) | (simp; omega))))).trans (b1.mono (by simp))
      have hz := b2.size
      obtain ⟨p_0, ⟨p_1, p_2, p_3, p_4, p_5, p_6, p_7, p_8, p_9, p_10, p_11⟩, p_12⟩ := _root_.id B1
      obtain ⟨A1, k1, rfl⟩ := a1.form
      clear b1 B1 a1
      go_wp2_with fail
      go_ret
      exact ⟨rfl, (by (repeat' (first | with_reducible assumption | with_reducible exact Below.refl _ _ | with_reducible refine Below.alloc ?_ ?_ _ | with_reducible refine Below.setCell ?_ ?_ _ | with_reducible refine Below.drew ?_ | omega | (simp; done) | (simp; omega))))⟩
  have ck := fun w => key_any key w hk
  have cf := fun w => fitsKey_any ⟨kind, client, seq, key, til, val, old, has, lim, id, node⟩ w hk
  obtain ⟨R, hR⟩ : ∃ R, fitsKeyA ⟨kind, client, seq, key, til, val, old, has, lim, id, node⟩ = R := ⟨_, rfl⟩
  rw [show fitsA ⟨kind, client, seq, key, til, val, old, has, lim, id, node⟩ = (keyB key.toList && fitsKeyA ⟨kind, client, seq, key, til, val, old, has, lim, id, node⟩) by simp [fitsA, k1, k2, k3]]
  rw [hR] at cf ⊢
  have g1 : (kind == 6) = false := by simp; omega
  have g2 : (kind == 5) = false := by simp; omega
  have g3 : (kind == 13) = false := by simp; omega
  clear k1 k2 k3 hR
  unfold keyE at ck
  cases hb : keyB key.toList with
  | false =>
    rw [hb] at ck
    simp only [Bool.false_eq_true, if_false] at ck
    go_enter Tryz.func97, Tryz.ntmps97
    go_wp2_with fail
    refine (ck _).mono ?_
    rintro e w1 ⟨rfl, rfl⟩
    go_wp2_with fail
    go_ret
    exact ⟨rfl, (by (repeat' (first | with_reducible assumption | with_reducible exact Below.refl _ _ | with_reducible refine Below.alloc ?_ ?_ _ | with_reducible refine Below.setCell ?_ ?_ _ | with_reducible refine Below.drew ?_ | omega | (simp; done) | (simp; omega))))⟩
  | true =>
    rw [hb] at ck
    simp only [if_true] at ck
    go_enter Tryz.func97, Tryz.ntmps97
    go_wp2_with fail
    refine (ck _).mono ?_
    rintro e w1 ⟨rfl, rfl⟩
    go_wp2_with fail
    refine (cf _).mono ?_
    rintro e w2 ⟨rfl, b2⟩
    go_wp2_with fail
    go_ret
    exact ⟨ret_bool (by simp), (show Below w.heap.size w _ from (by (repeat' (first | with_reducible assumption | with_reducible exact Below.refl _ _ | with_reducible refine Below.alloc ?_ ?_ _ | with_reducible refine Below.setCell ?_ ?_ _ | with_reducible refine Below.drew ?_ | omega | (simp; done) | (simp; omega))))).trans (b2.mono (by simp))⟩
end Go.Proofs.YtkpakiiijphjeaaGreatDoor.Od
