/-
  own, the program's: an order with nothing but the fields of its kind. No condition.
-/
import Derived.Test.YthglghlkchhjlaaGreatDoorOdA
namespace Go.Proofs.YthglghlkchhjlaaGreatDoor.Od
open Go.RowKit Bnd

theorem own_fin (w : World) (X Y : Obj) (r : Ask) : BoxA (w.heap.size + 1) r (((w.alloc X).alloc (.cells #[.int .i64 r.kind, .int .i64 r.client, .int .i64 r.seq, .string r.key, .string r.til, .string r.val, .string r.old, .bool r.has, .int .i64 r.lim, .int .i64 r.id, .int .i64 r.node] 23)).alloc Y) := by
  have := (BoxA.new (w.alloc X) r).alloc Y
  simpa using this
set_option maxHeartbeats 4000000 in
set_option maxRecDepth 100000 in
theorem own_2 (client seq : Int) (key til val old : ByteArray) (has : Bool) (lim id node : Int) (w : World) : Calls Tryz.prog 38 #[av ⟨2, client, seq, key, til, val, old, has, lim, id, node⟩] w fun e w' => e = .returned (av ⟨2, client, seq, key, E0, val, E0, false, 0, 0, 0⟩) ∧ Below w.heap.size w w' := by
  have c := fun w => keyed_any 2 w
  have e : keyedK 2 = true := rfl
  rw [e] at c
  clear e
  go_enter Tryz.func38, Tryz.ntmps38
  go_wp2_with fail
  refine (c _).mono ?_
  rintro e w1 ⟨rfl, rfl⟩
  go_wp2_with fail
  exact bodyPost_ret (res_BoxA Tryz.results38 rfl (own_fin w _ _ ⟨2, client, seq, key, E0, val, E0, false, 0, 0, 0⟩)) rfl ⟨rfl, (by (repeat' (first | with_reducible assumption | with_reducible exact Below.refl _ _ | with_reducible refine Below.alloc ?_ ?_ _ | with_reducible refine Below.setCell ?_ ?_ _ | with_reducible refine Below.drew ?_ | omega | (simp; done) | (simp; omega))))⟩
set_option maxHeartbeats 4000000 in
set_option maxRecDepth 100000 in
theorem own_9 (client seq : Int) (key til val old : ByteArray) (has : Bool) (lim id node : Int) (w : World) : Calls Tryz.prog 38 #[av ⟨9, client, seq, key, til, val, old, has, lim, id, node⟩] w fun e w' => e = .returned (av ⟨9, client, seq, key, E0, val, E0, false, 0, 0, 0⟩) ∧ Below w.heap.size w w' := by
  have c := fun w => keyed_any 9 w
  have e : keyedK 9 = true := rfl
  rw [e] at c
  clear e
  go_enter Tryz.func38, Tryz.ntmps38
  go_wp2_with fail
  refine (c _).mono ?_
  rintro e w1 ⟨rfl, rfl⟩
  go_wp2_with fail
  exact bodyPost_ret (res_BoxA Tryz.results38 rfl (own_fin w _ _ ⟨9, client, seq, key, E0, val, E0, false, 0, 0, 0⟩)) rfl ⟨rfl, (by (repeat' (first | with_reducible assumption | with_reducible exact Below.refl _ _ | with_reducible refine Below.alloc ?_ ?_ _ | with_reducible refine Below.setCell ?_ ?_ _ | with_reducible refine Below.drew ?_ | omega | (simp; done) | (simp; omega))))⟩
set_option maxHeartbeats 4000000 in
set_option maxRecDepth 100000 in
theorem own_4 (client seq : Int) (key til val old : ByteArray) (has : Bool) (lim id node : Int) (w : World) : Calls Tryz.prog 38 #[av ⟨4, client, seq, key, til, val, old, has, lim, id, node⟩] w fun e w' => e = .returned (av ⟨4, client, seq, key, E0, val, old, has, 0, 0, 0⟩) ∧ Below w.heap.size w w' := by
  have c := fun w => keyed_any 4 w
  have e : keyedK 4 = true := rfl
  rw [e] at c
  clear e
  go_enter Tryz.func38, Tryz.ntmps38
  go_wp2_with fail
  refine (c _).mono ?_
  rintro e w1 ⟨rfl, rfl⟩
  go_wp2_with fail
  go_region
  go_wp2_with fail
  exact bodyPost_ret (res_BoxA Tryz.results38 rfl (own_fin w _ _ ⟨4, client, seq, key, E0, val, old, has, 0, 0, 0⟩)) rfl ⟨rfl, (by (repeat' (first | with_reducible assumption | with_reducible exact Below.refl _ _ | with_reducible refine Below.alloc ?_ ?_ _ | with_reducible refine Below.setCell ?_ ?_ _ | with_reducible refine Below.drew ?_ | omega | (simp; done) | (simp; omega))))⟩
set_option maxHeartbeats 4000000 in
set_option maxRecDepth 100000 in
theorem own_5 (client seq : Int) (key til val old : ByteArray) (has : Bool) (lim id node : Int) (w : World) : Calls Tryz.prog 38 #[av ⟨5, client, seq, key, til, val, old, has, lim, id, node⟩] w fun e w' => e = .returned (av ⟨5, client, seq, key, til, E0, E0, false, lim, 0, 0⟩) ∧ Below w.heap.size w w' := by
  have c := fun w => keyed_any 5 w
  have e : keyedK 5 = true := rfl
  rw [e] at c
  clear e
  go_enter Tryz.func38, Tryz.ntmps38
  go_wp2_with fail
  refine (c _).mono ?_
  rintro e w1 ⟨rfl, rfl⟩
  go_wp2_with fail
  go_region
  go_wp2_with fail
  exact bodyPost_ret (res_BoxA Tryz.results38 rfl (own_fin w _ _ ⟨5, client, seq, key, til, E0, E0, false, lim, 0, 0⟩)) rfl ⟨rfl, (by (repeat' (first | with_reducible assumption | with_reducible exact Below.refl _ _ | with_reducible refine Below.alloc ?_ ?_ _ | with_reducible refine Below.setCell ?_ ?_ _ | with_reducible refine Below.drew ?_ | omega | (simp; done) | (simp; omega))))⟩
set_option maxHeartbeats 4000000 in
set_option maxRecDepth 100000 in
theorem own_7 (client seq : Int) (key til val old : ByteArray) (has : Bool) (lim id node : Int) (w : World) : Calls Tryz.prog 38 #[av ⟨7, client, seq, key, til, val, old, has, lim, id, node⟩] w fun e w' => e = .returned (av ⟨7, client, seq, key, E0, E0, E0, false, 0, id, 0⟩) ∧ Below w.heap.size w w' := by
  have c := fun w => keyed_any 7 w
  have e : keyedK 7 = true := rfl
  rw [e] at c
  clear e
  go_enter Tryz.func38, Tryz.ntmps38
  go_wp2_with fail
  refine (c _).mono ?_
  rintro e w1 ⟨rfl, rfl⟩
  go_wp2_with fail
  exact bodyPost_ret (res_BoxA Tryz.results38 rfl (own_fin w _ _ ⟨7, client, seq, key, E0, E0, E0, false, 0, id, 0⟩)) rfl ⟨rfl, (by (repeat' (first | with_reducible assumption | with_reducible exact Below.refl _ _ | with_reducible refine Below.alloc ?_ ?_ _ | with_reducible refine Below.setCell ?_ ?_ _ | with_reducible refine Below.drew ?_ | omega | (simp; done) | (simp; omega))))⟩
set_option maxHeartbeats 4000000 in
set_option maxRecDepth 100000 in
theorem own_11 (client seq : Int) (key til val old : ByteArray) (has : Bool) (lim id node : Int) (w : World) : Calls Tryz.prog 38 #[av ⟨11, client, seq, key, til, val, old, has, lim, id, node⟩] w fun e w' => e = .returned (av ⟨11, client, seq, key, E0, E0, E0, false, 0, id, 0⟩) ∧ Below w.heap.size w w' := by
  have c := fun w => keyed_any 11 w
  have e : keyedK 11 = true := rfl
  rw [e] at c
  clear e
  go_enter Tryz.func38, Tryz.ntmps38
  go_wp2_with fail
  refine (c _).mono ?_
  rintro e w1 ⟨rfl, rfl⟩
  go_wp2_with fail
  exact bodyPost_ret (res_BoxA Tryz.results38 rfl (own_fin w _ _ ⟨11, client, seq, key, E0, E0, E0, false, 0, id, 0⟩)) rfl ⟨rfl, (by (repeat' (first | with_reducible assumption | with_reducible exact Below.refl _ _ | with_reducible refine Below.alloc ?_ ?_ _ | with_reducible refine Below.setCell ?_ ?_ _ | with_reducible refine Below.drew ?_ | omega | (simp; done) | (simp; omega))))⟩
set_option maxHeartbeats 4000000 in
set_option maxRecDepth 100000 in
theorem own_10 (client seq : Int) (key til val old : ByteArray) (has : Bool) (lim id node : Int) (w : World) : Calls Tryz.prog 38 #[av ⟨10, client, seq, key, til, val, old, has, lim, id, node⟩] w fun e w' => e = .returned (av ⟨10, client, seq, key, E0, E0, E0, false, 0, 0, node⟩) ∧ Below w.heap.size w w' := by
  have c := fun w => keyed_any 10 w
  have e : keyedK 10 = true := rfl
  rw [e] at c
  clear e
  go_enter Tryz.func38, Tryz.ntmps38
  go_wp2_with fail
  refine (c _).mono ?_
  rintro e w1 ⟨rfl, rfl⟩
  go_wp2_with fail
  exact bodyPost_ret (res_BoxA Tryz.results38 rfl (own_fin w _ _ ⟨10, client, seq, key, E0, E0, E0, false, 0, 0, node⟩)) rfl ⟨rfl, (by (repeat' (first | with_reducible assumption | with_reducible exact Below.refl _ _ | with_reducible refine Below.alloc ?_ ?_ _ | with_reducible refine Below.setCell ?_ ?_ _ | with_reducible refine Below.drew ?_ | omega | (simp; done) | (simp; omega))))⟩
set_option maxHeartbeats 4000000 in
set_option maxRecDepth 100000 in
theorem own_13 (client seq : Int) (key til val old : ByteArray) (has : Bool) (lim id node : Int) (w : World) : Calls Tryz.prog 38 #[av ⟨13, client, seq, key, til, val, old, has, lim, id, node⟩] w fun e w' => e = .returned (av ⟨13, client, seq, E0, E0, val, E0, false, lim, 0, 0⟩) ∧ Below w.heap.size w w' := by
  have c := fun w => keyed_any 13 w
  have e : keyedK 13 = false := rfl
  rw [e] at c
  clear e
  go_enter Tryz.func38, Tryz.ntmps38
  go_wp2_with fail
  refine (c _).mono ?_
  rintro e w1 ⟨rfl, rfl⟩
  go_wp2_with fail
  go_region
  go_wp2_with fail
  exact bodyPost_ret (res_BoxA Tryz.results38 rfl (own_fin w _ _ ⟨13, client, seq, E0, E0, val, E0, false, lim, 0, 0⟩)) rfl ⟨rfl, (by (repeat' (first | with_reducible assumption | with_reducible exact Below.refl _ _ | with_reducible refine Below.alloc ?_ ?_ _ | with_reducible refine Below.setCell ?_ ?_ _ | with_reducible refine Below.drew ?_ | omega | (simp; done) | (simp; omega))))⟩
set_option maxHeartbeats 4000000 in
set_option maxRecDepth 100000 in
theorem own_o1 (kind client seq : Int) (key til val old : ByteArray) (has : Bool) (lim id node : Int) (hk : keyedK kind = true) (g2 : (kind == 2) = false) (g9 : (kind == 9) = false) (g4 : (kind == 4) = false) (g5 : (kind == 5) = false) (g7 : (kind == 7) = false) (g11 : (kind == 11) = false) (g10 : (kind == 10) = false) (g13 : (kind == 13) = false) (w : World) : Calls Tryz.prog 38 #[av ⟨kind, client, seq, key, til, val, old, has, lim, id, node⟩] w fun e w' => e = .returned (av ⟨kind, client, seq, key, E0, E0, E0, false, 0, 0, 0⟩) ∧ Below w.heap.size w w' := by
  have c := fun w => keyed_any kind w
  have e : keyedK kind = true := hk
  rw [e] at c
  clear e hk
  go_enter Tryz.func38, Tryz.ntmps38
  go_wp2_with fail
  refine (c _).mono ?_
  rintro e w1 ⟨rfl, rfl⟩
  go_wp2_with fail
  exact bodyPost_ret (res_BoxA Tryz.results38 rfl (own_fin w _ _ ⟨kind, client, seq, key, E0, E0, E0, false, 0, 0, 0⟩)) rfl ⟨rfl, (by (repeat' (first | with_reducible assumption | with_reducible exact Below.refl _ _ | with_reducible refine Below.alloc ?_ ?_ _ | with_reducible refine Below.setCell ?_ ?_ _ | with_reducible refine Below.drew ?_ | omega | (simp; done) | (simp; omega))))⟩
set_option maxHeartbeats 4000000 in
set_option maxRecDepth 100000 in
theorem own_o0 (kind client seq : Int) (key til val old : ByteArray) (has : Bool) (lim id node : Int) (hk : keyedK kind = false) (g2 : (kind == 2) = false) (g9 : (kind == 9) = false) (g4 : (kind == 4) = false) (g5 : (kind == 5) = false) (g7 : (kind == 7) = false) (g11 : (kind == 11) = false) (g10 : (kind == 10) = false) (g13 : (kind == 13) = false) (w : World) : Calls Tryz.prog 38 #[av ⟨kind, client, seq, key, til, val, old, has, lim, id, node⟩] w fun e w' => e = .returned (av ⟨kind, client, seq, E0, E0, E0, E0, false, 0, 0, 0⟩) ∧ Below w.heap.size w w' := by
  have c := fun w => keyed_any kind w
  have e : keyedK kind = false := hk
  rw [e] at c
  clear e hk
  go_enter Tryz.func38, Tryz.ntmps38
  go_wp2_with fail
  refine (c _).mono ?_
  rintro e w1 ⟨rfl, rfl⟩
  go_wp2_with fail
  exact bodyPost_ret (res_BoxA Tryz.results38 rfl (own_fin w _ _ ⟨kind, client, seq, E0, E0, E0, E0, false, 0, 0, 0⟩)) rfl ⟨rfl, (by (repeat' (first | with_reducible assumption | with_reducible exact Below.refl _ _ | with_reducible refine Below.alloc ?_ ?_ _ | with_reducible refine Below.setCell ?_ ?_ _ | with_reducible refine Below.drew ?_ | omega | (simp; done) | (simp; omega))))⟩
end Go.Proofs.YthglghlkchhjlaaGreatDoor.Od

