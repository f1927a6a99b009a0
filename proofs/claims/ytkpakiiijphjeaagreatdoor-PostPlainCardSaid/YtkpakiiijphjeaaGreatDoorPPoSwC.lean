/-
  Same of messages, the program's, where a number is another one. Condition: at most 10^9 entries.
  Same of messages, the program's, where all numbers are the same. Condition: at most 10^9 entries.
-/
import Derived.Test.YtkpakiiijphjeaaGreatDoorPPoSame
namespace Go.Proofs.YtkpakiiijphjeaaGreatDoor.Po
open Go.RowKit Bnd
open Ds (int_yes int_no)
open Od (bool_no bool_yes)
open Ro (En SE)
attribute [local go_sem ↓] Go.wp_at_zero Go.wp_at_succ
set_option maxHeartbeats 4000000 in
set_option maxRecDepth 100000 in
theorem sameWire_any_n6 (a b : Wr) (A D : Option Addr) (N M c d : Nat) (w : World) (h0 : a.kind = b.kind) (h1 : a.frm = b.frm) (h2 : a.til = b.til) (h3 : a.term = b.term) (h4 : a.index = b.index) (h5 : a.lterm = b.lterm) (h6 : ¬ a.commit = b.commit) : Calls Tryz.prog 28 #[wv a (.slice A N c), wv b (.slice D M d)] w fun e w' => e = .returned (.bool false) ∧ Below w.heap.size w w' := by
  obtain ⟨n0, m0, l0⟩ := int_yes h0
  obtain ⟨n1, m1, l1⟩ := int_yes h1
  obtain ⟨n2, m2, l2⟩ := int_yes h2
  obtain ⟨n3, m3, l3⟩ := int_yes h3
  obtain ⟨n4, m4, l4⟩ := int_yes h4
  obtain ⟨n5, m5, l5⟩ := int_yes h5
  obtain ⟨n6, m6, l6⟩ := int_no h6
  clear h0 h1 h2 h3 h4 h5 h6
  go_enter Tryz.func28, Tryz.ntmps28
  go_wp2_with (refine wpList_boxW (o := ⟨a, .slice A N c⟩) rfl rfl rfl ?_)
  intro W0 A0 ha0 hz0
  go_wp2_with (refine wpList_boxW (o := ⟨b, .slice D M d⟩) rfl rfl rfl ?_)
  intro W1 B1 hb1 hz1
  have A1 := A0.below (by omega) hb1
  have hW : Below w.heap.size w W1 := ha0.trans (hb1.mono (by omega))
  clear A0 ha0 hb1
  have p0 : W1.cell? ⟨w.heap.size, 0, none⟩ = some (.int .i64 a.kind) := A1.cell 0
  have q0 : W1.cell? ⟨w.heap.size + 1, 0, none⟩ = some (.int .i64 b.kind) := B1.cell 0
  have p1 : W1.cell? ⟨w.heap.size, 1, none⟩ = some (.int .i64 a.frm) := A1.cell 1
  have q1 : W1.cell? ⟨w.heap.size + 1, 1, none⟩ = some (.int .i64 b.frm) := B1.cell 1
  have p2 : W1.cell? ⟨w.heap.size, 2, none⟩ = some (.int .i64 a.til) := A1.cell 2
  have q2 : W1.cell? ⟨w.heap.size + 1, 2, none⟩ = some (.int .i64 b.til) := B1.cell 2
  have p3 : W1.cell? ⟨w.heap.size, 3, none⟩ = some (.int .i64 a.term) := A1.cell 3
  have q3 : W1.cell? ⟨w.heap.size + 1, 3, none⟩ = some (.int .i64 b.term) := B1.cell 3
  have p4 : W1.cell? ⟨w.heap.size, 4, none⟩ = some (.int .i64 a.index) := A1.cell 4
  have q4 : W1.cell? ⟨w.heap.size + 1, 4, none⟩ = some (.int .i64 b.index) := B1.cell 4
  have p5 : W1.cell? ⟨w.heap.size, 5, none⟩ = some (.int .i64 a.lterm) := A1.cell 5
  have q5 : W1.cell? ⟨w.heap.size + 1, 5, none⟩ = some (.int .i64 b.lterm) := B1.cell 5
  have p6 : W1.cell? ⟨w.heap.size, 6, none⟩ = some (.int .i64 a.commit) := A1.cell 6
  have q6 : W1.cell? ⟨w.heap.size + 1, 6, none⟩ = some (.int .i64 b.commit) := B1.cell 6
  clear A1 B1
  go_wp2_with fail
  go_ret
  exact ⟨rfl, hW⟩
set_option maxHeartbeats 4000000 in
set_option maxRecDepth 100000 in
theorem sameWire_any_n7 (a b : Wr) (A D : Option Addr) (N M c d : Nat) (w : World) (h0 : a.kind = b.kind) (h1 : a.frm = b.frm) (h2 : a.til = b.til) (h3 : a.term = b.term) (h4 : a.index = b.index) (h5 : a.lterm = b.lterm) (h6 : a.commit = b.commit) (h7 : ¬ a.hint = b.hint) : Calls Tryz.prog 28 #[wv a (.slice A N c), wv b (.slice D M d)] w fun e w' => e = .returned (.bool false) ∧ Below w.heap.size w w' := by
  obtain ⟨n0, m0, l0⟩ := int_yes h0
  obtain ⟨n1, m1, l1⟩ := int_yes h1
  obtain ⟨n2, m2, l2⟩ := int_yes h2
  obtain ⟨n3, m3, l3⟩ := int_yes h3
  obtain ⟨n4, m4, l4⟩ := int_yes h4
  obtain ⟨n5, m5, l5⟩ := int_yes h5
  obtain ⟨n6, m6, l6⟩ := int_yes h6
  obtain ⟨n7, m7, l7⟩ := int_no h7
  clear h0 h1 h2 h3 h4 h5 h6 h7
  go_enter Tryz.func28, Tryz.ntmps28
  go_wp2_with (refine wpList_boxW (o := ⟨a, .slice A N c⟩) rfl rfl rfl ?_)
  intro W0 A0 ha0 hz0
  go_wp2_with (refine wpList_boxW (o := ⟨b, .slice D M d⟩) rfl rfl rfl ?_)
  intro W1 B1 hb1 hz1
  have A1 := A0.below (by omega) hb1
  have hW : Below w.heap.size w W1 := ha0.trans (hb1.mono (by omega))
  clear A0 ha0 hb1
  have p0 : W1.cell? ⟨w.heap.size, 0, none⟩ = some (.int .i64 a.kind) := A1.cell 0
  have q0 : W1.cell? ⟨w.heap.size + 1, 0, none⟩ = some (.int .i64 b.kind) := B1.cell 0
  have p1 : W1.cell? ⟨w.heap.size, 1, none⟩ = some (.int .i64 a.frm) := A1.cell 1
  have q1 : W1.cell? ⟨w.heap.size + 1, 1, none⟩ = some (.int .i64 b.frm) := B1.cell 1
  have p2 : W1.cell? ⟨w.heap.size, 2, none⟩ = some (.int .i64 a.til) := A1.cell 2
  have q2 : W1.cell? ⟨w.heap.size + 1, 2, none⟩ = some (.int .i64 b.til) := B1.cell 2
  have p3 : W1.cell? ⟨w.heap.size, 3, none⟩ = some (.int .i64 a.term) := A1.cell 3
  have q3 : W1.cell? ⟨w.heap.size + 1, 3, none⟩ = some (.int .i64 b.term) := B1.cell 3
  have p4 : W1.cell? ⟨w.heap.size, 4, none⟩ = some (.int .i64 a.index) := A1.cell 4
  have q4 : W1.cell? ⟨w.heap.size + 1, 4, none⟩ = some (.int .i64 b.index) := B1.cell 4
  have p5 : W1.cell? ⟨w.heap.size, 5, none⟩ = some (.int .i64 a.lterm) := A1.cell 5
  have q5 : W1.cell? ⟨w.heap.size + 1, 5, none⟩ = some (.int .i64 b.lterm) := B1.cell 5
  have p6 : W1.cell? ⟨w.heap.size, 6, none⟩ = some (.int .i64 a.commit) := A1.cell 6
  have q6 : W1.cell? ⟨w.heap.size + 1, 6, none⟩ = some (.int .i64 b.commit) := B1.cell 6
  have p7 : W1.cell? ⟨w.heap.size, 7, none⟩ = some (.int .i64 a.hint) := A1.cell 7
  have q7 : W1.cell? ⟨w.heap.size + 1, 7, none⟩ = some (.int .i64 b.hint) := B1.cell 7
  clear A1 B1
  go_wp2_with fail
  go_ret
  exact ⟨rfl, hW⟩
set_option maxHeartbeats 4000000 in
set_option maxRecDepth 100000 in
theorem sameWire_any_n8 (a b : Wr) (A D : Option Addr) (N M c d : Nat) (w : World) (h0 : a.kind = b.kind) (h1 : a.frm = b.frm) (h2 : a.til = b.til) (h3 : a.term = b.term) (h4 : a.index = b.index) (h5 : a.lterm = b.lterm) (h6 : a.commit = b.commit) (h7 : a.hint = b.hint) (h8 : ¬ a.reject = b.reject) : Calls Tryz.prog 28 #[wv a (.slice A N c), wv b (.slice D M d)] w fun e w' => e = .returned (.bool false) ∧ Below w.heap.size w w' := by
  obtain ⟨n0, m0, l0⟩ := int_yes h0
  obtain ⟨n1, m1, l1⟩ := int_yes h1
  obtain ⟨n2, m2, l2⟩ := int_yes h2
  obtain ⟨n3, m3, l3⟩ := int_yes h3
  obtain ⟨n4, m4, l4⟩ := int_yes h4
  obtain ⟨n5, m5, l5⟩ := int_yes h5
  obtain ⟨n6, m6, l6⟩ := int_yes h6
  obtain ⟨n7, m7, l7⟩ := int_yes h7
  obtain ⟨n8, m8, l8⟩ := bool_no h8
  clear h0 h1 h2 h3 h4 h5 h6 h7 h8
  go_enter Tryz.func28, Tryz.ntmps28
  go_wp2_with (refine wpList_boxW (o := ⟨a, .slice A N c⟩) rfl rfl rfl ?_)
  intro W0 A0 ha0 hz0
  go_wp2_with (refine wpList_boxW (o := ⟨b, .slice D M d⟩) rfl rfl rfl ?_)
  intro W1 B1 hb1 hz1
  have A1 := A0.below (by omega) hb1
  have hW : Below w.heap.size w W1 := ha0.trans (hb1.mono (by omega))
  clear A0 ha0 hb1
  have p0 : W1.cell? ⟨w.heap.size, 0, none⟩ = some (.int .i64 a.kind) := A1.cell 0
  have q0 : W1.cell? ⟨w.heap.size + 1, 0, none⟩ = some (.int .i64 b.kind) := B1.cell 0
  have p1 : W1.cell? ⟨w.heap.size, 1, none⟩ = some (.int .i64 a.frm) := A1.cell 1
  have q1 : W1.cell? ⟨w.heap.size + 1, 1, none⟩ = some (.int .i64 b.frm) := B1.cell 1
  have p2 : W1.cell? ⟨w.heap.size, 2, none⟩ = some (.int .i64 a.til) := A1.cell 2
  have q2 : W1.cell? ⟨w.heap.size + 1, 2, none⟩ = some (.int .i64 b.til) := B1.cell 2
  have p3 : W1.cell? ⟨w.heap.size, 3, none⟩ = some (.int .i64 a.term) := A1.cell 3
  have q3 : W1.cell? ⟨w.heap.size + 1, 3, none⟩ = some (.int .i64 b.term) := B1.cell 3
  have p4 : W1.cell? ⟨w.heap.size, 4, none⟩ = some (.int .i64 a.index) := A1.cell 4
  have q4 : W1.cell? ⟨w.heap.size + 1, 4, none⟩ = some (.int .i64 b.index) := B1.cell 4
  have p5 : W1.cell? ⟨w.heap.size, 5, none⟩ = some (.int .i64 a.lterm) := A1.cell 5
  have q5 : W1.cell? ⟨w.heap.size + 1, 5, none⟩ = some (.int .i64 b.lterm) := B1.cell 5
  have p6 : W1.cell? ⟨w.heap.size, 6, none⟩ = some (.int .i64 a.commit) := A1.cell 6
  have q6 : W1.cell? ⟨w.heap.size + 1, 6, none⟩ = some (.int .i64 b.commit) := B1.cell 6
  have p7 : W1.cell? ⟨w.heap.size, 7, none⟩ = some (.int .i64 a.hint) := A1.cell 7
  have q7 : W1.cell? ⟨w.heap.size + 1, 7, none⟩ = some (.int .i64 b.hint) := B1.cell 7
  have p8 : W1.cell? ⟨w.heap.size, 8, none⟩ = some (.bool a.reject) := A1.cell 8
  have q8 : W1.cell? ⟨w.heap.size + 1, 8, none⟩ = some (.bool b.reject) := B1.cell 8
  clear A1 B1
  go_wp2_with fail
  go_ret
  exact ⟨rfl, hW⟩
end Go.Proofs.YtkpakiiijphjeaaGreatDoor.Po

namespace Go.Proofs.YtkpakiiijphjeaaGreatDoor.Po
open Go.RowKit Bnd
open Ds (int_yes int_no)
open Od (bool_no bool_yes)
open Ro (En SE)
attribute [local go_sem ↓] Go.wp_at_zero Go.wp_at_succ
set_option maxHeartbeats 4000000 in
set_option maxRecDepth 100000 in
theorem sameWire_any_y (a b : Wr) (A D : Option Addr) (N M c d : Nat) (w : World) (h0 : a.kind = b.kind) (h1 : a.frm = b.frm) (h2 : a.til = b.til) (h3 : a.term = b.term) (h4 : a.index = b.index) (h5 : a.lterm = b.lterm) (h6 : a.commit = b.commit) (h7 : a.hint = b.hint) (h8 : a.reject = b.reject) (cc2 : ∀ w1, Below w.heap.size w w1 → Calls Tryz.prog 70 #[.slice A N c, .slice D M d] w1 fun e w' => e = .returned (.bool true) ∧ Below w1.heap.size w1 w') : Calls Tryz.prog 28 #[wv a (.slice A N c), wv b (.slice D M d)] w fun e w' => e = .returned (.bool (a.text.toList == b.text.toList)) ∧ Below w.heap.size w w' := by
  obtain ⟨n0, m0, l0⟩ := int_yes h0
  obtain ⟨n1, m1, l1⟩ := int_yes h1
  obtain ⟨n2, m2, l2⟩ := int_yes h2
  obtain ⟨n3, m3, l3⟩ := int_yes h3
  obtain ⟨n4, m4, l4⟩ := int_yes h4
  obtain ⟨n5, m5, l5⟩ := int_yes h5
  obtain ⟨n6, m6, l6⟩ := int_yes h6
  obtain ⟨n7, m7, l7⟩ := int_yes h7
  obtain ⟨n8, m8, l8⟩ := bool_yes h8
  clear h0 h1 h2 h3 h4 h5 h6 h7 h8
  go_enter Tryz.func28, Tryz.ntmps28
  go_wp2_with (refine wpList_boxW (o := ⟨a, .slice A N c⟩) rfl rfl rfl ?_)
  intro W0 A0 ha0 hz0
  go_wp2_with (refine wpList_boxW (o := ⟨b, .slice D M d⟩) rfl rfl rfl ?_)
  intro W1 B1 hb1 hz1
  have A1 := A0.below (by omega) hb1
  have hW : Below w.heap.size w W1 := ha0.trans (hb1.mono (by omega))
  clear A0 ha0 hb1
  have p0 : W1.cell? ⟨w.heap.size, 0, none⟩ = some (.int .i64 a.kind) := A1.cell 0
  have q0 : W1.cell? ⟨w.heap.size + 1, 0, none⟩ = some (.int .i64 b.kind) := B1.cell 0
  have p1 : W1.cell? ⟨w.heap.size, 1, none⟩ = some (.int .i64 a.frm) := A1.cell 1
  have q1 : W1.cell? ⟨w.heap.size + 1, 1, none⟩ = some (.int .i64 b.frm) := B1.cell 1
  have p2 : W1.cell? ⟨w.heap.size, 2, none⟩ = some (.int .i64 a.til) := A1.cell 2
  have q2 : W1.cell? ⟨w.heap.size + 1, 2, none⟩ = some (.int .i64 b.til) := B1.cell 2
  have p3 : W1.cell? ⟨w.heap.size, 3, none⟩ = some (.int .i64 a.term) := A1.cell 3
  have q3 : W1.cell? ⟨w.heap.size + 1, 3, none⟩ = some (.int .i64 b.term) := B1.cell 3
  have p4 : W1.cell? ⟨w.heap.size, 4, none⟩ = some (.int .i64 a.index) := A1.cell 4
  have q4 : W1.cell? ⟨w.heap.size + 1, 4, none⟩ = some (.int .i64 b.index) := B1.cell 4
  have p5 : W1.cell? ⟨w.heap.size, 5, none⟩ = some (.int .i64 a.lterm) := A1.cell 5
  have q5 : W1.cell? ⟨w.heap.size + 1, 5, none⟩ = some (.int .i64 b.lterm) := B1.cell 5
  have p6 : W1.cell? ⟨w.heap.size, 6, none⟩ = some (.int .i64 a.commit) := A1.cell 6
  have q6 : W1.cell? ⟨w.heap.size + 1, 6, none⟩ = some (.int .i64 b.commit) := B1.cell 6
  have p7 : W1.cell? ⟨w.heap.size, 7, none⟩ = some (.int .i64 a.hint) := A1.cell 7
  have q7 : W1.cell? ⟨w.heap.size + 1, 7, none⟩ = some (.int .i64 b.hint) := B1.cell 7
  have p8 : W1.cell? ⟨w.heap.size, 8, none⟩ = some (.bool a.reject) := A1.cell 8
  have q8 : W1.cell? ⟨w.heap.size + 1, 8, none⟩ = some (.bool b.reject) := B1.cell 8
  have p9 : W1.cell? ⟨w.heap.size, 9, none⟩ = some (.slice A N c) := A1.cell 9
  have q9 : W1.cell? ⟨w.heap.size + 1, 9, none⟩ = some (.slice D M d) := B1.cell 9
  go_wp2_with fail
  refine (cc2 _ hW).mono ?_
  rintro e w1 ⟨rfl, b1⟩
  have hb1 : Below w.heap.size w w1 := hW.trans (b1.mono (by omega))
  have A2 := A1.keep b1
  have B2 := B1.keep b1
  clear p0 q0 p1 q1 p2 q2 p3 q3 p4 q4 p5 q5 p6 q6 p7 q7 p8 q8 p9 q9
  have p10 : w1.cell? ⟨w.heap.size, 10, none⟩ = some (.string a.text) := A2.cell 10
  have q10 : w1.cell? ⟨w.heap.size + 1, 10, none⟩ = some (.string b.text) := B2.cell 10
  clear A1 B1 A2 B2 b1 cc2
  go_wp2_with fail
  go_ret
  exact ⟨rfl, hb1⟩
set_option maxHeartbeats 4000000 in
set_option maxRecDepth 100000 in
theorem sameWire_any_e (a b : Wr) (A D : Option Addr) (N M c d : Nat) (w : World) (h0 : a.kind = b.kind) (h1 : a.frm = b.frm) (h2 : a.til = b.til) (h3 : a.term = b.term) (h4 : a.index = b.index) (h5 : a.lterm = b.lterm) (h6 : a.commit = b.commit) (h7 : a.hint = b.hint) (h8 : a.reject = b.reject) (cc2 : ∀ w1, Below w.heap.size w w1 → Calls Tryz.prog 70 #[.slice A N c, .slice D M d] w1 fun e w' => e = .returned (.bool false) ∧ Below w1.heap.size w1 w') : Calls Tryz.prog 28 #[wv a (.slice A N c), wv b (.slice D M d)] w fun e w' => e = .returned (.bool false) ∧ Below w.heap.size w w' := by
  obtain ⟨n0, m0, l0⟩ := int_yes h0
  obtain ⟨n1, m1, l1⟩ := int_yes h1
  obtain ⟨n2, m2, l2⟩ := int_yes h2
  obtain ⟨n3, m3, l3⟩ := int_yes h3
  obtain ⟨n4, m4, l4⟩ := int_yes h4
  obtain ⟨n5, m5, l5⟩ := int_yes h5
  obtain ⟨n6, m6, l6⟩ := int_yes h6
  obtain ⟨n7, m7, l7⟩ := int_yes h7
  obtain ⟨n8, m8, l8⟩ := bool_yes h8
  clear h0 h1 h2 h3 h4 h5 h6 h7 h8
  go_enter Tryz.func28, Tryz.ntmps28
  go_wp2_with (refine wpList_boxW (o := ⟨a, .slice A N c⟩) rfl rfl rfl ?_)
  intro W0 A0 ha0 hz0
  go_wp2_with (refine wpList_boxW (o := ⟨b, .slice D M d⟩) rfl rfl rfl ?_)
  intro W1 B1 hb1 hz1
  have A1 := A0.below (by omega) hb1
  have hW : Below w.heap.size w W1 := ha0.trans (hb1.mono (by omega))
  clear A0 ha0 hb1
  have p0 : W1.cell? ⟨w.heap.size, 0, none⟩ = some (.int .i64 a.kind) := A1.cell 0
  have q0 : W1.cell? ⟨w.heap.size + 1, 0, none⟩ = some (.int .i64 b.kind) := B1.cell 0
  have p1 : W1.cell? ⟨w.heap.size, 1, none⟩ = some (.int .i64 a.frm) := A1.cell 1
  have q1 : W1.cell? ⟨w.heap.size + 1, 1, none⟩ = some (.int .i64 b.frm) := B1.cell 1
  have p2 : W1.cell? ⟨w.heap.size, 2, none⟩ = some (.int .i64 a.til) := A1.cell 2
  have q2 : W1.cell? ⟨w.heap.size + 1, 2, none⟩ = some (.int .i64 b.til) := B1.cell 2
  have p3 : W1.cell? ⟨w.heap.size, 3, none⟩ = some (.int .i64 a.term) := A1.cell 3
  have q3 : W1.cell? ⟨w.heap.size + 1, 3, none⟩ = some (.int .i64 b.term) := B1.cell 3
  have p4 : W1.cell? ⟨w.heap.size, 4, none⟩ = some (.int .i64 a.index) := A1.cell 4
  have q4 : W1.cell? ⟨w.heap.size + 1, 4, none⟩ = some (.int .i64 b.index) := B1.cell 4
  have p5 : W1.cell? ⟨w.heap.size, 5, none⟩ = some (.int .i64 a.lterm) := A1.cell 5
  have q5 : W1.cell? ⟨w.heap.size + 1, 5, none⟩ = some (.int .i64 b.lterm) := B1.cell 5
  have p6 : W1.cell? ⟨w.heap.size, 6, none⟩ = some (.int .i64 a.commit) := A1.cell 6
  have q6 : W1.cell? ⟨w.heap.size + 1, 6, none⟩ = some (.int .i64 b.commit) := B1.cell 6
  have p7 : W1.cell? ⟨w.heap.size, 7, none⟩ = some (.int .i64 a.hint) := A1.cell 7
  have q7 : W1.cell? ⟨w.heap.size + 1, 7, none⟩ = some (.int .i64 b.hint) := B1.cell 7
  have p8 : W1.cell? ⟨w.heap.size, 8, none⟩ = some (.bool a.reject) := A1.cell 8
  have q8 : W1.cell? ⟨w.heap.size + 1, 8, none⟩ = some (.bool b.reject) := B1.cell 8
  have p9 : W1.cell? ⟨w.heap.size, 9, none⟩ = some (.slice A N c) := A1.cell 9
  have q9 : W1.cell? ⟨w.heap.size + 1, 9, none⟩ = some (.slice D M d) := B1.cell 9
  go_wp2_with fail
  refine (cc2 _ hW).mono ?_
  rintro e w1 ⟨rfl, b1⟩
  have hb1 : Below w.heap.size w w1 := hW.trans (b1.mono (by omega))
  clear A1 B1 b1 cc2
  clear p0 q0 p1 q1 p2 q2 p3 q3 p4 q4 p5 q5 p6 q6 p7 q7 p8 q8 p9 q9
  go_wp2_with fail
  go_ret
  exact ⟨rfl, hb1⟩
end Go.Proofs.YtkpakiiijphjeaaGreatDoor.Po
