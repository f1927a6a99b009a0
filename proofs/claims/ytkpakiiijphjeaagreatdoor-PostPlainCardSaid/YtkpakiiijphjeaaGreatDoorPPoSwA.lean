/-
  Same of messages, the program's, where a number is another one. Condition: at most 10^9 entries.
  Same of messages, the program's, where a number is another one. Condition: at most 10^9 entries.
-/
import Derived.Test.YtkpakiiijphjeaaGreatDoorPPoSame
namespace Go.Proofs.YtkpakiiijphjeaaGreatDoor.Po
open Go.RowKit Bnd
open Ds (int_yes int_no)
open Od (bool_no bool_yes)
open Ro (En SE)
attribute [local go_sem ↓] Go.wp_at_zero Go.wp_at_succ
set_option maxHeartbeats 4000000 in
set_option maxRecDepth 100000 in
theorem sameWire_any_n0 (a b : Wr) (A D : Option Addr) (N M c d : Nat) (w : World)  (h0 : ¬ a.kind = b.kind) : Calls Tryz.prog 28 #[wv a (.slice A N c), wv b (.slice D M d)] w fun e w' => e = .returned (.bool false) ∧ Below w.heap.size w w' := by
  obtain ⟨n0, m0, l0⟩ := int_no h0
  clear h0
  go_enter Tryz.func28, Tryz.ntmps28
  go_wp2_with (refine wpList_boxW (o := ⟨a, .slice A N c⟩) rfl rfl rfl ?_)
  intro W0 A0 ha0 hz0
  go_wp2_with (refine wpList_boxW (o := ⟨b, .slice D M d⟩) rfl rfl rfl ?_)
  intro W1 B1 hb1 hz1
  have A1 := A0.below (by omega) hb1
  have hW : Below w.heap.size w W1 := ha0.trans (hb1.mono (by omega))
  clear A0 ha0 hb1
  have p0 : W1.cell? ⟨w.heap.size, 0, none⟩ = some (.int .i64 a.kind) := A1.cell 0
  have q0 : W1.cell? ⟨w.heap.size + 1, 0, none⟩ = some (.int .i64 b.kind) := B1.cell 0
  clear A1 B1
  go_wp2_with fail
  go_ret
  exact ⟨rfl, hW⟩
set_option maxHeartbeats 4000000 in
set_option maxRecDepth 100000 in
theorem sameWire_any_n1 (a b : Wr) (A D : Option Addr) (N M c d : Nat) (w : World) (h0 : a.kind = b.kind) (h1 : ¬ a.frm = b.frm) : Calls Tryz.prog 28 #[wv a (.slice A N c), wv b (.slice D M d)] w fun e w' => e = .returned (.bool false) ∧ Below w.heap.size w w' := by
  obtain ⟨n0, m0, l0⟩ := int_yes h0
  obtain ⟨n1, m1, l1⟩ := int_no h1
  clear h0 h1
  go_enter Tryz.func28, Tryz.ntmps28
  go_wp2_with (refine wpList_boxW (o := ⟨a, .slice A N c⟩) rfl rfl rfl ?_)
  intro W0 A0 ha0 hz0
  go_wp2_with (refine wpList_boxW (o := ⟨b, .slice D M d⟩) rfl rfl rfl ?_)
  intro W1 B1 hb1 hz1
  have A1 := A0.below (by omega) hb1
  have hW : Below w.heap.size w W1 := ha0.trans (hb1.mono (by omega))
  clear A0 ha0 hb1
  have p0 : W1.cell? ⟨w.heap.size, 0, none⟩ = some (.int .i64 a.kind) := A1.cell 0
  have q0 : W1.cell? ⟨w.heap.size + 1, 0, none⟩ = some (.int .i64 b.kind) := B1.cell 0
  have p1 : W1.cell? ⟨w.heap.size, 1, none⟩ = some (.int .i64 a.frm) := A1.cell 1
  have q1 : W1.cell? ⟨w.heap.size + 1, 1, none⟩ = some (.int .i64 b.frm) := B1.cell 1
  clear A1 B1
  go_wp2_with fail
  go_ret
  exact ⟨rfl, hW⟩
set_option maxHeartbeats 4000000 in
set_option maxRecDepth 100000 in
theorem sameWire_any_n2 (a b : Wr) (A D : Option Addr) (N M c d : Nat) (w : World) (h0 : a.kind = b.kind) (h1 : a.frm = b.frm) (h2 : ¬ a.til = b.til) : Calls Tryz.prog 28 #[wv a (.slice A N c), wv b (.slice D M d)] w fun e w' => e = .returned (.bool false) ∧ Below w.heap.size w w' := by
  obtain ⟨n0, m0, l0⟩ := int_yes h0
  obtain ⟨n1, m1, l1⟩ := int_yes h1
  obtain ⟨n2, m2, l2⟩ := int_no h2
  clear h0 h1 h2
  go_enter Tryz.func28, Tryz.ntmps28
  go_wp2_with (refine wpList_boxW (o := ⟨a, .slice A N c⟩) rfl rfl rfl ?_)
  intro W0 A0 ha0 hz0
  go_wp2_with (refine wpList_boxW (o := ⟨b, .slice D M d⟩) rfl rfl rfl ?_)
  intro W1 B1 hb1 hz1
  have A1 := A0.below (by omega) hb1
  have hW : Below w.heap.size w W1 := ha0.trans (hb1.mono (by omega))
  clear A0 ha0 hb1
  have p0 : W1.cell? ⟨w.heap.size, 0, none⟩ = some (.int .i64 a.kind) := A1.cell 0
  have q0 : W1.cell? ⟨w.heap.size + 1, 0, none⟩ = some (.int .i64 b.kind) := B1.cell 0
  have p1 : W1.cell? ⟨w.heap.size, 1, none⟩ = some (.int .i64 a.frm) := A1.cell 1
  have q1 : W1.cell? ⟨w.heap.size + 1, 1, none⟩ = some (.int .i64 b.frm) := B1.cell 1
  have p2 : W1.cell? ⟨w.heap.size, 2, none⟩ = some (.int .i64 a.til) := A1.cell 2
  have q2 : W1.cell? ⟨w.heap.size + 1, 2, none⟩ = some (.int .i64 b.til) := B1.cell 2
  clear A1 B1
  go_wp2_with fail
  go_ret
  exact ⟨rfl, hW⟩
end Go.Proofs.YtkpakiiijphjeaaGreatDoor.Po

namespace Go.Proofs.YtkpakiiijphjeaaGreatDoor.Po
open Go.RowKit Bnd
open Ds (int_yes int_no)
open Od (bool_no bool_yes)
open Ro (En SE)
attribute [local go_sem ↓] Go.wp_at_zero Go.wp_at_succ
set_option maxHeartbeats 4000000 in
set_option maxRecDepth 100000 in
theorem sameWire_any_n3 (a b : Wr) (A D : Option Addr) (N M c d : Nat) (w : World) (h0 : a.kind = b.kind) (h1 : a.frm = b.frm) (h2 : a.til = b.til) (h3 : ¬ a.term = b.term) : Calls Tryz.prog 28 #[wv a (.slice A N c), wv b (.slice D M d)] w fun e w' => e = .returned (.bool false) ∧ Below w.heap.size w w' := by
  obtain ⟨n0, m0, l0⟩ := int_yes h0
  obtain ⟨n1, m1, l1⟩ := int_yes h1
  obtain ⟨n2, m2, l2⟩ := int_yes h2
  obtain ⟨n3, m3, l3⟩ := int_no h3
  clear h0 h1 h2 h3
  go_enter Tryz.func28, Tryz.ntmps28
  go_wp2_with (refine wpList_boxW (o := ⟨a, .slice A N c⟩) rfl rfl rfl ?_)
  intro W0 A0 ha0 hz0
  go_wp2_with (refine wpList_boxW (o := ⟨b, .slice D M d⟩) rfl rfl rfl ?_)
  intro W1 B1 hb1 hz1
  have A1 := A0.below (by omega) hb1
  have hW : Below w.heap.size w W1 := ha0.trans (hb1.mono (by omega))
  clear A0 ha0 hb1
  have p0 : W1.cell? ⟨w.heap.size, 0, none⟩ = some (.int .i64 a.kind) := A1.cell 0
  have q0 : W1.cell? ⟨w.heap.size + 1, 0, none⟩ = some (.int .i64 b.kind) := B1.cell 0
  have p1 : W1.cell? ⟨w.heap.size, 1, none⟩ = some (.int .i64 a.frm) := A1.cell 1
  have q1 : W1.cell? ⟨w.heap.size + 1, 1, none⟩ = some (.int .i64 b.frm) := B1.cell 1
  have p2 : W1.cell? ⟨w.heap.size, 2, none⟩ = some (.int .i64 a.til) := A1.cell 2
  have q2 : W1.cell? ⟨w.heap.size + 1, 2, none⟩ = some (.int .i64 b.til) := B1.cell 2
  have p3 : W1.cell? ⟨w.heap.size, 3, none⟩ = some (.int .i64 a.term) := A1.cell 3
  have q3 : W1.cell? ⟨w.heap.size + 1, 3, none⟩ = some (.int .i64 b.term) := B1.cell 3
  clear A1 B1
  go_wp2_with fail
  go_ret
  exact ⟨rfl, hW⟩
set_option maxHeartbeats 4000000 in
set_option maxRecDepth 100000 in
theorem sameWire_any_n4 (a b : Wr) (A D : Option Addr) (N M c d : Nat) (w : World) (h0 : a.kind = b.kind) (h1 : a.frm = b.frm) (h2 : a.til = b.til) (h3 : a.term = b.term) (h4 : ¬ a.index = b.index) : Calls Tryz.prog 28 #[wv a (.slice A N c), wv b (.slice D M d)] w fun e w' => e = .returned (.bool false) ∧ Below w.heap.size w w' := by
  obtain ⟨n0, m0, l0⟩ := int_yes h0
  obtain ⟨n1, m1, l1⟩ := int_yes h1
  obtain ⟨n2, m2, l2⟩ := int_yes h2
  obtain ⟨n3, m3, l3⟩ := int_yes h3
  obtain ⟨n4, m4, l4⟩ := int_no h4
  clear h0 h1 h2 h3 h4
  go_enter Tryz.func28, Tryz.ntmps28
  go_wp2_with (refine wpList_boxW (o := ⟨a, .slice A N c⟩) rfl rfl rfl ?_)
  intro W0 A0 ha0 hz0
  go_wp2_with (refine wpList_boxW (o := ⟨b, .slice D M d⟩) rfl rfl rfl ?_)
  intro W1 B1 hb1 hz1
  have A1 := A0.below (by omega) hb1
  have hW : Below w.heap.size w W1 := ha0.trans (hb1.mono (by omega))
  clear A0 ha0 hb1
  have p0 : W1.cell? ⟨w.heap.size, 0, none⟩ = some (.int .i64 a.kind) := A1.cell 0
  have q0 : W1.cell? ⟨w.heap.size + 1, 0, none⟩ = some (.int .i64 b.kind) := B1.cell 0
  have p1 : W1.cell? ⟨w.heap.size, 1, none⟩ = some (.int .i64 a.frm) := A1.cell 1
  have q1 : W1.cell? ⟨w.heap.size + 1, 1, none⟩ = some (.int .i64 b.frm) := B1.cell 1
  have p2 : W1.cell? ⟨w.heap.size, 2, none⟩ = some (.int .i64 a.til) := A1.cell 2
  have q2 : W1.cell? ⟨w.heap.size + 1, 2, none⟩ = some (.int .i64 b.til) := B1.cell 2
  have p3 : W1.cell? ⟨w.heap.size, 3, none⟩ = some (.int .i64 a.term) := A1.cell 3
  have q3 : W1.cell? ⟨w.heap.size + 1, 3, none⟩ = some (.int .i64 b.term) := B1.cell 3
  have p4 : W1.cell? ⟨w.heap.size, 4, none⟩ = some (.int .i64 a.index) := A1.cell 4
  have q4 : W1.cell? ⟨w.heap.size + 1, 4, none⟩ = some (.int .i64 b.index) := B1.cell 4
  clear A1 B1
  go_wp2_with fail
  go_ret
  exact ⟨rfl, hW⟩
set_option maxHeartbeats 4000000 in
set_option maxRecDepth 100000 in
theorem sameWire_any_n5 (a b : Wr) (A D : Option Addr) (N M c d : Nat) (w : World) (h0 : a.kind = b.kind) (h1 : a.frm = b.frm) (h2 : a.til = b.til) (h3 : a.term = b.term) (h4 : a.index = b.index) (h5 : ¬ a.lterm = b.lterm) : Calls Tryz.prog 28 #[wv a (.slice A N c), wv b (.slice D M d)] w fun e w' => e = .returned (.bool false) ∧ Below w.heap.size w w' := by
  obtain ⟨n0, m0, l0⟩ := int_yes h0
  obtain ⟨n1, m1, l1⟩ := int_yes h1
  obtain ⟨n2, m2, l2⟩ := int_yes h2
  obtain ⟨n3, m3, l3⟩ := int_yes h3
  obtain ⟨n4, m4, l4⟩ := int_yes h4
  obtain ⟨n5, m5, l5⟩ := int_no h5
  clear h0 h1 h2 h3 h4 h5
  go_enter Tryz.func28, Tryz.ntmps28
  go_wp2_with (refine wpList_boxW (o := ⟨a, .slice A N c⟩) rfl rfl rfl ?_)
  intro W0 A0 ha0 hz0
  go_wp2_with (refine wpList_boxW (o := ⟨b, .slice D M d⟩) rfl rfl rfl ?_)
  intro W1 B1 hb1 hz1
  have A1 := A0.below (by omega) hb1
  have hW : Below w.heap.size w W1 := ha0.trans (hb1.mono (by omega))
  clear A0 ha0 hb1
  have p0 : W1.cell? ⟨w.heap.size, 0, none⟩ = some (.int .i64 a.kind) := A1.cell 0
  have q0 : W1.cell? ⟨w.heap.size + 1, 0, none⟩ = some (.int .i64 b.kind) := B1.cell 0
  have p1 : W1.cell? ⟨w.heap.size, 1, none⟩ = some (.int .i64 a.frm) := A1.cell 1
  have q1 : W1.cell? ⟨w.heap.size + 1, 1, none⟩ = some (.int .i64 b.frm) := B1.cell 1
  have p2 : W1.cell? ⟨w.heap.size, 2, none⟩ = some (.int .i64 a.til) := A1.cell 2
  have q2 : W1.cell? ⟨w.heap.size + 1, 2, none⟩ = some (.int .i64 b.til) := B1.cell 2
  have p3 : W1.cell? ⟨w.heap.size, 3, none⟩ = some (.int .i64 a.term) := A1.cell 3
  have q3 : W1.cell? ⟨w.heap.size + 1, 3, none⟩ = some (.int .i64 b.term) := B1.cell 3
  have p4 : W1.cell? ⟨w.heap.size, 4, none⟩ = some (.int .i64 a.index) := A1.cell 4
  have q4 : W1.cell? ⟨w.heap.size + 1, 4, none⟩ = some (.int .i64 b.index) := B1.cell 4
  have p5 : W1.cell? ⟨w.heap.size, 5, none⟩ = some (.int .i64 a.lterm) := A1.cell 5
  have q5 : W1.cell? ⟨w.heap.size + 1, 5, none⟩ = some (.int .i64 b.lterm) := B1.cell 5
  clear A1 B1
  go_wp2_with fail
  go_ret
  exact ⟨rfl, hW⟩
end Go.Proofs.YtkpakiiijphjeaaGreatDoor.Po
