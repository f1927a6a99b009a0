/-
  Same of packets, the document's. Condition: at most 10^9 pairs, and entries.
  Same of packets, the document's. Condition: at most 10^9 pairs, and entries.
-/
import Derived.Test.YtkpakiiijphjeaaGreatDoorPPoSame
namespace Go.Proofs.YtkpakiiijphjeaaGreatDoor.Po
open Go.RowKit Bnd
open Ds (int_yes int_no)
open Od (sameA sameA_iff sameR SP)
open Ro (En SE)
attribute [local go_sem ↓] Go.wp_at_zero Go.wp_at_succ
set_option maxHeartbeats 8000000 in
set_option maxRecDepth 100000 in
theorem rsame_any_n0 (a b : Kh) (w : World)  (h0 : ¬ a.k.kind = b.k.kind) : Calls Tryz.prog 13 #[kv a, kv b] w fun e w' => e = .returned (.bool false) ∧ Below w.heap.size w w' := by
  obtain ⟨n0, m0, l0⟩ := int_no h0
  clear h0
  go_enter Tryz.func13, Tryz.ntmps13
  go_wp2_with (refine wpList_boxK (o := a) rfl rfl rfl ?_)
  intro W0 A0 ha0 hz0
  go_wp2_with (refine wpList_boxK (o := b) rfl rfl rfl ?_)
  intro W1 B1 hb1 hz1
  have A1 := A0.below (by omega) hb1
  have hW : Below w.heap.size w W1 := ha0.trans (hb1.mono (by omega))
  clear A0 ha0 hb1
  have p0 : W1.cell? ⟨w.heap.size, 0, none⟩ = some (.int .i64 a.k.kind) := A1.cell 0
  have q0 : W1.cell? ⟨w.heap.size + 1, 0, none⟩ = some (.int .i64 b.k.kind) := B1.cell 0
  clear A1 B1
  go_wp2_with fail
  go_ret
  exact ⟨rfl, hW⟩
set_option maxHeartbeats 8000000 in
set_option maxRecDepth 100000 in
theorem rsame_any_n1 (a b : Kh) (w : World) (h0 : a.k.kind = b.k.kind) (h1 : ¬ a.k.frm = b.k.frm) : Calls Tryz.prog 13 #[kv a, kv b] w fun e w' => e = .returned (.bool false) ∧ Below w.heap.size w w' := by
  obtain ⟨n0, m0, l0⟩ := int_yes h0
  obtain ⟨n1, m1, l1⟩ := int_no h1
  clear h0 h1
  go_enter Tryz.func13, Tryz.ntmps13
  go_wp2_with (refine wpList_boxK (o := a) rfl rfl rfl ?_)
  intro W0 A0 ha0 hz0
  go_wp2_with (refine wpList_boxK (o := b) rfl rfl rfl ?_)
  intro W1 B1 hb1 hz1
  have A1 := A0.below (by omega) hb1
  have hW : Below w.heap.size w W1 := ha0.trans (hb1.mono (by omega))
  clear A0 ha0 hb1
  have p0 : W1.cell? ⟨w.heap.size, 0, none⟩ = some (.int .i64 a.k.kind) := A1.cell 0
  have q0 : W1.cell? ⟨w.heap.size + 1, 0, none⟩ = some (.int .i64 b.k.kind) := B1.cell 0
  have p1 : W1.cell? ⟨w.heap.size, 1, none⟩ = some (.int .i64 a.k.frm) := A1.cell 1
  have q1 : W1.cell? ⟨w.heap.size + 1, 1, none⟩ = some (.int .i64 b.k.frm) := B1.cell 1
  clear A1 B1
  go_wp2_with fail
  go_ret
  exact ⟨rfl, hW⟩
end Go.Proofs.YtkpakiiijphjeaaGreatDoor.Po

namespace Go.Proofs.YtkpakiiijphjeaaGreatDoor.Po
open Go.RowKit Bnd
open Ds (int_yes int_no)
open Od (sameA sameA_iff sameR SP)
open Ro (En SE)
attribute [local go_sem ↓] Go.wp_at_zero Go.wp_at_succ
set_option maxHeartbeats 8000000 in
set_option maxRecDepth 100000 in
theorem rsame_any_n2 (a b : Kh) (w : World) (h0 : a.k.kind = b.k.kind) (h1 : a.k.frm = b.k.frm) (h2 : ¬ a.k.til = b.k.til) : Calls Tryz.prog 13 #[kv a, kv b] w fun e w' => e = .returned (.bool false) ∧ Below w.heap.size w w' := by
  obtain ⟨n0, m0, l0⟩ := int_yes h0
  obtain ⟨n1, m1, l1⟩ := int_yes h1
  obtain ⟨n2, m2, l2⟩ := int_no h2
  clear h0 h1 h2
  go_enter Tryz.func13, Tryz.ntmps13
  go_wp2_with (refine wpList_boxK (o := a) rfl rfl rfl ?_)
  intro W0 A0 ha0 hz0
  go_wp2_with (refine wpList_boxK (o := b) rfl rfl rfl ?_)
  intro W1 B1 hb1 hz1
  have A1 := A0.below (by omega) hb1
  have hW : Below w.heap.size w W1 := ha0.trans (hb1.mono (by omega))
  clear A0 ha0 hb1
  have p0 : W1.cell? ⟨w.heap.size, 0, none⟩ = some (.int .i64 a.k.kind) := A1.cell 0
  have q0 : W1.cell? ⟨w.heap.size + 1, 0, none⟩ = some (.int .i64 b.k.kind) := B1.cell 0
  have p1 : W1.cell? ⟨w.heap.size, 1, none⟩ = some (.int .i64 a.k.frm) := A1.cell 1
  have q1 : W1.cell? ⟨w.heap.size + 1, 1, none⟩ = some (.int .i64 b.k.frm) := B1.cell 1
  have p2 : W1.cell? ⟨w.heap.size, 2, none⟩ = some (.int .i64 a.k.til) := A1.cell 2
  have q2 : W1.cell? ⟨w.heap.size + 1, 2, none⟩ = some (.int .i64 b.k.til) := B1.cell 2
  clear A1 B1
  go_wp2_with fail
  go_ret
  exact ⟨rfl, hW⟩
set_option maxHeartbeats 8000000 in
set_option maxRecDepth 100000 in
theorem rsame_any_n3 (a b : Kh) (w : World) (h0 : a.k.kind = b.k.kind) (h1 : a.k.frm = b.k.frm) (h2 : a.k.til = b.k.til) (h3 : ¬ a.k.range = b.k.range) : Calls Tryz.prog 13 #[kv a, kv b] w fun e w' => e = .returned (.bool false) ∧ Below w.heap.size w w' := by
  obtain ⟨n0, m0, l0⟩ := int_yes h0
  obtain ⟨n1, m1, l1⟩ := int_yes h1
  obtain ⟨n2, m2, l2⟩ := int_yes h2
  obtain ⟨n3, m3, l3⟩ := int_no h3
  clear h0 h1 h2 h3
  go_enter Tryz.func13, Tryz.ntmps13
  go_wp2_with (refine wpList_boxK (o := a) rfl rfl rfl ?_)
  intro W0 A0 ha0 hz0
  go_wp2_with (refine wpList_boxK (o := b) rfl rfl rfl ?_)
  intro W1 B1 hb1 hz1
  have A1 := A0.below (by omega) hb1
  have hW : Below w.heap.size w W1 := ha0.trans (hb1.mono (by omega))
  clear A0 ha0 hb1
  have p0 : W1.cell? ⟨w.heap.size, 0, none⟩ = some (.int .i64 a.k.kind) := A1.cell 0
  have q0 : W1.cell? ⟨w.heap.size + 1, 0, none⟩ = some (.int .i64 b.k.kind) := B1.cell 0
  have p1 : W1.cell? ⟨w.heap.size, 1, none⟩ = some (.int .i64 a.k.frm) := A1.cell 1
  have q1 : W1.cell? ⟨w.heap.size + 1, 1, none⟩ = some (.int .i64 b.k.frm) := B1.cell 1
  have p2 : W1.cell? ⟨w.heap.size, 2, none⟩ = some (.int .i64 a.k.til) := A1.cell 2
  have q2 : W1.cell? ⟨w.heap.size + 1, 2, none⟩ = some (.int .i64 b.k.til) := B1.cell 2
  have p3 : W1.cell? ⟨w.heap.size, 3, none⟩ = some (.int .i64 a.k.range) := A1.cell 3
  have q3 : W1.cell? ⟨w.heap.size + 1, 3, none⟩ = some (.int .i64 b.k.range) := B1.cell 3
  clear A1 B1
  go_wp2_with fail
  go_ret
  exact ⟨rfl, hW⟩
end Go.Proofs.YtkpakiiijphjeaaGreatDoor.Po
