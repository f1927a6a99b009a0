/-
  Same of packets, the document's. Condition: at most 10^9 pairs, and entries.
-/
import Derived.Test.YtkpakiiijphjeaaGreatDoorPPoSame
namespace Go.Proofs.YtkpakiiijphjeaaGreatDoor.Po
open Go.RowKit Bnd
open Ds (int_yes int_no)
open Od (sameA sameA_iff sameR SP)
open Ro (En SE)
attribute [local go_sem ↓] Go.wp_at_zero Go.wp_at_succ
set_option maxHeartbeats 8000000 in
set_option maxRecDepth 100000 in
theorem rsame_any_n7 (a b : Kh) (w : World) (h0 : a.k.kind = b.k.kind) (h1 : a.k.frm = b.k.frm) (h2 : a.k.til = b.k.til) (h3 : a.k.range = b.k.range) (cw2 : ∀ w1, Below w.heap.size w w1 → Calls Tryz.prog 30 #[wv a.k.wire a.ws, wv b.k.wire b.ws] w1 fun e w' => e = .returned (.bool true) ∧ Below w1.heap.size w1 w') (h4 : a.k.id = b.k.id) (h5 : a.k.next = b.k.next) (hE2 : ∀ w1, (Op.equalIn 10000 26 (Od.av a.k.ord) (Od.av b.k.ord)).run Tryz.prog w1 = .ok true w1) (h7 : ¬ a.k.client = b.k.client) : Calls Tryz.prog 13 #[kv a, kv b] w fun e w' => e = .returned (.bool false) ∧ Below w.heap.size w w' := by
  obtain ⟨n0, m0, l0⟩ := int_yes h0
  obtain ⟨n1, m1, l1⟩ := int_yes h1
  obtain ⟨n2, m2, l2⟩ := int_yes h2
  obtain ⟨n3, m3, l3⟩ := int_yes h3
  clear h0 h1 h2 h3
  obtain ⟨n4, m4, l4⟩ := int_yes h4
  clear h4
  obtain ⟨n5, m5, l5⟩ := int_yes h5
  clear h5
  obtain ⟨n7, m7, l7⟩ := int_no h7
  clear h7
  go_enter Tryz.func13, Tryz.ntmps13
  go_wp2_with (refine wpList_boxK (o := a) rfl rfl rfl ?_)
  intro W0 A0 ha0 hz0
  go_wp2_with (refine wpList_boxK (o := b) rfl rfl rfl ?_)
  intro W1 B1 hb1 hz1
  have A1 := A0.below (by omega) hb1
  have hW : Below w.heap.size w W1 := ha0.trans (hb1.mono (by omega))
  clear A0 ha0 hb1
  have p0 : W1.cell? ⟨w.heap.size, 0, none⟩ = some (.int .i64 a.k.kind) := A1.cell 0
  have q0 : W1.cell? ⟨w.heap.size + 1, 0, none⟩ = some (.int .i64 b.k.kind) := B1.cell 0
  have p1 : W1.cell? ⟨w.heap.size, 1, none⟩ = some (.int .i64 a.k.frm) := A1.cell 1
  have q1 : W1.cell? ⟨w.heap.size + 1, 1, none⟩ = some (.int .i64 b.k.frm) := B1.cell 1
  have p2 : W1.cell? ⟨w.heap.size, 2, none⟩ = some (.int .i64 a.k.til) := A1.cell 2
  have q2 : W1.cell? ⟨w.heap.size + 1, 2, none⟩ = some (.int .i64 b.k.til) := B1.cell 2
  have p3 : W1.cell? ⟨w.heap.size, 3, none⟩ = some (.int .i64 a.k.range) := A1.cell 3
  have q3 : W1.cell? ⟨w.heap.size + 1, 3, none⟩ = some (.int .i64 b.k.range) := B1.cell 3
  have p4 : W1.cell? ⟨w.heap.size, 4, none⟩ = some (.int .i64 a.k.wire.kind) := A1.cell 4
  have q4 : W1.cell? ⟨w.heap.size + 1, 4, none⟩ = some (.int .i64 b.k.wire.kind) := B1.cell 4
  have p5 : W1.cell? ⟨w.heap.size, 5, none⟩ = some (.int .i64 a.k.wire.frm) := A1.cell 5
  have q5 : W1.cell? ⟨w.heap.size + 1, 5, none⟩ = some (.int .i64 b.k.wire.frm) := B1.cell 5
  have p6 : W1.cell? ⟨w.heap.size, 6, none⟩ = some (.int .i64 a.k.wire.til) := A1.cell 6
  have q6 : W1.cell? ⟨w.heap.size + 1, 6, none⟩ = some (.int .i64 b.k.wire.til) := B1.cell 6
  have p7 : W1.cell? ⟨w.heap.size, 7, none⟩ = some (.int .i64 a.k.wire.term) := A1.cell 7
  have q7 : W1.cell? ⟨w.heap.size + 1, 7, none⟩ = some (.int .i64 b.k.wire.term) := B1.cell 7
  have p8 : W1.cell? ⟨w.heap.size, 8, none⟩ = some (.int .i64 a.k.wire.index) := A1.cell 8
  have q8 : W1.cell? ⟨w.heap.size + 1, 8, none⟩ = some (.int .i64 b.k.wire.index) := B1.cell 8
  have p9 : W1.cell? ⟨w.heap.size, 9, none⟩ = some (.int .i64 a.k.wire.lterm) := A1.cell 9
  have q9 : W1.cell? ⟨w.heap.size + 1, 9, none⟩ = some (.int .i64 b.k.wire.lterm) := B1.cell 9
  have p10 : W1.cell? ⟨w.heap.size, 10, none⟩ = some (.int .i64 a.k.wire.commit) := A1.cell 10
  have q10 : W1.cell? ⟨w.heap.size + 1, 10, none⟩ = some (.int .i64 b.k.wire.commit) := B1.cell 10
  have p11 : W1.cell? ⟨w.heap.size, 11, none⟩ = some (.int .i64 a.k.wire.hint) := A1.cell 11
  have q11 : W1.cell? ⟨w.heap.size + 1, 11, none⟩ = some (.int .i64 b.k.wire.hint) := B1.cell 11
  have p12 : W1.cell? ⟨w.heap.size, 12, none⟩ = some (.bool a.k.wire.reject) := A1.cell 12
  have q12 : W1.cell? ⟨w.heap.size + 1, 12, none⟩ = some (.bool b.k.wire.reject) := B1.cell 12
  have p13 : W1.cell? ⟨w.heap.size, 13, none⟩ = some (a.ws) := A1.cell 13
  have q13 : W1.cell? ⟨w.heap.size + 1, 13, none⟩ = some (b.ws) := B1.cell 13
  have p14 : W1.cell? ⟨w.heap.size, 14, none⟩ = some (.string a.k.wire.text) := A1.cell 14
  have q14 : W1.cell? ⟨w.heap.size + 1, 14, none⟩ = some (.string b.k.wire.text) := B1.cell 14
  go_wp2_with fail
  refine (cw2 _ hW).mono ?_
  rintro e w1 ⟨rfl, b1⟩
  have hb1 : Below w.heap.size w w1 := hW.trans (b1.mono (by omega))
  have A2 := A1.keep b1
  have B2 := B1.keep b1
  clear p0 q0 p1 q1 p2 q2 p3 q3 p4 q4 p5 q5 p6 q6 p7 q7 p8 q8 p9 q9 p10 q10 p11 q11 p12 q12 p13 q13 p14 q14
  have p15 : w1.cell? ⟨w.heap.size, 15, none⟩ = some (.int .i64 a.k.id) := A2.cell 15
  have q15 : w1.cell? ⟨w.heap.size + 1, 15, none⟩ = some (.int .i64 b.k.id) := B2.cell 15
  have p16 : w1.cell? ⟨w.heap.size, 16, none⟩ = some (.int .i64 a.k.next) := A2.cell 16
  have q16 : w1.cell? ⟨w.heap.size + 1, 16, none⟩ = some (.int .i64 b.k.next) := B2.cell 16
  have p17 : w1.cell? ⟨w.heap.size, 17, none⟩ = some (.int .i64 a.k.ord.kind) := A2.cell 17
  have q17 : w1.cell? ⟨w.heap.size + 1, 17, none⟩ = some (.int .i64 b.k.ord.kind) := B2.cell 17
  have p18 : w1.cell? ⟨w.heap.size, 18, none⟩ = some (.int .i64 a.k.ord.client) := A2.cell 18
  have q18 : w1.cell? ⟨w.heap.size + 1, 18, none⟩ = some (.int .i64 b.k.ord.client) := B2.cell 18
  have p19 : w1.cell? ⟨w.heap.size, 19, none⟩ = some (.int .i64 a.k.ord.seq) := A2.cell 19
  have q19 : w1.cell? ⟨w.heap.size + 1, 19, none⟩ = some (.int .i64 b.k.ord.seq) := B2.cell 19
  have p20 : w1.cell? ⟨w.heap.size, 20, none⟩ = some (.string a.k.ord.key) := A2.cell 20
  have q20 : w1.cell? ⟨w.heap.size + 1, 20, none⟩ = some (.string b.k.ord.key) := B2.cell 20
  have p21 : w1.cell? ⟨w.heap.size, 21, none⟩ = some (.string a.k.ord.til) := A2.cell 21
  have q21 : w1.cell? ⟨w.heap.size + 1, 21, none⟩ = some (.string b.k.ord.til) := B2.cell 21
  have p22 : w1.cell? ⟨w.heap.size, 22, none⟩ = some (.string a.k.ord.val) := A2.cell 22
  have q22 : w1.cell? ⟨w.heap.size + 1, 22, none⟩ = some (.string b.k.ord.val) := B2.cell 22
  have p23 : w1.cell? ⟨w.heap.size, 23, none⟩ = some (.string a.k.ord.old) := A2.cell 23
  have q23 : w1.cell? ⟨w.heap.size + 1, 23, none⟩ = some (.string b.k.ord.old) := B2.cell 23
  have p24 : w1.cell? ⟨w.heap.size, 24, none⟩ = some (.bool a.k.ord.has) := A2.cell 24
  have q24 : w1.cell? ⟨w.heap.size + 1, 24, none⟩ = some (.bool b.k.ord.has) := B2.cell 24
  have p25 : w1.cell? ⟨w.heap.size, 25, none⟩ = some (.int .i64 a.k.ord.lim) := A2.cell 25
  have q25 : w1.cell? ⟨w.heap.size + 1, 25, none⟩ = some (.int .i64 b.k.ord.lim) := B2.cell 25
  have p26 : w1.cell? ⟨w.heap.size, 26, none⟩ = some (.int .i64 a.k.ord.id) := A2.cell 26
  have q26 : w1.cell? ⟨w.heap.size + 1, 26, none⟩ = some (.int .i64 b.k.ord.id) := B2.cell 26
  have p27 : w1.cell? ⟨w.heap.size, 27, none⟩ = some (.int .i64 a.k.ord.node) := A2.cell 27
  have q27 : w1.cell? ⟨w.heap.size + 1, 27, none⟩ = some (.int .i64 b.k.ord.node) := B2.cell 27
  have p28 : w1.cell? ⟨w.heap.size, 28, none⟩ = some (.int .i64 a.k.client) := A2.cell 28
  have q28 : w1.cell? ⟨w.heap.size + 1, 28, none⟩ = some (.int .i64 b.k.client) := B2.cell 28
  clear A1 B1 A2 B2 b1 cw2
  go_wp2_with fail
  go_ret
  exact ⟨rfl, hb1⟩
set_option maxHeartbeats 8000000 in
set_option maxRecDepth 100000 in
theorem rsame_any_n8 (a b : Kh) (w : World) (h0 : a.k.kind = b.k.kind) (h1 : a.k.frm = b.k.frm) (h2 : a.k.til = b.k.til) (h3 : a.k.range = b.k.range) (cw2 : ∀ w1, Below w.heap.size w w1 → Calls Tryz.prog 30 #[wv a.k.wire a.ws, wv b.k.wire b.ws] w1 fun e w' => e = .returned (.bool true) ∧ Below w1.heap.size w1 w') (h4 : a.k.id = b.k.id) (h5 : a.k.next = b.k.next) (hE2 : ∀ w1, (Op.equalIn 10000 26 (Od.av a.k.ord) (Od.av b.k.ord)).run Tryz.prog w1 = .ok true w1) (h7 : a.k.client = b.k.client) (h8 : ¬ a.k.seq = b.k.seq) : Calls Tryz.prog 13 #[kv a, kv b] w fun e w' => e = .returned (.bool false) ∧ Below w.heap.size w w' := by
  obtain ⟨n0, m0, l0⟩ := int_yes h0
  obtain ⟨n1, m1, l1⟩ := int_yes h1
  obtain ⟨n2, m2, l2⟩ := int_yes h2
  obtain ⟨n3, m3, l3⟩ := int_yes h3
  clear h0 h1 h2 h3
  obtain ⟨n4, m4, l4⟩ := int_yes h4
  clear h4
  obtain ⟨n5, m5, l5⟩ := int_yes h5
  clear h5
  obtain ⟨n7, m7, l7⟩ := int_yes h7
  clear h7
  obtain ⟨n8, m8, l8⟩ := int_no h8
  clear h8
  go_enter Tryz.func13, Tryz.ntmps13
  go_wp2_with (refine wpList_boxK (o := a) rfl rfl rfl ?_)
  intro W0 A0 ha0 hz0
  go_wp2_with (refine wpList_boxK (o := b) rfl rfl rfl ?_)
  intro W1 B1 hb1 hz1
  have A1 := A0.below (by omega) hb1
  have hW : Below w.heap.size w W1 := ha0.trans (hb1.mono (by omega))
  clear A0 ha0 hb1
  have p0 : W1.cell? ⟨w.heap.size, 0, none⟩ = some (.int .i64 a.k.kind) := A1.cell 0
  have q0 : W1.cell? ⟨w.heap.size + 1, 0, none⟩ = some (.int .i64 b.k.kind) := B1.cell 0
  have p1 : W1.cell? ⟨w.heap.size, 1, none⟩ = some (.int .i64 a.k.frm) := A1.cell 1
  have q1 : W1.cell? ⟨w.heap.size + 1, 1, none⟩ = some (.int .i64 b.k.frm) := B1.cell 1
  have p2 : W1.cell? ⟨w.heap.size, 2, none⟩ = some (.int .i64 a.k.til) := A1.cell 2
  have q2 : W1.cell? ⟨w.heap.size + 1, 2, none⟩ = some (.int .i64 b.k.til) := B1.cell 2
  have p3 : W1.cell? ⟨w.heap.size, 3, none⟩ = some (.int .i64 a.k.range) := A1.cell 3
  have q3 : W1.cell? ⟨w.heap.size + 1, 3, none⟩ = some (.int .i64 b.k.range) := B1.cell 3
  have p4 : W1.cell? ⟨w.heap.size, 4, none⟩ = some (.int .i64 a.k.wire.kind) := A1.cell 4
  have q4 : W1.cell? ⟨w.heap.size + 1, 4, none⟩ = some (.int .i64 b.k.wire.kind) := B1.cell 4
  have p5 : W1.cell? ⟨w.heap.size, 5, none⟩ = some (.int .i64 a.k.wire.frm) := A1.cell 5
  have q5 : W1.cell? ⟨w.heap.size + 1, 5, none⟩ = some (.int .i64 b.k.wire.frm) := B1.cell 5
  have p6 : W1.cell? ⟨w.heap.size, 6, none⟩ = some (.int .i64 a.k.wire.til) := A1.cell 6
  have q6 : W1.cell? ⟨w.heap.size + 1, 6, none⟩ = some (.int .i64 b.k.wire.til) := B1.cell 6
  have p7 : W1.cell? ⟨w.heap.size, 7, none⟩ = some (.int .i64 a.k.wire.term) := A1.cell 7
  have q7 : W1.cell? ⟨w.heap.size + 1, 7, none⟩ = some (.int .i64 b.k.wire.term) := B1.cell 7
  have p8 : W1.cell? ⟨w.heap.size, 8, none⟩ = some (.int .i64 a.k.wire.index) := A1.cell 8
  have q8 : W1.cell? ⟨w.heap.size + 1, 8, none⟩ = some (.int .i64 b.k.wire.index) := B1.cell 8
  have p9 : W1.cell? ⟨w.heap.size, 9, none⟩ = some (.int .i64 a.k.wire.lterm) := A1.cell 9
  have q9 : W1.cell? ⟨w.heap.size + 1, 9, none⟩ = some (.int .i64 b.k.wire.lterm) := B1.cell 9
  have p10 : W1.cell? ⟨w.heap.size, 10, none⟩ = some (.int .i64 a.k.wire.commit) := A1.cell 10
  have q10 : W1.cell? ⟨w.heap.size + 1, 10, none⟩ = some (.int .i64 b.k.wire.commit) := B1.cell 10
  have p11 : W1.cell? ⟨w.heap.size, 11, none⟩ = some (.int .i64 a.k.wire.hint) := A1.cell 11
  have q11 : W1.cell? ⟨w.heap.size + 1, 11, none⟩ = some (.int .i64 b.k.wire.hint) := B1.cell 11
  have p12 : W1.cell? ⟨w.heap.size, 12, none⟩ = some (.bool a.k.wire.reject) := A1.cell 12
  have q12 : W1.cell? ⟨w.heap.size + 1, 12, none⟩ = some (.bool b.k.wire.reject) := B1.cell 12
  have p13 : W1.cell? ⟨w.heap.size, 13, none⟩ = some (a.ws) := A1.cell 13
  have q13 : W1.cell? ⟨w.heap.size + 1, 13, none⟩ = some (b.ws) := B1.cell 13
  have p14 : W1.cell? ⟨w.heap.size, 14, none⟩ = some (.string a.k.wire.text) := A1.cell 14
  have q14 : W1.cell? ⟨w.heap.size + 1, 14, none⟩ = some (.string b.k.wire.text) := B1.cell 14
  go_wp2_with fail
  refine (cw2 _ hW).mono ?_
  rintro e w1 ⟨rfl, b1⟩
  have hb1 : Below w.heap.size w w1 := hW.trans (b1.mono (by omega))
  have A2 := A1.keep b1
  have B2 := B1.keep b1
  clear p0 q0 p1 q1 p2 q2 p3 q3 p4 q4 p5 q5 p6 q6 p7 q7 p8 q8 p9 q9 p10 q10 p11 q11 p12 q12 p13 q13 p14 q14
  have p15 : w1.cell? ⟨w.heap.size, 15, none⟩ = some (.int .i64 a.k.id) := A2.cell 15
  have q15 : w1.cell? ⟨w.heap.size + 1, 15, none⟩ = some (.int .i64 b.k.id) := B2.cell 15
  have p16 : w1.cell? ⟨w.heap.size, 16, none⟩ = some (.int .i64 a.k.next) := A2.cell 16
  have q16 : w1.cell? ⟨w.heap.size + 1, 16, none⟩ = some (.int .i64 b.k.next) := B2.cell 16
  have p17 : w1.cell? ⟨w.heap.size, 17, none⟩ = some (.int .i64 a.k.ord.kind) := A2.cell 17
  have q17 : w1.cell? ⟨w.heap.size + 1, 17, none⟩ = some (.int .i64 b.k.ord.kind) := B2.cell 17
  have p18 : w1.cell? ⟨w.heap.size, 18, none⟩ = some (.int .i64 a.k.ord.client) := A2.cell 18
  have q18 : w1.cell? ⟨w.heap.size + 1, 18, none⟩ = some (.int .i64 b.k.ord.client) := B2.cell 18
  have p19 : w1.cell? ⟨w.heap.size, 19, none⟩ = some (.int .i64 a.k.ord.seq) := A2.cell 19
  have q19 : w1.cell? ⟨w.heap.size + 1, 19, none⟩ = some (.int .i64 b.k.ord.seq) := B2.cell 19
  have p20 : w1.cell? ⟨w.heap.size, 20, none⟩ = some (.string a.k.ord.key) := A2.cell 20
  have q20 : w1.cell? ⟨w.heap.size + 1, 20, none⟩ = some (.string b.k.ord.key) := B2.cell 20
  have p21 : w1.cell? ⟨w.heap.size, 21, none⟩ = some (.string a.k.ord.til) := A2.cell 21
  have q21 : w1.cell? ⟨w.heap.size + 1, 21, none⟩ = some (.string b.k.ord.til) := B2.cell 21
  have p22 : w1.cell? ⟨w.heap.size, 22, none⟩ = some (.string a.k.ord.val) := A2.cell 22
  have q22 : w1.cell? ⟨w.heap.size + 1, 22, none⟩ = some (.string b.k.ord.val) := B2.cell 22
  have p23 : w1.cell? ⟨w.heap.size, 23, none⟩ = some (.string a.k.ord.old) := A2.cell 23
  have q23 : w1.cell? ⟨w.heap.size + 1, 23, none⟩ = some (.string b.k.ord.old) := B2.cell 23
  have p24 : w1.cell? ⟨w.heap.size, 24, none⟩ = some (.bool a.k.ord.has) := A2.cell 24
  have q24 : w1.cell? ⟨w.heap.size + 1, 24, none⟩ = some (.bool b.k.ord.has) := B2.cell 24
  have p25 : w1.cell? ⟨w.heap.size, 25, none⟩ = some (.int .i64 a.k.ord.lim) := A2.cell 25
  have q25 : w1.cell? ⟨w.heap.size + 1, 25, none⟩ = some (.int .i64 b.k.ord.lim) := B2.cell 25
  have p26 : w1.cell? ⟨w.heap.size, 26, none⟩ = some (.int .i64 a.k.ord.id) := A2.cell 26
  have q26 : w1.cell? ⟨w.heap.size + 1, 26, none⟩ = some (.int .i64 b.k.ord.id) := B2.cell 26
  have p27 : w1.cell? ⟨w.heap.size, 27, none⟩ = some (.int .i64 a.k.ord.node) := A2.cell 27
  have q27 : w1.cell? ⟨w.heap.size + 1, 27, none⟩ = some (.int .i64 b.k.ord.node) := B2.cell 27
  have p28 : w1.cell? ⟨w.heap.size, 28, none⟩ = some (.int .i64 a.k.client) := A2.cell 28
  have q28 : w1.cell? ⟨w.heap.size + 1, 28, none⟩ = some (.int .i64 b.k.client) := B2.cell 28
  have p29 : w1.cell? ⟨w.heap.size, 29, none⟩ = some (.int .i64 a.k.seq) := A2.cell 29
  have q29 : w1.cell? ⟨w.heap.size + 1, 29, none⟩ = some (.int .i64 b.k.seq) := B2.cell 29
  clear A1 B1 A2 B2 b1 cw2
  go_wp2_with fail
  go_ret
  exact ⟨rfl, hb1⟩
end Go.Proofs.YtkpakiiijphjeaaGreatDoor.Po
