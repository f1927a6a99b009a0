/-
  The document's own word on whether an order may be: kinds 10, 11. Conditions: lengths at most 2^47.
  The document's own word on whether an order may be: all kinds. Conditions: lengths at most 2^47.
  The document's Parse of orders' texts, at every text. Conditions: lengths below 2^47.
-/
import Derived.Test.YthcmnkmfhgoddaaGreatDoorOOdRA
import Derived.Test.YthcmnkmfhgoddaaGreatDoorOOdRB
import Derived.Test.YthcmnkmfhgoddaaGreatDoorOMbLRA
import Derived.Test.YthcmnkmfhgoddaaGreatDoorOOdPaA
import Derived.Test.YthcmnkmfhgoddaaGreatDoorORInt
namespace Go.Proofs.YthcmnkmfhgoddaaGreatDoor.Od
open Go.RowKit Bnd
open Go.Proofs.YthcmnkmfhgoddaaGreatDoor.O (Bd isB keyB)
open Go.Proofs.YthcmnkmfhgoddaaGreatDoor.Bnd (levelT)
set_option maxHeartbeats 8000000 in
set_option maxRecDepth 100000 in
theorem ris_10 (client seq : Int) (key til val old : ByteArray) (has : Bool) (lim id node : Int) (w : World) (hk : key.size ≤ 140737488355328) : Calls Tryz.prog 19 #[av ⟨10, client, seq, key, til, val, old, has, lim, id, node⟩] w fun e w' => e = .returned (.bool (isA ⟨10, client, seq, key, til, val, old, has, lim, id, node⟩)) ∧ Below w.heap.size w w' := by
  have cs := fun n w => rseq_any n w
  have hE : ∀ w, (Op.equalIn 10000 40 (.agg #[.int .i64 0, .int .i64 0, .int .i64 0, .string E0, .string til, .string val, .string old, .bool has, .int .i64 lim, .int .i64 id, .int .i64 0]) (.agg #[.int .i64 0, .int .i64 0, .int .i64 0, .string E0, .string E0, .string E0, .string E0, .bool false, .int .i64 0, .int .i64 0, .int .i64 0])).run Tryz.prog w = .ok (sameA ⟨0, 0, 0, E0, til, val, old, has, lim, id, 0⟩ Ask.zero) w := fun w => run_same_ask ⟨0, 0, 0, E0, til, val, old, has, lim, id, 0⟩ Ask.zero w
  have hI : isA ⟨10, client, seq, key, til, val, old, has, lim, id, node⟩ = (sameA ⟨0, 0, 0, E0, til, val, old, has, lim, id, 0⟩ Ask.zero && (seqB client && seqB seq) && fitsA ⟨10, client, seq, key, til, val, old, has, lim, id, node⟩) := isA_no (o := ⟨10, client, seq, key, til, val, old, has, lim, id, node⟩) (by decide : (10 : Int) ≠ 0)
  obtain ⟨X, hX⟩ : ∃ X, sameA ⟨0, 0, 0, E0, til, val, old, has, lim, id, 0⟩ Ask.zero = X := ⟨_, rfl⟩
  rw [hX] at hE hI
  rw [hI]
  clear hX hI
  rw [show fitsA ⟨10, client, seq, key, til, val, old, has, lim, id, node⟩ = (keyB key.toList && amongB node 1 7) from rfl, among_two node]
  cases h1 : seqB client with
  | false =>
    have cs1 : ∀ w, Calls Tryz.prog 54 #[.int .i64 client] w fun e w' => e = .returned (.bool false) ∧ w = w' := fun w => h1 ▸ cs client w
    clear cs h1
    go_enter Tryz.func19, Tryz.ntmps19
    go_wp2_with fail
    refine (cs1 _).mono ?_
    rintro e w1 ⟨rfl, rfl⟩
    go_wp2_with fail
    go_ret
    exact ⟨ret_bool (by simp), (by (repeat' (first | with_reducible assumption | with_reducible exact Below.refl _ _ | with_reducible refine Below.alloc ?_ ?_ _ | with_reducible refine Below.setCell ?_ ?_ _ | with_reducible refine Below.drew ?_ | omega | (simp; done) | (simp; omega))))⟩
  | true =>
    have cs1 : ∀ w, Calls Tryz.prog 54 #[.int .i64 client] w fun e w' => e = .returned (.bool true) ∧ w = w' := fun w => h1 ▸ cs client w
    clear h1
    cases h2 : seqB seq with
    | false =>
      have cs2 : ∀ w, Calls Tryz.prog 54 #[.int .i64 seq] w fun e w' => e = .returned (.bool false) ∧ w = w' := fun w => h2 ▸ cs seq w
      clear cs h2
      go_enter Tryz.func19, Tryz.ntmps19
      go_wp2_with fail
      refine (cs1 _).mono ?_
      rintro e w1 ⟨rfl, rfl⟩
      go_wp2_with fail
      refine (cs2 _).mono ?_
      rintro e w1 ⟨rfl, rfl⟩
      go_wp2_with fail
      go_ret
      exact ⟨ret_bool (by simp), (by (repeat' (first | with_reducible assumption | with_reducible exact Below.refl _ _ | with_reducible refine Below.alloc ?_ ?_ _ | with_reducible refine Below.setCell ?_ ?_ _ | with_reducible refine Below.drew ?_ | omega | (simp; done) | (simp; omega))))⟩
    | true =>
      have cs2 : ∀ w, Calls Tryz.prog 54 #[.int .i64 seq] w fun e w' => e = .returned (.bool true) ∧ w = w' := fun w => h2 ▸ cs seq w
      clear cs h2
      have ck := fun w => Bnd.rkey_any key w hk
      cases hb : keyB key.toList with
      | false =>
        rw [hb] at ck
        clear hb
        go_enter Tryz.func19, Tryz.ntmps19
        go_wp2_with fail
        refine (cs1 _).mono ?_
        rintro e w1 ⟨rfl, rfl⟩
        go_wp2_with fail
        refine (cs2 _).mono ?_
        rintro e w1 ⟨rfl, rfl⟩
        go_wp2_with fail
        refine (ck _).mono ?_
        rintro e w1 ⟨rfl, rfl⟩
        go_wp2_with fail
        go_ret
        exact ⟨ret_bool (by simp), (by (repeat' (first | with_reducible assumption | with_reducible exact Below.refl _ _ | with_reducible refine Below.alloc ?_ ?_ _ | with_reducible refine Below.setCell ?_ ?_ _ | with_reducible refine Below.drew ?_ | omega | (simp; done) | (simp; omega))))⟩
      | true =>
        rw [hb] at ck
        clear hb
        by_cases g0 : 1 ≤ node
        rotate_left
        ·
          rw [show decide (1 ≤ node) = false from decide_eq_false (by omega)]
          have e0 : (node ≥ 1) = False := eq_false (by omega)
          clear g0
          go_enter Tryz.func19, Tryz.ntmps19
          go_wp2_with fail
          refine (cs1 _).mono ?_
          rintro e w1 ⟨rfl, rfl⟩
          go_wp2_with fail
          refine (cs2 _).mono ?_
          rintro e w1 ⟨rfl, rfl⟩
          go_wp2_with fail
          refine (ck _).mono ?_
          rintro e w1 ⟨rfl, rfl⟩
          go_wp2_with fail
          go_ret
          exact ⟨ret_bool (by simp), (by (repeat' (first | with_reducible assumption | with_reducible exact Below.refl _ _ | with_reducible refine Below.alloc ?_ ?_ _ | with_reducible refine Below.setCell ?_ ?_ _ | with_reducible refine Below.drew ?_ | omega | (simp; done) | (simp; omega))))⟩
        rw [show decide (1 ≤ node) = true from decide_eq_true (by omega)]
        have e0 : (node ≥ 1) = True := eq_true (by omega)
        clear g0
        by_cases g1 : node ≤ 7
        rotate_left
        ·
          rw [show decide (node ≤ 7) = false from decide_eq_false (by omega)]
          have e1 : (node ≤ 7) = False := eq_false (by omega)
          clear g1
          go_enter Tryz.func19, Tryz.ntmps19
          go_wp2_with fail
          refine (cs1 _).mono ?_
          rintro e w1 ⟨rfl, rfl⟩
          go_wp2_with fail
          refine (cs2 _).mono ?_
          rintro e w1 ⟨rfl, rfl⟩
          go_wp2_with fail
          refine (ck _).mono ?_
          rintro e w1 ⟨rfl, rfl⟩
          go_wp2_with fail
          go_ret
          exact ⟨ret_bool (by simp), (by (repeat' (first | with_reducible assumption | with_reducible exact Below.refl _ _ | with_reducible refine Below.alloc ?_ ?_ _ | with_reducible refine Below.setCell ?_ ?_ _ | with_reducible refine Below.drew ?_ | omega | (simp; done) | (simp; omega))))⟩
        rw [show decide (node ≤ 7) = true from decide_eq_true (by omega)]
        have e1 : (node ≤ 7) = True := eq_true (by omega)
        clear g1
        go_enter Tryz.func19, Tryz.ntmps19
        go_wp2_with fail
        refine (cs1 _).mono ?_
        rintro e w1 ⟨rfl, rfl⟩
        go_wp2_with fail
        refine (cs2 _).mono ?_
        rintro e w1 ⟨rfl, rfl⟩
        go_wp2_with fail
        refine (ck _).mono ?_
        rintro e w1 ⟨rfl, rfl⟩
        go_wp2_with fail
        go_ret
        exact ⟨ret_bool (by simp), (by (repeat' (first | with_reducible assumption | with_reducible exact Below.refl _ _ | with_reducible refine Below.alloc ?_ ?_ _ | with_reducible refine Below.setCell ?_ ?_ _ | with_reducible refine Below.drew ?_ | omega | (simp; done) | (simp; omega))))⟩
set_option maxHeartbeats 8000000 in
set_option maxRecDepth 100000 in
theorem ris_11 (client seq : Int) (key til val old : ByteArray) (has : Bool) (lim id node : Int) (w : World) (hk : key.size ≤ 140737488355328) : Calls Tryz.prog 19 #[av ⟨11, client, seq, key, til, val, old, has, lim, id, node⟩] w fun e w' => e = .returned (.bool (isA ⟨11, client, seq, key, til, val, old, has, lim, id, node⟩)) ∧ Below w.heap.size w w' := by
  have cs := fun n w => rseq_any n w
  have hE : ∀ w, (Op.equalIn 10000 40 (.agg #[.int .i64 0, .int .i64 0, .int .i64 0, .string E0, .string til, .string val, .string old, .bool has, .int .i64 lim, .int .i64 0, .int .i64 node]) (.agg #[.int .i64 0, .int .i64 0, .int .i64 0, .string E0, .string E0, .string E0, .string E0, .bool false, .int .i64 0, .int .i64 0, .int .i64 0])).run Tryz.prog w = .ok (sameA ⟨0, 0, 0, E0, til, val, old, has, lim, 0, node⟩ Ask.zero) w := fun w => run_same_ask ⟨0, 0, 0, E0, til, val, old, has, lim, 0, node⟩ Ask.zero w
  have hI : isA ⟨11, client, seq, key, til, val, old, has, lim, id, node⟩ = (sameA ⟨0, 0, 0, E0, til, val, old, has, lim, 0, node⟩ Ask.zero && (seqB client && seqB seq) && fitsA ⟨11, client, seq, key, til, val, old, has, lim, id, node⟩) := isA_no (o := ⟨11, client, seq, key, til, val, old, has, lim, id, node⟩) (by decide : (11 : Int) ≠ 0)
  obtain ⟨X, hX⟩ : ∃ X, sameA ⟨0, 0, 0, E0, til, val, old, has, lim, 0, node⟩ Ask.zero = X := ⟨_, rfl⟩
  rw [hX] at hE hI
  rw [hI]
  clear hX hI
  rw [show fitsA ⟨11, client, seq, key, til, val, old, has, lim, id, node⟩ = (keyB key.toList && amongB id 1 1099511627776) from rfl, among_two id]
  cases h1 : seqB client with
  | false =>
    have cs1 : ∀ w, Calls Tryz.prog 54 #[.int .i64 client] w fun e w' => e = .returned (.bool false) ∧ w = w' := fun w => h1 ▸ cs client w
    clear cs h1
    go_enter Tryz.func19, Tryz.ntmps19
    go_wp2_with fail
    refine (cs1 _).mono ?_
    rintro e w1 ⟨rfl, rfl⟩
    go_wp2_with fail
    go_ret
    exact ⟨ret_bool (by simp), (by (repeat' (first | with_reducible assumption | with_reducible exact Below.refl _ _ | with_reducible refine Below.alloc ?_ ?_ _ | with_reducible refine Below.setCell ?_ ?_ _ | with_reducible refine Below.drew ?_ | omega | (simp; done) | (simp; omega))))⟩
  | true =>
    have cs1 : ∀ w, Calls Tryz.prog 54 #[.int .i64 client] w fun e w' => e = .returned (.bool true) ∧ w = w' := fun w => h1 ▸ cs client w
    clear h1
    cases h2 : seqB seq with
    | false =>
      have cs2 : ∀ w, Calls Tryz.prog 54 #[.int .i64 seq] w fun e w' => e = .returned (.bool false) ∧ w = w' := fun w => h2 ▸ cs seq w
      clear cs h2
      go_enter Tryz.func19, Tryz.ntmps19
      go_wp2_with fail
      refine (cs1 _).mono ?_
      rintro e w1 ⟨rfl, rfl⟩
      go_wp2_with fail
      refine (cs2 _).mono ?_
      rintro e w1 ⟨rfl, rfl⟩
      go_wp2_with fail
      go_ret
      exact ⟨ret_bool (by simp), (by (repeat' (first | with_reducible assumption | with_reducible exact Below.refl _ _ | with_reducible refine Below.alloc ?_ ?_ _ | with_reducible refine Below.setCell ?_ ?_ _ | with_reducible refine Below.drew ?_ | omega | (simp; done) | (simp; omega))))⟩
    | true =>
      have cs2 : ∀ w, Calls Tryz.prog 54 #[.int .i64 seq] w fun e w' => e = .returned (.bool true) ∧ w = w' := fun w => h2 ▸ cs seq w
      clear cs h2
      have ck := fun w => Bnd.rkey_any key w hk
      cases hb : keyB key.toList with
      | false =>
        rw [hb] at ck
        clear hb
        go_enter Tryz.func19, Tryz.ntmps19
        go_wp2_with fail
        refine (cs1 _).mono ?_
        rintro e w1 ⟨rfl, rfl⟩
        go_wp2_with fail
        refine (cs2 _).mono ?_
        rintro e w1 ⟨rfl, rfl⟩
        go_wp2_with fail
        refine (ck _).mono ?_
        rintro e w1 ⟨rfl, rfl⟩
        go_wp2_with fail
        go_ret
        exact ⟨ret_bool (by simp), (by (repeat' (first | with_reducible assumption | with_reducible exact Below.refl _ _ | with_reducible refine Below.alloc ?_ ?_ _ | with_reducible refine Below.setCell ?_ ?_ _ | with_reducible refine Below.drew ?_ | omega | (simp; done) | (simp; omega))))⟩
      | true =>
        rw [hb] at ck
        clear hb
        by_cases g0 : 1 ≤ id
        rotate_left
        ·
          rw [show decide (1 ≤ id) = false from decide_eq_false (by omega)]
          have e0 : (id ≥ 1) = False := eq_false (by omega)
          clear g0
          go_enter Tryz.func19, Tryz.ntmps19
          go_wp2_with fail
          refine (cs1 _).mono ?_
          rintro e w1 ⟨rfl, rfl⟩
          go_wp2_with fail
          refine (cs2 _).mono ?_
          rintro e w1 ⟨rfl, rfl⟩
          go_wp2_with fail
          refine (ck _).mono ?_
          rintro e w1 ⟨rfl, rfl⟩
          go_wp2_with fail
          go_ret
          exact ⟨ret_bool (by simp), (by (repeat' (first | with_reducible assumption | with_reducible exact Below.refl _ _ | with_reducible refine Below.alloc ?_ ?_ _ | with_reducible refine Below.setCell ?_ ?_ _ | with_reducible refine Below.drew ?_ | omega | (simp; done) | (simp; omega))))⟩
        rw [show decide (1 ≤ id) = true from decide_eq_true (by omega)]
        have e0 : (id ≥ 1) = True := eq_true (by omega)
        clear g0
        by_cases g1 : id ≤ 1099511627776
        rotate_left
        ·
          rw [show decide (id ≤ 1099511627776) = false from decide_eq_false (by omega)]
          have e1 : (id ≤ 1099511627776) = False := eq_false (by omega)
          clear g1
          go_enter Tryz.func19, Tryz.ntmps19
          go_wp2_with fail
          refine (cs1 _).mono ?_
          rintro e w1 ⟨rfl, rfl⟩
          go_wp2_with fail
          refine (cs2 _).mono ?_
          rintro e w1 ⟨rfl, rfl⟩
          go_wp2_with fail
          refine (ck _).mono ?_
          rintro e w1 ⟨rfl, rfl⟩
          go_wp2_with fail
          go_ret
          exact ⟨ret_bool (by simp), (by (repeat' (first | with_reducible assumption | with_reducible exact Below.refl _ _ | with_reducible refine Below.alloc ?_ ?_ _ | with_reducible refine Below.setCell ?_ ?_ _ | with_reducible refine Below.drew ?_ | omega | (simp; done) | (simp; omega))))⟩
        rw [show decide (id ≤ 1099511627776) = true from decide_eq_true (by omega)]
        have e1 : (id ≤ 1099511627776) = True := eq_true (by omega)
        clear g1
        go_enter Tryz.func19, Tryz.ntmps19
        go_wp2_with fail
        refine (cs1 _).mono ?_
        rintro e w1 ⟨rfl, rfl⟩
        go_wp2_with fail
        refine (cs2 _).mono ?_
        rintro e w1 ⟨rfl, rfl⟩
        go_wp2_with fail
        refine (ck _).mono ?_
        rintro e w1 ⟨rfl, rfl⟩
        go_wp2_with fail
        go_ret
        exact ⟨ret_bool (by simp), (by (repeat' (first | with_reducible assumption | with_reducible exact Below.refl _ _ | with_reducible refine Below.alloc ?_ ?_ _ | with_reducible refine Below.setCell ?_ ?_ _ | with_reducible refine Below.drew ?_ | omega | (simp; done) | (simp; omega))))⟩
end Go.Proofs.YthcmnkmfhgoddaaGreatDoor.Od

namespace Go.Proofs.YthcmnkmfhgoddaaGreatDoor.Od
open Go.RowKit Bnd
open Go.Proofs.YthcmnkmfhgoddaaGreatDoor.O (Bd isB keyB)
open Go.Proofs.YthcmnkmfhgoddaaGreatDoor.Bnd (levelT)
theorem ris_any (o : Ask) (w : World) (hk : o.key.size ≤ 140737488355328) (ht : o.til.size ≤ 140737488355328) (hv : o.val.size ≤ 140737488355328) : Calls Tryz.prog 19 #[av o] w fun e w' => e = .returned (.bool (isA o)) ∧ Below w.heap.size w w' := by
  obtain ⟨kind, client, seq, key, til, val, old, has, lim, id, node⟩ := o
  by_cases hr : kind < 0 ∨ 13 < kind
  · exact ris_o kind client seq key til val old has lim id node w hr
  have hc : kind = 0 ∨ kind = 1 ∨ kind = 2 ∨ kind = 3 ∨ kind = 4 ∨ kind = 5 ∨ kind = 6 ∨ kind = 7 ∨ kind = 8 ∨ kind = 9 ∨ kind = 10 ∨ kind = 11 ∨ kind = 12 ∨ kind = 13 := by omega
  rcases hc with rfl | rfl | rfl | rfl | rfl | rfl | rfl | rfl | rfl | rfl | rfl | rfl | rfl | rfl
  · exact ris_0 client seq key til val old has lim id node w
  · exact ris_1 client seq key til val old has lim id node w hk
  · exact ris_2 client seq key til val old has lim id node w hk
  · exact ris_3 client seq key til val old has lim id node w hk
  · exact ris_4 client seq key til val old has lim id node w hk
  · exact ris_5 client seq key til val old has lim id node w hk ht
  · exact ris_6 client seq key til val old has lim id node w
  · exact ris_7 client seq key til val old has lim id node w hk
  · exact ris_8 client seq key til val old has lim id node w hk
  · exact ris_9 client seq key til val old has lim id node w hk
  · exact ris_10 client seq key til val old has lim id node w hk
  · exact ris_11 client seq key til val old has lim id node w hk
  · exact ris_12 client seq key til val old has lim id node w hk
  · exact ris_13 client seq key til val old has lim id node w hv
end Go.Proofs.YthcmnkmfhgoddaaGreatDoor.Od

namespace Go.Proofs.YthcmnkmfhgoddaaGreatDoor.Od
open Go.RowKit Bnd
open Go.Proofs.YthcmnkmfhgoddaaGreatDoor.M (numT inR tieT intT untieT)
open Ds (own_cells)
theorem isA_ranges {o : Ask} (h : isA o = true) : (0 ≤ o.kind ∧ o.kind ≤ 100) ∧ (0 ≤ o.lim ∧ o.lim ≤ 1000) ∧ (0 ≤ o.node ∧ o.node ≤ 100) := by
  unfold isA at h
  rw [Bool.or_eq_true, sameA_iff] at h
  rcases h with rfl | h
  · exact ⟨⟨by decide, by decide⟩, ⟨by decide, by decide⟩, by decide, by decide⟩
  · rw [Bool.and_eq_true, Bool.and_eq_true, Bool.and_eq_true, sameA_iff] at h
    obtain ⟨⟨⟨h1, _⟩, _⟩, h2⟩ := h
    have hl : o.lim = (ownA o).lim := congrArg Ask.lim h1
    have hn : o.node = (ownA o).node := congrArg Ask.node h1
    have hl' : o.lim = if o.kind = 5 ∨ o.kind = 13 then o.lim else 0 := hl
    have hn' : o.node = if o.kind = 10 then o.node else 0 := hn
    clear h1 hl hn
    have hk : o.kind = 5 ∨ o.kind = 13 ∨ o.kind = 10 ∨ (¬ o.kind = 5 ∧ ¬ o.kind = 13 ∧ ¬ o.kind = 10 ∧ 0 ≤ o.kind ∧ o.kind ≤ 13) := by
      by_cases k6 : o.kind = 6
      · omega
      by_cases k5 : o.kind = 5
      · omega
      by_cases k13 : o.kind = 13
      · omega
      unfold fitsA at h2
      rw [if_neg k6, if_neg k5, if_neg k13, Bool.and_eq_true] at h2
      have h3 := h2.2
      unfold fitsKeyA at h3
      by_cases q1 : o.kind = 1 ∨ o.kind = 3 ∨ o.kind = 8 ∨ o.kind = 12
      · omega
      rw [if_neg q1] at h3
      by_cases q2 : o.kind = 2
      · omega
      rw [if_neg q2] at h3
      by_cases q4 : o.kind = 4
      · omega
      rw [if_neg q4] at h3
      by_cases q7 : o.kind = 7
      · omega
      rw [if_neg q7] at h3
      by_cases q9 : o.kind = 9
      · omega
      rw [if_neg q9] at h3
      by_cases q10 : o.kind = 10
      · omega
      rw [if_neg q10] at h3
      by_cases q11 : o.kind = 11
      · omega
      rw [if_neg q11] at h3
      cases h3
    rcases hk with hk | hk | hk | ⟨n5, n13, n10, hlo, hhi⟩
    · rw [if_neg (by omega)] at hn'
      unfold fitsA at h2
      rw [if_neg (by omega), if_pos hk, Bool.and_eq_true] at h2
      have h3 := h2.2
      unfold amongB at h3
      rw [decide_eq_true_eq] at h3
      omega
    · rw [if_neg (by omega)] at hn'
      unfold fitsA at h2
      rw [if_neg (by omega), if_neg (by omega), if_pos hk, Bool.and_eq_true] at h2
      have h3 := h2.2
      unfold amongB at h3
      rw [decide_eq_true_eq] at h3
      omega
    · rw [if_neg (by omega)] at hl'
      unfold fitsA at h2
      rw [if_neg (by omega), if_neg (by omega), if_neg (by omega), Bool.and_eq_true] at h2
      have h3 := h2.2
      unfold fitsKeyA at h3
      rw [if_neg (by omega), if_neg (by omega), if_neg (by omega), if_neg (by omega), if_neg (by omega), if_pos hk] at h3
      unfold amongB at h3
      rw [decide_eq_true_eq] at h3
      omega
    · rw [if_neg (by omega)] at hl'
      rw [if_neg (by omega)] at hn'
      omega
theorem okA_no {o : Ask} {s : Text} (h : ¬ (isA o = true ∧ putA o = s)) : okA o s = (Ask.zero, 70) := if_neg h
theorem intR_two (t : Text) : ∃ f : Int, intR (intT t) = .tuple #[.int .i64 (num0 t), .int .i64 f] ∧ (f = 0 ∨ (f = 10 ∧ intT t = none)) := by
  unfold num0
  cases h : intT t with
  | none => exact ⟨10, rfl, .inr ⟨rfl, rfl⟩⟩
  | some n => exact ⟨0, rfl, .inl rfl⟩
theorem strand_num {o : Ask} {s : Text} {l : List Text} (hu : untieT s = some l) (hp : putA o = s) : l = strandsA o := by
  have h := (M.untie_spec hu).1
  unfold putA at hp
  rw [h] at hp
  exact (M.tieT_inj hp).symm
structure RB (w1 : World) (o : Ask) (L : Nat → Bool) (u : Nat → Value) (wx : World) : Prop where
  lo : Below w1.heap.size w1 wx
  n : L 23 = true → ∃ n : Nat, u 23 = Ds.ptr n ∧ w1.heap.size ≤ n ∧ n < wx.heap.size ∧ (∃ x, BoxA n x wx) ∧ (L 24 = true → BoxA n o wx)
theorem RB.free {w1 wx : World} {o : Ask} {L : Nat → Bool} {u : Nat → Value} (h : RB w1 o L u wx) (h24 : L 24 = false) : RB w1 o (St.mark L 23) (St.upd u 23 (Ds.ptr wx.heap.size)) (wx.alloc (.cells #[.int .i64 0, .int .i64 0, .int .i64 0, .string ⟨#[]⟩, .string ⟨#[]⟩, .string ⟨#[]⟩, .string ⟨#[]⟩, .bool false, .int .i64 0, .int .i64 0, .int .i64 0] 40)) := by
  refine ⟨h.lo.alloc h.lo.size _, fun _ => ⟨wx.heap.size, rfl, h.lo.size, by simp, ⟨Ask.zero, BoxA.new wx Ask.zero⟩, fun h' => ?_⟩⟩
  rw [show St.mark L 23 24 = L 24 from rfl, h24] at h'; cases h'
theorem RB.set {w1 wx : World} {o : Ask} {L : Nat → Bool} {u : Nat → Value} (h : RB w1 o L u wx) (h23 : L 23 = true) {n : Nat} (hu : u 23 = Ds.ptr n) : RB w1 o (St.mark L 24) (St.upd u 24 undef) (World.setCell (World.setCell (World.setCell (World.setCell (World.setCell (World.setCell (World.setCell (World.setCell (World.setCell (World.setCell (World.setCell wx ⟨n, 0, none⟩ (.int .i64 o.kind)) ⟨n, 1, none⟩ (.int .i64 o.client)) ⟨n, 2, none⟩ (.int .i64 o.seq)) ⟨n, 3, none⟩ (.string o.key)) ⟨n, 4, none⟩ (.string o.til)) ⟨n, 5, none⟩ (.string o.val)) ⟨n, 6, none⟩ (.string o.old)) ⟨n, 7, none⟩ (.bool o.has)) ⟨n, 8, none⟩ (.int .i64 o.lim)) ⟨n, 9, none⟩ (.int .i64 o.id)) ⟨n, 10, none⟩ (.int .i64 o.node)) := by
  obtain ⟨n', g1, g2, g3, ⟨x, g4⟩, _⟩ := h.n h23
  obtain rfl := ptr_inj (hu.symm.trans g1)
  have B := BoxA.put g4 o
  refine ⟨(((((((((((h.lo).setCell (p := ⟨n, 0, none⟩) g2 _).setCell (p := ⟨n, 1, none⟩) g2 _).setCell (p := ⟨n, 2, none⟩) g2 _).setCell (p := ⟨n, 3, none⟩) g2 _).setCell (p := ⟨n, 4, none⟩) g2 _).setCell (p := ⟨n, 5, none⟩) g2 _).setCell (p := ⟨n, 6, none⟩) g2 _).setCell (p := ⟨n, 7, none⟩) g2 _).setCell (p := ⟨n, 8, none⟩) g2 _).setCell (p := ⟨n, 9, none⟩) g2 _).setCell (p := ⟨n, 10, none⟩) g2 _, fun _ => ⟨n, hu, g2, B.1, ⟨o, B⟩, fun _ => B⟩⟩
set_option maxHeartbeats 16000000 in
set_option maxRecDepth 100000 in
theorem rparse_any (s : ByteArray) (w : World) (hs : s.size ≤ 140737488355328) :
    Calls Tryz.prog 46 #[.string s] w fun e w' => e = .returned (.tuple #[av (parseA s.data.toList).1, .int .i64 (parseA s.data.toList).2]) ∧ Below w.heap.size w w' := by
  have cu := fun w => runtie_any s w hs
  have B0 := BoxA.new w Ask.zero
  cases hu : untieT s.data.toList with
  | none =>
    rw [parseA_none hu]
    rw [hu] at cu
    unfold UntieOut at cu
    clear hu
    go_enter Tryz.func46, Tryz.ntmps46
    go_wp2_with fail
    refine (cu _).mono ?_
    rintro e w1 ⟨rfl, b1⟩
    have B1 := B0.keep b1
    have hb1 : Below w.heap.size w w1 := (show Below w.heap.size w _ from (by (repeat' (first | with_reducible assumption | with_reducible exact Below.refl _ _ | with_reducible refine Below.alloc ?_ ?_ _ | with_reducible refine Below.setCell ?_ ?_ _ | with_reducible refine Below.drew ?_ | omega | (simp; done) | (simp; omega))))).trans (b1.mono (by simp))
    obtain ⟨p_0, ⟨p_1, p_2, p_3, p_4, p_5, p_6, p_7, p_8, p_9, p_10, p_11⟩, p_12⟩ := _root_.id B1
    clear b1 cu
    go_wp2_with fail
    exact bodyPost_ret (res_BoxA_tmp Tryz.results46 rfl rfl (BoxA.put B1 Ask.zero)) rfl ⟨rfl, (by (repeat' (first | with_reducible assumption | with_reducible exact Below.refl _ _ | with_reducible refine Below.alloc ?_ ?_ _ | with_reducible refine Below.setCell ?_ ?_ _ | with_reducible refine Below.drew ?_ | omega | (simp; done) | (simp; omega))))⟩
  | some l =>
    obtain ⟨q, hq⟩ : ∃ q, parseA s.data.toList = q := ⟨_, rfl⟩
    rw [hq]
    have HQ := Lib.hid hq
    clear hq
    rw [hu] at cu
    have hus := M.untie_spec hu
    go_enter Tryz.func46, Tryz.ntmps46
    go_wp2_with fail
    refine (cu _).mono ?_
    rintro e w1 ⟨⟨v, ss, rfl, hss, hsl⟩, b1⟩
    subst hss
    have hszs : ∀ x ∈ ss, x.size ≤ 1048576 := by
      intro x hx
      have h1 := mem_le_tie (l := texts ss) (x := x.data.toList) (List.mem_map.2 ⟨x, hx, rfl⟩)
      have h2 := hus.2.2
      rw [hus.1] at h2
      have h3 : x.data.toList.length = x.size := by simp
      omega
    have B1 := B0.keep b1
    have hb1 : Below w.heap.size w w1 := (show Below w.heap.size w _ from (by (repeat' (first | with_reducible assumption | with_reducible exact Below.refl _ _ | with_reducible refine Below.alloc ?_ ?_ _ | with_reducible refine Below.setCell ?_ ?_ _ | with_reducible refine Below.drew ?_ | omega | (simp; done) | (simp; omega))))).trans (b1.mono (by simp))
    have hz1 := hb1.size
    obtain ⟨p_0, ⟨p_1, p_2, p_3, p_4, p_5, p_6, p_7, p_8, p_9, p_10, p_11⟩, p_12⟩ := _root_.id B1
    have HU := Lib.hid hu
    clear b1 cu hus hu
    obtain ⟨A, c, rfl⟩ := hsl.form
    by_cases h11 : ss.length = 11
    rotate_left
    · have HR := Lib.hid (HQ.out.symm.trans (parseA_len HU.out h11))
      have g1 : ((ss.length : Int) == 11) = false := by rw [beq_eq_false_iff_ne]; omega
      have g2 : ((ss.length : Int) != 11) = true := by rw [bne, g1]; rfl
      have g3 : ((ss.length : Int) = 11) = False := eq_false (by omega)
      clear h11 hsl HU HQ
      go_wp2_with fail
      exact bodyPost_ret (res_BoxA_tmp Tryz.results46 rfl rfl (BoxA.put B1 Ask.zero)) rfl ⟨by rw [HR.out] <;> rfl, (by (repeat' (first | with_reducible assumption | with_reducible exact Below.refl _ _ | with_reducible refine Below.alloc ?_ ?_ _ | with_reducible refine Below.setCell ?_ ?_ _ | with_reducible refine Below.drew ?_ | omega | (simp; done) | (simp; omega))))⟩
    · obtain ⟨x0, x1, x2, x3, x4, x5, x6, x7, x8, x9, x10, rfl⟩ : ∃ x0 x1 x2 x3 x4 x5 x6 x7 x8 x9 x10, ss = [x0, x1, x2, x3, x4, x5, x6, x7, x8, x9, x10] := by
        rcases ss with _ | ⟨a0, _ | ⟨a1, _ | ⟨a2, _ | ⟨a3, _ | ⟨a4, _ | ⟨a5, _ | ⟨a6, _ | ⟨a7, _ | ⟨a8, _ | ⟨a9, _ | ⟨a10, _ | ⟨a11, _⟩⟩⟩⟩⟩⟩⟩⟩⟩⟩⟩⟩
        all_goals first | exact ⟨_, _, _, _, _, _, _, _, _, _, _, rfl⟩ | (exfalso; simp at h11)
      have HP := Lib.hid (HQ.out.symm.trans (parseA_some HU.out))
      have HS : ∀ o : Ask, putA o = s.data.toList → texts [x0, x1, x2, x3, x4, x5, x6, x7, x8, x9, x10] = strandsA o := fun o hp => strand_num HU.out hp
      clear HQ
      obtain ⟨ad, rfl, hadb, z0⟩ := hsl.at_ (k := 0) (by simp)
      obtain ⟨ad1, ha1, _, z1⟩ := hsl.at_ (k := 1) (by simp)
      obtain rfl : ad = ad1 := Option.some.inj ha1
      obtain ⟨ad2, ha2, _, z2⟩ := hsl.at_ (k := 2) (by simp)
      obtain rfl : ad = ad2 := Option.some.inj ha2
      obtain ⟨ad3, ha3, _, z3⟩ := hsl.at_ (k := 3) (by simp)
      obtain rfl : ad = ad3 := Option.some.inj ha3
      obtain ⟨ad4, ha4, _, z4⟩ := hsl.at_ (k := 4) (by simp)
      obtain rfl : ad = ad4 := Option.some.inj ha4
      obtain ⟨ad5, ha5, _, z5⟩ := hsl.at_ (k := 5) (by simp)
      obtain rfl : ad = ad5 := Option.some.inj ha5
      obtain ⟨ad6, ha6, _, z6⟩ := hsl.at_ (k := 6) (by simp)
      obtain rfl : ad = ad6 := Option.some.inj ha6
      obtain ⟨ad7, ha7, _, z7⟩ := hsl.at_ (k := 7) (by simp)
      obtain rfl : ad = ad7 := Option.some.inj ha7
      obtain ⟨ad8, ha8, _, z8⟩ := hsl.at_ (k := 8) (by simp)
      obtain rfl : ad = ad8 := Option.some.inj ha8
      obtain ⟨ad9, ha9, _, z9⟩ := hsl.at_ (k := 9) (by simp)
      obtain rfl : ad = ad9 := Option.some.inj ha9
      obtain ⟨ad10, ha10, _, z10⟩ := hsl.at_ (k := 10) (by simp)
      obtain rfl : ad = ad10 := Option.some.inj ha10
      clear ha1 ha2 ha3 ha4 ha5 ha6 ha7 ha8 ha9 ha10
      simp only [List.getElem_cons_zero, List.getElem_cons_succ] at z0 z1 z2 z3 z4 z5 z6 z7 z8 z9 z10
      have z0 : w1.cell? ad = some (.string x0) := z0
      have z1 : w1.cell? ⟨ad.block, ad.off + 1, none⟩ = some (.string x1) := z1
      have z2 : w1.cell? ⟨ad.block, ad.off + 2, none⟩ = some (.string x2) := z2
      have z3 : w1.cell? ⟨ad.block, ad.off + 3, none⟩ = some (.string x3) := z3
      have z4 : w1.cell? ⟨ad.block, ad.off + 4, none⟩ = some (.string x4) := z4
      have z5 : w1.cell? ⟨ad.block, ad.off + 5, none⟩ = some (.string x5) := z5
      have z6 : w1.cell? ⟨ad.block, ad.off + 6, none⟩ = some (.string x6) := z6
      have z7 : w1.cell? ⟨ad.block, ad.off + 7, none⟩ = some (.string x7) := z7
      have z8 : w1.cell? ⟨ad.block, ad.off + 8, none⟩ = some (.string x8) := z8
      have z9 : w1.cell? ⟨ad.block, ad.off + 9, none⟩ = some (.string x9) := z9
      have z10 : w1.cell? ⟨ad.block, ad.off + 10, none⟩ = some (.string x10) := z10
      have hx0 := hszs x0 (by simp)
      have hx1 := hszs x1 (by simp)
      have hx2 := hszs x2 (by simp)
      have hx3 := hszs x3 (by simp)
      have hx4 := hszs x4 (by simp)
      have hx5 := hszs x5 (by simp)
      have hx6 := hszs x6 (by simp)
      have hx7 := hszs x7 (by simp)
      have hx8 := hszs x8 (by simp)
      have hx9 := hszs x9 (by simp)
      have hx10 := hszs x10 (by simp)
      obtain ⟨f0, c0, d0⟩ : ∃ f : Int, (∀ w, Calls Tryz.prog 99 #[.string x0] w fun e w' => e = .returned (.tuple #[.int .i64 (num0 x0.data.toList), .int .i64 f]) ∧ w = w') ∧ (f = 0 ∨ (f = 10 ∧ intT x0.data.toList = none)) := by
        obtain ⟨f, h1, h2⟩ := intR_two x0.data.toList
        exact ⟨f, fun w => by rw [← h1]; exact rint_any x0 w (by omega), h2⟩
      have i0 := num0_in x0.data.toList
      obtain ⟨n0, hn0⟩ : ∃ n, num0 x0.data.toList = n := ⟨_, rfl⟩
      rw [hn0] at c0 i0
      obtain ⟨f1, c1, d1⟩ : ∃ f : Int, (∀ w, Calls Tryz.prog 99 #[.string x1] w fun e w' => e = .returned (.tuple #[.int .i64 (num0 x1.data.toList), .int .i64 f]) ∧ w = w') ∧ (f = 0 ∨ (f = 10 ∧ intT x1.data.toList = none)) := by
        obtain ⟨f, h1, h2⟩ := intR_two x1.data.toList
        exact ⟨f, fun w => by rw [← h1]; exact rint_any x1 w (by omega), h2⟩
      have i1 := num0_in x1.data.toList
      obtain ⟨n1, hn1⟩ : ∃ n, num0 x1.data.toList = n := ⟨_, rfl⟩
      rw [hn1] at c1 i1
      obtain ⟨f2, c2, d2⟩ : ∃ f : Int, (∀ w, Calls Tryz.prog 99 #[.string x2] w fun e w' => e = .returned (.tuple #[.int .i64 (num0 x2.data.toList), .int .i64 f]) ∧ w = w') ∧ (f = 0 ∨ (f = 10 ∧ intT x2.data.toList = none)) := by
        obtain ⟨f, h1, h2⟩ := intR_two x2.data.toList
        exact ⟨f, fun w => by rw [← h1]; exact rint_any x2 w (by omega), h2⟩
      have i2 := num0_in x2.data.toList
      obtain ⟨n2, hn2⟩ : ∃ n, num0 x2.data.toList = n := ⟨_, rfl⟩
      rw [hn2] at c2 i2
      obtain ⟨f8, c8, d8⟩ : ∃ f : Int, (∀ w, Calls Tryz.prog 99 #[.string x8] w fun e w' => e = .returned (.tuple #[.int .i64 (num0 x8.data.toList), .int .i64 f]) ∧ w = w') ∧ (f = 0 ∨ (f = 10 ∧ intT x8.data.toList = none)) := by
        obtain ⟨f, h1, h2⟩ := intR_two x8.data.toList
        exact ⟨f, fun w => by rw [← h1]; exact rint_any x8 w (by omega), h2⟩
      have i8 := num0_in x8.data.toList
      obtain ⟨n8, hn8⟩ : ∃ n, num0 x8.data.toList = n := ⟨_, rfl⟩
      rw [hn8] at c8 i8
      obtain ⟨f9, c9, d9⟩ : ∃ f : Int, (∀ w, Calls Tryz.prog 99 #[.string x9] w fun e w' => e = .returned (.tuple #[.int .i64 (num0 x9.data.toList), .int .i64 f]) ∧ w = w') ∧ (f = 0 ∨ (f = 10 ∧ intT x9.data.toList = none)) := by
        obtain ⟨f, h1, h2⟩ := intR_two x9.data.toList
        exact ⟨f, fun w => by rw [← h1]; exact rint_any x9 w (by omega), h2⟩
      have i9 := num0_in x9.data.toList
      obtain ⟨n9, hn9⟩ : ∃ n, num0 x9.data.toList = n := ⟨_, rfl⟩
      rw [hn9] at c9 i9
      obtain ⟨f10, c10, d10⟩ : ∃ f : Int, (∀ w, Calls Tryz.prog 99 #[.string x10] w fun e w' => e = .returned (.tuple #[.int .i64 (num0 x10.data.toList), .int .i64 f]) ∧ w = w') ∧ (f = 0 ∨ (f = 10 ∧ intT x10.data.toList = none)) := by
        obtain ⟨f, h1, h2⟩ := intR_two x10.data.toList
        exact ⟨f, fun w => by rw [← h1]; exact rint_any x10 w (by omega), h2⟩
      have i10 := num0_in x10.data.toList
      obtain ⟨n10, hn10⟩ : ∃ n, num0 x10.data.toList = n := ⟨_, rfl⟩
      rw [hn10] at c10 i10
      have hbad : ∀ k x, (k, x) ∈ [(0, x0), (1, x1), (2, x2), (8, x8), (9, x9), (10, x10)] → intT x.data.toList = none → q = (Ask.zero, 70) := by
        intro k x hk hx
        rw [HP.out]
        refine okA_no (fun hh => ?_)
        have e := HS _ hh.2
        simp only [texts, strandsA, List.map_cons, List.map_nil] at e
        injection e with e0 e
        injection e with e1 e
        injection e with e2 e
        injection e with e3 e
        injection e with e4 e
        injection e with e5 e
        injection e with e6 e
        injection e with e7 e
        injection e with e8 e
        injection e with e9 e
        injection e with e10 e
        simp only [List.mem_cons, List.not_mem_nil, or_false, Prod.mk.injEq] at hk
        rcases hk with ⟨rfl, rfl⟩ | ⟨rfl, rfl⟩ | ⟨rfl, rfl⟩ | ⟨rfl, rfl⟩ | ⟨rfl, rfl⟩ | ⟨rfl, rfl⟩
        · rw [e0, M.intT_some (num0_in _) rfl] at hx; cases hx
        · rw [e1, M.intT_some (num0_in _) rfl] at hx; cases hx
        · rw [e2, M.intT_some (num0_in _) rfl] at hx; cases hx
        · rw [e8, M.intT_some (num0_in _) rfl] at hx; cases hx
        · rw [e9, M.intT_some (num0_in _) rfl] at hx; cases hx
        · rw [e10, M.intT_some (num0_in _) rfl] at hx; cases hx
      rw [hn0, hn1, hn2, hn8, hn9, hn10] at HP
      clear hn0 hn1 hn2 hn8 hn9 hn10 HS
      rw [← is_one] at HP
      obtain ⟨o, ho⟩ : ∃ o : Ask, (⟨n0, n1, n2, x3, x4, x5, x6, x7.toList == [49], n8, n9, n10⟩ : Ask) = o := ⟨_, rfl⟩
      rw [ho] at HP
      have hkk : o.key.size ≤ 140737488355328 := by rw [← ho]; show x3.size ≤ _; omega
      have hkt : o.til.size ≤ 140737488355328 := by rw [← ho]; show x4.size ≤ _; omega
      have hkv : o.val.size ≤ 140737488355328 := by rw [← ho]; show x5.size ≤ _; omega
      have hfit : FitA o := by rw [← ho]; exact ⟨⟨i0, i1, i2, i8, i9, i10⟩, hx3, hx4, hx5, hx6⟩
      have hrange : ¬ ((0 ≤ n0 ∧ n0 ≤ 100) ∧ (0 ≤ n8 ∧ n8 ≤ 1000) ∧ (0 ≤ n10 ∧ n10 ≤ 100)) → q = (Ask.zero, 70) := by
        intro hn
        rw [HP.out]
        refine okA_no (fun hh => hn ?_)
        have := isA_ranges hh.1
        rw [← ho] at this
        exact this
      have HO := Lib.hid ho
      have HB := Lib.hid hbad
      have HRG := Lib.hid hrange
      clear ho h11 HU hszs hx0 hx1 hx2 hx3 hx4 hx5 hx6 hx7 hx8 hx9 hx10 i0 i1 i2 i8 i9 i10 hbad hrange hsl
      have D := Lib.hid (And.intro d0 (And.intro d1 (And.intro d2 (And.intro d8 (And.intro d9 d10)))))
      clear d0 d1 d2 d8 d9 d10
      simp only [List.length_cons, List.length_nil]
      go_wp2_with fail
      refine (c0 _).mono ?_
      rintro e w2 ⟨rfl, rfl⟩
      go_wp2_with fail
      refine (c1 _).mono ?_
      rintro e w2 ⟨rfl, rfl⟩
      go_wp2_with fail
      refine (c2 _).mono ?_
      rintro e w2 ⟨rfl, rfl⟩
      go_wp2_with fail
      refine (c8 _).mono ?_
      rintro e w2 ⟨rfl, rfl⟩
      go_wp2_with fail
      refine (c9 _).mono ?_
      rintro e w2 ⟨rfl, rfl⟩
      go_wp2_with fail
      refine (c10 _).mono ?_
      rintro e w2 ⟨rfl, rfl⟩
      obtain ⟨d0, d1, d2, d8, d9, d10⟩ := D.out
      clear c0 c1 c2 c8 c9 c10 D
      by_cases hall : f0 = 0 ∧ f1 = 0 ∧ f2 = 0 ∧ f8 = 0 ∧ f9 = 0 ∧ f10 = 0
      rotate_left
      · have HR : Hid (q = (Ask.zero, 70)) := by
          refine Lib.hid ?_
          rcases d0 with r0 | ⟨_, h⟩
          rotate_left
          · exact HB.out 0 x0 (by simp) h
          rcases d1 with r1 | ⟨_, h⟩
          rotate_left
          · exact HB.out 1 x1 (by simp) h
          rcases d2 with r2 | ⟨_, h⟩
          rotate_left
          · exact HB.out 2 x2 (by simp) h
          rcases d8 with r8 | ⟨_, h⟩
          rotate_left
          · exact HB.out 8 x8 (by simp) h
          rcases d9 with r9 | ⟨_, h⟩
          rotate_left
          · exact HB.out 9 x9 (by simp) h
          rcases d10 with r10 | ⟨_, h⟩
          rotate_left
          · exact HB.out 10 x10 (by simp) h
          exact absurd ⟨r0, r1, r2, r8, r9, r10⟩ hall
        have e0 : 0 ≤ f0 ∧ f0 ≤ 10 := by omega
        have e1 : 0 ≤ f1 ∧ f1 ≤ 10 := by omega
        have e2 : 0 ≤ f2 ∧ f2 ≤ 10 := by omega
        have e8 : 0 ≤ f8 ∧ f8 ≤ 10 := by omega
        have e9 : 0 ≤ f9 ∧ f9 ≤ 10 := by omega
        have e10 : 0 ≤ f10 ∧ f10 ≤ 10 := by omega
        obtain ⟨s1, hs1⟩ : ∃ s1, s1 = f0 + f1 := ⟨_, rfl⟩
        obtain ⟨s2, hs2⟩ : ∃ s2, s2 = s1 + f2 := ⟨_, rfl⟩
        obtain ⟨s3, hs3⟩ : ∃ s3, s3 = s2 + f8 := ⟨_, rfl⟩
        obtain ⟨s4, hs4⟩ : ∃ s4, s4 = s3 + f9 := ⟨_, rfl⟩
        obtain ⟨s5, hs5⟩ : ∃ s5, s5 = s4 + f10 := ⟨_, rfl⟩
        have j1 : IntKind.i64.wrap (f0 + f1) = s1 := by rw [IntKind.wrap_i64] <;> omega
        have j2 : IntKind.i64.wrap (s1 + f2) = s2 := by rw [IntKind.wrap_i64] <;> omega
        have j3 : IntKind.i64.wrap (s2 + f8) = s3 := by rw [IntKind.wrap_i64] <;> omega
        have j4 : IntKind.i64.wrap (s3 + f9) = s4 := by rw [IntKind.wrap_i64] <;> omega
        have j5 : IntKind.i64.wrap (s4 + f10) = s5 := by rw [IntKind.wrap_i64] <;> omega
        have j6 : (s5 != 0) = true := by rw [bne_iff_ne]; omega
        clear d0 d1 d2 d8 d9 d10 hall e0 e1 e2 e8 e9 e10 hs1 hs2 hs3 hs4 hs5
        go_wp2_with fail
        exact bodyPost_ret (res_BoxA_tmp Tryz.results46 rfl rfl (BoxA.put B1 Ask.zero)) rfl ⟨by rw [HR.out] <;> rfl, (by (repeat' (first | with_reducible assumption | with_reducible exact Below.refl _ _ | with_reducible refine Below.alloc ?_ ?_ _ | with_reducible refine Below.setCell ?_ ?_ _ | with_reducible refine Below.drew ?_ | omega | (simp; done) | (simp; omega))))⟩
      obtain ⟨rfl, rfl, rfl, rfl, rfl, rfl⟩ := hall
      clear d0 d1 d2 d8 d9 d10
      by_cases t : 0 ≤ n0
      rotate_left
      · have HR := Lib.hid (HRG.out (by omega))
        have t2 : (n0 < 0) = True := eq_true (by omega)
        clear t
        go_wp2_with fail
        exact bodyPost_ret (res_BoxA_tmp Tryz.results46 rfl rfl (BoxA.put B1 Ask.zero)) rfl ⟨by rw [HR.out] <;> rfl, (by (repeat' (first | with_reducible assumption | with_reducible exact Below.refl _ _ | with_reducible refine Below.alloc ?_ ?_ _ | with_reducible refine Below.setCell ?_ ?_ _ | with_reducible refine Below.drew ?_ | omega | (simp; done) | (simp; omega))))⟩
      have tn0a : (n0 < 0) = False := eq_false (by omega)
      clear t
      by_cases t : n0 ≤ 100
      rotate_left
      · have HR := Lib.hid (HRG.out (by omega))
        have t2 : (n0 > 100) = True := eq_true (by omega)
        clear t
        go_wp2_with fail
        exact bodyPost_ret (res_BoxA_tmp Tryz.results46 rfl rfl (BoxA.put B1 Ask.zero)) rfl ⟨by rw [HR.out] <;> rfl, (by (repeat' (first | with_reducible assumption | with_reducible exact Below.refl _ _ | with_reducible refine Below.alloc ?_ ?_ _ | with_reducible refine Below.setCell ?_ ?_ _ | with_reducible refine Below.drew ?_ | omega | (simp; done) | (simp; omega))))⟩
      have tn0b : (n0 > 100) = False := eq_false (by omega)
      clear t
      by_cases t : 0 ≤ n8
      rotate_left
      · have HR := Lib.hid (HRG.out (by omega))
        have t2 : (n8 < 0) = True := eq_true (by omega)
        clear t
        go_wp2_with fail
        exact bodyPost_ret (res_BoxA_tmp Tryz.results46 rfl rfl (BoxA.put B1 Ask.zero)) rfl ⟨by rw [HR.out] <;> rfl, (by (repeat' (first | with_reducible assumption | with_reducible exact Below.refl _ _ | with_reducible refine Below.alloc ?_ ?_ _ | with_reducible refine Below.setCell ?_ ?_ _ | with_reducible refine Below.drew ?_ | omega | (simp; done) | (simp; omega))))⟩
      have tn8a : (n8 < 0) = False := eq_false (by omega)
      clear t
      by_cases t : n8 ≤ 1000
      rotate_left
      · have HR := Lib.hid (HRG.out (by omega))
        have t2 : (n8 > 1000) = True := eq_true (by omega)
        clear t
        go_wp2_with fail
        exact bodyPost_ret (res_BoxA_tmp Tryz.results46 rfl rfl (BoxA.put B1 Ask.zero)) rfl ⟨by rw [HR.out] <;> rfl, (by (repeat' (first | with_reducible assumption | with_reducible exact Below.refl _ _ | with_reducible refine Below.alloc ?_ ?_ _ | with_reducible refine Below.setCell ?_ ?_ _ | with_reducible refine Below.drew ?_ | omega | (simp; done) | (simp; omega))))⟩
      have tn8b : (n8 > 1000) = False := eq_false (by omega)
      clear t
      by_cases t : 0 ≤ n10
      rotate_left
      · have HR := Lib.hid (HRG.out (by omega))
        have t2 : (n10 < 0) = True := eq_true (by omega)
        clear t
        go_wp2_with fail
        exact bodyPost_ret (res_BoxA_tmp Tryz.results46 rfl rfl (BoxA.put B1 Ask.zero)) rfl ⟨by rw [HR.out] <;> rfl, (by (repeat' (first | with_reducible assumption | with_reducible exact Below.refl _ _ | with_reducible refine Below.alloc ?_ ?_ _ | with_reducible refine Below.setCell ?_ ?_ _ | with_reducible refine Below.drew ?_ | omega | (simp; done) | (simp; omega))))⟩
      have tn10a : (n10 < 0) = False := eq_false (by omega)
      clear t
      by_cases t : n10 ≤ 100
      rotate_left
      · have HR := Lib.hid (HRG.out (by omega))
        have t2 : (n10 > 100) = True := eq_true (by omega)
        clear t
        go_wp2_with fail
        exact bodyPost_ret (res_BoxA_tmp Tryz.results46 rfl rfl (BoxA.put B1 Ask.zero)) rfl ⟨by rw [HR.out] <;> rfl, (by (repeat' (first | with_reducible assumption | with_reducible exact Below.refl _ _ | with_reducible refine Below.alloc ?_ ?_ _ | with_reducible refine Below.setCell ?_ ?_ _ | with_reducible refine Below.drew ?_ | omega | (simp; done) | (simp; omega))))⟩
      have tn10b : (n10 > 100) = False := eq_false (by omega)
      clear t
      go_wp2_with fail
      refine St.wp_region_mixed (RB w1 o) (fun _ _ => False) (by kernel_rfl) (by kernel_rfl) (by kernel_rfl) ⟨(Below.refl _ w1).drew, fun h => (by cases h)⟩ ?_
      iterate 23
        apply St.mix_give
        · rfl
        · intro L u' wx hS hcl hrd hag
          have y3 := (hS.lo.cell (p := ⟨ad.block, ad.off + 3, none⟩) hadb).trans z3
          have y4 := (hS.lo.cell (p := ⟨ad.block, ad.off + 4, none⟩) hadb).trans z4
          have y5 := (hS.lo.cell (p := ⟨ad.block, ad.off + 5, none⟩) hadb).trans z5
          have y6 := (hS.lo.cell (p := ⟨ad.block, ad.off + 6, none⟩) hadb).trans z6
          have y7 := (hS.lo.cell (p := ⟨ad.block, ad.off + 7, none⟩) hadb).trans z7
          go_simp
          try with_reducible rfl
        · exact fun L u' wx hS => ⟨hS.lo, hS.n⟩
        simp only [Act.put, List.setIfInBounds_toArray, List.set_cons_zero, List.set_cons_succ]
      refine St.mix_free (fun z => ∃ n', z = Ds.ptr n') rfl ?_ ?_
      · intro L u' wx hS hcl hrd hag
        refine ⟨Ds.ptr wx.heap.size, _, ⟨_, rfl⟩, ?_, hS.free (St.not_yet hcl hrd 40 24 (by kernel_rfl))⟩
        go_simp
        try with_reducible rfl
      rintro _ ⟨nb, rfl⟩
      simp only [Act.put, List.setIfInBounds_toArray, List.set_cons_zero, List.set_cons_succ]
      refine St.mix_skip rfl ?_ ?_
      · intro L u' wx hS hcl hrd hag
        have h23 := St.before_ready hcl hrd 40 23 (by kernel_rfl)
        have hu23 : u' 23 = Ds.ptr nb := hag 40 23 (by kernel_rfl)
        refine ⟨_, ?_, hS.set h23 hu23⟩
        obtain ⟨n', g1, g2, g3, ⟨xo, g4⟩, _⟩ := hS.n h23
        obtain rfl := ptr_inj (hu23.symm.trans g1)
        obtain ⟨_, ⟨d0, d1, d2, d3, d4, d5, d6, d7, d8, d9, d10⟩, hfz⟩ := g4
        rw [← HO.out]
        clear g1
        go_simp
        try with_reducible rfl
      simp only [Act.put]
      refine St.mix_last ?_
      intro L w2 hS hall
      obtain ⟨n', g1, g2, g3, _, g5⟩ := hS.n (hall 23 (by decide))
      obtain rfl := ptr_inj (show Ds.ptr nb = Ds.ptr n' from g1)
      have B2 := g5 (hall 24 (by decide))
      have hb12 := hS.lo
      clear g1 g5 hS hall
      have A2 := B1.keep hb12
      have hb2 : Below w.heap.size w w2 := hb1.trans (hb12.mono hz1)
      clear z0 z1 z2 z3 z4 z5 z6 z7 z8 z9 z10 hb12 tn0a tn0b tn8a tn8b tn10a tn10b
      clear p_0 p_1 p_2 p_3 p_4 p_5 p_6 p_7 p_8 p_9 p_10 p_11 p_12
      obtain ⟨p_0, ⟨p_1, p_2, p_3, p_4, p_5, p_6, p_7, p_8, p_9, p_10, p_11⟩, p_12⟩ := _root_.id A2
      obtain ⟨o_0, ⟨o_1, o_2, o_3, o_4, o_5, o_6, o_7, o_8, o_9, o_10, o_11⟩, o_12⟩ := _root_.id B2
      have hA := A2
      have hB := B2
      have hz2 := hb2.size
      clear A2 B2
      have ck := fun w => ris_any o w hkk hkt hkv
      cases hI : isA o with
      | false =>
        rw [hI] at ck
        have HR := Lib.hid (show q = (Ask.zero, 70) by rw [HP.out]; unfold okA; rw [hI]; exact if_neg (by simp))
        clear hI HP
        go_wp2_with fail
        refine (ck _).mono ?_
        rintro e w3 ⟨rfl, b3⟩
        have A3 := hA.keep b3
        have hb3 := hb2.trans (b3.mono hz2)
        clear p_0 p_1 p_2 p_3 p_4 p_5 p_6 p_7 p_8 p_9 p_10 p_11 p_12
        obtain ⟨p_0, ⟨p_1, p_2, p_3, p_4, p_5, p_6, p_7, p_8, p_9, p_10, p_11⟩, p_12⟩ := _root_.id A3
        clear b3
        go_wp2_with fail
        exact bodyPost_ret (res_BoxA_tmp Tryz.results46 rfl rfl (BoxA.put A3 Ask.zero)) rfl ⟨by rw [HR.out] <;> rfl, (by (repeat' (first | with_reducible assumption | with_reducible exact Below.refl _ _ | with_reducible refine Below.alloc ?_ ?_ _ | with_reducible refine Below.setCell ?_ ?_ _ | with_reducible refine Below.drew ?_ | omega | (simp; done) | (simp; omega))))⟩
      | true =>
        rw [hI] at ck
        have cp := fun w => rput_any o w hfit
        obtain ⟨P, hP⟩ : ∃ P : ByteArray, (⟨(putA o).toArray⟩ : ByteArray) = P := ⟨_, rfl⟩
        have cp2 : ∀ w, Calls Tryz.prog 21 #[av o] w fun e w' => e = .returned (.string P) ∧ Below w.heap.size w w' := fun w => by rw [← hP]; exact cp w
        clear cp
        have hPd : putA o = P.data.toList := by rw [← hP]
        by_cases hs' : P = s
        · subst hs'
          have HR := Lib.hid (show q = (o, 0) by rw [HP.out]; unfold okA; rw [hI]; exact if_pos ⟨rfl, hPd⟩)
          clear hI hP hPd HP
          go_wp2_with fail
          refine (ck _).mono ?_
          rintro e w3 ⟨rfl, b3⟩
          have A3 := hA.keep b3
          have B3 := hB.keep b3
          have hb3 := hb2.trans (b3.mono hz2)
          have hz3 := hb3.size
          clear p_0 p_1 p_2 p_3 p_4 p_5 p_6 p_7 p_8 p_9 p_10 p_11 p_12
          clear o_0 o_1 o_2 o_3 o_4 o_5 o_6 o_7 o_8 o_9 o_10 o_11 o_12
          obtain ⟨p_0, ⟨p_1, p_2, p_3, p_4, p_5, p_6, p_7, p_8, p_9, p_10, p_11⟩, p_12⟩ := _root_.id A3
          obtain ⟨o_0, ⟨o_1, o_2, o_3, o_4, o_5, o_6, o_7, o_8, o_9, o_10, o_11⟩, o_12⟩ := _root_.id B3
          clear b3
          go_wp2_with fail
          refine (cp2 _).mono ?_
          rintro e w4 ⟨rfl, b4⟩
          have A4 := A3.keep b4
          have B4 := B3.keep b4
          have hb4 := hb3.trans (b4.mono hz3)
          have hz4 := hb4.size
          clear p_0 p_1 p_2 p_3 p_4 p_5 p_6 p_7 p_8 p_9 p_10 p_11 p_12
          clear o_0 o_1 o_2 o_3 o_4 o_5 o_6 o_7 o_8 o_9 o_10 o_11 o_12
          obtain ⟨p_0, ⟨p_1, p_2, p_3, p_4, p_5, p_6, p_7, p_8, p_9, p_10, p_11⟩, p_12⟩ := _root_.id A4
          obtain ⟨o_0, ⟨o_1, o_2, o_3, o_4, o_5, o_6, o_7, o_8, o_9, o_10, o_11⟩, o_12⟩ := _root_.id B4
          clear b4
          go_wp2_with fail
          exact bodyPost_ret (res_BoxA_tmp Tryz.results46 rfl rfl (BoxA.put A4 o)) rfl ⟨by rw [HR.out] <;> rfl, (by (repeat' (first | with_reducible assumption | with_reducible exact Below.refl _ _ | with_reducible refine Below.alloc ?_ ?_ _ | with_reducible refine Below.setCell ?_ ?_ _ | with_reducible refine Below.drew ?_ | omega | (simp; done) | (simp; omega))))⟩
        · have HR := Lib.hid (show q = (Ask.zero, 70) by rw [HP.out]; unfold okA; exact if_neg (fun hh => hs' (ba_same (hPd.symm.trans hh.2))))
          have q2 : (P.toList == s.toList) = false := by rw [beq_eq_false_iff_ne]; exact fun h => hs' ((ba_iff P s).1 h)
          have q3 : (P.toList = s.toList) = False := eq_false (fun h => hs' ((ba_iff P s).1 h))
          clear hI hP hPd HP
          go_wp2_with fail
          refine (ck _).mono ?_
          rintro e w3 ⟨rfl, b3⟩
          have A3 := hA.keep b3
          have B3 := hB.keep b3
          have hb3 := hb2.trans (b3.mono hz2)
          have hz3 := hb3.size
          clear p_0 p_1 p_2 p_3 p_4 p_5 p_6 p_7 p_8 p_9 p_10 p_11 p_12
          clear o_0 o_1 o_2 o_3 o_4 o_5 o_6 o_7 o_8 o_9 o_10 o_11 o_12
          obtain ⟨p_0, ⟨p_1, p_2, p_3, p_4, p_5, p_6, p_7, p_8, p_9, p_10, p_11⟩, p_12⟩ := _root_.id A3
          obtain ⟨o_0, ⟨o_1, o_2, o_3, o_4, o_5, o_6, o_7, o_8, o_9, o_10, o_11⟩, o_12⟩ := _root_.id B3
          clear b3
          go_wp2_with fail
          refine (cp2 _).mono ?_
          rintro e w4 ⟨rfl, b4⟩
          have A4 := A3.keep b4
          have hb4 := hb3.trans (b4.mono hz3)
          have hz4 := hb4.size
          clear p_0 p_1 p_2 p_3 p_4 p_5 p_6 p_7 p_8 p_9 p_10 p_11 p_12
          clear o_0 o_1 o_2 o_3 o_4 o_5 o_6 o_7 o_8 o_9 o_10 o_11 o_12
          obtain ⟨p_0, ⟨p_1, p_2, p_3, p_4, p_5, p_6, p_7, p_8, p_9, p_10, p_11⟩, p_12⟩ := _root_.id A4
          clear b4
          go_wp2_with fail
          exact bodyPost_ret (res_BoxA_tmp Tryz.results46 rfl rfl (BoxA.put A4 Ask.zero)) rfl ⟨by rw [HR.out] <;> rfl, (by (repeat' (first | with_reducible assumption | with_reducible exact Below.refl _ _ | with_reducible refine Below.alloc ?_ ?_ _ | with_reducible refine Below.setCell ?_ ?_ _ | with_reducible refine Below.drew ?_ | omega | (simp; done) | (simp; omega))))⟩
end Go.Proofs.YthcmnkmfhgoddaaGreatDoor.Od
