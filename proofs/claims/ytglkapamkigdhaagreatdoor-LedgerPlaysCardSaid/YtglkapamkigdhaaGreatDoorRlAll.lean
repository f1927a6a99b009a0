/-
  What every walk of this seat leans on: the model of a reel, how the program holds it, what a call may touch, and append of a text onto a tape. Condition: lengths at most 2^47 bytes.
  What is done with one tape: write, sync, trim. Condition: the tape and the text together at most 2^47 bytes.
  What a crash leaves of one tape.
  What is done with one tape, told of the reel: write, sync, trim, a crash. Condition: what may be of a reel.
  The reel as plain mathematics: what each call answers, and what is then. No program; no condition.
-/
import Derived.Test.YtglkapamkigdhaaGreatDoorProg
import Derived.Tactics
import Derived.Tactics2
import Derived.WalkKit
import Derived.WalkLawsBesides
import Derived.BigCall
import Derived.Lib.Hide
import Derived.KernelRfl
import Derived.Lib.AppendStr
import Derived.Lib.UnsafeStr
import Derived.Lib.Builder
import Derived.OneCell
import Derived.Laws.OwnMore
import Derived.RegionTactic
import Derived.BigRegion
import Derived.Laws.BitsAllLaws
namespace Go.Proofs.YtglkapamkigdhaaGreatDoor.Rl
open Go.RowKit

theorem ret_bool {a b : Bool} (h : a = b) : Ending.returned (.bool a) = .returned (.bool b) := by rw [h]
theorem ret_int {k : IntKind} {a b : Int} (h : a = b) : Ending.returned (.int k a) = .returned (.int k b) := by rw [h]
theorem bytes_ext {a b : ByteArray} (h : a.toList = b.toList) : a = b := by
  rw [ByteArray.toList_eq, ByteArray.toList_eq] at h
  obtain ⟨⟨x⟩⟩ := a
  obtain ⟨⟨y⟩⟩ := b
  have h : x = y := h
  rw [h]
theorem size_toList (s : ByteArray) : s.toList.length = s.size := by rw [ByteArray.toList_eq]; simp

abbrev Text := List UInt8
/-- What stands on a tape, and how much of it is safe. -/
structure Tape where
  s : Text
  k : Nat
/-- A reel. -/
structure M where
  room : Nat
  a : Tape
  b : Tape
  left : Int
  off : Bool
  ops : Nat

/-- What may be of a reel: all that it has finds room, what is safe stands there, its numbers are numbers. -/
structure M.ok (m : M) : Prop where
  ka : m.a.k ≤ m.a.s.length
  kb : m.b.k ≤ m.b.s.length
  fits : m.a.s.length + m.b.s.length ≤ m.room
  room : m.room ≤ 4194304
  lo : -9223372036854775808 ≤ m.left
  hi : m.left ≤ 9223372036854775807
  ops : m.ops ≤ 4611686018427387904

/-- v is a row of bytes of its own behind block b, and has the text s. -/
def Rw (w : World) (b : Nat) (v : Value) (s : Text) : Prop := w.ownsRow (b + 1) 5 1 v s.length (Lib.byteCells s)
/-- Two rows do not share their block. -/
def Sep (v u : Value) : Prop := ∀ g, v.ownBlock = some g → u.ownBlock ≠ some g
theorem Sep.symm {v u : Value} (h : Sep v u) : Sep u v := fun g hu hv => h g hv hu

def arr (m : M) (v0 v1 : Value) : Array Value := #[.int .i64 m.room, v0, .int .i64 m.a.k, v1, .int .i64 m.b.k, .int .i64 m.left, .bool m.off, .int .i64 m.ops]
/-- Block b of w is the reel m, as the program holds it. -/
def RP (b : Nat) (m : M) (w : World) : Prop :=
  ∃ v0 v1, w.heap[b]? = some (.cells (arr m v0 v1) 68 (0, 0)) ∧ Rw w b v0 m.a.s ∧ Rw w b v1 m.b.s ∧ Sep v0 v1

/-- Block k is of the reel at block b: it, or a row that its tapes lie in. -/
def Mine (w : World) (b k : Nat) : Prop := k = b ∨ ∃ cs T f v, w.heap[b]? = some (.cells cs T f) ∧ (cs[1]? = some v ∨ cs[3]? = some v) ∧ v.ownBlock = some k
theorem Mine.same {w w' : World} {b k : Nat} (h : w'.heap[b]? = w.heap[b]?) (hm : Mine w' b k) : Mine w b k := by
  unfold Mine at *; rw [h] at hm; exact hm

/-- What a call on the reel at block b may touch: the blocks that are of the reel, and new memory. -/
structure Fr (b : Nat) (w w' : World) : Prop where
  below : Below b w w'
  old : ∀ k, k < w.heap.size → ¬ Mine w b k → w'.heap[k]? = w.heap[k]?
  mine : ∀ k, k < w.heap.size → Mine w' b k → Mine w b k
theorem Fr.refl (b : Nat) (w : World) : Fr b w w := ⟨Below.refl _ _, fun _ _ _ => rfl, fun _ _ h => h⟩
theorem Fr.trans {b : Nat} {w1 w2 w3 : World} (h : Fr b w1 w2) (k : Fr b w2 w3) : Fr b w1 w3 :=
  ⟨h.below.trans k.below, fun i hi hn => (k.old i (Nat.lt_of_lt_of_le hi h.below.size) (fun hm => hn (h.mine i hi hm))).trans (h.old i hi hn),
   fun i hi hm => h.mine i hi (k.mine i (Nat.lt_of_lt_of_le hi h.below.size) hm)⟩
theorem Fr.of_below {b : Nat} {w w' : World} (h : Below w.heap.size w w') (hb : b < w.heap.size) : Fr b w w' :=
  ⟨h.mono (Nat.le_of_lt hb), fun k hk _ => h.block k hk, fun _ _ hm => hm.same (h.block b hb)⟩
theorem Fr.alloc (b : Nat) (w : World) (o : Obj) (hb : b < w.heap.size) : Fr b w (w.alloc o) := Fr.of_below ((Below.refl _ w).alloc (Nat.le_refl _) o) hb
theorem Mine.set {b i : Nat} {w : World} {u : Value} {k : Nat} (hm : Mine (w.setCell ⟨b, i, none⟩ u) b k) : Mine w b k ∨ ((i = 1 ∨ i = 3) ∧ u.ownBlock = some k) := by
  rcases hm with e | ⟨cs, T, f, v, hh, hv, hk'⟩
  · exact .inl (.inl e)
  · simp only [World.setCell, Array.getElem?_modify, if_true] at hh
    cases hc : w.heap[b]? with
    | none => rw [hc] at hh; simp at hh
    | some ob =>
      rw [hc] at hh
      cases ob with
      | cells c0 T0 f0 =>
        simp only [Option.map_some, Option.some.injEq, Obj.cells.injEq, Option.isSome_none, Bool.false_eq_true, if_false] at hh
        obtain ⟨rfl, rfl, rfl⟩ := hh
        have side : ∀ j : Nat, (c0.setIfInBounds i u)[j]? = some v → (i = j ∧ u = v) ∨ c0[j]? = some v := by
          intro j hj
          rw [Array.getElem?_setIfInBounds] at hj
          split at hj
          · split at hj
            · exact .inl ⟨by assumption, Option.some.inj hj⟩
            · cases hj
          · exact .inr hj
        rcases hv with hv | hv
        · rcases side 1 hv with ⟨hi, rfl⟩ | hv
          · exact .inr ⟨.inl hi, hk'⟩
          · exact .inl (.inr ⟨c0, _, _, v, hc, .inl hv, hk'⟩)
        · rcases side 3 hv with ⟨hi, rfl⟩ | hv
          · exact .inr ⟨.inr hi, hk'⟩
          · exact .inl (.inr ⟨c0, _, _, v, hc, .inr hv, hk'⟩)
      | _ => simp at hh
theorem Fr.set (b i : Nat) (w : World) (u : Value) (h : ∀ k, (i = 1 ∨ i = 3) → u.ownBlock = some k → k < w.heap.size → Mine w b k := by intro _ hi; exfalso; omega) : Fr b w (w.setCell ⟨b, i, none⟩ u) :=
  ⟨(Below.refl b w).setCell (p := ⟨b, i, none⟩) (Nat.le_refl _) u, fun k _ hn => Below.heap_setCell _ _ _ _ (fun e => hn (.inl e)), fun k hk hm => by
    rcases hm.set with hm | ⟨hi, hu⟩
    · exact hm
    · exact h k hi hu hk⟩
/-- One byte of a row of the reel is written. -/
theorem Fr.turn {b g : Nat} (j : Nat) {w : World} (u : Value) (hm : Mine w b g) (hg : b < g) : Fr b w (w.setCell ⟨g, j, none⟩ u) :=
  ⟨(Below.refl b w).setCell (p := ⟨g, j, none⟩) (Nat.le_of_lt hg) u, fun k _ hn => Below.heap_setCell _ _ _ _ (fun e => hn (by rw [e]; exact hm)),
   fun _ _ h => h.same (Below.heap_setCell _ _ _ _ (by show b ≠ g; omega))⟩
theorem Fr.drew {b : Nat} {w w' : World} (h : Fr b w w') : Fr b w w'.drew := ⟨h.below.drew, h.old, h.mine⟩
theorem Fr.size {b : Nat} {w w' : World} (h : Fr b w w') : w.heap.size ≤ w'.heap.size := h.below.size

/-- Two worlds alike but for what is drawn. -/
def Al (w' w : World) : Prop := w'.heap = w.heap ∧ w'.os = w.os ∧ w'.tape = w.tape ∧ w'.output = w.output
theorem Al.refl (w : World) : Al w w := ⟨rfl, rfl, rfl, rfl⟩
theorem Al.fr {b : Nat} {w w1 w2 : World} (h : Al w2 w1) (k : Fr b w w1) : Fr b w w2 :=
  ⟨⟨h.2.1.trans k.below.os, h.2.2.1.trans k.below.tape, h.2.2.2.trans k.below.output, by rw [h.1]; exact k.below.size, fun i hi => by rw [h.1]; exact k.below.block i hi⟩,
   fun i hi hn => by rw [h.1]; exact k.old i hi hn, fun i hi hm => k.mine i hi (hm.same (by rw [h.1]))⟩
theorem Al.below {N : Nat} {w w1 w2 : World} (h : Al w2 w1) (k : Below N w w1) : Below N w w2 :=
  ⟨h.2.1.trans k.os, h.2.2.1.trans k.tape, h.2.2.2.trans k.output, by rw [h.1]; exact k.size, fun i hi => by rw [h.1]; exact k.block i hi⟩

theorem Rw.keep {w w' : World} {b : Nat} {v : Value} {s : Text} (h : Rw w b v s) (hk : ∀ g, v.ownBlock = some g → w'.heap[g]? = w.heap[g]?) : Rw w' b v s := by
  refine ⟨h.1, ?_⟩
  rcases h.2 with hn | ⟨g, cap, cur, rfl, hb, hg, rest⟩
  · exact .inl hn
  · exact .inr ⟨g, cap, cur, rfl, hb, by rw [hk g rfl]; exact hg, rest⟩
theorem Rw.below {w w' : World} {b : Nat} {v : Value} {s : Text} (h : Rw w b v s) (hk : Below w.heap.size w w') : Rw w' b v s :=
  h.keep fun g hg => hk.block g (h.lt g hg).2
theorem Rw.set {w : World} {b : Nat} {v : Value} {s : Text} (h : Rw w b v s) (i : Nat) (u : Value) : Rw (w.setCell ⟨b, i, none⟩ u) b v s :=
  ownsRow_setCell_below h (a := ⟨b, i, none⟩) (Nat.lt_succ_self b) u
theorem RP.below {b : Nat} {m : M} {w w' : World} (h : RP b m w) (hk : Below w.heap.size w w') : RP b m w' := by
  obtain ⟨v0, v1, hb, h0, h1, hs⟩ := h
  exact ⟨v0, v1, by rw [hk.block b (lt_of_block hb)]; exact hb, h0.below hk, h1.below hk, hs⟩
theorem RP.lt {b : Nat} {m : M} {w : World} (h : RP b m w) : b < w.heap.size := by
  obtain ⟨v0, v1, hb, _⟩ := h
  exact lt_of_block hb
theorem Rw.form {w : World} {b : Nat} {v : Value} {s : Text} (h : Rw w b v s) : ∃ ao cap, v = .slice ao s.length cap ∧ s.length ≤ cap ∧ cap ≤ maxLen := by
  rcases h.2 with ⟨hv, h0⟩ | ⟨g, cap, cur, hv, _, _, h1, h2, _⟩
  · exact ⟨none, 0, by rw [hv, h0], by omega, by unfold maxLen; omega⟩
  · exact ⟨some ⟨g, 0, none⟩, cap, hv, h1, h2⟩

/-! ### a number, a mark of the reel is written -/
theorem RP.left {b : Nat} {m : M} {w : World} (h : RP b m w) (x : Int) : RP b { m with left := x } (w.setCell ⟨b, 5, none⟩ (.int .i64 x)) := by
  obtain ⟨v0, v1, hb, h0, h1, hs⟩ := h
  exact ⟨v0, v1, heap_setCell_same w b 5 _ _ _ hb, h0.set _ _, h1.set _ _, hs⟩
theorem RP.off {b : Nat} {m : M} {w : World} (h : RP b m w) (x : Bool) : RP b { m with off := x } (w.setCell ⟨b, 6, none⟩ (.bool x)) := by
  obtain ⟨v0, v1, hb, h0, h1, hs⟩ := h
  exact ⟨v0, v1, heap_setCell_same w b 6 _ _ _ hb, h0.set _ _, h1.set _ _, hs⟩
theorem RP.ops {b : Nat} {m : M} {w : World} (h : RP b m w) (x : Nat) : RP b { m with ops := x } (w.setCell ⟨b, 7, none⟩ (.int .i64 x)) := by
  obtain ⟨v0, v1, hb, h0, h1, hs⟩ := h
  exact ⟨v0, v1, heap_setCell_same w b 7 _ _ _ hb, h0.set _ _, h1.set _ _, hs⟩

/-! ### append of a text onto a row: where the row lies then -/
theorem strCells_toList (s : ByteArray) : Lib.strCells s = Lib.byteCells s.toList := by rw [Lib.strCells_eq, ByteArray.toList_eq]

theorem run_app {P : Program} (w : World) (base : Nat) (t u ty e : TypeId) (i : TypeInfo) (ht : P.underlying t = some (.slice e)) (hu : P.underlying u = some .string) (hi : P.info? e = some i) (hz : i.zero = some (.int .u8 0))
    (hsize : i.size = 1) (hby : i.bytes = 1) (v : Value) (n : Nat) (xs : List Value) (hown : w.ownsRow base e 1 v n xs) (s : ByteArray)
    (hbytes : n + s.size ≤ 140737488355328) (hbase : base ≤ w.heap.size) :
    ∃ v' w', (Builtin.append_ #[t, u] ty #[v, .string s]).run P w = .ok v' w' ∧ w'.ownsRow base e 1 v' (n + s.size) (xs ++ Lib.strCells s) ∧ w.grownBy w' v.ownBlock ∧
      (v'.ownBlock = v.ownBlock ∨ v'.ownBlock = some w.heap.size) := by
  have hm : n + s.size ≤ maxLen := by unfold maxLen; omega
  obtain ⟨v', w', hr, h2, h3, h4⟩ := Lib.run_append_own_string (P := P) w base t u ty e i ht hu hi hz hsize hby v n xs hown s hm hbytes hbase
  refine ⟨v', w', hr, h2, h3, ?_⟩
  rcases hown.2 with ⟨rfl, rfl⟩ | ⟨g, cap, cur, rfl, hbg, hg, hnc, hcm, hcs, htake⟩
  · by_cases h0 : s.size = 0
    · rw [h4.2 ⟨rfl, h0⟩]; exact .inl rfl
    · have hr' := run_append_nil_string (P := P) w t u ty e i (.int .u8 0) ht hu hi hz s (by omega) (by omega) (by rw [hby]; omega)
      rw [hr] at hr'
      injection hr' with e1 e2
      rw [e1]; exact .inr rfl
  · by_cases hroom : n + s.size ≤ cap
    · have hr' := Lib.run_append_room_string (P := P) w t u ty e i ht hu hi hsize g n cap cur hg s hroom (by omega)
      rw [hr] at hr'
      injection hr' with e1 e2
      rw [e1]; exact .inl rfl
    · have hr' := Lib.run_append_grow_string (P := P) w t u ty e i (.int .u8 0) ht hu hi hz ⟨g, 0, none⟩ n cap xs (by rw [hsize]; simpa using hown.1) (hown.cells (g := g) rfl) s (by omega) (by omega) (by rw [hby]; exact growslice_fits (by omega) (by omega))
      rw [hr] at hr'
      injection hr' with e1 e2
      rw [e1]; exact .inr rfl

theorem wpList_app {P : Program} {w : World} {ops : Array Oper} {rest : List Oper} {o : Oper} {a : Act} {Q : Exit → Act → World → Prop} (hgd : o.guard = none) (sl x : Operand) (t u : TypeId)
    (ho : o.op = .call { callee := .builtin .append, args := #[sl, x], argTypes := #[t, u] })
    (base : Nat) (e : TypeId) (i : TypeInfo) (ht : P.underlying t = some (.slice e)) (hu : P.underlying u = some .string) (hi : P.info? e = some i) (hz : i.zero = some (.int .u8 0))
    (hsize : i.size = 1) (hby : i.bytes = 1)
    (v : Value) (n : Nat) (xs : List Value) (hs : a.eval sl = v) (hown : w.ownsRow base e 1 v n xs) (s : ByteArray) (hx : a.eval x = .string s)
    (hbytes : n + s.size ≤ 140737488355328) (hbase : base ≤ w.heap.size)
    (h : ∀ v' w', w'.ownsRow base e 1 v' (n + s.size) (xs ++ Lib.strCells s) → w.grownBy w' v.ownBlock → (v'.ownBlock = v.ownBlock ∨ v'.ownBlock = some w.heap.size) → wpList P ops Q rest (a.put o.dst v') w') : wpList P ops Q (o :: rest) a w := by
  refine wpList_plain hgd fun K hK => ?_
  obtain ⟨v', w', hr, h2, h3, h4⟩ := run_app (P := P) w base t u o.type e i ht hu hi hz hsize hby v n xs hown s hbytes hbase
  unfold Oper.wp execOp
  simp only [ho, resolve, invoke, builtin, Sem.run_bind, Sem.run_pure, Result.andThen_ok, List.map_toArray, List.map_cons, List.map_nil, hs, hx, hr]
  exact hK _ _ (h v' w' h2 h3 h4)

theorem infoByte : (Tryz.prog.info? 5).map (fun i => (i.zero, i.size, i.bytes)) = some (some (.int .u8 0), 1, 1) := by kernel_rfl

end Go.Proofs.YtglkapamkigdhaaGreatDoor.Rl

namespace Go.Proofs.YtglkapamkigdhaaGreatDoor.Rl
open Go.RowKit

set_option maxHeartbeats 1000000 in
theorem t_write (b o : Nat) (v : Value) (t : Text) (s : ByteArray) (w : World) (h0 : w.cell? ⟨b, o, none⟩ = some v) (hf : w.frozen? ⟨b, o, none⟩ = false) (hb : b < w.heap.size)
    (hv : Rw w b v t) (hne : v.ownBlock ≠ some b) (hlen : t.length + s.size ≤ 140737488355328) :
    Calls Tryz.prog 48 #[.pointer (some ⟨b, o, none⟩), .string s] w fun e w' => e = .returned (.tuple #[]) ∧
      ∃ v' w1, w' = w1.setCell ⟨b, o, none⟩ v' ∧ Rw w1 b v' (t ++ s.toList) ∧ w.grownBy w1 v.ownBlock ∧ (v'.ownBlock = v.ownBlock ∨ v'.ownBlock = some w.heap.size) := by
  obtain ⟨i0, hi, hz0, hz1, hz2⟩ := info_parts infoByte
  go_enter Tryz.func48, Tryz.ntmps48
  go_wp2_with (at_builtin; refine wpList_app rfl _ _ 61 9 rfl (b + 1) 5 i0 Tryz.underlying61 Tryz.underlying9 hi hz0 hz1 hz2 _ _ _ rfl hv s rfl ?c4 ?c5 ?_)
  case c4 => omega
  case c5 => omega
  intro v' w1 hown hgrow hat
  have d0 : w1.cell? ⟨b, o, none⟩ = some v := by
    rw [← h0]; exact World.cell?_of_block (w := w) (hgrow.block b hb (fun e => hne e.symm))
  have f0 : w1.frozen? ⟨b, o, none⟩ = false := by
    rw [← hf]; exact World.frozen?_of_block (w := w) (hgrow.block b hb (fun e => hne e.symm))
  obtain ⟨ao, n', cap, rfl⟩ : ∃ ao n' cap, v' = .slice ao n' cap := by
    rcases hown.2 with ⟨hv, _⟩ | ⟨g, cap, cur, hv, _⟩
    · exact ⟨_, _, _, hv⟩
    · exact ⟨_, _, _, hv⟩
  go_wp2
  go_end0
  refine ⟨rfl, _, w1, rfl, ?_, hgrow, hat⟩
  unfold Rw
  rw [List.length_append, size_toList, Lib.byteCells_append, ← strCells_toList]
  exact hown

theorem t_sync (b o : Nat) (ao : Option Addr) (n cap : Nat) (k : Int) (w : World) (h0 : w.cell? ⟨b, o, none⟩ = some (.slice ao n cap)) (h1 : w.cell? ⟨b, o + 1, none⟩ = some (.int .i64 k)) (hf : w.frozen? ⟨b, o + 1, none⟩ = false) :
    Calls Tryz.prog 56 #[.pointer (some ⟨b, o, none⟩)] w fun e w' => e = .returned (.tuple #[]) ∧ w' = w.setCell ⟨b, o + 1, none⟩ (.int .i64 n) := by
  go_enter Tryz.func56, Tryz.ntmps56
  go_wp2
  go_end0
  exact ⟨rfl, rfl⟩

set_option maxHeartbeats 1000000 in
theorem t_trim (b o : Nat) (ao : Option Addr) (l cap n k : Nat) (w : World) (h0 : w.cell? ⟨b, o, none⟩ = some (.slice ao l cap)) (h1 : w.cell? ⟨b, o + 1, none⟩ = some (.int .i64 k))
    (hf0 : w.frozen? ⟨b, o, none⟩ = false) (hf1 : w.frozen? ⟨b, o + 1, none⟩ = false) (hn : n ≤ l) (hl : l ≤ cap) (hc : cap ≤ 9223372036854775807) (_hk : k ≤ 9223372036854775807) (hao : ao = none → cap = 0) :
    Calls Tryz.prog 66 #[.pointer (some ⟨b, o, none⟩), .int .i64 n] w fun e w' => e = .returned (.tuple #[]) ∧ w' = (w.setCell ⟨b, o, none⟩ (.slice ao n cap)).setCell ⟨b, o + 1, none⟩ (.int .i64 (min k n : Nat)) := by
  have hm : min k n = if n < k then n else k := by split <;> omega
  rw [hm]
  rcases ao with _ | ⟨g, go, gs⟩
  · obtain rfl := hao rfl
    obtain rfl : l = 0 := by omega
    obtain rfl : n = 0 := by omega
    go_enter Tryz.func66, Tryz.ntmps66
    go_wp2
    all_goals go_end0
    all_goals exact ⟨rfl, by first | rfl | (split <;> first | rfl | omega)⟩
  · go_enter Tryz.func66, Tryz.ntmps66
    go_wp2
    all_goals go_end0
    all_goals exact ⟨rfl, by first | rfl | (split <;> first | rfl | omega)⟩

end Go.Proofs.YtglkapamkigdhaaGreatDoor.Rl

namespace Go.Proofs.YtglkapamkigdhaaGreatDoor.Rl
open Go.RowKit

set_option maxHeartbeats 4000000 in
theorem t_crashA (b o : Nat) (ao : Option Addr) (l cap k : Nat) (keep : Int) (turn : Int) (w : World) (h0 : w.cell? ⟨b, o, none⟩ = some (.slice ao l cap)) (h1 : w.cell? ⟨b, o + 1, none⟩ = some (.int .i64 k))
    (hf0 : w.frozen? ⟨b, o, none⟩ = false) (hf1 : w.frozen? ⟨b, o + 1, none⟩ = false) (hn : k ≤ l) (hl : l ≤ cap) (hc : cap ≤ 9223372036854775807) (hao : ao = none → cap = 0)
    (hk : keep < 0) (_hk0 : -9223372036854775808 ≤ keep) :
    Calls Tryz.prog 44 #[.pointer (some ⟨b, o, none⟩), .int .i64 keep, .int .u8 turn] w fun e w' => e = .returned (.tuple #[]) ∧ Al w' ((w.setCell ⟨b, o, none⟩ (.slice ao k cap)).setCell ⟨b, o + 1, none⟩ (.int .i64 k)) := by
  rcases ao with _ | ⟨g, go, gs⟩
  · obtain rfl := hao rfl
    obtain rfl : l = 0 := by omega
    obtain rfl : k = 0 := by omega
    go_enter Tryz.func44, Tryz.ntmps44
    go_wp2
    go_region
    all_goals go_wp2
    all_goals go_region
    all_goals go_wp2_with fail
    all_goals
      refine (t_sync b o (none) 0 0 0 _ (by simp [go_sem, h0]) (by simp [go_sem, h1]) (by simp [go_sem, hf1])).mono ?_
      rintro e w1 ⟨rfl, rfl⟩
      go_wp2
      go_end0
      exact ⟨rfl, rfl, rfl, rfl, rfl⟩
  · go_enter Tryz.func44, Tryz.ntmps44
    go_wp2
    go_region
    all_goals go_wp2
    all_goals go_region
    all_goals go_wp2_with fail
    all_goals
      refine (t_sync b o (some ⟨g, go, gs⟩) k cap k _ (by simp [go_sem, h0]) (by simp [go_sem, h1]) (by simp [go_sem, hf1])).mono ?_
      rintro e w1 ⟨rfl, rfl⟩
      go_wp2
      go_end0
      exact ⟨rfl, rfl, rfl, rfl, rfl⟩

set_option maxHeartbeats 4000000 in
theorem t_crashZ (b o : Nat) (ao : Option Addr) (l cap k : Nat) (keep : Int) (turn : Int) (w : World) (h0 : w.cell? ⟨b, o, none⟩ = some (.slice ao l cap)) (h1 : w.cell? ⟨b, o + 1, none⟩ = some (.int .i64 k))
    (hf0 : w.frozen? ⟨b, o, none⟩ = false) (hf1 : w.frozen? ⟨b, o + 1, none⟩ = false) (hn : k ≤ l) (hl : l ≤ cap) (hc : cap ≤ 9223372036854775807) (hao : ao = none → cap = 0)
    (hk : keep = 0) :
    Calls Tryz.prog 44 #[.pointer (some ⟨b, o, none⟩), .int .i64 keep, .int .u8 turn] w fun e w' => e = .returned (.tuple #[]) ∧ Al w' ((w.setCell ⟨b, o, none⟩ (.slice ao k cap)).setCell ⟨b, o + 1, none⟩ (.int .i64 k)) := by
  subst hk
  rcases ao with _ | ⟨g, go, gs⟩
  · obtain rfl := hao rfl
    obtain rfl : l = 0 := by omega
    obtain rfl : k = 0 := by omega
    go_enter Tryz.func44, Tryz.ntmps44
    go_wp2
    go_region
    all_goals go_wp2
    all_goals go_region
    all_goals go_wp2_with fail
    all_goals
      refine (t_sync b o (none) 0 0 0 _ (by simp [go_sem, h0]) (by simp [go_sem, h1]) (by simp [go_sem, hf1])).mono ?_
      rintro e w1 ⟨rfl, rfl⟩
      go_wp2
      go_end0
      exact ⟨rfl, rfl, rfl, rfl, rfl⟩
  · go_enter Tryz.func44, Tryz.ntmps44
    go_wp2
    go_region
    all_goals go_wp2
    all_goals go_region
    all_goals go_wp2_with fail
    all_goals
      refine (t_sync b o (some ⟨g, go, gs⟩) k cap k _ (by simp [go_sem, h0]) (by simp [go_sem, h1]) (by simp [go_sem, hf1])).mono ?_
      rintro e w1 ⟨rfl, rfl⟩
      go_wp2
      go_end0
      exact ⟨rfl, rfl, rfl, rfl, rfl⟩

set_option maxHeartbeats 4000000 in
theorem t_crashE (b o : Nat) (ao : Option Addr) (l cap k : Nat) (keep : Int) (turn : Int) (w : World) (h0 : w.cell? ⟨b, o, none⟩ = some (.slice ao l cap)) (h1 : w.cell? ⟨b, o + 1, none⟩ = some (.int .i64 k))
    (hf0 : w.frozen? ⟨b, o, none⟩ = false) (hf1 : w.frozen? ⟨b, o + 1, none⟩ = false) (hn : k ≤ l) (hl : l ≤ cap) (hc : cap ≤ 9223372036854775807) (hao : ao = none → cap = 0)
    (hk : 0 < keep) (hkl : k = l) :
    Calls Tryz.prog 44 #[.pointer (some ⟨b, o, none⟩), .int .i64 keep, .int .u8 turn] w fun e w' => e = .returned (.tuple #[]) ∧ Al w' ((w.setCell ⟨b, o, none⟩ (.slice ao k cap)).setCell ⟨b, o + 1, none⟩ (.int .i64 k)) := by
  subst hkl
  rcases ao with _ | ⟨g, go, gs⟩
  · obtain rfl := hao rfl
    obtain rfl : k = 0 := by omega
    go_enter Tryz.func44, Tryz.ntmps44
    go_wp2
    go_region
    all_goals go_wp2
    all_goals go_region
    all_goals go_wp2_with fail
    all_goals
      refine (t_sync b o (none) 0 0 0 _ (by simp [go_sem, h0]) (by simp [go_sem, h1]) (by simp [go_sem, hf1])).mono ?_
      rintro e w1 ⟨rfl, rfl⟩
      go_wp2
      go_end0
      exact ⟨rfl, rfl, rfl, rfl, rfl⟩
  · go_enter Tryz.func44, Tryz.ntmps44
    go_wp2
    go_region
    all_goals go_wp2
    all_goals go_region
    all_goals go_wp2_with fail
    all_goals
      refine (t_sync b o (some ⟨g, go, gs⟩) k cap k _ (by simp [go_sem, h0]) (by simp [go_sem, h1]) (by simp [go_sem, hf1])).mono ?_
      rintro e w1 ⟨rfl, rfl⟩
      go_wp2
      go_end0
      exact ⟨rfl, rfl, rfl, rfl, rfl⟩

set_option maxHeartbeats 4000000 in
theorem t_crashB (b o g : Nat) (l cap k : Nat) (p : Nat) (turn : Int) (w : World) (h0 : w.cell? ⟨b, o, none⟩ = some (.slice (some ⟨g, 0, none⟩) l cap)) (h1 : w.cell? ⟨b, o + 1, none⟩ = some (.int .i64 k))
    (hf0 : w.frozen? ⟨b, o, none⟩ = false) (hf1 : w.frozen? ⟨b, o + 1, none⟩ = false) (hl : l ≤ cap) (hc : cap ≤ 9223372036854775807)
    (hp : k + p + 1 ≤ l) (hg : g ≠ b) (x : Int) (hx : w.cell? ⟨g, k + p, none⟩ = some (.int .u8 x)) (hfx : w.frozen? ⟨g, k + p, none⟩ = false) :
    Calls Tryz.prog 44 #[.pointer (some ⟨b, o, none⟩), .int .i64 (p + 1 : Nat), .int .u8 turn] w fun e w' => e = .returned (.tuple #[]) ∧ Al w' (((w.setCell ⟨b, o, none⟩ (.slice (some ⟨g, 0, none⟩) (k + (p + 1)) cap)).setCell ⟨g, (k + p), none⟩ (.int .u8 (bits .xor .u8 x turn))).setCell ⟨b, o + 1, none⟩ (.int .i64 ((k + (p + 1)) : Nat))) := by
    go_enter Tryz.func44, Tryz.ntmps44
    go_wp2
    go_region
    all_goals go_wp2
    all_goals go_region
    all_goals go_wp2
    all_goals go_region
    all_goals go_wp2_with fail
    all_goals
      refine (t_sync b o (some ⟨g, 0, none⟩) (k + (p + 1)) cap k _ (by simp [go_sem, h0]) (by simp [go_sem, h1]) (by simp [go_sem, hf1])).mono ?_
      rintro e w1 ⟨rfl, rfl⟩
      go_wp2
      go_end0
      exact ⟨rfl, rfl, rfl, rfl, rfl⟩

set_option maxHeartbeats 4000000 in
theorem t_crashC (b o g : Nat) (l cap k q : Nat) (keep : Int) (turn : Int) (w : World) (h0 : w.cell? ⟨b, o, none⟩ = some (.slice (some ⟨g, 0, none⟩) l cap)) (h1 : w.cell? ⟨b, o + 1, none⟩ = some (.int .i64 k))
    (hf0 : w.frozen? ⟨b, o, none⟩ = false) (hf1 : w.frozen? ⟨b, o + 1, none⟩ = false) (hl : l ≤ cap) (hc : cap ≤ 9223372036854775807)
    (hp : l = q + 1) (hk : k ≤ q) (hkeep : (l : Int) - k < keep) (hkh : keep ≤ 9223372036854775807) (hg : g ≠ b) (x : Int) (hx : w.cell? ⟨g, k + (q + 1 - k) - 1, none⟩ = some (.int .u8 x)) (hfx : w.frozen? ⟨g, k + (q + 1 - k) - 1, none⟩ = false) :
    Calls Tryz.prog 44 #[.pointer (some ⟨b, o, none⟩), .int .i64 keep, .int .u8 turn] w fun e w' => e = .returned (.tuple #[]) ∧ Al w' (((w.setCell ⟨b, o, none⟩ (.slice (some ⟨g, 0, none⟩) (k + (q + 1 - k)) cap)).setCell ⟨g, (k + (q + 1 - k) - 1), none⟩ (.int .u8 (bits .xor .u8 x turn))).setCell ⟨b, o + 1, none⟩ (.int .i64 ((k + (q + 1 - k)) : Nat))) := by
    subst hp
    go_enter Tryz.func44, Tryz.ntmps44
    go_wp2
    go_region
    all_goals go_wp2
    all_goals go_region
    all_goals go_wp2
    all_goals go_region
    all_goals go_wp2_with fail
    all_goals
      refine (t_sync b o (some ⟨g, 0, none⟩) (k + (q + 1 - k)) cap k _ (by simp [go_sem, h0]) (by simp [go_sem, h1]) (by simp [go_sem, hf1])).mono ?_
      rintro e w1 ⟨rfl, rfl⟩
      go_wp2
      go_end0
      exact ⟨rfl, rfl, rfl, rfl, rfl⟩

end Go.Proofs.YtglkapamkigdhaaGreatDoor.Rl

namespace Go.Proofs.YtglkapamkigdhaaGreatDoor.Rl
open Go.RowKit

theorem Rw.ne {w : World} {b : Nat} {v : Value} {s : Text} (h : Rw w b v s) : v.ownBlock ≠ some b := fun e => by have := (h.lt b e).1; omega
theorem Rw.typed {w : World} {b : Nat} {v : Value} {s : Text} (h : Rw w b v s) {k : Nat} {o : Array Value} {e : TypeId} {f : Nat × Nat} (hk : w.heap[k]? = some (.cells o e f)) (he : e ≠ 5) : v.ownBlock ≠ some k := fun hv => by
  rcases h.2 with ⟨rfl, _⟩ | ⟨g, cap, cur, rfl, _, hg, _⟩
  · simp [Value.ownBlock] at hv
  · simp [Value.ownBlock] at hv
    subst hv
    rw [hg] at hk
    injection hk with hk
    injection hk with _ h5 _
    exact he h5.symm
theorem mine0 {w : World} {b : Nat} {m : M} {v0 v1 : Value} (hb : w.heap[b]? = some (.cells (arr m v0 v1) 68 (0, 0))) {k : Nat} (h : v0.ownBlock = some k) : Mine w b k := .inr ⟨_, _, _, v0, hb, .inl rfl, h⟩
theorem mine1 {w : World} {b : Nat} {m : M} {v0 v1 : Value} (hb : w.heap[b]? = some (.cells (arr m v0 v1) 68 (0, 0))) {k : Nat} (h : v1.ownBlock = some k) : Mine w b k := .inr ⟨_, _, _, v1, hb, .inr rfl, h⟩
/-- What is of a reel is there; and it is the reel's block, or a row of bytes. -/
theorem RP.mine {b : Nat} {m : M} {w : World} (h : RP b m w) {k : Nat} (hm : Mine w b k) : k < w.heap.size ∧ (k = b ∨ ∃ o f, w.heap[k]? = some (.cells o 5 f)) := by
  obtain ⟨v0, v1, hb, h0, h1, hs⟩ := h
  have row : ∀ v s, Rw w b v s → v.ownBlock = some k → k < w.heap.size ∧ (k = b ∨ ∃ o f, w.heap[k]? = some (.cells o 5 f)) := by
    intro v s hv hk
    refine ⟨(hv.lt k hk).2, .inr ?_⟩
    rcases hv.2 with ⟨rfl, _⟩ | ⟨g, cap, cur, rfl, _, hg, _⟩
    · simp [Value.ownBlock] at hk
    · simp [Value.ownBlock] at hk
      subst hk
      exact ⟨_, _, hg⟩
  rcases hm with rfl | ⟨cs, T, f, v, hh, hv, hk⟩
  · exact ⟨lt_of_block hb, .inl rfl⟩
  · rw [hb] at hh
    injection hh with hh
    injection hh with e1 _ _
    subst e1
    rcases hv with hv | hv
    · simp [arr] at hv; subst hv; exact row _ _ h0 hk
    · simp [arr] at hv; subst hv; exact row _ _ h1 hk
/-- What is no row of bytes, and not the reel, stays. -/
theorem Fr.other {b : Nat} {m : M} {w w' : World} (f : Fr b w w') (h : RP b m w) (k : Nat) (o : Array Value) (e : TypeId) (fz : Nat × Nat) (hk : w.heap[k]? = some (.cells o e fz)) (hb : k ≠ b) (he : e ≠ 5) : w'.heap[k]? = some (.cells o e fz) := by
  rw [f.old k (lt_of_block hk) ?_]
  · exact hk
  · intro hm
    rcases (h.mine hm).2 with e1 | ⟨o', f', h'⟩
    · exact hb e1
    · rw [hk] at h'; injection h' with h'; injection h' with _ h5 _; exact he h5
/-- A row that was written, and laid into the reel. -/
theorem Fr.wrote {w w1 : World} {b o : Nat} {v v' : Value} {s : Text} (h : Rw w b v s) (hb : b < w.heap.size) (hm : ∀ k, v.ownBlock = some k → Mine w b k) (hg : w.grownBy w1 v.ownBlock) (hat : v'.ownBlock = v.ownBlock ∨ v'.ownBlock = some w.heap.size) : Fr b w (w1.setCell ⟨b, o, none⟩ v') := by
  have hbb : w1.heap[b]? = w.heap[b]? := hg.block b hb (fun x => h.ne x.symm)
  refine ⟨((Below.refl b w).grown hg (Nat.le_of_lt hb) (fun k hk => by have := (h.lt k hk).1; omega)).setCell (p := ⟨b, o, none⟩) (Nat.le_refl _) _, fun k hk hn => ?_, fun k hk hmm => ?_⟩
  · rw [Below.heap_setCell _ _ _ _ (fun e => hn (.inl e))]
    exact hg.block k hk (fun x => hn (hm k x.symm))
  · rcases hmm.set with hm1 | ⟨_, hu⟩
    · exact hm1.same hbb
    · rcases hat with e | e
      · exact hm k (by rw [← e]; exact hu)
      · rw [e] at hu; injection hu with hu; omega
theorem Rw.grown {w w1 : World} {b : Nat} {v u : Value} {t : Text} (h : Rw w b u t) (hg : w.grownBy w1 v.ownBlock) (hs : Sep u v) : Rw w1 b u t :=
  h.keep fun g hu => hg.block g (h.lt g hu).2 (fun x => hs g hu x.symm)

/-- Of a row its front. -/
theorem Rw.front {w : World} {b : Nat} {ao : Option Addr} {l cap n : Nat} {s : Text} (h : Rw w b (.slice ao l cap) s) (hn : n ≤ s.length) : Rw w b (.slice ao n cap) (s.take n) := by
  have hx : (s.take n).length = n := by rw [List.length_take]; omega
  refine ⟨by simp [Lib.byteCells_length, hx], ?_⟩
  rw [hx]
  rcases h.2 with ⟨hv, h0⟩ | ⟨g, c, cur, hv, hb, hg, h1, h2, h3, h4⟩
  · injection hv with e1 e2 e3
    subst e1; subst e3
    exact .inl ⟨by rw [show n = 0 by omega], by omega⟩
  · injection hv with e1 e2 e3
    subst e1; subst e3
    refine .inr ⟨g, cap, cur, rfl, hb, hg, by omega, h2, h3, ?_⟩
    have h4 : cur.toList.take s.length = Lib.byteCells s := by simpa using h4
    have := congrArg (List.take n) h4
    rw [List.take_take, Nat.min_eq_left hn] at this
    rw [Nat.mul_one, this, Lib.byteCells, Lib.byteCells, List.map_take]
/-- Of a row one byte is another one. -/
theorem Rw.turn {w : World} {b g cap : Nat} {s : Text} (h : Rw w b (.slice (some ⟨g, 0, none⟩) s.length cap) s) (j : Nat) (c : UInt8) : Rw (w.setCell ⟨g, j, none⟩ (.int .u8 c.toNat)) b (.slice (some ⟨g, 0, none⟩) (s.set j c).length cap) (s.set j c) := by
  unfold Rw at *
  rw [List.length_set]
  have := h.stored j (.int .u8 (c.toNat : Int))
  have e : Lib.byteCells (s.set j c) = (Lib.byteCells s).set j (.int .u8 (c.toNat : Int)) := by
    rw [Lib.byteCells, Lib.byteCells, List.map_set]
  rw [e]
  exact this.1
theorem Rw.nil_cap {w : World} {b : Nat} {ao : Option Addr} {l cap : Nat} {s : Text} (h : Rw w b (.slice ao l cap) s) : ao = none → cap = 0 := by
  intro e
  rcases h.2 with ⟨hv, h0⟩ | ⟨g, c, cur, hv, _⟩
  · injection hv with e1 e2 e3
  · injection hv with e1 e2 e3
    rw [e] at e1; cases e1
theorem Sep.of_own {v v' u : Value} (h : Sep v u) (e : v'.ownBlock = v.ownBlock) : Sep v' u := fun g hg => h g (by rw [← e]; exact hg)

/-- What a crash leaves of a tape: what is safe, of the rest so much as is kept; the last byte that is kept is turned. -/
def Tape.kept (T : Tape) (keep : Int) : Nat := (min (max keep 0) ((T.s.length : Int) - T.k)).toNat
def Tape.crash (T : Tape) (keep : Int) (turn : UInt8) : Tape :=
  ⟨if T.kept keep = 0 then T.s.take T.k else (T.s.take (T.k + T.kept keep)).modify (T.k + T.kept keep - 1) (· ^^^ turn), T.k + T.kept keep⟩
theorem modify_set (f : UInt8 → UInt8) : ∀ (l : Text) (i : Nat) (h : i < l.length), l.modify i f = l.set i (f l[i])
  | [], i, h => by simp at h
  | c :: l, 0, _ => rfl
  | c :: l, i + 1, h => by
    have := modify_set f l i (by simpa using h)
    simp [List.modify_succ_cons, this]
theorem xor_byte (c d : UInt8) : bits .xor .u8 (c.toNat : Int) (d.toNat : Int) = ((c ^^^ d).toNat : Int) := by
  rw [u8_xor_nat _ _ c.toNat_lt d.toNat_lt, UInt8.toNat_xor]

theorem c_writeA (b : Nat) (m : M) (s : ByteArray) (w : World) (h : RP b m w) (hlen : m.a.s.length + s.size ≤ 140737488355328) :
    Calls Tryz.prog 48 #[.pointer (some ⟨b, 1, none⟩), .string s] w fun e w' => e = .returned (.tuple #[]) ∧ RP b { m with a := ⟨m.a.s ++ s.toList, m.a.k⟩ } w' ∧ Fr b w w' := by
  obtain ⟨v0, v1, hb, h0, h1, hs⟩ := h
  refine (t_write b 1 v0 m.a.s s w (by rw [Lib.cell_of_heap hb]; rfl) (Lib.frozen_of_heap hb 1) (lt_of_block hb) h0 h0.ne hlen).mono ?_
  rintro e w' ⟨rfl, v', w1, rfl, hv', hg, hat⟩
  have hb1 : w1.heap[b]? = some (.cells (arr m v0 v1) 68 (0, 0)) := by rw [hg.block b (lt_of_block hb) (fun x => h0.ne x.symm)]; exact hb
  have hs' : Sep v' v1 := by
    rcases hat with e | e
    · exact Sep.of_own hs e
    · intro g hg1 hg2
      rw [e] at hg1; injection hg1 with hg1
      have := (h1.lt g hg2).2
      omega
  refine ⟨rfl, ⟨v', v1, heap_setCell_same w1 b 1 _ _ _ hb1, hv'.set _ _, (h1.grown hg hs.symm).set _ _, hs'⟩, Fr.wrote h0 (lt_of_block hb) (fun _ h => mine0 hb h) hg hat⟩

theorem c_syncA (b : Nat) (m : M) (w : World) (h : RP b m w) :
    Calls Tryz.prog 56 #[.pointer (some ⟨b, 1, none⟩)] w fun e w' => e = .returned (.tuple #[]) ∧ RP b { m with a := ⟨m.a.s, m.a.s.length⟩ } w' ∧ Fr b w w' := by
  obtain ⟨v0, v1, hb, h0, h1, hs⟩ := h
  obtain ⟨ao, cap, rfl, hl, hc⟩ := h0.form
  refine (t_sync b 1 ao m.a.s.length cap m.a.k w (by rw [Lib.cell_of_heap hb]; rfl) (by rw [Lib.cell_of_heap hb]; rfl) (Lib.frozen_of_heap hb 2)).mono ?_
  rintro e w' ⟨rfl, rfl⟩
  exact ⟨rfl, ⟨_, _, heap_setCell_same w b 2 _ _ _ hb, h0.set _ _, h1.set _ _, hs⟩, Fr.set b 2 w _⟩

theorem c_trimA (b : Nat) (m : M) (n : Nat) (w : World) (h : RP b m w) (hm : m.ok) (hn : n ≤ m.a.s.length) :
    Calls Tryz.prog 66 #[.pointer (some ⟨b, 1, none⟩), .int .i64 n] w fun e w' => e = .returned (.tuple #[]) ∧ RP b { m with a := ⟨m.a.s.take n, min m.a.k n⟩ } w' ∧ Fr b w w' := by
  obtain ⟨v0, v1, hb, h0, h1, hs⟩ := h
  obtain ⟨ao, cap, rfl, hl, hc⟩ := h0.form
  have hcap : cap ≤ 9223372036854775807 := hc
  have hk : m.a.k ≤ 9223372036854775807 := by have := hm.ka; omega
  refine (t_trim b 1 ao m.a.s.length cap n m.a.k w (by rw [Lib.cell_of_heap hb]; rfl) (by rw [Lib.cell_of_heap hb]; rfl) (Lib.frozen_of_heap hb 1) (Lib.frozen_of_heap hb 2) hn hl hcap hk h0.nil_cap).mono ?_
  rintro e w' ⟨rfl, rfl⟩
  exact ⟨rfl, ⟨_, _, heap_setCell_same _ b 2 _ _ _ (heap_setCell_same w b 1 _ _ _ hb), ((h0.front hn).set _ _).set _ _, (h1.set _ _).set _ _, hs.of_own (v := .slice ao m.a.s.length cap) (by cases ao <;> rfl)⟩, (Fr.set b 1 w _ (fun k _ h _ => mine0 hb (by cases ao <;> exact h))).trans (Fr.set b 2 _ _)⟩

set_option maxHeartbeats 1000000 in
theorem c_crashA (b : Nat) (m : M) (keep : Int) (turn : UInt8) (w : World) (h : RP b m w) (hm : m.ok) (hlo : -9223372036854775808 ≤ keep) (hhi : keep ≤ 9223372036854775807) :
    Calls Tryz.prog 44 #[.pointer (some ⟨b, 1, none⟩), .int .i64 keep, .int .u8 turn.toNat] w fun e w' => e = .returned (.tuple #[]) ∧ RP b { m with a := m.a.crash keep turn } w' ∧ Fr b w w' := by
  obtain ⟨v0, v1, hb, h0, h1, hs⟩ := h
  obtain ⟨ao, cap, rfl, hl, hc⟩ := h0.form
  have hcap : cap ≤ 9223372036854775807 := hc
  have hk := hm.ka
  have c0 : w.cell? ⟨b, 1, none⟩ = some (.slice ao m.a.s.length cap) := by rw [Lib.cell_of_heap hb]; rfl
  have c1 : w.cell? ⟨b, 1 + 1, none⟩ = some (.int .i64 m.a.k) := by rw [Lib.cell_of_heap hb]; rfl
  -- nothing is kept
  have none_kept : m.a.kept keep = 0 → ∀ (e : Ending) (w' : World), e = .returned (.tuple #[]) ∧ Al w' ((w.setCell ⟨b, 1, none⟩ (.slice ao m.a.k cap)).setCell ⟨b, 1 + 1, none⟩ (.int .i64 m.a.k)) →
      e = .returned (.tuple #[]) ∧ RP b { m with a := m.a.crash keep turn } w' ∧ Fr b w w' := by
    rintro hz e w' ⟨rfl, hal⟩
    have hx : m.a.crash keep turn = ⟨m.a.s.take m.a.k, m.a.k⟩ := by unfold Tape.crash; rw [if_pos hz, hz]; rfl
    rw [hx]
    have hf := h0.front (n := m.a.k) hk
    refine ⟨rfl, ⟨_, _, by rw [hal.1]; exact heap_setCell_same _ b 2 _ _ _ (heap_setCell_same w b 1 _ _ _ hb), ?_, ?_, hs.of_own (v := .slice _ m.a.s.length cap) (by first | rfl | (cases ao <;> rfl))⟩, hal.fr ((Fr.set b 1 w _ (fun k _ h _ => mine0 hb (by cases ao <;> exact h))).trans (Fr.set b 2 _ _))⟩
    all_goals exact Rw.keep (w := (w.setCell ⟨b, 1, none⟩ (.slice ao m.a.k cap)).setCell ⟨b, 1 + 1, none⟩ (.int .i64 m.a.k)) (by first | exact (hf.set _ _).set _ _ | exact (h1.set _ _).set _ _) (fun _ _ => by rw [hal.1])
  by_cases k1 : keep < 0
  · exact (t_crashA b 1 ao _ cap _ keep turn.toNat w c0 c1 (Lib.frozen_of_heap hb 1) (Lib.frozen_of_heap hb 2) hk hl hcap h0.nil_cap k1 hlo).mono (none_kept (by unfold Tape.kept; omega))
  by_cases k2 : keep = 0
  · exact (t_crashZ b 1 ao _ cap _ keep turn.toNat w c0 c1 (Lib.frozen_of_heap hb 1) (Lib.frozen_of_heap hb 2) hk hl hcap h0.nil_cap k2).mono (none_kept (by unfold Tape.kept; omega))
  by_cases k3 : m.a.k = m.a.s.length
  · exact (t_crashE b 1 ao _ cap _ keep turn.toNat w c0 c1 (Lib.frozen_of_heap hb 1) (Lib.frozen_of_heap hb 2) hk hl hcap h0.nil_cap (by omega) k3).mono (none_kept (by unfold Tape.kept; omega))
  -- something is kept: n bytes stand there then
  obtain ⟨g, rfl⟩ : ∃ g, ao = some ⟨g, 0, none⟩ := by
    rcases h0.2 with ⟨hv, h0⟩ | ⟨g, c, cur, hv, _⟩
    · omega
    · injection hv with e1 e2 e3
      exact ⟨g, e1⟩
  have hgb : g ≠ b := fun e => h0.ne (by rw [← e]; rfl)
  have hgm : ∀ n, Mine (w.setCell ⟨b, 1, none⟩ (.slice (some ⟨g, 0, none⟩) n cap)) b g := fun n => .inr ⟨_, _, _, .slice (some ⟨g, 0, none⟩) n cap, heap_setCell_same w b 1 _ _ _ hb, .inl rfl, rfl⟩
  have hgt : b < g := (h0.lt g rfl).1
  have some_kept : ∀ n, n = m.a.k + m.a.kept keep → m.a.k < n → n ≤ m.a.s.length → ∀ hj : n - 1 < m.a.s.length,
      (w.cell? ⟨g, n - 1, none⟩ = some (.int .u8 ((m.a.s[n - 1]).toNat : Int)) ∧ w.frozen? ⟨g, n - 1, none⟩ = false) ∧
      ∀ (e : Ending) (w' : World), e = .returned (.tuple #[]) ∧ Al w' (((w.setCell ⟨b, 1, none⟩ (.slice (some ⟨g, 0, none⟩) n cap)).setCell ⟨g, n - 1, none⟩ (.int .u8 (bits .xor .u8 ((m.a.s[n - 1]).toNat : Int) (turn.toNat : Int)))).setCell ⟨b, 1 + 1, none⟩ (.int .i64 n)) →
      e = .returned (.tuple #[]) ∧ RP b { m with a := m.a.crash keep turn } w' ∧ Fr b w w' := by
    intro n hn hkn hnl hj
    refine ⟨⟨?_, h0.frozenAt _⟩, ?_⟩
    · rw [h0.cellAt (n - 1) (by omega)]
      simp [Lib.byteCells, hj]
    rintro e w' ⟨rfl, hal⟩
    have hlen : (m.a.s.take n).length = n := by rw [List.length_take]; omega
    have hx : m.a.crash keep turn = ⟨(m.a.s.take n).set (n - 1) (m.a.s[n - 1] ^^^ turn), n⟩ := by
      unfold Tape.crash
      rw [if_neg (by omega), ← hn, modify_set _ _ _ (by rw [hlen]; omega)]
      simp
    rw [hx]
    rw [xor_byte] at hal
    have hf := h0.front (n := n) hnl
    have hf1 : Rw (w.setCell ⟨b, 1, none⟩ (.slice (some ⟨g, 0, none⟩) n cap)) b (.slice (some ⟨g, 0, none⟩) (m.a.s.take n).length cap) (m.a.s.take n) := by rw [hlen]; exact hf.set _ _
    have hf2 := hf1.turn (n - 1) (m.a.s[n - 1] ^^^ turn)
    rw [List.length_set, hlen] at hf2
    have hu : Rw ((w.setCell ⟨b, 1, none⟩ (.slice (some ⟨g, 0, none⟩) n cap)).setCell ⟨g, n - 1, none⟩ (.int .u8 ((m.a.s[n - 1] ^^^ turn).toNat : Int))) b v1 m.b.s :=
      (h1.set 1 _).keep fun g' hg' => by rw [Below.heap_setCell _ _ _ _ (fun e => hs g rfl (by rw [hg', e]))]
    have hbk := heap_setCell_same _ b 2 _ _ (.int .i64 n) ((Below.heap_setCell _ ⟨g, n - 1, none⟩ (.int .u8 ((m.a.s[n - 1] ^^^ turn).toNat : Int)) b (fun e => hgb e.symm)).trans (heap_setCell_same w b 1 _ _ (.slice (some ⟨g, 0, none⟩) n cap) hb))
    refine ⟨rfl, ⟨_, _, by rw [hal.1]; exact hbk, ?_, ?_, hs.of_own (v := .slice _ m.a.s.length cap) (by first | rfl | (cases ao <;> rfl))⟩, hal.fr (((Fr.set b 1 w (.slice (some ⟨g, 0, none⟩) n cap) (fun k _ h _ => mine0 hb h)).trans (Fr.turn (n - 1) _ (hgm n) hgt)).trans (Fr.set b 2 _ _))⟩
    · exact Rw.keep (w := ((w.setCell ⟨b, 1, none⟩ (.slice (some ⟨g, 0, none⟩) n cap)).setCell ⟨g, n - 1, none⟩ (.int .u8 ((m.a.s[n - 1] ^^^ turn).toNat : Int))).setCell ⟨b, 1 + 1, none⟩ (.int .i64 n)) (by first | exact hf2.set _ _ | exact hu.set _ _) (fun _ _ => by rw [hal.1])
    · exact Rw.keep (w := ((w.setCell ⟨b, 1, none⟩ (.slice (some ⟨g, 0, none⟩) n cap)).setCell ⟨g, n - 1, none⟩ (.int .u8 ((m.a.s[n - 1] ^^^ turn).toNat : Int))).setCell ⟨b, 1 + 1, none⟩ (.int .i64 n)) (by first | exact hf2.set _ _ | exact hu.set _ _) (fun _ _ => by rw [hal.1])
  by_cases k4 : keep ≤ (m.a.s.length : Int) - m.a.k
  · obtain ⟨p, hp⟩ : ∃ p : Nat, keep = (p + 1 : Nat) := ⟨(keep - 1).toNat, by omega⟩
    obtain ⟨⟨q1, q2⟩, q3⟩ := some_kept (m.a.k + (p + 1)) (by unfold Tape.kept; omega) (by omega) (by omega) (by omega)
    subst hp
    exact (t_crashB b 1 g _ cap _ p turn.toNat w c0 c1 (Lib.frozen_of_heap hb 1) (Lib.frozen_of_heap hb 2) hl hcap (by omega) hgb _ q1 q2).mono q3
  · obtain ⟨q, hq⟩ : ∃ q, m.a.s.length = q + 1 := ⟨m.a.s.length - 1, by omega⟩
    obtain ⟨⟨q1, q2⟩, q3⟩ := some_kept (m.a.k + (q + 1 - m.a.k)) (by unfold Tape.kept; omega) (by omega) (by omega) (by omega)
    exact (t_crashC b 1 g _ cap _ q keep turn.toNat w c0 c1 (Lib.frozen_of_heap hb 1) (Lib.frozen_of_heap hb 2) hl hcap hq (by omega) (by omega) hhi hgb _ q1 q2).mono q3

theorem c_writeB (b : Nat) (m : M) (s : ByteArray) (w : World) (h : RP b m w) (hlen : m.b.s.length + s.size ≤ 140737488355328) :
    Calls Tryz.prog 48 #[.pointer (some ⟨b, 3, none⟩), .string s] w fun e w' => e = .returned (.tuple #[]) ∧ RP b { m with b := ⟨m.b.s ++ s.toList, m.b.k⟩ } w' ∧ Fr b w w' := by
  obtain ⟨v0, v1, hb, h0, h1, hs⟩ := h
  refine (t_write b 3 v1 m.b.s s w (by rw [Lib.cell_of_heap hb]; rfl) (Lib.frozen_of_heap hb 3) (lt_of_block hb) h1 h1.ne hlen).mono ?_
  rintro e w' ⟨rfl, v', w1, rfl, hv', hg, hat⟩
  have hb1 : w1.heap[b]? = some (.cells (arr m v0 v1) 68 (0, 0)) := by rw [hg.block b (lt_of_block hb) (fun x => h1.ne x.symm)]; exact hb
  have hs' : Sep v' v0 := by
    rcases hat with e | e
    · exact Sep.of_own hs.symm e
    · intro g hg1 hg2
      rw [e] at hg1; injection hg1 with hg1
      have := (h0.lt g hg2).2
      omega
  refine ⟨rfl, ⟨v0, v', heap_setCell_same w1 b 3 _ _ _ hb1, (h0.grown hg hs).set _ _, hv'.set _ _, hs'.symm⟩, Fr.wrote h1 (lt_of_block hb) (fun _ h => mine1 hb h) hg hat⟩

theorem c_syncB (b : Nat) (m : M) (w : World) (h : RP b m w) :
    Calls Tryz.prog 56 #[.pointer (some ⟨b, 3, none⟩)] w fun e w' => e = .returned (.tuple #[]) ∧ RP b { m with b := ⟨m.b.s, m.b.s.length⟩ } w' ∧ Fr b w w' := by
  obtain ⟨v0, v1, hb, h0, h1, hs⟩ := h
  obtain ⟨ao, cap, rfl, hl, hc⟩ := h1.form
  refine (t_sync b 3 ao m.b.s.length cap m.b.k w (by rw [Lib.cell_of_heap hb]; rfl) (by rw [Lib.cell_of_heap hb]; rfl) (Lib.frozen_of_heap hb 4)).mono ?_
  rintro e w' ⟨rfl, rfl⟩
  exact ⟨rfl, ⟨_, _, heap_setCell_same w b 4 _ _ _ hb, h0.set _ _, h1.set _ _, hs⟩, Fr.set b 4 w _⟩

theorem c_trimB (b : Nat) (m : M) (n : Nat) (w : World) (h : RP b m w) (hm : m.ok) (hn : n ≤ m.b.s.length) :
    Calls Tryz.prog 66 #[.pointer (some ⟨b, 3, none⟩), .int .i64 n] w fun e w' => e = .returned (.tuple #[]) ∧ RP b { m with b := ⟨m.b.s.take n, min m.b.k n⟩ } w' ∧ Fr b w w' := by
  obtain ⟨v0, v1, hb, h0, h1, hs⟩ := h
  obtain ⟨ao, cap, rfl, hl, hc⟩ := h1.form
  have hcap : cap ≤ 9223372036854775807 := hc
  have hk : m.b.k ≤ 9223372036854775807 := by have := hm.kb; omega
  refine (t_trim b 3 ao m.b.s.length cap n m.b.k w (by rw [Lib.cell_of_heap hb]; rfl) (by rw [Lib.cell_of_heap hb]; rfl) (Lib.frozen_of_heap hb 3) (Lib.frozen_of_heap hb 4) hn hl hcap hk h1.nil_cap).mono ?_
  rintro e w' ⟨rfl, rfl⟩
  exact ⟨rfl, ⟨_, _, heap_setCell_same _ b 4 _ _ _ (heap_setCell_same w b 3 _ _ _ hb), (h0.set _ _).set _ _, ((h1.front hn).set _ _).set _ _, (hs.symm.of_own (v := .slice ao m.b.s.length cap) (by cases ao <;> rfl)).symm⟩, (Fr.set b 3 w _ (fun k _ h _ => mine1 hb (by cases ao <;> exact h))).trans (Fr.set b 4 _ _)⟩

set_option maxHeartbeats 1000000 in
theorem c_crashB (b : Nat) (m : M) (keep : Int) (turn : UInt8) (w : World) (h : RP b m w) (hm : m.ok) (hlo : -9223372036854775808 ≤ keep) (hhi : keep ≤ 9223372036854775807) :
    Calls Tryz.prog 44 #[.pointer (some ⟨b, 3, none⟩), .int .i64 keep, .int .u8 turn.toNat] w fun e w' => e = .returned (.tuple #[]) ∧ RP b { m with b := m.b.crash keep turn } w' ∧ Fr b w w' := by
  obtain ⟨v0, v1, hb, h0, h1, hs⟩ := h
  obtain ⟨ao, cap, rfl, hl, hc⟩ := h1.form
  have hcap : cap ≤ 9223372036854775807 := hc
  have hk := hm.kb
  have c0 : w.cell? ⟨b, 3, none⟩ = some (.slice ao m.b.s.length cap) := by rw [Lib.cell_of_heap hb]; rfl
  have c1 : w.cell? ⟨b, 3 + 1, none⟩ = some (.int .i64 m.b.k) := by rw [Lib.cell_of_heap hb]; rfl
  -- nothing is kept
  have none_kept : m.b.kept keep = 0 → ∀ (e : Ending) (w' : World), e = .returned (.tuple #[]) ∧ Al w' ((w.setCell ⟨b, 3, none⟩ (.slice ao m.b.k cap)).setCell ⟨b, 3 + 1, none⟩ (.int .i64 m.b.k)) →
      e = .returned (.tuple #[]) ∧ RP b { m with b := m.b.crash keep turn } w' ∧ Fr b w w' := by
    rintro hz e w' ⟨rfl, hal⟩
    have hx : m.b.crash keep turn = ⟨m.b.s.take m.b.k, m.b.k⟩ := by unfold Tape.crash; rw [if_pos hz, hz]; rfl
    rw [hx]
    have hf := h1.front (n := m.b.k) hk
    refine ⟨rfl, ⟨_, _, by rw [hal.1]; exact heap_setCell_same _ b 4 _ _ _ (heap_setCell_same w b 3 _ _ _ hb), ?_, ?_, (hs.symm.of_own (v := .slice _ m.b.s.length cap) (by first | rfl | (cases ao <;> rfl))).symm⟩, hal.fr ((Fr.set b 3 w _ (fun k _ h _ => mine1 hb (by cases ao <;> exact h))).trans (Fr.set b 4 _ _))⟩
    all_goals exact Rw.keep (w := (w.setCell ⟨b, 3, none⟩ (.slice ao m.b.k cap)).setCell ⟨b, 3 + 1, none⟩ (.int .i64 m.b.k)) (by first | exact (hf.set _ _).set _ _ | exact (h0.set _ _).set _ _) (fun _ _ => by rw [hal.1])
  by_cases k1 : keep < 0
  · exact (t_crashA b 3 ao _ cap _ keep turn.toNat w c0 c1 (Lib.frozen_of_heap hb 3) (Lib.frozen_of_heap hb 4) hk hl hcap h1.nil_cap k1 hlo).mono (none_kept (by unfold Tape.kept; omega))
  by_cases k2 : keep = 0
  · exact (t_crashZ b 3 ao _ cap _ keep turn.toNat w c0 c1 (Lib.frozen_of_heap hb 3) (Lib.frozen_of_heap hb 4) hk hl hcap h1.nil_cap k2).mono (none_kept (by unfold Tape.kept; omega))
  by_cases k3 : m.b.k = m.b.s.length
  · exact (t_crashE b 3 ao _ cap _ keep turn.toNat w c0 c1 (Lib.frozen_of_heap hb 3) (Lib.frozen_of_heap hb 4) hk hl hcap h1.nil_cap (by omega) k3).mono (none_kept (by unfold Tape.kept; omega))
  -- something is kept: n bytes stand there then
  obtain ⟨g, rfl⟩ : ∃ g, ao = some ⟨g, 0, none⟩ := by
    rcases h1.2 with ⟨hv, h0⟩ | ⟨g, c, cur, hv, _⟩
    · omega
    · injection hv with e1 e2 e3
      exact ⟨g, e1⟩
  have hgb : g ≠ b := fun e => h1.ne (by rw [← e]; rfl)
  have hgm : ∀ n, Mine (w.setCell ⟨b, 3, none⟩ (.slice (some ⟨g, 0, none⟩) n cap)) b g := fun n => .inr ⟨_, _, _, .slice (some ⟨g, 0, none⟩) n cap, heap_setCell_same w b 3 _ _ _ hb, .inr rfl, rfl⟩
  have hgt : b < g := (h1.lt g rfl).1
  have some_kept : ∀ n, n = m.b.k + m.b.kept keep → m.b.k < n → n ≤ m.b.s.length → ∀ hj : n - 1 < m.b.s.length,
      (w.cell? ⟨g, n - 1, none⟩ = some (.int .u8 ((m.b.s[n - 1]).toNat : Int)) ∧ w.frozen? ⟨g, n - 1, none⟩ = false) ∧
      ∀ (e : Ending) (w' : World), e = .returned (.tuple #[]) ∧ Al w' (((w.setCell ⟨b, 3, none⟩ (.slice (some ⟨g, 0, none⟩) n cap)).setCell ⟨g, n - 1, none⟩ (.int .u8 (bits .xor .u8 ((m.b.s[n - 1]).toNat : Int) (turn.toNat : Int)))).setCell ⟨b, 3 + 1, none⟩ (.int .i64 n)) →
      e = .returned (.tuple #[]) ∧ RP b { m with b := m.b.crash keep turn } w' ∧ Fr b w w' := by
    intro n hn hkn hnl hj
    refine ⟨⟨?_, h1.frozenAt _⟩, ?_⟩
    · rw [h1.cellAt (n - 1) (by omega)]
      simp [Lib.byteCells, hj]
    rintro e w' ⟨rfl, hal⟩
    have hlen : (m.b.s.take n).length = n := by rw [List.length_take]; omega
    have hx : m.b.crash keep turn = ⟨(m.b.s.take n).set (n - 1) (m.b.s[n - 1] ^^^ turn), n⟩ := by
      unfold Tape.crash
      rw [if_neg (by omega), ← hn, modify_set _ _ _ (by rw [hlen]; omega)]
      simp
    rw [hx]
    rw [xor_byte] at hal
    have hf := h1.front (n := n) hnl
    have hf1 : Rw (w.setCell ⟨b, 3, none⟩ (.slice (some ⟨g, 0, none⟩) n cap)) b (.slice (some ⟨g, 0, none⟩) (m.b.s.take n).length cap) (m.b.s.take n) := by rw [hlen]; exact hf.set _ _
    have hf2 := hf1.turn (n - 1) (m.b.s[n - 1] ^^^ turn)
    rw [List.length_set, hlen] at hf2
    have hu : Rw ((w.setCell ⟨b, 3, none⟩ (.slice (some ⟨g, 0, none⟩) n cap)).setCell ⟨g, n - 1, none⟩ (.int .u8 ((m.b.s[n - 1] ^^^ turn).toNat : Int))) b v0 m.a.s :=
      (h0.set 3 _).keep fun g' hg' => by rw [Below.heap_setCell _ _ _ _ (fun e => hs.symm g rfl (by rw [hg', e]))]
    have hbk := heap_setCell_same _ b 4 _ _ (.int .i64 n) ((Below.heap_setCell _ ⟨g, n - 1, none⟩ (.int .u8 ((m.b.s[n - 1] ^^^ turn).toNat : Int)) b (fun e => hgb e.symm)).trans (heap_setCell_same w b 3 _ _ (.slice (some ⟨g, 0, none⟩) n cap) hb))
    refine ⟨rfl, ⟨_, _, by rw [hal.1]; exact hbk, ?_, ?_, (hs.symm.of_own (v := .slice _ m.b.s.length cap) (by first | rfl | (cases ao <;> rfl))).symm⟩, hal.fr (((Fr.set b 3 w (.slice (some ⟨g, 0, none⟩) n cap) (fun k _ h _ => mine1 hb h)).trans (Fr.turn (n - 1) _ (hgm n) hgt)).trans (Fr.set b 4 _ _))⟩
    · exact Rw.keep (w := ((w.setCell ⟨b, 3, none⟩ (.slice (some ⟨g, 0, none⟩) n cap)).setCell ⟨g, n - 1, none⟩ (.int .u8 ((m.b.s[n - 1] ^^^ turn).toNat : Int))).setCell ⟨b, 3 + 1, none⟩ (.int .i64 n)) (by first | exact hf2.set _ _ | exact hu.set _ _) (fun _ _ => by rw [hal.1])
    · exact Rw.keep (w := ((w.setCell ⟨b, 3, none⟩ (.slice (some ⟨g, 0, none⟩) n cap)).setCell ⟨g, n - 1, none⟩ (.int .u8 ((m.b.s[n - 1] ^^^ turn).toNat : Int))).setCell ⟨b, 3 + 1, none⟩ (.int .i64 n)) (by first | exact hf2.set _ _ | exact hu.set _ _) (fun _ _ => by rw [hal.1])
  by_cases k4 : keep ≤ (m.b.s.length : Int) - m.b.k
  · obtain ⟨p, hp⟩ : ∃ p : Nat, keep = (p + 1 : Nat) := ⟨(keep - 1).toNat, by omega⟩
    obtain ⟨⟨q1, q2⟩, q3⟩ := some_kept (m.b.k + (p + 1)) (by unfold Tape.kept; omega) (by omega) (by omega) (by omega)
    subst hp
    exact (t_crashB b 3 g _ cap _ p turn.toNat w c0 c1 (Lib.frozen_of_heap hb 3) (Lib.frozen_of_heap hb 4) hl hcap (by omega) hgb _ q1 q2).mono q3
  · obtain ⟨q, hq⟩ : ∃ q, m.b.s.length = q + 1 := ⟨m.b.s.length - 1, by omega⟩
    obtain ⟨⟨q1, q2⟩, q3⟩ := some_kept (m.b.k + (q + 1 - m.b.k)) (by unfold Tape.kept; omega) (by omega) (by omega) (by omega)
    exact (t_crashC b 3 g _ cap _ q keep turn.toNat w c0 c1 (Lib.frozen_of_heap hb 3) (Lib.frozen_of_heap hb 4) hl hcap hq (by omega) (by omega) hhi hgb _ q1 q2).mono q3

end Go.Proofs.YtglkapamkigdhaaGreatDoor.Rl

namespace Go.Proofs.YtglkapamkigdhaaGreatDoor.Rl
open Go.RowKit

def isT (t : Int) : Bool := t == 0 || t == 1
def M.get (m : M) (t : Int) : Tape := if t = 0 then m.a else m.b
def M.put (m : M) (t : Int) (T : Tape) : M := if t = 0 then { m with a := T } else { m with b := T }
def M.used (m : M) : Nat := m.a.s.length + m.b.s.length
def M.dead (m : M) : Bool := m.off || m.left == 0
def M.cut (m : M) : M := { m with off := true }
def M.tick (m : M) : M := { m with left := if 0 < m.left then m.left - 1 else m.left }
def M.done (m : M) : M := { m with ops := m.ops + 1 }

def M.write (m : M) (t : Int) (s : Text) : Int × M :=
  if isT t = false then (2, m) else if m.dead = true then (30, m.cut) else if m.room < m.used + s.length then (5, m.tick) else (0, (m.tick.put t ⟨(m.get t).s ++ s, (m.get t).k⟩).done)
def M.sync (m : M) (t : Int) : Int × M :=
  if isT t = false then (2, m) else if m.dead = true then (30, m.cut) else (0, (m.tick.put t ⟨(m.get t).s, (m.get t).s.length⟩).done)
def M.trim (m : M) (t n : Int) : Int × M :=
  if isT t = false ∨ n < 0 then (2, m) else if m.dead = true then (30, m.cut) else if ((m.get t).s.length : Int) < n then (2, m.tick) else
    (0, (m.tick.put t ⟨(m.get t).s.take n.toNat, min (m.get t).k n.toNat⟩).done)
def M.arm (m : M) (n : Int) : M := { m with left := n }
def M.crash (m : M) (a0 a1 : Int) (turn : UInt8) : M := { m with a := m.a.crash a0 turn, b := m.b.crash a1 turn, left := -1, off := false }
def M.read (m : M) (t : Int) : Text × Int :=
  if isT t = false then ([], 2) else if m.off = true then ([], 30) else ((m.get t).s, 0)
def M.free (m : M) : Int := (m.room : Int) - m.a.s.length - m.b.s.length
def M.new (room : Nat) : M := ⟨room, ⟨[], 0⟩, ⟨[], 0⟩, -1, false, 0⟩

/-! ### what may be stays so -/
theorem M.ok.cut {m : M} (h : m.ok) : m.cut.ok := ⟨h.ka, h.kb, h.fits, h.room, h.lo, h.hi, h.ops⟩
theorem M.ok.tick {m : M} (h : m.ok) : m.tick.ok :=
  ⟨h.ka, h.kb, h.fits, h.room, by have := h.lo; show -9223372036854775808 ≤ (if 0 < m.left then m.left - 1 else m.left); split <;> omega,
   by have := h.hi; show (if 0 < m.left then m.left - 1 else m.left) ≤ 9223372036854775807; split <;> omega, h.ops⟩
theorem M.ok.arm {m : M} (h : m.ok) {n : Int} (h1 : -9223372036854775808 ≤ n) (h2 : n ≤ 9223372036854775807) : (m.arm n).ok := ⟨h.ka, h.kb, h.fits, h.room, h1, h2, h.ops⟩
theorem M.ok.done {m : M} (h : m.ok) (ho : m.ops < 4611686018427387904) : m.done.ok := ⟨h.ka, h.kb, h.fits, h.room, h.lo, h.hi, ho⟩
theorem M.ok.put {m : M} (h : m.ok) {t : Int} {T : Tape} (hk : T.k ≤ T.s.length) (hf : T.s.length + (if t = 0 then m.b.s.length else m.a.s.length) ≤ m.room) : (m.put t T).ok := by
  unfold M.put
  split
  · rename_i ht; rw [if_pos ht] at hf
    exact ⟨hk, h.kb, hf, h.room, h.lo, h.hi, h.ops⟩
  · rename_i ht; rw [if_neg ht] at hf
    exact ⟨h.ka, hk, by show m.a.s.length + T.s.length ≤ m.room; omega, h.room, h.lo, h.hi, h.ops⟩
theorem Tape.crash_k {T : Tape} (h : T.k ≤ T.s.length) (keep : Int) (turn : UInt8) : (T.crash keep turn).s.length = T.k + T.kept keep ∧ (T.crash keep turn).k = T.k + T.kept keep ∧ T.k + T.kept keep ≤ T.s.length := by
  have hle : T.k + T.kept keep ≤ T.s.length := by unfold Tape.kept; omega
  refine ⟨?_, rfl, hle⟩
  unfold Tape.crash
  split
  · rename_i h0; simp only [List.length_take, h0]; omega
  · simp only [List.length_modify, List.length_take]; omega
theorem M.ok.crash {m : M} (h : m.ok) (a0 a1 : Int) (turn : UInt8) : (m.crash a0 a1 turn).ok := by
  obtain ⟨p1, p2, p3⟩ := Tape.crash_k h.ka a0 turn
  obtain ⟨q1, q2, q3⟩ := Tape.crash_k h.kb a1 turn
  have := h.fits
  refine ⟨?_, ?_, ?_, h.room, by show (-9223372036854775808 : Int) ≤ -1; decide, by show (-1 : Int) ≤ 9223372036854775807; decide, h.ops⟩
  · show (m.a.crash a0 turn).k ≤ (m.a.crash a0 turn).s.length; omega
  · show (m.b.crash a1 turn).k ≤ (m.b.crash a1 turn).s.length; omega
  · show (m.a.crash a0 turn).s.length + (m.b.crash a1 turn).s.length ≤ m.room; omega
theorem M.get_k {m : M} (h : m.ok) (t : Int) : (m.get t).k ≤ (m.get t).s.length := by
  unfold M.get; split
  · exact h.ka
  · exact h.kb
theorem M.get_fits (m : M) (t : Int) : (m.get t).s.length + (if t = 0 then m.b.s.length else m.a.s.length) = m.used := by
  unfold M.get M.used; split <;> omega
theorem M.ok.write {m : M} (h : m.ok) (t : Int) (s : Text) (ho : m.ops < 4611686018427387904) : (m.write t s).2.ok := by
  unfold M.write
  split
  · exact h
  split
  · exact h.cut
  split
  · exact h.tick
  · refine M.ok.done (M.ok.put h.tick ?_ ?_) (by unfold M.put M.tick; split <;> exact ho)
    · have := M.get_k h t
      simp only [List.length_append]; omega
    · have := M.get_fits m t
      simp only [List.length_append]
      show _ + (if t = 0 then m.b.s.length else m.a.s.length) ≤ m.room
      omega
theorem M.ok.sync {m : M} (h : m.ok) (t : Int) (ho : m.ops < 4611686018427387904) : (m.sync t).2.ok := by
  unfold M.sync
  split
  · exact h
  split
  · exact h.cut
  · refine M.ok.done (M.ok.put h.tick (Nat.le_refl _) ?_) (by unfold M.put M.tick; split <;> exact ho)
    have := M.get_fits m t
    have := h.fits
    show (m.get t).s.length + (if t = 0 then m.b.s.length else m.a.s.length) ≤ m.room
    unfold M.used at *
    omega
theorem M.ok.trim {m : M} (h : m.ok) (t n : Int) (ho : m.ops < 4611686018427387904) : (m.trim t n).2.ok := by
  unfold M.trim
  split
  · exact h
  split
  · exact h.cut
  split
  · exact h.tick
  · refine M.ok.done (M.ok.put h.tick ?_ ?_) (by unfold M.put M.tick; split <;> exact ho)
    · have := M.get_k h t
      simp only [List.length_take]; omega
    · have := M.get_fits m t
      have := h.fits
      simp only [List.length_take]
      show _ + (if t = 0 then m.b.s.length else m.a.s.length) ≤ m.room
      unfold M.used at *
      omega
theorem M.ok.new {room : Nat} (h : room ≤ 4194304) : (M.new room).ok := ⟨Nat.le_refl _, Nat.le_refl _, Nat.zero_le _, h, by show (-9223372036854775808 : Int) ≤ -1; decide, by show (-1 : Int) ≤ 9223372036854775807; decide, Nat.zero_le _⟩
/-- how many operations are counted -/
theorem M.write_ops (m : M) (t : Int) (s : Text) : (m.write t s).2.ops ≤ m.ops + 1 := by
  unfold M.write M.done M.put M.tick M.cut; repeat' split
  all_goals simp
theorem M.sync_ops (m : M) (t : Int) : (m.sync t).2.ops ≤ m.ops + 1 := by
  unfold M.sync M.done M.put M.tick M.cut; repeat' split
  all_goals simp
theorem M.trim_ops (m : M) (t n : Int) : (m.trim t n).2.ops ≤ m.ops + 1 := by
  unfold M.trim M.done M.put M.tick M.cut; repeat' split
  all_goals simp
theorem isT_cases {t : Int} (h : isT t = true) : t = 0 ∨ t = 1 := by unfold isT at h; simp at h; exact h
theorem isT_no {t : Int} (h : isT t = false) : t ≠ 0 ∧ t ≠ 1 := by unfold isT at h; simp at h; exact h

end Go.Proofs.YtglkapamkigdhaaGreatDoor.Rl
