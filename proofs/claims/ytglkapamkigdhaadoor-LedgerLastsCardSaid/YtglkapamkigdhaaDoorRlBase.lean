/-
  What every walk of this seat leans on: the model of a reel, how the program holds it, what a call may touch, and append of a text onto a tape. Condition: lengths at most 2^47 bytes.
-/
import Derived.Test.YtglkapamkigdhaaDoorProg
import Derived.Tactics
import Derived.Tactics2
import Derived.WalkKit
import Derived.WalkLawsBesides
import Derived.BigCall
import Derived.Lib.Hide
import Derived.KernelRfl
import Derived.Lib.AppendStr
import Derived.Lib.UnsafeStr
import Derived.Lib.Builder
import Derived.OneCell
import Derived.Laws.OwnMore
namespace Go.Proofs.YtglkapamkigdhaaDoor.Rl
open Go.RowKit

theorem ret_bool {a b : Bool} (h : a = b) : Ending.returned (.bool a) = .returned (.bool b) := by rw [h]
theorem ret_int {k : IntKind} {a b : Int} (h : a = b) : Ending.returned (.int k a) = .returned (.int k b) := by rw [h]
theorem bytes_ext {a b : ByteArray} (h : a.toList = b.toList) : a = b := by
  rw [ByteArray.toList_eq, ByteArray.toList_eq] at h
  obtain ⟨⟨x⟩⟩ := a
  obtain ⟨⟨y⟩⟩ := b
  have h : x = y := h
  rw [h]
theorem size_toList (s : ByteArray) : s.toList.length = s.size := by rw [ByteArray.toList_eq]; simp

abbrev Text := List UInt8
/-- What stands on a tape, and how much of it is safe. -/
structure Tape where
  s : Text
  k : Nat
/-- A reel. -/
structure M where
  room : Nat
  a : Tape
  b : Tape
  left : Int
  off : Bool
  ops : Nat

/-- What may be of a reel: all that it has finds room, what is safe stands there, its numbers are numbers. -/
structure M.ok (m : M) : Prop where
  ka : m.a.k ≤ m.a.s.length
  kb : m.b.k ≤ m.b.s.length
  fits : m.a.s.length + m.b.s.length ≤ m.room
  room : m.room ≤ 4194304
  lo : -9223372036854775808 ≤ m.left
  hi : m.left ≤ 9223372036854775807
  ops : m.ops ≤ 4611686018427387904

/-- v is a row of bytes of its own behind block b, and has the text s. -/
def Rw (w : World) (b : Nat) (v : Value) (s : Text) : Prop := w.ownsRow (b + 1) 5 1 v s.length (Lib.byteCells s)
/-- Two rows do not share their block. -/
def Sep (v u : Value) : Prop := ∀ g, v.ownBlock = some g → u.ownBlock ≠ some g
theorem Sep.symm {v u : Value} (h : Sep v u) : Sep u v := fun g hu hv => h g hv hu

def arr (m : M) (v0 v1 : Value) : Array Value := #[.int .i64 m.room, v0, .int .i64 m.a.k, v1, .int .i64 m.b.k, .int .i64 m.left, .bool m.off, .int .i64 m.ops]
/-- Block b of w is the reel m, as the program holds it. -/
def RP (b : Nat) (m : M) (w : World) : Prop :=
  ∃ v0 v1, w.heap[b]? = some (.cells (arr m v0 v1) 55 (0, 0)) ∧ Rw w b v0 m.a.s ∧ Rw w b v1 m.b.s ∧ Sep v0 v1

/-- Block k is of the reel at block b: it, or a row that its tapes lie in. -/
def Mine (w : World) (b k : Nat) : Prop := k = b ∨ ∃ cs T f v, w.heap[b]? = some (.cells cs T f) ∧ (cs[1]? = some v ∨ cs[3]? = some v) ∧ v.ownBlock = some k
theorem Mine.same {w w' : World} {b k : Nat} (h : w'.heap[b]? = w.heap[b]?) (hm : Mine w' b k) : Mine w b k := by
  unfold Mine at *; rw [h] at hm; exact hm

/-- What a call on the reel at block b may touch: the blocks that are of the reel, and new memory. -/
structure Fr (b : Nat) (w w' : World) : Prop where
  below : Below b w w'
  old : ∀ k, k < w.heap.size → ¬ Mine w b k → w'.heap[k]? = w.heap[k]?
  mine : ∀ k, k < w.heap.size → Mine w' b k → Mine w b k
theorem Fr.refl (b : Nat) (w : World) : Fr b w w := ⟨Below.refl _ _, fun _ _ _ => rfl, fun _ _ h => h⟩
theorem Fr.trans {b : Nat} {w1 w2 w3 : World} (h : Fr b w1 w2) (k : Fr b w2 w3) : Fr b w1 w3 :=
  ⟨h.below.trans k.below, fun i hi hn => (k.old i (Nat.lt_of_lt_of_le hi h.below.size) (fun hm => hn (h.mine i hi hm))).trans (h.old i hi hn),
   fun i hi hm => h.mine i hi (k.mine i (Nat.lt_of_lt_of_le hi h.below.size) hm)⟩
theorem Fr.of_below {b : Nat} {w w' : World} (h : Below w.heap.size w w') (hb : b < w.heap.size) : Fr b w w' :=
  ⟨h.mono (Nat.le_of_lt hb), fun k hk _ => h.block k hk, fun _ _ hm => hm.same (h.block b hb)⟩
theorem Fr.alloc (b : Nat) (w : World) (o : Obj) (hb : b < w.heap.size) : Fr b w (w.alloc o) := Fr.of_below ((Below.refl _ w).alloc (Nat.le_refl _) o) hb
theorem Mine.set {b i : Nat} {w : World} {u : Value} {k : Nat} (hm : Mine (w.setCell ⟨b, i, none⟩ u) b k) : Mine w b k ∨ ((i = 1 ∨ i = 3) ∧ u.ownBlock = some k) := by
  rcases hm with e | ⟨cs, T, f, v, hh, hv, hk'⟩
  · exact .inl (.inl e)
  · simp only [World.setCell, Array.getElem?_modify, if_true] at hh
    cases hc : w.heap[b]? with
    | none => rw [hc] at hh; simp at hh
    | some ob =>
      rw [hc] at hh
      cases ob with
      | cells c0 T0 f0 =>
        simp only [Option.map_some, Option.some.injEq, Obj.cells.injEq, Option.isSome_none, Bool.false_eq_true, if_false] at hh
        obtain ⟨rfl, rfl, rfl⟩ := hh
        have side : ∀ j : Nat, (c0.setIfInBounds i u)[j]? = some v → (i = j ∧ u = v) ∨ c0[j]? = some v := by
          intro j hj
          rw [Array.getElem?_setIfInBounds] at hj
          split at hj
          · split at hj
            · exact .inl ⟨by assumption, Option.some.inj hj⟩
            · cases hj
          · exact .inr hj
        rcases hv with hv | hv
        · rcases side 1 hv with ⟨hi, rfl⟩ | hv
          · exact .inr ⟨.inl hi, hk'⟩
          · exact .inl (.inr ⟨c0, _, _, v, hc, .inl hv, hk'⟩)
        · rcases side 3 hv with ⟨hi, rfl⟩ | hv
          · exact .inr ⟨.inr hi, hk'⟩
          · exact .inl (.inr ⟨c0, _, _, v, hc, .inr hv, hk'⟩)
      | _ => simp at hh
theorem Fr.set (b i : Nat) (w : World) (u : Value) (h : ∀ k, (i = 1 ∨ i = 3) → u.ownBlock = some k → k < w.heap.size → Mine w b k := by intro _ hi; exfalso; omega) : Fr b w (w.setCell ⟨b, i, none⟩ u) :=
  ⟨(Below.refl b w).setCell (p := ⟨b, i, none⟩) (Nat.le_refl _) u, fun k _ hn => Below.heap_setCell _ _ _ _ (fun e => hn (.inl e)), fun k hk hm => by
    rcases hm.set with hm | ⟨hi, hu⟩
    · exact hm
    · exact h k hi hu hk⟩
/-- One byte of a row of the reel is written. -/
theorem Fr.turn {b g : Nat} (j : Nat) {w : World} (u : Value) (hm : Mine w b g) (hg : b < g) : Fr b w (w.setCell ⟨g, j, none⟩ u) :=
  ⟨(Below.refl b w).setCell (p := ⟨g, j, none⟩) (Nat.le_of_lt hg) u, fun k _ hn => Below.heap_setCell _ _ _ _ (fun e => hn (by rw [e]; exact hm)),
   fun _ _ h => h.same (Below.heap_setCell _ _ _ _ (by show b ≠ g; omega))⟩
theorem Fr.drew {b : Nat} {w w' : World} (h : Fr b w w') : Fr b w w'.drew := ⟨h.below.drew, h.old, h.mine⟩
theorem Fr.size {b : Nat} {w w' : World} (h : Fr b w w') : w.heap.size ≤ w'.heap.size := h.below.size

/-- Two worlds alike but for what is drawn. -/
def Al (w' w : World) : Prop := w'.heap = w.heap ∧ w'.os = w.os ∧ w'.tape = w.tape ∧ w'.output = w.output
theorem Al.refl (w : World) : Al w w := ⟨rfl, rfl, rfl, rfl⟩
theorem Al.fr {b : Nat} {w w1 w2 : World} (h : Al w2 w1) (k : Fr b w w1) : Fr b w w2 :=
  ⟨⟨h.2.1.trans k.below.os, h.2.2.1.trans k.below.tape, h.2.2.2.trans k.below.output, by rw [h.1]; exact k.below.size, fun i hi => by rw [h.1]; exact k.below.block i hi⟩,
   fun i hi hn => by rw [h.1]; exact k.old i hi hn, fun i hi hm => k.mine i hi (hm.same (by rw [h.1]))⟩
theorem Al.below {N : Nat} {w w1 w2 : World} (h : Al w2 w1) (k : Below N w w1) : Below N w w2 :=
  ⟨h.2.1.trans k.os, h.2.2.1.trans k.tape, h.2.2.2.trans k.output, by rw [h.1]; exact k.size, fun i hi => by rw [h.1]; exact k.block i hi⟩

theorem Rw.keep {w w' : World} {b : Nat} {v : Value} {s : Text} (h : Rw w b v s) (hk : ∀ g, v.ownBlock = some g → w'.heap[g]? = w.heap[g]?) : Rw w' b v s := by
  refine ⟨h.1, ?_⟩
  rcases h.2 with hn | ⟨g, cap, cur, rfl, hb, hg, rest⟩
  · exact .inl hn
  · exact .inr ⟨g, cap, cur, rfl, hb, by rw [hk g rfl]; exact hg, rest⟩
theorem Rw.below {w w' : World} {b : Nat} {v : Value} {s : Text} (h : Rw w b v s) (hk : Below w.heap.size w w') : Rw w' b v s :=
  h.keep fun g hg => hk.block g (h.lt g hg).2
theorem Rw.set {w : World} {b : Nat} {v : Value} {s : Text} (h : Rw w b v s) (i : Nat) (u : Value) : Rw (w.setCell ⟨b, i, none⟩ u) b v s :=
  ownsRow_setCell_below h (a := ⟨b, i, none⟩) (Nat.lt_succ_self b) u
theorem RP.below {b : Nat} {m : M} {w w' : World} (h : RP b m w) (hk : Below w.heap.size w w') : RP b m w' := by
  obtain ⟨v0, v1, hb, h0, h1, hs⟩ := h
  exact ⟨v0, v1, by rw [hk.block b (lt_of_block hb)]; exact hb, h0.below hk, h1.below hk, hs⟩
theorem RP.lt {b : Nat} {m : M} {w : World} (h : RP b m w) : b < w.heap.size := by
  obtain ⟨v0, v1, hb, _⟩ := h
  exact lt_of_block hb
theorem Rw.form {w : World} {b : Nat} {v : Value} {s : Text} (h : Rw w b v s) : ∃ ao cap, v = .slice ao s.length cap ∧ s.length ≤ cap ∧ cap ≤ maxLen := by
  rcases h.2 with ⟨hv, h0⟩ | ⟨g, cap, cur, hv, _, _, h1, h2, _⟩
  · exact ⟨none, 0, by rw [hv, h0], by omega, by unfold maxLen; omega⟩
  · exact ⟨some ⟨g, 0, none⟩, cap, hv, h1, h2⟩

/-! ### a number, a mark of the reel is written -/
theorem RP.left {b : Nat} {m : M} {w : World} (h : RP b m w) (x : Int) : RP b { m with left := x } (w.setCell ⟨b, 5, none⟩ (.int .i64 x)) := by
  obtain ⟨v0, v1, hb, h0, h1, hs⟩ := h
  exact ⟨v0, v1, heap_setCell_same w b 5 _ _ _ hb, h0.set _ _, h1.set _ _, hs⟩
theorem RP.off {b : Nat} {m : M} {w : World} (h : RP b m w) (x : Bool) : RP b { m with off := x } (w.setCell ⟨b, 6, none⟩ (.bool x)) := by
  obtain ⟨v0, v1, hb, h0, h1, hs⟩ := h
  exact ⟨v0, v1, heap_setCell_same w b 6 _ _ _ hb, h0.set _ _, h1.set _ _, hs⟩
theorem RP.ops {b : Nat} {m : M} {w : World} (h : RP b m w) (x : Nat) : RP b { m with ops := x } (w.setCell ⟨b, 7, none⟩ (.int .i64 x)) := by
  obtain ⟨v0, v1, hb, h0, h1, hs⟩ := h
  exact ⟨v0, v1, heap_setCell_same w b 7 _ _ _ hb, h0.set _ _, h1.set _ _, hs⟩

/-! ### append of a text onto a row: where the row lies then -/
theorem strCells_toList (s : ByteArray) : Lib.strCells s = Lib.byteCells s.toList := by rw [Lib.strCells_eq, ByteArray.toList_eq]

theorem run_app {P : Program} (w : World) (base : Nat) (t u ty e : TypeId) (i : TypeInfo) (ht : P.underlying t = some (.slice e)) (hu : P.underlying u = some .string) (hi : P.info? e = some i) (hz : i.zero = some (.int .u8 0))
    (hsize : i.size = 1) (hby : i.bytes = 1) (v : Value) (n : Nat) (xs : List Value) (hown : w.ownsRow base e 1 v n xs) (s : ByteArray)
    (hbytes : n + s.size ≤ 140737488355328) (hbase : base ≤ w.heap.size) :
    ∃ v' w', (Builtin.append_ #[t, u] ty #[v, .string s]).run P w = .ok v' w' ∧ w'.ownsRow base e 1 v' (n + s.size) (xs ++ Lib.strCells s) ∧ w.grownBy w' v.ownBlock ∧
      (v'.ownBlock = v.ownBlock ∨ v'.ownBlock = some w.heap.size) := by
  have hm : n + s.size ≤ maxLen := by unfold maxLen; omega
  obtain ⟨v', w', hr, h2, h3, h4⟩ := Lib.run_append_own_string (P := P) w base t u ty e i ht hu hi hz hsize hby v n xs hown s hm hbytes hbase
  refine ⟨v', w', hr, h2, h3, ?_⟩
  rcases hown.2 with ⟨rfl, rfl⟩ | ⟨g, cap, cur, rfl, hbg, hg, hnc, hcm, hcs, htake⟩
  · by_cases h0 : s.size = 0
    · rw [h4.2 ⟨rfl, h0⟩]; exact .inl rfl
    · have hr' := run_append_nil_string (P := P) w t u ty e i (.int .u8 0) ht hu hi hz s (by omega) (by omega) (by rw [hby]; omega)
      rw [hr] at hr'
      injection hr' with e1 e2
      rw [e1]; exact .inr rfl
  · by_cases hroom : n + s.size ≤ cap
    · have hr' := Lib.run_append_room_string (P := P) w t u ty e i ht hu hi hsize g n cap cur hg s hroom (by omega)
      rw [hr] at hr'
      injection hr' with e1 e2
      rw [e1]; exact .inl rfl
    · have hr' := Lib.run_append_grow_string (P := P) w t u ty e i (.int .u8 0) ht hu hi hz ⟨g, 0, none⟩ n cap xs (by rw [hsize]; simpa using hown.1) (hown.cells (g := g) rfl) s (by omega) (by omega) (by rw [hby]; exact growslice_fits (by omega) (by omega))
      rw [hr] at hr'
      injection hr' with e1 e2
      rw [e1]; exact .inr rfl

theorem wpList_app {P : Program} {w : World} {ops : Array Oper} {rest : List Oper} {o : Oper} {a : Act} {Q : Exit → Act → World → Prop} (hgd : o.guard = none) (sl x : Operand) (t u : TypeId)
    (ho : o.op = .call { callee := .builtin .append, args := #[sl, x], argTypes := #[t, u] })
    (base : Nat) (e : TypeId) (i : TypeInfo) (ht : P.underlying t = some (.slice e)) (hu : P.underlying u = some .string) (hi : P.info? e = some i) (hz : i.zero = some (.int .u8 0))
    (hsize : i.size = 1) (hby : i.bytes = 1)
    (v : Value) (n : Nat) (xs : List Value) (hs : a.eval sl = v) (hown : w.ownsRow base e 1 v n xs) (s : ByteArray) (hx : a.eval x = .string s)
    (hbytes : n + s.size ≤ 140737488355328) (hbase : base ≤ w.heap.size)
    (h : ∀ v' w', w'.ownsRow base e 1 v' (n + s.size) (xs ++ Lib.strCells s) → w.grownBy w' v.ownBlock → (v'.ownBlock = v.ownBlock ∨ v'.ownBlock = some w.heap.size) → wpList P ops Q rest (a.put o.dst v') w') : wpList P ops Q (o :: rest) a w := by
  refine wpList_plain hgd fun K hK => ?_
  obtain ⟨v', w', hr, h2, h3, h4⟩ := run_app (P := P) w base t u o.type e i ht hu hi hz hsize hby v n xs hown s hbytes hbase
  unfold Oper.wp execOp
  simp only [ho, resolve, invoke, builtin, Sem.run_bind, Sem.run_pure, Result.andThen_ok, List.map_toArray, List.map_cons, List.map_nil, hs, hx, hr]
  exact hK _ _ (h v' w' h2 h3 h4)

theorem infoByte : (Tryd.prog.info? 5).map (fun i => (i.zero, i.size, i.bytes)) = some (some (.int .u8 0), 1, 1) := by kernel_rfl

end Go.Proofs.YtglkapamkigdhaaDoor.Rl
