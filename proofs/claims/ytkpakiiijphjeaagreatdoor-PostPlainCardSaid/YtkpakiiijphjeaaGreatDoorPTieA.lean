/-
  Slices of strings, as lists of texts; and a builder carried over whatever leaves every old block as it stood. No condition.
  knot.Tie and the document's Tie, at every list of strings. Condition: at most 5,000 strings of at most 1,000,000 bytes each.
  The document's Same, at every two lists of strings, and the law's num and small. Condition: at most 2^40 strings.
-/
import Derived.Test.YtkpakiiijphjeaaGreatDoorPFirstA
import Derived.Laws.OwnMore
import Derived.Maps.AppendAt
namespace Go.Proofs.YtkpakiiijphjeaaGreatDoor
open Go.RowKit M
theorem add_block (a : Addr) (n : Nat) : (a.add n).block = a.block := by unfold Addr.add; split <;> rfl
def SL (w : World) (B : Nat) (v : Value) (ss : List ByteArray) : Prop :=
  ∃ (A : Option Addr) (c : Nat), v = .slice A ss.length c ∧ (0 < ss.length → ∃ ad : Addr, A = some ad ∧ ad.block < B ∧ ∀ i (h : i < ss.length), w.cell? (ad.add i) = some (.string ss[i]))
theorem SL.nil (w : World) (B : Nat) : SL w B (.slice none 0 0) [] := ⟨none, 0, rfl, fun h => absurd h (by simp)⟩
theorem SL.keep {w w' : World} {B : Nat} {v : Value} {ss : List ByteArray} (h : SL w B v ss) (hk : ∀ p : Addr, p.block < B → w'.cell? p = w.cell? p) : SL w' B v ss := by
  obtain ⟨A, c, hv, h⟩ := h
  refine ⟨A, c, hv, fun h0 => ?_⟩
  obtain ⟨ad, e, hb, hc⟩ := h h0
  exact ⟨ad, e, hb, fun i hi => by rw [hk _ (by rw [add_block]; exact hb)]; exact hc i hi⟩
theorem SL.below {w w' : World} {B : Nat} {v : Value} {ss : List ByteArray} (h : SL w B v ss) (hb : Below B w w') : SL w' B v ss := h.keep fun _ hp => hb.cell hp
theorem SL.more {w : World} {B B' : Nat} {v : Value} {ss : List ByteArray} (h : SL w B v ss) (hB : B ≤ B') : SL w B' v ss := by
  obtain ⟨A, c, hv, h⟩ := h
  refine ⟨A, c, hv, fun h0 => ?_⟩
  obtain ⟨ad, e, hb, hc⟩ := h h0
  exact ⟨ad, e, by omega, hc⟩
theorem SL.at_ {w : World} {B k : Nat} {A : Option Addr} {n c : Nat} {ss : List ByteArray} (h : SL w B (.slice A n c) ss) (hk : k < ss.length) :
    ∃ ad : Addr, A = some ad ∧ ad.block < B ∧ w.cell? (ad.add k) = some (.string ss[k]) := by
  obtain ⟨A', c', hv, h⟩ := h
  injection hv with h1 h2 h3
  subst h1
  obtain ⟨ad, e, hb, hc⟩ := h (by omega)
  exact ⟨ad, e, hb, hc k hk⟩
theorem SL.form {w : World} {B : Nat} {v : Value} {ss : List ByteArray} (h : SL w B v ss) : ∃ A c, v = .slice A ss.length c := by
  obtain ⟨A, c, hv, _⟩ := h; exact ⟨A, c, hv⟩
theorem SL.of_own {w : World} {base : Nat} {v : Value} {ss : List ByteArray} (h : w.ownsRow base 9 1 v ss.length (ss.map Value.string)) : SL w w.heap.size v ss := by
  rcases h.2 with ⟨rfl, h0⟩ | ⟨g, cap, cur, rfl, _, hh, _⟩
  · have : ss = [] := List.length_eq_zero_iff.1 h0
    subst this
    exact SL.nil w _
  · refine ⟨_, _, rfl, fun h0 => ⟨⟨g, 0, none⟩, rfl, ?_, fun i hi => ?_⟩⟩
    · exact (Array.getElem?_eq_some_iff.1 hh).1
    · exact h.cells (g := g) rfl i _ (by simp [hi])
theorem builder_below {B b : Nat} {l : List UInt8} {w w' : World} (h : IsB B b l w) (hb : Below w.heap.size w w') : IsB B b l w' := by
  have go : ∀ {p : Value}, Lib.BuilderAtF 119 5 B b p (Lib.byteCells l) w → Lib.BuilderAtF 119 5 B b p (Lib.byteCells l) w' := by
    rintro p ⟨hB, v, hbk, hown, hne⟩
    have hlt : b < w.heap.size := (Array.getElem?_eq_some_iff.1 hbk).1
    exact ⟨hB, v, (hb.block b hlt).trans hbk, hown.kept (row := none) ⟨hb.os, hb.tape, hb.output, hb.size, fun k hk _ => hb.block k hk⟩ (Classical.em _), hne⟩
  rcases h with h | h
  · exact .inl (go h)
  · exact .inr (go h)
end Go.Proofs.YtkpakiiijphjeaaGreatDoor

namespace Go.Proofs.YtkpakiiijphjeaaGreatDoor
open Go.RowKit M
attribute [local go_sem ↓] Go.wp_at_zero Go.wp_at_succ
theorem wByte (B b : Nat) (l : Text) (c : UInt8) (w : World) (h : IsB B b l w) (hlen : l.length + 1 ≤ 140737488355328) (hBw : B ≤ w.heap.size) :
    Calls Tryz.prog 76 #[.pointer (some ⟨b, 0, none⟩), .int .u8 (c.toNat : Int)] w fun e w' => e = .returned .nilIface ∧ (IsB B b (l ++ [c]) w' ∧ Below B w w') := by
  refine (writeByte_any B b (Lib.byteCells l) (c.toNat : Int) w h (by rw [Lib.byteCells_length]; exact hlen) hBw).mono ?_
  rintro e w' ⟨h1, h2, h3⟩
  refine ⟨h1, ?_, h3⟩
  show Lib.IsBuilderF 119 5 B b (Lib.byteCells (l ++ [c])) w'
  rw [Lib.byteCells_append]
  exact h2
theorem wString (B b : Nat) (l : Text) (s : ByteArray) (w : World) (h : IsB B b l w) (hlen : l.length + s.size ≤ 140737488355328) (hBw : B ≤ w.heap.size) :
    Calls Tryz.prog 75 #[.pointer (some ⟨b, 0, none⟩), .string s] w fun e w' => e = .returned (.tuple #[.int .i64 s.size, .nilIface]) ∧ (IsB B b (l ++ s.data.toList) w' ∧ Below B w w') := by
  refine (writeString_any B b (Lib.byteCells l) s w h (by rw [Lib.byteCells_length]; exact hlen) hBw).mono ?_
  rintro e w' ⟨h1, h2, h3⟩
  refine ⟨h1, ?_, h3⟩
  show Lib.IsBuilderF 119 5 B b (Lib.byteCells (l ++ s.data.toList)) w'
  rw [Lib.byteCells_append]
  exact h2
def texts (ss : List ByteArray) : List Text := ss.map (fun s => s.data.toList)
theorem sum_le_mul (l : List Nat) (m : Nat) (h : ∀ x ∈ l, x ≤ m) : l.sum ≤ m * l.length := by
  induction l with
  | nil => simp
  | cons x l ih =>
    have h1 := h x (by simp)
    have h2 := ih fun y hy => h y (by simp [hy])
    simp only [List.sum_cons, List.length_cons, Nat.mul_add]
    omega
structure Few (ss : List ByteArray) : Prop where
  few : ss.length ≤ 5000
  short : ∀ s ∈ ss, s.size ≤ 1048576
theorem Few.tie {ss : List ByteArray} (h : Few ss) (k : Nat) : (tieT (texts (ss.take k))).length ≤ 6000000000 := by
  have h1 := tie_length (texts (ss.take k)) (by
    intro x hx
    obtain ⟨s, hs, rfl⟩ := List.mem_map.1 hx
    have := h.short s (List.mem_of_mem_take hs)
    simp; omega)
  have h2 := sum_le_mul ((texts (ss.take k)).map List.length) 1048576 (by
    intro x hx
    obtain ⟨y, hy, rfl⟩ := List.mem_map.1 hx
    obtain ⟨s, hs, rfl⟩ := List.mem_map.1 hy
    have := h.short s (List.mem_of_mem_take hs)
    simp; omega)
  have h3 : (texts (ss.take k)).length ≤ 5000 := by
    have := h.few
    simp [texts]; omega
  rw [List.length_map] at h2
  omega
theorem texts_take_succ (ss : List ByteArray) (k : Nat) (hk : k < ss.length) : texts (ss.take (k + 1)) = texts (ss.take k) ++ [ss[k].data.toList] := by
  unfold texts; rw [List.take_succ_eq_append_getElem hk, List.map_append]; rfl
set_option maxHeartbeats 2000000 in
set_option maxRecDepth 100000 in
theorem tie_any (v : Value) (ss : List ByteArray) (w : World) (hv : SL w w.heap.size v ss) (hf : Few ss) :
    Calls Tryz.prog 32 #[v] w fun e w' => e = .returned (str (tieT (texts ss))) ∧ Below w.heap.size w w' := by
  obtain ⟨A, c, rfl⟩ := hv.form
  have hlen : (ss.length : Int) ≤ 5000 := by have := hf.few; omega
  go_enter Tryz.func32, Tryz.ntmps32
  go_wp2_with fail
  go_loopw [8] (fun vi wr => ∃ (k : Nat), k ≤ ss.length ∧ vi = .int .i64 (k : Int) ∧ IsB w.heap.size w.heap.size (tieT (texts (ss.take k))) wr ∧ Below w.heap.size w wr) (fun vi _ => ss.length - (intOf vi).toNat)
  case atStart => exact ⟨0, by omega, rfl, Lib.IsBuilderF.of (Lib.fresh_isBuilder 119 5 w), (Below.refl _ w).alloc (Nat.le_refl _) _⟩
  case round =>
    obtain ⟨k, hk, rfl, hI, hbw⟩ := hrel
    by_cases hlt : k < ss.length
    · obtain ⟨ad, rfl, hadb, hcell⟩ := (hv.below hbw).at_ hlt
      obtain ⟨x, hx⟩ : ∃ x, ss[k] = x := ⟨_, rfl⟩
      rw [hx] at hcell
      have hxs : x.size ≤ 1048576 := by rw [← hx]; exact hf.short _ (List.getElem_mem hlt)
      have hin := inR_small (n := x.size) (by omega)
      have hnl := numT_length hin
      have hnum := fun w => num_any (x.size : Int) w hin
      have htl := hf.tie k
      obtain ⟨T, hT⟩ : ∃ T, T = tieT (texts (ss.take k)) := ⟨_, rfl⟩
      rw [← hT] at hI htl
      have hnew : T ++ numT (x.size : Int) ++ [58] ++ x.data.toList ++ [44] = tieT (texts (ss.take (k + 1))) := by
        rw [texts_take_succ ss k hlt, tieT_snoc, hx, ← hT]
        simp [strand]
      have HN := Lib.hid hnew
      clear hnew hT hx
      go_wp2_with fail
      refine (hnum _).mono ?_
      rintro e w1 ⟨rfl, b1⟩
      have I1 := builder_below hI b1
      have B1 := hbw.trans (b1.mono hbw.size)
      go_wp2_with fail
      refine (wString _ _ _ (⟨(numT (x.size : Int)).toArray⟩ : ByteArray) _ I1 (show T.length + (numT (x.size : Int)).length ≤ 140737488355328 by omega) B1.size).mono ?_
      rintro e w2 ⟨rfl, I2, b2⟩
      have B2 := B1.trans b2
      go_wp2_with fail
      refine (wByte _ _ _ 58 _ I2 (by simp; omega) B2.size).mono ?_
      rintro e w3 ⟨rfl, I3, b3⟩
      have B3 := B2.trans b3
      go_wp2_with fail
      refine (wString _ _ _ x _ I3 (by simp; omega) B3.size).mono ?_
      rintro e w4 ⟨rfl, I4, b4⟩
      have B4 := B3.trans b4
      go_wp2_with fail
      refine (wByte _ _ _ 44 _ I4 (by simp; omega) B4.size).mono ?_
      rintro e w5 ⟨rfl, I5, b5⟩
      have B5 := B4.trans b5
      go_wp2_with fail
      go_roundw
      case rel =>
        refine ⟨k + 1, by omega, by go_num, ?_, B5⟩
        rw [← HN.out]; exact I5
      case measure => simp [intOf]; omega
    · obtain rfl : k = ss.length := by omega
      have hst := Tryz.Builder_String_any_k w.heap.size w.heap.size _ wr hI hbw.size
      rw [List.take_length] at hst
      clear hI
      go_wp2_with fail
      refine hst.mono ?_
      rintro e w1 ⟨rfl, _, b1, _⟩
      go_wp2_with fail
      go_ret
      exact ⟨rfl, hbw.trans b1⟩
end Go.Proofs.YtkpakiiijphjeaaGreatDoor

namespace Go.Proofs.YtkpakiiijphjeaaGreatDoor
open Go.RowKit M
attribute [local go_sem ↓] Go.wp_at_zero Go.wp_at_succ
theorem bytes_beq_yes {x y : ByteArray} (h : x = y) : (x.toList == y.toList) = true := by rw [h]; simp
theorem bytes_beq_no {x y : ByteArray} (h : x ≠ y) : (x.toList == y.toList) = false := by
  rw [ByteArray.toList_eq, ByteArray.toList_eq]
  have : x.data.toList ≠ y.data.toList := fun e => h (bytes_ext e)
  simpa using this
theorem ret_bool {a b : Bool} (h : a = b) : Ending.returned (.bool a) = .returned (.bool b) := by rw [h]
end Go.Proofs.YtkpakiiijphjeaaGreatDoor
