/-
  Parse, the program's, of orders' texts, at every text. Conditions: lengths below 2^47; the library's variables hold what their types allow.
-/
import Derived.Test.YticikmkehobblaaDoorOdCheck
import Derived.Test.YticikmkehobblaaDoorDsParse
import Derived.Test.YticikmkehobblaaDoorDsSplit
import Derived.Test.YticikmkehobblaaDoorRegA
namespace Go.Proofs.YticikmkehobblaaDoor.Od
open Go.RowKit Bnd
open Go.Proofs.YticikmkehobblaaDoor.M (numT inR tieT intT untieT)
open Ds (own_cells)

theorem ptr_inj {a b : Nat} (h : Ds.ptr a = Ds.ptr b) : a = b := by injection h with h; injection h with h; injection h
/-- region 4: an order is built of what the strands say, in a box that may be made ahead of it, or behind -/
structure RA (w1 : World) (o : Ask) (L : Nat → Bool) (u : Nat → Value) (wx : World) : Prop where
  lo : Below w1.heap.size w1 wx
  n : L 41 = true → ∃ n : Nat, u 41 = Ds.ptr n ∧ w1.heap.size ≤ n ∧ n < wx.heap.size ∧ (∃ x, BoxA n x wx) ∧ (L 42 = true → BoxA n o wx)
theorem RA.call {w1 wx w' : World} {o : Ask} {L : Nat → Bool} {u : Nat → Value} {i : Nat} (h : RA w1 o L u wx) (h1 : 41 ≠ i) (h2 : 42 ≠ i) (hb : Below wx.heap.size wx w') (v : Value) : RA w1 o (St.mark L i) (St.upd u i v) w' := by
  have e1 : St.mark L i 41 = L 41 := by simp [St.mark, h1]
  have e2 : St.mark L i 42 = L 42 := by simp [St.mark, h2]
  have e3 : St.upd u i v 41 = u 41 := by simp [St.upd, h1]
  refine ⟨h.lo.trans (hb.mono h.lo.size), fun h41 => ?_⟩
  rw [e1] at h41
  obtain ⟨n, g1, g2, g3, ⟨x, g4⟩, g5⟩ := h.n h41
  exact ⟨n, by rw [e3]; exact g1, g2, Nat.lt_of_lt_of_le g3 hb.size, ⟨x, g4.keep hb⟩, fun h42 => (g5 (by rw [← e2]; exact h42)).keep hb⟩
theorem RA.set {w1 wx : World} {o : Ask} {L : Nat → Bool} {u : Nat → Value} (h : RA w1 o L u wx) (h41 : L 41 = true) {n : Nat} (hu : u 41 = Ds.ptr n) : RA w1 o (St.mark L 42) (St.upd u 42 undef) (World.setCell (World.setCell (World.setCell (World.setCell (World.setCell (World.setCell (World.setCell (World.setCell (World.setCell (World.setCell (World.setCell wx ⟨n, 0, none⟩ (.int .i64 o.kind)) ⟨n, 1, none⟩ (.int .i64 o.client)) ⟨n, 2, none⟩ (.int .i64 o.seq)) ⟨n, 3, none⟩ (.string o.key)) ⟨n, 4, none⟩ (.string o.til)) ⟨n, 5, none⟩ (.string o.val)) ⟨n, 6, none⟩ (.string o.old)) ⟨n, 7, none⟩ (.bool o.has)) ⟨n, 8, none⟩ (.int .i64 o.lim)) ⟨n, 9, none⟩ (.int .i64 o.id)) ⟨n, 10, none⟩ (.int .i64 o.node)) := by
  obtain ⟨n', g1, g2, g3, ⟨x, g4⟩, _⟩ := h.n h41
  obtain rfl := ptr_inj (hu.symm.trans g1)
  have B := BoxA.put g4 o
  refine ⟨(((((((((((h.lo).setCell (p := ⟨n, 0, none⟩) g2 _).setCell (p := ⟨n, 1, none⟩) g2 _).setCell (p := ⟨n, 2, none⟩) g2 _).setCell (p := ⟨n, 3, none⟩) g2 _).setCell (p := ⟨n, 4, none⟩) g2 _).setCell (p := ⟨n, 5, none⟩) g2 _).setCell (p := ⟨n, 6, none⟩) g2 _).setCell (p := ⟨n, 7, none⟩) g2 _).setCell (p := ⟨n, 8, none⟩) g2 _).setCell (p := ⟨n, 9, none⟩) g2 _).setCell (p := ⟨n, 10, none⟩) g2 _, fun _ => ⟨n, hu, g2, B.1, ⟨o, B⟩, fun _ => B⟩⟩

theorem num0_in (t : Text) : inR (num0 t) := by
  unfold num0
  cases h : intT t with
  | none => exact ⟨by decide, by decide⟩
  | some n => exact (M.intT_spec h).1
theorem parseA_none {s : Text} (h : untieT s = none) : parseA s = (Ask.zero, 70) := by unfold parseA; rw [h]
theorem parseA_len {s : Text} {ss : List ByteArray} (h : untieT s = some (texts ss)) (hl : ss.length ≠ 11) : parseA s = (Ask.zero, 70) := by
  unfold parseA
  rw [h]
  have : readA (texts ss) = none := by
    unfold readA
    split
    · rename_i e
      have := congrArg List.length e
      rw [texts_length] at this
      exact absurd this hl
    · rfl
  simp only [this]
theorem parseA_some {s : Text} {x0 x1 x2 x3 x4 x5 x6 x7 x8 x9 x10 : ByteArray} (h : untieT s = some (texts [x0, x1, x2, x3, x4, x5, x6, x7, x8, x9, x10])) :
    parseA s = okA ⟨num0 x0.data.toList, num0 x1.data.toList, num0 x2.data.toList, x3, x4, x5, x6, decide (x7.data.toList = [49]), num0 x8.data.toList, num0 x9.data.toList, num0 x10.data.toList⟩ s := by
  unfold parseA
  rw [h]
  have : readA (texts [x0, x1, x2, x3, x4, x5, x6, x7, x8, x9, x10]) = some ⟨num0 x0.data.toList, num0 x1.data.toList, num0 x2.data.toList, x3, x4, x5, x6, decide (x7.data.toList = [49]), num0 x8.data.toList, num0 x9.data.toList, num0 x10.data.toList⟩ := by
    simp [texts, readA]
  simp only [this]
theorem is_one (x : ByteArray) : (x.toList == [49]) = decide (x.data.toList = [49]) := by
  rw [ByteArray.toList_eq, Bool.eq_iff_iff]
  simp

end Go.Proofs.YticikmkehobblaaDoor.Od

