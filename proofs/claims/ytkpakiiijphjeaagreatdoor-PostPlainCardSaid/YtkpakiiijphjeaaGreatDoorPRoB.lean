/-
  upTo, Append, the program's; the library's Clone at entries; Slice; the document's Append. Conditions: bases from 0 to 2^40, at most 100,000 entries.
  The library's Clone at entries; Slice, the program's. Conditions: bases from 0 to 2^40, at most 100,000 entries; numbers such as a program can hold.
  The law's own; the document's Append. Conditions: at most 100,000 entries.
  The document's Slice. Conditions: bases from 0 to 2^40, at most 100,000 entries; numbers such as a program can hold.
  Compact, the program's and the document's. Conditions: bases from 0 to 2^40, at most 100,000 entries; numbers such as a program can hold.
  The document's Compact. Conditions: bases from 0 to 2^40, at most 100,000 entries; numbers such as a program can hold.
-/
import Derived.Test.YtkpakiiijphjeaaGreatDoorPRoA
import Derived.Lib.SliceRun
import Derived.Lib.MinMax
import Derived.Test.YtkpakiiijphjeaaGreatDoorPRegA
namespace Go.Proofs.YtkpakiiijphjeaaGreatDoor.Ro
open Go.RowKit
theorem ArgE.more {w w' : World} {N : Nat} {v : Value} {es : List En} (h : ArgE w v es) (hb : Below N w w') (hN : w.heap.size ≤ N) : ArgE w' v es := h.keep (hb.mono hN)
end Go.Proofs.YtkpakiiijphjeaaGreatDoor.Ro

namespace Go.Proofs.YtkpakiiijphjeaaGreatDoor.Ro
open Go.RowKit
def GaveE (w : World) (l : List En) (e : Ending) (w' : World) : Prop := ∃ v, e = .returned v ∧ OwnE w' w.heap.size v l ∧ Below w.heap.size w w'
theorem GaveE.nil {w w' : World} (h : Below w.heap.size w w') : GaveE w [] (.returned (.slice none 0 0)) w' := ⟨_, rfl, ⟨rfl, .inl ⟨rfl, rfl⟩⟩, h⟩
end Go.Proofs.YtkpakiiijphjeaaGreatDoor.Ro

namespace Go.Proofs.YtkpakiiijphjeaaGreatDoor.Ro
open Go.RowKit
end Go.Proofs.YtkpakiiijphjeaaGreatDoor.Ro

namespace Go.Proofs.YtkpakiiijphjeaaGreatDoor.Ro
open Go.RowKit
end Go.Proofs.YtkpakiiijphjeaaGreatDoor.Ro

namespace Go.Proofs.YtkpakiiijphjeaaGreatDoor.Ro
open Go.RowKit
structure RC (kc ks n : Nat) (W : World) (to x : Int) (M : Nat) (es : List En) (L : Nat → Bool) (u : Nat → Value) (wx : World) : Prop where
  a : L kc = false → Below W.heap.size W wx
  b : L kc = true → L ks = false → ∃ A c, u kc = .agg #[.int .i64 to, .int .i64 x, .slice A M c] ∧ ArgE wx (.slice A M c) es ∧ Off n (.slice A M c) ∧ Below W.heap.size W wx
  c : L ks = true → ∃ A c wy, ArgE wy (.slice A M c) es ∧ Off n (.slice A M c) ∧ Below W.heap.size W wy ∧ wx = (((wy.setCell ⟨n, 0, none⟩ (.int .i64 to)).setCell ⟨n, 1, none⟩ (.int .i64 x)).setCell ⟨n, 2, none⟩ (.slice A M c))
theorem RC.start {kc ks n : Nat} {W : World} {to x : Int} {M : Nat} {es : List En} : RC kc ks n W to x M es (fun _ => false) (fun _ => undef) W.drew :=
  ⟨fun _ => (Below.refl _ W).drew, fun h => (by cases h), fun h => (by cases h)⟩
theorem RC.call {kc ks n i : Nat} {W wx w' : World} {to x : Int} {M : Nat} {es : List En} {L : Nat → Bool} {u : Nat → Value} {v : Value} (h : RC kc ks n W to x M es L u wx) (h0 : L kc = false) (h1 : L ks = false) (hb : Below wx.heap.size wx w') (n0 : kc ≠ i) (n1 : ks ≠ i) :
    RC kc ks n W to x M es (St.mark L i) (St.upd u i v) w' := by
  have h0' := h.a h0
  refine ⟨fun _ => h0'.trans (hb.mono h0'.size), fun h' => ?_, fun h' => ?_⟩
  · rw [show St.mark L i kc = L kc by simp [St.mark, n0], h0] at h'; cases h'
  · rw [show St.mark L i ks = L ks by simp [St.mark, n1], h1] at h'; cases h'
theorem RC.made {kc ks n : Nat} {W wx w' : World} {to x : Int} {M : Nat} {es : List En} {L : Nat → Bool} {u : Nat → Value} {A : Option Addr} {c : Nat} (h : RC kc ks n W to x M es L u wx) (h0 : L kc = false) (h1 : L ks = false) (hne : kc ≠ ks)
    (ha : ArgE w' (.slice A M c) es) (ho : Off n (.slice A M c)) (hb : Below wx.heap.size wx w') : RC kc ks n W to x M es (St.mark L kc) (St.upd u kc (.agg #[.int .i64 to, .int .i64 x, .slice A M c])) w' := by
  have h0' := h.a h0
  refine ⟨fun h' => ?_, fun _ _ => ⟨A, c, by simp [St.upd], ha, ho, h0'.trans (hb.mono h0'.size)⟩, fun h' => ?_⟩
  · rw [show St.mark L kc kc = true by simp [St.mark]] at h'; cases h'
  · rw [show St.mark L kc ks = L ks by simp [St.mark, hne.symm], h1] at h'; cases h'
end Go.Proofs.YtkpakiiijphjeaaGreatDoor.Ro

namespace Go.Proofs.YtkpakiiijphjeaaGreatDoor.Ro
open Go.RowKit
end Go.Proofs.YtkpakiiijphjeaaGreatDoor.Ro
