/-
  number, and strands, the program's: the texts whose knot a text is. Conditions: texts of at most 12,000 bytes; the library's variables hold what their types allow.
  An entry that is put behind the others, into a box's list, in a drawn region; entries out of texts, two by two. Conditions: at most 100,000 entries.
  The document's Int at every text. Condition: lengths below 2^47.
  Parse, the document's: a roll out of a text. Conditions: lengths at most 2^47.
-/
import Derived.Test.YtkpakiiijphjeaaGreatDoorPRoC
import Derived.RangeFuncBox
import Derived.OneCell
import Derived.Test.YtkpakiiijphjeaaGreatDoorPFirstA
namespace Go.Proofs.YtkpakiiijphjeaaGreatDoor.Ro
open Go.RowKit
open Go.Proofs.YtkpakiiijphjeaaGreatDoor.M (tieT untieT intT numT inR intT_spec firstT untie_stuck untie_step untie_some first_cut_some first_cut_none first_cut_far first_cut_comma first_no_colon tieT_nil tieT_cons)
def StrOut (base : Nat) (o : Option (List (List UInt8))) (e : Ending) (w' : World) : Prop :=
  match o with
  | some l => ∃ v ss, e = .returned (.tuple #[v, .bool true]) ∧ texts ss = l ∧ w'.ownsRow base 9 1 v ss.length (ss.map Value.string)
  | none => e = .returned (.tuple #[.slice none 0 0, .bool false])
theorem StrOut.no {base : Nat} {o : Option (List (List UInt8))} {w' : World} (h : o = none) : StrOut base o (.returned (.tuple #[.slice none 0 0, .bool false])) w' := by subst h; exact rfl
end Go.Proofs.YtkpakiiijphjeaaGreatDoor.Ro

namespace Go.Proofs.YtkpakiiijphjeaaGreatDoor.Ro
open Go.RowKit
open Go.Proofs.YtkpakiiijphjeaaGreatDoor.M (tieT untieT intT numT inR)
theorem keepsOthers_of {W W' : World} (hb : Below W.heap.size W W') : KeepsOthers W W' := ⟨hb.size, fun k _ hk _ => (hb.block k (Array.getElem?_eq_some_iff.1 hk).1).trans hk⟩
structure RE (ka kp ks n0 Bs : Nat) (W : World) (es : List En) (x : Int) (y : ByteArray) (L : Nat → Bool) (u : Nat → Value) (wx : World) : Prop where
  le : Bs ≤ W.heap.size
  k : KeepsOthers W wx
  a : L kp = false → Below W.heap.size W wx
  p : L ka = true → L kp = false → ∃ g : Nat, u ka = .slice (some ⟨g, 0, none⟩) 1 1 ∧ wx.cell? ⟨g, 0, none⟩ = some (.int .i64 x) ∧ wx.cell? ⟨g, 1, none⟩ = some (.string y) ∧ g < wx.heap.size
  b : L kp = true → ∃ wy, Below Bs W wy ∧ OwnE wy Bs (u kp) (es ++ [(x, y)]) ∧ (wx = wy ∧ L ks = false ∨ wx = wy.setCell ⟨n0, 2, none⟩ (u kp) ∧ L ks = true)
theorem RE.start {ka kp ks n0 Bs : Nat} {W : World} {es : List En} {x : Int} {y : ByteArray} (h : Bs ≤ W.heap.size) : RE ka kp ks n0 Bs W es x y (fun _ => false) (fun _ => undef) W.drew :=
  ⟨h, ⟨Nat.le_refl _, fun _ _ h _ => h⟩, fun _ => (Below.refl _ W).drew, fun h => (by cases h), fun h => (by cases h)⟩
theorem RE.call {ka kp ks n0 Bs i : Nat} {W wx w' : World} {es : List En} {x : Int} {y : ByteArray} {L : Nat → Bool} {u : Nat → Value} {v : Value} (h : RE ka kp ks n0 Bs W es x y L u wx) (hp : L kp = false) (hb : Below wx.heap.size wx w') (na : ka ≠ i) (np : kp ≠ i) :
    RE ka kp ks n0 Bs W es x y (St.mark L i) (St.upd u i v) w' := by
  have h0 := h.a hp
  refine ⟨h.le, h.k.trans (keepsOthers_of hb), fun _ => h0.trans (hb.mono h0.size), fun ha _ => ?_, fun h' => ?_⟩
  · rw [show St.mark L i ka = L ka by simp [St.mark, na]] at ha
    obtain ⟨g, g1, g2, g3, g4⟩ := h.p ha hp
    exact ⟨g, by rw [show St.upd u i v ka = u ka by simp [St.upd, na]]; exact g1, (hb.cell (p := ⟨g, 0, none⟩) g4).trans g2, (hb.cell (p := ⟨g, 1, none⟩) g4).trans g3, Nat.lt_of_lt_of_le g4 hb.size⟩
  · rw [show St.mark L i kp = L kp by simp [St.mark, np], hp] at h'; cases h'
theorem RE.made {ka kp ks n0 Bs : Nat} {W wx : World} {es : List En} {x : Int} {y : ByteArray} {L : Nat → Bool} {u : Nat → Value} (h : RE ka kp ks n0 Bs W es x y L u wx) (hp : L kp = false) (hne : kp ≠ ka) :
    RE ka kp ks n0 Bs W es x y (St.mark L ka) (St.upd u ka (.slice (some ⟨wx.heap.size, 0, none⟩) 1 1)) (wx.alloc (.cells #[.int .i64 x, .string y] 51)) := by
  have h0 := h.a hp
  refine ⟨h.le, h.k.trans (KeepsOthers.alloc _ _), fun _ => h0.alloc h0.size _, fun _ _ => ⟨wx.heap.size, by simp [St.upd], ?_, ?_, by simp⟩, fun h' => ?_⟩
  · exact World.cell?_alloc_new wx _ _ 0
  · exact World.cell?_alloc_new wx _ _ 1
  · rw [show St.mark L ka kp = L kp by simp [St.mark, hne], hp] at h'; cases h'
theorem RE.app {ka kp ks n0 Bs : Nat} {W wx : World} {es : List En} {x : Int} {y : ByteArray} {L : Nat → Bool} {u : Nat → Value} (h : RE ka kp ks n0 Bs W es x y L u wx) (ha : L ka = true) (hp : L kp = false) (hs : L ks = false) (hne : kp ≠ ks) {v : Value}
    (hown : OwnE W Bs v es) (hl : es.length ≤ 100000) (ty : TypeId) :
    ∃ v' w', (Builtin.append_ #[22, 22] ty #[v, u ka]).run Tryz.prog wx = .ok v' w' ∧ (∃ A c, v' = .slice A (es.length + 1) c) ∧ RE ka kp ks n0 Bs W es x y (St.mark L kp) (St.upd u kp v') w' := by
  obtain ⟨i0, hi, hz0, hz1, hz2⟩ := info_parts infoE
  have h0 := h.a hp
  have ho := own_keep hown h0
  obtain ⟨g, g1, g2, g3, g4⟩ := h.p ha hp
  obtain ⟨v', w', k1, k2, k3, _⟩ := run_append_own (P := Tryz.prog) (w := wx) Bs 22 ty 51 i0 (.agg #[.int .i64 0, .string E0]) 2 24 Tryz.underlying22 hi hz0 hz1 hz2 rfl (by decide) v es.length (ecells es) ho ⟨g, 0, none⟩ 1 1 [.int .i64 x, .string y] rfl
    (fun j z hz => by
      match j with
      | 0 => simp at hz; subst hz; simpa [Addr.add] using g2
      | 1 => simp at hz; subst hz; rw [Addr.add_lit]; exact g3
      | j + 2 => simp at hz) (fun z hz => by simp at hz; rcases hz with rfl | rfl <;> rfl) (by unfold maxLen; omega) (by omega) (Nat.le_trans h.le h0.size)
  rw [← g1] at k1
  have k2' : OwnE w' Bs v' (es ++ [(x, y)]) := by
    show w'.ownsRow _ _ _ _ _ _
    rw [List.length_append, ecells_append]; exact k2
  have ep : St.mark L kp kp = true := by simp [St.mark]
  obtain ⟨A, c, hv, _⟩ := own_room k2'
  rw [List.length_append] at hv
  refine ⟨v', w', k1, ⟨A, c, hv⟩, h.le, h.k.trans (KeepsOthers.of_grownBy k3 fun j o ej hj => ?_), fun h' => (by rw [ep] at h'; cases h'), fun _ h' => (by rw [ep] at h'; cases h'), fun _ => ⟨w', (h0.mono h.le).grown k3 (Nat.le_trans h.le h0.size) (fun k hk => (ho.lt k hk).1), by rw [show St.upd u kp v' kp = v' by simp [St.upd]]; exact k2', .inl ⟨rfl, by rw [show St.mark L kp ks = L ks by simp [St.mark, hne.symm]]; exact hs⟩⟩⟩
  rcases ho.2 with ⟨rfl, _⟩ | ⟨g', cap, cur, rfl, _, hgb, _⟩
  · simp [Value.ownBlock] at ej
  · obtain rfl : g' = j := by simpa [Value.ownBlock] using ej
    rw [hgb] at hj; cases hj; rfl
theorem RE.store {ka kp ks n0 Bs : Nat} {W wx : World} {es : List En} {x : Int} {y : ByteArray} {L : Nat → Bool} {u : Nat → Value} (h : RE ka kp ks n0 Bs W es x y L u wx) (hp : L kp = true) (hs : L ks = false) (hne : kp ≠ ks) :
    RE ka kp ks n0 Bs W es x y (St.mark L ks) (St.upd u ks undef) (wx.setCell ⟨n0, 2, none⟩ (u kp)) := by
  obtain ⟨wy, h1, h2, h3⟩ := h.b hp
  obtain ⟨rfl, _⟩ := h3.resolve_right (fun h => by rw [hs] at h; cases h.2)
  have e1 : St.mark L ks kp = true := by rw [show St.mark L ks kp = L kp by simp [St.mark, hne]]; exact hp
  have e2 : St.upd u ks undef kp = u kp := by simp [St.upd, hne]
  exact ⟨h.le, h.k.trans (KeepsOthers.setCell _ _ _), fun h' => (by rw [e1] at h'; cases h'), fun _ h' => (by rw [e1] at h'; cases h'), fun _ => ⟨wx, h1, by rw [e2]; exact h2, .inr ⟨by rw [e2], by simp [St.mark]⟩⟩⟩
def tAt (ts : List ByteArray) (i : Nat) : ByteArray := ts.getD i ⟨#[]⟩
theorem tAt_get {ts : List ByteArray} {i : Nat} (h : i < ts.length) : tAt ts i = ts[i] := by unfold tAt; rw [List.getD_eq_getElem?_getD, List.getElem?_eq_getElem h]; rfl
def GaveR (w : World) (p : Lg × Int) (e : Ending) (w' : World) : Prop := ∃ s, e = .returned (.tuple #[lv p.1 s, .int .i64 p.2]) ∧ ArgE w' s p.1.es ∧ Below w.heap.size w w'
theorem GaveR.zero {w w' : World} {n : Int} (h : Below w.heap.size w w') : GaveR w (Lg.zero, n) (.returned (.tuple #[.agg #[.int .i64 0, .int .i64 0, .slice none 0 0], .int .i64 n])) w' := ⟨_, rfl, .nil, h⟩
end Go.Proofs.YtkpakiiijphjeaaGreatDoor.Ro

namespace Go.Proofs.YtkpakiiijphjeaaGreatDoor
open Go.RowKit M
end Go.Proofs.YtkpakiiijphjeaaGreatDoor

namespace Go.Proofs.YtkpakiiijphjeaaGreatDoor.Ro
open Go.RowKit
open Go.Proofs.YtkpakiiijphjeaaGreatDoor.M (tieT untieT intT numT inR untie_spec)
end Go.Proofs.YtkpakiiijphjeaaGreatDoor.Ro
