/-
  An entry that is put behind the others, into a box's list, in a drawn region; entries out of texts, two by two. Conditions: at most 100,000 entries.
-/
import Derived.Test.YtimodohcihnoiaaDoorRoStr
import Derived.RangeFuncBox
import Derived.OneCell
namespace Go.Proofs.YtimodohcihnoiaaDoor.Ro
open Go.RowKit
open Go.Proofs.YtimodohcihnoiaaDoor.M (tieT untieT intT numT inR)

theorem keepsOthers_of {W W' : World} (hb : Below W.heap.size W W') : KeepsOthers W W' := ⟨hb.size, fun k _ hk _ => (hb.block k (Array.getElem?_eq_some_iff.1 hk).1).trans hk⟩
/-- an entry is made (operation ka), put behind the others (kp), stored (ks) into the box n0 -/
structure RE (ka kp ks n0 Bs : Nat) (W : World) (es : List En) (x : Int) (y : ByteArray) (L : Nat → Bool) (u : Nat → Value) (wx : World) : Prop where
  le : Bs ≤ W.heap.size
  k : KeepsOthers W wx
  a : L kp = false → Below W.heap.size W wx
  p : L ka = true → L kp = false → ∃ g : Nat, u ka = .slice (some ⟨g, 0, none⟩) 1 1 ∧ wx.cell? ⟨g, 0, none⟩ = some (.int .i64 x) ∧ wx.cell? ⟨g, 1, none⟩ = some (.string y) ∧ g < wx.heap.size
  b : L kp = true → ∃ wy, Below Bs W wy ∧ OwnE wy Bs (u kp) (es ++ [(x, y)]) ∧ (wx = wy ∧ L ks = false ∨ wx = wy.setCell ⟨n0, 2, none⟩ (u kp) ∧ L ks = true)
theorem RE.start {ka kp ks n0 Bs : Nat} {W : World} {es : List En} {x : Int} {y : ByteArray} (h : Bs ≤ W.heap.size) : RE ka kp ks n0 Bs W es x y (fun _ => false) (fun _ => undef) W.drew :=
  ⟨h, ⟨Nat.le_refl _, fun _ _ h _ => h⟩, fun _ => (Below.refl _ W).drew, fun h => (by cases h), fun h => (by cases h)⟩
theorem RE.call {ka kp ks n0 Bs i : Nat} {W wx w' : World} {es : List En} {x : Int} {y : ByteArray} {L : Nat → Bool} {u : Nat → Value} {v : Value} (h : RE ka kp ks n0 Bs W es x y L u wx) (hp : L kp = false) (hb : Below wx.heap.size wx w') (na : ka ≠ i) (np : kp ≠ i) :
    RE ka kp ks n0 Bs W es x y (St.mark L i) (St.upd u i v) w' := by
  have h0 := h.a hp
  refine ⟨h.le, h.k.trans (keepsOthers_of hb), fun _ => h0.trans (hb.mono h0.size), fun ha _ => ?_, fun h' => ?_⟩
  · rw [show St.mark L i ka = L ka by simp [St.mark, na]] at ha
    obtain ⟨g, g1, g2, g3, g4⟩ := h.p ha hp
    exact ⟨g, by rw [show St.upd u i v ka = u ka by simp [St.upd, na]]; exact g1, (hb.cell (p := ⟨g, 0, none⟩) g4).trans g2, (hb.cell (p := ⟨g, 1, none⟩) g4).trans g3, Nat.lt_of_lt_of_le g4 hb.size⟩
  · rw [show St.mark L i kp = L kp by simp [St.mark, np], hp] at h'; cases h'
theorem RE.made {ka kp ks n0 Bs : Nat} {W wx : World} {es : List En} {x : Int} {y : ByteArray} {L : Nat → Bool} {u : Nat → Value} (h : RE ka kp ks n0 Bs W es x y L u wx) (hp : L kp = false) (hne : kp ≠ ka) :
    RE ka kp ks n0 Bs W es x y (St.mark L ka) (St.upd u ka (.slice (some ⟨wx.heap.size, 0, none⟩) 1 1)) (wx.alloc (.cells #[.int .i64 x, .string y] 54)) := by
  have h0 := h.a hp
  refine ⟨h.le, h.k.trans (KeepsOthers.alloc _ _), fun _ => h0.alloc h0.size _, fun _ _ => ⟨wx.heap.size, by simp [St.upd], ?_, ?_, by simp⟩, fun h' => ?_⟩
  · exact World.cell?_alloc_new wx _ _ 0
  · exact World.cell?_alloc_new wx _ _ 1
  · rw [show St.mark L ka kp = L kp by simp [St.mark, hne], hp] at h'; cases h'
theorem RE.app {ka kp ks n0 Bs : Nat} {W wx : World} {es : List En} {x : Int} {y : ByteArray} {L : Nat → Bool} {u : Nat → Value} (h : RE ka kp ks n0 Bs W es x y L u wx) (ha : L ka = true) (hp : L kp = false) (hs : L ks = false) (hne : kp ≠ ks) {v : Value}
    (hown : OwnE W Bs v es) (hl : es.length ≤ 100000) (ty : TypeId) :
    ∃ v' w', (Builtin.append_ #[22, 22] ty #[v, u ka]).run Tryd.prog wx = .ok v' w' ∧ (∃ A c, v' = .slice A (es.length + 1) c) ∧ RE ka kp ks n0 Bs W es x y (St.mark L kp) (St.upd u kp v') w' := by
  obtain ⟨i0, hi, hz0, hz1, hz2⟩ := info_parts infoE
  have h0 := h.a hp
  have ho := own_keep hown h0
  obtain ⟨g, g1, g2, g3, g4⟩ := h.p ha hp
  obtain ⟨v', w', k1, k2, k3, _⟩ := run_append_own (P := Tryd.prog) (w := wx) Bs 22 ty 54 i0 (.agg #[.int .i64 0, .string E0]) 2 24 Tryd.underlying22 hi hz0 hz1 hz2 rfl (by decide) v es.length (ecells es) ho ⟨g, 0, none⟩ 1 1 [.int .i64 x, .string y] rfl
    (fun j z hz => by
      match j with
      | 0 => simp at hz; subst hz; simpa [Addr.add] using g2
      | 1 => simp at hz; subst hz; rw [Addr.add_lit]; exact g3
      | j + 2 => simp at hz) (fun z hz => by simp at hz; rcases hz with rfl | rfl <;> rfl) (by unfold maxLen; omega) (by omega) (Nat.le_trans h.le h0.size)
  rw [← g1] at k1
  have k2' : OwnE w' Bs v' (es ++ [(x, y)]) := by
    show w'.ownsRow _ _ _ _ _ _
    rw [List.length_append, ecells_append]; exact k2
  have ep : St.mark L kp kp = true := by simp [St.mark]
  obtain ⟨A, c, hv, _⟩ := own_room k2'
  rw [List.length_append] at hv
  refine ⟨v', w', k1, ⟨A, c, hv⟩, h.le, h.k.trans (KeepsOthers.of_grownBy k3 fun j o ej hj => ?_), fun h' => (by rw [ep] at h'; cases h'), fun _ h' => (by rw [ep] at h'; cases h'), fun _ => ⟨w', (h0.mono h.le).grown k3 (Nat.le_trans h.le h0.size) (fun k hk => (ho.lt k hk).1), by rw [show St.upd u kp v' kp = v' by simp [St.upd]]; exact k2', .inl ⟨rfl, by rw [show St.mark L kp ks = L ks by simp [St.mark, hne.symm]]; exact hs⟩⟩⟩
  rcases ho.2 with ⟨rfl, _⟩ | ⟨g', cap, cur, rfl, _, hgb, _⟩
  · simp [Value.ownBlock] at ej
  · obtain rfl : g' = j := by simpa [Value.ownBlock] using ej
    rw [hgb] at hj; cases hj; rfl
theorem RE.store {ka kp ks n0 Bs : Nat} {W wx : World} {es : List En} {x : Int} {y : ByteArray} {L : Nat → Bool} {u : Nat → Value} (h : RE ka kp ks n0 Bs W es x y L u wx) (hp : L kp = true) (hs : L ks = false) (hne : kp ≠ ks) :
    RE ka kp ks n0 Bs W es x y (St.mark L ks) (St.upd u ks undef) (wx.setCell ⟨n0, 2, none⟩ (u kp)) := by
  obtain ⟨wy, h1, h2, h3⟩ := h.b hp
  obtain ⟨rfl, _⟩ := h3.resolve_right (fun h => by rw [hs] at h; cases h.2)
  have e1 : St.mark L ks kp = true := by rw [show St.mark L ks kp = L kp by simp [St.mark, hne]]; exact hp
  have e2 : St.upd u ks undef kp = u kp := by simp [St.upd, hne]
  exact ⟨h.le, h.k.trans (KeepsOthers.setCell _ _ _), fun h' => (by rw [e1] at h'; cases h'), fun _ h' => (by rw [e1] at h'; cases h'), fun _ => ⟨wx, h1, by rw [e2]; exact h2, .inr ⟨by rw [e2], by simp [St.mark]⟩⟩⟩
/-- what holds behind the region -/
theorem RE.done {ka kp ks n0 Bs : Nat} {W wx : World} {es : List En} {x : Int} {y : ByteArray} {L : Nat → Bool} {u : Nat → Value} {r0 : Lg} {s0 : Value} (h : RE ka kp ks n0 Bs W es x y L u wx) (hp : L kp = true) (hs : L ks = true) (hb : BoxL n0 r0 s0 W) (hn : n0 < Bs) :
    BoxL n0 ⟨r0.base, r0.bt, es ++ [(x, y)]⟩ (u kp) wx ∧ OwnE wx Bs (u kp) (es ++ [(x, y)]) ∧ KeepsOthers W wx ∧ ∃ wy, Below Bs W wy ∧ wx = wy.setCell ⟨n0, 2, none⟩ (u kp) := by
  obtain ⟨wy, h1, h2, h3⟩ := h.b hp
  obtain ⟨rfl, _⟩ := h3.resolve_left (fun h => by rw [hs] at h; cases h.2)
  exact ⟨(hb.kept hn h1).es _ _, own_set h2 hn _, h.k, wy, h1, rfl⟩

/-! ### entries, two by two -/
def tAt (ts : List ByteArray) (i : Nat) : ByteArray := ts.getD i ⟨#[]⟩
theorem tAt_get {ts : List ByteArray} {i : Nat} (h : i < ts.length) : tAt ts i = ts[i] := by unfold tAt; rw [List.getD_eq_getElem?_getD, List.getElem?_eq_getElem h]; rfl
noncomputable def entAt (ts : List ByteArray) (j : Nat) : En := (num1 (tAt ts (j * 2 + 2)).data.toList, tAt ts (j * 2 + 3))
theorem tAt_cons2 (a b : ByteArray) (l : List ByteArray) (i : Nat) : tAt (a :: b :: l) (i + 2) = tAt l i := rfl
theorem entAt_succ (a b c d : ByteArray) (l : List ByteArray) (j : Nat) : entAt (a :: b :: c :: d :: l) (j + 1) = entAt (a :: b :: l) j := by
  unfold entAt
  rw [show (j + 1) * 2 + 2 = j * 2 + 2 + 2 by omega, show (j + 1) * 2 + 3 = j * 2 + 1 + 2 + 2 by omega, show j * 2 + 3 = j * 2 + 1 + 2 by omega, tAt_cons2, tAt_cons2, tAt_cons2, tAt_cons2, tAt_cons2, tAt_cons2]
theorem ba_back (b : ByteArray) : (⟨b.data.toList.toArray⟩ : ByteArray) = b := by
  obtain ⟨⟨x⟩⟩ := b
  rfl
theorem twosE_range : ∀ (m : Nat) (a b : ByteArray) (l : List ByteArray), l.length = m * 2 → twosE (texts l) = (List.range m).map (entAt (a :: b :: l))
  | 0, a, b, l, h => by
    obtain rfl := List.length_eq_zero_iff.1 (by omega : l.length = 0)
    rfl
  | m + 1, a, b, [], h => by simp at h
  | m + 1, a, b, [_], h => by simp at h; omega
  | m + 1, a, b, c :: d :: l, h => by
    have hl : l.length = m * 2 := by simp at h; omega
    have ih := twosE_range m a b l hl
    show twosE (c.data.toList :: d.data.toList :: texts l) = _
    rw [twosE, ih, List.range_succ_eq_map, List.map_cons, List.map_map, ba_back]
    rw [show (entAt (a :: b :: c :: d :: l)) ∘ Nat.succ = entAt (a :: b :: l) from funext fun j => entAt_succ a b c d l j]
    rfl
/-- what Parse answers, told by the texts -/
theorem parseL_none {s : List UInt8} (h : untieT s = none) : parseL s = (Lg.zero, 110) := by unfold parseL; rw [h]
theorem parseL_odd {s : List UInt8} {ts : List ByteArray} (h : untieT s = some (texts ts)) (h2 : ts.length < 2 ∨ ts.length % 2 = 1) : parseL s = (Lg.zero, 110) := by
  unfold parseL
  rw [h]
  rcases ts with _ | ⟨a, _ | ⟨b, l⟩⟩
  · rfl
  · rfl
  · show (if (texts l).length % 2 = 0 then _ else _) = _
    rw [if_neg]
    rw [texts_length]
    simp only [List.length_cons] at h2
    omega
theorem parseL_even {s : List UInt8} {ts : List ByteArray} {m : Nat} (h : untieT s = some (texts ts)) (h2 : ts.length = m * 2 + 2) : parseL s = (if isL ⟨num1 (tAt ts 0).data.toList, num1 (tAt ts 1).data.toList, (List.range m).map (entAt ts)⟩ = true then (⟨num1 (tAt ts 0).data.toList, num1 (tAt ts 1).data.toList, (List.range m).map (entAt ts)⟩, 0) else (Lg.zero, 110)) := by
  rcases ts with _ | ⟨a, _ | ⟨b, l⟩⟩
  · simp at h2
  · simp at h2
  · have hl : l.length = m * 2 := by simp only [List.length_cons] at h2; omega
    unfold parseL
    rw [h]
    show (if (texts l).length % 2 = 0 then _ else _) = _
    rw [if_pos (by rw [texts_length]; omega), ← twosE_range m a b l hl]
    rfl
theorem parseL_bad {s : List UInt8} {ts : List ByteArray} {m : Nat} (h : untieT s = some (texts ts)) (h2 : ts.length = m * 2 + 2) (hx : num1 (tAt ts 0).data.toList = -1 ∨ num1 (tAt ts 1).data.toList = -1 ∨ ∃ j, j < m ∧ (entAt ts j).1 = -1) : parseL s = (Lg.zero, 110) := by
  rw [parseL_even h h2, if_neg]
  intro hi
  obtain ⟨h3, h4, _, h6⟩ := (isL_iff _).1 hi
  simp only at h3 h4 h6
  rcases hx with hx | hx | ⟨j, hj, hx⟩
  · omega
  · omega
  · have := riseE_mem h6 (entAt ts j) (List.mem_map.2 ⟨j, List.mem_range.2 hj, rfl⟩)
    omega
/-- what a call answers that makes a roll, and a number -/
def GaveR (w : World) (p : Lg × Int) (e : Ending) (w' : World) : Prop := ∃ s, e = .returned (.tuple #[lv p.1 s, .int .i64 p.2]) ∧ ArgE w' s p.1.es ∧ Below w.heap.size w w'
theorem GaveR.zero {w w' : World} {n : Int} (h : Below w.heap.size w w') : GaveR w (Lg.zero, n) (.returned (.tuple #[.agg #[.int .i64 0, .int .i64 0, .slice none 0 0], .int .i64 n])) w' := ⟨_, rfl, .nil, h⟩
end Go.Proofs.YtimodohcihnoiaaDoor.Ro
