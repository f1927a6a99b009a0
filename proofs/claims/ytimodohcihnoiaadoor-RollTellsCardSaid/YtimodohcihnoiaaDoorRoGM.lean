/-
  Drawn regions whose calls make rolls and lists of entries of their own; what Compact leaves of a roll. No condition.
  A drawn region that copies a list, merges it and writes the roll into a box; what Merge leaves of a roll. Conditions: lists of at most 1,000,000 entries.
-/
import Derived.Test.YtimodohcihnoiaaDoorRoLOC
import Derived.Test.YtimodohcihnoiaaDoorRoSlice
import Derived.Test.YtimodohcihnoiaaDoorRoRMg
namespace Go.Proofs.YtimodohcihnoiaaDoor.Ro
open Go.RowKit

theorem comp_len (r : Lg) (to : Int) : (compL r to).es.length ≤ r.es.length := by
  rcases comp_cases r to with ⟨k, _, _, e⟩ | ⟨_, e⟩
  · rw [e]
    simp
  · rw [e]
    exact Nat.le_refl _
/-- what an operation hands on: a roll, or a list of entries, that lies in the world -/
inductive Sp
  | ro (r : Lg)
  | en (l : List En)
def Sp.holds : Sp → Value → World → Prop
  | .ro r, v, w => ∃ s, v = lv r s ∧ ArgE w s r.es
  | .en l, v, w => ArgE w v l
theorem Sp.keep : ∀ {p : Sp} {v : Value} {w w' : World}, p.holds v w → Below w.heap.size w w' → p.holds v w'
  | .ro _, _, _, _, ⟨s, h1, h2⟩, hb => ⟨s, h1, h2.keep hb⟩
  | .en _, _, _, _, h, hb => ArgE.keep h hb
structure RG (W0 : World) (K : Nat → Option Sp) (L : Nat → Bool) (u : Nat → Value) (wx : World) : Prop where
  low : Below W0.heap.size W0 wx
  at_ : ∀ k p, L k = true → K k = some p → p.holds (u k) wx
theorem RG.call {W0 wx w' : World} {K : Nat → Option Sp} {j : Nat} {L : Nat → Bool} {u : Nat → Value} (h : RG W0 K L u wx) (b : Below wx.heap.size wx w') (v : Value) (hv : ∀ p, K j = some p → p.holds v w') : RG W0 K (St.mark L j) (St.upd u j v) w' :=
  ⟨h.low.trans (b.mono h.low.size), fun k p h1 h2 => by
    by_cases hk : k = j
    · subst hk
      rw [show St.upd u k v k = v by simp [St.upd]]
      exact hv p h2
    · rw [show St.mark L j k = L k by simp [St.mark, hk]] at h1
      rw [show St.upd u j v k = u k by simp [St.upd, hk]]
      exact Sp.keep (h.at_ k p h1 h2) b⟩
theorem RG.into {W0 wx w' : World} {K : Nat → Option Sp} {j : Nat} {L : Nat → Bool} {u : Nat → Value} (h : RG W0 K L u wx) (hj : K j = none) (b : Below wx.heap.size wx w') (v : Value) : RG W0 K (St.mark L j) (St.upd u j v) w' :=
  h.call b v fun p e => by rw [hj] at e; cases e
theorem RG.plain {W0 wx : World} {K : Nat → Option Sp} {j : Nat} {L : Nat → Bool} {u : Nat → Value} (h : RG W0 K L u wx) (hj : K j = none) (v : Value) : RG W0 K (St.mark L j) (St.upd u j v) wx := h.into hj (Below.refl _ _) v
theorem RG.got {W0 wx w' : World} {K : Nat → Option Sp} {j : Nat} {L : Nat → Bool} {u : Nat → Value} {q : Sp} {v : Value} (h : RG W0 K L u wx) (hj : K j = some q) (b : Below wx.heap.size wx w') (hv : q.holds v w') : RG W0 K (St.mark L j) (St.upd u j v) w' :=
  h.call b v fun p e => by rw [hj] at e; cases e; exact hv
theorem RG.start {W0 w : World} {K : Nat → Option Sp} {u : Nat → Value} (h : Below W0.heap.size W0 w) : RG W0 K (fun _ => false) u w.drew := ⟨h.drew, fun _ _ h => by cases h⟩
theorem RG.ro {W0 wx : World} {K : Nat → Option Sp} {k : Nat} {L : Nat → Bool} {u : Nat → Value} {r : Lg} {s : Value} (h : RG W0 K L u wx) (hk : L k = true) (e : K k = some (.ro r)) (hu : u k = lv r s) : ArgE wx s r.es := by
  obtain ⟨s', h1, h2⟩ := h.at_ k _ hk e
  have e2 : lv r s' = lv r s := h1.symm.trans hu
  have e3 : s' = s := by
    injection e2 with e3
    simpa using e3
  exact e3 ▸ h2
theorem RG.en {W0 wx : World} {K : Nat → Option Sp} {k : Nat} {L : Nat → Bool} {u : Nat → Value} {l : List En} {v : Value} (h : RG W0 K L u wx) (hk : L k = true) (e : K k = some (.en l)) (hu : u k = v) : ArgE wx v l := hu ▸ h.at_ k _ hk e
end Go.Proofs.YtimodohcihnoiaaDoor.Ro

namespace Go.Proofs.YtimodohcihnoiaaDoor.Ro
open Go.RowKit

/-- an append onto a slice of no length and no room -/
theorem run_append_zero {w : World} (ad : Addr) {y : Value} {ys : List En} (hy : ArgE w y ys) (hlen : ys.length ≤ 1000000) (ty : TypeId) :
    ∃ v' w', (Builtin.append_ #[22, 22] ty #[.slice (some ad) 0 0, y]).run Tryd.prog w = .ok v' w' ∧ ArgE w' v' ys ∧ Below w.heap.size w w' := by
  obtain ⟨i0, hi, hz0, hz1, hz2⟩ := info_parts infoE
  cases hy with
  | nil =>
    have hrun := run_append_nothing (P := Tryd.prog) w 22 22 ty 54 i0 Tryd.underlying22 hi (some ad) 0 0 (Nat.le_refl _) (.slice none 0 0) (Src.ofNil w Tryd.underlying22 0)
    exact ⟨_, w, hrun, .empty ad 0, Below.refl _ w⟩
  | empty a c =>
    have hrun := run_append_nothing (P := Tryd.prog) w 22 22 ty 54 i0 Tryd.underlying22 hi (some ad) 0 0 (Nat.le_refl _) (.slice (some a) 0 c) (Src.ofSlice w Tryd.underlying22 a 0 c [] (by simp) (fun j u h => by simp at h) (fun u h => by simp at h))
    exact ⟨_, w, hrun, .empty ad 0, Below.refl _ w⟩
  | some b o c ys hc hn =>
    by_cases h0 : ys.length = 0
    · obtain rfl := List.length_eq_zero_iff.1 h0
      have hrun := run_append_nothing (P := Tryd.prog) w 22 22 ty 54 i0 Tryd.underlying22 hi (some ad) 0 0 (Nat.le_refl _) (.slice (some ⟨b, o, none⟩) 0 c) (Src.ofSlice w Tryd.underlying22 ⟨b, o, none⟩ 0 c [] (by simp) (fun j u h => by simp at h) (fun u h => by simp at h))
      exact ⟨_, w, hrun, .empty ad 0, Below.refl _ w⟩
    · obtain ⟨v', w', hrun, r1, r2⟩ := run_append_arg_grows (P := Tryd.prog) w 22 ty 54 i0 (.agg #[.int .i64 0, .string E0]) 2 24 Tryd.underlying22 hi hz0 hz1 hz2 rfl (by decide) ad 0 0 [] rfl (fun j u h => by simp at h) ⟨b, o, none⟩ ys.length c (ecells ys) (ecells_length ys) (news_of hn) (by omega) (by unfold maxLen; omega) (by omega)
      have r3 : OwnE w' w.heap.size v' ys := by simpa using r1
      exact ⟨v', w', hrun, ArgE.of_own r3, (Below.refl _ w).grown r2 (Nat.le_refl _) (fun k e => by cases e)⟩
theorem merge_len (r : Lg) (ix t : Int) (l : List En) : (mergeL r ix t l).1.es.length ≤ r.es.length + l.length := by
  unfold mergeL
  split
  · split
    · simp only
      omega
    · simp only [List.length_append, List.length_take, List.length_drop]
      omega
  · simp only
    omega
/-- a new box is nobody's list of entries -/
theorem off_box {W : World} {n : Nat} {a b : Int} {v : Value} {es : List En} {T : TypeId} (hb : W.heap[n]? = some (.cells #[.int .i64 a, .int .i64 b, .slice none 0 0] T (0, 0))) (h : ArgE W v es) : Off n v := by
  intro b' o k c e hk hbn
  subst hbn
  obtain ⟨A, c', e2, hc⟩ := h.sm
  rw [e] at e2
  injection e2 with e3 e4 e5
  subst e3 e4
  obtain ⟨b'', o'', e6, _, hq⟩ := hc hk
  injection e6 with e7
  injection e7 with e8 e9 _
  subst e8 e9
  obtain ⟨q0, q1⟩ := hq 0 hk
  rw [Nat.zero_mul, Nat.add_zero] at q0 q1
  unfold World.cell? at q0 q1
  simp only [hb] at q0 q1
  match o, q0, q1 with
  | 0, q0, q1 => simp at q1
  | 1, q0, q1 => simp at q1
  | 2, q0, q1 => simp at q0
  | o + 3, q0, q1 => simp at q0
structure RX (W0 : World) (l : List En) (m : Lg × Bool) (L : Nat → Bool) (u : Nat → Value) (wx : World) : Prop where
  low : Below W0.heap.size W0 wx
  app : L 5 = true → L 11 = false → ArgE wx (u 5) l
  got : L 6 = true → L 11 = false → ∃ s, u 6 = .tuple #[lv m.1 s, .bool m.2] ∧ ArgE wx s m.1.es
  box : L 10 = true → L 11 = false → ∃ n, u 10 = .pointer (some ⟨n, 0, none⟩) ∧ W0.heap.size ≤ n ∧ wx.heap[n]? = some (.cells #[.int .i64 0, .int .i64 0, .slice none 0 0] 24 (0, 0))
  fin : L 11 = true → ∃ n s, u 10 = .pointer (some ⟨n, 0, none⟩) ∧ u 6 = .tuple #[lv m.1 s, .bool m.2] ∧ W0.heap.size ≤ n ∧ BoxL n m.1 s wx ∧ ArgE wx s m.1.es
section
variable {W0 wx w' : World} {l : List En} {m : Lg × Bool} {L : Nat → Bool} {u : Nat → Value} {j : Nat}
theorem RX.plain (h : RX W0 l m L u wx) (h5 : 5 ≠ j) (h6 : 6 ≠ j) (h10 : 10 ≠ j) (h11 : 11 ≠ j) (v : Value) : RX W0 l m (St.mark L j) (St.upd u j v) wx := by
  have a1 : St.mark L j 5 = L 5 := by simp [St.mark, h5]
  have a2 : St.mark L j 6 = L 6 := by simp [St.mark, h6]
  have a3 : St.mark L j 10 = L 10 := by simp [St.mark, h10]
  have a4 : St.mark L j 11 = L 11 := by simp [St.mark, h11]
  have b1 : St.upd u j v 5 = u 5 := by simp [St.upd, h5]
  have b2 : St.upd u j v 6 = u 6 := by simp [St.upd, h6]
  have b3 : St.upd u j v 10 = u 10 := by simp [St.upd, h10]
  exact ⟨h.low, by rw [a1, a4, b1]; exact h.app, by rw [a2, a4, b2]; exact h.got, by rw [a3, a4, b3]; exact h.box, by rw [a4, b3, b2]; exact h.fin⟩
theorem RX.turn (h : RX W0 l m L u wx) (h11 : L 11 = false) (b : Below wx.heap.size wx w') : RX W0 l m L u w' := by
  refine ⟨h.low.trans (b.mono h.low.size), fun h1 h2 => (h.app h1 h2).keep b, fun h1 h2 => ?_, fun h1 h2 => ?_, fun h1 => ?_⟩
  · obtain ⟨s, e, ha⟩ := h.got h1 h2
    exact ⟨s, e, ha.keep b⟩
  · obtain ⟨n, e, hn, ho⟩ := h.box h1 h2
    exact ⟨n, e, hn, (b.block n (Array.getElem?_eq_some_iff.1 ho).1).trans ho⟩
  · rw [h11] at h1; cases h1
theorem RX.made (h : RX W0 l m L u wx) (h11 : L 11 = false) (b : Below wx.heap.size wx w') {v : Value} (hv : ArgE w' v l) : RX W0 l m (St.mark L 5) (St.upd u 5 v) w' := by
  have h := h.turn h11 b
  exact ⟨h.low, fun _ _ => by rw [show St.upd u 5 v 5 = v by simp [St.upd]]; exact hv, h.got, h.box, h.fin⟩
theorem RX.merged (h : RX W0 l m L u wx) (h11 : L 11 = false) (b : Below wx.heap.size wx w') {s : Value} (hv : ArgE w' s m.1.es) : RX W0 l m (St.mark L 6) (St.upd u 6 (.tuple #[lv m.1 s, .bool m.2])) w' := by
  have h := h.turn h11 b
  exact ⟨h.low, h.app, fun _ _ => ⟨s, by simp [St.upd], hv⟩, h.box, fun h1 => by rw [show St.mark L 6 11 = L 11 from rfl, h11] at h1; cases h1⟩
theorem RX.boxed (h : RX W0 l m L u wx) (h11 : L 11 = false) : RX W0 l m (St.mark L 10) (St.upd u 10 (.pointer (some ⟨wx.heap.size, 0, none⟩))) (wx.alloc (.cells #[.int .i64 0, .int .i64 0, .slice none 0 0] 24)) := by
  have hl := h.low.size
  have h := h.turn h11 ((Below.refl _ wx).alloc (Nat.le_refl _) (.cells #[.int .i64 0, .int .i64 0, .slice none 0 0] 24))
  exact ⟨h.low, h.app, h.got, fun _ _ => ⟨wx.heap.size, by simp [St.upd], hl, heap_alloc_new wx _⟩, fun h1 => by rw [show St.mark L 10 11 = L 11 from rfl, h11] at h1; cases h1⟩
theorem RX.store (h : RX W0 l m L u wx) {n : Nat} {s : Value} (h10 : L 10 = true) (h6 : L 6 = true) (h11 : L 11 = false) (e1 : u 10 = .pointer (some ⟨n, 0, none⟩)) (e2 : u 6 = .tuple #[lv m.1 s, .bool m.2]) :
    RX W0 l m (St.mark L 11) (St.upd u 11 undef) (((wx.setCell ⟨n, 0, none⟩ (.int .i64 m.1.base)).setCell ⟨n, 1, none⟩ (.int .i64 m.1.bt)).setCell ⟨n, 2, none⟩ s) := by
  obtain ⟨n', q1, q2, q3⟩ := h.box h10 h11
  obtain rfl : n' = n := by
    have := q1.symm.trans e1
    injection this with e3
    injection e3 with e4
    injection e4
  obtain ⟨s', p1, p2⟩ := h.got h6 h11
  obtain rfl : s' = s := by
    have := p1.symm.trans e2
    injection this with e3
    simpa [lv] using e3
  have ho := off_box q3 p2
  have hB : BoxL n' Lg.zero (.slice none 0 0) wx := ⟨(Array.getElem?_eq_some_iff.1 q3).1, ⟨by simp [World.cell?, q3, Lg.zero], by simp [World.cell?, q3, Lg.zero], by simp [World.cell?, q3]⟩, fun o => by simp [World.frozen?, q3]⟩
  exact ⟨((h.low.setCell (p := ⟨n', 0, none⟩) q2 _).setCell (p := ⟨n', 1, none⟩) q2 _).setCell (p := ⟨n', 2, none⟩) q2 _, fun _ h' => (by simp [St.mark] at h'), fun _ h' => (by simp [St.mark] at h'), fun _ h' => (by simp [St.mark] at h'),
    fun _ => ⟨n', s', e1, e2, q2, hB.put m.1 s', ((p2.set ho _).set ho _).set ho _⟩⟩
end
end Go.Proofs.YtimodohcihnoiaaDoor.Ro
