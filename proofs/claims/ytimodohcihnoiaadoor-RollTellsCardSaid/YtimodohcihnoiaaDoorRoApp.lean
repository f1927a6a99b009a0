/-
  upTo, Append, the program's; the library's Clone at entries; Slice; the document's Append. Conditions: bases from 0 to 2^40, at most 100,000 entries.
-/
import Derived.Test.YtimodohcihnoiaaDoorRoTerm
import Derived.Lib.SliceRun
namespace Go.Proofs.YtimodohcihnoiaaDoor.Ro
open Go.RowKit

/-- what a call answers that makes a roll -/
def GaveL (w : World) (r : Lg) (e : Ending) (w' : World) : Prop := ∃ s, e = .returned (lv r s) ∧ ArgE w' s r.es ∧ Below w.heap.size w w'

/-- a front part of a slice that came in, with no room behind it -/
theorem argE_front {w : World} {A : Option Addr} {n c k : Nat} {es : List En} (h : ArgE w (.slice A n c) es) (hk : k ≤ n) : ArgE w (.slice A k k) (es.take k) := by
  obtain ⟨A', c', e, hc⟩ := h.room
  injection e with e1 e2 e3
  subst e1 e2 e3
  by_cases h0 : k = 0
  · subst h0
    rw [List.take_zero]
    cases A with
    | none => exact .nil
    | some ad => exact .empty ad 0
  · obtain ⟨b, o, rfl, hb, _⟩ := h.sm.at_ (k := 0) (by omega)
    have hl : (es.take k).length = k := by simp; omega
    have := ArgE.some (w := w) b o k (es.take k) (by omega) (by
      rw [hl]
      refine ⟨_, k, by rw [hl], fun _ => ⟨b, o, rfl, hb, fun i hi => ?_⟩⟩
      have hi' : i < es.length := by omega
      obtain ⟨b', o', e', _, q0, q1⟩ := h.sm.at_ hi'
      cases e'
      rw [List.getElem_take]
      exact ⟨q0, q1⟩)
    rwa [hl] at this
/-- a part of a slice that came in, from the k-th on -/
theorem argE_behind {w : World} {b o n c k : Nat} {es : List En} (h : ArgE w (.slice (some ⟨b, o, none⟩) n c) es) (hk : k ≤ n) : ArgE w (.slice (some ⟨b, o + k * 2, none⟩) (n - k) (c - k)) (es.drop k) := by
  obtain ⟨A', c', e, hc⟩ := h.room
  injection e with e1 e2 e3
  subst e1 e2 e3
  have hl : (es.drop k).length = es.length - k := by simp
  by_cases h0 : es.length - k = 0
  · rw [h0, List.eq_nil_of_length_eq_zero (hl.trans h0)]
    exact .empty _ _
  · obtain ⟨b', o', e', hb, _⟩ := h.sm.at_ (k := 0) (by omega)
    cases e'
    have := ArgE.some (w := w) b (o + k * 2) (c - k) (es.drop k) (by omega) (by
      rw [hl]
      refine ⟨_, c - k, by rw [hl], fun _ => ⟨b, o + k * 2, rfl, hb, fun i hi => ?_⟩⟩
      have hi' : k + i < es.length := by omega
      obtain ⟨b', o', e', _, q0, q1⟩ := h.sm.at_ hi'
      cases e'
      rw [List.getElem_drop]
      rw [show o + (k + i) * 2 = o + k * 2 + i * 2 by omega] at q0 q1
      exact ⟨q0, q1⟩)
    rwa [hl] at this
theorem ArgE.none_zero {w : World} {n c : Nat} {es : List En} (h : ArgE w (.slice none n c) es) : n = 0 ∧ c = 0 := by
  cases h
  exact ⟨rfl, rfl⟩
theorem ArgE.more {w w' : World} {N : Nat} {v : Value} {es : List En} (h : ArgE w v es) (hb : Below N w w') (hN : w.heap.size ≤ N) : ArgE w' v es := h.keep (hb.mono hN)

theorem fld2 (a b : Int) (A : Option Addr) (n c : Nat) (w : World) : (Instr.field 24 (.agg #[.int .i64 a, .int .i64 b, .slice A n c]) 2).run Tryd.prog w = .ok (.slice A n c) w := by kernel_rfl
theorem box2 (w : World) (X : Obj) (r : Lg) (s : Value) : BoxL (w.heap.size + 1) r s ((w.alloc X).alloc (.cells #[.int .i64 r.base, .int .i64 r.bt, s] 24)) := by
  have := BoxL.new (w.alloc X) r s
  rwa [World.size_alloc] at this

set_option maxHeartbeats 4000000 in
set_option maxRecDepth 100000 in
theorem upTo_any (r : Lg) (A : Option Addr) (N c k : Nat) (w : World) (hs : ArgE w (.slice A N c) r.es) (hk : k ≤ N) :
    Calls Tryd.prog 48 #[lv r (.slice A N c), .int .i64 (k : Int)] w fun e w' => e = .returned (.agg #[.int .i64 r.base, .int .i64 r.bt, .slice A k k]) ∧ Below w.heap.size w w' := by
  obtain ⟨_, _, e, hc⟩ := hs.room
  injection e with e1 e2 e3
  subst e1 e3
  rw [← e2] at hc
  clear e2
  obtain ⟨base, bt, es⟩ := r
  simp only at hs ⊢
  have B0 := (BoxL.new w ⟨base, bt, es⟩ (.slice A N c)).alloc (.cells #[.int .i64 0, .int .i64 0, .slice none 0 0] 24)
  have B1 := box2 w (.cells #[.int .i64 base, .int .i64 bt, .slice A N c] 24) Lg.zero (.slice none 0 0)
  have k1 : (0 ≤ (k : Int)) = True := eq_true (by omega)
  have k2 : ((k : Int) ≤ (c : Int)) = True := eq_true (by omega)
  have k3 : ((k : Int) ≤ (k : Int)) = True := eq_true (by omega)
  have hk2 : k ≤ c := by omega
  clear hs
  unfold Lg.zero at B1
  go_enter Tryd.func48, Tryd.ntmps48
  obtain ⟨p_0, ⟨p_1, p_2, p_3⟩, p_4⟩ := _root_.id B0
  obtain ⟨q_0, ⟨q_1, q_2, q_3⟩, q_4⟩ := _root_.id B1
  go_wp2_with fail
  refine bodyPost_ret (res_box Tryd.results48 rfl (box2 w _ ⟨base, bt, es.take k⟩ (.slice A k k))) rfl ⟨rfl, (by (repeat' (first | with_reducible assumption | with_reducible exact Below.refl _ _ | with_reducible refine Below.alloc ?_ ?_ _ | with_reducible refine Below.setCell ?_ ?_ _ | with_reducible refine Below.drew ?_ | omega | (simp; done) | (simp; omega))))⟩

/-- what Append hands back: its entries lie where the roll's did, or in new cells -/
def GaveA (w : World) (r : Lg) (A : Option Addr) (N : Nat) (e : Ending) (w' : World) : Prop := ∃ v, e = .returned (lv r v) ∧ ArgE w' v r.es ∧ (v = .slice A N N ∨ New w.heap.size v) ∧ Below w.heap.size w w'
theorem GaveA.gave {w w' : World} {r : Lg} {A : Option Addr} {N : Nat} {e : Ending} (h : GaveA w r A N e w') : GaveL w r e w' := by
  obtain ⟨v, h1, h2, _, h4⟩ := h
  exact ⟨v, h1, h2, h4⟩
set_option maxHeartbeats 4000000 in
set_option maxRecDepth 100000 in
theorem append_new (r : Lg) (A : Option Addr) (N c : Nat) (v : Value) (l : List En) (w : World) (hs : ArgE w (.slice A N c) r.es) (hv : ArgE w v l) (hl : N ≤ 100000) (hl2 : l.length ≤ 100000) :
    Calls Tryd.prog 26 #[lv r (.slice A N c), v] w fun e w' => GaveA w (appL r l) A N e w' := by
  have cu := fun w' (h : Below w.heap.size w w') => upTo_any r A N c N w' (hs.keep h) (Nat.le_refl _)
  have hvk := fun w' (h : Below w.heap.size w w') => hv.keep h
  have hfr := fun w' (h : Below w.heap.size w w') => argE_front (hs.keep h) (Nat.le_refl N)
  have hlen : r.es.length = N := by obtain ⟨_, _, e, _⟩ := hs.room; injection e with e1 e2 e3; exact e2.symm
  have hoff : ∀ j, w.heap.size ≤ j → Off j (.slice A N N) := fun j hj b o k c' e hk => by
    cases e
    have hx := hs.sm.off hj
    exact hx b o N c rfl hk
  obtain ⟨base, bt, es⟩ := r
  simp only [appL] at cu hfr hlen ⊢
  rw [List.take_of_length_le (Nat.le_of_eq hlen)] at hfr
  have HN := Lib.hid hlen
  obtain ⟨M, hM⟩ : ∃ M, (es ++ l).length = M := ⟨_, rfl⟩
  have HM := Lib.hid hM
  have hb0 : Below w.heap.size w ((w.alloc (.cells #[.int .i64 base, .int .i64 bt, .slice A N c] 24)).alloc (.cells #[.int .i64 0, .int .i64 0, .slice none 0 0] 24)) := (by (repeat' (first | with_reducible assumption | with_reducible exact Below.refl _ _ | with_reducible refine Below.alloc ?_ ?_ _ | with_reducible refine Below.setCell ?_ ?_ _ | with_reducible refine Below.drew ?_ | omega | (simp; done) | (simp; omega))))
  have B0 := (BoxL.new w ⟨base, bt, es⟩ (.slice A N c)).alloc (.cells #[.int .i64 0, .int .i64 0, .slice none 0 0] 24)
  have B1 := box2 w (.cells #[.int .i64 base, .int .i64 bt, .slice A N c] 24) Lg.zero (.slice none 0 0)
  clear hs hv hlen hM
  go_enter Tryd.func26, Tryd.ntmps26
  obtain ⟨p_0, ⟨p_1, p_2, p_3⟩, p_4⟩ := _root_.id B0
  go_wp2_with fail
  refine (cu _ hb0).mono ?_
  rintro e w1 ⟨rfl, b1⟩
  have hb1 := hb0.trans (b1.mono hb0.size)
  have C0 := B0.keep b1
  have C1 := B1.keep b1
  have hz1 : w.heap.size + 1 < w1.heap.size := C1.1
  clear p_0 p_1 p_2 p_3 p_4
  clear B0 B1 b1 cu
  have ha1 := hfr _ hb1
  have hse := ha1.sm
  have hfd := fun w => fld2 base bt A N N w
  go_wp2_with (at_builtin; refine wpList_append_full rfl _ _ rfl A es N rfl hse (fun h => by subst h; exact ha1.none_zero.1) _ l rfl (hvk _ hb1) (by have := HN.out; omega) ?_)
  intro v' w2 ha2 hnew b2
  have hb2 := hb1.trans (b2.mono hb1.size)
  have D0 := C0.keep b2
  have D1 := C1.keep b2
  have hz2 : w.heap.size + 1 < w2.heap.size := D1.1
  obtain ⟨A2, c2, hv2, _⟩ := ha2.room
  rw [HM.out] at hv2
  subst hv2
  have hof0 : Off w.heap.size (.slice A2 M c2) := by
    rcases hnew with h | h
    · rw [h]; exact hoff _ (Nat.le_refl _)
    · exact h.off (by omega)
  have hof1 : Off (w.heap.size + 1) (.slice A2 M c2) := by
    rcases hnew with h | h
    · rw [h]; exact hoff _ (by omega)
    · exact h.off (by omega)
  have ha3 := fun u => (ha2.set (n := w.heap.size) (i := 2) hof0 u)
  have HA := Lib.hid (fun (u u0 u1 u2 : Value) => (((ha3 u).set (n := w.heap.size + 1) (i := 0) hof1 u0).set (n := w.heap.size + 1) (i := 1) hof1 u1).set (n := w.heap.size + 1) (i := 2) hof1 u2)
  have HNEW : Hid (Value.slice A2 M c2 = Value.slice A N N ∨ New w.heap.size (.slice A2 M c2)) := Lib.hid (hnew.imp id fun h => h.more (by omega))
  clear C0 C1 b2 ha1 hse hof0 hof1 ha2 ha3 hnew hoff hfr hvk
  obtain ⟨p_0, ⟨p_1, p_2, p_3⟩, p_4⟩ := _root_.id D0
  obtain ⟨q_0, ⟨q_1, q_2, q_3⟩, q_4⟩ := _root_.id D1
  go_wp2_with fail
  have hbx := (((hb2.setCell (p := ⟨w.heap.size, 2, none⟩) (Nat.le_refl _) (.slice A2 M c2)).setCell (p := ⟨w.heap.size + 1, 0, none⟩) (show w.heap.size ≤ w.heap.size + 1 by omega) (.int .i64 base)).setCell (p := ⟨w.heap.size + 1, 1, none⟩) (show w.heap.size ≤ w.heap.size + 1 by omega) (.int .i64 bt)).setCell (p := ⟨w.heap.size + 1, 2, none⟩) (show w.heap.size ≤ w.heap.size + 1 by omega) (.slice A2 M c2)
  exact bodyPost_ret (res_box Tryd.results26 rfl ((D1.other (a := ⟨w.heap.size, 2, none⟩) (by simp) (.slice A2 M c2)).put ⟨base, bt, es ++ l⟩ (.slice A2 M c2))) rfl ⟨_, rfl, HA.out _ _ _ _, HNEW.out, hbx⟩
theorem append_any (r : Lg) (s v : Value) (l : List En) (w : World) (hs : ArgE w s r.es) (hv : ArgE w v l) (hl : r.es.length ≤ 100000) (hl2 : l.length ≤ 100000) :
    Calls Tryd.prog 26 #[lv r s, v] w fun e w' => GaveL w (appL r l) e w' := by
  obtain ⟨A, c, rfl, _⟩ := hs.room
  exact (append_new r A r.es.length c v l w hs hv hl hl2).mono fun e w' h => h.gave
end Go.Proofs.YtimodohcihnoiaaDoor.Ro
