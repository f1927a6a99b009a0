/-
  The library's Clone at entries; Slice, the program's. Conditions: bases from 0 to 2^40, at most 100,000 entries; numbers such as a program can hold.
-/
import Derived.Test.YtimodohcihnoiaaDoorRoApp
import Derived.Lib.SliceRun
import Derived.Lib.MinMax
namespace Go.Proofs.YtimodohcihnoiaaDoor.Ro
open Go.RowKit

set_option maxHeartbeats 2000000 in
theorem clone_any (v : Value) (ms : List En) (w : World) (hv : ArgE w v ms) (hl : ms.length ≤ 100000) :
    Calls Tryd.prog 47 #[v] w fun e w' => ∃ v', e = .returned v' ∧ OwnE w' w.heap.size v' ms ∧ Below w.heap.size w w' := by
  have q : ∀ (w : World) (a : Option Addr) (n c n' c' : Nat), (binOp .eql 22 (.slice a n c) (.slice none n' c')).run Tryd.prog w = .ok (.bool a.isNone) w := fun w a n c n' c' => Lib.run_eql_slice_nil w _ _ a n c n' c' Tryd.underlying22
  cases hv with
  | nil =>
    go_enter Tryd.func47, Tryd.ntmps47
    go_wp2_with fail
    go_ret
    exact ⟨_, rfl, ⟨rfl, .inl ⟨rfl, rfl⟩⟩, Below.refl _ _⟩
  | some b o c ms hc h =>
    go_enter Tryd.func47, Tryd.ntmps47
    go_wp2_with (at_builtin; refine wpList_append_es rfl _ _ rfl w.heap.size _ [] rfl (own_empty w) (by simp) _ ms rfl (.some b o c ms hc ((h.below ((Below.refl _ w).alloc (Nat.le_refl _) _)).more (by simp))) (by simp; omega) ?_)
    intro v' w1 hown hb1 _
    go_wp2_with fail
    go_ret
    exact ⟨_, rfl, by simpa using hown, ((Below.refl _ w).alloc (Nat.le_refl _) _).trans hb1⟩
  | empty a c =>
    go_enter Tryd.func47, Tryd.ntmps47
    go_wp2_with (at_builtin; refine wpList_append_es rfl _ _ rfl w.heap.size _ [] rfl (own_empty w) (by simp) _ [] rfl (.empty a c) (by simp) ?_)
    intro v' w1 hown hb1 _
    go_wp2_with fail
    go_ret
    exact ⟨_, rfl, by simpa using hown, ((Below.refl _ w).alloc (Nat.le_refl _) _).trans hb1⟩


/-- a part of a slice that came in, from the k-th on to ahead of the j-th -/
theorem argE_part {w : World} {b o n c k j : Nat} {es : List En} (h : ArgE w (.slice (some ⟨b, o, none⟩) n c) es) (hk : k ≤ j) (hj : j ≤ n) : ArgE w (.slice (some ⟨b, o + k * 2, none⟩) (j - k) (c - k)) ((es.drop k).take (j - k)) := by
  obtain ⟨A', c', e, hc⟩ := h.room
  injection e with e1 e2 e3
  subst e1 e2 e3
  have hl : ((es.drop k).take (j - k)).length = j - k := by simp; omega
  by_cases h0 : j - k = 0
  · rw [h0, List.take_zero]
    exact .empty _ _
  · obtain ⟨b', o', e', hb, _⟩ := h.sm.at_ (k := 0) (by omega)
    cases e'
    have := ArgE.some (w := w) b (o + k * 2) (c - k) ((es.drop k).take (j - k)) (by omega) (by
      rw [hl]
      refine ⟨_, c - k, by rw [hl], fun _ => ⟨b, o + k * 2, rfl, hb, fun i hi => ?_⟩⟩
      have hi' : k + i < es.length := by omega
      obtain ⟨b', o', e', _, q0, q1⟩ := h.sm.at_ hi'
      cases e'
      rw [List.getElem_take, List.getElem_drop]
      rw [show o + (k + i) * 2 = o + k * 2 + i * 2 by omega] at q0 q1
      exact ⟨q0, q1⟩)
    rwa [hl] at this

/-- what a call answers that makes entries -/
def GaveE (w : World) (l : List En) (e : Ending) (w' : World) : Prop := ∃ v, e = .returned v ∧ OwnE w' w.heap.size v l ∧ Below w.heap.size w w'
theorem GaveE.nil {w w' : World} (h : Below w.heap.size w w') : GaveE w [] (.returned (.slice none 0 0)) w' := ⟨_, rfl, ⟨rfl, .inl ⟨rfl, rfl⟩⟩, h⟩
set_option maxHeartbeats 4000000 in
set_option maxRecDepth 100000 in
theorem slice_any (r : Lg) (s : Value) (f lim : Int) (w : World) (hs : ArgE w s r.es) (ft : FitL r) (hn : r.es.length ≤ 100000) (hf : inI f) (hl : inI lim) :
    Calls Tryd.prog 24 #[lv r s, .int .i64 f, .int .i64 lim] w fun e w' => GaveE w (sliceL r f lim) e w' := by
  obtain ⟨A, c, rfl, hc⟩ := hs.room
  obtain ⟨f1, f2⟩ := hf
  obtain ⟨l1, l2⟩ := hl
  have b0 := ft.b0
  have b1 := ft.b1
  have cp := fun i w' (hi : inI i) (h : Below w.heap.size w w') => place_any r (.slice A r.es.length c) i w' (hs.keep h).sm ft hi
  have hsk := fun w' (h : Below w.heap.size w w') => hs.keep h
  obtain ⟨base, bt, es⟩ := r
  simp only at b0 b1 cp hsk hn hc hs ⊢
  obtain ⟨m, hm⟩ : ∃ m, max f (base + 1) = m := ⟨_, rfl⟩
  have j0 : IntKind.i64.wrap (base + 1) = base + 1 := by rw [IntKind.wrap_i64] <;> omega
  obtain ⟨q, hq⟩ : ∃ q, (f - base - 1).toNat = q := ⟨_, rfl⟩
  have hmq : m = base + 1 + q := by omega
  have hmi : inI m := ⟨by omega, by omega⟩
  have cp2 := fun w' h => cp m w' hmi h
  have hsl : sliceL ⟨base, bt, es⟩ f lim = (es.drop q).take lim.toNat := by unfold sliceL; simp only [hq]
  rw [hsl]
  obtain ⟨N, hN⟩ : ∃ N, es.length = N := ⟨_, rfl⟩
  have B0 := BoxL.new w ⟨base, bt, es⟩ (.slice A N c)
  have hb0 : Below w.heap.size w (w.alloc (.cells #[.int .i64 base, .int .i64 bt, .slice A N c] 24)) := (Below.refl _ w).alloc (Nat.le_refl _) _
  by_cases h1 : N ≤ q
  · have hp : placeL ⟨base, bt, es⟩ m = none := placeL_none (.inr (by simp only [hN]; omega))
    rw [hp] at cp2
    simp only [placeV] at cp2
    rw [List.drop_of_length_le (by omega), List.take_nil]
    rw [hN] at cp2 ⊢
    clear cp hsk hs ft hN hc hp hsl hq hmq hmi h1 b0 b1 f1 f2 l1 l2
    go_enter Tryd.func24, Tryd.ntmps24
    obtain ⟨p_0, ⟨p_1, p_2, p_3⟩, p_4⟩ := _root_.id B0
    go_wp2_with fail
    refine (cp2 _ hb0).mono ?_
    rintro e w1 ⟨rfl, b1⟩
    have hb1 := hb0.trans (b1.mono hb0.size)
    clear p_0 p_1 p_2 p_3 p_4
    clear b1
    go_wp2_with fail
    go_ret
    exact GaveE.nil hb1
  have hp : placeL ⟨base, bt, es⟩ m = some q := placeL_is (r := ⟨base, bt, es⟩) (by simp only [hN]; omega) hmq
  rw [hp] at cp2
  simp only [placeV] at cp2
  by_cases h2 : lim < 1
  · rw [show lim.toNat = 0 by omega, List.take_zero]
    have g2 : (lim < 1) = True := eq_true h2
    rw [hN] at cp2 ⊢
    clear cp hsk hs ft hN hc hp hsl hq hmq hmi h1 h2 b0 b1 f1 f2 l1 l2
    go_enter Tryd.func24, Tryd.ntmps24
    obtain ⟨p_0, ⟨p_1, p_2, p_3⟩, p_4⟩ := _root_.id B0
    go_wp2_with fail
    refine (cp2 _ hb0).mono ?_
    rintro e w1 ⟨rfl, b1⟩
    have hb1 := hb0.trans (b1.mono hb0.size)
    clear p_0 p_1 p_2 p_3 p_4
    clear b1
    go_wp2_with fail
    go_ret
    exact GaveE.nil hb1
  have g2 : (lim < 1) = False := eq_false h2
  obtain ⟨b, o, rfl, -⟩ := hs.sm.at_ (k := 0) (by omega)
  obtain ⟨j, hj⟩ : ∃ j, min lim.toNat (N - q) = j := ⟨_, rfl⟩
  obtain ⟨E, hE⟩ : ∃ E, q + j = E := ⟨_, rfl⟩
  have hle : (es.drop q).take lim.toNat = (es.drop q).take j := by
    rw [← hj]
    by_cases h : lim.toNat ≤ N - q
    · rw [Nat.min_eq_left h]
    · rw [Nat.min_eq_right (by omega), List.take_of_length_le (by simp; omega), List.take_of_length_le (by simp; omega)]
  rw [hle]
  have j1 : IntKind.i64.wrap ((N : Int) - (q : Int)) = ((N - q : Nat) : Int) := by rw [IntKind.wrap_i64] <;> omega
  have j2 : min lim ((N - q : Nat) : Int) = (j : Int) := by omega
  have j3 : IntKind.i64.wrap ((q : Int) + (j : Int)) = (E : Int) := by rw [IntKind.wrap_i64] <;> omega
  have k0 : (0 ≤ (q : Int)) = True := eq_true (by omega)
  have k1 : ((q : Int) ≤ (E : Int)) = True := eq_true (by omega)
  have k2 : ((E : Int) ≤ (c : Int)) = True := eq_true (by omega)
  have k3 : (c = q) = False := eq_false (by omega)
  have hqE : q ≤ E := by omega
  have hEc : E ≤ c := by omega
  have hEN : E ≤ N := by omega
  have hEq : E - q = j := by omega
  rw [hN] at cp2 hsk ⊢
  have hpart := fun w' h => argE_part (hsk w' h) hqE hEN
  have cc := fun w' h => clone_any _ _ w' (hpart w' h) (by simp; omega)
  rw [hEq] at cc
  have HN := Lib.hid hN
  clear cp hsk hs ft hN hc hp hsl hq hmq hmi h1 h2 b0 b1 f1 f2 l1 l2 hle hpart hj hE
  go_enter Tryd.func24, Tryd.ntmps24
  obtain ⟨p_0, ⟨p_1, p_2, p_3⟩, p_4⟩ := _root_.id B0
  go_wp2_with fail
  refine (cp2 _ hb0).mono ?_
  rintro e w1 ⟨rfl, b1⟩
  have hb1 := hb0.trans (b1.mono hb0.size)
  have B1 := B0.keep b1
  clear p_0 p_1 p_2 p_3 p_4
  clear b1 B0
  obtain ⟨p_0, ⟨p_1, p_2, p_3⟩, p_4⟩ := _root_.id B1
  go_wp2_with fail
  refine (cc _ hb1).mono ?_
  rintro e w2 ⟨v, rfl, ho, b2⟩
  go_wp2_with fail
  go_ret
  exact ⟨_, rfl, own_base ho hb1.size, hb1.trans (b2.mono hb1.size)⟩
end Go.Proofs.YtimodohcihnoiaaDoor.Ro
