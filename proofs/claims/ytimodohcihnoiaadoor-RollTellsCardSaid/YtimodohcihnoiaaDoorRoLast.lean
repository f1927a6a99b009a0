/-
  The last entry, a place, a term, who is not behind: the program's Last, place, Term, Newer, the document's Last, Term, Newer. Conditions: bases from 0 to 2^40, at most 1,000,000 entries.
-/
import Derived.Test.YtimodohcihnoiaaDoorRoBool
import Derived.BigQuiet
namespace Go.Proofs.YtimodohcihnoiaaDoor.Ro
open Go.RowKit

/-- what is asked of a roll that comes in -/
structure FitL (r : Lg) : Prop where
  b0 : 0 ≤ r.base
  b1 : r.base ≤ 1099511627776
  n : r.es.length ≤ 1000000
theorem FitL.of {r : Lg} (h : isL r = true) (hn : r.es.length ≤ 1000000) : FitL r := by
  obtain ⟨h1, _, _, _⟩ := (isL_iff r).1 h
  exact ⟨h1.1, h1.2, hn⟩
def inI (n : Int) : Prop := -9223372036854775808 ≤ n ∧ n ≤ 9223372036854775807

set_option maxHeartbeats 4000000 in
set_option maxRecDepth 100000 in
theorem last_any (r : Lg) (s : Value) (w : World) (hs : SE w w.heap.size s r.es) (f : FitL r) :
    Calls Tryd.prog 19 #[lv r s] w fun e w' => e = .returned (.tuple #[.int .i64 (lastI r), .int .i64 (lastT r)]) ∧ Below w.heap.size w w' := by
  obtain ⟨A, c, rfl⟩ := hs.form
  obtain ⟨f1, f2, f3⟩ := f
  obtain ⟨base, bt, es⟩ := r
  simp only at f1 f2 f3 hs ⊢
  obtain ⟨N, hN⟩ : ∃ N, es.length = N := ⟨_, rfl⟩
  have B0 := BoxL.new w ⟨base, bt, es⟩ (.slice A N c)
  have e1 : lastI ⟨base, bt, es⟩ = base + N := by unfold lastI; simp only [hN]
  rw [e1]
  by_cases h0 : N = 0
  · have e2 : lastT ⟨base, bt, es⟩ = bt := lastT_nil (by rw [hN]; exact h0)
    rw [e2, hN]
    subst h0
    rw [show base + ((0 : Nat) : Int) = base by omega]
    clear hs hN e1 e2
    go_enter Tryd.func19, Tryd.ntmps19
    obtain ⟨p_0, ⟨p_1, p_2, p_3⟩, p_4⟩ := _root_.id B0
    go_wp2_with fail
    go_quiet (fail)
    go_wp2_with fail
    go_ret2
    exact ⟨rfl, below_drewN (by (repeat' (first | with_reducible assumption | with_reducible exact Below.refl _ _ | with_reducible refine Below.alloc ?_ ?_ _ | with_reducible refine Below.setCell ?_ ?_ _ | with_reducible refine Below.drew ?_ | omega | (simp; done) | (simp; omega)))) _⟩
  · obtain ⟨n, hn⟩ : ∃ n, n + 1 = N := ⟨N - 1, by omega⟩
    have hnx : n < es.length := by omega
    have e2 : lastT ⟨base, bt, es⟩ = (es[n]).1 := lastT_at (r := ⟨base, bt, es⟩) hnx (by simp only; omega)
    obtain ⟨b, o, rfl, hb, q0, q1⟩ := hs.at_ hnx
    rw [e2, hN]
    obtain ⟨⟨t, x⟩, hx⟩ : ∃ x, es[n] = x := ⟨_, rfl⟩
    rw [hx] at q0 q1 ⊢
    simp only at q0 q1 ⊢
    have k1 : ((N : Int) == 0) = false := by simp; omega
    have k2 : ((N : Int) = 0) = False := eq_false (by omega)
    have k3 : IntKind.i64.wrap ((N : Int) - 1) = (n : Int) := by rw [IntKind.wrap_i64] <;> omega
    have k4 : (0 ≤ (n : Int)) = True := eq_true (by omega)
    have k5 : ((n : Int) < (N : Int)) = True := eq_true (by omega)
    have k6 : IntKind.i64.wrap (base + (N : Int)) = base + (N : Int) := by rw [IntKind.wrap_i64] <;> omega
    clear hs hN e1 e2 hx hnx hn h0 f1 f2 f3
    go_enter Tryd.func19, Tryd.ntmps19
    obtain ⟨p_0, ⟨p_1, p_2, p_3⟩, p_4⟩ := _root_.id B0
    go_wp2_with fail
    go_quiet (fail)
    go_wp2_with fail
    go_ret2
    exact ⟨rfl, below_drewN (by (repeat' (first | with_reducible assumption | with_reducible exact Below.refl _ _ | with_reducible refine Below.alloc ?_ ?_ _ | with_reducible refine Below.setCell ?_ ?_ _ | with_reducible refine Below.drew ?_ | omega | (simp; done) | (simp; omega)))) _⟩

set_option maxHeartbeats 4000000 in
set_option maxRecDepth 100000 in
theorem rlast_any (r : Lg) (s : Value) (w : World) (hs : SE w w.heap.size s r.es) (f : FitL r) :
    Calls Tryd.prog 20 #[lv r s] w fun e w' => e = .returned (.tuple #[.int .i64 (lastI r), .int .i64 (lastT r)]) ∧ Below w.heap.size w w' := by
  obtain ⟨A, c, rfl⟩ := hs.form
  obtain ⟨f1, f2, f3⟩ := f
  obtain ⟨base, bt, es⟩ := r
  simp only at f1 f2 f3 hs ⊢
  obtain ⟨N, hN⟩ : ∃ N, es.length = N := ⟨_, rfl⟩
  have B0 := BoxL.new w ⟨base, bt, es⟩ (.slice A N c)
  have e1 : lastI ⟨base, bt, es⟩ = base + N := by unfold lastI; simp only [hN]
  rw [e1]
  by_cases h0 : N = 0
  · have e2 : lastT ⟨base, bt, es⟩ = bt := lastT_nil (by rw [hN]; exact h0)
    rw [e2, hN]
    subst h0
    rw [show base + ((0 : Nat) : Int) = base by omega]
    clear hs hN e1 e2
    go_enter Tryd.func20, Tryd.ntmps20
    obtain ⟨p_0, ⟨p_1, p_2, p_3⟩, p_4⟩ := _root_.id B0
    go_wp2_with fail
    go_quiet (fail)
    go_wp2_with fail
    go_ret2
    exact ⟨rfl, below_drewN (by (repeat' (first | with_reducible assumption | with_reducible exact Below.refl _ _ | with_reducible refine Below.alloc ?_ ?_ _ | with_reducible refine Below.setCell ?_ ?_ _ | with_reducible refine Below.drew ?_ | omega | (simp; done) | (simp; omega)))) _⟩
  · obtain ⟨n, hn⟩ : ∃ n, n + 1 = N := ⟨N - 1, by omega⟩
    have hnx : n < es.length := by omega
    have e2 : lastT ⟨base, bt, es⟩ = (es[n]).1 := lastT_at (r := ⟨base, bt, es⟩) hnx (by simp only; omega)
    obtain ⟨b, o, rfl, hb, q0, q1⟩ := hs.at_ hnx
    rw [e2, hN]
    obtain ⟨⟨t, x⟩, hx⟩ : ∃ x, es[n] = x := ⟨_, rfl⟩
    rw [hx] at q0 q1 ⊢
    simp only at q0 q1 ⊢
    have k1 : ((N : Int) == 0) = false := by simp; omega
    have k2 : ((N : Int) = 0) = False := eq_false (by omega)
    have k3 : IntKind.i64.wrap ((N : Int) - 1) = (n : Int) := by rw [IntKind.wrap_i64] <;> omega
    have k4 : (0 ≤ (n : Int)) = True := eq_true (by omega)
    have k5 : ((n : Int) < (N : Int)) = True := eq_true (by omega)
    have k6 : IntKind.i64.wrap (base + (N : Int)) = base + (N : Int) := by rw [IntKind.wrap_i64] <;> omega
    clear hs hN e1 e2 hx hnx hn h0 f1 f2 f3
    go_enter Tryd.func20, Tryd.ntmps20
    obtain ⟨p_0, ⟨p_1, p_2, p_3⟩, p_4⟩ := _root_.id B0
    go_wp2_with fail
    go_quiet (fail)
    go_wp2_with fail
    go_ret2
    exact ⟨rfl, below_drewN (by (repeat' (first | with_reducible assumption | with_reducible exact Below.refl _ _ | with_reducible refine Below.alloc ?_ ?_ _ | with_reducible refine Below.setCell ?_ ?_ _ | with_reducible refine Below.drew ?_ | omega | (simp; done) | (simp; omega)))) _⟩

/-- what a place is answered -/
def placeV : Option Nat → Value
  | some k => .tuple #[.int .i64 (k : Int), .bool true]
  | none => .tuple #[.int .i64 0, .bool false]
set_option maxHeartbeats 4000000 in
set_option maxRecDepth 100000 in
theorem place_any (r : Lg) (s : Value) (i : Int) (w : World) (hs : SE w w.heap.size s r.es) (f : FitL r) (hi : inI i) :
    Calls Tryd.prog 46 #[lv r s, .int .i64 i] w fun e w' => e = .returned (placeV (placeL r i)) ∧ Below w.heap.size w w' := by
  obtain ⟨A, c, rfl⟩ := hs.form
  obtain ⟨f1, f2, f3⟩ := f
  obtain ⟨i1, i2⟩ := hi
  obtain ⟨base, bt, es⟩ := r
  simp only at f1 f2 f3 ⊢
  obtain ⟨q, hq⟩ : ∃ q, placeL ⟨base, bt, es⟩ i = q := ⟨_, rfl⟩
  rw [hq]
  obtain ⟨N, hN⟩ : ∃ N, es.length = N := ⟨_, rfl⟩
  have B0 := BoxL.new w ⟨base, bt, es⟩ (.slice A N c)
  rw [hN] at f3 ⊢
  clear hs
  by_cases h1 : i ≤ base
  · have hr : q = none := by rw [← hq]; exact placeL_none (.inl h1)
    subst hr
    have g1 : (i ≤ base) = True := eq_true h1
    clear hq hN h1 i1 i2 f1 f2 f3
    go_enter Tryd.func46, Tryd.ntmps46
    obtain ⟨p_0, ⟨p_1, p_2, p_3⟩, p_4⟩ := _root_.id B0
    go_wp2_with fail
    go_ret2
    exact ⟨rfl, (by (repeat' (first | with_reducible assumption | with_reducible exact Below.refl _ _ | with_reducible refine Below.alloc ?_ ?_ _ | with_reducible refine Below.setCell ?_ ?_ _ | with_reducible refine Below.drew ?_ | omega | (simp; done) | (simp; omega))))⟩
  · have g1 : (i ≤ base) = False := eq_false h1
    obtain ⟨k, hk⟩ : ∃ k : Nat, i = base + 1 + k := ⟨(i - base - 1).toNat, by omega⟩
    subst hk
    have u1 : IntKind.u64.wrap (base + 1 + (k : Int)) = base + 1 + (k : Int) := by rw [IntKind.wrap_u64] <;> omega
    have u2 : IntKind.u64.wrap base = base := by rw [IntKind.wrap_u64] <;> omega
    have u3 : IntKind.u64.wrap (base + 1 + (k : Int) - base) = (k : Int) + 1 := by rw [IntKind.wrap_u64] <;> omega
    have u4 : IntKind.u64.wrap ((k : Int) + 1 - 1) = (k : Int) := by rw [IntKind.wrap_u64] <;> omega
    have u5 : IntKind.u64.wrap (N : Int) = (N : Int) := by rw [IntKind.wrap_u64] <;> omega
    have u7 : IntKind.u64.wrap (k : Int) = (k : Int) := by rw [IntKind.wrap_u64] <;> omega
    have u6 : IntKind.i64.wrap (k : Int) = (k : Int) := by rw [IntKind.wrap_i64] <;> omega
    by_cases h2 : k < N
    · have hr : q = some k := by rw [← hq]; exact placeL_is (r := ⟨base, bt, es⟩) (by simp only [hN]; exact h2) rfl
      subst hr
      have g2 : ((N : Int) ≤ (k : Int)) = False := eq_false (by omega)
      clear hq hN h1 h2 i1 i2 f1 f2 f3
      go_enter Tryd.func46, Tryd.ntmps46
      obtain ⟨p_0, ⟨p_1, p_2, p_3⟩, p_4⟩ := _root_.id B0
      go_wp2_with fail
      go_ret2
      exact ⟨rfl, (by (repeat' (first | with_reducible assumption | with_reducible exact Below.refl _ _ | with_reducible refine Below.alloc ?_ ?_ _ | with_reducible refine Below.setCell ?_ ?_ _ | with_reducible refine Below.drew ?_ | omega | (simp; done) | (simp; omega))))⟩
    · have hr : q = none := by rw [← hq]; exact placeL_none (.inr (by simp only [hN]; omega))
      subst hr
      have g2 : ((N : Int) ≤ (k : Int)) = True := eq_true (by omega)
      clear hq hN h1 h2 i1 i2 f1 f2 f3
      go_enter Tryd.func46, Tryd.ntmps46
      obtain ⟨p_0, ⟨p_1, p_2, p_3⟩, p_4⟩ := _root_.id B0
      go_wp2_with fail
      go_ret2
      exact ⟨rfl, (by (repeat' (first | with_reducible assumption | with_reducible exact Below.refl _ _ | with_reducible refine Below.alloc ?_ ?_ _ | with_reducible refine Below.setCell ?_ ?_ _ | with_reducible refine Below.drew ?_ | omega | (simp; done) | (simp; omega))))⟩
end Go.Proofs.YtimodohcihnoiaaDoor.Ro
