/-
  Terms, and who is not behind: the program's Term, Newer; the document's Term, Newer. Conditions: bases from 0 to 2^40, at most 1,000,000 entries; numbers such as a program can hold.
-/
import Derived.Test.YtimodohcihnoiaaDoorRoDoc
namespace Go.Proofs.YtimodohcihnoiaaDoor.Ro
open Go.RowKit

/-- what a term is answered -/
def termV : Option Int → Value
  | some t => .tuple #[.int .i64 t, .bool true]
  | none => .tuple #[.int .i64 0, .bool false]

set_option maxHeartbeats 4000000 in
set_option maxRecDepth 100000 in
theorem term_any (r : Lg) (s : Value) (i : Int) (w : World) (hs : SE w w.heap.size s r.es) (f : FitL r) (hi : inI i) :
    Calls Tryd.prog 21 #[lv r s, .int .i64 i] w fun e w' => e = .returned (termV (termL r i)) ∧ Below w.heap.size w w' := by
  have cp := fun w' (h : Below w.heap.size w w') => place_any r s i w' ((hs.below h).more h.size) f hi
  have kv := fun w' (h : Below w.heap.size w w') => (hs.below h).more h.size
  obtain ⟨A, c, rfl⟩ := hs.form
  obtain ⟨base, bt, es⟩ := r
  simp only at cp kv ⊢
  obtain ⟨N, hN⟩ : ∃ N, es.length = N := ⟨_, rfl⟩
  have B0 := BoxL.new w ⟨base, bt, es⟩ (.slice A N c)
  by_cases h1 : i = base
  · subst h1
    rw [show termL ⟨i, bt, es⟩ i = some bt from termL_base ⟨i, bt, es⟩, hN]
    have g1 : (i == i) = true := by simp
    clear cp kv hs hN f
    go_enter Tryd.func21, Tryd.ntmps21
    obtain ⟨p_0, ⟨p_1, p_2, p_3⟩, p_4⟩ := _root_.id B0
    go_wp2_with fail
    go_ret2
    exact ⟨rfl, (by (repeat' (first | with_reducible assumption | with_reducible exact Below.refl _ _ | with_reducible refine Below.alloc ?_ ?_ _ | with_reducible refine Below.setCell ?_ ?_ _ | with_reducible refine Below.drew ?_ | omega | (simp; done) | (simp; omega))))⟩
  · have g1 : (i == base) = false := by simpa using h1
    have g2 : (i = base) = False := eq_false h1
    have hb0 : Below w.heap.size w (w.alloc (.cells #[.int .i64 base, .int .i64 bt, .slice A N c] 24)) := (Below.refl _ w).alloc (Nat.le_refl _) _
    cases hp : placeL ⟨base, bt, es⟩ i with
    | none =>
      rw [show termL ⟨base, bt, es⟩ i = none by unfold termL; rw [if_neg h1, hp]]
      rw [hp] at cp
      simp only [placeV] at cp
      rw [hN] at cp ⊢
      clear kv hs hN f hp h1
      go_enter Tryd.func21, Tryd.ntmps21
      obtain ⟨p_0, ⟨p_1, p_2, p_3⟩, p_4⟩ := _root_.id B0
      go_wp2_with fail
      refine (cp _ hb0).mono ?_
      rintro e w1 ⟨rfl, b1⟩
      have hb1 := hb0.trans (b1.mono hb0.size)
      clear p_0 p_1 p_2 p_3 p_4
      clear b1
      go_wp2_with fail
      go_ret2
      exact ⟨rfl, hb1⟩
    | some k =>
      obtain ⟨hk, -⟩ := placeL_some hp
      simp only at hk
      obtain ⟨b, o, rfl, hb, q0, q1⟩ := hs.at_ hk
      rw [show termL ⟨base, bt, es⟩ i = some (es[k]).1 by unfold termL; rw [if_neg h1, hp]; simp only; rw [List.getElem?_eq_getElem hk]; rfl]
      obtain ⟨⟨x, y⟩, hx⟩ : ∃ x, es[k] = x := ⟨_, rfl⟩
      rw [hx] at q0 q1 ⊢
      simp only at q0 q1 ⊢
      rw [hp] at cp
      simp only [placeV] at cp
      rw [hN] at cp hk ⊢
      have k0 : (0 ≤ (k : Int)) = True := eq_true (by omega)
      have k1 : ((k : Int) < (N : Int)) = True := eq_true (by omega)
      clear kv hs hN f hp h1 hk hx
      go_enter Tryd.func21, Tryd.ntmps21
      obtain ⟨p_0, ⟨p_1, p_2, p_3⟩, p_4⟩ := _root_.id B0
      go_wp2_with fail
      refine (cp _ hb0).mono ?_
      rintro e w1 ⟨rfl, b1⟩
      have hb1 := hb0.trans (b1.mono hb0.size)
      have B1 := B0.keep b1
      clear p_0 p_1 p_2 p_3 p_4
      have q2 := (hb1.cell (p := ⟨b, o + k * 2, none⟩) hb).trans q0
      clear b1 B0 q0 q1
      obtain ⟨p_0, ⟨p_1, p_2, p_3⟩, p_4⟩ := _root_.id B1
      go_wp2_with fail
      go_ret2
      exact ⟨rfl, hb1⟩

set_option maxHeartbeats 4000000 in
set_option maxRecDepth 100000 in
theorem rterm_any (r : Lg) (s : Value) (i : Int) (w : World) (hs : SE w w.heap.size s r.es) (f : FitL r) (hi : inI i) :
    Calls Tryd.prog 22 #[lv r s, .int .i64 i] w fun e w' => e = .returned (termV (termL r i)) ∧ Below w.heap.size w w' := by
  have cp := fun w' (h : Below w.heap.size w w') => rlast_any r s w' ((hs.below h).more h.size) f
  obtain ⟨f1, f2, f3⟩ := f
  obtain ⟨i1, i2⟩ := hi
  obtain ⟨A, c, rfl⟩ := hs.form
  obtain ⟨base, bt, es⟩ := r
  simp only at cp f1 f2 f3 ⊢
  obtain ⟨N, hN⟩ : ∃ N, es.length = N := ⟨_, rfl⟩
  have B0 := BoxL.new w ⟨base, bt, es⟩ (.slice A N c)
  have hb0 : Below w.heap.size w (w.alloc (.cells #[.int .i64 base, .int .i64 bt, .slice A N c] 24)) := (Below.refl _ w).alloc (Nat.le_refl _) _
  have e1 : lastI ⟨base, bt, es⟩ = base + N := by unfold lastI; simp only [hN]
  rw [e1] at cp
  obtain ⟨lt, hlt⟩ : ∃ lt, lastT ⟨base, bt, es⟩ = lt := ⟨_, rfl⟩
  rw [hlt] at cp
  obtain ⟨t, ht⟩ : ∃ t, termL ⟨base, bt, es⟩ i = t := ⟨_, rfl⟩
  rw [ht]
  by_cases h1 : i < base
  · have hr : t = none := by rw [← ht]; exact termL_out (.inl h1)
    subst hr
    have g1 : (i < base) = True := eq_true h1
    rw [hN] at cp ⊢
    clear hs hN ht h1 hlt e1 i1 i2 f1 f2 f3
    go_enter Tryd.func22, Tryd.ntmps22
    obtain ⟨p_0, ⟨p_1, p_2, p_3⟩, p_4⟩ := _root_.id B0
    go_wp2_with fail
    refine (cp _ hb0).mono ?_
    rintro e w1 ⟨rfl, b1⟩
    have hb1 := hb0.trans (b1.mono hb0.size)
    have B1 := B0.keep b1
    clear p_0 p_1 p_2 p_3 p_4
    clear b1 B0
    obtain ⟨p_0, ⟨p_1, p_2, p_3⟩, p_4⟩ := _root_.id B1
    go_wp2_with fail
    go_ret2
    exact ⟨rfl, hb1⟩
  have g1 : (i < base) = False := eq_false h1
  by_cases h2 : base + (N : Int) < i
  · have hr : t = none := by rw [← ht]; exact termL_out (.inr (by simp only [hN]; exact h2))
    subst hr
    have g2 : (base + (N : Int) < i) = True := eq_true h2
    rw [hN] at cp ⊢
    clear hs hN ht h1 h2 hlt e1 i1 i2 f1 f2 f3
    go_enter Tryd.func22, Tryd.ntmps22
    obtain ⟨p_0, ⟨p_1, p_2, p_3⟩, p_4⟩ := _root_.id B0
    go_wp2_with fail
    refine (cp _ hb0).mono ?_
    rintro e w1 ⟨rfl, b1⟩
    have hb1 := hb0.trans (b1.mono hb0.size)
    have B1 := B0.keep b1
    clear p_0 p_1 p_2 p_3 p_4
    clear b1 B0
    obtain ⟨p_0, ⟨p_1, p_2, p_3⟩, p_4⟩ := _root_.id B1
    go_wp2_with fail
    go_ret2
    exact ⟨rfl, hb1⟩
  have g2 : (base + (N : Int) < i) = False := eq_false h2
  by_cases h3 : i = base
  · subst h3
    have hr : t = some bt := by rw [← ht]; exact termL_base ⟨i, bt, es⟩
    subst hr
    have g3 : (i == i) = true := by simp
    rw [hN] at cp ⊢
    clear hs hN ht h1 h2 hlt e1 i1 i2 f1 f2 f3
    go_enter Tryd.func22, Tryd.ntmps22
    obtain ⟨p_0, ⟨p_1, p_2, p_3⟩, p_4⟩ := _root_.id B0
    go_wp2_with fail
    refine (cp _ hb0).mono ?_
    rintro e w1 ⟨rfl, b1⟩
    have hb1 := hb0.trans (b1.mono hb0.size)
    have B1 := B0.keep b1
    clear p_0 p_1 p_2 p_3 p_4
    clear b1 B0
    obtain ⟨p_0, ⟨p_1, p_2, p_3⟩, p_4⟩ := _root_.id B1
    go_wp2_with fail
    go_ret2
    exact ⟨rfl, hb1⟩
  have g3 : (i == base) = false := by simpa using h3
  have g4 : (i = base) = False := eq_false h3
  obtain ⟨k, hk⟩ : ∃ k : Nat, i = base + 1 + k := ⟨(i - base - 1).toNat, by omega⟩
  have hkx : k < es.length := by omega
  have hr : t = some (es[k]).1 := by rw [← ht, hk]; exact termL_at (r := ⟨base, bt, es⟩) hkx
  obtain ⟨b, o, rfl, hb, q0, q1⟩ := hs.at_ hkx
  obtain ⟨⟨x, y⟩, hx⟩ : ∃ x, es[k] = x := ⟨_, rfl⟩
  rw [hx] at q0 q1 hr
  simp only at q0 q1 hr
  subst hr
  have j1 : IntKind.i64.wrap (i - base) = (k : Int) + 1 := by rw [IntKind.wrap_i64] <;> omega
  have j2 : IntKind.i64.wrap ((k : Int) + 1 - 1) = (k : Int) := by rw [IntKind.wrap_i64] <;> omega
  have j3 : IntKind.i64.wrap (k : Int) = (k : Int) := by rw [IntKind.wrap_i64] <;> omega
  have k0 : (0 ≤ (k : Int)) = True := eq_true (by omega)
  have k1 : ((k : Int) < (N : Int)) = True := eq_true (by omega)
  rw [hN] at cp ⊢
  clear hs hN ht h1 h2 h3 hlt e1 i1 i2 f1 f2 f3 hk hkx hx
  go_enter Tryd.func22, Tryd.ntmps22
  obtain ⟨p_0, ⟨p_1, p_2, p_3⟩, p_4⟩ := _root_.id B0
  go_wp2_with fail
  refine (cp _ hb0).mono ?_
  rintro e w1 ⟨rfl, b1⟩
  have hb1 := hb0.trans (b1.mono hb0.size)
  have B1 := B0.keep b1
  clear p_0 p_1 p_2 p_3 p_4
  have q2 := (hb1.cell (p := ⟨b, o + k * 2, none⟩) hb).trans q0
  clear b1 B0 q0 q1
  obtain ⟨p_0, ⟨p_1, p_2, p_3⟩, p_4⟩ := _root_.id B1
  go_wp2_with fail
  go_ret2
  exact ⟨rfl, hb1⟩

set_option maxHeartbeats 4000000 in
set_option maxRecDepth 100000 in
theorem newer_any (t i : Int) (r : Lg) (s : Value) (w : World) (hs : SE w w.heap.size s r.es) (f : FitL r) :
    Calls Tryd.prog 30 #[.int .i64 t, .int .i64 i, lv r s] w fun e w' => e = .returned (.bool (newerL t i r)) ∧ Below w.heap.size w w' := by
  have cp := fun w' (h : Below w.heap.size w w') => last_any r s w' ((hs.below h).more h.size) f
  obtain ⟨A, c, rfl⟩ := hs.form
  obtain ⟨q, hq⟩ : ∃ q, newerL t i r = q := ⟨_, rfl⟩
  unfold newerL at hq
  rw [show newerL t i r = q by unfold newerL; exact hq]
  obtain ⟨li, hli⟩ : ∃ li, lastI r = li := ⟨_, rfl⟩
  obtain ⟨lt, hlt⟩ : ∃ lt, lastT r = lt := ⟨_, rfl⟩
  rw [hli, hlt] at cp hq
  obtain ⟨base, bt, es⟩ := r
  simp only at cp ⊢
  obtain ⟨N, hN⟩ : ∃ N, es.length = N := ⟨_, rfl⟩
  rw [hN] at cp ⊢
  have hb0 : Below w.heap.size w (w.alloc (.cells #[.int .i64 base, .int .i64 bt, .slice A N c] 24)) := (Below.refl _ w).alloc (Nat.le_refl _) _
  clear hs hN hli hlt f
  by_cases h1 : lt < t
  · have hr : q = true := by rw [← hq]; simp [h1]
    subst hr
    have g1 : (lt < t) = True := eq_true h1
    clear hq h1
    go_enter Tryd.func30, Tryd.ntmps30
    go_wp2_with fail
    refine (cp _ hb0).mono ?_
    rintro e w1 ⟨rfl, b1⟩
    have hb1 := hb0.trans (b1.mono hb0.size)
    clear b1
    go_wp2_with fail
    go_ret
    exact ⟨rfl, hb1⟩
  have g1 : (lt < t) = False := eq_false h1
  by_cases h2 : t = lt
  · have hr : q = decide (li ≤ i) := by rw [← hq]; simp [h2]
    have g2 : (t == lt) = true := by simpa using h2
    subst h2
    by_cases h3 : li ≤ i
    · rw [decide_eq_true h3] at hr
      subst hr
      have g3 : (li ≤ i) = True := eq_true h3
      clear hq h1 h3
      go_enter Tryd.func30, Tryd.ntmps30
      go_wp2_with fail
      refine (cp _ hb0).mono ?_
      rintro e w1 ⟨rfl, b1⟩
      have hb1 := hb0.trans (b1.mono hb0.size)
      clear b1
      go_wp2_with fail
      go_ret
      exact ⟨rfl, hb1⟩
    · rw [decide_eq_false h3] at hr
      subst hr
      have g3 : (li ≤ i) = False := eq_false h3
      clear hq h1 h3
      go_enter Tryd.func30, Tryd.ntmps30
      go_wp2_with fail
      refine (cp _ hb0).mono ?_
      rintro e w1 ⟨rfl, b1⟩
      have hb1 := hb0.trans (b1.mono hb0.size)
      clear b1
      go_wp2_with fail
      go_ret
      exact ⟨rfl, hb1⟩
  · have hr : q = false := by rw [← hq]; simp [h1, h2]
    subst hr
    have g2 : (t == lt) = false := by simpa using h2
    have g3 : (t = lt) = False := eq_false h2
    clear hq h1 h2
    go_enter Tryd.func30, Tryd.ntmps30
    go_wp2_with fail
    refine (cp _ hb0).mono ?_
    rintro e w1 ⟨rfl, b1⟩
    have hb1 := hb0.trans (b1.mono hb0.size)
    clear b1
    go_wp2_with fail
    go_ret
    exact ⟨rfl, hb1⟩

set_option maxHeartbeats 4000000 in
set_option maxRecDepth 100000 in
theorem rnewer_any (t i : Int) (r : Lg) (s : Value) (w : World) (hs : SE w w.heap.size s r.es) (f : FitL r) :
    Calls Tryd.prog 31 #[.int .i64 t, .int .i64 i, lv r s] w fun e w' => e = .returned (.bool (newerL t i r)) ∧ Below w.heap.size w w' := by
  have cp := fun w' (h : Below w.heap.size w w') => rlast_any r s w' ((hs.below h).more h.size) f
  obtain ⟨A, c, rfl⟩ := hs.form
  obtain ⟨q, hq⟩ : ∃ q, newerL t i r = q := ⟨_, rfl⟩
  unfold newerL at hq
  rw [show newerL t i r = q by unfold newerL; exact hq]
  obtain ⟨li, hli⟩ : ∃ li, lastI r = li := ⟨_, rfl⟩
  obtain ⟨lt, hlt⟩ : ∃ lt, lastT r = lt := ⟨_, rfl⟩
  rw [hli, hlt] at cp hq
  obtain ⟨base, bt, es⟩ := r
  simp only at cp ⊢
  obtain ⟨N, hN⟩ : ∃ N, es.length = N := ⟨_, rfl⟩
  rw [hN] at cp ⊢
  have hb0 : Below w.heap.size w (w.alloc (.cells #[.int .i64 base, .int .i64 bt, .slice A N c] 24)) := (Below.refl _ w).alloc (Nat.le_refl _) _
  clear hs hN hli hlt f
  by_cases h1 : lt < t
  · have hr : q = true := by rw [← hq]; simp [h1]
    subst hr
    have g1 : (lt < t) = True := eq_true h1
    clear hq h1
    go_enter Tryd.func31, Tryd.ntmps31
    go_wp2_with fail
    refine (cp _ hb0).mono ?_
    rintro e w1 ⟨rfl, b1⟩
    have hb1 := hb0.trans (b1.mono hb0.size)
    clear b1
    go_wp2_with fail
    go_ret
    exact ⟨rfl, hb1⟩
  have g1 : (lt < t) = False := eq_false h1
  by_cases h2 : t = lt
  · have hr : q = decide (li ≤ i) := by rw [← hq]; simp [h2]
    have g2 : (t == lt) = true := by simpa using h2
    subst h2
    by_cases h3 : li ≤ i
    · rw [decide_eq_true h3] at hr
      subst hr
      have g3 : (li ≤ i) = True := eq_true h3
      clear hq h1 h3
      go_enter Tryd.func31, Tryd.ntmps31
      go_wp2_with fail
      refine (cp _ hb0).mono ?_
      rintro e w1 ⟨rfl, b1⟩
      have hb1 := hb0.trans (b1.mono hb0.size)
      clear b1
      go_wp2_with fail
      go_ret
      exact ⟨rfl, hb1⟩
    · rw [decide_eq_false h3] at hr
      subst hr
      have g3 : (li ≤ i) = False := eq_false h3
      clear hq h1 h3
      go_enter Tryd.func31, Tryd.ntmps31
      go_wp2_with fail
      refine (cp _ hb0).mono ?_
      rintro e w1 ⟨rfl, b1⟩
      have hb1 := hb0.trans (b1.mono hb0.size)
      clear b1
      go_wp2_with fail
      go_ret
      exact ⟨rfl, hb1⟩
  · have hr : q = false := by rw [← hq]; simp [h1, h2]
    subst hr
    have g2 : (t == lt) = false := by simpa using h2
    have g3 : (t = lt) = False := eq_false h2
    clear hq h1 h2
    go_enter Tryd.func31, Tryd.ntmps31
    go_wp2_with fail
    refine (cp _ hb0).mono ?_
    rintro e w1 ⟨rfl, b1⟩
    have hb1 := hb0.trans (b1.mono hb0.size)
    clear b1
    go_wp2_with fail
    go_ret
    exact ⟨rfl, hb1⟩
end Go.Proofs.YtimodohcihnoiaaDoor.Ro
