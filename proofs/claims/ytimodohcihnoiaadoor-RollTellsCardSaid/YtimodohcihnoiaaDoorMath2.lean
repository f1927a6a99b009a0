/-
  THE PLAIN MATHEMATICS OF PACKAGE knot, its second part, of no program: strands, knots, sums and seals. No condition.
-/
import Derived.Test.YtimodohcihnoiaaDoorMath
namespace Go.Proofs.YtimodohcihnoiaaDoor.M

/-! ### strands -/
def strand (x : Text) : Text := numT x.length ++ 58 :: (x ++ [44])
def tieT (l : List Text) : Text := (l.map strand).flatten

theorem tieT_nil : tieT [] = [] := rfl
theorem tieT_cons (x : Text) (l : List Text) : tieT (x :: l) = strand x ++ tieT l := by simp [tieT]
theorem tieT_append (a b : List Text) : tieT (a ++ b) = tieT a ++ tieT b := by simp [tieT]
theorem tieT_snoc (a : List Text) (x : Text) : tieT (a ++ [x]) = tieT a ++ strand x := by simp [tieT]

theorem strand_ne (x : Text) : strand x ≠ [] := by unfold strand; simp
theorem strand_length (x : Text) : (strand x).length = (numT x.length).length + x.length + 2 := by unfold strand; simp; omega

theorem no58 (n : Nat) : (58 : UInt8) ∉ numT (n : Int) := by
  intro h
  rw [numT_nat] at h
  have := dig_isDig n 58 h
  unfold isDig at this
  exact absurd this.2 (by decide)

theorem split58 : ∀ (p q u v : Text), (58 : UInt8) ∉ p → (58 : UInt8) ∉ q → p ++ 58 :: u = q ++ 58 :: v → p = q ∧ u = v
  | [], [], u, v, _, _, h => by simpa using h
  | [], d :: q, u, v, _, hq, h => by
    simp at h; exact absurd h.1 (fun e => hq (by simp [e]))
  | c :: p, [], u, v, hp, _, h => by
    simp at h; exact absurd h.1 (fun e => hp (by simp [← e]))
  | c :: p, d :: q, u, v, hp, hq, h => by
    simp at h
    obtain ⟨e1, e2⟩ := split58 p q u v (fun m => hp (by simp [m])) (fun m => hq (by simp [m])) h.2
    exact ⟨by rw [h.1, e1], e2⟩

theorem strand_app (x r : Text) : strand x ++ r = numT x.length ++ 58 :: (x ++ 44 :: r) := by unfold strand; simp

theorem strand_inj {x y r t : Text} (h : strand x ++ r = strand y ++ t) : x = y ∧ r = t := by
  rw [strand_app, strand_app] at h
  obtain ⟨h1, h2⟩ := split58 _ _ _ _ (no58 _) (no58 _) h
  have hl : x.length = y.length := by have := numT_inj h1; omega
  obtain ⟨e1, e2⟩ := List.append_inj h2 hl
  exact ⟨e1, by simpa using e2⟩

theorem tie_prefix : ∀ (p l : List Text) (rest : Text), tieT l = tieT p ++ rest → ∃ m, l = p ++ m ∧ rest = tieT m
  | [], l, rest, h => ⟨l, rfl, by simpa [tieT_nil] using h.symm⟩
  | x :: p, l, rest, h => by
    rcases l with _ | ⟨y, l⟩
    · rw [tieT_cons, tieT_nil, List.append_assoc] at h
      have := congrArg List.length h
      have h2 := List.length_pos_iff.2 (strand_ne x)
      simp at this; omega
    · rw [tieT_cons, tieT_cons, List.append_assoc] at h
      obtain ⟨rfl, h2⟩ := strand_inj h
      obtain ⟨m, rfl, hm⟩ := tie_prefix p l rest h2
      exact ⟨m, rfl, hm⟩

theorem tieT_inj {a b : List Text} (h : tieT a = tieT b) : a = b := by
  obtain ⟨m, hm, h2⟩ := tie_prefix b a [] (by simpa using h)
  rcases m with _ | ⟨x, m⟩
  · simpa using hm
  · rw [tieT_cons] at h2
    have := congrArg List.length h2
    have h3 := List.length_pos_iff.2 (strand_ne x)
    simp at this; omega

/-! ### the strand at the front -/
open Classical in
noncomputable def firstT (s : Text) : Option (Text × Text) :=
  if h : ∃ p : Text × Text, s = strand p.1 ++ p.2 ∧ (strand p.1).length ≤ 1048576 then some h.choose else none

theorem first_some {s x r : Text} (h : s = strand x ++ r) (hl : (strand x).length ≤ 1048576) : firstT s = some (x, r) := by
  unfold firstT
  have hx : ∃ p : Text × Text, s = strand p.1 ++ p.2 ∧ (strand p.1).length ≤ 1048576 := ⟨(x, r), h, hl⟩
  rw [dif_pos hx]
  obtain ⟨e1, e2⟩ := strand_inj (h.symm.trans hx.choose_spec.1)
  exact congrArg some (Prod.ext e1.symm e2.symm)
theorem first_none {s : Text} (h : ∀ x r, s = strand x ++ r → (strand x).length ≤ 1048576 → False) : firstT s = none := by
  unfold firstT
  rw [dif_neg]
  rintro ⟨p, h1, h2⟩
  exact h _ _ h1 h2
theorem first_spec {s x r : Text} (h : firstT s = some (x, r)) : s = strand x ++ r ∧ (strand x).length ≤ 1048576 := by
  unfold firstT at h
  split at h
  · rename_i hx
    have := hx.choose_spec
    injection h with h
    rw [h] at this
    exact this
  · cases h

/-- what is near, cut at the first colon, of a text that begins with a strand -/
theorem near_of {s x r : Text} (h : s = strand x ++ r) (hl : (strand x).length ≤ 1048576) :
    s.take 1048576 = numT x.length ++ 58 :: (x ++ 44 :: r.take (1048576 - (strand x).length)) := by
  rw [h, List.take_append, List.take_of_length_le hl, strand_app]

theorem inR_small {n : Nat} (h : n ≤ 1048576) : inR (n : Int) := by unfold inR; omega

theorem strand_small {x : Text} (hl : (strand x).length ≤ 1048576) : x.length ≤ 1048576 := by
  have := strand_length x; omega

theorem first_no_colon {s : Text} (h : (58 : UInt8) ∉ s.take 1048576) : firstT s = none :=
  first_none fun x r e hl => h (by rw [near_of e hl]; simp)

theorem first_cut {s d b : Text} (hn : s.take 1048576 = d ++ 58 :: b) (hd : (58 : UInt8) ∉ d) {x r : Text} (e : s = strand x ++ r) (hl : (strand x).length ≤ 1048576) :
    intT d = some (x.length : Int) ∧ x.length < b.length ∧ b[x.length]? = some 44 := by
  rw [near_of e hl] at hn
  obtain ⟨e1, e2⟩ := split58 _ _ _ _ (no58 _) hd hn
  refine ⟨intT_some (inR_small (strand_small hl)) e1, ?_, ?_⟩
  · rw [← e2]; simp
  · rw [← e2]; simp

theorem first_cut_none {s d b : Text} (hn : s.take 1048576 = d ++ 58 :: b) (hd : (58 : UInt8) ∉ d) (h : intT d = none) : firstT s = none :=
  first_none fun x r e hl => by have := (first_cut hn hd e hl).1; rw [h] at this; cases this
theorem first_cut_far {s d b : Text} {n : Int} (hn : s.take 1048576 = d ++ 58 :: b) (hd : (58 : UInt8) ∉ d) (h : intT d = some n) (h2 : n < 0 ∨ (b.length : Int) ≤ n) : firstT s = none :=
  first_none fun x r e hl => by
    have := first_cut hn hd e hl
    rw [h] at this
    have h3 := Option.some.inj this.1
    omega
theorem first_cut_comma {s d b : Text} {n : Nat} (hn : s.take 1048576 = d ++ 58 :: b) (hd : (58 : UInt8) ∉ d) (h : intT d = some (n : Int)) (h2 : b[n]? ≠ some 44) : firstT s = none :=
  first_none fun x r e hl => by
    have := first_cut hn hd e hl
    rw [h] at this
    have h3 := Option.some.inj this.1
    have h4 : n = x.length := by omega
    rw [h4] at h2
    exact h2 this.2.2
theorem first_cut_some {s d b : Text} {n : Nat} (hn : s.take 1048576 = d ++ 58 :: b) (h : intT d = some (n : Int)) (h1 : n < b.length) (h2 : b[n]? = some 44) :
    firstT s = some (b.take n, s.drop (d.length + 1 + n + 1)) ∧ d.length + 1 + n + 1 ≤ s.length := by
  obtain ⟨_, hnum⟩ := intT_spec h
  have hb : b = b.take n ++ 44 :: b.drop (n + 1) := by
    have e1 := (List.take_append_drop n b).symm
    have e2 : b.drop n = 44 :: b.drop (n + 1) := by
      rw [List.drop_eq_getElem_cons h1]
      rw [List.getElem?_eq_getElem h1] at h2
      rw [Option.some.inj h2]
    rw [e2] at e1
    exact e1
  have hst : strand (b.take n) = d ++ 58 :: (b.take n ++ [44]) := by
    unfold strand; rw [List.length_take, Nat.min_eq_left (by omega), hnum]
  have hlen : (strand (b.take n)).length = d.length + 1 + n + 1 := by rw [hst]; simp; omega
  have hs : s = strand (b.take n) ++ (b.drop (n + 1) ++ s.drop 1048576) := by
    have e1 := (List.take_append_drop 1048576 s).symm
    rw [hn, hb] at e1
    rw [hst]
    simpa using e1
  have hle : (strand (b.take n)).length ≤ 1048576 := by
    have h3 := congrArg List.length hn
    rw [List.length_take] at h3
    simp at h3
    omega
  have hdrop : s.drop (d.length + 1 + n + 1) = b.drop (n + 1) ++ s.drop 1048576 := by
    rw [← hlen]
    conv => lhs; rw [hs]
    exact List.drop_left
  refine ⟨first_some (by rw [hdrop]; exact hs) hle, ?_⟩
  have := congrArg List.length hs
  rw [List.length_append, hlen] at this
  omega

/-! ### knots -/
open Classical in
noncomputable def untieT (s : Text) : Option (List Text) :=
  if h : ∃ l, s = tieT l ∧ l.length ≤ 4096 ∧ s.length ≤ 1048576 then some h.choose else none

theorem untie_some {s : Text} {l : List Text} (h : s = tieT l) (h1 : l.length ≤ 4096) (h2 : s.length ≤ 1048576) : untieT s = some l := by
  unfold untieT
  have hx : ∃ l, s = tieT l ∧ l.length ≤ 4096 ∧ s.length ≤ 1048576 := ⟨l, h, h1, h2⟩
  rw [dif_pos hx]
  exact congrArg some (tieT_inj (h.symm.trans hx.choose_spec.1)).symm
theorem untie_none {s : Text} (h : ∀ l, s = tieT l → l.length ≤ 4096 → s.length ≤ 1048576 → False) : untieT s = none := by
  unfold untieT
  rw [dif_neg]
  rintro ⟨l, h1, h2, h3⟩
  exact h l h1 h2 h3
theorem untie_spec {s : Text} {l : List Text} (h : untieT s = some l) : s = tieT l ∧ l.length ≤ 4096 ∧ s.length ≤ 1048576 := by
  unfold untieT at h
  split at h
  · rename_i hx
    have := hx.choose_spec
    injection h with h
    rw [h] at this
    exact this
  · cases h

theorem untie_long {s : Text} (h : 1048576 < s.length) : untieT s = none := untie_none fun _ _ _ h3 => by omega

/-- no strand at the front of what is left -/
theorem untie_stuck {s0 s : Text} {acc : List Text} (h : s0 = tieT acc ++ s) (hne : s ≠ []) (hf : firstT s = none) : untieT s0 = none :=
  untie_none fun l e _ h3 => by
    obtain ⟨m, rfl, hm⟩ := tie_prefix acc l s (by rw [← e, h])
    rcases m with _ | ⟨x, m⟩
    · exact hne (by rw [hm, tieT_nil])
    · rw [tieT_cons] at hm
      have hl : (strand x).length ≤ 1048576 := by
        have := congrArg List.length h
        rw [hm] at this
        simp at this; omega
      rw [first_some hm hl] at hf
      cases hf
/-- one more would be too many -/
theorem untie_many {s0 s : Text} {acc : List Text} (h : s0 = tieT acc ++ s) (hne : s ≠ []) (hl : acc.length = 4096) : untieT s0 = none :=
  untie_none fun l e h2 _ => by
    obtain ⟨m, rfl, hm⟩ := tie_prefix acc l s (by rw [← e, h])
    rcases m with _ | ⟨x, m⟩
    · exact hne (by rw [hm, tieT_nil])
    · simp at h2; omega
/-- one strand more -/
theorem untie_step {s0 s x r : Text} {acc : List Text} (h : s0 = tieT acc ++ s) (hf : firstT s = some (x, r)) : s0 = tieT (acc ++ [x]) ++ r := by
  rw [h, (first_spec hf).1, tieT_snoc, List.append_assoc]

theorem tie_length (l : List Text) (h : ∀ x ∈ l, x.length ≤ 1048576) : (tieT l).length ≤ 22 * l.length + (l.map List.length).sum := by
  induction l with
  | nil => simp [tieT]
  | cons x l ih =>
    have h1 := ih fun y hy => h y (by simp [hy])
    have h2 := numT_length (inR_small (h x (by simp)))
    have h3 := strand_length x
    rw [tieT_cons, List.length_append]
    simp only [List.length_cons, List.map_cons, List.sum_cons]
    omega

end Go.Proofs.YtimodohcihnoiaaDoor.M
