/-
  THE PLAIN MATHEMATICS OF PACKAGE bound, of no program: texts in their order, bounds, and what the document says follows of them. No condition.
  THE PLAIN MATHEMATICS OF PACKAGE knot, of no program: decimal numerals, strands, knots, sums, seals, as functions on lists of bytes, and what is used of them. No condition.
  THE PLAIN MATHEMATICS OF PACKAGE knot, its second part, of no program: strands, knots, sums and seals. No condition.
-/
import Derived.Laws.Strings
import Derived.Lib.ParseIntB
namespace Go.Proofs.YtkpakiiijphjeaaGreatDoor.O
abbrev Text := List UInt8
abbrev lt (a b : Text) : Bool := Op.bytesLess a b
structure Bd where
  f : Text
  t : Text
  deriving DecidableEq
def isB (b : Bd) : Bool := decide (b.f.length ≤ 33) && decide (b.t.length ≤ 33) && (decide (b.t = []) || lt b.f b.t)
def keyB (k : Text) : Bool := decide (1 ≤ k.length) && decide (k.length ≤ 32)
end Go.Proofs.YtkpakiiijphjeaaGreatDoor.O

namespace Go.Proofs.YtkpakiiijphjeaaGreatDoor.M
abbrev Text := List UInt8
def dchar (d : Nat) : UInt8 := UInt8.ofNat (48 + d)
theorem dchar_toNat {d : Nat} (h : d < 10) : (dchar d).toNat = 48 + d := by
  unfold dchar; simp; omega
def dig (n : Nat) : Text := if n < 10 then [dchar n] else dig (n / 10) ++ [dchar (n % 10)]
termination_by n
decreasing_by omega
theorem dig_lt {n : Nat} (h : n < 10) : dig n = [dchar n] := by rw [dig, if_pos h]
theorem dig_ge {n : Nat} (h : ¬ n < 10) : dig n = dig (n / 10) ++ [dchar (n % 10)] := by rw [dig, if_neg h]
def numT (n : Int) : Text := if n < 0 then 45 :: dig n.natAbs else dig n.natAbs
def valN (l : Text) : Nat := l.foldl (fun a c => 10 * a + (c.toNat - 48)) 0
theorem valN_snoc (l : Text) (c : UInt8) : valN (l ++ [c]) = 10 * valN l + (c.toNat - 48) := by simp [valN, List.foldl_append]
theorem valN_dig (n : Nat) : valN (dig n) = n := by
  induction n using Nat.strongRecOn with
  | _ n ih =>
    by_cases h : n < 10
    · rw [dig_lt h]; simp [valN, dchar_toNat h]
    · rw [dig_ge h, valN_snoc, ih (n / 10) (by omega), dchar_toNat (by omega)]; omega
def isDig (c : UInt8) : Prop := 48 ≤ c.toNat ∧ c.toNat ≤ 57
theorem dig_isDig (n : Nat) : ∀ c ∈ dig n, isDig c := by
  induction n using Nat.strongRecOn with
  | _ n ih =>
    intro c hc
    by_cases h : n < 10
    · rw [dig_lt h] at hc
      simp at hc; subst hc
      unfold isDig; rw [dchar_toNat h]; omega
    · rw [dig_ge h, List.mem_append] at hc
      rcases hc with hc | hc
      · exact ih (n / 10) (by omega) c hc
      · simp at hc; subst hc
        unfold isDig; rw [dchar_toNat (by omega)]; omega
theorem dig_ne (n : Nat) : dig n ≠ [] := by
  by_cases h : n < 10
  · rw [dig_lt h]; simp
  · rw [dig_ge h]; simp
theorem dig_pos (n : Nat) : 0 < (dig n).length := List.length_pos_iff.2 (dig_ne n)
theorem dig_length (k : Nat) : ∀ n, n < 10 ^ (k + 1) → (dig n).length ≤ k + 1 := by
  induction k with
  | zero => intro n h; rw [dig_lt (by simpa using h)]; simp
  | succ k ih =>
    intro n h
    by_cases h10 : n < 10
    · rw [dig_lt h10]; simp
    · rw [dig_ge h10, List.length_append]
      have := ih (n / 10) (by rw [Nat.pow_succ] at h; omega)
      simp; omega
def val (l : Text) : Int := match l with | c :: r => if c = 45 then -(valN r : Int) else (valN l : Int) | [] => 0
theorem isDig_ne {c : UInt8} (h : isDig c) (d : UInt8) (hd : d.toNat < 48 ∨ 57 < d.toNat) : c ≠ d := by
  rintro rfl; unfold isDig at h; omega
theorem val_dig (n : Nat) : val (dig n) = n := by
  rcases hd : dig n with _ | ⟨c, r⟩
  · exact absurd hd (dig_ne n)
  · have hc : isDig c := dig_isDig n c (by rw [hd]; simp)
    have hne := isDig_ne hc 45 (.inl (by decide))
    have hv := valN_dig n
    rw [hd] at hv
    simp [val, hne, hv]
theorem val_numT (n : Int) : val (numT n) = n := by
  unfold numT
  by_cases h : n < 0
  · rw [if_pos h]; simp [val, valN_dig]; omega
  · rw [if_neg h, val_dig]; omega
theorem numT_inj {a b : Int} (h : numT a = numT b) : a = b := by rw [← val_numT a, h, val_numT]
def inR (n : Int) : Prop := -9223372036854775808 ≤ n ∧ n ≤ 9223372036854775807
instance (n : Int) : Decidable (inR n) := by unfold inR; infer_instance
def intT (l : Text) : Option Int := if inR (val l) ∧ numT (val l) = l then some (val l) else none
theorem intT_some {l : Text} {n : Int} (h : inR n) (e : numT n = l) : intT l = some n := by
  subst e; unfold intT; rw [val_numT, if_pos ⟨h, rfl⟩]
theorem intT_none {l : Text} (h : ∀ n, inR n → numT n ≠ l) : intT l = none := by
  unfold intT; rw [if_neg fun ⟨a, b⟩ => h _ a b]
theorem intT_spec {l : Text} {n : Int} (h : intT l = some n) : inR n ∧ numT n = l := by
  unfold intT at h; split at h
  · injection h with h; subst h; assumption
  · cases h
theorem numT_length {n : Int} (h : inR n) : (numT n).length ≤ 20 := by
  unfold inR at h; unfold numT
  have := dig_length 18 n.natAbs
  by_cases h0 : n < 0
  · rw [if_pos h0]; simp; have := this (by omega); omega
  · rw [if_neg h0]; have := this (by omega); omega
theorem numT_nat (n : Nat) : numT n = dig n := by unfold numT; rw [if_neg (by omega)]; rfl
theorem parseM (l : Text) : ∀ acc, (∀ c ∈ l, isDig c) → l.foldl (fun a c => 10 * a + (c.toNat - 48)) acc ≤ 9223372036854775808 →
    Lib.parseUintM 18446744073709551615 acc l = .ok (l.foldl (fun a c => 10 * a + (c.toNat - 48)) acc) := by
  have mono : ∀ (l : Text) (acc : Nat), acc ≤ l.foldl (fun a c => 10 * a + (c.toNat - 48)) acc := by
    intro l
    induction l with
    | nil => intro acc; exact Nat.le_refl _
    | cons c r ih => intro acc; have := ih (10 * acc + (c.toNat - 48)); simp only [List.foldl_cons]; omega
  induction l with
  | nil => intro acc _ _; rfl
  | cons c r ih =>
    intro acc hd hb
    have hc := hd c (by simp)
    unfold isDig at hc
    simp only [List.foldl_cons] at hb ⊢
    have hm := mono r (10 * acc + (c.toNat - 48))
    unfold Lib.parseUintM
    rw [if_pos hc, if_neg (by omega), if_neg (by omega), show acc * 10 + (c.toNat - 48) = 10 * acc + (c.toNat - 48) by omega]
    exact ih _ (fun c hc => hd c (by simp [hc])) hb
theorem parseB (n : Nat) (h : n ≤ 9223372036854775808) : Lib.parseUintB 64 (dig n) = .ok n := by
  unfold Lib.parseUintB
  rw [if_neg (dig_ne n)]
  have := parseM (dig n) 0 (dig_isDig n) (by have := valN_dig n; unfold valN at this; omega)
  have hv := valN_dig n
  unfold valN at hv
  rw [hv] at this
  exact this
theorem parse_numT {n : Int} (h : inR n) : Lib.parseIntB 64 (numT n) = .ok n := by
  unfold inR at h
  unfold numT
  by_cases h0 : n < 0
  · rw [if_pos h0]
    simp only [Lib.parseIntB]
    rw [if_pos (.inr (by decide)), parseB _ (by omega)]
    have e : (45 : UInt8).toNat = 45 := by decide
    simp only [e]
    rw [if_neg (by simp), if_neg (by omega)]
    simp; omega
  · rw [if_neg h0]
    rcases hd : dig n.natAbs with _ | ⟨c, r⟩
    · exact absurd hd (dig_ne _)
    · have hc : isDig c := dig_isDig n.natAbs c (by rw [hd]; simp)
      unfold isDig at hc
      have hp := parseB n.natAbs (by omega)
      rw [hd] at hp
      simp only [Lib.parseIntB]
      rw [if_neg (by omega), hp]
      simp only []
      rw [if_neg (by omega), if_neg (by omega), if_neg (by omega)]
      congr 1; omega
end Go.Proofs.YtkpakiiijphjeaaGreatDoor.M

namespace Go.Proofs.YtkpakiiijphjeaaGreatDoor.M
def strand (x : Text) : Text := numT x.length ++ 58 :: (x ++ [44])
def tieT (l : List Text) : Text := (l.map strand).flatten
theorem tieT_nil : tieT [] = [] := rfl
theorem tieT_cons (x : Text) (l : List Text) : tieT (x :: l) = strand x ++ tieT l := by simp [tieT]
theorem tieT_snoc (a : List Text) (x : Text) : tieT (a ++ [x]) = tieT a ++ strand x := by simp [tieT]
theorem strand_ne (x : Text) : strand x ≠ [] := by unfold strand; simp
theorem strand_length (x : Text) : (strand x).length = (numT x.length).length + x.length + 2 := by unfold strand; simp; omega
theorem no58 (n : Nat) : (58 : UInt8) ∉ numT (n : Int) := by
  intro h
  rw [numT_nat] at h
  have := dig_isDig n 58 h
  unfold isDig at this
  exact absurd this.2 (by decide)
theorem split58 : ∀ (p q u v : Text), (58 : UInt8) ∉ p → (58 : UInt8) ∉ q → p ++ 58 :: u = q ++ 58 :: v → p = q ∧ u = v
  | [], [], u, v, _, _, h => by simpa using h
  | [], d :: q, u, v, _, hq, h => by
    simp at h; exact absurd h.1 (fun e => hq (by simp [e]))
  | c :: p, [], u, v, hp, _, h => by
    simp at h; exact absurd h.1 (fun e => hp (by simp [← e]))
  | c :: p, d :: q, u, v, hp, hq, h => by
    simp at h
    obtain ⟨e1, e2⟩ := split58 p q u v (fun m => hp (by simp [m])) (fun m => hq (by simp [m])) h.2
    exact ⟨by rw [h.1, e1], e2⟩
theorem strand_app (x r : Text) : strand x ++ r = numT x.length ++ 58 :: (x ++ 44 :: r) := by unfold strand; simp
theorem strand_inj {x y r t : Text} (h : strand x ++ r = strand y ++ t) : x = y ∧ r = t := by
  rw [strand_app, strand_app] at h
  obtain ⟨h1, h2⟩ := split58 _ _ _ _ (no58 _) (no58 _) h
  have hl : x.length = y.length := by have := numT_inj h1; omega
  obtain ⟨e1, e2⟩ := List.append_inj h2 hl
  exact ⟨e1, by simpa using e2⟩
theorem tie_prefix : ∀ (p l : List Text) (rest : Text), tieT l = tieT p ++ rest → ∃ m, l = p ++ m ∧ rest = tieT m
  | [], l, rest, h => ⟨l, rfl, by simpa [tieT_nil] using h.symm⟩
  | x :: p, l, rest, h => by
    rcases l with _ | ⟨y, l⟩
    · rw [tieT_cons, tieT_nil, List.append_assoc] at h
      have := congrArg List.length h
      have h2 := List.length_pos_iff.2 (strand_ne x)
      simp at this; omega
    · rw [tieT_cons, tieT_cons, List.append_assoc] at h
      obtain ⟨rfl, h2⟩ := strand_inj h
      obtain ⟨m, rfl, hm⟩ := tie_prefix p l rest h2
      exact ⟨m, rfl, hm⟩
theorem tieT_inj {a b : List Text} (h : tieT a = tieT b) : a = b := by
  obtain ⟨m, hm, h2⟩ := tie_prefix b a [] (by simpa using h)
  rcases m with _ | ⟨x, m⟩
  · simpa using hm
  · rw [tieT_cons] at h2
    have := congrArg List.length h2
    have h3 := List.length_pos_iff.2 (strand_ne x)
    simp at this; omega
open Classical in
noncomputable def firstT (s : Text) : Option (Text × Text) :=
  if h : ∃ p : Text × Text, s = strand p.1 ++ p.2 ∧ (strand p.1).length ≤ 1048576 then some h.choose else none
theorem first_some {s x r : Text} (h : s = strand x ++ r) (hl : (strand x).length ≤ 1048576) : firstT s = some (x, r) := by
  unfold firstT
  have hx : ∃ p : Text × Text, s = strand p.1 ++ p.2 ∧ (strand p.1).length ≤ 1048576 := ⟨(x, r), h, hl⟩
  rw [dif_pos hx]
  obtain ⟨e1, e2⟩ := strand_inj (h.symm.trans hx.choose_spec.1)
  exact congrArg some (Prod.ext e1.symm e2.symm)
theorem first_none {s : Text} (h : ∀ x r, s = strand x ++ r → (strand x).length ≤ 1048576 → False) : firstT s = none := by
  unfold firstT
  rw [dif_neg]
  rintro ⟨p, h1, h2⟩
  exact h _ _ h1 h2
theorem first_spec {s x r : Text} (h : firstT s = some (x, r)) : s = strand x ++ r ∧ (strand x).length ≤ 1048576 := by
  unfold firstT at h
  split at h
  · rename_i hx
    have := hx.choose_spec
    injection h with h
    rw [h] at this
    exact this
  · cases h
theorem near_of {s x r : Text} (h : s = strand x ++ r) (hl : (strand x).length ≤ 1048576) :
    s.take 1048576 = numT x.length ++ 58 :: (x ++ 44 :: r.take (1048576 - (strand x).length)) := by
  rw [h, List.take_append, List.take_of_length_le hl, strand_app]
theorem inR_small {n : Nat} (h : n ≤ 1048576) : inR (n : Int) := by unfold inR; omega
theorem strand_small {x : Text} (hl : (strand x).length ≤ 1048576) : x.length ≤ 1048576 := by
  have := strand_length x; omega
theorem first_no_colon {s : Text} (h : (58 : UInt8) ∉ s.take 1048576) : firstT s = none :=
  first_none fun x r e hl => h (by rw [near_of e hl]; simp)
theorem first_cut {s d b : Text} (hn : s.take 1048576 = d ++ 58 :: b) (hd : (58 : UInt8) ∉ d) {x r : Text} (e : s = strand x ++ r) (hl : (strand x).length ≤ 1048576) :
    intT d = some (x.length : Int) ∧ x.length < b.length ∧ b[x.length]? = some 44 := by
  rw [near_of e hl] at hn
  obtain ⟨e1, e2⟩ := split58 _ _ _ _ (no58 _) hd hn
  refine ⟨intT_some (inR_small (strand_small hl)) e1, ?_, ?_⟩
  · rw [← e2]; simp
  · rw [← e2]; simp
theorem first_cut_none {s d b : Text} (hn : s.take 1048576 = d ++ 58 :: b) (hd : (58 : UInt8) ∉ d) (h : intT d = none) : firstT s = none :=
  first_none fun x r e hl => by have := (first_cut hn hd e hl).1; rw [h] at this; cases this
theorem first_cut_far {s d b : Text} {n : Int} (hn : s.take 1048576 = d ++ 58 :: b) (hd : (58 : UInt8) ∉ d) (h : intT d = some n) (h2 : n < 0 ∨ (b.length : Int) ≤ n) : firstT s = none :=
  first_none fun x r e hl => by
    have := first_cut hn hd e hl
    rw [h] at this
    have h3 := Option.some.inj this.1
    omega
theorem first_cut_comma {s d b : Text} {n : Nat} (hn : s.take 1048576 = d ++ 58 :: b) (hd : (58 : UInt8) ∉ d) (h : intT d = some (n : Int)) (h2 : b[n]? ≠ some 44) : firstT s = none :=
  first_none fun x r e hl => by
    have := first_cut hn hd e hl
    rw [h] at this
    have h3 := Option.some.inj this.1
    have h4 : n = x.length := by omega
    rw [h4] at h2
    exact h2 this.2.2
theorem first_cut_some {s d b : Text} {n : Nat} (hn : s.take 1048576 = d ++ 58 :: b) (h : intT d = some (n : Int)) (h1 : n < b.length) (h2 : b[n]? = some 44) :
    firstT s = some (b.take n, s.drop (d.length + 1 + n + 1)) ∧ d.length + 1 + n + 1 ≤ s.length := by
  obtain ⟨_, hnum⟩ := intT_spec h
  have hb : b = b.take n ++ 44 :: b.drop (n + 1) := by
    have e1 := (List.take_append_drop n b).symm
    have e2 : b.drop n = 44 :: b.drop (n + 1) := by
      rw [List.drop_eq_getElem_cons h1]
      rw [List.getElem?_eq_getElem h1] at h2
      rw [Option.some.inj h2]
    rw [e2] at e1
    exact e1
  have hst : strand (b.take n) = d ++ 58 :: (b.take n ++ [44]) := by
    unfold strand; rw [List.length_take, Nat.min_eq_left (by omega), hnum]
  have hlen : (strand (b.take n)).length = d.length + 1 + n + 1 := by rw [hst]; simp; omega
  have hs : s = strand (b.take n) ++ (b.drop (n + 1) ++ s.drop 1048576) := by
    have e1 := (List.take_append_drop 1048576 s).symm
    rw [hn, hb] at e1
    rw [hst]
    simpa using e1
  have hle : (strand (b.take n)).length ≤ 1048576 := by
    have h3 := congrArg List.length hn
    rw [List.length_take] at h3
    simp at h3
    omega
  have hdrop : s.drop (d.length + 1 + n + 1) = b.drop (n + 1) ++ s.drop 1048576 := by
    rw [← hlen]
    conv => lhs; rw [hs]
    exact List.drop_left
  refine ⟨first_some (by rw [hdrop]; exact hs) hle, ?_⟩
  have := congrArg List.length hs
  rw [List.length_append, hlen] at this
  omega
open Classical in
noncomputable def untieT (s : Text) : Option (List Text) :=
  if h : ∃ l, s = tieT l ∧ l.length ≤ 4096 ∧ s.length ≤ 1048576 then some h.choose else none
theorem untie_some {s : Text} {l : List Text} (h : s = tieT l) (h1 : l.length ≤ 4096) (h2 : s.length ≤ 1048576) : untieT s = some l := by
  unfold untieT
  have hx : ∃ l, s = tieT l ∧ l.length ≤ 4096 ∧ s.length ≤ 1048576 := ⟨l, h, h1, h2⟩
  rw [dif_pos hx]
  exact congrArg some (tieT_inj (h.symm.trans hx.choose_spec.1)).symm
theorem untie_none {s : Text} (h : ∀ l, s = tieT l → l.length ≤ 4096 → s.length ≤ 1048576 → False) : untieT s = none := by
  unfold untieT
  rw [dif_neg]
  rintro ⟨l, h1, h2, h3⟩
  exact h l h1 h2 h3
theorem untie_spec {s : Text} {l : List Text} (h : untieT s = some l) : s = tieT l ∧ l.length ≤ 4096 ∧ s.length ≤ 1048576 := by
  unfold untieT at h
  split at h
  · rename_i hx
    have := hx.choose_spec
    injection h with h
    rw [h] at this
    exact this
  · cases h
theorem untie_long {s : Text} (h : 1048576 < s.length) : untieT s = none := untie_none fun _ _ _ h3 => by omega
theorem untie_stuck {s0 s : Text} {acc : List Text} (h : s0 = tieT acc ++ s) (hne : s ≠ []) (hf : firstT s = none) : untieT s0 = none :=
  untie_none fun l e _ h3 => by
    obtain ⟨m, rfl, hm⟩ := tie_prefix acc l s (by rw [← e, h])
    rcases m with _ | ⟨x, m⟩
    · exact hne (by rw [hm, tieT_nil])
    · rw [tieT_cons] at hm
      have hl : (strand x).length ≤ 1048576 := by
        have := congrArg List.length h
        rw [hm] at this
        simp at this; omega
      rw [first_some hm hl] at hf
      cases hf
theorem untie_many {s0 s : Text} {acc : List Text} (h : s0 = tieT acc ++ s) (hne : s ≠ []) (hl : acc.length = 4096) : untieT s0 = none :=
  untie_none fun l e h2 _ => by
    obtain ⟨m, rfl, hm⟩ := tie_prefix acc l s (by rw [← e, h])
    rcases m with _ | ⟨x, m⟩
    · exact hne (by rw [hm, tieT_nil])
    · simp at h2; omega
theorem untie_step {s0 s x r : Text} {acc : List Text} (h : s0 = tieT acc ++ s) (hf : firstT s = some (x, r)) : s0 = tieT (acc ++ [x]) ++ r := by
  rw [h, (first_spec hf).1, tieT_snoc, List.append_assoc]
theorem tie_length (l : List Text) (h : ∀ x ∈ l, x.length ≤ 1048576) : (tieT l).length ≤ 22 * l.length + (l.map List.length).sum := by
  induction l with
  | nil => simp [tieT]
  | cons x l ih =>
    have h1 := ih fun y hy => h y (by simp [hy])
    have h2 := numT_length (inR_small (h x (by simp)))
    have h3 := strand_length x
    rw [tieT_cons, List.length_append]
    simp only [List.length_cons, List.map_cons, List.sum_cons]
    omega
end Go.Proofs.YtkpakiiijphjeaaGreatDoor.M
