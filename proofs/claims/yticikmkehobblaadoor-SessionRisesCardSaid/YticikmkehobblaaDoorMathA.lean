/-
  THE PLAIN MATHEMATICS OF PACKAGE knot, of no program: decimal numerals, strands, knots, sums, seals, as functions on lists of bytes, and what is used of them. No condition.
  THE PLAIN MATHEMATICS OF PACKAGE knot, its second part, of no program: strands, knots, sums and seals. No condition.
  THE PLAIN MATHEMATICS OF PACKAGE knot, its third part, of no program: sums, seals, and that one spoilt byte shows. No condition.
  THE PLAIN MATHEMATICS OF PACKAGE knot, its fourth part, of no program: a strand at the front, read digit by digit. No condition.
-/
import Derived.Lib.ParseIntB
namespace Go.Proofs.YticikmkehobblaaDoor.M

abbrev Text := List UInt8

/-! ### numerals -/
def dchar (d : Nat) : UInt8 := UInt8.ofNat (48 + d)
theorem dchar_toNat {d : Nat} (h : d < 10) : (dchar d).toNat = 48 + d := by
  unfold dchar; simp; omega

def dig (n : Nat) : Text := if n < 10 then [dchar n] else dig (n / 10) ++ [dchar (n % 10)]
termination_by n
decreasing_by omega

theorem dig_lt {n : Nat} (h : n < 10) : dig n = [dchar n] := by rw [dig, if_pos h]
theorem dig_ge {n : Nat} (h : ¬ n < 10) : dig n = dig (n / 10) ++ [dchar (n % 10)] := by rw [dig, if_neg h]

def numT (n : Int) : Text := if n < 0 then 45 :: dig n.natAbs else dig n.natAbs

def valN (l : Text) : Nat := l.foldl (fun a c => 10 * a + (c.toNat - 48)) 0
theorem valN_snoc (l : Text) (c : UInt8) : valN (l ++ [c]) = 10 * valN l + (c.toNat - 48) := by simp [valN, List.foldl_append]
theorem valN_nil : valN [] = 0 := rfl

theorem valN_dig (n : Nat) : valN (dig n) = n := by
  induction n using Nat.strongRecOn with
  | _ n ih =>
    by_cases h : n < 10
    · rw [dig_lt h]; simp [valN, dchar_toNat h]
    · rw [dig_ge h, valN_snoc, ih (n / 10) (by omega), dchar_toNat (by omega)]; omega

def isDig (c : UInt8) : Prop := 48 ≤ c.toNat ∧ c.toNat ≤ 57

theorem dig_isDig (n : Nat) : ∀ c ∈ dig n, isDig c := by
  induction n using Nat.strongRecOn with
  | _ n ih =>
    intro c hc
    by_cases h : n < 10
    · rw [dig_lt h] at hc
      simp at hc; subst hc
      unfold isDig; rw [dchar_toNat h]; omega
    · rw [dig_ge h, List.mem_append] at hc
      rcases hc with hc | hc
      · exact ih (n / 10) (by omega) c hc
      · simp at hc; subst hc
        unfold isDig; rw [dchar_toNat (by omega)]; omega

theorem dig_ne (n : Nat) : dig n ≠ [] := by
  by_cases h : n < 10
  · rw [dig_lt h]; simp
  · rw [dig_ge h]; simp

theorem dig_pos (n : Nat) : 0 < (dig n).length := List.length_pos_iff.2 (dig_ne n)

theorem dig_length (k : Nat) : ∀ n, n < 10 ^ (k + 1) → (dig n).length ≤ k + 1 := by
  induction k with
  | zero => intro n h; rw [dig_lt (by simpa using h)]; simp
  | succ k ih =>
    intro n h
    by_cases h10 : n < 10
    · rw [dig_lt h10]; simp
    · rw [dig_ge h10, List.length_append]
      have := ih (n / 10) (by rw [Nat.pow_succ] at h; omega)
      simp; omega

theorem dig_take (n k : Nat) (hk : k < (dig n).length) : valN ((dig n).take k) ≤ n / 10 := by
  induction n using Nat.strongRecOn generalizing k with
  | _ n ih =>
    by_cases h : n < 10
    · rw [dig_lt h] at hk ⊢
      simp at hk; subst hk; simp [valN]
    · rw [dig_ge h] at hk ⊢
      simp at hk
      rw [List.take_append_of_le_length (by omega)]
      by_cases hl : k = (dig (n / 10)).length
      · subst hl; rw [List.take_length, valN_dig]; omega
      · have := ih (n / 10) (by omega) k (by omega); omega

theorem head_app {l r : Text} (h : l ≠ []) : (l ++ r).head? = l.head? := by cases l <;> simp_all

/-- a numeral begins with 0 only if it is 0's -/
theorem dig_head (n : Nat) (h : (dig n).head? = some 48) : n = 0 := by
  induction n using Nat.strongRecOn with
  | _ n ih =>
    by_cases h10 : n < 10
    · rw [dig_lt h10] at h
      simp at h
      have := congrArg UInt8.toNat h
      rw [dchar_toNat h10] at this
      simp at this; omega
    · rw [dig_ge h10, head_app (dig_ne _)] at h
      have := ih (n / 10) (by omega) h
      omega

/-- digits without a needless 0 are the numeral of their value -/
theorem dig_valN (l : Text) (hne : l ≠ []) (hd : ∀ c ∈ l, isDig c) (h0 : l.length = 1 ∨ l.head? ≠ some 48) : dig (valN l) = l := by
  have key : ∀ (n : Nat) (l : Text), l.length = n + 1 → (∀ c ∈ l, isDig c) → (l.length = 1 ∨ l.head? ≠ some 48) → dig (valN l) = l ∧ (l.head? ≠ some 48 → 1 ≤ valN l) := by
    intro n
    induction n with
    | zero =>
      intro l hl hd h0
      obtain ⟨c, rfl⟩ : ∃ c, l = [c] := List.length_eq_one_iff.1 (by omega)
      have hc := hd c (by simp)
      unfold isDig at hc
      have hv : valN [c] = c.toNat - 48 := by simp [valN]
      rw [hv, dig_lt (by omega)]
      refine ⟨?_, ?_⟩
      · congr 1; unfold dchar
        apply UInt8.toNat_inj.1; simp; omega
      · intro hh
        have : c ≠ 48 := by simpa using hh
        have : c.toNat ≠ 48 := fun e => this (UInt8.toNat_inj.1 (by simpa using e))
        omega
    | succ n ih =>
      intro l hl hd h0
      have hl0 : l ≠ [] := by intro e; subst e; simp at hl
      obtain ⟨r, c, rfl⟩ : ∃ r c, l = r ++ [c] := ⟨l.dropLast, l.getLast hl0, (List.dropLast_concat_getLast hl0).symm⟩
      simp at hl
      have hr0 : r ≠ [] := by intro e; subst e; simp at hl
      have hh : (r ++ [c]).head? = r.head? := head_app hr0
      have h0' : r.head? ≠ some 48 := by
        rcases h0 with h0 | h0
        · rw [List.length_append, List.length_singleton] at h0; omega
        · rwa [hh] at h0
      obtain ⟨e, p⟩ := ih r hl (fun c hc => hd c (by simp [hc])) (.inr h0')
      have hc := hd c (by simp)
      unfold isDig at hc
      have hv := p h0'
      rw [valN_snoc, dig_ge (by omega), show (10 * valN r + (c.toNat - 48)) / 10 = valN r by omega, show (10 * valN r + (c.toNat - 48)) % 10 = c.toNat - 48 by omega, e]
      refine ⟨?_, fun _ => by omega⟩
      congr 2; unfold dchar
      apply UInt8.toNat_inj.1; simp; omega
  have hl : l.length = (l.length - 1) + 1 := by have := List.length_pos_iff.2 hne; omega
  exact (key _ l hl hd h0).1

def val (l : Text) : Int := match l with | c :: r => if c = 45 then -(valN r : Int) else (valN l : Int) | [] => 0

theorem isDig_ne {c : UInt8} (h : isDig c) (d : UInt8) (hd : d.toNat < 48 ∨ 57 < d.toNat) : c ≠ d := by
  rintro rfl; unfold isDig at h; omega

theorem val_dig (n : Nat) : val (dig n) = n := by
  rcases hd : dig n with _ | ⟨c, r⟩
  · exact absurd hd (dig_ne n)
  · have hc : isDig c := dig_isDig n c (by rw [hd]; simp)
    have hne := isDig_ne hc 45 (.inl (by decide))
    have hv := valN_dig n
    rw [hd] at hv
    simp [val, hne, hv]

theorem val_numT (n : Int) : val (numT n) = n := by
  unfold numT
  by_cases h : n < 0
  · rw [if_pos h]; simp [val, valN_dig]; omega
  · rw [if_neg h, val_dig]; omega

theorem numT_inj {a b : Int} (h : numT a = numT b) : a = b := by rw [← val_numT a, h, val_numT]

def inR (n : Int) : Prop := -9223372036854775808 ≤ n ∧ n ≤ 9223372036854775807
instance (n : Int) : Decidable (inR n) := by unfold inR; infer_instance

def intT (l : Text) : Option Int := if inR (val l) ∧ numT (val l) = l then some (val l) else none

theorem intT_some {l : Text} {n : Int} (h : inR n) (e : numT n = l) : intT l = some n := by
  subst e; unfold intT; rw [val_numT, if_pos ⟨h, rfl⟩]
theorem intT_none {l : Text} (h : ∀ n, inR n → numT n ≠ l) : intT l = none := by
  unfold intT; rw [if_neg fun ⟨a, b⟩ => h _ a b]
theorem intT_spec {l : Text} {n : Int} (h : intT l = some n) : inR n ∧ numT n = l := by
  unfold intT at h; split at h
  · injection h with h; subst h; assumption
  · cases h

theorem numT_length {n : Int} (h : inR n) : (numT n).length ≤ 20 := by
  unfold inR at h; unfold numT
  have := dig_length 18 n.natAbs
  by_cases h0 : n < 0
  · rw [if_pos h0]; simp; have := this (by omega); omega
  · rw [if_neg h0]; have := this (by omega); omega

theorem numT_nat (n : Nat) : numT n = dig n := by unfold numT; rw [if_neg (by omega)]; rfl

/-! ### strconv.ParseInt at a numeral -/
theorem parseM (l : Text) : ∀ acc, (∀ c ∈ l, isDig c) → l.foldl (fun a c => 10 * a + (c.toNat - 48)) acc ≤ 9223372036854775808 →
    Lib.parseUintM 18446744073709551615 acc l = .ok (l.foldl (fun a c => 10 * a + (c.toNat - 48)) acc) := by
  have mono : ∀ (l : Text) (acc : Nat), acc ≤ l.foldl (fun a c => 10 * a + (c.toNat - 48)) acc := by
    intro l
    induction l with
    | nil => intro acc; exact Nat.le_refl _
    | cons c r ih => intro acc; have := ih (10 * acc + (c.toNat - 48)); simp only [List.foldl_cons]; omega
  induction l with
  | nil => intro acc _ _; rfl
  | cons c r ih =>
    intro acc hd hb
    have hc := hd c (by simp)
    unfold isDig at hc
    simp only [List.foldl_cons] at hb ⊢
    have hm := mono r (10 * acc + (c.toNat - 48))
    unfold Lib.parseUintM
    rw [if_pos hc, if_neg (by omega), if_neg (by omega), show acc * 10 + (c.toNat - 48) = 10 * acc + (c.toNat - 48) by omega]
    exact ih _ (fun c hc => hd c (by simp [hc])) hb

theorem parseB (n : Nat) (h : n ≤ 9223372036854775808) : Lib.parseUintB 64 (dig n) = .ok n := by
  unfold Lib.parseUintB
  rw [if_neg (dig_ne n)]
  have := parseM (dig n) 0 (dig_isDig n) (by have := valN_dig n; unfold valN at this; omega)
  have hv := valN_dig n
  unfold valN at hv
  rw [hv] at this
  exact this

theorem parse_numT {n : Int} (h : inR n) : Lib.parseIntB 64 (numT n) = .ok n := by
  unfold inR at h
  unfold numT
  by_cases h0 : n < 0
  · rw [if_pos h0]
    simp only [Lib.parseIntB]
    rw [if_pos (.inr (by decide)), parseB _ (by omega)]
    have e : (45 : UInt8).toNat = 45 := by decide
    simp only [e]
    rw [if_neg (by simp), if_neg (by omega)]
    simp; omega
  · rw [if_neg h0]
    rcases hd : dig n.natAbs with _ | ⟨c, r⟩
    · exact absurd hd (dig_ne _)
    · have hc : isDig c := dig_isDig n.natAbs c (by rw [hd]; simp)
      unfold isDig at hc
      have hp := parseB n.natAbs (by omega)
      rw [hd] at hp
      simp only [Lib.parseIntB]
      rw [if_neg (by omega), hp]
      simp only []
      rw [if_neg (by omega), if_neg (by omega), if_neg (by omega)]
      congr 1; omega

end Go.Proofs.YticikmkehobblaaDoor.M

namespace Go.Proofs.YticikmkehobblaaDoor.M

/-! ### strands -/
def strand (x : Text) : Text := numT x.length ++ 58 :: (x ++ [44])
def tieT (l : List Text) : Text := (l.map strand).flatten

theorem tieT_nil : tieT [] = [] := rfl
theorem tieT_cons (x : Text) (l : List Text) : tieT (x :: l) = strand x ++ tieT l := by simp [tieT]
theorem tieT_append (a b : List Text) : tieT (a ++ b) = tieT a ++ tieT b := by simp [tieT]
theorem tieT_snoc (a : List Text) (x : Text) : tieT (a ++ [x]) = tieT a ++ strand x := by simp [tieT]

theorem strand_ne (x : Text) : strand x ≠ [] := by unfold strand; simp
theorem strand_length (x : Text) : (strand x).length = (numT x.length).length + x.length + 2 := by unfold strand; simp; omega

theorem no58 (n : Nat) : (58 : UInt8) ∉ numT (n : Int) := by
  intro h
  rw [numT_nat] at h
  have := dig_isDig n 58 h
  unfold isDig at this
  exact absurd this.2 (by decide)

theorem split58 : ∀ (p q u v : Text), (58 : UInt8) ∉ p → (58 : UInt8) ∉ q → p ++ 58 :: u = q ++ 58 :: v → p = q ∧ u = v
  | [], [], u, v, _, _, h => by simpa using h
  | [], d :: q, u, v, _, hq, h => by
    simp at h; exact absurd h.1 (fun e => hq (by simp [e]))
  | c :: p, [], u, v, hp, _, h => by
    simp at h; exact absurd h.1 (fun e => hp (by simp [← e]))
  | c :: p, d :: q, u, v, hp, hq, h => by
    simp at h
    obtain ⟨e1, e2⟩ := split58 p q u v (fun m => hp (by simp [m])) (fun m => hq (by simp [m])) h.2
    exact ⟨by rw [h.1, e1], e2⟩

theorem strand_app (x r : Text) : strand x ++ r = numT x.length ++ 58 :: (x ++ 44 :: r) := by unfold strand; simp

theorem strand_inj {x y r t : Text} (h : strand x ++ r = strand y ++ t) : x = y ∧ r = t := by
  rw [strand_app, strand_app] at h
  obtain ⟨h1, h2⟩ := split58 _ _ _ _ (no58 _) (no58 _) h
  have hl : x.length = y.length := by have := numT_inj h1; omega
  obtain ⟨e1, e2⟩ := List.append_inj h2 hl
  exact ⟨e1, by simpa using e2⟩

theorem tie_prefix : ∀ (p l : List Text) (rest : Text), tieT l = tieT p ++ rest → ∃ m, l = p ++ m ∧ rest = tieT m
  | [], l, rest, h => ⟨l, rfl, by simpa [tieT_nil] using h.symm⟩
  | x :: p, l, rest, h => by
    rcases l with _ | ⟨y, l⟩
    · rw [tieT_cons, tieT_nil, List.append_assoc] at h
      have := congrArg List.length h
      have h2 := List.length_pos_iff.2 (strand_ne x)
      simp at this; omega
    · rw [tieT_cons, tieT_cons, List.append_assoc] at h
      obtain ⟨rfl, h2⟩ := strand_inj h
      obtain ⟨m, rfl, hm⟩ := tie_prefix p l rest h2
      exact ⟨m, rfl, hm⟩

theorem tieT_inj {a b : List Text} (h : tieT a = tieT b) : a = b := by
  obtain ⟨m, hm, h2⟩ := tie_prefix b a [] (by simpa using h)
  rcases m with _ | ⟨x, m⟩
  · simpa using hm
  · rw [tieT_cons] at h2
    have := congrArg List.length h2
    have h3 := List.length_pos_iff.2 (strand_ne x)
    simp at this; omega

/-! ### the strand at the front -/
open Classical in
noncomputable def firstT (s : Text) : Option (Text × Text) :=
  if h : ∃ p : Text × Text, s = strand p.1 ++ p.2 ∧ (strand p.1).length ≤ 1048576 then some h.choose else none

theorem first_some {s x r : Text} (h : s = strand x ++ r) (hl : (strand x).length ≤ 1048576) : firstT s = some (x, r) := by
  unfold firstT
  have hx : ∃ p : Text × Text, s = strand p.1 ++ p.2 ∧ (strand p.1).length ≤ 1048576 := ⟨(x, r), h, hl⟩
  rw [dif_pos hx]
  obtain ⟨e1, e2⟩ := strand_inj (h.symm.trans hx.choose_spec.1)
  exact congrArg some (Prod.ext e1.symm e2.symm)
theorem first_none {s : Text} (h : ∀ x r, s = strand x ++ r → (strand x).length ≤ 1048576 → False) : firstT s = none := by
  unfold firstT
  rw [dif_neg]
  rintro ⟨p, h1, h2⟩
  exact h _ _ h1 h2
theorem first_spec {s x r : Text} (h : firstT s = some (x, r)) : s = strand x ++ r ∧ (strand x).length ≤ 1048576 := by
  unfold firstT at h
  split at h
  · rename_i hx
    have := hx.choose_spec
    injection h with h
    rw [h] at this
    exact this
  · cases h

/-- what is near, cut at the first colon, of a text that begins with a strand -/
theorem near_of {s x r : Text} (h : s = strand x ++ r) (hl : (strand x).length ≤ 1048576) :
    s.take 1048576 = numT x.length ++ 58 :: (x ++ 44 :: r.take (1048576 - (strand x).length)) := by
  rw [h, List.take_append, List.take_of_length_le hl, strand_app]

theorem inR_small {n : Nat} (h : n ≤ 1048576) : inR (n : Int) := by unfold inR; omega

theorem strand_small {x : Text} (hl : (strand x).length ≤ 1048576) : x.length ≤ 1048576 := by
  have := strand_length x; omega

theorem first_no_colon {s : Text} (h : (58 : UInt8) ∉ s.take 1048576) : firstT s = none :=
  first_none fun x r e hl => h (by rw [near_of e hl]; simp)

theorem first_cut {s d b : Text} (hn : s.take 1048576 = d ++ 58 :: b) (hd : (58 : UInt8) ∉ d) {x r : Text} (e : s = strand x ++ r) (hl : (strand x).length ≤ 1048576) :
    intT d = some (x.length : Int) ∧ x.length < b.length ∧ b[x.length]? = some 44 := by
  rw [near_of e hl] at hn
  obtain ⟨e1, e2⟩ := split58 _ _ _ _ (no58 _) hd hn
  refine ⟨intT_some (inR_small (strand_small hl)) e1, ?_, ?_⟩
  · rw [← e2]; simp
  · rw [← e2]; simp

theorem first_cut_none {s d b : Text} (hn : s.take 1048576 = d ++ 58 :: b) (hd : (58 : UInt8) ∉ d) (h : intT d = none) : firstT s = none :=
  first_none fun x r e hl => by have := (first_cut hn hd e hl).1; rw [h] at this; cases this
theorem first_cut_far {s d b : Text} {n : Int} (hn : s.take 1048576 = d ++ 58 :: b) (hd : (58 : UInt8) ∉ d) (h : intT d = some n) (h2 : n < 0 ∨ (b.length : Int) ≤ n) : firstT s = none :=
  first_none fun x r e hl => by
    have := first_cut hn hd e hl
    rw [h] at this
    have h3 := Option.some.inj this.1
    omega
theorem first_cut_comma {s d b : Text} {n : Nat} (hn : s.take 1048576 = d ++ 58 :: b) (hd : (58 : UInt8) ∉ d) (h : intT d = some (n : Int)) (h2 : b[n]? ≠ some 44) : firstT s = none :=
  first_none fun x r e hl => by
    have := first_cut hn hd e hl
    rw [h] at this
    have h3 := Option.some.inj this.1
    have h4 : n = x.length := by omega
    rw [h4] at h2
    exact h2 this.2.2
theorem first_cut_some {s d b : Text} {n : Nat} (hn : s.take 1048576 = d ++ 58 :: b) (h : intT d = some (n : Int)) (h1 : n < b.length) (h2 : b[n]? = some 44) :
    firstT s = some (b.take n, s.drop (d.length + 1 + n + 1)) ∧ d.length + 1 + n + 1 ≤ s.length := by
  obtain ⟨_, hnum⟩ := intT_spec h
  have hb : b = b.take n ++ 44 :: b.drop (n + 1) := by
    have e1 := (List.take_append_drop n b).symm
    have e2 : b.drop n = 44 :: b.drop (n + 1) := by
      rw [List.drop_eq_getElem_cons h1]
      rw [List.getElem?_eq_getElem h1] at h2
      rw [Option.some.inj h2]
    rw [e2] at e1
    exact e1
  have hst : strand (b.take n) = d ++ 58 :: (b.take n ++ [44]) := by
    unfold strand; rw [List.length_take, Nat.min_eq_left (by omega), hnum]
  have hlen : (strand (b.take n)).length = d.length + 1 + n + 1 := by rw [hst]; simp; omega
  have hs : s = strand (b.take n) ++ (b.drop (n + 1) ++ s.drop 1048576) := by
    have e1 := (List.take_append_drop 1048576 s).symm
    rw [hn, hb] at e1
    rw [hst]
    simpa using e1
  have hle : (strand (b.take n)).length ≤ 1048576 := by
    have h3 := congrArg List.length hn
    rw [List.length_take] at h3
    simp at h3
    omega
  have hdrop : s.drop (d.length + 1 + n + 1) = b.drop (n + 1) ++ s.drop 1048576 := by
    rw [← hlen]
    conv => lhs; rw [hs]
    exact List.drop_left
  refine ⟨first_some (by rw [hdrop]; exact hs) hle, ?_⟩
  have := congrArg List.length hs
  rw [List.length_append, hlen] at this
  omega

/-! ### knots -/
open Classical in
noncomputable def untieT (s : Text) : Option (List Text) :=
  if h : ∃ l, s = tieT l ∧ l.length ≤ 4096 ∧ s.length ≤ 1048576 then some h.choose else none

theorem untie_some {s : Text} {l : List Text} (h : s = tieT l) (h1 : l.length ≤ 4096) (h2 : s.length ≤ 1048576) : untieT s = some l := by
  unfold untieT
  have hx : ∃ l, s = tieT l ∧ l.length ≤ 4096 ∧ s.length ≤ 1048576 := ⟨l, h, h1, h2⟩
  rw [dif_pos hx]
  exact congrArg some (tieT_inj (h.symm.trans hx.choose_spec.1)).symm
theorem untie_none {s : Text} (h : ∀ l, s = tieT l → l.length ≤ 4096 → s.length ≤ 1048576 → False) : untieT s = none := by
  unfold untieT
  rw [dif_neg]
  rintro ⟨l, h1, h2, h3⟩
  exact h l h1 h2 h3
theorem untie_spec {s : Text} {l : List Text} (h : untieT s = some l) : s = tieT l ∧ l.length ≤ 4096 ∧ s.length ≤ 1048576 := by
  unfold untieT at h
  split at h
  · rename_i hx
    have := hx.choose_spec
    injection h with h
    rw [h] at this
    exact this
  · cases h

theorem untie_long {s : Text} (h : 1048576 < s.length) : untieT s = none := untie_none fun _ _ _ h3 => by omega

/-- no strand at the front of what is left -/
theorem untie_stuck {s0 s : Text} {acc : List Text} (h : s0 = tieT acc ++ s) (hne : s ≠ []) (hf : firstT s = none) : untieT s0 = none :=
  untie_none fun l e _ h3 => by
    obtain ⟨m, rfl, hm⟩ := tie_prefix acc l s (by rw [← e, h])
    rcases m with _ | ⟨x, m⟩
    · exact hne (by rw [hm, tieT_nil])
    · rw [tieT_cons] at hm
      have hl : (strand x).length ≤ 1048576 := by
        have := congrArg List.length h
        rw [hm] at this
        simp at this; omega
      rw [first_some hm hl] at hf
      cases hf
/-- one more would be too many -/
theorem untie_many {s0 s : Text} {acc : List Text} (h : s0 = tieT acc ++ s) (hne : s ≠ []) (hl : acc.length = 4096) : untieT s0 = none :=
  untie_none fun l e h2 _ => by
    obtain ⟨m, rfl, hm⟩ := tie_prefix acc l s (by rw [← e, h])
    rcases m with _ | ⟨x, m⟩
    · exact hne (by rw [hm, tieT_nil])
    · simp at h2; omega
/-- one strand more -/
theorem untie_step {s0 s x r : Text} {acc : List Text} (h : s0 = tieT acc ++ s) (hf : firstT s = some (x, r)) : s0 = tieT (acc ++ [x]) ++ r := by
  rw [h, (first_spec hf).1, tieT_snoc, List.append_assoc]

theorem tie_length (l : List Text) (h : ∀ x ∈ l, x.length ≤ 1048576) : (tieT l).length ≤ 22 * l.length + (l.map List.length).sum := by
  induction l with
  | nil => simp [tieT]
  | cons x l ih =>
    have h1 := ih fun y hy => h y (by simp [hy])
    have h2 := numT_length (inR_small (h x (by simp)))
    have h3 := strand_length x
    rw [tieT_cons, List.length_append]
    simp only [List.length_cons, List.map_cons, List.sum_cons]
    omega

end Go.Proofs.YticikmkehobblaaDoor.M

namespace Go.Proofs.YticikmkehobblaaDoor.M

/-! ### sums -/
def sumStep (p : Nat × Nat) (c : UInt8) : Nat × Nat := ((p.1 + c.toNat) % 65521, (p.2 + (p.1 + c.toNat) % 65521) % 65521)
def sumAB (l : Text) : Nat × Nat := l.foldl sumStep (1, 0)
def sumT (l : Text) : Nat := (sumAB l).2 * 65536 + (sumAB l).1

theorem sumAB_snoc (l : Text) (c : UInt8) : sumAB (l ++ [c]) = sumStep (sumAB l) c := by simp [sumAB, List.foldl_append]
theorem sumAB_lt (l : Text) : (sumAB l).1 < 65521 ∧ (sumAB l).2 < 65521 := by
  rcases List.eq_nil_or_concat l with rfl | ⟨r, c, rfl⟩
  · simp [sumAB]
  · rw [List.concat_eq_append, sumAB_snoc]; unfold sumStep; simp only []; omega
theorem sumT_lt (l : Text) : sumT l < 4294967296 := by have := sumAB_lt l; unfold sumT; omega
theorem sumT_mod (l : Text) : sumT l % 65536 = (sumAB l).1 := by have := sumAB_lt l; unfold sumT; omega

/-- the first of the two numbers is 1 and all bytes, of course -/
theorem sumAB_fst : ∀ (l : Text) (p : Nat × Nat), (l.foldl sumStep p).1 % 65521 = (p.1 + (l.map UInt8.toNat).sum) % 65521
  | [], p => by simp
  | c :: l, p => by
    rw [List.foldl_cons, sumAB_fst l (sumStep p c)]
    unfold sumStep
    simp only [List.map_cons, List.sum_cons]
    omega

theorem sum_set : ∀ (l : Text) (i : Nat) (c : UInt8) (h : i < l.length), ((l.set i c).map UInt8.toNat).sum + l[i].toNat = (l.map UInt8.toNat).sum + c.toNat
  | d :: l, 0, c, _ => by simp; omega
  | d :: l, i + 1, c, h => by
    have := sum_set l i c (by simpa using h)
    simp only [List.set_cons_succ, List.map_cons, List.sum_cons, List.getElem_cons_succ]
    omega

theorem sumAB_set (l : Text) (i : Nat) (c : UInt8) (h : i < l.length) (hne : l[i] ≠ c) : (sumAB (l.set i c)).1 ≠ (sumAB l).1 := by
  intro e
  have h1 := sumAB_fst (l.set i c) (1, 0)
  have h2 := sumAB_fst l (1, 0)
  have h3 := sum_set l i c h
  have e' : ((l.set i c).foldl sumStep (1, 0)).1 = (l.foldl sumStep (1, 0)).1 := e
  rw [e', h2] at h1
  simp only [] at h1
  have hn : l[i].toNat ≠ c.toNat := fun e => hne (UInt8.toNat_inj.1 e)
  have hb1 := UInt8.toNat_lt l[i]
  have hb2 := UInt8.toNat_lt c
  omega

/-! ### hexadecimal digits -/
def hexd (d : Nat) : UInt8 := if d < 10 then UInt8.ofNat (48 + d) else UInt8.ofNat (87 + d)
theorem hexd_toNat {d : Nat} (h : d < 16) : (hexd d).toNat = if d < 10 then 48 + d else 87 + d := by
  unfold hexd; split <;> simp <;> omega
theorem hexd_inj {d e : Nat} (hd : d < 16) (he : e < 16) (h : hexd d = hexd e) : d = e := by
  have := congrArg UInt8.toNat h
  rw [hexd_toNat hd, hexd_toNat he] at this
  split at this <;> split at this <;> omega

/-- the k low digits of n, the highest first -/
def hexT : Nat → Nat → Text
  | 0, _ => []
  | k + 1, n => hexT k (n / 16) ++ [hexd (n % 16)]
theorem hexT_length (k : Nat) : ∀ n, (hexT k n).length = k := by
  induction k with
  | zero => intro n; rfl
  | succ k ih => intro n; simp [hexT, ih]
theorem hexT_cons (k : Nat) : ∀ n, hexT (k + 1) n = hexd (n / 16 ^ k % 16) :: hexT k n := by
  induction k with
  | zero => intro n; simp [hexT]
  | succ k ih =>
    intro n
    rw [hexT, ih (n / 16), Nat.div_div_eq_div_mul, show 16 * 16 ^ k = 16 ^ (k + 1) by rw [Nat.pow_succ]; omega]
    simp [hexT]
theorem hexT_inj (k : Nat) : ∀ m n, hexT k m = hexT k n → m % 16 ^ k = n % 16 ^ k := by
  induction k with
  | zero => intro m n _; simp [Nat.mod_one]
  | succ k ih =>
    intro m n h
    rw [hexT, hexT] at h
    obtain ⟨h1, h2⟩ := List.append_inj' h rfl
    have e1 := ih _ _ h1
    have e2 := hexd_inj (d := m % 16) (e := n % 16) (by omega) (by omega) (by simpa using h2)
    rw [Nat.pow_succ, Nat.mul_comm, Nat.mod_mul, Nat.mod_mul, e1, e2]

/-! ### seals -/
def sealT (s : Text) : Text := s ++ hexT 8 (sumT s)
theorem sealT_length (s : Text) : (sealT s).length = s.length + 8 := by simp [sealT, hexT_length]
def openT (s : Text) : Option Text := if 8 ≤ s.length ∧ sealT (s.take (s.length - 8)) = s then some (s.take (s.length - 8)) else none

theorem open_seal (s : Text) : openT (sealT s) = some s := by
  have h : (sealT s).take ((sealT s).length - 8) = s := by
    rw [sealT_length, Nat.add_sub_cancel]; unfold sealT; exact List.take_left
  unfold openT
  rw [h, if_pos ⟨by rw [sealT_length]; omega, rfl⟩]
theorem open_spec {s x : Text} (h : openT s = some x) : sealT x = s := by
  unfold openT at h
  split at h
  · rename_i hh
    injection h with h
    rw [← h]; exact hh.2
  · cases h

/-- ONE SPOILT BYTE SHOWS. -/
theorem open_spoilt (s : Text) (i : Nat) (c : UInt8) (h : i < (sealT s).length) (hne : (sealT s)[i] ≠ c) : openT ((sealT s).set i c) = none := by
  rcases ho : openT ((sealT s).set i c) with _ | x
  · rfl
  · exfalso
    have hx := open_spec ho
    have hl : x.length = s.length := by
      have := congrArg List.length hx
      rw [List.length_set, sealT_length, sealT_length] at this
      omega
    by_cases hi : i < s.length
    · have hset : (sealT s).set i c = s.set i c ++ hexT 8 (sumT s) := by unfold sealT; rw [List.set_append_left _ _ hi]
      rw [hset] at hx
      unfold sealT at hx
      obtain ⟨e1, e2⟩ := List.append_inj hx (by rw [List.length_set]; exact hl)
      have e3 := hexT_inj 8 _ _ e2
      have e4 : sumT x % 65536 = sumT s % 65536 := by
        have h16 : (16 : Nat) ^ 8 = 65536 * 65536 := by decide
        rw [h16] at e3
        have a := Nat.mod_mul_right_mod (sumT x) 65536 65536
        have b := Nat.mod_mul_right_mod (sumT s) 65536 65536
        rw [← a, ← b, e3]
      rw [sumT_mod, sumT_mod, e1] at e4
      have hget : (sealT s)[i] = s[i] := by unfold sealT; exact List.getElem_append_left hi
      rw [hget] at hne
      exact sumAB_set s i c hi hne e4
    · have hset : (sealT s).set i c = s ++ (hexT 8 (sumT s)).set (i - s.length) c := by unfold sealT; rw [List.set_append_right _ _ (by omega)]
      have hx' := hx
      rw [hset] at hx
      unfold sealT at hx
      obtain ⟨e1, _⟩ := List.append_inj hx hl
      subst e1
      have := congrArg (fun l => l[i]?) hx'
      rw [List.getElem?_set_self h, List.getElem?_eq_getElem h] at this
      exact hne (Option.some.inj this)

end Go.Proofs.YticikmkehobblaaDoor.M

namespace Go.Proofs.YticikmkehobblaaDoor.M

/-- the first k bytes are digits, and n is what they say -/
structure Front (s : Text) (k n : Nat) : Prop where
  le8 : k ≤ 8
  le : k ≤ s.length
  dig : ∀ c ∈ s.take k, isDig c
  val : n = valN (s.take k)
/-- no digit more, or no place for one -/
def Stop (s : Text) (k : Nat) : Prop := k = s.length ∨ k = 8 ∨ ∃ h : k < s.length, ¬ isDig s[k]

theorem valN_lt : ∀ (l : Text), (∀ c ∈ l, isDig c) → valN l < 10 ^ l.length := by
  intro l
  induction h : l.length generalizing l with
  | zero => intro _; rw [List.length_eq_zero_iff.1 h]; decide
  | succ n ih =>
    intro hd
    have h0 : l ≠ [] := by intro e; subst e; simp at h
    obtain ⟨r, c, rfl⟩ : ∃ r c, l = r ++ [c] := ⟨l.dropLast, l.getLast h0, (List.dropLast_concat_getLast h0).symm⟩
    have hr : r.length = n := by simpa using h
    have := ih r hr (fun c hc => hd c (by simp [hc]))
    have hc := hd c (by simp)
    unfold isDig at hc
    rw [valN_snoc, Nat.pow_succ]
    omega

theorem Front.lt {s : Text} {k n : Nat} (h : Front s k n) : n < 100000000 := by
  have h1 := valN_lt _ h.dig
  rw [← h.val, List.length_take, Nat.min_eq_left h.le] at h1
  have h2 : 10 ^ k ≤ 10 ^ 8 := Nat.pow_le_pow_right (by omega) h.le8
  omega

theorem Front.start (s : Text) : Front s 0 0 := ⟨by omega, by omega, by simp, by simp [valN]⟩
theorem Front.step {s : Text} {k n : Nat} (h : Front s k n) (h8 : k < 8) (hk : k < s.length) (hd : isDig s[k]) : Front s (k + 1) (10 * n + (s[k].toNat - 48)) := by
  have e : s.take (k + 1) = s.take k ++ [s[k]] := List.take_succ_eq_append_getElem hk
  refine ⟨by omega, by omega, ?_, ?_⟩
  · intro c hc
    rw [e, List.mem_append] at hc
    rcases hc with hc | hc
    · exact h.dig c hc
    · simp at hc; subst hc; exact hd
  · rw [e, valN_snoc, ← h.val]

theorem front_key {s : Text} {k n : Nat} (h : Front s k n) (hs : Stop s k) {x r : Text} (e : s = strand x ++ r) (hl : (strand x).length ≤ 1048576) :
    0 < k ∧ k < s.length ∧ s[k]? = some 58 ∧ ¬ (1 < k ∧ s[0]? = some 48) ∧ k + n + 2 ≤ s.length ∧ k + n + 2 ≤ 1048576 ∧ s[k + 1 + n]? = some 44 := by
  have hx := strand_small hl
  have e2 := e
  rw [strand_app, numT_nat] at e2
  have hD : (dig x.length).length ≤ 7 := dig_length 6 _ (by omega)
  have hD0 := dig_pos x.length
  have hat : ∀ i (hi : i < (dig x.length).length), s[i]? = some (dig x.length)[i] := by
    intro i hi; rw [e2, List.getElem?_append_left hi, List.getElem?_eq_getElem hi]
  have hcol : s[(dig x.length).length]? = some 58 := by rw [e2]; simp
  have hlen : s.length = (dig x.length).length + 1 + x.length + 1 + r.length := by rw [e2]; simp; omega
  have hk : k = (dig x.length).length := by
    rcases Nat.lt_trichotomy k (dig x.length).length with hlt | heq | hgt
    · exfalso
      rcases hs with hs | hs | ⟨h1, h2⟩
      · omega
      · omega
      · have := hat k hlt
        rw [List.getElem?_eq_getElem h1] at this
        rw [Option.some.inj this] at h2
        exact h2 (dig_isDig _ _ (List.getElem_mem hlt))
    · exact heq
    · exfalso
      have hm : (58 : UInt8) ∈ s.take k := by
        rw [List.mem_take_iff_getElem]
        refine ⟨(dig x.length).length, by have := h.le; omega, ?_⟩
        have := hcol
        rw [List.getElem?_eq_getElem (by omega)] at this
        exact Option.some.inj this
      have := h.dig _ hm
      unfold isDig at this
      exact absurd this.2 (by decide)
  have htk : s.take k = dig x.length := by rw [e2, hk]; exact List.take_left
  have hn : n = x.length := by rw [h.val, htk, valN_dig]
  subst hn
  have hst := strand_length x
  rw [numT_nat] at hst
  refine ⟨by omega, by omega, by rw [hk]; exact hcol, ?_, by omega, by omega, ?_⟩
  · rintro ⟨h1, h2⟩
    have h3 := hat 0 hD0
    rw [h2] at h3
    have h4 : (dig x.length).head? = some 48 := by rw [List.head?_eq_getElem?, List.getElem?_eq_getElem hD0, ← Option.some.inj h3]
    have h5 := dig_head _ h4
    rw [h5] at hk
    rw [dig_lt (by omega)] at hk
    simp at hk; omega
  · have hj : k + 1 + x.length - (dig x.length).length = x.length + 1 := by omega
    rw [e2, List.getElem?_append_right (by omega), hj]
    simp

theorem front_none {s : Text} {k n : Nat} (h : Front s k n) (hs : Stop s k)
    (hc : ¬ (0 < k ∧ k < s.length ∧ s[k]? = some 58 ∧ ¬ (1 < k ∧ s[0]? = some 48) ∧ k + n + 2 ≤ s.length ∧ k + n + 2 ≤ 1048576 ∧ s[k + 1 + n]? = some 44)) : firstT s = none :=
  first_none fun _ _ e hl => hc (front_key h hs e hl)

theorem front_some {s : Text} {k n : Nat} (h : Front s k n) (h0 : 0 < k) (h58 : s[k]? = some 58) (hz : ¬ (1 < k ∧ s[0]? = some 48)) (hl : k + n + 2 ≤ 1048576) (h44 : s[k + 1 + n]? = some 44) :
    firstT s = some ((s.drop (k + 1)).take n, s.drop (k + 2 + n)) := by
  have hlen : k + 1 + n < s.length := (List.getElem?_eq_some_iff.1 h44).1
  have hD : dig n = s.take k := by
    rw [h.val]
    refine dig_valN _ ?_ h.dig ?_
    · intro e
      have := congrArg List.length e
      rw [List.length_take, Nat.min_eq_left h.le] at this
      simp at this; omega
    · rw [List.length_take, Nat.min_eq_left h.le]
      by_cases h1 : k = 1
      · exact .inl h1
      · right
        rw [List.head?_take, if_neg (by omega), List.head?_eq_getElem?]
        exact fun e => hz ⟨by omega, e⟩
  have hx : ((s.drop (k + 1)).take n).length = n := by rw [List.length_take, List.length_drop]; omega
  have e1 : s.drop k = 58 :: s.drop (k + 1) := by
    rw [List.drop_eq_getElem_cons (by omega)]
    rw [List.getElem?_eq_getElem (by omega)] at h58
    rw [Option.some.inj h58]
  have e3 : s.drop (k + 1 + n) = 44 :: s.drop (k + 2 + n) := by
    rw [List.drop_eq_getElem_cons hlen]
    rw [List.getElem?_eq_getElem hlen] at h44
    rw [Option.some.inj h44, show k + 1 + n + 1 = k + 2 + n by omega]
  have e2 : s.drop (k + 1) = (s.drop (k + 1)).take n ++ 44 :: s.drop (k + 2 + n) := by
    have e4 : s.drop (k + 1 + n) = (s.drop (k + 1)).drop n := by rw [List.drop_drop]
    rw [← e3, e4, List.take_append_drop]
  have es : s = strand ((s.drop (k + 1)).take n) ++ s.drop (k + 2 + n) := by
    rw [strand_app, hx, numT_nat, hD, ← e2, ← e1, List.take_append_drop]
  refine first_some es ?_
  rw [strand_length, hx, numT_nat, hD, List.length_take, Nat.min_eq_left h.le]
  omega

end Go.Proofs.YticikmkehobblaaDoor.M
