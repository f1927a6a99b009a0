/-
  THE PLAIN MATHEMATICS OF PACKAGE knot, of no program: decimal numerals, strands, knots, sums, seals, as functions on lists of bytes, and what is used of them. No condition.
-/
import Derived.Lib.ParseIntB
namespace Go.Proofs.YtimodohcihnoiaaDoor.M

abbrev Text := List UInt8

/-! ### numerals -/
def dchar (d : Nat) : UInt8 := UInt8.ofNat (48 + d)
theorem dchar_toNat {d : Nat} (h : d < 10) : (dchar d).toNat = 48 + d := by
  unfold dchar; simp; omega

def dig (n : Nat) : Text := if n < 10 then [dchar n] else dig (n / 10) ++ [dchar (n % 10)]
termination_by n
decreasing_by omega

theorem dig_lt {n : Nat} (h : n < 10) : dig n = [dchar n] := by rw [dig, if_pos h]
theorem dig_ge {n : Nat} (h : ¬ n < 10) : dig n = dig (n / 10) ++ [dchar (n % 10)] := by rw [dig, if_neg h]

def numT (n : Int) : Text := if n < 0 then 45 :: dig n.natAbs else dig n.natAbs

def valN (l : Text) : Nat := l.foldl (fun a c => 10 * a + (c.toNat - 48)) 0
theorem valN_snoc (l : Text) (c : UInt8) : valN (l ++ [c]) = 10 * valN l + (c.toNat - 48) := by simp [valN, List.foldl_append]
theorem valN_nil : valN [] = 0 := rfl

theorem valN_dig (n : Nat) : valN (dig n) = n := by
  induction n using Nat.strongRecOn with
  | _ n ih =>
    by_cases h : n < 10
    · rw [dig_lt h]; simp [valN, dchar_toNat h]
    · rw [dig_ge h, valN_snoc, ih (n / 10) (by omega), dchar_toNat (by omega)]; omega

def isDig (c : UInt8) : Prop := 48 ≤ c.toNat ∧ c.toNat ≤ 57

theorem dig_isDig (n : Nat) : ∀ c ∈ dig n, isDig c := by
  induction n using Nat.strongRecOn with
  | _ n ih =>
    intro c hc
    by_cases h : n < 10
    · rw [dig_lt h] at hc
      simp at hc; subst hc
      unfold isDig; rw [dchar_toNat h]; omega
    · rw [dig_ge h, List.mem_append] at hc
      rcases hc with hc | hc
      · exact ih (n / 10) (by omega) c hc
      · simp at hc; subst hc
        unfold isDig; rw [dchar_toNat (by omega)]; omega

theorem dig_ne (n : Nat) : dig n ≠ [] := by
  by_cases h : n < 10
  · rw [dig_lt h]; simp
  · rw [dig_ge h]; simp

theorem dig_pos (n : Nat) : 0 < (dig n).length := List.length_pos_iff.2 (dig_ne n)

theorem dig_length (k : Nat) : ∀ n, n < 10 ^ (k + 1) → (dig n).length ≤ k + 1 := by
  induction k with
  | zero => intro n h; rw [dig_lt (by simpa using h)]; simp
  | succ k ih =>
    intro n h
    by_cases h10 : n < 10
    · rw [dig_lt h10]; simp
    · rw [dig_ge h10, List.length_append]
      have := ih (n / 10) (by rw [Nat.pow_succ] at h; omega)
      simp; omega

theorem dig_take (n k : Nat) (hk : k < (dig n).length) : valN ((dig n).take k) ≤ n / 10 := by
  induction n using Nat.strongRecOn generalizing k with
  | _ n ih =>
    by_cases h : n < 10
    · rw [dig_lt h] at hk ⊢
      simp at hk; subst hk; simp [valN]
    · rw [dig_ge h] at hk ⊢
      simp at hk
      rw [List.take_append_of_le_length (by omega)]
      by_cases hl : k = (dig (n / 10)).length
      · subst hl; rw [List.take_length, valN_dig]; omega
      · have := ih (n / 10) (by omega) k (by omega); omega

theorem head_app {l r : Text} (h : l ≠ []) : (l ++ r).head? = l.head? := by cases l <;> simp_all

/-- a numeral begins with 0 only if it is 0's -/
theorem dig_head (n : Nat) (h : (dig n).head? = some 48) : n = 0 := by
  induction n using Nat.strongRecOn with
  | _ n ih =>
    by_cases h10 : n < 10
    · rw [dig_lt h10] at h
      simp at h
      have := congrArg UInt8.toNat h
      rw [dchar_toNat h10] at this
      simp at this; omega
    · rw [dig_ge h10, head_app (dig_ne _)] at h
      have := ih (n / 10) (by omega) h
      omega

/-- digits without a needless 0 are the numeral of their value -/
theorem dig_valN (l : Text) (hne : l ≠ []) (hd : ∀ c ∈ l, isDig c) (h0 : l.length = 1 ∨ l.head? ≠ some 48) : dig (valN l) = l := by
  have key : ∀ (n : Nat) (l : Text), l.length = n + 1 → (∀ c ∈ l, isDig c) → (l.length = 1 ∨ l.head? ≠ some 48) → dig (valN l) = l ∧ (l.head? ≠ some 48 → 1 ≤ valN l) := by
    intro n
    induction n with
    | zero =>
      intro l hl hd h0
      obtain ⟨c, rfl⟩ : ∃ c, l = [c] := List.length_eq_one_iff.1 (by omega)
      have hc := hd c (by simp)
      unfold isDig at hc
      have hv : valN [c] = c.toNat - 48 := by simp [valN]
      rw [hv, dig_lt (by omega)]
      refine ⟨?_, ?_⟩
      · congr 1; unfold dchar
        apply UInt8.toNat_inj.1; simp; omega
      · intro hh
        have : c ≠ 48 := by simpa using hh
        have : c.toNat ≠ 48 := fun e => this (UInt8.toNat_inj.1 (by simpa using e))
        omega
    | succ n ih =>
      intro l hl hd h0
      have hl0 : l ≠ [] := by intro e; subst e; simp at hl
      obtain ⟨r, c, rfl⟩ : ∃ r c, l = r ++ [c] := ⟨l.dropLast, l.getLast hl0, (List.dropLast_concat_getLast hl0).symm⟩
      simp at hl
      have hr0 : r ≠ [] := by intro e; subst e; simp at hl
      have hh : (r ++ [c]).head? = r.head? := head_app hr0
      have h0' : r.head? ≠ some 48 := by
        rcases h0 with h0 | h0
        · rw [List.length_append, List.length_singleton] at h0; omega
        · rwa [hh] at h0
      obtain ⟨e, p⟩ := ih r hl (fun c hc => hd c (by simp [hc])) (.inr h0')
      have hc := hd c (by simp)
      unfold isDig at hc
      have hv := p h0'
      rw [valN_snoc, dig_ge (by omega), show (10 * valN r + (c.toNat - 48)) / 10 = valN r by omega, show (10 * valN r + (c.toNat - 48)) % 10 = c.toNat - 48 by omega, e]
      refine ⟨?_, fun _ => by omega⟩
      congr 2; unfold dchar
      apply UInt8.toNat_inj.1; simp; omega
  have hl : l.length = (l.length - 1) + 1 := by have := List.length_pos_iff.2 hne; omega
  exact (key _ l hl hd h0).1

def val (l : Text) : Int := match l with | c :: r => if c = 45 then -(valN r : Int) else (valN l : Int) | [] => 0

theorem isDig_ne {c : UInt8} (h : isDig c) (d : UInt8) (hd : d.toNat < 48 ∨ 57 < d.toNat) : c ≠ d := by
  rintro rfl; unfold isDig at h; omega

theorem val_dig (n : Nat) : val (dig n) = n := by
  rcases hd : dig n with _ | ⟨c, r⟩
  · exact absurd hd (dig_ne n)
  · have hc : isDig c := dig_isDig n c (by rw [hd]; simp)
    have hne := isDig_ne hc 45 (.inl (by decide))
    have hv := valN_dig n
    rw [hd] at hv
    simp [val, hne, hv]

theorem val_numT (n : Int) : val (numT n) = n := by
  unfold numT
  by_cases h : n < 0
  · rw [if_pos h]; simp [val, valN_dig]; omega
  · rw [if_neg h, val_dig]; omega

theorem numT_inj {a b : Int} (h : numT a = numT b) : a = b := by rw [← val_numT a, h, val_numT]

def inR (n : Int) : Prop := -9223372036854775808 ≤ n ∧ n ≤ 9223372036854775807
instance (n : Int) : Decidable (inR n) := by unfold inR; infer_instance

def intT (l : Text) : Option Int := if inR (val l) ∧ numT (val l) = l then some (val l) else none

theorem intT_some {l : Text} {n : Int} (h : inR n) (e : numT n = l) : intT l = some n := by
  subst e; unfold intT; rw [val_numT, if_pos ⟨h, rfl⟩]
theorem intT_none {l : Text} (h : ∀ n, inR n → numT n ≠ l) : intT l = none := by
  unfold intT; rw [if_neg fun ⟨a, b⟩ => h _ a b]
theorem intT_spec {l : Text} {n : Int} (h : intT l = some n) : inR n ∧ numT n = l := by
  unfold intT at h; split at h
  · injection h with h; subst h; assumption
  · cases h

theorem numT_length {n : Int} (h : inR n) : (numT n).length ≤ 20 := by
  unfold inR at h; unfold numT
  have := dig_length 18 n.natAbs
  by_cases h0 : n < 0
  · rw [if_pos h0]; simp; have := this (by omega); omega
  · rw [if_neg h0]; have := this (by omega); omega

theorem numT_nat (n : Nat) : numT n = dig n := by unfold numT; rw [if_neg (by omega)]; rfl

/-! ### strconv.ParseInt at a numeral -/
theorem parseM (l : Text) : ∀ acc, (∀ c ∈ l, isDig c) → l.foldl (fun a c => 10 * a + (c.toNat - 48)) acc ≤ 9223372036854775808 →
    Lib.parseUintM 18446744073709551615 acc l = .ok (l.foldl (fun a c => 10 * a + (c.toNat - 48)) acc) := by
  have mono : ∀ (l : Text) (acc : Nat), acc ≤ l.foldl (fun a c => 10 * a + (c.toNat - 48)) acc := by
    intro l
    induction l with
    | nil => intro acc; exact Nat.le_refl _
    | cons c r ih => intro acc; have := ih (10 * acc + (c.toNat - 48)); simp only [List.foldl_cons]; omega
  induction l with
  | nil => intro acc _ _; rfl
  | cons c r ih =>
    intro acc hd hb
    have hc := hd c (by simp)
    unfold isDig at hc
    simp only [List.foldl_cons] at hb ⊢
    have hm := mono r (10 * acc + (c.toNat - 48))
    unfold Lib.parseUintM
    rw [if_pos hc, if_neg (by omega), if_neg (by omega), show acc * 10 + (c.toNat - 48) = 10 * acc + (c.toNat - 48) by omega]
    exact ih _ (fun c hc => hd c (by simp [hc])) hb

theorem parseB (n : Nat) (h : n ≤ 9223372036854775808) : Lib.parseUintB 64 (dig n) = .ok n := by
  unfold Lib.parseUintB
  rw [if_neg (dig_ne n)]
  have := parseM (dig n) 0 (dig_isDig n) (by have := valN_dig n; unfold valN at this; omega)
  have hv := valN_dig n
  unfold valN at hv
  rw [hv] at this
  exact this

theorem parse_numT {n : Int} (h : inR n) : Lib.parseIntB 64 (numT n) = .ok n := by
  unfold inR at h
  unfold numT
  by_cases h0 : n < 0
  · rw [if_pos h0]
    simp only [Lib.parseIntB]
    rw [if_pos (.inr (by decide)), parseB _ (by omega)]
    have e : (45 : UInt8).toNat = 45 := by decide
    simp only [e]
    rw [if_neg (by simp), if_neg (by omega)]
    simp; omega
  · rw [if_neg h0]
    rcases hd : dig n.natAbs with _ | ⟨c, r⟩
    · exact absurd hd (dig_ne _)
    · have hc : isDig c := dig_isDig n.natAbs c (by rw [hd]; simp)
      unfold isDig at hc
      have hp := parseB n.natAbs (by omega)
      rw [hd] at hp
      simp only [Lib.parseIntB]
      rw [if_neg (by omega), hp]
      simp only []
      rw [if_neg (by omega), if_neg (by omega), if_neg (by omega)]
      congr 1; omega

end Go.Proofs.YtimodohcihnoiaaDoor.M
