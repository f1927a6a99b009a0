/-
  THE PLAIN MATHEMATICS OF PACKAGE knot, its third part, of no program: sums, seals, and that one spoilt byte shows. No condition.
-/
import Derived.Test.YtimodohcihnoiaaDoorMath2
namespace Go.Proofs.YtimodohcihnoiaaDoor.M

/-! ### sums -/
def sumStep (p : Nat × Nat) (c : UInt8) : Nat × Nat := ((p.1 + c.toNat) % 65521, (p.2 + (p.1 + c.toNat) % 65521) % 65521)
def sumAB (l : Text) : Nat × Nat := l.foldl sumStep (1, 0)
def sumT (l : Text) : Nat := (sumAB l).2 * 65536 + (sumAB l).1

theorem sumAB_snoc (l : Text) (c : UInt8) : sumAB (l ++ [c]) = sumStep (sumAB l) c := by simp [sumAB, List.foldl_append]
theorem sumAB_lt (l : Text) : (sumAB l).1 < 65521 ∧ (sumAB l).2 < 65521 := by
  rcases List.eq_nil_or_concat l with rfl | ⟨r, c, rfl⟩
  · simp [sumAB]
  · rw [List.concat_eq_append, sumAB_snoc]; unfold sumStep; simp only []; omega
theorem sumT_lt (l : Text) : sumT l < 4294967296 := by have := sumAB_lt l; unfold sumT; omega
theorem sumT_mod (l : Text) : sumT l % 65536 = (sumAB l).1 := by have := sumAB_lt l; unfold sumT; omega

/-- the first of the two numbers is 1 and all bytes, of course -/
theorem sumAB_fst : ∀ (l : Text) (p : Nat × Nat), (l.foldl sumStep p).1 % 65521 = (p.1 + (l.map UInt8.toNat).sum) % 65521
  | [], p => by simp
  | c :: l, p => by
    rw [List.foldl_cons, sumAB_fst l (sumStep p c)]
    unfold sumStep
    simp only [List.map_cons, List.sum_cons]
    omega

theorem sum_set : ∀ (l : Text) (i : Nat) (c : UInt8) (h : i < l.length), ((l.set i c).map UInt8.toNat).sum + l[i].toNat = (l.map UInt8.toNat).sum + c.toNat
  | d :: l, 0, c, _ => by simp; omega
  | d :: l, i + 1, c, h => by
    have := sum_set l i c (by simpa using h)
    simp only [List.set_cons_succ, List.map_cons, List.sum_cons, List.getElem_cons_succ]
    omega

theorem sumAB_set (l : Text) (i : Nat) (c : UInt8) (h : i < l.length) (hne : l[i] ≠ c) : (sumAB (l.set i c)).1 ≠ (sumAB l).1 := by
  intro e
  have h1 := sumAB_fst (l.set i c) (1, 0)
  have h2 := sumAB_fst l (1, 0)
  have h3 := sum_set l i c h
  have e' : ((l.set i c).foldl sumStep (1, 0)).1 = (l.foldl sumStep (1, 0)).1 := e
  rw [e', h2] at h1
  simp only [] at h1
  have hn : l[i].toNat ≠ c.toNat := fun e => hne (UInt8.toNat_inj.1 e)
  have hb1 := UInt8.toNat_lt l[i]
  have hb2 := UInt8.toNat_lt c
  omega

/-! ### hexadecimal digits -/
def hexd (d : Nat) : UInt8 := if d < 10 then UInt8.ofNat (48 + d) else UInt8.ofNat (87 + d)
theorem hexd_toNat {d : Nat} (h : d < 16) : (hexd d).toNat = if d < 10 then 48 + d else 87 + d := by
  unfold hexd; split <;> simp <;> omega
theorem hexd_inj {d e : Nat} (hd : d < 16) (he : e < 16) (h : hexd d = hexd e) : d = e := by
  have := congrArg UInt8.toNat h
  rw [hexd_toNat hd, hexd_toNat he] at this
  split at this <;> split at this <;> omega

/-- the k low digits of n, the highest first -/
def hexT : Nat → Nat → Text
  | 0, _ => []
  | k + 1, n => hexT k (n / 16) ++ [hexd (n % 16)]
theorem hexT_length (k : Nat) : ∀ n, (hexT k n).length = k := by
  induction k with
  | zero => intro n; rfl
  | succ k ih => intro n; simp [hexT, ih]
theorem hexT_cons (k : Nat) : ∀ n, hexT (k + 1) n = hexd (n / 16 ^ k % 16) :: hexT k n := by
  induction k with
  | zero => intro n; simp [hexT]
  | succ k ih =>
    intro n
    rw [hexT, ih (n / 16), Nat.div_div_eq_div_mul, show 16 * 16 ^ k = 16 ^ (k + 1) by rw [Nat.pow_succ]; omega]
    simp [hexT]
theorem hexT_inj (k : Nat) : ∀ m n, hexT k m = hexT k n → m % 16 ^ k = n % 16 ^ k := by
  induction k with
  | zero => intro m n _; simp [Nat.mod_one]
  | succ k ih =>
    intro m n h
    rw [hexT, hexT] at h
    obtain ⟨h1, h2⟩ := List.append_inj' h rfl
    have e1 := ih _ _ h1
    have e2 := hexd_inj (d := m % 16) (e := n % 16) (by omega) (by omega) (by simpa using h2)
    rw [Nat.pow_succ, Nat.mul_comm, Nat.mod_mul, Nat.mod_mul, e1, e2]

/-! ### seals -/
def sealT (s : Text) : Text := s ++ hexT 8 (sumT s)
theorem sealT_length (s : Text) : (sealT s).length = s.length + 8 := by simp [sealT, hexT_length]
def openT (s : Text) : Option Text := if 8 ≤ s.length ∧ sealT (s.take (s.length - 8)) = s then some (s.take (s.length - 8)) else none

theorem open_seal (s : Text) : openT (sealT s) = some s := by
  have h : (sealT s).take ((sealT s).length - 8) = s := by
    rw [sealT_length, Nat.add_sub_cancel]; unfold sealT; exact List.take_left
  unfold openT
  rw [h, if_pos ⟨by rw [sealT_length]; omega, rfl⟩]
theorem open_spec {s x : Text} (h : openT s = some x) : sealT x = s := by
  unfold openT at h
  split at h
  · rename_i hh
    injection h with h
    rw [← h]; exact hh.2
  · cases h

/-- ONE SPOILT BYTE SHOWS. -/
theorem open_spoilt (s : Text) (i : Nat) (c : UInt8) (h : i < (sealT s).length) (hne : (sealT s)[i] ≠ c) : openT ((sealT s).set i c) = none := by
  rcases ho : openT ((sealT s).set i c) with _ | x
  · rfl
  · exfalso
    have hx := open_spec ho
    have hl : x.length = s.length := by
      have := congrArg List.length hx
      rw [List.length_set, sealT_length, sealT_length] at this
      omega
    by_cases hi : i < s.length
    · have hset : (sealT s).set i c = s.set i c ++ hexT 8 (sumT s) := by unfold sealT; rw [List.set_append_left _ _ hi]
      rw [hset] at hx
      unfold sealT at hx
      obtain ⟨e1, e2⟩ := List.append_inj hx (by rw [List.length_set]; exact hl)
      have e3 := hexT_inj 8 _ _ e2
      have e4 : sumT x % 65536 = sumT s % 65536 := by
        have h16 : (16 : Nat) ^ 8 = 65536 * 65536 := by decide
        rw [h16] at e3
        have a := Nat.mod_mul_right_mod (sumT x) 65536 65536
        have b := Nat.mod_mul_right_mod (sumT s) 65536 65536
        rw [← a, ← b, e3]
      rw [sumT_mod, sumT_mod, e1] at e4
      have hget : (sealT s)[i] = s[i] := by unfold sealT; exact List.getElem_append_left hi
      rw [hget] at hne
      exact sumAB_set s i c hi hne e4
    · have hset : (sealT s).set i c = s ++ (hexT 8 (sumT s)).set (i - s.length) c := by unfold sealT; rw [List.set_append_right _ _ (by omega)]
      have hx' := hx
      rw [hset] at hx
      unfold sealT at hx
      obtain ⟨e1, _⟩ := List.append_inj hx hl
      subst e1
      have := congrArg (fun l => l[i]?) hx'
      rw [List.getElem?_set_self h, List.getElem?_eq_getElem h] at this
      exact hne (Option.some.inj this)

end Go.Proofs.YtimodohcihnoiaaDoor.M
