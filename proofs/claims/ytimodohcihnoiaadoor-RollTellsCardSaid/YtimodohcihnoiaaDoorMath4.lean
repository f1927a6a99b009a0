/-
  THE PLAIN MATHEMATICS OF PACKAGE knot, its fourth part, of no program: a strand at the front, read digit by digit. No condition.
-/
import Derived.Test.YtimodohcihnoiaaDoorMath2
namespace Go.Proofs.YtimodohcihnoiaaDoor.M

/-- the first k bytes are digits, and n is what they say -/
structure Front (s : Text) (k n : Nat) : Prop where
  le8 : k ≤ 8
  le : k ≤ s.length
  dig : ∀ c ∈ s.take k, isDig c
  val : n = valN (s.take k)
/-- no digit more, or no place for one -/
def Stop (s : Text) (k : Nat) : Prop := k = s.length ∨ k = 8 ∨ ∃ h : k < s.length, ¬ isDig s[k]

theorem valN_lt : ∀ (l : Text), (∀ c ∈ l, isDig c) → valN l < 10 ^ l.length := by
  intro l
  induction h : l.length generalizing l with
  | zero => intro _; rw [List.length_eq_zero_iff.1 h]; decide
  | succ n ih =>
    intro hd
    have h0 : l ≠ [] := by intro e; subst e; simp at h
    obtain ⟨r, c, rfl⟩ : ∃ r c, l = r ++ [c] := ⟨l.dropLast, l.getLast h0, (List.dropLast_concat_getLast h0).symm⟩
    have hr : r.length = n := by simpa using h
    have := ih r hr (fun c hc => hd c (by simp [hc]))
    have hc := hd c (by simp)
    unfold isDig at hc
    rw [valN_snoc, Nat.pow_succ]
    omega

theorem Front.lt {s : Text} {k n : Nat} (h : Front s k n) : n < 100000000 := by
  have h1 := valN_lt _ h.dig
  rw [← h.val, List.length_take, Nat.min_eq_left h.le] at h1
  have h2 : 10 ^ k ≤ 10 ^ 8 := Nat.pow_le_pow_right (by omega) h.le8
  omega

theorem Front.start (s : Text) : Front s 0 0 := ⟨by omega, by omega, by simp, by simp [valN]⟩
theorem Front.step {s : Text} {k n : Nat} (h : Front s k n) (h8 : k < 8) (hk : k < s.length) (hd : isDig s[k]) : Front s (k + 1) (10 * n + (s[k].toNat - 48)) := by
  have e : s.take (k + 1) = s.take k ++ [s[k]] := List.take_succ_eq_append_getElem hk
  refine ⟨by omega, by omega, ?_, ?_⟩
  · intro c hc
    rw [e, List.mem_append] at hc
    rcases hc with hc | hc
    · exact h.dig c hc
    · simp at hc; subst hc; exact hd
  · rw [e, valN_snoc, ← h.val]

theorem front_key {s : Text} {k n : Nat} (h : Front s k n) (hs : Stop s k) {x r : Text} (e : s = strand x ++ r) (hl : (strand x).length ≤ 1048576) :
    0 < k ∧ k < s.length ∧ s[k]? = some 58 ∧ ¬ (1 < k ∧ s[0]? = some 48) ∧ k + n + 2 ≤ s.length ∧ k + n + 2 ≤ 1048576 ∧ s[k + 1 + n]? = some 44 := by
  have hx := strand_small hl
  have e2 := e
  rw [strand_app, numT_nat] at e2
  have hD : (dig x.length).length ≤ 7 := dig_length 6 _ (by omega)
  have hD0 := dig_pos x.length
  have hat : ∀ i (hi : i < (dig x.length).length), s[i]? = some (dig x.length)[i] := by
    intro i hi; rw [e2, List.getElem?_append_left hi, List.getElem?_eq_getElem hi]
  have hcol : s[(dig x.length).length]? = some 58 := by rw [e2]; simp
  have hlen : s.length = (dig x.length).length + 1 + x.length + 1 + r.length := by rw [e2]; simp; omega
  have hk : k = (dig x.length).length := by
    rcases Nat.lt_trichotomy k (dig x.length).length with hlt | heq | hgt
    · exfalso
      rcases hs with hs | hs | ⟨h1, h2⟩
      · omega
      · omega
      · have := hat k hlt
        rw [List.getElem?_eq_getElem h1] at this
        rw [Option.some.inj this] at h2
        exact h2 (dig_isDig _ _ (List.getElem_mem hlt))
    · exact heq
    · exfalso
      have hm : (58 : UInt8) ∈ s.take k := by
        rw [List.mem_take_iff_getElem]
        refine ⟨(dig x.length).length, by have := h.le; omega, ?_⟩
        have := hcol
        rw [List.getElem?_eq_getElem (by omega)] at this
        exact Option.some.inj this
      have := h.dig _ hm
      unfold isDig at this
      exact absurd this.2 (by decide)
  have htk : s.take k = dig x.length := by rw [e2, hk]; exact List.take_left
  have hn : n = x.length := by rw [h.val, htk, valN_dig]
  subst hn
  have hst := strand_length x
  rw [numT_nat] at hst
  refine ⟨by omega, by omega, by rw [hk]; exact hcol, ?_, by omega, by omega, ?_⟩
  · rintro ⟨h1, h2⟩
    have h3 := hat 0 hD0
    rw [h2] at h3
    have h4 : (dig x.length).head? = some 48 := by rw [List.head?_eq_getElem?, List.getElem?_eq_getElem hD0, ← Option.some.inj h3]
    have h5 := dig_head _ h4
    rw [h5] at hk
    rw [dig_lt (by omega)] at hk
    simp at hk; omega
  · have hj : k + 1 + x.length - (dig x.length).length = x.length + 1 := by omega
    rw [e2, List.getElem?_append_right (by omega), hj]
    simp

theorem front_none {s : Text} {k n : Nat} (h : Front s k n) (hs : Stop s k)
    (hc : ¬ (0 < k ∧ k < s.length ∧ s[k]? = some 58 ∧ ¬ (1 < k ∧ s[0]? = some 48) ∧ k + n + 2 ≤ s.length ∧ k + n + 2 ≤ 1048576 ∧ s[k + 1 + n]? = some 44)) : firstT s = none :=
  first_none fun _ _ e hl => hc (front_key h hs e hl)

theorem front_some {s : Text} {k n : Nat} (h : Front s k n) (h0 : 0 < k) (h58 : s[k]? = some 58) (hz : ¬ (1 < k ∧ s[0]? = some 48)) (hl : k + n + 2 ≤ 1048576) (h44 : s[k + 1 + n]? = some 44) :
    firstT s = some ((s.drop (k + 1)).take n, s.drop (k + 2 + n)) := by
  have hlen : k + 1 + n < s.length := (List.getElem?_eq_some_iff.1 h44).1
  have hD : dig n = s.take k := by
    rw [h.val]
    refine dig_valN _ ?_ h.dig ?_
    · intro e
      have := congrArg List.length e
      rw [List.length_take, Nat.min_eq_left h.le] at this
      simp at this; omega
    · rw [List.length_take, Nat.min_eq_left h.le]
      by_cases h1 : k = 1
      · exact .inl h1
      · right
        rw [List.head?_take, if_neg (by omega), List.head?_eq_getElem?]
        exact fun e => hz ⟨by omega, e⟩
  have hx : ((s.drop (k + 1)).take n).length = n := by rw [List.length_take, List.length_drop]; omega
  have e1 : s.drop k = 58 :: s.drop (k + 1) := by
    rw [List.drop_eq_getElem_cons (by omega)]
    rw [List.getElem?_eq_getElem (by omega)] at h58
    rw [Option.some.inj h58]
  have e3 : s.drop (k + 1 + n) = 44 :: s.drop (k + 2 + n) := by
    rw [List.drop_eq_getElem_cons hlen]
    rw [List.getElem?_eq_getElem hlen] at h44
    rw [Option.some.inj h44, show k + 1 + n + 1 = k + 2 + n by omega]
  have e2 : s.drop (k + 1) = (s.drop (k + 1)).take n ++ 44 :: s.drop (k + 2 + n) := by
    have e4 : s.drop (k + 1 + n) = (s.drop (k + 1)).drop n := by rw [List.drop_drop]
    rw [← e3, e4, List.take_append_drop]
  have es : s = strand ((s.drop (k + 1)).take n) ++ s.drop (k + 2 + n) := by
    rw [strand_app, hx, numT_nat, hD, ← e2, ← e1, List.take_append_drop]
  refine first_some es ?_
  rw [strand_length, hx, numT_nat, hD, List.length_take, Nat.min_eq_left h.le]
  omega

end Go.Proofs.YtimodohcihnoiaaDoor.M
