/-
  THE PLAIN MATHEMATICS OF PACKAGE bound, of no program: texts in their order, bounds, and what the document says follows of them. No condition.
-/
import Derived.Laws.Strings
namespace Go.Proofs.YticikmkehobblaaDoor.O

abbrev Text := List UInt8
abbrev lt (a b : Text) : Bool := Op.bytesLess a b

theorem lt_nil (a : Text) : lt a [] = false := by cases a <;> rfl
theorem nil_lt {a : Text} (h : a ≠ []) : lt [] a = true := by cases a with | nil => exact absurd rfl h | cons c l => rfl
theorem lt_cons (a b : UInt8) (x y : Text) : lt (a :: x) (b :: y) = (decide (a < b) || (a == b && lt x y)) := rfl
theorem u8_lt {a b : UInt8} : a < b ↔ a.toNat < b.toNat := Iff.rfl

theorem lt_irrefl : ∀ a : Text, lt a a = false
  | [] => rfl
  | c :: l => by
    rw [lt_cons, lt_irrefl l]
    simp
theorem lt_trans : ∀ {a b c : Text}, lt a b = true → lt b c = true → lt a c = true
  | _, [], _, h, _ => by rw [lt_nil] at h; cases h
  | [], _ :: _, [], _, h => by rw [lt_nil] at h; cases h
  | [], _ :: _, _ :: _, _, _ => rfl
  | _ :: _, _ :: _, [], _, h => by rw [lt_nil] at h; cases h
  | x :: a, y :: b, z :: c, h, k => by
    rw [lt_cons] at h k ⊢
    simp only [Bool.or_eq_true, Bool.and_eq_true, decide_eq_true_eq, beq_iff_eq] at h k ⊢
    rcases h with h | ⟨rfl, h⟩
    · rcases k with k | ⟨rfl, k⟩
      · left; rw [u8_lt] at *; omega
      · left; exact h
    · rcases k with k | ⟨rfl, k⟩
      · left; exact k
      · right; exact ⟨rfl, lt_trans h k⟩
theorem lt_tri : ∀ a b : Text, lt a b = true ∨ a = b ∨ lt b a = true
  | [], [] => .inr (.inl rfl)
  | [], _ :: _ => .inl rfl
  | _ :: _, [] => .inr (.inr rfl)
  | x :: a, y :: b => by
    rw [lt_cons, lt_cons]
    simp only [Bool.or_eq_true, Bool.and_eq_true, decide_eq_true_eq, beq_iff_eq]
    rcases Nat.lt_trichotomy x.toNat y.toNat with h | h | h
    · exact .inl (.inl h)
    · have e : x = y := UInt8.toNat_inj.1 h
      subst e
      rcases lt_tri a b with h | rfl | h
      · exact .inl (.inr ⟨rfl, h⟩)
      · exact .inr (.inl rfl)
      · exact .inr (.inr (.inr ⟨rfl, h⟩))
    · exact .inr (.inr (.inl h))
theorem lt_asymm {a b : Text} (h : lt a b = true) : lt b a = false := by
  cases k : lt b a
  · rfl
  · have := lt_trans h k; rw [lt_irrefl] at this; cases this
/-- not below: the same, or above -/
theorem le_of {a b : Text} (h : lt a b = false) : b = a ∨ lt b a = true := by
  rcases lt_tri a b with k | k | k
  · rw [h] at k; cases k
  · exact .inl k.symm
  · exact .inr k
theorem le_trans {a b c : Text} (h : lt b a = false) (k : lt c b = false) : lt c a = false := by
  rcases le_of h with rfl | h
  · exact k
  · rcases le_of k with rfl | k
    · exact lt_asymm h
    · exact lt_asymm (lt_trans h k)
theorem lt_of_lt_le {a b c : Text} (h : lt a b = true) (k : lt c b = false) : lt a c = true := by
  rcases le_of k with rfl | k
  · exact h
  · exact lt_trans h k
theorem lt_of_le_lt {a b c : Text} (h : lt b a = false) (k : lt b c = true) : lt a c = true := by
  rcases le_of h with rfl | h
  · exact k
  · exact lt_trans h k
theorem le_antisymm {a b : Text} (h : lt a b = false) (k : lt b a = false) : a = b := by
  rcases lt_tri a b with j | j | j
  · rw [h] at j; cases j
  · exact j
  · rw [k] at j; cases j

theorem lt_app (p a b : Text) : lt (p ++ a) (p ++ b) = lt a b := by
  induction p with
  | nil => rfl
  | cons c p ih => rw [List.cons_append, List.cons_append, lt_cons, ih]; simp
/-- the least text above k -/
theorem lt_next (k : Text) : lt k (k ++ [0]) = true := by
  have := lt_app k [] [0]
  rw [List.append_nil] at this
  rw [this]; rfl
theorem next_le : ∀ {k t : Text}, lt k t = true → lt t (k ++ [0]) = false
  | _, [], h => by rw [lt_nil] at h; cases h
  | [], c :: t, _ => by
    rw [List.nil_append, lt_cons, lt_nil]
    simp [u8_lt]
  | x :: k, y :: t, h => by
    rw [lt_cons] at h
    rw [List.cons_append, lt_cons]
    simp only [Bool.or_eq_true, Bool.and_eq_true, decide_eq_true_eq, beq_iff_eq] at h
    rcases h with h | ⟨rfl, h⟩
    · have h2 : ¬ y < x := by rw [u8_lt] at *; omega
      have h3 : y ≠ x := by rintro rfl; rw [u8_lt] at h; omega
      simp [h2, h3]
    · rw [next_le h]; simp

/-! ### bounds -/
structure Bd where
  f : Text
  t : Text
  deriving DecidableEq

def isB (b : Bd) : Bool := decide (b.f.length ≤ 33) && decide (b.t.length ≤ 33) && (decide (b.t = []) || lt b.f b.t)
def keyB (k : Text) : Bool := decide (1 ≤ k.length) && decide (k.length ≤ 32)
def hasB (b : Bd) (k : Text) : Bool := !lt k b.f && (decide (b.t = []) || lt k b.t)
def meetB (a b : Bd) : Bool := isB a && isB b && (hasB a b.f || hasB b a.f)
def insideB (a b : Bd) : Bool := isB a && isB b && !lt a.f b.f && (decide (b.t = []) || (!decide (a.t = []) && !lt b.t a.t))
def nextB (a b : Bd) : Bool := isB a && isB b && !decide (a.t = []) && decide (a.t = b.f)
def cutB (b : Bd) (k : Text) : Option (Bd × Bd) := if isB b && keyB k && hasB b k && !decide (k = b.f) then some (⟨b.f, k⟩, ⟨k, b.t⟩) else none
def joinB (a b : Bd) : Option Bd := if nextB a b then some ⟨a.f, b.t⟩ else none

theorem isB_iff (b : Bd) : isB b = true ↔ b.f.length ≤ 33 ∧ b.t.length ≤ 33 ∧ (b.t = [] ∨ lt b.f b.t = true) := by simp [isB, and_assoc]
theorem hasB_iff (b : Bd) (k : Text) : hasB b k = true ↔ lt k b.f = false ∧ (b.t = [] ∨ lt k b.t = true) := by simp [hasB]
theorem meetB_iff (a b : Bd) : meetB a b = true ↔ isB a = true ∧ isB b = true ∧ (hasB a b.f = true ∨ hasB b a.f = true) := by simp [meetB, and_assoc]
theorem insideB_iff (a b : Bd) : insideB a b = true ↔ isB a = true ∧ isB b = true ∧ lt a.f b.f = false ∧ (b.t = [] ∨ a.t ≠ [] ∧ lt b.t a.t = false) := by simp [insideB, and_assoc]
theorem nextB_iff (a b : Bd) : nextB a b = true ↔ isB a = true ∧ isB b = true ∧ a.t ≠ [] ∧ a.t = b.f := by simp [nextB, and_assoc]
theorem has_self {b : Bd} (h : isB b = true) : hasB b b.f = true := by
  obtain ⟨_, _, h⟩ := (isB_iff b).1 h
  exact (hasB_iff b _).2 ⟨lt_irrefl _, h⟩

theorem cut_spec {b x y : Bd} {k : Text} (h : cutB b k = some (x, y)) : isB b = true ∧ 1 ≤ k.length ∧ k.length ≤ 32 ∧ lt b.f k = true ∧ (b.t = [] ∨ lt k b.t = true) ∧ x = ⟨b.f, k⟩ ∧ y = ⟨k, b.t⟩ := by
  unfold cutB at h
  split at h
  · rename_i hc
    simp only [Bool.and_eq_true, Bool.not_eq_true', decide_eq_false_iff_not, keyB, decide_eq_true_eq] at hc
    obtain ⟨⟨⟨h1, h2, h3⟩, h4⟩, h5⟩ := hc
    obtain ⟨h6, h7⟩ := (hasB_iff b k).1 h4
    injection h with h
    injection h with hx hy
    refine ⟨h1, h2, h3, ?_, h7, hx.symm, hy.symm⟩
    rcases le_of h6 with e | e
    · exact absurd e.symm h5
    · exact e
  · cases h

/-- WHAT WAS CUT. -/
theorem parts {b x y : Bd} {k : Text} (h : cutB b k = some (x, y)) :
    joinB x y = some b ∧ isB x = true ∧ isB y = true ∧ meetB x y = false ∧ insideB x b = true ∧ insideB y b = true ∧ nextB x y = true ∧ ∀ s, hasB b s = (hasB x s != hasB y s) := by
  obtain ⟨hb, hk1, hk2, hlt, hto, rfl, rfl⟩ := cut_spec h
  obtain ⟨hf, ht, hft⟩ := (isB_iff b).1 hb
  have hk : k ≠ [] := by intro e; subst e; simp at hk1
  have hx : isB ⟨b.f, k⟩ = true := (isB_iff _).2 ⟨hf, by simp only []; omega, .inr hlt⟩
  have hy : isB ⟨k, b.t⟩ = true := (isB_iff _).2 ⟨by simp only []; omega, ht, hto⟩
  have hn : nextB ⟨b.f, k⟩ ⟨k, b.t⟩ = true := (nextB_iff _ _).2 ⟨hx, hy, hk, rfl⟩
  refine ⟨by unfold joinB; rw [if_pos hn], hx, hy, ?_, ?_, ?_, hn, fun s => ?_⟩
  · cases hm : meetB ⟨b.f, k⟩ ⟨k, b.t⟩
    · rfl
    · obtain ⟨_, _, hm⟩ := (meetB_iff _ _).1 hm
      rcases hm with hm | hm
      · obtain ⟨_, hm⟩ := (hasB_iff _ _).1 hm
        rcases hm with hm | hm
        · exact absurd hm hk
        · rw [lt_irrefl] at hm; cases hm
      · obtain ⟨hm, _⟩ := (hasB_iff _ _).1 hm
        simp only [] at hm
        rw [hlt] at hm; cases hm
  · refine (insideB_iff _ _).2 ⟨hx, hb, lt_irrefl _, ?_⟩
    rcases hto with h | h
    · exact .inl h
    · exact .inr ⟨hk, lt_asymm h⟩
  · refine (insideB_iff _ _).2 ⟨hy, hb, lt_asymm hlt, ?_⟩
    by_cases h : b.t = []
    · exact .inl h
    · exact .inr ⟨h, lt_irrefl _⟩
  · unfold hasB
    cases hs : lt s k
    · have h1 : lt s b.f = false := by
        cases h2 : lt s b.f
        · rfl
        · have := lt_trans h2 hlt; rw [hs] at this; cases this
      simp [h1, hk]
    · have h1 : b.t = [] ∨ lt s b.t = true := by
        rcases hto with h | h
        · exact .inl h
        · exact .inr (lt_trans hs h)
      have h2 : (decide (b.t = []) || lt s b.t) = true := by simpa using h1
      simp [h2, hk]

/-- TWO BOUNDS. -/
theorem meet_comm (a b : Bd) : meetB a b = meetB b a := by
  unfold meetB
  rw [Bool.and_comm (isB a), Bool.or_comm (hasB a b.f)]
theorem inside_has {a b : Bd} (h : insideB a b = true) {s : Text} (hs : hasB a s = true) : hasB b s = true := by
  obtain ⟨_, _, h1, h2⟩ := (insideB_iff a b).1 h
  obtain ⟨h3, h4⟩ := (hasB_iff a s).1 hs
  refine (hasB_iff b s).2 ⟨le_trans h1 h3, ?_⟩
  rcases h2 with h2 | ⟨h2, h5⟩
  · exact .inl h2
  · rcases h4 with h4 | h4
    · exact absurd h4 h2
    · exact .inr (lt_of_lt_le h4 h5)
theorem inside_meet {a b : Bd} (h : insideB a b = true) : meetB a b = true := by
  have h' := (insideB_iff a b).1 h
  exact (meetB_iff a b).2 ⟨h'.1, h'.2.1, .inr (inside_has h (has_self h'.1))⟩
theorem inside_both {a b : Bd} (h : insideB a b = true) (k : insideB b a = true) : a = b := by
  obtain ⟨_, _, h1, h2⟩ := (insideB_iff a b).1 h
  obtain ⟨_, _, k1, k2⟩ := (insideB_iff b a).1 k
  have e1 : a.f = b.f := le_antisymm h1 k1
  have e2 : a.t = b.t := by
    rcases h2 with h2 | ⟨h2, h3⟩
    · rcases k2 with k2 | ⟨k2, _⟩
      · rw [h2, k2]
      · exact absurd h2 k2
    · rcases k2 with k2 | ⟨k2, k3⟩
      · exact absurd k2 h2
      · exact le_antisymm k3 h3
  cases a; cases b; simp_all
theorem both_meet {a b : Bd} (ha : isB a = true) (hb : isB b = true) {s : Text} (h : hasB a s = true) (k : hasB b s = true) : meetB a b = true := by
  obtain ⟨h1, h2⟩ := (hasB_iff a s).1 h
  obtain ⟨k1, k2⟩ := (hasB_iff b s).1 k
  refine (meetB_iff a b).2 ⟨ha, hb, ?_⟩
  rcases lt_tri a.f b.f with h3 | h3 | h3
  · left
    refine (hasB_iff _ _).2 ⟨lt_asymm h3, ?_⟩
    rcases h2 with h2 | h2
    · exact .inl h2
    · exact .inr (lt_of_le_lt k1 h2)
  · left; rw [← h3]; exact has_self ha
  · right
    refine (hasB_iff _ _).2 ⟨lt_asymm h3, ?_⟩
    rcases k2 with k2 | k2
    · exact .inl k2
    · exact .inr (lt_of_le_lt h1 k2)
theorem inside_self (a : Bd) : insideB a a = isB a := by
  cases h : isB a
  · simp [insideB, h]
  · refine (insideB_iff a a).2 ⟨h, h, lt_irrefl _, ?_⟩
    by_cases e : a.t = []
    · exact .inl e
    · exact .inr ⟨e, lt_irrefl _⟩

/-! ### whole -/
def chain : List Bd → Bool
  | [] => true
  | [b] => isB b
  | a :: b :: l => nextB a b && chain (b :: l)
/-- where the last one ends -/
def lastT : List Bd → Text
  | [] => []
  | [b] => b.t
  | _ :: b :: l => lastT (b :: l)
def wholeB : List Bd → Bool
  | [] => false
  | a :: l => decide (a.f = []) && chain (a :: l) && decide (lastT (a :: l) = [])

theorem chain_isB : ∀ {l : List Bd}, chain l = true → ∀ b ∈ l, isB b = true
  | [], _, b, h => by cases h
  | [a], hc, b, h => by simp at h; subst h; exact hc
  | a :: c :: l, hc, b, h => by
    simp only [chain, Bool.and_eq_true] at hc
    rcases List.mem_cons.1 h with rfl | h
    · exact ((nextB_iff _ _).1 hc.1).1
    · exact chain_isB hc.2 b h
/-- in a chain that ends at "": what is from its beginning on lies in just one, what is below it in none. -/
theorem chain_count : ∀ (a : Bd) (l : List Bd), chain (a :: l) = true → lastT (a :: l) = [] → ∀ s, ((a :: l).filter fun b => hasB b s).length = if lt s a.f then 0 else 1
  | a, [], hc, hl, s => by
    have hl : a.t = [] := hl
    by_cases h : lt s a.f = true
    · simp [hasB, h]
    · simp [hasB, h, hl]
  | a, b :: l, hc, hl, s => by
    simp only [chain, Bool.and_eq_true] at hc
    obtain ⟨hn, hc⟩ := hc
    obtain ⟨hia, hib, hne, he⟩ := (nextB_iff a b).1 hn
    have ih := chain_count b l hc hl s
    obtain ⟨_, _, hft⟩ := (isB_iff a).1 hia
    have hab : lt a.f b.f = true := by
      rcases hft with h | h
      · exact absurd h hne
      · rw [← he]; exact h
    rw [List.filter_cons]
    cases h1 : lt s a.f
    · cases h2 : lt s b.f
      · have h3 : hasB a s = false := by unfold hasB; rw [h1, he, h2]; simp [← he, hne]
        rw [h3]; simp only [h2] at ih; simpa using ih
      · have h3 : hasB a s = true := by unfold hasB; rw [h1, he, h2]; simp
        rw [h3]; simp only [h2] at ih; simpa using ih
    · have h2 : lt s b.f = true := lt_trans h1 hab
      have h3 : hasB a s = false := by unfold hasB; rw [h1]; rfl
      rw [h3]; simp only [h2] at ih; simpa using ih
/-- EACH TEXT IN JUST ONE. -/
theorem whole_once {l : List Bd} (h : wholeB l = true) (s : Text) : (l.filter fun b => hasB b s).length = 1 := by
  rcases l with _ | ⟨a, l⟩
  · cases h
  · simp only [wholeB, Bool.and_eq_true, decide_eq_true_eq] at h
    obtain ⟨⟨h1, h2⟩, h3⟩ := h
    rw [chain_count a l h2 h3 s, h1, lt_nil]; rfl

/-! ### one of them cut -/
def pieces (k : Text) (b : Bd) : List Bd :=
  match cutB b k with
  | some (x, y) => [x, y]
  | none => [b]
def recut (k : Text) : List Bd → List Bd
  | [] => []
  | b :: l => pieces k b ++ recut k l

theorem chain_recut (k : Text) : ∀ (a : Bd) (l : List Bd), chain (a :: l) = true →
    ∃ c m, recut k (a :: l) = c :: m ∧ c.f = a.f ∧ chain (c :: m) = true ∧ lastT (c :: m) = lastT (a :: l)
  | a, [], hc => by
    have ha : isB a = true := hc
    rcases hcut : cutB a k with _ | ⟨x, y⟩
    · exact ⟨a, [], by simp [recut, pieces, hcut], rfl, hc, rfl⟩
    · have hp := parts hcut
      obtain ⟨_, _, _, _, _, rfl, rfl⟩ := cut_spec hcut
      refine ⟨⟨a.f, k⟩, [⟨k, a.t⟩], by simp only [recut, pieces, hcut]; rfl, rfl, ?_, rfl⟩
      exact Bool.and_eq_true_iff.2 ⟨hp.2.2.2.2.2.2.1, hp.2.2.1⟩
  | a, b :: l, hc => by
    simp only [chain, Bool.and_eq_true] at hc
    obtain ⟨hn, hc⟩ := hc
    obtain ⟨hia, hib, hne, he⟩ := (nextB_iff a b).1 hn
    obtain ⟨c, m, e, hcf, hcc, hlt⟩ := chain_recut k b l hc
    have hic := chain_isB hcc c (by simp)
    rcases hcut : cutB a k with _ | ⟨x, y⟩
    · refine ⟨a, c :: m, by rw [recut, e]; simp [pieces, hcut], rfl, ?_, hlt⟩
      simp only [chain, Bool.and_eq_true]
      exact ⟨(nextB_iff _ _).2 ⟨hia, hic, hne, by rw [hcf]; exact he⟩, hcc⟩
    · have hp := parts hcut
      obtain ⟨_, _, _, _, _, rfl, rfl⟩ := cut_spec hcut
      refine ⟨⟨a.f, k⟩, ⟨k, a.t⟩ :: c :: m, by rw [recut, e]; simp only [pieces, hcut]; rfl, rfl, ?_, hlt⟩
      simp only [chain, Bool.and_eq_true]
      exact ⟨hp.2.2.2.2.2.2.1, (nextB_iff _ _).2 ⟨hp.2.2.1, hic, hne, by rw [hcf]; exact he⟩, hcc⟩
theorem whole_recut {l : List Bd} (h : wholeB l = true) (k : Text) : wholeB (recut k l) = true := by
  rcases l with _ | ⟨a, l⟩
  · cases h
  · simp only [wholeB, Bool.and_eq_true, decide_eq_true_eq] at h
    obtain ⟨⟨h1, h2⟩, h3⟩ := h
    obtain ⟨c, m, e, hcf, hcc, hlt⟩ := chain_recut k a l h2
    rw [e]
    simp only [wholeB, Bool.and_eq_true, decide_eq_true_eq]
    exact ⟨⟨by rw [hcf]; exact h1, hcc⟩, by rw [hlt]; exact h3⟩

/-! ### the directory: c is the byte of the level -/
def metaT (c : UInt8) (t : Text) : Text := c :: if t = [] then List.replicate 31 255 else t
def searchB (c : UInt8) (k : Text) : Bd := ⟨metaT c k ++ [0], [c + 1]⟩

theorem ff_above : ∀ (n : Nat) (k : Text), k.length ≤ n → lt (List.replicate (n + 1) 255) (k ++ [0]) = false
  | n, [], _ => by simp [List.replicate, lt_cons, lt_nil, u8_lt]
  | 0, c :: k, h => by simp at h
  | n + 1, c :: k, h => by
    rw [List.replicate_succ, List.cons_append, lt_cons]
    have ih := ff_above n k (by simpa using h)
    have h1 : ¬ (255 : UInt8) < c := by
      rw [u8_lt]; have := UInt8.toNat_lt c
      show ¬ 255 < c.toNat
      omega
    simp [h1, ih]
theorem search_ok (c : UInt8) (k t : Text) (hc : c = 1 ∨ c = 2) (hk : k ≠ []) (hkl : k.length ≤ 30) (htl : t.length ≤ 30) :
    isB (searchB c k) = true ∧ keyB (metaT c t) = true ∧ hasB (searchB c k) (metaT c t) = (decide (t = []) || lt k t) := by
  have hcc : lt (c :: k) [c + 1] = true := by
    rw [lt_cons]
    rcases hc with rfl | rfl <;> simp
  have hm : metaT c k = c :: k := by unfold metaT; rw [if_neg hk]
  have hup : ∀ r : Text, lt (c :: r) [c + 1] = true := by
    intro r; rw [lt_cons]
    rcases hc with rfl | rfl <;> simp
  refine ⟨(isB_iff _).2 ⟨?_, by simp [searchB], .inr ?_⟩, ?_, ?_⟩
  · simp only [searchB, hm]; simp; omega
  · simp only [searchB, hm, List.cons_append]; exact hup _
  · unfold keyB metaT
    by_cases h : t = []
    · simp [h]
    · simp [h]; omega
  · unfold hasB
    have h1 : (decide ((searchB c k).t = []) || lt (metaT c t) (searchB c k).t) = true := by
      simp only [searchB, metaT, hup]; simp
    rw [h1, Bool.and_true]
    simp only [searchB, metaT, List.cons_append, if_neg hk]
    have h2 : ∀ r : Text, lt (c :: r) (c :: (k ++ [0])) = lt r (k ++ [0]) := by intro r; rw [lt_cons]; simp
    show (!lt (c :: (if t = [] then List.replicate 31 255 else t)) (c :: (k ++ [0]))) = _
    rw [h2]
    by_cases h : t = []
    · rw [if_pos h]
      have := ff_above 30 k hkl
      rw [this]; simp [h]
    · rw [if_neg h]
      simp only [h, decide_false, Bool.false_or]
      cases h3 : lt k t
      · have : lt t (k ++ [0]) = true := lt_of_le_lt h3 (lt_next k)
        rw [this]; rfl
      · rw [next_le h3]; rfl

end Go.Proofs.YticikmkehobblaaDoor.O
