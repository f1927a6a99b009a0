/-
  THE PLAIN MATHEMATICS OF A LEDGER's TAPES, of no program: pages, what stands at a tape's front, a tape's records; a page that is cut off, or spoilt at one byte, is none. No condition.
  THE PLAIN MATHEMATICS OF READING A TAPE PAGE BY PAGE, of no program: the page of any kind at the front, and how a loop comes to what the tape tells. No condition.
  THE PLAIN MATHEMATICS OF A TAPE THAT ENDS WITHIN A RECORD, OR IS SPOILT AT ONE BYTE OF IT; how many bytes pages have. Of no program; no condition.
-/
import Derived.Test.YtglkapamkigdhaaGreatDoorMathAll
namespace Go.Proofs.YtglkapamkigdhaaGreatDoor.M

def kBase : Text := [98, 97, 115, 101]
def kRec : Text := [114, 101, 99]
def bodyT (kind : Text) (n : Int) (s : Text) : Text := tieT [kind, numT n, s]
def pageT (kind : Text) (n : Int) (s : Text) : Text := strand (sealT (bodyT kind n s))

theorem body_eq (kind : Text) (n : Int) (s : Text) : bodyT kind n s = strand kind ++ (strand (numT n) ++ strand s) := by simp [bodyT, tieT]
theorem seal_eq (kind : Text) (n : Int) (s : Text) : ∃ h : Text, h.length = 8 ∧ sealT (bodyT kind n s) = strand kind ++ (strand (numT n) ++ (strand s ++ h)) :=
  ⟨hexT 8 (sumT (bodyT kind n s)), hexT_length 8 _, by unfold sealT; generalize hexT 8 (sumT (bodyT kind n s)) = hh; rw [body_eq]; simp only [List.append_assoc]⟩
theorem seal_inj {a b : Text} (h : sealT a = sealT b) : a = b := by
  have := open_seal a
  rw [h, open_seal] at this
  injection this with this
  exact this.symm
theorem page_ne (kind : Text) (n : Int) (s : Text) : pageT kind n s ≠ [] := strand_ne _
/-- what begins with a page begins with no other one -/
theorem page_inj {k k' : Text} {n n' : Int} {s s' r r' : Text} (h : pageT k n s ++ r = pageT k' n' s' ++ r') : k = k' ∧ n = n' ∧ s = s' ∧ r = r' := by
  obtain ⟨h1, h2⟩ := strand_inj h
  have h3 := tieT_inj (seal_inj h1)
  simp only [List.cons.injEq, and_true] at h3
  exact ⟨h3.1, numT_inj h3.2.1, h3.2.2, h2⟩
theorem body_length {kind : Text} {n : Int} {s : Text} (hk : kind.length ≤ 4) (hn : inR n) (hs : s.length ≤ 524288) : (bodyT kind n s).length ≤ 524400 := by
  have h1 := numT_length hn
  have h := tie_length [kind, numT n, s] (by intro x hx; simp at hx; rcases hx with rfl | rfl | rfl <;> omega)
  simp at h
  unfold bodyT
  omega
theorem page_length {kind : Text} {n : Int} {s : Text} (hk : kind.length ≤ 4) (hn : inR n) (hs : s.length ≤ 524288) : (pageT kind n s).length ≤ 524500 := by
  have h1 := body_length hk hn hs
  have h2 := strand_length (sealT (bodyT kind n s))
  have h3 := numT_length (n := ((sealT (bodyT kind n s)).length : Int)) (by rw [sealT_length]; unfold inR; omega)
  rw [sealT_length] at h2 h3
  unfold pageT
  omega

/-! ### the page at the front -/
open Classical in
noncomputable def readT (kind s : Text) : Option (Int × Text × Text) :=
  if h : ∃ p : Int × Text × Text, s = pageT kind p.1 p.2.1 ++ p.2.2 ∧ inR p.1 ∧ p.2.1.length ≤ 524288 then some h.choose else none
theorem read_some {kind s t r : Text} {n : Int} (h : s = pageT kind n t ++ r) (hn : inR n) (ht : t.length ≤ 524288) : readT kind s = some (n, t, r) := by
  unfold readT
  have hx : ∃ p : Int × Text × Text, s = pageT kind p.1 p.2.1 ++ p.2.2 ∧ inR p.1 ∧ p.2.1.length ≤ 524288 := ⟨(n, t, r), h, hn, ht⟩
  rw [dif_pos hx]
  obtain ⟨_, e1, e2, e3⟩ := page_inj (h.symm.trans hx.choose_spec.1)
  exact congrArg some (Prod.ext e1.symm (Prod.ext e2.symm e3.symm))
theorem read_none {kind s : Text} (h : ∀ n t r, s = pageT kind n t ++ r → inR n → t.length ≤ 524288 → False) : readT kind s = none := by
  unfold readT
  rw [dif_neg]
  rintro ⟨p, h1, h2, h3⟩
  exact h _ _ _ h1 h2 h3
theorem read_spec {kind s t r : Text} {n : Int} (h : readT kind s = some (n, t, r)) : s = pageT kind n t ++ r ∧ inR n ∧ t.length ≤ 524288 := by
  unfold readT at h
  split at h
  · rename_i hx
    have := hx.choose_spec
    injection h with h
    rw [h] at this
    exact this
  · cases h
theorem read_nil (kind : Text) : readT kind [] = none := read_none fun n t r h _ _ => by
  have := congrArg List.length h
  have h2 := List.length_pos_iff.2 (page_ne kind n t)
  simp at this; omega

/-! ### as it is read: First, Open, Untie, Int -/
theorem read_first {kind s : Text} (h : firstT s = none) (hk : kind.length ≤ 4) : readT kind s = none := read_none fun n t r e hn ht => by
  rw [first_some e (Nat.le_trans (page_length hk hn ht) (by decide))] at h
  cases h
theorem read_open {kind s x r : Text} (h : firstT s = some (x, r)) (ho : openT x = none) (hk : kind.length ≤ 4) : readT kind s = none := read_none fun n t r' e hn ht => by
  rw [first_some e (Nat.le_trans (page_length hk hn ht) (by decide))] at h
  injection h with h; injection h with h _
  rw [← h, open_seal] at ho
  cases ho
theorem read_untie {kind s x r y : Text} (h : firstT s = some (x, r)) (ho : openT x = some y) (hu : untieT y = none) (hk : kind.length ≤ 4) : readT kind s = none := read_none fun n t r' e hn ht => by
  rw [first_some e (Nat.le_trans (page_length hk hn ht) (by decide))] at h
  injection h with h; injection h with h _
  rw [← h, open_seal] at ho
  injection ho with ho
  rw [← ho, untie_some (s := bodyT kind n t) rfl (by simp) (Nat.le_trans (body_length hk hn ht) (by decide))] at hu
  cases hu
theorem read_list {kind s x r y : Text} {l : List Text} (h : firstT s = some (x, r)) (ho : openT x = some y) (hu : untieT y = some l) (hk : kind.length ≤ 4)
    (hb : ∀ n t, l = [kind, numT n, t] → inR n → t.length ≤ 524288 → False) : readT kind s = none := read_none fun n t r' e hn ht => by
  rw [first_some e (Nat.le_trans (page_length hk hn ht) (by decide))] at h
  injection h with h; injection h with h _
  rw [← h, open_seal] at ho
  injection ho with ho
  rw [← ho, untie_some (s := bodyT kind n t) rfl (by simp) (Nat.le_trans (body_length hk hn ht) (by decide))] at hu
  injection hu with hu
  exact hb n t hu.symm hn ht
theorem read_good {kind s x r y m t : Text} {n : Int} (h : firstT s = some (x, r)) (ho : openT x = some y) (hu : untieT y = some [kind, m, t]) (hi : intT m = some n) (ht : t.length ≤ 524288) : readT kind s = some (n, t, r) := by
  obtain ⟨h1, _⟩ := first_spec h
  obtain ⟨h2, _⟩ := untie_spec hu
  obtain ⟨h3, h4⟩ := intT_spec hi
  refine read_some ?_ h3 ht
  rw [h1, ← open_spec ho, h2, ← h4]
  rfl

/-! ### a page that is cut off is none -/
theorem read_torn {k kind t p q : Text} {n : Int} (h : pageT k n t = p ++ q) (hq : q ≠ []) : readT kind p = none := read_none fun n' t' r' e _ _ => by
  rw [e, List.append_assoc] at h
  have h' : pageT k n t ++ [] = pageT kind n' t' ++ (r' ++ q) := by simpa using h
  have := (page_inj h').2.2.2
  have := congrArg List.length this
  have h2 := List.length_pos_iff.2 hq
  simp at this; omega

/-! ### a page that is spoilt at one byte is none -/
def isKind (k : Text) : Prop := k = kBase ∨ k = kRec
theorem strand_base : strand kBase = [52, 58, 98, 97, 115, 101, 44] := by
  have : numT ((kBase.length : Nat) : Int) = [52] := by rw [numT_nat, dig_lt (by decide)]; rfl
  unfold strand; rw [this]; rfl
theorem strand_rec : strand kRec = [51, 58, 114, 101, 99, 44] := by
  have : numT ((kRec.length : Nat) : Int) = [51] := by rw [numT_nat, dig_lt (by decide)]; rfl
  unfold strand; rw [this]; rfl
/-- how a sealed page begins: a digit, a colon, a letter -/
theorem seal_head {k : Text} (hk : isKind k) (n : Int) (t : Text) : ∃ d l z, sealT (bodyT k n t) = d :: 58 :: l :: z ∧ (d = 51 ∨ d = 52) ∧ (l = 98 ∨ l = 114) := by
  obtain ⟨h, _, e⟩ := seal_eq k n t
  rcases hk with rfl | rfl
  · exact ⟨52, 98, _, by rw [e, strand_base]; rfl, .inr rfl, .inl rfl⟩
  · exact ⟨51, 114, _, by rw [e, strand_rec]; rfl, .inl rfl, .inr rfl⟩
/-- a sealed page is no front of another text that begins with a sealed page -/
theorem seal_front {k k' t t' r r' : Text} {n n' : Int} (h : sealT (bodyT k n t) ++ r = sealT (bodyT k' n' t') ++ r') : sealT (bodyT k n t) = sealT (bodyT k' n' t') := by
  obtain ⟨x, hx, e⟩ := seal_eq k n t
  obtain ⟨y, hy, e'⟩ := seal_eq k' n' t'
  rw [e, e'] at h
  simp only [List.append_assoc] at h
  obtain ⟨h1, h⟩ := strand_inj h
  obtain ⟨h2, h⟩ := strand_inj h
  obtain ⟨h3, h⟩ := strand_inj h
  rw [h1, numT_inj h2, h3]

theorem set_front (a b : Text) (i : Nat) (c : UInt8) (h : i < a.length) : (a ++ b).set i c = a.set i c ++ b := List.set_append_left _ _ h
theorem set_back (a b : Text) (i : Nat) (c : UInt8) (h : a.length ≤ i) : (a ++ b).set i c = a ++ b.set (i - a.length) c := List.set_append_right _ _ h

theorem read_spoilt {k kind t rest : Text} {n : Int} (hk : isKind k) (hkind : isKind kind) (i : Nat) (c : UInt8) (hi : i < (pageT k n t).length) (hc : (pageT k n t)[i] ≠ c) :
    readT kind ((pageT k n t).set i c ++ rest) = none := read_none fun n' t' r' e _ _ => by
  obtain ⟨X, hX⟩ : ∃ X, X = sealT (bodyT k n t) := ⟨_, rfl⟩
  obtain ⟨X', hX'⟩ : ∃ X', X' = sealT (bodyT kind n' t') := ⟨_, rfl⟩
  obtain ⟨d, l, z, hd, hdd, hll⟩ := seal_head hk n t
  obtain ⟨d', l', z', hd', hdd', hll'⟩ := seal_head hkind n' t'
  rw [← hX] at hd
  rw [← hX'] at hd'
  have hP : pageT k n t = numT (X.length : Int) ++ 58 :: (X ++ [44]) := by rw [hX]; rfl
  have hP' : pageT kind n' t' = numT (X'.length : Int) ++ 58 :: (X' ++ [44]) := by rw [hX']; rfl
  obtain ⟨D, hD⟩ : ∃ D, D = numT (X.length : Int) := ⟨_, rfl⟩
  obtain ⟨D', hD'⟩ : ∃ D', D' = numT (X'.length : Int) := ⟨_, rfl⟩
  have n58 : (58 : UInt8) ∉ D := by rw [hD]; exact no58 _
  have n58' : (58 : UInt8) ∉ D' := by rw [hD']; exact no58 _
  rw [← hD] at hP
  rw [← hD'] at hP'
  rw [hP', List.append_assoc] at e
  simp only [hP] at hc hi e
  have len_of : D = D' → X.length = X'.length := fun h => by
    rw [hD, hD'] at h
    have := numT_inj h
    omega
  by_cases c1 : i < D.length
  · -- within the number of its length
    have hci : D[i] ≠ c := by rw [List.getElem_append_left c1] at hc; exact hc
    rw [set_front _ _ _ _ c1] at e
    by_cases c58 : c = 58
    · subst c58
      have hset : D.set i 58 = D.take i ++ 58 :: D.drop (i + 1) := by rw [List.set_eq_take_append_cons_drop, if_pos c1]
      rw [hset] at e
      simp only [List.append_assoc, List.cons_append] at e
      obtain ⟨e1, e2⟩ := split58 _ _ _ _ (fun h => n58 (List.mem_of_mem_take h)) n58' e
      rw [hd'] at e2
      rcases hdr : D.drop (i + 1) with _ | ⟨a, _ | ⟨a2, y⟩⟩
      · rw [hdr] at e2
        simp at e2
        rcases hdd' with h | h <;> rw [h] at e2 <;> exact absurd e2.1 (by decide)
      · rw [hdr, hd] at e2
        simp at e2
        have := e2.2.1
        rcases hdd with h | h <;> rcases hll' with h' | h' <;> rw [h, h'] at this <;> exact absurd this (by decide)
      · rw [hdr] at e2
        simp at e2
        have h2 : (58 : UInt8) ∈ D := List.mem_of_mem_drop (i := i + 1) (by rw [hdr, ← e2.2.1]; simp)
        exact n58 h2
    · simp only [List.append_assoc, List.cons_append] at e
      have h58 : (58 : UInt8) ∉ D.set i c := fun h => by
        rcases List.mem_or_eq_of_mem_set h with h | h
        · exact n58 h
        · exact c58 h.symm
      obtain ⟨e1, e2⟩ := split58 _ _ _ _ h58 n58' e
      have hXX : X = X' := by
        rw [hX, hX']
        refine seal_front (r := 44 :: rest) (r' := 44 :: r') ?_
        rw [← hX, ← hX']
        simpa using e2
      have hDD : D = D' := by rw [hD, hD', hXX]
      rw [← hDD] at e1
      have := congrArg (fun l => l[i]?) e1
      simp [c1] at this
      exact hci this.symm
  · rw [set_back _ _ _ _ (by omega)] at e
    have hlen : (D ++ 58 :: (X ++ [44])).length = D.length + 1 + X.length + 1 := by simp; omega
    rw [hlen] at hi
    rcases hj : i - D.length with _ | j
    · -- the colon
      have hcol : c ≠ 58 := by
        intro h
        apply hc
        rw [List.getElem_append_right (by omega)]
        simp [hj, h]
      rw [hj, hd] at e
      have e' : (D ++ [c, d]) ++ 58 :: (l :: z ++ ([44] ++ rest)) = D' ++ 58 :: (X' ++ 44 :: r') := by simpa using e
      have hd58 : d ≠ 58 := by rcases hdd with h | h <;> rw [h] <;> decide
      obtain ⟨_, e2⟩ := split58 _ _ _ _ (fun h => by
        rcases List.mem_append.1 h with h | h
        · exact n58 h
        · simp at h
          rcases h with h | h
          · exact hcol h.symm
          · exact hd58 h.symm) n58' e'
      rw [hd'] at e2
      simp at e2
      have := e2.1
      rcases hll with h | h <;> rcases hdd' with h' | h' <;> rw [h, h'] at this <;> exact absurd this (by decide)
    · rw [hj, List.set_cons_succ] at e
      simp only [List.append_assoc, List.cons_append] at e
      obtain ⟨e1, e2⟩ := split58 _ _ _ _ n58 n58' e
      have hl := len_of e1
      by_cases c2 : j < X.length
      · -- within the sealed text
        rw [set_front _ _ _ _ c2] at e2
        have h3 : X.set j c = X' := by
          have := List.append_inj (s₁ := X.set j c) (t₁ := [44] ++ rest) (s₂ := X') (t₂ := [44] ++ r') (by simpa using e2) (by rw [List.length_set]; exact hl)
          exact this.1
        have hcj : X[j] ≠ c := by
          intro h
          apply hc
          rw [List.getElem_append_right (by omega)]
          simp only [hj, List.getElem_cons_succ]
          rw [List.getElem_append_left c2]
          exact h
        have h4 := open_spoilt (bodyT k n t) j c (by rw [← hX]; exact c2) (by simp only [← hX]; exact hcj)
        rw [← hX, h3, hX', open_seal] at h4
        cases h4
      · -- the comma
        have hjX : j = X.length := by omega
        rw [set_back _ _ _ _ (by omega)] at e2
        have h3 := List.append_inj (s₁ := X) (t₁ := [44].set (j - X.length) c ++ rest) (s₂ := X') (t₂ := [44] ++ r') (by simpa using e2) hl
        have h4 := h3.2
        rw [hjX, Nat.sub_self] at h4
        simp at h4
        apply hc
        rw [List.getElem_append_right (by omega)]
        simp only [hj, List.getElem_cons_succ]
        rw [List.getElem_append_right (by omega)]
        simp [hjX, h4.1]

/-! ### a tape's records -/
noncomputable def recsF : Nat → Nat → Text → List Text × Text
  | 0, _, s => ([], s)
  | f + 1, n, s => match readT kRec s with
    | some (m, x, r) => if m = (n : Int) + 1 then (x :: (recsF f (n + 1) r).1, (recsF f (n + 1) r).2) else ([], s)
    | none => ([], s)
/-- the records n + 1, n + 2 .. at the front of s, and what stands behind them -/
noncomputable def recsT (n : Nat) (s : Text) : List Text × Text := recsF s.length n s
theorem read_less {kind s t r : Text} {n : Int} (h : readT kind s = some (n, t, r)) : r.length < s.length := by
  have h1 := (read_spec h).1
  have h2 := List.length_pos_iff.2 (page_ne kind n t)
  rw [h1, List.length_append]; omega
theorem recsF_more : ∀ (f g n : Nat) (s : Text), s.length ≤ f → s.length ≤ g → recsF f n s = recsF g n s
  | 0, 0, _, _, _, _ => rfl
  | 0, g + 1, n, s, hf, _ => by
    obtain rfl : s = [] := List.length_eq_zero_iff.1 (by omega)
    rw [recsF, recsF, read_nil]
  | f + 1, 0, n, s, _, hg => by
    obtain rfl : s = [] := List.length_eq_zero_iff.1 (by omega)
    rw [recsF, recsF, read_nil]
  | f + 1, g + 1, n, s, hf, hg => by
    rw [recsF, recsF]
    rcases h : readT kRec s with _ | ⟨m, x, r⟩
    · rfl
    · have := read_less h
      simp only
      split
      · rw [recsF_more f g (n + 1) r (by omega) (by omega)]
      · rfl
theorem recs_step {n : Nat} {s x r : Text} (h : readT kRec s = some ((n : Int) + 1, x, r)) : recsT n s = (x :: (recsT (n + 1) r).1, (recsT (n + 1) r).2) := by
  have hl := read_less h
  unfold recsT
  obtain ⟨f, hf⟩ : ∃ f, s.length = f + 1 := ⟨s.length - 1, by omega⟩
  rw [hf, recsF, h]
  simp only [if_true]
  rw [recsF_more f r.length (n + 1) r (by omega) (Nat.le_refl _)]
theorem recs_stop {n : Nat} {s : Text} (h : ∀ x r, readT kRec s ≠ some ((n : Int) + 1, x, r)) : recsT n s = ([], s) := by
  unfold recsT
  rcases hs : s.length with _ | f
  · rw [recsF]
  · rw [recsF]
    rcases h1 : readT kRec s with _ | ⟨m, x, r⟩
    · rfl
    · simp only
      rw [if_neg]
      rintro rfl
      exact h x r h1
/-- the pages of the records l, the first of them the record n + 1 -/
def recPages : Nat → List Text → Text
  | _, [] => []
  | n, x :: l => pageT kRec ((n : Int) + 1) x ++ recPages (n + 1) l
theorem recPages_snoc : ∀ (n : Nat) (l : List Text) (x : Text), recPages n (l ++ [x]) = recPages n l ++ pageT kRec ((n : Int) + l.length + 1) x
  | n, [], x => by simp [recPages]
  | n, y :: l, x => by
    rw [List.cons_append, recPages, recPages, recPages_snoc (n + 1) l x, List.append_assoc]
    congr 3
    simp only [List.length_cons]
    omega
theorem recPages_append : ∀ (n : Nat) (a b : List Text), recPages n (a ++ b) = recPages n a ++ recPages (n + a.length) b
  | n, [], b => by simp [recPages]
  | n, x :: a, b => by
    rw [List.cons_append, recPages, recPages, recPages_append (n + 1) a b, List.append_assoc]
    simp only [List.length_cons]
    rw [show n + 1 + a.length = n + (a.length + 1) by omega]
/-- the record w + 1 among them -/
theorem recPages_split (n : Nat) (l : List Text) (w : Nat) (h : w < l.length) : recPages n l = recPages n (l.take w) ++ (pageT kRec ((n : Int) + w + 1) l[w] ++ recPages (n + w + 1) (l.drop (w + 1))) := by
  have e : l = l.take w ++ (l[w] :: l.drop (w + 1)) := by rw [← List.drop_eq_getElem_cons h, List.take_append_drop]
  have hl : (l.take w).length = w := by rw [List.length_take]; omega
  have := recPages_append n (l.take w) (l[w] :: l.drop (w + 1))
  rw [← e, hl, recPages] at this
  rw [this]
  congr 3
theorem recs_pages : ∀ (l : List Text) (n : Nat) (q : Text), (∀ x ∈ l, x.length ≤ 524288) → n + l.length ≤ 1000000 →
    recsT n (recPages n l ++ q) = (l ++ (recsT (n + l.length) q).1, (recsT (n + l.length) q).2)
  | [], n, q, _, _ => by simp [recPages]
  | x :: l, n, q, hx, hn => by
    have h1 := hx x (by simp)
    simp only [List.length_cons] at hn
    have h : readT kRec (recPages n (x :: l) ++ q) = some ((n : Int) + 1, x, recPages (n + 1) l ++ q) :=
      read_some (by rw [recPages, List.append_assoc]) (by unfold inR; omega) h1
    rw [recs_step h, recs_pages l (n + 1) q (fun y hy => hx y (by simp [hy])) (by omega)]
    simp only [List.length_cons, List.cons_append]
    rw [show n + 1 + l.length = n + (l.length + 1) by omega]

/-- a tape: its epoch, its base, its records, how many bytes are right; none: it has no epoch -/
noncomputable def scanT (s : Text) : Option (Int × Text × List Text × Nat) := match readT kBase s with
  | some (n, b, r) => if 1 ≤ n ∧ n ≤ 4611686018427387904 then some (n, b, (recsT 0 r).1, s.length - (recsT 0 r).2.length) else none
  | none => none
/-- a base, its records, and what is no record more -/
theorem scan_tape {n : Int} {b : Text} {l : List Text} {q : Text} (hn : 1 ≤ n) (hn2 : n ≤ 4611686018427387904) (hb : b.length ≤ 524288) (hl : ∀ x ∈ l, x.length ≤ 524288) (hc : l.length ≤ 1000000)
    (hq : ∀ x r, readT kRec q ≠ some ((l.length : Int) + 1, x, r)) : scanT (pageT kBase n b ++ (recPages 0 l ++ q)) = some (n, b, l, (pageT kBase n b).length + (recPages 0 l).length) := by
  have h := read_some (kind := kBase) (s := pageT kBase n b ++ (recPages 0 l ++ q)) rfl (show inR n by unfold inR; omega) hb
  unfold scanT
  rw [h]
  simp only
  rw [if_pos ⟨hn, hn2⟩, recs_pages l 0 q hl (by omega), Nat.zero_add, recs_stop hq]
  simp only [List.append_nil, List.length_append]
  congr 4
  omega
theorem scan_whole {n : Int} {b : Text} {l : List Text} (hn : 1 ≤ n) (hn2 : n ≤ 4611686018427387904) (hb : b.length ≤ 524288) (hl : ∀ x ∈ l, x.length ≤ 524288) (hc : l.length ≤ 1000000) :
    scanT (pageT kBase n b ++ recPages 0 l) = some (n, b, l, (pageT kBase n b).length + (recPages 0 l).length) := by
  have := scan_tape (q := []) hn hn2 hb hl hc (fun x r h => by rw [read_nil] at h; cases h)
  simpa using this
theorem scan_torn {n : Int} {b : Text} {l : List Text} {k p q t : Text} {m : Int} (hn : 1 ≤ n) (hn2 : n ≤ 4611686018427387904) (hb : b.length ≤ 524288) (hl : ∀ x ∈ l, x.length ≤ 524288) (hc : l.length ≤ 1000000)
    (h : pageT k m t = p ++ q) (hq : q ≠ []) : scanT (pageT kBase n b ++ (recPages 0 l ++ p)) = some (n, b, l, (pageT kBase n b).length + (recPages 0 l).length) :=
  scan_tape hn hn2 hb hl hc (fun x r e => by rw [read_torn h hq] at e; cases e)
theorem scan_spoilt {n : Int} {b : Text} {l : List Text} {k t rest : Text} {m : Int} (hn : 1 ≤ n) (hn2 : n ≤ 4611686018427387904) (hb : b.length ≤ 524288) (hl : ∀ x ∈ l, x.length ≤ 524288) (hc : l.length ≤ 1000000)
    (hk : isKind k) (i : Nat) (c : UInt8) (hi : i < (pageT k m t).length) (hne : (pageT k m t)[i] ≠ c) :
    scanT (pageT kBase n b ++ (recPages 0 l ++ ((pageT k m t).set i c ++ rest))) = some (n, b, l, (pageT kBase n b).length + (recPages 0 l).length) :=
  scan_tape hn hn2 hb hl hc (fun x r e => by rw [read_spoilt hk (.inr rfl) i c hi hne] at e; cases e)
/-- a tape that is empty, cut off within its base, has no epoch -/
theorem scan_nil : scanT [] = none := by unfold scanT; rw [read_nil]
theorem scan_cut {k p q t : Text} {m : Int} (h : pageT k m t = p ++ q) (hq : q ≠ []) : scanT p = none := by unfold scanT; rw [read_torn h hq]

end Go.Proofs.YtglkapamkigdhaaGreatDoor.M

namespace Go.Proofs.YtglkapamkigdhaaGreatDoor.M

/-- the page at the front, of whatever kind: its kind, its number, its text, what stands behind it -/
noncomputable def anyT (s : Text) : Option (Text × Int × Text × Text) :=
  match firstT s with
  | none => none
  | some (x, r) => match openT x with
    | none => none
    | some y => match untieT y with
      | some [k, m, t] => match intT m with
        | some n => if t.length ≤ 524288 then some (k, n, t, r) else none
        | none => none
      | _ => none
theorem any_first {s : Text} (h : firstT s = none) : anyT s = none := by unfold anyT; rw [h]
theorem any_open {s x r : Text} (h : firstT s = some (x, r)) (ho : openT x = none) : anyT s = none := by unfold anyT; rw [h]; simp only; rw [ho]
theorem any_untie {s x r y : Text} (h : firstT s = some (x, r)) (ho : openT x = some y) (hu : untieT y = none) : anyT s = none := by unfold anyT; rw [h]; simp only; rw [ho]; simp only; rw [hu]
theorem any_len {s x r y : Text} {l : List Text} (h : firstT s = some (x, r)) (ho : openT x = some y) (hu : untieT y = some l) (hl : l.length ≠ 3) : anyT s = none := by
  unfold anyT; rw [h]; simp only; rw [ho]; simp only; rw [hu]
  match l, hl with
  | [], _ => rfl
  | [_], _ => rfl
  | [_, _], _ => rfl
  | [_, _, _], h => exact absurd rfl h
  | _ :: _ :: _ :: _ :: _, _ => rfl
theorem any_int {s x r y k m t : Text} (h : firstT s = some (x, r)) (ho : openT x = some y) (hu : untieT y = some [k, m, t]) (hi : intT m = none) : anyT s = none := by
  unfold anyT; rw [h]; simp only; rw [ho]; simp only; rw [hu]; simp only; rw [hi]
theorem any_long {s x r y k m t : Text} (h : firstT s = some (x, r)) (ho : openT x = some y) (hu : untieT y = some [k, m, t]) (ht : ¬ t.length ≤ 524288) : anyT s = none := by
  unfold anyT; rw [h]; simp only; rw [ho]; simp only; rw [hu]; simp only
  cases intT m with
  | none => rfl
  | some n => simp only; rw [if_neg ht]
theorem any_good {s x r y k m t : Text} {n : Int} (h : firstT s = some (x, r)) (ho : openT x = some y) (hu : untieT y = some [k, m, t]) (hi : intT m = some n) (ht : t.length ≤ 524288) : anyT s = some (k, n, t, r) := by
  unfold anyT; rw [h]; simp only; rw [ho]; simp only; rw [hu]; simp only; rw [hi]; simp only; rw [if_pos ht]
/-- what is read of a kind is what stands there, if it is of that kind -/
theorem read_any (kind s : Text) (hk : kind.length ≤ 4) : readT kind s = match anyT s with
    | some (k, n, t, r) => if k = kind then some (n, t, r) else none
    | none => none := by
  cases h : firstT s with
  | none => rw [any_first h, read_first h hk]
  | some p =>
    obtain ⟨x, r⟩ := p
    cases ho : openT x with
    | none => rw [any_open h ho, read_open h ho hk]
    | some y =>
      cases hu : untieT y with
      | none => rw [any_untie h ho hu, read_untie h ho hu hk]
      | some l =>
        by_cases hl : l.length = 3
        · match l, hl with
          | [k, m, t], _ =>
            cases hi : intT m with
            | none =>
              rw [any_int h ho hu hi]
              exact read_list h ho hu hk fun n t' e hn ht => by
                simp only [List.cons.injEq, and_true] at e
                rw [e.2.1, intT_some hn rfl] at hi
                cases hi
            | some n =>
              by_cases ht : t.length ≤ 524288
              · rw [any_good h ho hu hi ht]
                simp only
                by_cases hkk : k = kind
                · rw [if_pos hkk]
                  rw [hkk] at hu
                  exact read_good h ho hu hi ht
                · rw [if_neg hkk]
                  exact read_list h ho hu hk fun n t' e hn ht => by
                    simp only [List.cons.injEq, and_true] at e
                    exact hkk e.1
              · rw [any_long h ho hu ht]
                exact read_list h ho hu hk fun n t' e hn ht' => by
                  simp only [List.cons.injEq, and_true] at e
                  exact ht (by rw [e.2.2]; exact ht')
        · rw [any_len h ho hu hl]
          exact read_list h ho hu hk fun n t' e _ _ => hl (by rw [e]; rfl)
theorem any_less {s k t r : Text} {n : Int} (h : anyT s = some (k, n, t, r)) : r.length < s.length ∧ (∃ p, s = p ++ r) ∧ inR n ∧ t.length ≤ 524288 := by
  unfold anyT at h
  split at h
  · cases h
  rename_i x r' hf
  split at h
  · cases h
  split at h
  · split at h
    · rename_i hi
      split at h
      · rename_i ht
        simp only [Option.some.injEq, Prod.mk.injEq] at h
        obtain ⟨rfl, rfl, rfl, rfl⟩ := h
        obtain ⟨e, _⟩ := first_spec hf
        have h2 := List.length_pos_iff.2 (strand_ne x)
        have h3 : s.length = (strand x).length + r'.length := by rw [e, List.length_append]
        exact ⟨by omega, ⟨_, e⟩, (intT_spec hi).1, ht⟩
      · cases h
    · cases h
  · cases h

theorem drop_back {s r : Text} (h : ∃ p, s = p ++ r) : s.drop (s.length - r.length) = r := by
  obtain ⟨p, rfl⟩ := h
  rw [List.length_append, Nat.add_sub_cancel, List.drop_left]
/-! ### page by page -/
/-- a tape as it is told: 0: it has no epoch -/
noncomputable def tellT (s : Text) : Int × Text × List Text × Nat := (scanT s).getD (0, [], [], 0)
/-- what a loop knows that has read the base (n, b) and the records l, and stands at the text r -/
structure At (s : Text) (n : Int) (b : Text) (l : List Text) (r : Text) : Prop where
  tell : tellT s = (n, b, l ++ (recsT l.length r).1, s.length - (recsT l.length r).2.length)
  n1 : 1 ≤ n
  n2 : n ≤ 4611686018427387904
  less : r.length < s.length
  count : l.length + r.length ≤ s.length
  back : ∃ p, s = p ++ r
theorem tell_none {s : Text} (h : ∀ n b r, readT kBase s = some (n, b, r) → ¬ (1 ≤ n ∧ n ≤ 4611686018427387904)) : tellT s = (0, [], [], 0) := by
  unfold tellT scanT
  split
  · rename_i n b r h1
    rw [if_neg (h n b r h1)]; rfl
  · rfl
theorem At.start {s : Text} {n : Int} {b r : Text} (h : anyT s = some (kBase, n, b, r)) (h1 : 1 ≤ n) (h2 : n ≤ 4611686018427387904) : At s n b [] r := by
  have hr : readT kBase s = some (n, b, r) := by rw [read_any _ _ (by decide), h]; simp
  obtain ⟨q1, q2, _⟩ := any_less h
  refine ⟨?_, h1, h2, q1, by simp; omega, q2⟩
  unfold tellT scanT
  rw [hr]
  simp only
  rw [if_pos ⟨h1, h2⟩]
  rfl
theorem At.step {s : Text} {n : Int} {b : Text} {l : List Text} {r x r' : Text} (h : At s n b l r) (ha : anyT r = some (kRec, (l.length : Int) + 1, x, r')) : At s n b (l ++ [x]) r' := by
  have hr : readT kRec r = some ((l.length : Int) + 1, x, r') := by rw [read_any _ _ (by decide), ha]; simp
  obtain ⟨q1, q2, _⟩ := any_less ha
  have hless := h.less
  have hcount := h.count
  refine ⟨?_, h.n1, h.n2, by omega, by rw [List.length_append]; simp; omega, ?_⟩
  · rw [h.tell, recs_step hr]
    simp only [List.length_append, List.length_cons, List.length_nil, Nat.zero_add, List.append_assoc, List.singleton_append]
  · obtain ⟨p, e⟩ := h.back
    obtain ⟨q, e2⟩ := q2
    exact ⟨p ++ q, by rw [e, e2, List.append_assoc]⟩
theorem At.stop {s : Text} {n : Int} {b : Text} {l : List Text} {r : Text} (h : At s n b l r) (ha : ∀ x r', anyT r ≠ some (kRec, (l.length : Int) + 1, x, r')) : tellT s = (n, b, l, s.length - r.length) := by
  have hr : ∀ x r', readT kRec r ≠ some ((l.length : Int) + 1, x, r') := by
    intro x r' e
    rw [read_any _ _ (by decide)] at e
    split at e
    · rename_i k m t q hq
      split at e
      · rename_i hk
        simp only [Option.some.injEq, Prod.mk.injEq] at e
        obtain ⟨rfl, rfl, rfl⟩ := e
        exact ha _ _ (by rw [hq, hk])
      · cases e
    · cases e
  rw [h.tell, recs_stop hr]
  simp
theorem tell_base {s k t r : Text} {n : Int} (h : anyT s = some (k, n, t, r)) (hk : k ≠ kBase ∨ n < 1 ∨ 4611686018427387904 < n) : tellT s = (0, [], [], 0) :=
  tell_none fun n' b r' e => by
    rw [read_any _ _ (by decide), h] at e
    simp only at e
    split at e
    · rename_i he
      simp only [Option.some.injEq, Prod.mk.injEq] at e
      rcases hk with hk | hk | hk
      · exact absurd he hk
      · omega
      · omega
    · cases e
theorem tell_empty {s : Text} (h : anyT s = none) : tellT s = (0, [], [], 0) :=
  tell_none fun n' b r' e => by
    rw [read_any _ _ (by decide), h] at e
    cases e
/-- what a tape tells is no more than what stands there -/
theorem recs_len : ∀ (f n : Nat) (s : Text), s.length ≤ f → (recsT n s).1.length + (recsT n s).2.length ≤ s.length
  | 0, n, s, h => by
    obtain rfl : s = [] := List.length_eq_zero_iff.1 (by omega)
    rw [recs_stop (fun x r e => by rw [read_nil] at e; cases e)]; simp
  | f + 1, n, s, h => by
    rcases hq : readT kRec s with _ | ⟨m, x, r⟩
    · rw [recs_stop (fun x r e => by rw [hq] at e; cases e)]; simp
    · by_cases hm : m = (n : Int) + 1
      · subst hm
        have hl := read_less hq
        have := recs_len f (n + 1) r (by omega)
        rw [recs_step hq]
        simp only [List.length_cons]; omega
      · rw [recs_stop (fun x r e => by rw [hq] at e; injection e with e; injection e with e _; exact hm e)]; simp
theorem tell_len (s : Text) : (tellT s).2.2.1.length ≤ s.length ∧ (tellT s).2.2.2 ≤ s.length ∧ 0 ≤ (tellT s).1 ∧ (tellT s).1 ≤ 4611686018427387904 := by
  unfold tellT scanT
  split
  · rename_i n b r h
    split
    · rename_i hn
      have h1 := recs_len _ 0 r (Nat.le_refl _)
      have h2 := read_less h
      simp only [Option.getD_some]
      refine ⟨by omega, by omega, by omega, by omega⟩
    · simp
  · simp

end Go.Proofs.YtglkapamkigdhaaGreatDoor.M

namespace Go.Proofs.YtglkapamkigdhaaGreatDoor.M

theorem page_short {kind : Text} {n : Int} {s : Text} (hk : kind.length ≤ 4) (hn : inR n) (hs : s.length ≤ 524288) : (pageT kind n s).length ≤ s.length + 120 := by
  have h1 := numT_length hn
  have h := tie_length [kind, numT n, s] (by intro x hx; simp at hx; rcases hx with rfl | rfl | rfl <;> omega)
  simp at h
  have hb : (bodyT kind n s).length ≤ s.length + 90 := by unfold bodyT; omega
  have h2 := strand_length (sealT (bodyT kind n s))
  have h3 := numT_length (n := ((sealT (bodyT kind n s)).length : Int)) (by rw [sealT_length]; unfold inR; omega)
  rw [sealT_length] at h2 h3
  unfold pageT
  omega
theorem recPages_short : ∀ (l : List Text) (n : Nat) (c : Nat), (∀ x ∈ l, x.length ≤ c) → c ≤ 524288 → n + l.length ≤ 1000000 → (recPages n l).length ≤ l.length * (c + 120)
  | [], _, _, _, _, _ => by simp [recPages]
  | x :: l, n, c, hx, hc, hn => by
    have h1 := hx x (by simp)
    simp only [List.length_cons] at hn
    have h2 := page_short (kind := kRec) (n := (n : Int) + 1) (s := x) (by decide) (by unfold inR; omega) (by omega)
    have h3 := recPages_short l (n + 1) c (fun y hy => hx y (by simp [hy])) hc (by omega)
    rw [recPages, List.length_append, List.length_cons, Nat.succ_mul]
    omega

/-- the tape of a base and the records l -/
def tapeT (b : Text) (l : List Text) : Text := pageT kBase 1 b ++ recPages 0 l
theorem tapeT_nil (b : Text) : tapeT b [] = pageT kBase 1 b := by simp [tapeT, recPages]
theorem tapeT_snoc (b : Text) (l : List Text) (x : Text) : tapeT b (l ++ [x]) = tapeT b l ++ pageT kRec ((l.length : Int) + 1) x := by
  unfold tapeT
  rw [recPages_snoc, List.append_assoc]
  simp
theorem tapeT_take (b : Text) (l : List Text) (k : Nat) (h : k < l.length) : tapeT b (l.take (k + 1)) = tapeT b (l.take k) ++ pageT kRec ((k : Int) + 1) l[k] := by
  have hl : (l.take k).length = k := by rw [List.length_take]; omega
  rw [List.take_add_one, List.getElem?_eq_getElem h]
  have := tapeT_snoc b (l.take k) l[k]
  rw [hl] at this
  exact this
theorem tapeT_split (b : Text) (l : List Text) (k : Nat) (h : k < l.length) : tapeT b l = tapeT b (l.take k) ++ (pageT kRec ((k : Int) + 1) l[k] ++ recPages (k + 1) (l.drop (k + 1))) := by
  unfold tapeT
  rw [recPages_split 0 l k h, List.append_assoc]
  simp
theorem torn_take {b : Text} {l : List Text} (hb : b.length ≤ 524288) (hl : ∀ x ∈ l, x.length ≤ 524288) (hc : l.length ≤ 1000) {k cut : Nat} (hk : k < l.length) (h1 : (tapeT b (l.take k)).length ≤ cut) (h2 : cut < (tapeT b (l.take (k + 1))).length) :
    ∃ p, (tapeT b l).take cut = tapeT b (l.take k) ++ p ∧ scanT (tapeT b (l.take k) ++ p) = some (1, b, l.take k, (tapeT b (l.take k)).length) := by
  have hlen : (l.take k).length = k := by rw [List.length_take]; omega
  rw [tapeT_take b l k hk, List.length_append] at h2
  refine ⟨(pageT kRec ((k : Int) + 1) l[k]).take (cut - (tapeT b (l.take k)).length), ?_, ?_⟩
  · rw [tapeT_split b l k hk, List.take_append, List.take_of_length_le h1, List.take_append]
    rw [show cut - (tapeT b (l.take k)).length - (pageT kRec ((k : Int) + 1) l[k]).length = 0 by omega]
    simp
  · have hq : (pageT kRec ((k : Int) + 1) l[k]).drop (cut - (tapeT b (l.take k)).length) ≠ [] := fun h => by
      have := congrArg List.length h
      simp at this; omega
    generalize cut - (tapeT b (l.take k)).length = j at hq ⊢
    have := scan_torn (n := 1) (b := b) (l := l.take k) (k := kRec) (m := (k : Int) + 1) (t := l[k]) (p := (pageT kRec ((k : Int) + 1) l[k]).take j) (by decide) (by decide) hb (fun x hx => hl x (List.mem_of_mem_take hx)) (by omega) (List.take_append_drop _ _).symm hq
    rw [tapeT, List.append_assoc, this, List.length_append]
theorem torn_set {b : Text} {l : List Text} (hb : b.length ≤ 524288) (hl : ∀ x ∈ l, x.length ≤ 524288) (hc : l.length ≤ 1000) {k cut : Nat} (hk : k < l.length) (h1 : (tapeT b (l.take k)).length ≤ cut) (h2 : cut < (tapeT b (l.take (k + 1))).length)
    (c : UInt8) (hne : ∀ h : cut < (tapeT b l).length, (tapeT b l)[cut] ≠ c) :
    ∃ p, (tapeT b l).set cut c = tapeT b (l.take k) ++ p ∧ scanT (tapeT b (l.take k) ++ p) = some (1, b, l.take k, (tapeT b (l.take k)).length) := by
  have hlen : (l.take k).length = k := by rw [List.length_take]; omega
  rw [tapeT_take b l k hk, List.length_append] at h2
  obtain ⟨i, rfl⟩ : ∃ i, cut = (tapeT b (l.take k)).length + i := ⟨cut - (tapeT b (l.take k)).length, by omega⟩
  have hi : i < (pageT kRec ((k : Int) + 1) l[k]).length := by omega
  refine ⟨(pageT kRec ((k : Int) + 1) l[k]).set i c ++ recPages (k + 1) (l.drop (k + 1)), ?_, ?_⟩
  · rw [tapeT_split b l k hk, List.set_append_right _ _ (by omega), Nat.add_sub_cancel_left, List.set_append_left _ _ hi]
  · have hc' : (pageT kRec ((k : Int) + 1) l[k])[i] ≠ c := by
      intro h
      apply hne (by rw [tapeT_split b l k hk]; simp only [List.length_append]; omega)
      have e := tapeT_split b l k hk
      have : (tapeT b l)[(tapeT b (l.take k)).length + i]? = some c := by
        rw [e, List.getElem?_append_right (by omega), Nat.add_sub_cancel_left, List.getElem?_append_left hi, List.getElem?_eq_getElem hi, h]
      rw [List.getElem?_eq_getElem (by rw [e]; simp only [List.length_append]; omega)] at this
      exact Option.some.inj this
    have := scan_spoilt (n := 1) (b := b) (l := l.take k) (k := kRec) (m := (k : Int) + 1) (t := l[k]) (rest := recPages (k + 1) (l.drop (k + 1))) (by decide) (by decide) hb (fun x hx => hl x (List.mem_of_mem_take hx)) (by omega) (.inr rfl) i c hi hc'
    rw [tapeT, List.append_assoc, this, List.length_append]
theorem tapeT_short {b : Text} {l : List Text} {c : Nat} (hb : b.length ≤ c) (hl : ∀ x ∈ l, x.length ≤ c) (hc : c ≤ 524288) (hn : l.length ≤ 1000) : (tapeT b l).length ≤ (l.length + 1) * (c + 120) := by
  have h1 := page_short (kind := kBase) (n := 1) (s := b) (by decide) (by unfold inR; omega) (by omega)
  have h2 := recPages_short l 0 c hl hc (by omega)
  unfold tapeT
  rw [List.length_append, Nat.succ_mul]
  omega

end Go.Proofs.YtglkapamkigdhaaGreatDoor.M
