/-
  THE PLAIN MATHEMATICS OF A LEDGER's TAPES, of no program: pages, what stands at a tape's front, a tape's records; a page that is cut off, or spoilt at one byte, is none. No condition.
-/
import Derived.Test.YtglkapamkigdhaaDoorMath3
namespace Go.Proofs.YtglkapamkigdhaaDoor.M

def kBase : Text := [98, 97, 115, 101]
def kRec : Text := [114, 101, 99]
def bodyT (kind : Text) (n : Int) (s : Text) : Text := tieT [kind, numT n, s]
def pageT (kind : Text) (n : Int) (s : Text) : Text := strand (sealT (bodyT kind n s))

theorem body_eq (kind : Text) (n : Int) (s : Text) : bodyT kind n s = strand kind ++ (strand (numT n) ++ strand s) := by simp [bodyT, tieT]
theorem seal_eq (kind : Text) (n : Int) (s : Text) : ∃ h : Text, h.length = 8 ∧ sealT (bodyT kind n s) = strand kind ++ (strand (numT n) ++ (strand s ++ h)) :=
  ⟨hexT 8 (sumT (bodyT kind n s)), hexT_length 8 _, by unfold sealT; generalize hexT 8 (sumT (bodyT kind n s)) = hh; rw [body_eq]; simp only [List.append_assoc]⟩
theorem seal_inj {a b : Text} (h : sealT a = sealT b) : a = b := by
  have := open_seal a
  rw [h, open_seal] at this
  injection this with this
  exact this.symm
theorem page_ne (kind : Text) (n : Int) (s : Text) : pageT kind n s ≠ [] := strand_ne _
/-- what begins with a page begins with no other one -/
theorem page_inj {k k' : Text} {n n' : Int} {s s' r r' : Text} (h : pageT k n s ++ r = pageT k' n' s' ++ r') : k = k' ∧ n = n' ∧ s = s' ∧ r = r' := by
  obtain ⟨h1, h2⟩ := strand_inj h
  have h3 := tieT_inj (seal_inj h1)
  simp only [List.cons.injEq, and_true] at h3
  exact ⟨h3.1, numT_inj h3.2.1, h3.2.2, h2⟩
theorem body_length {kind : Text} {n : Int} {s : Text} (hk : kind.length ≤ 4) (hn : inR n) (hs : s.length ≤ 524288) : (bodyT kind n s).length ≤ 524400 := by
  have h1 := numT_length hn
  have h := tie_length [kind, numT n, s] (by intro x hx; simp at hx; rcases hx with rfl | rfl | rfl <;> omega)
  simp at h
  unfold bodyT
  omega
theorem page_length {kind : Text} {n : Int} {s : Text} (hk : kind.length ≤ 4) (hn : inR n) (hs : s.length ≤ 524288) : (pageT kind n s).length ≤ 524500 := by
  have h1 := body_length hk hn hs
  have h2 := strand_length (sealT (bodyT kind n s))
  have h3 := numT_length (n := ((sealT (bodyT kind n s)).length : Int)) (by rw [sealT_length]; unfold inR; omega)
  rw [sealT_length] at h2 h3
  unfold pageT
  omega

/-! ### the page at the front -/
open Classical in
noncomputable def readT (kind s : Text) : Option (Int × Text × Text) :=
  if h : ∃ p : Int × Text × Text, s = pageT kind p.1 p.2.1 ++ p.2.2 ∧ inR p.1 ∧ p.2.1.length ≤ 524288 then some h.choose else none
theorem read_some {kind s t r : Text} {n : Int} (h : s = pageT kind n t ++ r) (hn : inR n) (ht : t.length ≤ 524288) : readT kind s = some (n, t, r) := by
  unfold readT
  have hx : ∃ p : Int × Text × Text, s = pageT kind p.1 p.2.1 ++ p.2.2 ∧ inR p.1 ∧ p.2.1.length ≤ 524288 := ⟨(n, t, r), h, hn, ht⟩
  rw [dif_pos hx]
  obtain ⟨_, e1, e2, e3⟩ := page_inj (h.symm.trans hx.choose_spec.1)
  exact congrArg some (Prod.ext e1.symm (Prod.ext e2.symm e3.symm))
theorem read_none {kind s : Text} (h : ∀ n t r, s = pageT kind n t ++ r → inR n → t.length ≤ 524288 → False) : readT kind s = none := by
  unfold readT
  rw [dif_neg]
  rintro ⟨p, h1, h2, h3⟩
  exact h _ _ _ h1 h2 h3
theorem read_spec {kind s t r : Text} {n : Int} (h : readT kind s = some (n, t, r)) : s = pageT kind n t ++ r ∧ inR n ∧ t.length ≤ 524288 := by
  unfold readT at h
  split at h
  · rename_i hx
    have := hx.choose_spec
    injection h with h
    rw [h] at this
    exact this
  · cases h
theorem read_nil (kind : Text) : readT kind [] = none := read_none fun n t r h _ _ => by
  have := congrArg List.length h
  have h2 := List.length_pos_iff.2 (page_ne kind n t)
  simp at this; omega

/-! ### as it is read: First, Open, Untie, Int -/
theorem read_first {kind s : Text} (h : firstT s = none) (hk : kind.length ≤ 4) : readT kind s = none := read_none fun n t r e hn ht => by
  rw [first_some e (Nat.le_trans (page_length hk hn ht) (by decide))] at h
  cases h
theorem read_open {kind s x r : Text} (h : firstT s = some (x, r)) (ho : openT x = none) (hk : kind.length ≤ 4) : readT kind s = none := read_none fun n t r' e hn ht => by
  rw [first_some e (Nat.le_trans (page_length hk hn ht) (by decide))] at h
  injection h with h; injection h with h _
  rw [← h, open_seal] at ho
  cases ho
theorem read_untie {kind s x r y : Text} (h : firstT s = some (x, r)) (ho : openT x = some y) (hu : untieT y = none) (hk : kind.length ≤ 4) : readT kind s = none := read_none fun n t r' e hn ht => by
  rw [first_some e (Nat.le_trans (page_length hk hn ht) (by decide))] at h
  injection h with h; injection h with h _
  rw [← h, open_seal] at ho
  injection ho with ho
  rw [← ho, untie_some (s := bodyT kind n t) rfl (by simp) (Nat.le_trans (body_length hk hn ht) (by decide))] at hu
  cases hu
theorem read_list {kind s x r y : Text} {l : List Text} (h : firstT s = some (x, r)) (ho : openT x = some y) (hu : untieT y = some l) (hk : kind.length ≤ 4)
    (hb : ∀ n t, l = [kind, numT n, t] → inR n → t.length ≤ 524288 → False) : readT kind s = none := read_none fun n t r' e hn ht => by
  rw [first_some e (Nat.le_trans (page_length hk hn ht) (by decide))] at h
  injection h with h; injection h with h _
  rw [← h, open_seal] at ho
  injection ho with ho
  rw [← ho, untie_some (s := bodyT kind n t) rfl (by simp) (Nat.le_trans (body_length hk hn ht) (by decide))] at hu
  injection hu with hu
  exact hb n t hu.symm hn ht
theorem read_good {kind s x r y m t : Text} {n : Int} (h : firstT s = some (x, r)) (ho : openT x = some y) (hu : untieT y = some [kind, m, t]) (hi : intT m = some n) (ht : t.length ≤ 524288) : readT kind s = some (n, t, r) := by
  obtain ⟨h1, _⟩ := first_spec h
  obtain ⟨h2, _⟩ := untie_spec hu
  obtain ⟨h3, h4⟩ := intT_spec hi
  refine read_some ?_ h3 ht
  rw [h1, ← open_spec ho, h2, ← h4]
  rfl

/-! ### a page that is cut off is none -/
theorem read_torn {k kind t p q : Text} {n : Int} (h : pageT k n t = p ++ q) (hq : q ≠ []) : readT kind p = none := read_none fun n' t' r' e _ _ => by
  rw [e, List.append_assoc] at h
  have h' : pageT k n t ++ [] = pageT kind n' t' ++ (r' ++ q) := by simpa using h
  have := (page_inj h').2.2.2
  have := congrArg List.length this
  have h2 := List.length_pos_iff.2 hq
  simp at this; omega

/-! ### a page that is spoilt at one byte is none -/
def isKind (k : Text) : Prop := k = kBase ∨ k = kRec
theorem strand_base : strand kBase = [52, 58, 98, 97, 115, 101, 44] := by
  have : numT ((kBase.length : Nat) : Int) = [52] := by rw [numT_nat, dig_lt (by decide)]; rfl
  unfold strand; rw [this]; rfl
theorem strand_rec : strand kRec = [51, 58, 114, 101, 99, 44] := by
  have : numT ((kRec.length : Nat) : Int) = [51] := by rw [numT_nat, dig_lt (by decide)]; rfl
  unfold strand; rw [this]; rfl
/-- how a sealed page begins: a digit, a colon, a letter -/
theorem seal_head {k : Text} (hk : isKind k) (n : Int) (t : Text) : ∃ d l z, sealT (bodyT k n t) = d :: 58 :: l :: z ∧ (d = 51 ∨ d = 52) ∧ (l = 98 ∨ l = 114) := by
  obtain ⟨h, _, e⟩ := seal_eq k n t
  rcases hk with rfl | rfl
  · exact ⟨52, 98, _, by rw [e, strand_base]; rfl, .inr rfl, .inl rfl⟩
  · exact ⟨51, 114, _, by rw [e, strand_rec]; rfl, .inl rfl, .inr rfl⟩
/-- a sealed page is no front of another text that begins with a sealed page -/
theorem seal_front {k k' t t' r r' : Text} {n n' : Int} (h : sealT (bodyT k n t) ++ r = sealT (bodyT k' n' t') ++ r') : sealT (bodyT k n t) = sealT (bodyT k' n' t') := by
  obtain ⟨x, hx, e⟩ := seal_eq k n t
  obtain ⟨y, hy, e'⟩ := seal_eq k' n' t'
  rw [e, e'] at h
  simp only [List.append_assoc] at h
  obtain ⟨h1, h⟩ := strand_inj h
  obtain ⟨h2, h⟩ := strand_inj h
  obtain ⟨h3, h⟩ := strand_inj h
  rw [h1, numT_inj h2, h3]

theorem set_front (a b : Text) (i : Nat) (c : UInt8) (h : i < a.length) : (a ++ b).set i c = a.set i c ++ b := List.set_append_left _ _ h
theorem set_back (a b : Text) (i : Nat) (c : UInt8) (h : a.length ≤ i) : (a ++ b).set i c = a ++ b.set (i - a.length) c := List.set_append_right _ _ h

theorem read_spoilt {k kind t rest : Text} {n : Int} (hk : isKind k) (hkind : isKind kind) (i : Nat) (c : UInt8) (hi : i < (pageT k n t).length) (hc : (pageT k n t)[i] ≠ c) :
    readT kind ((pageT k n t).set i c ++ rest) = none := read_none fun n' t' r' e _ _ => by
  obtain ⟨X, hX⟩ : ∃ X, X = sealT (bodyT k n t) := ⟨_, rfl⟩
  obtain ⟨X', hX'⟩ : ∃ X', X' = sealT (bodyT kind n' t') := ⟨_, rfl⟩
  obtain ⟨d, l, z, hd, hdd, hll⟩ := seal_head hk n t
  obtain ⟨d', l', z', hd', hdd', hll'⟩ := seal_head hkind n' t'
  rw [← hX] at hd
  rw [← hX'] at hd'
  have hP : pageT k n t = numT (X.length : Int) ++ 58 :: (X ++ [44]) := by rw [hX]; rfl
  have hP' : pageT kind n' t' = numT (X'.length : Int) ++ 58 :: (X' ++ [44]) := by rw [hX']; rfl
  obtain ⟨D, hD⟩ : ∃ D, D = numT (X.length : Int) := ⟨_, rfl⟩
  obtain ⟨D', hD'⟩ : ∃ D', D' = numT (X'.length : Int) := ⟨_, rfl⟩
  have n58 : (58 : UInt8) ∉ D := by rw [hD]; exact no58 _
  have n58' : (58 : UInt8) ∉ D' := by rw [hD']; exact no58 _
  rw [← hD] at hP
  rw [← hD'] at hP'
  rw [hP', List.append_assoc] at e
  simp only [hP] at hc hi e
  have len_of : D = D' → X.length = X'.length := fun h => by
    rw [hD, hD'] at h
    have := numT_inj h
    omega
  by_cases c1 : i < D.length
  · -- within the number of its length
    have hci : D[i] ≠ c := by rw [List.getElem_append_left c1] at hc; exact hc
    rw [set_front _ _ _ _ c1] at e
    by_cases c58 : c = 58
    · subst c58
      have hset : D.set i 58 = D.take i ++ 58 :: D.drop (i + 1) := by rw [List.set_eq_take_append_cons_drop, if_pos c1]
      rw [hset] at e
      simp only [List.append_assoc, List.cons_append] at e
      obtain ⟨e1, e2⟩ := split58 _ _ _ _ (fun h => n58 (List.mem_of_mem_take h)) n58' e
      rw [hd'] at e2
      rcases hdr : D.drop (i + 1) with _ | ⟨a, _ | ⟨a2, y⟩⟩
      · rw [hdr] at e2
        simp at e2
        rcases hdd' with h | h <;> rw [h] at e2 <;> exact absurd e2.1 (by decide)
      · rw [hdr, hd] at e2
        simp at e2
        have := e2.2.1
        rcases hdd with h | h <;> rcases hll' with h' | h' <;> rw [h, h'] at this <;> exact absurd this (by decide)
      · rw [hdr] at e2
        simp at e2
        have h2 : (58 : UInt8) ∈ D := List.mem_of_mem_drop (i := i + 1) (by rw [hdr, ← e2.2.1]; simp)
        exact n58 h2
    · simp only [List.append_assoc, List.cons_append] at e
      have h58 : (58 : UInt8) ∉ D.set i c := fun h => by
        rcases List.mem_or_eq_of_mem_set h with h | h
        · exact n58 h
        · exact c58 h.symm
      obtain ⟨e1, e2⟩ := split58 _ _ _ _ h58 n58' e
      have hXX : X = X' := by
        rw [hX, hX']
        refine seal_front (r := 44 :: rest) (r' := 44 :: r') ?_
        rw [← hX, ← hX']
        simpa using e2
      have hDD : D = D' := by rw [hD, hD', hXX]
      rw [← hDD] at e1
      have := congrArg (fun l => l[i]?) e1
      simp [c1] at this
      exact hci this.symm
  · rw [set_back _ _ _ _ (by omega)] at e
    have hlen : (D ++ 58 :: (X ++ [44])).length = D.length + 1 + X.length + 1 := by simp; omega
    rw [hlen] at hi
    rcases hj : i - D.length with _ | j
    · -- the colon
      have hcol : c ≠ 58 := by
        intro h
        apply hc
        rw [List.getElem_append_right (by omega)]
        simp [hj, h]
      rw [hj, hd] at e
      have e' : (D ++ [c, d]) ++ 58 :: (l :: z ++ ([44] ++ rest)) = D' ++ 58 :: (X' ++ 44 :: r') := by simpa using e
      have hd58 : d ≠ 58 := by rcases hdd with h | h <;> rw [h] <;> decide
      obtain ⟨_, e2⟩ := split58 _ _ _ _ (fun h => by
        rcases List.mem_append.1 h with h | h
        · exact n58 h
        · simp at h
          rcases h with h | h
          · exact hcol h.symm
          · exact hd58 h.symm) n58' e'
      rw [hd'] at e2
      simp at e2
      have := e2.1
      rcases hll with h | h <;> rcases hdd' with h' | h' <;> rw [h, h'] at this <;> exact absurd this (by decide)
    · rw [hj, List.set_cons_succ] at e
      simp only [List.append_assoc, List.cons_append] at e
      obtain ⟨e1, e2⟩ := split58 _ _ _ _ n58 n58' e
      have hl := len_of e1
      by_cases c2 : j < X.length
      · -- within the sealed text
        rw [set_front _ _ _ _ c2] at e2
        have h3 : X.set j c = X' := by
          have := List.append_inj (s₁ := X.set j c) (t₁ := [44] ++ rest) (s₂ := X') (t₂ := [44] ++ r') (by simpa using e2) (by rw [List.length_set]; exact hl)
          exact this.1
        have hcj : X[j] ≠ c := by
          intro h
          apply hc
          rw [List.getElem_append_right (by omega)]
          simp only [hj, List.getElem_cons_succ]
          rw [List.getElem_append_left c2]
          exact h
        have h4 := open_spoilt (bodyT k n t) j c (by rw [← hX]; exact c2) (by simp only [← hX]; exact hcj)
        rw [← hX, h3, hX', open_seal] at h4
        cases h4
      · -- the comma
        have hjX : j = X.length := by omega
        rw [set_back _ _ _ _ (by omega)] at e2
        have h3 := List.append_inj (s₁ := X) (t₁ := [44].set (j - X.length) c ++ rest) (s₂ := X') (t₂ := [44] ++ r') (by simpa using e2) hl
        have h4 := h3.2
        rw [hjX, Nat.sub_self] at h4
        simp at h4
        apply hc
        rw [List.getElem_append_right (by omega)]
        simp only [hj, List.getElem_cons_succ]
        rw [List.getElem_append_right (by omega)]
        simp [hjX, h4.1]

/-! ### a tape's records -/
noncomputable def recsF : Nat → Nat → Text → List Text × Text
  | 0, _, s => ([], s)
  | f + 1, n, s => match readT kRec s with
    | some (m, x, r) => if m = (n : Int) + 1 then (x :: (recsF f (n + 1) r).1, (recsF f (n + 1) r).2) else ([], s)
    | none => ([], s)
/-- the records n + 1, n + 2 .. at the front of s, and what stands behind them -/
noncomputable def recsT (n : Nat) (s : Text) : List Text × Text := recsF s.length n s
theorem read_less {kind s t r : Text} {n : Int} (h : readT kind s = some (n, t, r)) : r.length < s.length := by
  have h1 := (read_spec h).1
  have h2 := List.length_pos_iff.2 (page_ne kind n t)
  rw [h1, List.length_append]; omega
theorem recsF_more : ∀ (f g n : Nat) (s : Text), s.length ≤ f → s.length ≤ g → recsF f n s = recsF g n s
  | 0, 0, _, _, _, _ => rfl
  | 0, g + 1, n, s, hf, _ => by
    obtain rfl : s = [] := List.length_eq_zero_iff.1 (by omega)
    rw [recsF, recsF, read_nil]
  | f + 1, 0, n, s, _, hg => by
    obtain rfl : s = [] := List.length_eq_zero_iff.1 (by omega)
    rw [recsF, recsF, read_nil]
  | f + 1, g + 1, n, s, hf, hg => by
    rw [recsF, recsF]
    rcases h : readT kRec s with _ | ⟨m, x, r⟩
    · rfl
    · have := read_less h
      simp only
      split
      · rw [recsF_more f g (n + 1) r (by omega) (by omega)]
      · rfl
theorem recs_step {n : Nat} {s x r : Text} (h : readT kRec s = some ((n : Int) + 1, x, r)) : recsT n s = (x :: (recsT (n + 1) r).1, (recsT (n + 1) r).2) := by
  have hl := read_less h
  unfold recsT
  obtain ⟨f, hf⟩ : ∃ f, s.length = f + 1 := ⟨s.length - 1, by omega⟩
  rw [hf, recsF, h]
  simp only [if_true]
  rw [recsF_more f r.length (n + 1) r (by omega) (Nat.le_refl _)]
theorem recs_stop {n : Nat} {s : Text} (h : ∀ x r, readT kRec s ≠ some ((n : Int) + 1, x, r)) : recsT n s = ([], s) := by
  unfold recsT
  rcases hs : s.length with _ | f
  · rw [recsF]
  · rw [recsF]
    rcases h1 : readT kRec s with _ | ⟨m, x, r⟩
    · rfl
    · simp only
      rw [if_neg]
      rintro rfl
      exact h x r h1
/-- the pages of the records l, the first of them the record n + 1 -/
def recPages : Nat → List Text → Text
  | _, [] => []
  | n, x :: l => pageT kRec ((n : Int) + 1) x ++ recPages (n + 1) l
theorem recPages_snoc : ∀ (n : Nat) (l : List Text) (x : Text), recPages n (l ++ [x]) = recPages n l ++ pageT kRec ((n : Int) + l.length + 1) x
  | n, [], x => by simp [recPages]
  | n, y :: l, x => by
    rw [List.cons_append, recPages, recPages, recPages_snoc (n + 1) l x, List.append_assoc]
    congr 3
    simp only [List.length_cons]
    omega
theorem recPages_append : ∀ (n : Nat) (a b : List Text), recPages n (a ++ b) = recPages n a ++ recPages (n + a.length) b
  | n, [], b => by simp [recPages]
  | n, x :: a, b => by
    rw [List.cons_append, recPages, recPages, recPages_append (n + 1) a b, List.append_assoc]
    simp only [List.length_cons]
    rw [show n + 1 + a.length = n + (a.length + 1) by omega]
/-- the record w + 1 among them -/
theorem recPages_split (n : Nat) (l : List Text) (w : Nat) (h : w < l.length) : recPages n l = recPages n (l.take w) ++ (pageT kRec ((n : Int) + w + 1) l[w] ++ recPages (n + w + 1) (l.drop (w + 1))) := by
  have e : l = l.take w ++ (l[w] :: l.drop (w + 1)) := by rw [← List.drop_eq_getElem_cons h, List.take_append_drop]
  have hl : (l.take w).length = w := by rw [List.length_take]; omega
  have := recPages_append n (l.take w) (l[w] :: l.drop (w + 1))
  rw [← e, hl, recPages] at this
  rw [this]
  congr 3
theorem recs_pages : ∀ (l : List Text) (n : Nat) (q : Text), (∀ x ∈ l, x.length ≤ 524288) → n + l.length ≤ 1000000 →
    recsT n (recPages n l ++ q) = (l ++ (recsT (n + l.length) q).1, (recsT (n + l.length) q).2)
  | [], n, q, _, _ => by simp [recPages]
  | x :: l, n, q, hx, hn => by
    have h1 := hx x (by simp)
    simp only [List.length_cons] at hn
    have h : readT kRec (recPages n (x :: l) ++ q) = some ((n : Int) + 1, x, recPages (n + 1) l ++ q) :=
      read_some (by rw [recPages, List.append_assoc]) (by unfold inR; omega) h1
    rw [recs_step h, recs_pages l (n + 1) q (fun y hy => hx y (by simp [hy])) (by omega)]
    simp only [List.length_cons, List.cons_append]
    rw [show n + 1 + l.length = n + (l.length + 1) by omega]

/-- a tape: its epoch, its base, its records, how many bytes are right; none: it has no epoch -/
noncomputable def scanT (s : Text) : Option (Int × Text × List Text × Nat) := match readT kBase s with
  | some (n, b, r) => if 1 ≤ n ∧ n ≤ 4611686018427387904 then some (n, b, (recsT 0 r).1, s.length - (recsT 0 r).2.length) else none
  | none => none
/-- a base, its records, and what is no record more -/
theorem scan_tape {n : Int} {b : Text} {l : List Text} {q : Text} (hn : 1 ≤ n) (hn2 : n ≤ 4611686018427387904) (hb : b.length ≤ 524288) (hl : ∀ x ∈ l, x.length ≤ 524288) (hc : l.length ≤ 1000000)
    (hq : ∀ x r, readT kRec q ≠ some ((l.length : Int) + 1, x, r)) : scanT (pageT kBase n b ++ (recPages 0 l ++ q)) = some (n, b, l, (pageT kBase n b).length + (recPages 0 l).length) := by
  have h := read_some (kind := kBase) (s := pageT kBase n b ++ (recPages 0 l ++ q)) rfl (show inR n by unfold inR; omega) hb
  unfold scanT
  rw [h]
  simp only
  rw [if_pos ⟨hn, hn2⟩, recs_pages l 0 q hl (by omega), Nat.zero_add, recs_stop hq]
  simp only [List.append_nil, List.length_append]
  congr 4
  omega
theorem scan_whole {n : Int} {b : Text} {l : List Text} (hn : 1 ≤ n) (hn2 : n ≤ 4611686018427387904) (hb : b.length ≤ 524288) (hl : ∀ x ∈ l, x.length ≤ 524288) (hc : l.length ≤ 1000000) :
    scanT (pageT kBase n b ++ recPages 0 l) = some (n, b, l, (pageT kBase n b).length + (recPages 0 l).length) := by
  have := scan_tape (q := []) hn hn2 hb hl hc (fun x r h => by rw [read_nil] at h; cases h)
  simpa using this
theorem scan_torn {n : Int} {b : Text} {l : List Text} {k p q t : Text} {m : Int} (hn : 1 ≤ n) (hn2 : n ≤ 4611686018427387904) (hb : b.length ≤ 524288) (hl : ∀ x ∈ l, x.length ≤ 524288) (hc : l.length ≤ 1000000)
    (h : pageT k m t = p ++ q) (hq : q ≠ []) : scanT (pageT kBase n b ++ (recPages 0 l ++ p)) = some (n, b, l, (pageT kBase n b).length + (recPages 0 l).length) :=
  scan_tape hn hn2 hb hl hc (fun x r e => by rw [read_torn h hq] at e; cases e)
theorem scan_spoilt {n : Int} {b : Text} {l : List Text} {k t rest : Text} {m : Int} (hn : 1 ≤ n) (hn2 : n ≤ 4611686018427387904) (hb : b.length ≤ 524288) (hl : ∀ x ∈ l, x.length ≤ 524288) (hc : l.length ≤ 1000000)
    (hk : isKind k) (i : Nat) (c : UInt8) (hi : i < (pageT k m t).length) (hne : (pageT k m t)[i] ≠ c) :
    scanT (pageT kBase n b ++ (recPages 0 l ++ ((pageT k m t).set i c ++ rest))) = some (n, b, l, (pageT kBase n b).length + (recPages 0 l).length) :=
  scan_tape hn hn2 hb hl hc (fun x r e => by rw [read_spoilt hk (.inr rfl) i c hi hne] at e; cases e)
/-- a tape that is empty, cut off within its base, has no epoch -/
theorem scan_nil : scanT [] = none := by unfold scanT; rw [read_nil]
theorem scan_cut {k p q t : Text} {m : Int} (h : pageT k m t = p ++ q) (hq : q ≠ []) : scanT p = none := by unfold scanT; rw [read_torn h hq]

end Go.Proofs.YtglkapamkigdhaaDoor.M
