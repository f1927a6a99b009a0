/-
  THE PLAIN MATHEMATICS OF PACKAGE session, of no program: sessions, whether they may be, how they are found, noted and merged, their texts and back. No condition.
  What the document says follows, of sessions, reckoned without a program: noted and merged, no client's number becomes less. No condition.
-/
import Derived.Test.YticikmkehobblaaDoorOdA
namespace Go.Proofs.YticikmkehobblaaDoor.Ss
open Go.Proofs.YticikmkehobblaaDoor.Od (Rep isR putR parseR seqB amongB num0)
open Go.Proofs.YticikmkehobblaaDoor.M (tieT untieT untie_some untie_spec numT intT inR tieT_inj)

abbrev Text := List UInt8
structure Ses where
  client : Int
  seq : Int
  rep : Rep
abbrev Ses.zero : Ses := ⟨0, 0, Od.Rep.zero⟩
def sameS (a b : Ses) : Bool := decide (a.client = b.client) && decide (a.seq = b.seq) && Od.sameR a.rep b.rep
theorem sameS_iff (a b : Ses) : sameS a b = true ↔ a = b := by
  unfold sameS
  simp only [Bool.and_eq_true, decide_eq_true_eq, Od.sameR_iff]
  obtain ⟨a1, a2, a3⟩ := a
  obtain ⟨b1, b2, b3⟩ := b
  constructor
  · rintro ⟨⟨h1, h2⟩, h3⟩
    simp only at h1 h2 h3
    subst h1 h2 h3
    rfl
  · intro h
    injection h with h1 h2 h3
    exact ⟨⟨h1, h2⟩, h3⟩
def sameL : List Ses → List Ses → Bool
  | [], [] => true
  | a :: l, b :: m => sameS a b && sameL l m
  | _, _ => false
theorem sameL_iff : ∀ (a b : List Ses), sameL a b = true ↔ a = b
  | [], [] => by simp [sameL]
  | [], _ :: _ => by simp [sameL]
  | _ :: _, [] => by simp [sameL]
  | a :: l, b :: m => by rw [sameL, Bool.and_eq_true, sameS_iff, sameL_iff l m]; simp

/-! ### whether they may be -/
def keptB (r : Rep) : Bool := isR r && decide (r.val.size ≤ 512) && decide (r.ps.length = 0)
def fitsB (s : Ses) : Bool := seqB s.client && seqB s.seq && keptB s.rep
/-- from the front: clients above last, rising -/
def riseB : Int → List Ses → Bool
  | _, [] => true
  | last, s :: l => if last < s.client ∧ fitsB s = true then riseB s.client l else false
def isS (l : List Ses) : Bool := decide (l.length ≤ 64) && riseB 0 l
def chkS (l : List Ses) : Int := if isS l = true then 0 else 80
theorem fits_client {s : Ses} (h : fitsB s = true) : 1 ≤ s.client ∧ s.client ≤ 1099511627776 := by
  unfold fitsB seqB amongB at h
  simp only [Bool.and_eq_true, decide_eq_true_eq] at h
  exact h.1.1
theorem fits_seq {s : Ses} (h : fitsB s = true) : 1 ≤ s.seq ∧ s.seq ≤ 1099511627776 := by
  unfold fitsB seqB amongB at h
  simp only [Bool.and_eq_true, decide_eq_true_eq] at h
  exact h.1.2
theorem fits_ps {s : Ses} (h : fitsB s = true) : s.rep.ps = [] := by
  unfold fitsB keptB at h
  simp only [Bool.and_eq_true, decide_eq_true_eq] at h
  exact List.length_eq_zero_iff.1 h.2.2
theorem rise_cons {last : Int} {s : Ses} {l : List Ses} : riseB last (s :: l) = true ↔ last < s.client ∧ fitsB s = true ∧ riseB s.client l = true := by
  rw [riseB]
  by_cases h : last < s.client ∧ fitsB s = true
  · rw [if_pos h]; exact ⟨fun g => ⟨h.1, h.2, g⟩, fun g => g.2.2⟩
  · rw [if_neg h]; exact ⟨fun g => (by cases g), fun g => absurd ⟨g.1, g.2.1⟩ h⟩
theorem rise_less : ∀ {l : List Ses} {a b : Int}, a ≤ b → riseB b l = true → riseB a l = true
  | [], _, _, _, _ => rfl
  | s :: l, a, b, h, g => by
    rw [rise_cons] at g ⊢
    exact ⟨by omega, g.2⟩
theorem rise_mem : ∀ {l : List Ses} {a : Int}, riseB a l = true → ∀ s ∈ l, a < s.client ∧ fitsB s = true
  | s :: l, a, g, x, hx => by
    rw [rise_cons] at g
    rcases List.mem_cons.1 hx with rfl | hx
    · exact ⟨g.1, g.2.1⟩
    · have := rise_mem g.2.2 x hx
      exact ⟨by omega, this.2⟩
theorem isS_iff (l : List Ses) : isS l = true ↔ l.length ≤ 64 ∧ riseB 0 l = true := by simp [isS]

/-! ### the client's session -/
def findS (c : Int) : List Ses → Option Ses
  | [] => none
  | s :: l => if s.client = c then some s else findS c l
theorem findS_cons (c : Int) (x : Ses) (l : List Ses) : findS c (x :: l) = if x.client = c then some x else findS c l := rfl
theorem findS_some {c : Int} : ∀ {l : List Ses} {s : Ses}, findS c l = some s → s ∈ l ∧ s.client = c
  | x :: l, s, h => by
    rw [findS] at h
    by_cases e : x.client = c
    · rw [if_pos e] at h; obtain rfl := Option.some.inj h; exact ⟨by simp, e⟩
    · rw [if_neg e] at h; have := findS_some h; exact ⟨by simp [this.1], this.2⟩
theorem findS_none {c : Int} : ∀ {l : List Ses}, findS c l = none ↔ ∀ s ∈ l, s.client ≠ c
  | [] => by simp [findS]
  | x :: l => by
    rw [findS]
    by_cases e : x.client = c
    · rw [if_pos e]; simp [e]
    · rw [if_neg e, findS_none (l := l)]; simp [e]
theorem findS_mem : ∀ {l : List Ses} {a : Int} {s : Ses}, riseB a l = true → s ∈ l → findS s.client l = some s
  | x :: l, a, s, h, hm => by
    rw [rise_cons] at h
    rw [findS]
    rcases List.mem_cons.1 hm with rfl | hm
    · rw [if_pos rfl]
    · rw [if_neg (by have := (rise_mem h.2.2 s hm).1; omega)]
      exact findS_mem h.2.2 hm
/-- by the place behind all lesser clients -/
theorem findS_at : ∀ {l : List Ses} {a : Int} (c : Int), riseB a l = true → findS c l = match l[l.countP (fun s => decide (s.client < c))]? with
    | some s => if s.client = c then some s else none
    | none => none
  | [], _, c, _ => rfl
  | x :: l, a, c, h => by
    rw [rise_cons] at h
    rw [findS]
    by_cases h1 : x.client < c
    · rw [if_neg (by omega), findS_at c h.2.2, List.countP_cons_of_pos (by simpa using h1), List.getElem?_cons_succ]
    · have hz : l.countP (fun s => decide (s.client < c)) = 0 := by
        rw [List.countP_eq_zero]
        intro s hs
        have := (rise_mem h.2.2 s hs).1
        simp; omega
      rw [List.countP_cons_of_neg (by simpa using h1), hz, List.getElem?_cons_zero]
      simp only
      by_cases h2 : x.client = c
      · rw [if_pos h2, if_pos h2]
      · rw [if_neg h2, if_neg h2]
        rw [findS_none]
        intro s hs
        have := (rise_mem h.2.2 s hs).1
        omega
def askS (l : List Ses) (c q : Int) : Rep × Bool := match findS c l with
  | none => (Od.Rep.zero, false)
  | some s => if s.seq < q then (Od.Rep.zero, false) else if s.seq = q then (s.rep, true) else (⟨3, 0, false, Od.E0, []⟩, true)

/-! ### merged: of anything that bears a session -/
def laterG {α : Type} (f : α → Ses) (a b : α) : α := if (f a).seq < (f b).seq then b else a
def bothG {α : Type} (f : α → Ses) : List α → List α → List α
  | [], b => b
  | a, [] => a
  | x :: a, y :: b => if (f x).client < (f y).client then x :: bothG f a (y :: b) else if (f y).client < (f x).client then y :: bothG f (x :: a) b else laterG f x y :: bothG f a b
termination_by a b => a.length + b.length
theorem bothG_nil {α : Type} (f : α → Ses) (b : List α) : bothG f [] b = b := by rw [bothG]
theorem bothG_end {α : Type} (f : α → Ses) (a : List α) : bothG f a [] = a := by cases a <;> simp [bothG]
theorem bothG_cons {α : Type} (f : α → Ses) (x y : α) (a b : List α) : bothG f (x :: a) (y :: b) = if (f x).client < (f y).client then x :: bothG f a (y :: b) else if (f y).client < (f x).client then y :: bothG f (x :: a) b else laterG f x y :: bothG f a b := by rw [bothG]
theorem bothG_map {α β : Type} (f : α → Ses) (g : β → Ses) (u : α → β) (hu : ∀ x, g (u x) = f x) : ∀ (n : Nat) (a b : List α), a.length + b.length ≤ n → (bothG f a b).map u = bothG g (a.map u) (b.map u)
  | n, [], b, _ => by rw [List.map_nil, bothG_nil, bothG_nil]
  | n, x :: a, [], _ => by rw [List.map_nil, bothG_end, bothG_end]
  | 0, x :: a, y :: b, h => by simp at h
  | n + 1, x :: a, y :: b, h => by
    simp only [List.length_cons] at h
    rw [List.map_cons, List.map_cons, bothG_cons, bothG_cons, hu, hu]
    by_cases h1 : (f x).client < (f y).client
    · rw [if_pos h1, if_pos h1, List.map_cons, bothG_map f g u hu n a (y :: b) (by simp; omega), List.map_cons]
    · rw [if_neg h1, if_neg h1]
      by_cases h2 : (f y).client < (f x).client
      · rw [if_pos h2, if_pos h2, List.map_cons, bothG_map f g u hu n (x :: a) b (by simp; omega), List.map_cons]
      · rw [if_neg h2, if_neg h2, List.map_cons, bothG_map f g u hu n a b (by omega)]
        congr 1
        unfold laterG
        rw [hu, hu]
        split <;> rfl
theorem bothG_length {α : Type} (f : α → Ses) : ∀ (n : Nat) (a b : List α), a.length + b.length ≤ n → (bothG f a b).length ≤ a.length + b.length
  | n, [], b, _ => by rw [bothG_nil]; simp
  | n, x :: a, [], _ => by rw [bothG_end]; simp
  | 0, x :: a, y :: b, h => by simp at h
  | n + 1, x :: a, y :: b, h => by
    simp only [List.length_cons] at h ⊢
    rw [bothG_cons]
    have h1 := bothG_length f n a (y :: b) (by simp; omega)
    have h2 := bothG_length f n (x :: a) b (by simp; omega)
    have h3 := bothG_length f n a b (by omega)
    simp only [List.length_cons] at h1 h2 h3
    split
    · simp only [List.length_cons]; omega
    · split
      · simp only [List.length_cons]; omega
      · simp only [List.length_cons]; omega
theorem bothG_mem {α : Type} (f : α → Ses) : ∀ (n : Nat) (a b : List α), a.length + b.length ≤ n → ∀ x ∈ bothG f a b, x ∈ a ∨ x ∈ b
  | n, [], b, _, x, hx => by rw [bothG_nil] at hx; exact .inr hx
  | n, y :: a, [], _, x, hx => by rw [bothG_end] at hx; exact .inl hx
  | 0, y :: a, z :: b, h, x, hx => by simp at h
  | n + 1, y :: a, z :: b, h, x, hx => by
    simp only [List.length_cons] at h
    rw [bothG_cons] at hx
    split at hx
    · rcases List.mem_cons.1 hx with rfl | hx
      · exact .inl (by simp)
      · rcases bothG_mem f n a (z :: b) (by simp; omega) x hx with h | h
        · exact .inl (by simp [h])
        · exact .inr h
    · split at hx
      · rcases List.mem_cons.1 hx with rfl | hx
        · exact .inr (by simp)
        · rcases bothG_mem f n (y :: a) b (by simp; omega) x hx with h | h
          · exact .inl h
          · exact .inr (by simp [h])
      · rcases List.mem_cons.1 hx with rfl | hx
        · unfold laterG; split
          · exact .inr (by simp)
          · exact .inl (by simp)
        · rcases bothG_mem f n a b (by omega) x hx with h | h
          · exact .inl (by simp [h])
          · exact .inr (by simp [h])
def bothS (a b : List Ses) : List Ses := bothG (fun s => s) a b
def later2 (x y : Ses) : Ses := if x.seq < y.seq then y else x
theorem bothS_nil (b : List Ses) : bothS [] b = b := bothG_nil _ b
theorem bothS_end (a : List Ses) : bothS a [] = a := bothG_end _ a
theorem bothS_cons (x y : Ses) (a b : List Ses) : bothS (x :: a) (y :: b) = if x.client < y.client then x :: bothS a (y :: b) else if y.client < x.client then y :: bothS (x :: a) b else later2 x y :: bothS a b := bothG_cons _ x y a b
def mergeS (a b : List Ses) : List Ses × Int := if (bothS a b).length ≤ 64 then (bothS a b, 0) else ([], 6)
def noteS (l : List Ses) (s : Ses) : List Ses × Int := if isS [s] = true then mergeS [s] l else ([], 80)

/-! ### the document's way: one behind the other -/
def setS (s : Ses) (over : Bool) : List Ses → List Ses
  | [] => [s]
  | x :: l => if x.client < s.client then x :: setS s over l else if x.client = s.client then (if x.seq > s.seq ∨ (x.seq = s.seq ∧ over = false) then x :: l else s :: l) else s :: x :: l
theorem set_true (s : Ses) : ∀ l : List Ses, setS s true l = bothS [s] l
  | [] => by rw [setS, bothS_end]
  | x :: l => by
    rw [setS, bothS_cons]
    by_cases h1 : x.client < s.client
    · have e1 : ¬ s.client < x.client := by omega
      rw [if_pos h1, if_neg e1, if_pos h1, set_true s l]
    · rw [if_neg h1]
      by_cases h2 : x.client = s.client
      · have e1 : ¬ s.client < x.client := by omega
        rw [if_pos h2, if_neg e1, if_neg h1, bothS_nil]
        unfold later2
        by_cases h3 : s.seq < x.seq
        · have e3 : x.seq > s.seq ∨ x.seq = s.seq ∧ true = false := .inl h3
          rw [if_pos e3, if_pos h3]
        · have e3 : ¬ (x.seq > s.seq ∨ x.seq = s.seq ∧ true = false) := by
            rintro (h | ⟨_, h⟩)
            · omega
            · cases h
          rw [if_neg e3, if_neg h3]
      · have e1 : s.client < x.client := by omega
        rw [if_neg h2, if_pos e1, bothS_nil]
theorem both_first (u : Ses) (a b : List Ses) (h : ∀ s ∈ b.head?, u.client < s.client) : bothS (u :: a) b = u :: bothS a b := by
  cases b with
  | nil => rw [bothS_end, bothS_end]
  | cons z b => rw [bothS_cons, if_pos (h z rfl)]
theorem set_both (y : Ses) : ∀ (a b : List Ses), (∀ s ∈ b.head?, y.client < s.client) → bothS (setS y false a) b = bothS a (y :: b)
  | [], b, h => by rw [setS, bothS_nil, both_first y [] b h, bothS_nil]
  | x :: a, b, h => by
    rw [setS, bothS_cons]
    by_cases h1 : x.client < y.client
    · rw [if_pos h1, if_pos h1, ← set_both y a b h]
      exact both_first x _ b (fun s hs => by have := h s hs; omega)
    · rw [if_neg h1, if_neg h1]
      by_cases h2 : x.client = y.client
      · have e1 : ¬ y.client < x.client := by omega
        rw [if_pos h2, if_neg e1]
        unfold later2
        by_cases h3 : x.seq < y.seq
        · have e3 : ¬ (x.seq > y.seq ∨ x.seq = y.seq ∧ false = false) := by
            rintro (h | ⟨h, _⟩) <;> omega
          rw [if_pos h3, if_neg e3]
          exact both_first y a b h
        · have e3 : x.seq > y.seq ∨ x.seq = y.seq ∧ false = false := by
            rcases Int.lt_or_eq_of_le (Int.not_lt.1 h3) with h | h
            · exact .inl h
            · exact .inr ⟨h.symm, rfl⟩
          rw [if_neg h3, if_pos e3]
          exact both_first x a b (fun s hs => by have := h s hs; omega)
      · have e1 : y.client < x.client := by omega
        rw [if_neg h2, if_pos e1]
        exact both_first y _ b h
theorem sets_both : ∀ (b a : List Ses) (k : Int), riseB k b = true → b.foldl (fun a y => setS y false a) a = bothS a b
  | [], a, _, _ => by rw [List.foldl_nil, bothS_end]
  | y :: b, a, k, h => by
    rw [rise_cons] at h
    rw [List.foldl_cons, sets_both b _ _ h.2.2]
    refine set_both y a b ?_
    intro s hs
    cases b with
    | nil => cases hs
    | cons z b =>
      obtain rfl := Option.some.inj hs
      exact ((rise_cons.1 h.2.2).1)

/-! ### texts, and back -/
def sesT (s : Ses) : List Text := [numT s.client, numT s.seq, putR s.rep]
def strandsS (l : List Ses) : List Text := (l.map sesT).flatten
def putS (l : List Ses) : Text := tieT (strandsS l)
theorem strandsS_cons (s : Ses) (l : List Ses) : strandsS (s :: l) = numT s.client :: numT s.seq :: putR s.rep :: strandsS l := rfl
theorem strandsS_snoc (l : List Ses) (s : Ses) : strandsS (l ++ [s]) = strandsS l ++ sesT s := by simp [strandsS]
theorem strandsS_length : ∀ l : List Ses, (strandsS l).length = l.length * 3
  | [] => rfl
  | s :: l => by rw [strandsS_cons]; simp [strandsS_length l]; omega
/-- three by three; a number that is none is 0 -/
noncomputable def readS : List Text → Option (List Ses)
  | [] => some []
  | a :: b :: c :: t => if (parseR c).2 = 0 then (readS t).map (fun l => ⟨num0 a, num0 b, (parseR c).1⟩ :: l) else none
  | _ => none
noncomputable def parseS (s : Text) : List Ses × Int := match untieT s with
  | none => ([], 80)
  | some t => match readS t with
    | none => ([], 80)
    | some l => if isS l = true then (l, 0) else ([], 80)
theorem parseS_cases (s : Text) : (∃ l, isS l = true ∧ parseS s = (l, 0)) ∨ parseS s = ([], 80) := by
  unfold parseS
  cases untieT s with
  | none => exact .inr rfl
  | some t =>
    simp only
    cases readS t with
    | none => exact .inr rfl
    | some l =>
      simp only
      by_cases h : isS l = true
      · left; exact ⟨l, h, if_pos h⟩
      · right; exact if_neg h
structure InS (l : List Ses) : Prop where
  n : ∀ s ∈ l, inR s.client ∧ inR s.seq
  r : ∀ s ∈ l, inR s.rep.code ∧ inR s.rep.err
theorem read_strandsS : ∀ {l : List Ses}, InS l → (∀ s ∈ l, isR s.rep = true ∧ (putR s.rep).length ≤ 1048576 ∧ s.rep.ps.length ≤ 2000) → readS (strandsS l) = some l
  | [], _, _ => rfl
  | s :: l, h, g => by
    obtain ⟨h1, h2⟩ := h.n s (by simp)
    obtain ⟨h3, h4⟩ := h.r s (by simp)
    obtain ⟨g1, g2, g3⟩ := g s (by simp)
    have ih := read_strandsS (l := l) ⟨fun x hx => h.n x (by simp [hx]), fun x hx => h.r x (by simp [hx])⟩ (fun x hx => g x (by simp [hx]))
    have e := Od.parse_putR h3 h4 g3 g2
    rw [if_pos g1] at e
    rw [strandsS_cons, readS, e, if_pos rfl, ih, Od.num0_numT h1, Od.num0_numT h2]
    rfl
/-- there and back -/
theorem parse_putS {l : List Ses} (h : isS l = true) (hi : InS l) (hr : ∀ s ∈ l, (putR s.rep).length ≤ 1048576) (hs : (putS l).length ≤ 1048576) : parseS (putS l) = (l, 0) := by
  have hl := (isS_iff l).1 h
  have hu : untieT (putS l) = some (strandsS l) := untie_some rfl (by rw [strandsS_length]; omega) hs
  have hk : ∀ s ∈ l, isR s.rep = true ∧ (putR s.rep).length ≤ 1048576 ∧ s.rep.ps.length ≤ 2000 := by
    intro s hs
    have hf := (rise_mem hl.2 s hs).2
    refine ⟨?_, hr s hs, by rw [fits_ps hf]; simp⟩
    unfold fitsB keptB at hf
    simp only [Bool.and_eq_true] at hf
    exact hf.2.1.1
  unfold parseS
  rw [hu]
  simp only [read_strandsS hi hk]
  exact if_pos h
/-- the document's reading: a number that is none ends it -/
noncomputable def readD : List Text → Option (List Ses)
  | [] => some []
  | a :: b :: c :: t => match intT a, intT b with
    | some m, some n => if (parseR c).2 = 0 then (readD t).map (fun l => ⟨m, n, (parseR c).1⟩ :: l) else none
    | _, _ => none
  | _ => none
theorem num0_some {t : Text} {n : Int} (h : intT t = some n) : num0 t = n := by unfold num0; rw [h]; rfl
theorem num0_none {t : Text} (h : intT t = none) : num0 t = 0 := by unfold num0; rw [h]; rfl
theorem readD_some : ∀ {t : List Text} {l : List Ses}, readD t = some l → readS t = some l
  | [], l, h => h
  | [_], l, h => by simp [readD] at h
  | [_, _], l, h => by simp [readD] at h
  | a :: b :: c :: t, l, h => by
    rw [readD] at h
    cases ha : intT a with
    | none => simp [ha] at h
    | some m =>
      cases hb : intT b with
      | none => simp [ha, hb] at h
      | some n =>
        simp only [ha, hb] at h
        by_cases hc : (parseR c).2 = 0
        · rw [if_pos hc] at h
          cases ht : readD t with
          | none => rw [ht] at h; cases h
          | some l' =>
            rw [ht] at h
            rw [readS, if_pos hc, readD_some ht, num0_some ha, num0_some hb]
            exact h
        · rw [if_neg hc] at h; cases h
theorem fits_zero {r : Rep} {n : Int} : fitsB ⟨0, n, r⟩ = false := by unfold fitsB; rfl
theorem fits_zero2 {r : Rep} {n : Int} : fitsB ⟨n, 0, r⟩ = false := by unfold fitsB; simp [show seqB 0 = false from rfl]
theorem rise_head {k : Int} {s : Ses} {l : List Ses} (h : fitsB s = false) : riseB k (s :: l) = false := by
  rw [riseB, if_neg (by rw [h]; simp)]
theorem readD_none : ∀ {t : List Text} {l : List Ses} (k : Int), readD t = none → readS t = some l → riseB k l = false
  | [], l, k, h, _ => by simp [readD] at h
  | [_], l, k, _, g => by simp [readS] at g
  | [_, _], l, k, _, g => by simp [readS] at g
  | a :: b :: c :: t, l, k, h, g => by
    rw [readS] at g
    by_cases hc : (parseR c).2 = 0
    · rw [if_pos hc] at g
      cases ht : readS t with
      | none => rw [ht] at g; cases g
      | some l' =>
        rw [ht] at g
        obtain rfl := Option.some.inj g
        rw [readD] at h
        cases ha : intT a with
        | none => rw [num0_none ha]; exact rise_head fits_zero
        | some m =>
          cases hb : intT b with
          | none => rw [num0_none hb]; exact rise_head fits_zero2
          | some n =>
            simp only [ha, hb] at h
            rw [if_pos hc] at h
            cases hd : readD t with
            | some l'' => rw [hd] at h; cases h
            | none =>
              rw [riseB]
              split
              · exact readD_none _ hd ht
              · rfl
    · rw [if_neg hc] at g; cases g
noncomputable def parseD' (s : Text) : List Ses × Int := match untieT s with
  | none => ([], 80)
  | some t => match readD t with
    | none => ([], 80)
    | some l => if isS l = true then (l, 0) else ([], 80)
theorem parse_doc (s : Text) : parseD' s = parseS s := by
  unfold parseD' parseS
  cases untieT s with
  | none => rfl
  | some t =>
    simp only
    cases hd : readD t with
    | some l => rw [readD_some hd]
    | none =>
      cases hs : readS t with
      | none => rfl
      | some l =>
        simp only
        rw [if_neg]
        unfold isS
        rw [readD_none 0 hd hs]
        simp

/-! ### what follows -/
theorem both_rise : ∀ (n : Nat) (a b : List Ses) (k : Int), a.length + b.length ≤ n → riseB k a = true → riseB k b = true → riseB k (bothS a b) = true
  | n, [], b, k, _, _, hb => by rw [bothS_nil]; exact hb
  | n, x :: a, [], k, _, ha, _ => by rw [bothS_end]; exact ha
  | 0, x :: a, y :: b, k, h, _, _ => by simp at h
  | n + 1, x :: a, y :: b, k, h, ha, hb => by
    simp only [List.length_cons] at h
    have ha' := rise_cons.1 ha
    have hb' := rise_cons.1 hb
    rw [bothS_cons]
    by_cases h1 : x.client < y.client
    · rw [if_pos h1, rise_cons]
      exact ⟨ha'.1, ha'.2.1, both_rise n a (y :: b) _ (by simp; omega) ha'.2.2 (rise_cons.2 ⟨h1, hb'.2⟩)⟩
    · rw [if_neg h1]
      by_cases h2 : y.client < x.client
      · rw [if_pos h2, rise_cons]
        exact ⟨hb'.1, hb'.2.1, both_rise n (x :: a) b _ (by simp; omega) (rise_cons.2 ⟨h2, ha'.2⟩) hb'.2.2⟩
      · rw [if_neg h2, rise_cons]
        have e : x.client = y.client := by omega
        unfold later2
        split
        · exact ⟨hb'.1, hb'.2.1, both_rise n a b _ (by omega) (by rw [← e]; exact ha'.2.2) hb'.2.2⟩
        · exact ⟨ha'.1, ha'.2.1, both_rise n a b _ (by omega) ha'.2.2 (by rw [e]; exact hb'.2.2)⟩
/-- what a merge has of a client -/
def latest : Option Ses → Option Ses → Option Ses
  | none, y => y
  | x, none => x
  | some x, some y => some (if x.seq < y.seq then y else x)
theorem findS_low {c k : Int} {l : List Ses} (h : riseB k l = true) (hc : c ≤ k) : findS c l = none := by
  rw [findS_none]
  intro s hs
  have := (rise_mem h s hs).1
  omega
theorem both_find (c : Int) : ∀ (n : Nat) (a b : List Ses) (k : Int), a.length + b.length ≤ n → riseB k a = true → riseB k b = true → findS c (bothS a b) = latest (findS c a) (findS c b)
  | n, [], b, k, _, _, hb => by rw [bothS_nil]; rfl
  | n, x :: a, [], k, _, ha, _ => by
    rw [bothS_end]
    show _ = latest (findS c (x :: a)) none
    cases findS c (x :: a) <;> rfl
  | 0, x :: a, y :: b, k, h, _, _ => by simp at h
  | n + 1, x :: a, y :: b, k, h, ha, hb => by
    simp only [List.length_cons] at h
    have ha' := rise_cons.1 ha
    have hb' := rise_cons.1 hb
    rw [bothS_cons]
    by_cases h1 : x.client < y.client
    · rw [if_pos h1]
      have hb2 : riseB x.client (y :: b) = true := rise_cons.2 ⟨h1, hb'.2⟩
      have ih := both_find c n a (y :: b) _ (by simp; omega) ha'.2.2 hb2
      rw [findS_cons, findS_cons]
      by_cases hc : x.client = c
      · rw [if_pos hc, if_pos hc, findS_low hb2 (by omega)]
        rfl
      · rw [if_neg hc, if_neg hc]; exact ih
    · rw [if_neg h1]
      by_cases h2 : y.client < x.client
      · rw [if_pos h2]
        have ha2 : riseB y.client (x :: a) = true := rise_cons.2 ⟨h2, ha'.2⟩
        have ih := both_find c n (x :: a) b _ (by simp; omega) ha2 hb'.2.2
        rw [findS_cons]
        by_cases hc : y.client = c
        · rw [if_pos hc, findS_low ha2 (by omega), findS_cons, if_pos hc]
          rfl
        · rw [if_neg hc, ih]
          rw [findS_cons c y b, if_neg hc]
      · rw [if_neg h2]
        have e : x.client = y.client := by omega
        have ih := both_find c n a b _ (by omega) ha'.2.2 (by rw [e]; exact hb'.2.2)
        have el : (later2 x y).client = x.client := by unfold later2; split <;> simp [e]
        rw [findS_cons, el, findS_cons, findS_cons]
        by_cases hc : x.client = c
        · rw [if_pos hc, if_pos hc, if_pos (by omega)]
          rfl
        · rw [if_neg hc, if_neg hc, if_neg (by omega)]; exact ih
end Go.Proofs.YticikmkehobblaaDoor.Ss

namespace Go.Proofs.YticikmkehobblaaDoor.Ss
open Go.Proofs.YticikmkehobblaaDoor.Od (Rep isR)

theorem both_swap_length : ∀ (n : Nat) (a b : List Ses), a.length + b.length ≤ n → (bothS a b).length = (bothS b a).length
  | n, [], b, _ => by rw [bothS_nil, bothS_end]
  | n, x :: a, [], _ => by rw [bothS_nil, bothS_end]
  | 0, x :: a, y :: b, h => by simp at h
  | n + 1, x :: a, y :: b, h => by
    simp only [List.length_cons] at h
    have i1 := both_swap_length n a (y :: b) (by simp; omega)
    have i2 := both_swap_length n (x :: a) b (by simp; omega)
    have i3 := both_swap_length n a b (by omega)
    rw [bothS_cons, bothS_cons]
    by_cases h1 : x.client < y.client
    · have h2 : ¬ y.client < x.client := by omega
      rw [if_pos h1, if_neg h2, if_pos h1, List.length_cons, List.length_cons, i1]
    · by_cases h2 : y.client < x.client
      · rw [if_neg h1, if_pos h2, if_pos h2, List.length_cons, List.length_cons, i2]
      · rw [if_neg h1, if_neg h2, if_neg h2, if_neg h1, List.length_cons, List.length_cons, i3]
theorem both_swap : ∀ (n : Nat) (a b : List Ses), a.length + b.length ≤ n → (∀ x ∈ a, ∀ y ∈ b, x.client = y.client → x.seq ≠ y.seq) → bothS a b = bothS b a
  | n, [], b, _, _ => by rw [bothS_nil, bothS_end]
  | n, x :: a, [], _, _ => by rw [bothS_nil, bothS_end]
  | 0, x :: a, y :: b, h, _ => by simp at h
  | n + 1, x :: a, y :: b, h, ht => by
    simp only [List.length_cons] at h
    have i1 := both_swap n a (y :: b) (by simp; omega) (fun u hu v hv => ht u (by simp [hu]) v hv)
    have i2 := both_swap n (x :: a) b (by simp; omega) (fun u hu v hv => ht u hu v (by simp [hv]))
    have i3 := both_swap n a b (by omega) (fun u hu v hv => ht u (by simp [hu]) v (by simp [hv]))
    rw [bothS_cons, bothS_cons]
    by_cases h1 : x.client < y.client
    · have h2 : ¬ y.client < x.client := by omega
      rw [if_pos h1, if_neg h2, if_pos h1, i1]
    · by_cases h2 : y.client < x.client
      · rw [if_neg h1, if_pos h2, if_pos h2, i2]
      · rw [if_neg h1, if_neg h2, if_neg h2, if_neg h1, i3]
        congr 1
        have hne := ht x (by simp) y (by simp) (by omega)
        unfold later2
        by_cases h3 : x.seq < y.seq
        · have h4 : ¬ y.seq < x.seq := by omega
          rw [if_pos h3, if_neg h4]
        · have h4 : y.seq < x.seq := by omega
          rw [if_neg h3, if_pos h4]
theorem both_self (x : Ses) (a b : List Ses) : bothS (x :: a) (x :: b) = x :: bothS a b := by
  rw [bothS_cons, if_neg (by omega), if_neg (by omega)]
  unfold later2
  rw [if_neg (by omega)]
theorem both_take : ∀ (a : List Ses) (k : Nat), bothS a (a.take k) = a ∧ bothS (a.take k) a = a
  | [], k => by rw [List.take_nil, bothS_nil]; exact ⟨rfl, rfl⟩
  | x :: a, 0 => by rw [List.take_zero, bothS_nil, bothS_end]; exact ⟨rfl, rfl⟩
  | x :: a, k + 1 => by
    obtain ⟨h1, h2⟩ := both_take a k
    rw [List.take_succ_cons, both_self, both_self, h1, h2]
    exact ⟨rfl, rfl⟩
theorem both_is {a b : List Ses} (ha : isS a = true) (hb : isS b = true) (hl : (bothS a b).length ≤ 64) : isS (bothS a b) = true :=
  (isS_iff _).2 ⟨hl, both_rise _ a b 0 (Nat.le_refl _) ((isS_iff a).1 ha).2 ((isS_iff b).1 hb).2⟩
theorem merge_find {a b : List Ses} (ha : isS a = true) (hb : isS b = true) (c : Int) : findS c (bothS a b) = latest (findS c a) (findS c b) :=
  both_find c _ a b 0 (Nat.le_refl _) ((isS_iff a).1 ha).2 ((isS_iff b).1 hb).2
theorem merge_take {a : List Ses} (h : isS a = true) (k : Nat) : mergeS a (a.take k) = (a, 0) ∧ mergeS (a.take k) a = (a, 0) := by
  have hl := ((isS_iff a).1 h).1
  obtain ⟨h1, h2⟩ := both_take a k
  unfold mergeS
  rw [h1, h2, if_pos hl]
  exact ⟨rfl, rfl⟩
theorem isS_take {a : List Ses} (h : isS a = true) (k : Nat) : isS (a.take k) = true := by
  obtain ⟨h1, h2⟩ := (isS_iff a).1 h
  refine (isS_iff _).2 ⟨by simp; omega, ?_⟩
  have : ∀ (a : List Ses) (k : Nat) (n : Int), riseB n a = true → riseB n (a.take k) = true := by
    intro a
    induction a with
    | nil => intro k n h; rw [List.take_nil]; exact h
    | cons x a ih =>
      intro k n h
      cases k with
      | zero => rfl
      | succ k =>
        rw [rise_cons] at h
        rw [List.take_succ_cons, rise_cons]
        exact ⟨h.1, h.2.1, ih k _ h.2.2⟩
  exact this a k 0 h2
theorem merge_swap_err (a b : List Ses) : (mergeS a b).2 = (mergeS b a).2 := by
  unfold mergeS
  rw [both_swap_length _ a b (Nat.le_refl _)]
  split <;> rfl
theorem merge_swap {a b : List Ses} (ht : ∀ x ∈ a, ∀ y ∈ b, x.client = y.client → x.seq ≠ y.seq) : mergeS a b = mergeS b a := by
  unfold mergeS
  rw [both_swap _ a b (Nat.le_refl _) ht]
theorem merge_cases (a b : List Ses) : ((bothS a b).length ≤ 64 ∧ mergeS a b = (bothS a b, 0)) ∨ mergeS a b = ([], 6) := by
  unfold mergeS
  by_cases h : (bothS a b).length ≤ 64
  · exact .inl ⟨h, if_pos h⟩
  · exact .inr (if_neg h)
/-- what is merged has each client of a, no lesser -/
theorem merge_has {a b : List Ses} (ha : isS a = true) (hb : isS b = true) {s : Ses} (hs : s ∈ a) : ∃ x, findS s.client (bothS a b) = some x ∧ s.seq ≤ x.seq := by
  rw [merge_find ha hb, findS_mem ((isS_iff a).1 ha).2 hs]
  cases findS s.client b with
  | none => exact ⟨s, rfl, by omega⟩
  | some y =>
    show ∃ x, some (if s.seq < y.seq then y else s) = some x ∧ _
    split
    · exact ⟨y, rfl, by omega⟩
    · exact ⟨s, rfl, by omega⟩

/-! ### noted -/
theorem one_is {s : Ses} : isS [s] = fitsB s := by
  unfold isS
  have e : riseB 0 [s] = fitsB s := by
    rw [Bool.eq_iff_iff, rise_cons]
    constructor
    · rintro ⟨_, h, _⟩; exact h
    · intro h; exact ⟨by have := fits_client h; omega, h, rfl⟩
  rw [e]
  rfl
theorem note_cases (l : List Ses) (s : Ses) : (fitsB s = true ∧ (bothS [s] l).length ≤ 64 ∧ noteS l s = (bothS [s] l, 0)) ∨ (fitsB s = true ∧ 64 ≤ l.length ∧ noteS l s = ([], 6)) ∨ (fitsB s = false ∧ noteS l s = ([], 80)) := by
  unfold noteS
  rw [one_is]
  cases h : fitsB s with
  | false => exact .inr (.inr ⟨rfl, if_neg (by simp)⟩)
  | true =>
    rw [if_pos rfl]
    rcases merge_cases [s] l with ⟨h1, h2⟩ | h2
    · exact .inl ⟨rfl, h1, h2⟩
    · refine .inr (.inl ⟨rfl, ?_, h2⟩)
      have := bothG_length (fun s => s) _ [s] l (Nat.le_refl _)
      unfold mergeS at h2
      by_cases hl : (bothS [s] l).length ≤ 64
      · rw [if_pos hl] at h2; have := (Prod.ext_iff.1 h2).2; simp at this
      · have h3 : (bothS [s] l).length ≤ [s].length + l.length := this
        simp at h3
        omega
theorem set_length (s : Ses) : ∀ (l : List Ses) (k : Int), riseB k l = true → (setS s true l).length = if (findS s.client l).isSome = true then l.length else l.length + 1
  | [], _, _ => rfl
  | x :: l, k, h => by
    rw [rise_cons] at h
    rw [setS, findS_cons]
    by_cases h1 : x.client < s.client
    · have e1 : ¬ x.client = s.client := by omega
      rw [if_pos h1, if_neg e1, List.length_cons, set_length s l _ h.2.2, List.length_cons]
      split <;> rfl
    · rw [if_neg h1]
      by_cases h2 : x.client = s.client
      · rw [if_pos h2, if_pos h2]
        have e : (some x).isSome = true := rfl
        rw [if_pos e]
        split <;> rfl
      · have e := findS_low h.2.2 (show s.client ≤ x.client by omega)
        rw [if_neg h2, if_neg h2, e]
        rfl
theorem both_one_length {s : Ses} {l : List Ses} (h : isS l = true) : (bothS [s] l).length = if (findS s.client l).isSome = true then l.length else l.length + 1 := by
  rw [← set_true]
  exact set_length s l 0 ((isS_iff l).1 h).2
theorem note_find {s : Ses} {l : List Ses} (hs : fitsB s = true) (h : isS l = true) (c : Int) : findS c (bothS [s] l) = latest (if s.client = c then some s else none) (findS c l) := by
  rw [merge_find (by rw [one_is]; exact hs) h]
  rfl
theorem note_is {s : Ses} {l : List Ses} (hs : fitsB s = true) (h : isS l = true) (hl : (bothS [s] l).length ≤ 64) : isS (bothS [s] l) = true :=
  both_is (by rw [one_is]; exact hs) h hl
/-- the client's own: the later one -/
theorem note_own {s : Ses} {l : List Ses} (hs : fitsB s = true) (h : isS l = true) : ∃ x, findS s.client (bothS [s] l) = some x ∧ x = (match findS s.client l with | some y => if s.seq < y.seq then y else s | none => s) := by
  rw [note_find hs h, if_pos rfl]
  cases findS s.client l with
  | none => exact ⟨s, rfl, rfl⟩
  | some y => exact ⟨_, rfl, rfl⟩
/-- every other one stays -/
theorem note_other {s : Ses} {l : List Ses} (hs : fitsB s = true) (h : isS l = true) {x : Ses} (hx : x ∈ l) : ∃ y, findS x.client (bothS [s] l) = some y ∧ x.seq ≤ y.seq ∧ (x.client ≠ s.client → y.seq = x.seq) := by
  have hm := findS_mem ((isS_iff l).1 h).2 hx
  rw [note_find hs h, hm]
  by_cases e : s.client = x.client
  · rw [if_pos e]
    show ∃ y, some (if s.seq < x.seq then x else s) = some y ∧ _
    split
    · exact ⟨x, rfl, by omega, fun _ => rfl⟩
    · exact ⟨s, rfl, by omega, fun h => absurd e.symm h⟩
  · rw [if_neg e]
    exact ⟨x, rfl, by omega, fun _ => rfl⟩
theorem ask_none {l : List Ses} {c q : Int} (h : findS c l = none) : askS l c q = (Od.Rep.zero, false) := by unfold askS; rw [h]
theorem ask_some {l : List Ses} {c q : Int} {s : Ses} (h : findS c l = some s) : askS l c q = if s.seq < q then (Od.Rep.zero, false) else if s.seq = q then (s.rep, true) else (⟨3, 0, false, Od.E0, []⟩, true) := by unfold askS; rw [h]
end Go.Proofs.YticikmkehobblaaDoor.Ss
