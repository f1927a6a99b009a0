/-
  THE PLAIN MATHEMATICS OF PACKAGE deed, of no program: plots, whether they may be, how they are cut and joined, what stands in them, their texts. No condition.
  Texts read back as plots, reckoned without a program: as the program reads them, and as the document does; both come to the plot whose text it is. Conditions: texts of at most 2^20 bytes.
  How a program holds a plot: slices of numbers, the plot's value, boxes that hold one. No condition.
  The library's Clone at pairs, sessions and numbers; appending a list of numbers. Condition: at most 1,000,000 of each.
-/
import Derived.Test.YthcmnkmfhgoddaaGreatDoorKSfA
import Derived.Test.YthcmnkmfhgoddaaGreatDoorKSsMRA
import Derived.Test.YthcmnkmfhgoddaaGreatDoorKDsPNA
import Derived.Test.YthcmnkmfhgoddaaGreatDoorKDsSMA
import Derived.Lib.SliceRun
namespace Go.Proofs.YthcmnkmfhgoddaaGreatDoor.Dp
open Go.Proofs.YthcmnkmfhgoddaaGreatDoor.O (Bd isB keyB hasB nextB lt lt_irrefl lt_trans lt_tri lt_asymm)
open Go.Proofs.YthcmnkmfhgoddaaGreatDoor.M (tieT untieT untie_some untie_spec numT intT inR tieT_inj numT_inj)
open Go.Proofs.YthcmnkmfhgoddaaGreatDoor.Ds (De isD putT parseD splitD mergeD okD)
open Go.Proofs.YthcmnkmfhgoddaaGreatDoor.Ss (Ses isS putS parseS mergeS)
open Go.Proofs.YthcmnkmfhgoddaaGreatDoor.Od (Pr pairsT truthT amongB E0)
open Go.Proofs.YthcmnkmfhgoddaaGreatDoor.Sf (kl Up getP doP scanP put between)
abbrev Text := List UInt8
structure Pl where
 d : De
 ps : List Pr
 ss : List Ses
 fr : Bool
 ea : List Int
 al : Int
def Pl.zero : Pl := ⟨De.zero, [], [], false, [], 0⟩
def goP (b : Bd) : Text -> List Pr -> Bool
 | _, [] => true
 | last, p :: l => if lt last p.1.toList = true /\ p.2.size <= 512 /\ keyB p.1.toList = true /\ hasB b p.1.toList = true then goP b p.1.toList l else false
def goE : Int -> List Int -> Bool
 | _, [] => true
 | last, n :: l => if last < n /\ n <= 1099511627776 then goE n l else false
def eatB (l : List Int) : Bool := decide (l.length <= 200) && goE 0 l
def isP (p : Pl) : Bool := isD p.d && isS p.ss && goP p.d.b [] p.ps && eatB p.ea && amongB p.al 0 1099511627776
def chkP (p : Pl) : Int := if isP p = true then 0 else 90
theorem goP_iff (b : Bd) : ∀ (l : List Pr) (last : Text), goP b last l = true ↔ (∀ p ∈ l, lt last p.1.toList = true /\ p.2.size <= 512 /\ keyB p.1.toList = true /\ hasB b p.1.toList = true) /\ Up l
 | [], last => by simp [goP, Up]
 | p :: l, last => by
  rw [goP]
  by_cases h : lt last p.1.toList = true /\ p.2.size <= 512 /\ keyB p.1.toList = true /\ hasB b p.1.toList = true
  ·rw [if_pos h, goP_iff b l p.1.toList]
   unfold Up
   rw [List.pairwise_cons]
   constructor
   ·rintro ⟨h1, h2⟩
    refine ⟨fun x hx => ?_, fun x hx => (h1 x hx).1, h2⟩
    rcases List.mem_cons.1 hx with rfl | hx
    ·exact h
    ·exact ⟨lt_trans h.1 (h1 x hx).1, (h1 x hx).2⟩
   ·rintro ⟨h1, h2, h3⟩
    exact ⟨fun x hx => ⟨h2 x hx, (h1 x (by simp [hx])).2⟩, h3⟩
  ·rw [if_neg h]
   constructor
   ·intro e; cases e
   ·rintro ⟨h1, _⟩
    exact absurd (h1 p (by simp)) h
theorem goE_iff : ∀ (l : List Int) (last : Int), goE last l = true ↔ (∀ n ∈ l, last < n /\ n <= 1099511627776) /\ l.Pairwise (· < ·)
 | [], last => by simp [goE]
 | n :: l, last => by
  rw [goE]
  by_cases h : last < n /\ n <= 1099511627776
  ·rw [if_pos h, goE_iff l n, List.pairwise_cons]
   constructor
   ·rintro ⟨h1, h2⟩
    refine ⟨fun x hx => ?_, fun x hx => (h1 x hx).1, h2⟩
    rcases List.mem_cons.1 hx with rfl | hx
    ·exact h
    ·have := h1 x hx; omega
   ·rintro ⟨h1, h2, h3⟩
    exact ⟨fun x hx => ⟨h2 x hx, (h1 x (by simp [hx])).2⟩, h3⟩
  ·rw [if_neg h]
   constructor
   ·intro e; cases e
   ·rintro ⟨h1, _⟩
    exact absurd (h1 n (by simp)) h
theorem isP_iff (p : Pl) : isP p = true ↔ isD p.d = true /\ isS p.ss = true /\ goP p.d.b [] p.ps = true /\ (p.ea.length <= 200 /\ goE 0 p.ea = true) /\ 0 <= p.al /\ p.al <= 1099511627776 := by
 unfold isP eatB amongB
 simp [and_assoc]
theorem isP_up {p : Pl} (h : isP p = true) : Up p.ps := ((goP_iff _ _ _).1 ((isP_iff p).1 h).2.2.1).2
def placeP (P : List Pr) (k : ByteArray) : Nat := P.countP fun p => kl p.1 k
theorem place_le (P : List Pr) (k : ByteArray) : placeP P k <= P.length := List.countP_le_length
theorem place_cons (p : Pr) (P : List Pr) (k : ByteArray) : placeP (p :: P) k = placeP P k + if kl p.1 k = true then 1 else 0 := by
 unfold placeP
 rw [List.countP_cons]
theorem place_zero {P : List Pr} {k : ByteArray} (h : ∀ p ∈ P, kl p.1 k = false) : placeP P k = 0 := by
 unfold placeP
 rw [List.countP_eq_zero]
 intro p hp
 rw [h p hp]; decide
theorem up_above {p : Pr} {P : List Pr} (h : Up (p :: P)) {k : ByteArray} (hk : kl p.1 k = false) : ∀ q ∈ p :: P, kl q.1 k = false := by
 have h' := List.pairwise_cons.1 h
 intro q hq
 rcases List.mem_cons.1 hq with rfl | hq
 ·exact hk
 ·cases hc : kl q.1 k with
  | false => rfl
  | true => rw [Sf.kl_trans (h'.1 q hq) hc] at hk; cases hk
theorem place_low : ∀ {P : List Pr} (_ : Up P) (k : ByteArray) (i : Nat) (h : i < P.length), i < placeP P k -> kl P[i].1 k = true
 | p :: P, hu, k, i, h, hi => by
  have h' := List.pairwise_cons.1 hu
  cases hk : kl p.1 k with
  | false => rw [place_zero (up_above hu hk)] at hi; omega
  | true =>
   rw [place_cons, hk, if_pos rfl] at hi
   cases i with
   | zero => exact hk
   | succ i => exact place_low h'.2 k i (by simpa using h) (by omega)
theorem place_high : ∀ {P : List Pr} (_ : Up P) (k : ByteArray) (i : Nat) (h : i < P.length), placeP P k <= i -> kl P[i].1 k = false
 | p :: P, hu, k, i, h, hi => by
  have h' := List.pairwise_cons.1 hu
  cases hk : kl p.1 k with
  | false => exact up_above hu hk _ (List.getElem_mem h)
  | true =>
   rw [place_cons, hk, if_pos rfl] at hi
   cases i with
   | zero => omega
   | succ i => exact place_high h'.2 k i (by simpa using h) (by omega)
theorem place_of {P : List Pr} (hu : Up P) {k : ByteArray} {n : Nat} (hn : n <= P.length) (h1 : ∀ i (h : i < P.length), i < n -> kl P[i].1 k = true) (h2 : ∀ i (h : i < P.length), n <= i -> kl P[i].1 k = false) : placeP P k = n := by
 have hp := place_le P k
 rcases Nat.lt_trichotomy (placeP P k) n with h | h | h
 ·have a := h1 (placeP P k) (by omega) h
  rw [place_high hu k (placeP P k) (by omega) (Nat.le_refl _)] at a; cases a
 ·exact h
 ·have a := h2 n (by omega) (Nat.le_refl _)
  rw [place_low hu k n (by omega) h] at a; cases a
theorem toList_E0 : (E0 : ByteArray).toList = [] := by rw [ByteArray.toList_eq]
theorem kl_E0 (a : ByteArray) : kl a E0 = false := by
 show lt a.toList E0.toList = false
 rw [toList_E0]
 exact O.lt_nil _
theorem scan_left : ∀ {P : List Pr} (_ : Up P) {k : ByteArray} (_ : k.toList ≠ []), scanP P E0 k = P.take (placeP P k)
 | [], _, k, _ => by simp [scanP]
 | p :: P, hu, k, hk => by
  have h' := List.pairwise_cons.1 hu
  have hb : between E0 k p = kl p.1 k := by unfold between; rw [kl_E0]; simp [hk]
  cases hc : kl p.1 k with
  | false =>
   rw [place_zero (up_above hu hc), List.take_zero]
   unfold scanP
   rw [List.filter_eq_nil_iff]
   intro q hq
   have : between E0 k q = kl q.1 k := by unfold between; rw [kl_E0]; simp [hk]
   rw [this, up_above hu hc q hq]; decide
  | true =>
   rw [place_cons, hc, if_pos rfl, List.take_succ_cons, <- scan_left h'.2 hk]
   unfold scanP
   rw [List.filter_cons_of_pos (by rw [hb, hc])]
theorem scan_right : ∀ {P : List Pr} (_ : Up P) (k : ByteArray), scanP P k E0 = P.drop (placeP P k)
 | [], _, k => by simp [scanP]
 | p :: P, hu, k => by
  have h' := List.pairwise_cons.1 hu
  have hb : ∀ q : Pr, between k E0 q = !kl q.1 k := by intro q; unfold between; simp
  cases hc : kl p.1 k with
  | false =>
   rw [place_zero (up_above hu hc), List.drop_zero]
   unfold scanP
   rw [List.filter_eq_self]
   intro q hq
   rw [hb, up_above hu hc q hq]; rfl
  | true =>
   rw [place_cons, hc, if_pos rfl, List.drop_succ_cons, <- scan_right h'.2 k]
   unfold scanP
   rw [List.filter_cons_of_neg (by rw [hb, hc]; decide)]
theorem get_place : ∀ {P : List Pr} (_ : Up P) (k : ByteArray), getP P k = match P[placeP P k]? with | some p => if p.1 = k then some p.2 else none | none => none
 | [], _, k => rfl
 | p :: P, hu, k => by
  have h' := List.pairwise_cons.1 hu
  unfold getP
  cases hc : kl p.1 k with
  | false =>
   rw [place_zero (up_above hu hc), List.getElem?_cons_zero]
   simp only
   by_cases he : p.1 = k
   ·rw [if_pos he, if_pos he]
   ·rw [if_neg he, if_neg he]
    refine Sf.get_none fun x hx e => ?_
    have h1 := h'.1 x hx
    rw [e, hc] at h1; cases h1
  | true =>
   rw [place_cons, hc, if_pos rfl, List.getElem?_cons_succ, if_neg (Sf.kl_ne hc)]
   exact get_place h'.2 k
def limP (P : List Pr) (f t : ByteArray) (n : Int) : List Pr × ByteArray :=
 match (scanP P f t)[(max n 0).toNat]? with
 | none => (scanP P f t, E0)
 | some p => ((scanP P f t).take (max n 0).toNat, p.1)
def eatE (n : Int) : List Int -> List Int
 | [] => [n]
 | x :: l => if x < n then x :: eatE n l else if x = n then x :: l else n :: x :: l
def eatsE (l m : List Int) : List Int := m.foldl (fun a n => eatE n a) l
theorem mem_eat {n x : Int} : ∀ {l : List Int}, x ∈ eatE n l ↔ x = n \/ x ∈ l
 | [] => by simp [eatE]
 | y :: l => by
  rw [eatE]
  split
  ·rw [List.mem_cons, mem_eat (l := l), List.mem_cons]
   constructor
   ·rintro (h | h | h) <;> simp [h]
   ·rintro (h | h | h) <;> simp [h]
  ·split
   ·rename_i h; subst h; simp
   ·simp
theorem up_eat {n : Int} : ∀ {l : List Int}, l.Pairwise (· < ·) -> (eatE n l).Pairwise (· < ·)
 | [], _ => by simp [eatE]
 | y :: l, h => by
  have h' := List.pairwise_cons.1 h
  rw [eatE]
  split
  ·refine List.pairwise_cons.2 ⟨fun x hx => ?_, up_eat h'.2⟩
   rcases mem_eat.1 hx with rfl | hx
   ·assumption
   ·exact h'.1 x hx
  ·split
   ·exact h
   ·refine List.pairwise_cons.2 ⟨fun x hx => ?_, h⟩
    rcases List.mem_cons.1 hx with rfl | hx
    ·omega
    ·have := h'.1 x hx; omega
theorem mem_eats {x : Int} : ∀ {m l : List Int}, x ∈ eatsE l m ↔ x ∈ l \/ x ∈ m
 | [], l => by simp [eatsE]
 | n :: m, l => by
  show x ∈ eatsE (eatE n l) m ↔ _
  rw [mem_eats (m := m), mem_eat, List.mem_cons]
  constructor
  ·rintro ((h | h) | h) <;> simp [h]
  ·rintro (h | h | h) <;> simp [h]
theorem up_eats : ∀ {m l : List Int}, l.Pairwise (· < ·) -> (eatsE l m).Pairwise (· < ·)
 | [], _, h => h
 | _ :: m, _, h => up_eats (m := m) (up_eat h)
theorem rise_ext : ∀ {a b : List Int}, a.Pairwise (· < ·) -> b.Pairwise (· < ·) -> (∀ x, x ∈ a ↔ x ∈ b) -> a = b
 | [], [], _, _, _ => rfl
 | [], y :: b, _, _, h => by have := (h y).2 (by simp); simp at this
 | x :: a, [], _, _, h => by have := (h x).1 (by simp); simp at this
 | x :: a, y :: b, ha, hb, h => by
  have ha' := List.pairwise_cons.1 ha
  have hb' := List.pairwise_cons.1 hb
  have e : x = y := by
   have h1 := (h x).1 (by simp)
   have h2 := (h y).2 (by simp)
   rcases List.mem_cons.1 h1 with e | h1
   ·exact e
   ·rcases List.mem_cons.1 h2 with e | h2
    ·exact e.symm
    ·have := ha'.1 y h2; have := hb'.1 x h1; omega
  subst e
  congr 1
  refine rise_ext ha'.2 hb'.2 fun z => ?_
  have hz := h z
  rw [List.mem_cons, List.mem_cons] at hz
  constructor
  ·intro hm
   rcases hz.1 (.inr hm) with e | h'
   ·have := ha'.1 z hm; omega
   ·exact h'
  ·intro hm
   rcases hz.2 (.inr hm) with e | h'
   ·have := hb'.1 z hm; omega
   ·exact h'
def onceE : List Int -> List Int
 | [] => []
 | [x] => [x]
 | x :: y :: l => if x = y then onceE (y :: l) else x :: onceE (y :: l)
theorem mem_once {x : Int} : ∀ {l : List Int}, x ∈ onceE l ↔ x ∈ l
 | [] => by simp [onceE]
 | [y] => by simp [onceE]
 | y :: z :: l => by
  rw [onceE]
  split
  ·rename_i h; subst h
   rw [mem_once (l := y :: l)]; simp
  ·rw [List.mem_cons, mem_once (l := z :: l), List.mem_cons (a := x) (b := y)]
theorem up_once : ∀ {l : List Int}, l.Pairwise (· <= ·) -> (onceE l).Pairwise (· < ·)
 | [], _ => by simp [onceE]
 | [y], _ => by simp [onceE]
 | y :: z :: l, h => by
  have h' := List.pairwise_cons.1 h
  rw [onceE]
  split
  ·exact up_once h'.2
  ·rename_i hne
   refine List.pairwise_cons.2 ⟨fun x hx => ?_, up_once h'.2⟩
   rw [mem_once] at hx
   have h1 := h'.1 z (by simp)
   have h2 := (List.pairwise_cons.1 h'.2).1
   rcases List.mem_cons.1 hx with rfl | hx
   ·omega
   ·have := h2 x hx; omega
theorem once_eats {l m s : List Int} {n : Int} (hl : l.Pairwise (· < ·)) (hs : s.Pairwise (· <= ·)) (hp : ∀ x, x ∈ s ↔ x ∈ l ++ m ++ [n]) : onceE s = eatsE (eatE n l) m := by
 refine rise_ext (up_once hs) (up_eats (up_eat hl)) fun x => ?_
 rw [mem_once, mem_eats, mem_eat, hp]
 simp only [List.mem_append, List.mem_singleton]
 constructor
 ·rintro ((h | h) | h) <;> simp [h]
 ·rintro ((h | h) | h) <;> simp [h]
def cutP (p : Pl) (k : ByteArray) (n : Int) : Pl × Pl × Int :=
 if p.fr = true then (Pl.zero, Pl.zero, 90)
 else if (splitD p.d k n).2.2 = 0 then ({ p with d := (splitD p.d k n).1, ps := scanP p.ps E0 k }, { p with d := (splitD p.d k n).2.1, ps := scanP p.ps k E0, al := 0 }, 0)
 else (Pl.zero, Pl.zero, (splitD p.d k n).2.2)
def joinP (l r : Pl) : Pl × Int :=
 if l.fr = true \/ r.fr = false then (Pl.zero, 90)
 else if r.d.id ∈ l.ea then (Pl.zero, 8)
 else if (mergeD l.d r.d).2 = 0 then
  if (mergeS l.ss r.ss).2 = 0 then
   if (eatsE (eatE r.d.id l.ea) r.ea).length <= 200 then (⟨(mergeD l.d r.d).1, l.ps ++ r.ps, (mergeS l.ss r.ss).1, false, eatsE (eatE r.d.id l.ea) r.ea, l.al⟩, 0)
   else (Pl.zero, 6)
  else (Pl.zero, (mergeS l.ss r.ss).2)
 else (Pl.zero, (mergeD l.d r.d).2)
def setP (p : Pl) (c : Sf.Ch) : Pl := { p with ps := doP p.ps c }
def eatT (l : List Int) : Text := tieT (l.map numT)
def strandsP (p : Pl) : List Text := [putT p.d, tieT (pairsT p.ps), putS p.ss, truthT p.fr, eatT p.ea, numT p.al]
def putP (p : Pl) : Text := tieT (strandsP p)
theorem strandsS_inj {a b : List Ses} (h : Ss.strandsS a = Ss.strandsS b) : a = b := by
 induction a generalizing b with
 | nil => cases b with
  | nil => rfl
  | cons t b => rw [Ss.strandsS_cons] at h; cases h
 | cons s a ih => cases b with
  | nil => rw [Ss.strandsS_cons] at h; cases h
  | cons t b =>
   rw [Ss.strandsS_cons, Ss.strandsS_cons] at h
   injection h with h1 h
   injection h with h2 h
   injection h with h3 h
   rw [ih h]
   congr 1
   obtain ⟨s1, s2, s3⟩ := s
   obtain ⟨t1, t2, t3⟩ := t
   have e1 : s1 = t1 := numT_inj h1
   have e2 : s2 = t2 := numT_inj h2
   have e3 : s3 = t3 := Od.putR_inj h3
   rw [e1, e2, e3]
theorem putS_inj {a b : List Ses} (h : putS a = putS b) : a = b := strandsS_inj (tieT_inj h)
theorem eatT_inj {a b : List Int} (h : eatT a = eatT b) : a = b := by
 have h := tieT_inj h
 exact (List.map_inj_right (fun x y e => numT_inj e)).1 h
theorem putP_inj {a b : Pl} (h : putP a = putP b) : a = b := by
 have h := tieT_inj h
 obtain ⟨a1, a2, a3, a4, a5, a6⟩ := a
 obtain ⟨b1, b2, b3, b4, b5, b6⟩ := b
 unfold strandsP at h
 simp only [List.cons.injEq, and_true] at h
 obtain ⟨h1, h2, h3, h4, h5, h6⟩ := h
 have e1 := Ds.putT_inj h1
 have e2 := Od.pairsT_inj (tieT_inj h2)
 have e3 := putS_inj h3
 have e4 := Od.truthT_inj h4
 have e5 := eatT_inj h5
 have e6 := numT_inj h6
 rw [e1, e2, e3, e4, e5, e6]
noncomputable def parseP (s : Text) : Pl × Int := open Classical in if h : ∃ p, isP p = true /\ putP p = s then (h.choose, 0) else (Pl.zero, 90)
theorem parseP_yes {p : Pl} {s : Text} (h : isP p = true) (e : putP p = s) : parseP s = (p, 0) := by
 unfold parseP
 have hx : ∃ p, isP p = true /\ putP p = s := ⟨p, h, e⟩
 rw [dif_pos hx]
 have h2 := hx.choose_spec
 have e2 : hx.choose = p := putP_inj (h2.2.trans e.symm)
 rw [e2]
theorem parseP_no {s : Text} (h : ∀ p, isP p = true -> putP p ≠ s) : parseP s = (Pl.zero, 90) := by
 unfold parseP
 rw [dif_neg]
 rintro ⟨p, h1, h2⟩
 exact h p h1 h2
theorem parseP_cases (s : Text) : (∃ p, isP p = true /\ putP p = s /\ parseP s = (p, 0)) \/ parseP s = (Pl.zero, 90) := by
 by_cases h : ∃ p, isP p = true /\ putP p = s
 ·obtain ⟨p, h1, h2⟩ := h
  exact .inl ⟨p, h1, h2, parseP_yes h1 h2⟩
 ·exact .inr (parseP_no fun p h1 h2 => h ⟨p, h1, h2⟩)
end Go.Proofs.YthcmnkmfhgoddaaGreatDoor.Dp

namespace Go.Proofs.YthcmnkmfhgoddaaGreatDoor.Dp
open Go.Proofs.YthcmnkmfhgoddaaGreatDoor.M (tieT tieT_cons tieT_nil strand untieT untie_some untie_spec numT intT inR tieT_inj numT_inj)
open Go.Proofs.YthcmnkmfhgoddaaGreatDoor.Ds (De isD putT parseD okD)
open Go.Proofs.YthcmnkmfhgoddaaGreatDoor.Ss (Ses isS putS parseS)
open Go.Proofs.YthcmnkmfhgoddaaGreatDoor.Od (Pr pairsT truthT amongB E0 num0 twosT)
def cut58 : Text -> Text × Text
 | [] => ([], [])
 | c :: s => if c = 58 then ([], s) else (c :: (cut58 s).1, (cut58 s).2)
theorem cut58_app : ∀ (d b : Text), (58 : UInt8) ∉ d -> cut58 (d ++ 58 :: b) = (d, b)
 | [], b, _ => by simp [cut58]
 | c :: d, b, h => by
  rw [List.mem_cons, not_or] at h
  rw [List.cons_append, cut58, if_neg (fun e => h.1 e.symm), cut58_app d b h.2]
theorem cut58_none : ∀ (s : Text), (58 : UInt8) ∉ s -> cut58 s = (s, [])
 | [], _ => rfl
 | c :: s, h => by
  rw [List.mem_cons, not_or] at h
  rw [cut58, if_neg (fun e => h.1 e.symm), cut58_none s h.2]
theorem cut58_len : ∀ (s : Text), (cut58 s).2 = [] \/ (cut58 s).2.length < s.length
 | [] => .inl rfl
 | c :: s => by
  rw [cut58]
  split
  ·right; simp
  ·rcases cut58_len s with h | h
   ·exact .inl h
   ·right; simp only [List.length_cons]; omega
noncomputable def strandsG (s : Text) : List Text := match intT (cut58 s).1 with
 | some n => if h : 0 <= n /\ n < ((cut58 s).2.length : Int) then (cut58 s).2.take n.toNat :: strandsG ((cut58 s).2.drop (n.toNat + 1)) else []
 | none => []
termination_by s.length
decreasing_by
 rcases cut58_len s with e | e
 ·rw [e] at h; simp at h; omega
 ·simp only [List.length_drop]; omega
theorem strandsG_tie : ∀ (l : List Text), (tieT l).length <= 9223372036854775807 -> strandsG (tieT l) = l
 | [], _ => by
  rw [tieT_nil, strandsG]
  have : intT (cut58 []).1 = none := M.intT_none fun n _ e => by
   have := congrArg List.length e
   unfold numT at this
   split at this
   ·simp [cut58] at this
   ·have h2 := M.dig_pos n.natAbs
    simp [cut58] at this
    rw [this] at h2; simp at h2
  rw [this]
 | x :: l, h => by
  rw [tieT_cons] at h ⊢
  have e := M.strand_app x (tieT l)
  have hl : x.length + (tieT l).length <= 9223372036854775806 := by
   rw [List.length_append, M.strand_length] at h; omega
  rw [e, strandsG, cut58_app _ _ (M.no58 _)]
  simp only
  rw [M.intT_some (n := (x.length : Int)) (by unfold inR; omega) rfl]
  simp only
  rw [dif_pos ⟨by omega, by simp; omega⟩]
  have e2 : ((x.length : Int)).toNat = x.length := by omega
  rw [e2, List.take_left' rfl]
  have e3 : (x ++ 44 :: tieT l).drop (x.length + 1) = tieT l := by
   rw [List.drop_append]
   simp
  rw [e3, strandsG_tie l (by omega)]
theorem strandsG_mem : ∀ (n : Nat) (s : Text), s.length <= n -> ∀ x ∈ strandsG s, x.length <= s.length
 | n, s, hn, x, hx => by
  rw [strandsG] at hx
  split at hx
  ·split at hx
   ·rename_i m _ h
    rcases cut58_len s with e | e
    ·rw [e] at h; simp at h; omega
    ·rcases List.mem_cons.1 hx with rfl | hx
     ·simp only [List.length_take]; omega
     ·have hd : ((cut58 s).2.drop (m.toNat + 1)).length < s.length := by simp only [List.length_drop]; omega
      cases n with
      | zero => omega
      | succ n =>
       have := strandsG_mem n _ (by omega) x hx
       omega
   ·cases hx
  ·cases hx
theorem strandsG_len : ∀ (n : Nat) (s : Text), s.length <= n -> (strandsG s).length <= s.length
 | n, s, hn => by
  rw [strandsG]
  split
  ·split
   ·rename_i m _ h
    rcases cut58_len s with e | e
    ·rw [e] at h; simp at h; omega
    ·have hd : ((cut58 s).2.drop (m.toNat + 1)).length < s.length := by simp only [List.length_drop]; omega
     cases n with
     | zero => omega
     | succ n =>
      have := strandsG_len n ((cut58 s).2.drop (m.toNat + 1)) (by omega)
      simp only [List.length_cons]; omega
   ·simp
  ·simp
theorem tie_part {x : Text} : ∀ {l : List Text}, x ∈ l -> x.length + 3 <= (tieT l).length
 | y :: l, h => by
  rw [tieT_cons, List.length_append, M.strand_length]
  have hp : 1 <= (numT (y.length : Int)).length := by rw [M.numT_nat]; exact M.dig_pos _
  rcases List.mem_cons.1 h with rfl | h
  ·omega
  ·have := tie_part h; omega
theorem isD_in {d : De} (h : isD d = true) : Ds.InR d := by
 obtain ⟨h1, h2, h3, h4, h5, h6⟩ := (Ds.isD_iff d).1 h
 rw [Ds.idB_iff] at h1 h2 h3
 refine ⟨by unfold inR; omega, by unfold inR; omega, by unfold inR; omega, fun m hm => ?_⟩
 obtain ⟨g1, _, g3, g4⟩ := ((Ds.mayGo_iff _ _ _ _).1 h6).1 m hm
 rw [Ds.nodeB_iff] at g1
 exact ⟨by unfold inR; omega, by unfold inR; omega⟩
theorem isR_in {r : Od.Rep} (h : Od.isR r = true) : inR r.code /\ inR r.err := by
 unfold Od.isR Od.tellsB Od.amongB at h
 simp only [Bool.and_eq_true, decide_eq_true_eq] at h
 obtain ⟨⟨⟨h1, h2⟩, _⟩, _⟩ := h
 refine ⟨by unfold inR; omega, ?_⟩
 split at h2
 ·simp only [decide_eq_true_eq] at h2; unfold inR; omega
 ·simp only [decide_eq_true_eq] at h2; rw [h2]; decide
theorem fits_isR {s : Ses} (h : Ss.fitsB s = true) : Od.isR s.rep = true := by
 unfold Ss.fitsB Ss.keptB at h
 simp only [Bool.and_eq_true] at h
 exact h.2.1.1
theorem isS_in {l : List Ses} (h : isS l = true) : Ss.InS l := by
 have h2 := ((Ss.isS_iff l).1 h).2
 refine ⟨fun s hs => ?_, fun s hs => ?_⟩
 ·have hf := (Ss.rise_mem h2 s hs).2
  have h3 := Ss.fits_client hf
  have h4 := Ss.fits_seq hf
  exact ⟨by unfold inR; omega, by unfold inR; omega⟩
 ·exact isR_in (fits_isR (Ss.rise_mem h2 s hs).2)
theorem parse_back_d {d : De} (h : isD d = true) (hs : (putT d).length <= 1048576) : parseD (putT d) = (d, 0) := by
 have hl := ((Ds.isD_iff d).1 h).2.2.2.2.1
 rw [Ds.parse_put (isD_in h) (by omega) hs, Ds.okD_is h]
theorem putR_part {l : List Ses} {s : Ses} (h : s ∈ l) : (Od.putR s.rep).length + 3 <= (putS l).length := by
 refine tie_part (l := Ss.strandsS l) ?_
 unfold Ss.strandsS
 rw [List.mem_flatten]
 exact ⟨Ss.sesT s, List.mem_map.2 ⟨s, h, rfl⟩, by simp [Ss.sesT]⟩
theorem parse_back_s {l : List Ses} (h : isS l = true) (hs : (putS l).length <= 1048576) : parseS (putS l) = (l, 0) :=
 Ss.parse_putS h (isS_in h) (fun s hm => by have := putR_part hm; omega) hs
theorem parts_short {p : Pl} {s : Text} (e : putP p = s) : ∀ x ∈ strandsP p, x.length + 3 <= s.length := fun x hx => by
 rw [<- e]; exact tie_part hx
theorem eat_nums : ∀ {l : List Int}, (∀ n ∈ l, inR n) -> (l.map numT).map num0 = l
 | [], _ => rfl
 | n :: l, h => by
  rw [List.map_cons, List.map_cons, Od.num0_numT (h n (by simp)), eat_nums fun x hx => h x (by simp [hx])]
theorem isP_eat {p : Pl} (h : isP p = true) : ∀ n ∈ p.ea, inR n := fun n hn => by
 have := ((goE_iff _ _).1 ((isP_iff p).1 h).2.2.2.1.2).1 n hn
 unfold inR; omega
theorem isP_al {p : Pl} (h : isP p = true) : inR p.al := by
 have := ((isP_iff p).1 h).2.2.2.2
 unfold inR; omega
noncomputable def readPl : List Text -> Option Pl
 | [a, b, c, m, e, n] => if (parseD a).2 = 0 then if (parseS c).2 = 0 then some ⟨(parseD a).1, twosT (strandsG b), (parseS c).1, decide (m = [49]), (strandsG e).map num0, num0 n⟩ else none else none
 | _ => none
noncomputable def readsP (s : Text) : Pl × Int := match readPl (strandsG s) with
 | some p => open Classical in if isP p = true /\ putP p = s then (p, 0) else (Pl.zero, 90)
 | none => (Pl.zero, 90)
theorem readPl_put {p : Pl} (h : isP p = true) (hs : (putP p).length <= 1048576) : readPl (strandsP p) = some p := by
 obtain ⟨h1, h2, h3, h4, h5⟩ := (isP_iff p).1 h
 have hx := parts_short (p := p) rfl
 have x1 := hx (putT p.d) (by simp [strandsP])
 have x2 := hx (tieT (pairsT p.ps)) (by simp [strandsP])
 have x3 := hx (putS p.ss) (by simp [strandsP])
 have x5 := hx (eatT p.ea) (by simp [strandsP])
 have x6 : strandsG (eatT p.ea) = p.ea.map numT := strandsG_tie _ (by unfold eatT at x5; omega)
 unfold strandsP readPl
 simp only
 rw [parse_back_d h1 (by omega), parse_back_s h2 (by omega), if_pos rfl, if_pos rfl, strandsG_tie _ (by omega), Od.twosT_pairs, Od.truthT_is, x6, eat_nums (isP_eat h), Od.num0_numT (isP_al h)]
theorem reads_parse {s : Text} (hs : s.length <= 1048576) : readsP s = parseP s := by
 unfold readsP
 rcases parseP_cases s with ⟨p, h1, h2, h3⟩ | h3
 ·rw [h3, <- h2]
  unfold putP
  rw [strandsG_tie _ (by rw [show tieT (strandsP p) = putP p from rfl, h2]; omega), readPl_put h1 (by rw [h2]; exact hs)]
  exact if_pos ⟨h1, rfl⟩
 ·rw [h3]
  split
  ·rename_i p _
   rw [if_neg]
   rintro ⟨h1, h2⟩
   rw [parseP_yes h1 h2] at h3
   have := (Prod.ext_iff.1 h3).2
   simp at this
  ·rfl
end Go.Proofs.YthcmnkmfhgoddaaGreatDoor.Dp

namespace Go.Proofs.YthcmnkmfhgoddaaGreatDoor.Dp
open Go.RowKit
open Go.Proofs.YthcmnkmfhgoddaaGreatDoor.Ds (De SM OwnI)
open Go.Proofs.YthcmnkmfhgoddaaGreatDoor.Ss (Ses Zs ses SZ PZ NoP)
open Go.Proofs.YthcmnkmfhgoddaaGreatDoor.Od (Pr SP)
def SI (w : World) (N : Nat) (v : Value) (ns : List Int) : Prop :=
 ∃ (A : Option Addr) (c : Nat), v = .slice A ns.length c /\ (0 < ns.length -> ∃ b o : Nat, A = some ⟨b, o, none⟩ /\ b < N /\ ∀ i (h : i < ns.length), w.cell? ⟨b, o + i, none⟩ = some (.int .i64 ns[i]))
theorem SI.nil (w : World) (N : Nat) : SI w N (.slice none 0 0) [] := ⟨none, 0, rfl, fun h => absurd h (by simp)⟩
theorem SI.keep {w w' : World} {N : Nat} {v : Value} {ns : List Int} (h : SI w N v ns) (hk : ∀ p : Addr, p.block < N -> w'.cell? p = w.cell? p) : SI w' N v ns := by
 obtain ⟨A, c, hv, h⟩ := h
 refine ⟨A, c, hv, fun h0 => ?_⟩
 obtain ⟨b, o, e, hb, hc⟩ := h h0
 exact ⟨b, o, e, hb, fun i hi => by rw [hk ⟨b, o + i, none⟩ hb]; exact hc i hi⟩
theorem SI.below {w w' : World} {N : Nat} {v : Value} {ns : List Int} (h : SI w N v ns) (hb : Below N w w') : SI w' N v ns := h.keep fun _ hp => hb.cell hp
theorem SI.more {w : World} {N N' : Nat} {v : Value} {ns : List Int} (h : SI w N v ns) (hB : N <= N') : SI w N' v ns := by
 obtain ⟨A, c, hv, h⟩ := h
 refine ⟨A, c, hv, fun h0 => ?_⟩
 obtain ⟨b, o, e, hb, hc⟩ := h h0
 exact ⟨b, o, e, by omega, hc⟩
theorem SI.at_ {w : World} {N k : Nat} {A : Option Addr} {n c : Nat} {ns : List Int} (h : SI w N (.slice A n c) ns) (hk : k < ns.length) :
  ∃ b o : Nat, A = some ⟨b, o, none⟩ /\ b < N /\ w.cell? ⟨b, o + k, none⟩ = some (.int .i64 ns[k]) := by
 obtain ⟨A', c', hv, h⟩ := h
 injection hv with h1 h2 h3
 subst h1
 obtain ⟨b, o, e, hb, hc⟩ := h (by omega)
 exact ⟨b, o, e, hb, hc k hk⟩
theorem SI.form {w : World} {N : Nat} {v : Value} {ns : List Int} (h : SI w N v ns) : ∃ A c, v = .slice A ns.length c := by
 obtain ⟨A, c, hv, _⟩ := h; exact ⟨A, c, hv⟩
theorem SI.of_own {w : World} {base : Nat} {v : Value} {ns : List Int} (h : OwnI w base v ns) : SI w w.heap.size v ns := by
 rcases h.2 with ⟨e, h0⟩ | ⟨g, cap, cur, e, hbg, hgb, _⟩
 ·exact ⟨none, 0, by rw [e, h0], fun h' => by omega⟩
 ·refine ⟨_, cap, e, fun _ => ⟨g, 0, rfl, (Array.getElem?_eq_some_iff.1 hgb).1, fun i hi => ?_⟩⟩
  have := h.cells (g := g) (by rw [e]; rfl) i _ (by rw [List.getElem?_map, List.getElem?_eq_getElem hi]; rfl)
  rw [Addr.add_lit] at this
  exact this
structure Ph where
 d : De
 sm : Value
 ps : List Pr
 sp : Value
 zs : List Zs
 sz : Value
 fr : Bool
 ea : List Int
 se : Value
 al : Int
def Ph.pl (h : Ph) : Pl := ⟨h.d, h.ps, ses h.zs, h.fr, h.ea, h.al⟩
abbrev qv (o : Ph) : Value := .agg #[.int .i64 o.d.id, .string o.d.f, .string o.d.t, .int .i64 o.d.gen, o.sm, .int .i64 o.d.next, o.sp, o.sz, .bool o.fr, o.se, .int .i64 o.al]
structure HP (w : World) (N : Nat) (o : Ph) : Prop where
 sm : SM w N o.sm o.d.ms
 sp : SP w N o.sp o.ps
 sz : SZ w N o.sz o.zs
 pz : PZ w N o.zs
 se : SI w N o.se o.ea
theorem HP.below {w w' : World} {N : Nat} {o : Ph} (h : HP w N o) (hb : Below N w w') : HP w' N o := ⟨h.sm.below hb, h.sp.below hb, h.sz.below hb, h.pz.below hb, h.se.below hb⟩
theorem HP.more {w : World} {N N' : Nat} {o : Ph} (h : HP w N o) (hB : N <= N') : HP w N' o := ⟨h.sm.more hB, h.sp.more hB, h.sz.more hB, h.pz.more hB, h.se.more hB⟩
theorem HP.form {w : World} {N : Nat} {o : Ph} (h : HP w N o) : ∃ A a B b C c D d, o.sm = .slice A o.d.ms.length a /\ o.sp = .slice B o.ps.length b /\ o.sz = .slice C o.zs.length c /\ o.se = .slice D o.ea.length d := by
 obtain ⟨A, a, h1⟩ := h.sm.form
 obtain ⟨B, b, h2⟩ := h.sp.form
 obtain ⟨C, c, h3⟩ := h.sz.form
 obtain ⟨D, d, h4⟩ := h.se.form
 exact ⟨A, a, B, b, C, c, D, d, h1, h2, h3, h4⟩
def BoxP (n : Nat) (o : Ph) (w' : World) : Prop := n < w'.heap.size /\ (w'.cell? ⟨n, 0, none⟩ = some (.int .i64 o.d.id) /\ w'.cell? ⟨n, 1, none⟩ = some (.string o.d.f) /\ w'.cell? ⟨n, 2, none⟩ = some (.string o.d.t) /\ w'.cell? ⟨n, 3, none⟩ = some (.int .i64 o.d.gen) /\ w'.cell? ⟨n, 4, none⟩ = some (o.sm) /\ w'.cell? ⟨n, 5, none⟩ = some (.int .i64 o.d.next) /\ w'.cell? ⟨n, 6, none⟩ = some (o.sp) /\ w'.cell? ⟨n, 7, none⟩ = some (o.sz) /\ w'.cell? ⟨n, 8, none⟩ = some (.bool o.fr) /\ w'.cell? ⟨n, 9, none⟩ = some (o.se) /\ w'.cell? ⟨n, 10, none⟩ = some (.int .i64 o.al)) /\ ∀ o, w'.frozen? ⟨n, o, none⟩ = false
theorem BoxP.keep {n : Nat} {o : Ph} {w1 w2 : World} (h : BoxP n o w1) (hb : Below w1.heap.size w1 w2) : BoxP n o w2 := by
 obtain ⟨h0, ⟨h1, h2, h3, h4, h5, h6, h7, h8, h9, h10, h11⟩, hf⟩ := h
 have hc : ∀ o, w2.cell? ⟨n, o, none⟩ = w1.cell? ⟨n, o, none⟩ := fun o => hb.cell (p := ⟨n, o, none⟩) h0
 refine ⟨Nat.lt_of_lt_of_le h0 hb.size, ⟨?_, ?_, ?_, ?_, ?_, ?_, ?_, ?_, ?_, ?_, ?_⟩, fun o => (hb.frozen (p := ⟨n, o, none⟩) h0).trans (hf o)⟩
 all_goals rw [hc]; assumption
theorem BoxP.new (w : World) (o : Ph) : BoxP w.heap.size o (w.alloc (.cells #[.int .i64 o.d.id, .string o.d.f, .string o.d.t, .int .i64 o.d.gen, o.sm, .int .i64 o.d.next, o.sp, o.sz, .bool o.fr, o.se, .int .i64 o.al] 38)) :=
 ⟨by simp, by simp [go_sem], fun o => by simp [go_sem]⟩
theorem BoxP.alloc {n : Nat} {o : Ph} {w1 : World} (h : BoxP n o w1) (x : Obj) : BoxP n o (w1.alloc x) :=
 h.keep ((Below.refl _ w1).alloc (Nat.le_refl _) x)
theorem BoxP.drew {n : Nat} {o : Ph} {w1 : World} (h : BoxP n o w1) : BoxP n o w1.drew := h
theorem BoxP.other {n : Nat} {o : Ph} {w1 : World} (h : BoxP n o w1) {a : Addr} (ha : a.block ≠ n) (u : Value) : BoxP n o (w1.setCell a u) := by
 obtain ⟨h0, ⟨h1, h2, h3, h4, h5, h6, h7, h8, h9, h10, h11⟩, hf⟩ := h
 have hc : ∀ o, (w1.setCell a u).cell? ⟨n, o, none⟩ = w1.cell? ⟨n, o, none⟩ := fun o => World.cell?_setCell_far w1 a _ u ha
 refine ⟨by simpa using h0, ⟨?_, ?_, ?_, ?_, ?_, ?_, ?_, ?_, ?_, ?_, ?_⟩, fun o => by rw [World.frozen?_setCell]; exact hf o⟩
 all_goals rw [hc]; assumption
theorem BoxP.put {n : Nat} {o0 : Ph} {w1 : World} (h : BoxP n o0 w1) (o : Ph) :
  BoxP n o (World.setCell (World.setCell (World.setCell (World.setCell (World.setCell (World.setCell (World.setCell (World.setCell (World.setCell (World.setCell (World.setCell w1 ⟨n, 0, none⟩ (.int .i64 o.d.id)) ⟨n, 1, none⟩ (.string o.d.f)) ⟨n, 2, none⟩ (.string o.d.t)) ⟨n, 3, none⟩ (.int .i64 o.d.gen)) ⟨n, 4, none⟩ (o.sm)) ⟨n, 5, none⟩ (.int .i64 o.d.next)) ⟨n, 6, none⟩ (o.sp)) ⟨n, 7, none⟩ (o.sz)) ⟨n, 8, none⟩ (.bool o.fr)) ⟨n, 9, none⟩ (o.se)) ⟨n, 10, none⟩ (.int .i64 o.al)) := by
 obtain ⟨h0, ⟨h1, h2, h3, h4, h5, h6, h7, h8, h9, h10, h11⟩, hf⟩ := h
 refine ⟨by simpa using h0, ⟨?_, ?_, ?_, ?_, ?_, ?_, ?_, ?_, ?_, ?_, ?_⟩, fun o => by simp [World.frozen?_setCell, hf]⟩
 all_goals simp [go_sem, h1, h2, h3, h4, h5, h6, h7, h8, h9, h10, h11]
theorem res_BoxP_tmp {fn : Func} {a b : Tmp} {tmps : Array Value} {n : Nat} {o : Ph} {v : Value} {w1 : World} (hf : fn.results = #[.cell a 38, .tmp b]) (ht : tmps[a]?.getD undef = .pointer (some ⟨n, 0, none⟩)) (hb : tmps[b]?.getD undef = v) (h : BoxP n o w1) : (results fn tmps).run Tryz.prog w1 = .ok (.tuple #[qv o, v]) w1 := by
 have h1 := Tryz.isAgg38
 have h2 := Tryz.sizeOf38
 obtain ⟨_, ⟨c1, c2, c3, c4, c5, c6, c7, c8, c9, c10, c11⟩, _⟩ := h
 simp [results, hf, go_sem, ht, hb, h1, h2, c1, c2, c3, c4, c5, c6, c7, c8, c9, c10, c11]
theorem res_BoxP {fn : Func} {a : Tmp} {tmps : Array Value} {n : Nat} {o : Ph} {w1 : World} (hf : fn.results = #[.cell a 38]) (ht : tmps[a]?.getD undef = .pointer (some ⟨n, 0, none⟩)) (h : BoxP n o w1) : (results fn tmps).run Tryz.prog w1 = .ok (qv o) w1 := by
 have h1 := Tryz.isAgg38
 have h2 := Tryz.sizeOf38
 obtain ⟨_, ⟨c1, c2, c3, c4, c5, c6, c7, c8, c9, c10, c11⟩, _⟩ := h
 simp [results, hf, go_sem, ht, h1, h2, c1, c2, c3, c4, c5, c6, c7, c8, c9, c10, c11]
structure FitP (o : Ph) : Prop where
 f : o.d.f.size <= 140737488355328
 t : o.d.t.size <= 140737488355328
 ms : o.d.ms.length <= 140737488355328
 ps : o.ps.length <= 140737488355328
 each : ∀ p ∈ o.ps, p.1.size <= 140737488355328 /\ p.2.size <= 140737488355328
 zs : o.zs.length <= 140737488355328
 fit : ∀ z ∈ o.zs, z.1.rep.val.size <= 140737488355328 /\ z.1.rep.ps.length <= 140737488355328 /\ ∀ p ∈ z.1.rep.ps, p.1.size <= 140737488355328 /\ p.2.size <= 140737488355328
 ea : o.ea.length <= 140737488355328
end Go.Proofs.YthcmnkmfhgoddaaGreatDoor.Dp

namespace Go.Proofs.YthcmnkmfhgoddaaGreatDoor.Dp
open Go.RowKit Bnd
open Go.Proofs.YthcmnkmfhgoddaaGreatDoor.Ds (De SM OwnI infoI)
open Go.Proofs.YthcmnkmfhgoddaaGreatDoor.Ss (Ses Zs ses SZ PZ NoP OwnZ ArgZ)
open Go.Proofs.YthcmnkmfhgoddaaGreatDoor.Od (Pr SP OwnP ArgP)
inductive ArgI (w : World) : Value -> List Int -> Prop
 | nil : ArgI w (.slice none 0 0) []
 | some (b o : Nat) (c : Nat) (ns : List Int) (h : SI w w.heap.size (.slice (some ⟨b, o, none⟩) ns.length c) ns) : ArgI w (.slice (some ⟨b, o, none⟩) ns.length c) ns
 | empty (a : Addr) (c : Nat) : ArgI w (.slice (some a) 0 c) []
theorem ArgI.si {w : World} {v : Value} {ns : List Int} (h : ArgI w v ns) : SI w w.heap.size v ns := by
 cases h with
 | nil => exact SI.nil _ _
 | some b o c ns h => exact h
 | empty a c => exact ⟨_, c, rfl, fun h => absurd h (by simp)⟩
theorem ArgI.keep {w w' : World} {v : Value} {ns : List Int} (h : ArgI w v ns) (hb : Below w.heap.size w w') : ArgI w' v ns := by
 cases h with
 | nil => exact .nil
 | some b o c ns h => exact .some b o c ns ((h.below hb).more hb.size)
 | empty a c => exact .empty a c
theorem ArgI.of_own {w : World} {base : Nat} {v : Value} {ns : List Int} (h : OwnI w base v ns) : ArgI w v ns := by
 have hs := SI.of_own h
 rcases h.2 with ⟨rfl, h0⟩ | ⟨g, cap, cur, rfl, _⟩
 ·obtain rfl : ns = [] := List.length_eq_zero_iff.1 h0
  exact .nil
 ·exact .some g 0 cap ns hs
theorem wpList_append_ints {w : World} {ops : Array Oper} {rest : List Oper} {o : Oper} {a : Act} {Q : Exit -> Act -> World -> Prop} (hw : Region.wanted o (yielded ops a.tmps) = true) (s x : Operand)
  (ho : o.op = .call { callee := .builtin .append, args := #[s, x], argTypes := #[36, 36] }) (base : Nat) (v : Value) (xs : List Int) (hs : a.eval s = v)
  (hown : OwnI w base v xs) (hbase : base <= w.heap.size) (y : Value) (ys : List Int) (hx : a.eval x = y) (hy : ArgI w y ys) (hlen : xs.length + ys.length <= 10000000)
  (h : ∀ v' w', OwnI w' base v' (xs ++ ys) -> Below base w w' -> w.grownBy w' v.ownBlock -> wpList Tryz.prog ops Q rest (a.put o.dst v') w') : wpList Tryz.prog ops Q (o :: rest) a w := by
 obtain ⟨i0, hi, hz0, hz1, hz2⟩ := info_parts infoI
 refine wpList_step fun K hK => ?_
 rw [if_pos hw]
 cases hy with
 | nil =>
  have hrun := run_append_owned_none (P := Tryz.prog) (w := w) base 36 o.type 2 i0 1 Tryz.underlying36 hi v xs.length (xs.map (Value.int .i64)) hown
  unfold Oper.wp
  simp [execOp, ho, resolve, invoke, builtin, hs, hx, hrun, Result.andThen]
  exact hK _ _ (h v w (by simpa using hown) (Below.refl _ w) ⟨rfl, rfl, rfl, Nat.le_refl _, fun _ _ _ => rfl⟩)
 | some b o' c ys hn =>
  refine wp_append_own w s x 36 ho base 2 i0 (.int .i64 0) 1 8 Tryz.underlying36 hi hz0 hz1 hz2 rfl (by decide) v xs.length (xs.map (Value.int .i64)) hs hown ⟨b, o', none⟩ ys.length c (ys.map (Value.int .i64)) hx (by simp) ?_ (fun u h => by simp at h; obtain ⟨n, _, rfl⟩ := h; rfl) (by unfold maxLen; omega) (by omega) hbase ?_
  ·intro j u hj
   rw [List.getElem?_map] at hj
   have hjl : j < ys.length := by
    rcases Nat.lt_or_ge j ys.length with h | h
    ·exact h
    ·rw [List.getElem?_eq_none h] at hj; cases hj
   rw [List.getElem?_eq_getElem hjl] at hj
   obtain rfl := Option.some.inj hj
   obtain ⟨b', o2, e, _, q⟩ := hn.at_ hjl
   cases e
   rw [Addr.add_lit]
   exact q
  ·intro v' w' h2 h3 _
   exact hK _ _ (h v' w' (by show w'.ownsRow _ _ _ _ _ _; rw [List.length_append, List.map_append]; exact h2) ((Below.refl _ w).grown h3 hbase (fun k hk => (hown.lt k hk).1)) h3)
 | empty ad c =>
  refine wp_append_own w s x 36 ho base 2 i0 (.int .i64 0) 1 8 Tryz.underlying36 hi hz0 hz1 hz2 rfl (by decide) v xs.length (xs.map (Value.int .i64)) hs hown ad 0 c [] hx rfl (fun j u h => by simp at h) (fun u h => by simp at h) (by unfold maxLen; simp at hlen; omega) (by simp at hlen; omega) hbase ?_
  intro v' w' h2 h3 _
  exact hK _ _ (h v' w' (by show w'.ownsRow _ _ _ _ _ _; simpa using h2) ((Below.refl _ w).grown h3 hbase (fun k hk => (hown.lt k hk).1)) h3)
theorem ownI_empty (w : World) : OwnI (w.alloc (.cells #[] 2)) w.heap.size (.slice (some ⟨w.heap.size, 0, none⟩) 0 0) [] :=
 ⟨rfl, .inr ⟨w.heap.size, 0, #[], rfl, Nat.le_refl _, heap_alloc_new w _, Nat.le_refl _, by unfold maxLen; omega, rfl, rfl⟩⟩
set_option maxHeartbeats 2000000 in
theorem cloneP_any (v : Value) (ms : List Pr) (w : World) (hv : ArgP w v ms) (hl : ms.length <= 100000) :
  Calls Tryz.prog 151 #[v] w fun e w' => ∃ v', e = .returned v' /\ OwnP w' w.heap.size v' ms /\ Below w.heap.size w w' := by
 have q : ∀ (w : World) (a : Option Addr) (n c n' c' : Nat), (binOp .eql 34 (.slice a n c) (.slice none n' c')).run Tryz.prog w = .ok (.bool a.isNone) w := fun w a n c n' c' => Lib.run_eql_slice_nil w _ _ a n c n' c' Tryz.underlying34
 cases hv with
 | nil =>
  go_enter Tryz.func151, Tryz.ntmps151
  go_wp2_with fail
  go_ret
  exact ⟨_, rfl, ⟨rfl, .inl ⟨rfl, rfl⟩⟩, Below.refl _ _⟩
 | some b o c ms h =>
  go_enter Tryz.func151, Tryz.ntmps151
  go_wp2_with (at_builtin; refine Od.wpList_append_ps rfl _ _ rfl w.heap.size _ [] rfl (Od.own_empty w) (by simp) _ ms rfl (.some b o c ms ((h.below ((Below.refl _ w).alloc (Nat.le_refl _) _)).more (by simp))) (by simp; omega) ?_)
  intro v' w1 hown hb1 _
  go_wp2_with fail
  go_ret
  exact ⟨_, rfl, by simpa using hown, ((Below.refl _ w).alloc (Nat.le_refl _) _).trans hb1⟩
 | empty a c =>
  go_enter Tryz.func151, Tryz.ntmps151
  go_wp2_with (at_builtin; refine Od.wpList_append_ps rfl _ _ rfl w.heap.size _ [] rfl (Od.own_empty w) (by simp) _ [] rfl (.empty a c) (by simp) ?_)
  intro v' w1 hown hb1 _
  go_wp2_with fail
  go_ret
  exact ⟨_, rfl, by simpa using hown, ((Below.refl _ w).alloc (Nat.le_refl _) _).trans hb1⟩
set_option maxHeartbeats 2000000 in
theorem cloneZ_any (v : Value) (ms : List Zs) (w : World) (hv : ArgZ w v ms) (hone : ∀ z ∈ ms, z.2.oneCell' = true) (hl : ms.length <= 100000) :
  Calls Tryz.prog 152 #[v] w fun e w' => ∃ v', e = .returned v' /\ OwnZ w' w.heap.size v' ms /\ Below w.heap.size w w' := by
 have q : ∀ (w : World) (a : Option Addr) (n c n' c' : Nat), (binOp .eql 35 (.slice a n c) (.slice none n' c')).run Tryz.prog w = .ok (.bool a.isNone) w := fun w a n c n' c' => Lib.run_eql_slice_nil w _ _ a n c n' c' Tryz.underlying35
 cases hv with
 | nil =>
  go_enter Tryz.func152, Tryz.ntmps152
  go_wp2_with fail
  go_ret
  exact ⟨_, rfl, ⟨rfl, .inl ⟨rfl, rfl⟩⟩, Below.refl _ _⟩
 | some b o c ms hc h =>
  go_enter Tryz.func152, Tryz.ntmps152
  go_wp2_with (at_builtin; refine Ss.wpList_append_zs rfl _ _ rfl w.heap.size _ [] rfl (Ss.ownZ_empty w) (by simp) _ ms rfl (.some b o c ms hc ((h.below ((Below.refl _ w).alloc (Nat.le_refl _) _)).more (by simp))) hone (by simp; omega) ?_)
  intro v' w1 hown hb1 _
  go_wp2_with fail
  go_ret
  exact ⟨_, rfl, by simpa using hown, ((Below.refl _ w).alloc (Nat.le_refl _) _).trans hb1⟩
 | empty a c =>
  go_enter Tryz.func152, Tryz.ntmps152
  go_wp2_with (at_builtin; refine Ss.wpList_append_zs rfl _ _ rfl w.heap.size _ [] rfl (Ss.ownZ_empty w) (by simp) _ [] rfl (.empty a c) (fun z hz => by cases hz) (by simp) ?_)
  intro v' w1 hown hb1 _
  go_wp2_with fail
  go_ret
  exact ⟨_, rfl, by simpa using hown, ((Below.refl _ w).alloc (Nat.le_refl _) _).trans hb1⟩
set_option maxHeartbeats 2000000 in
theorem cloneI_any (v : Value) (ms : List Int) (w : World) (hv : ArgI w v ms) (hl : ms.length <= 100000) :
  Calls Tryz.prog 153 #[v] w fun e w' => ∃ v', e = .returned v' /\ OwnI w' w.heap.size v' ms /\ Below w.heap.size w w' := by
 have q : ∀ (w : World) (a : Option Addr) (n c n' c' : Nat), (binOp .eql 36 (.slice a n c) (.slice none n' c')).run Tryz.prog w = .ok (.bool a.isNone) w := fun w a n c n' c' => Lib.run_eql_slice_nil w _ _ a n c n' c' Tryz.underlying36
 cases hv with
 | nil =>
  go_enter Tryz.func153, Tryz.ntmps153
  go_wp2_with fail
  go_ret
  exact ⟨_, rfl, ⟨rfl, .inl ⟨rfl, rfl⟩⟩, Below.refl _ _⟩
 | some b o c ms h =>
  go_enter Tryz.func153, Tryz.ntmps153
  go_wp2_with (at_builtin; refine wpList_append_ints rfl _ _ rfl w.heap.size _ [] rfl (ownI_empty w) (by simp) _ ms rfl (.some b o c ms ((h.below ((Below.refl _ w).alloc (Nat.le_refl _) _)).more (by simp))) (by simp; omega) ?_)
  intro v' w1 hown hb1 _
  go_wp2_with fail
  go_ret
  exact ⟨_, rfl, by simpa using hown, ((Below.refl _ w).alloc (Nat.le_refl _) _).trans hb1⟩
 | empty a c =>
  go_enter Tryz.func153, Tryz.ntmps153
  go_wp2_with (at_builtin; refine wpList_append_ints rfl _ _ rfl w.heap.size _ [] rfl (ownI_empty w) (by simp) _ [] rfl (.empty a c) (by simp) ?_)
  intro v' w1 hown hb1 _
  go_wp2_with fail
  go_ret
  exact ⟨_, rfl, by simpa using hown, ((Below.refl _ w).alloc (Nat.le_refl _) _).trans hb1⟩
end Go.Proofs.YthcmnkmfhgoddaaGreatDoor.Dp
