
/-
  Logs of entries, reckoned without a program: which may be, the last one, terms, parts, what comes of a merge, texts there and back. No condition.
-/
import Derived.Test.YtlcobgpgggegdaaGreatDoorOrdA
namespace Go.Proofs.YtlcobgpgggegdaaGreatDoor.Ro
open Go.Proofs.YtlcobgpgggegdaaGreatDoor.M (tieT tieT_cons tieT_nil untieT untie_some untie_spec numT intT inR intT_some intT_spec numT_length)

abbrev En := Int × ByteArray
structure Lg where
  base : Int
  bt : Int
  es : List En
  deriving DecidableEq
def Lg.zero : Lg := ⟨0, 0, []⟩

abbrev top : Int := 1099511627776
def isIx (n : Int) : Bool := decide (0 ≤ n) && decide (n ≤ 1099511627776)
def riseE : Int → List En → Bool
  | _, [] => true
  | t, e :: l => decide (t ≤ e.1) && decide (e.1 ≤ 1099511627776) && riseE e.1 l
def isL (r : Lg) : Bool := isIx r.base && isIx r.bt && decide ((r.es.length : Int) ≤ 1099511627776 - r.base) && riseE r.bt r.es
def chkL (r : Lg) : Int := if isL r then 0 else 110
theorem isIx_iff (n : Int) : isIx n = true ↔ 0 ≤ n ∧ n ≤ 1099511627776 := by unfold isIx; simp
theorem isL_iff (r : Lg) : isL r = true ↔ (0 ≤ r.base ∧ r.base ≤ 1099511627776) ∧ (0 ≤ r.bt ∧ r.bt ≤ 1099511627776) ∧ (r.es.length : Int) ≤ 1099511627776 - r.base ∧ riseE r.bt r.es = true := by
  unfold isL; simp only [Bool.and_eq_true, isIx_iff, decide_eq_true_eq]; exact ⟨fun ⟨⟨⟨a, b⟩, c⟩, d⟩ => ⟨a, b, c, d⟩, fun ⟨a, b, c, d⟩ => ⟨⟨⟨a, b⟩, c⟩, d⟩⟩
theorem riseE_cons (t : Int) (e : En) (l : List En) : riseE t (e :: l) = true ↔ t ≤ e.1 ∧ e.1 ≤ 1099511627776 ∧ riseE e.1 l = true := by
  rw [riseE]; simp only [Bool.and_eq_true, decide_eq_true_eq, and_assoc]
theorem riseE_mem : ∀ {t : Int} {l : List En}, riseE t l = true → ∀ e ∈ l, t ≤ e.1 ∧ e.1 ≤ 1099511627776
  | _, [], _, e, h => by cases h
  | t, x :: l, h, e, he => by
    obtain ⟨h1, h2, h3⟩ := (riseE_cons t x l).1 h
    rcases List.mem_cons.1 he with rfl | he
    · exact ⟨h1, h2⟩
    · have := riseE_mem h3 e he; exact ⟨by omega, this.2⟩

/-! ### the last one -/
def lastI (r : Lg) : Int := r.base + r.es.length
def lastT (r : Lg) : Int := match r.es.getLast? with
  | some e => e.1
  | none => r.bt
/-! ### a place, a term -/
def placeL (r : Lg) (i : Int) : Option Nat := if r.base < i ∧ (i - r.base - 1).toNat < r.es.length then some (i - r.base - 1).toNat else none
def termL (r : Lg) (i : Int) : Option Int := if i = r.base then some r.bt else match placeL r i with
  | some k => (r.es[k]?).map (·.1)
  | none => none
/-! ### parts, merges -/
def sliceL (r : Lg) (f lim : Int) : List En := (r.es.drop (f - r.base - 1).toNat).take lim.toNat
def appL (r : Lg) (l : List En) : Lg := ⟨r.base, r.bt, r.es ++ l⟩
def alikeE : List En → List En → Nat
  | a :: x, b :: y => if a.1 = b.1 then alikeE x y + 1 else 0
  | _, _ => 0
def mergeL (r : Lg) (ix t : Int) (l : List En) : Lg × Bool :=
  if termL r ix = some t then
    (if alikeE (r.es.drop (ix - r.base).toNat) l = l.length then r
     else ⟨r.base, r.bt, r.es.take ((ix - r.base).toNat + alikeE (r.es.drop (ix - r.base).toNat) l) ++ l.drop (alikeE (r.es.drop (ix - r.base).toNat) l)⟩, true)
  else (r, false)
def compL (r : Lg) (to : Int) : Lg := match placeL r to with
  | some k => ⟨to, (r.es.getD k (0, ⟨#[]⟩)).1, r.es.drop (k + 1)⟩
  | none => r
def newerL (t i : Int) (r : Lg) : Bool := decide (lastT r < t) || (decide (t = lastT r) && decide (lastI r ≤ i))

/-! ### texts -/
def entT (e : En) : List (List UInt8) := [numT e.1, e.2.data.toList]
def entsT (l : List En) : List (List UInt8) := (l.map entT).flatten
def strandsL (r : Lg) : List (List UInt8) := numT r.base :: numT r.bt :: entsT r.es
def putL (r : Lg) : List UInt8 := tieT (strandsL r)
theorem entsT_cons (e : En) (l : List En) : entsT (e :: l) = numT e.1 :: e.2.data.toList :: entsT l := rfl
theorem entsT_length : ∀ l : List En, (entsT l).length = l.length * 2
  | [] => rfl
  | e :: l => by rw [entsT_cons]; simp only [List.length_cons, entsT_length l]; omega
def num1 (t : List UInt8) : Int := (intT t).getD (-1)
theorem num1_numT {n : Int} (h : inR n) : num1 (numT n) = n := by unfold num1; rw [intT_some h rfl]; rfl
def twosE : List (List UInt8) → List En
  | a :: b :: l => (num1 a, ⟨b.toArray⟩) :: twosE l
  | _ => []
theorem twosE_ents : ∀ {l : List En}, (∀ e ∈ l, inR e.1) → twosE (entsT l) = l
  | [], _ => rfl
  | e :: l, h => by
    rw [entsT_cons, twosE, num1_numT (h e (by simp)), twosE_ents fun x hx => h x (by simp [hx])]
noncomputable def parseL (s : List UInt8) : Lg × Int := match untieT s with
  | some (a :: b :: l) => if l.length % 2 = 0 then if isL ⟨num1 a, num1 b, twosE l⟩ = true then (⟨num1 a, num1 b, twosE l⟩, 0) else (Lg.zero, 110) else (Lg.zero, 110)
  | _ => (Lg.zero, 110)
theorem isL_in {r : Lg} (h : isL r = true) : inR r.base ∧ inR r.bt ∧ ∀ e ∈ r.es, inR e.1 := by
  obtain ⟨h1, h2, _, h4⟩ := (isL_iff r).1 h
  refine ⟨by unfold inR; omega, by unfold inR; omega, fun e he => ?_⟩
  have := riseE_mem h4 e he
  unfold inR; omega
theorem parse_put {r : Lg} (h : isL r = true) (h1 : r.es.length ≤ 2000) (h2 : (putL r).length ≤ 1048576) : parseL (putL r) = (r, 0) := by
  obtain ⟨i1, i2, i3⟩ := isL_in h
  have hu : untieT (putL r) = some (strandsL r) := untie_some rfl (by unfold strandsL; simp [entsT_length]; omega) h2
  unfold parseL
  rw [hu]
  unfold strandsL
  simp only
  rw [num1_numT i1, num1_numT i2, twosE_ents i3, entsT_length, if_pos (by omega), if_pos h]
end Go.Proofs.YtlcobgpgggegdaaGreatDoor.Ro
