/-
  Logs of entries, reckoned without a program: which may be, the last one, terms, parts, what comes of a merge, texts there and back. No condition.
-/
import Derived.Test.YtkpakiiijphjeaaGreatDoorPOrdA
namespace Go.Proofs.YtkpakiiijphjeaaGreatDoor.Ro
open Go.Proofs.YtkpakiiijphjeaaGreatDoor.M (tieT tieT_cons tieT_nil untieT untie_some untie_spec numT intT inR intT_some intT_spec numT_length)
abbrev En := Int × ByteArray
structure Lg where
  base : Int
  bt : Int
  es : List En
  deriving DecidableEq
def Lg.zero : Lg := ⟨0, 0, []⟩
def isIx (n : Int) : Bool := decide (0 ≤ n) && decide (n ≤ 1099511627776)
def riseE : Int → List En → Bool
  | _, [] => true
  | t, e :: l => decide (t ≤ e.1) && decide (e.1 ≤ 1099511627776) && riseE e.1 l
def isL (r : Lg) : Bool := isIx r.base && isIx r.bt && decide ((r.es.length : Int) ≤ 1099511627776 - r.base) && riseE r.bt r.es
def chkL (r : Lg) : Int := if isL r then 0 else 110
theorem isIx_iff (n : Int) : isIx n = true ↔ 0 ≤ n ∧ n ≤ 1099511627776 := by unfold isIx; simp
theorem isL_iff (r : Lg) : isL r = true ↔ (0 ≤ r.base ∧ r.base ≤ 1099511627776) ∧ (0 ≤ r.bt ∧ r.bt ≤ 1099511627776) ∧ (r.es.length : Int) ≤ 1099511627776 - r.base ∧ riseE r.bt r.es = true := by
  unfold isL; simp only [Bool.and_eq_true, isIx_iff, decide_eq_true_eq]; exact ⟨fun ⟨⟨⟨a, b⟩, c⟩, d⟩ => ⟨a, b, c, d⟩, fun ⟨a, b, c, d⟩ => ⟨⟨⟨a, b⟩, c⟩, d⟩⟩
theorem riseE_cons (t : Int) (e : En) (l : List En) : riseE t (e :: l) = true ↔ t ≤ e.1 ∧ e.1 ≤ 1099511627776 ∧ riseE e.1 l = true := by
  rw [riseE]; simp only [Bool.and_eq_true, decide_eq_true_eq, and_assoc]
theorem riseE_mem : ∀ {t : Int} {l : List En}, riseE t l = true → ∀ e ∈ l, t ≤ e.1 ∧ e.1 ≤ 1099511627776
  | _, [], _, e, h => by cases h
  | t, x :: l, h, e, he => by
    obtain ⟨h1, h2, h3⟩ := (riseE_cons t x l).1 h
    rcases List.mem_cons.1 he with rfl | he
    · exact ⟨h1, h2⟩
    · have := riseE_mem h3 e he; exact ⟨by omega, this.2⟩
def entT (e : En) : List (List UInt8) := [numT e.1, e.2.data.toList]
def entsT (l : List En) : List (List UInt8) := (l.map entT).flatten
theorem entsT_cons (e : En) (l : List En) : entsT (e :: l) = numT e.1 :: e.2.data.toList :: entsT l := rfl
theorem entsT_length : ∀ l : List En, (entsT l).length = l.length * 2
  | [] => rfl
  | e :: l => by rw [entsT_cons]; simp only [List.length_cons, entsT_length l]; omega
theorem isL_in {r : Lg} (h : isL r = true) : inR r.base ∧ inR r.bt ∧ ∀ e ∈ r.es, inR e.1 := by
  obtain ⟨h1, h2, _, h4⟩ := (isL_iff r).1 h
  refine ⟨by unfold inR; omega, by unfold inR; omega, fun e he => ?_⟩
  have := riseE_mem h4 e he
  unfold inR; omega
end Go.Proofs.YtkpakiiijphjeaaGreatDoor.Ro
