
/-
  THE PLAIN MATHEMATICS OF PACKAGE shelf, of no program: pairs by rising keys, changes done one behind the other, changes' texts and back. No condition.
  One change done upon pairs by rising keys, as a cut at a place; how a scan and a look-up go, pair by pair. No program's function; no condition.
-/
import Derived.Test.YtoomkdofoceiaaaGreatDoorOrdA
namespace Go.Proofs.YtoomkdofoceiaaaGreatDoor.Sf
open Go.Proofs.YtoomkdofoceiaaaGreatDoor.O (lt lt_irrefl lt_trans lt_tri lt_asymm)
open Go.Proofs.YtoomkdofoceiaaaGreatDoor.M (tieT untieT untie_some untie_spec)
abbrev Text := List UInt8
abbrev Pr := ByteArray × ByteArray
structure Ch where
  k : ByteArray
  v : ByteArray
  gone : Bool
instance : Inhabited Ch := ⟨⟨⟨#[]⟩, ⟨#[]⟩, false⟩⟩
theorem ba_ext {a b : ByteArray} (h : a.toList = b.toList) : a = b := by
  rw [ByteArray.toList_eq, ByteArray.toList_eq] at h
  obtain ⟨⟨x⟩⟩ := a
  obtain ⟨⟨y⟩⟩ := b
  have h : x = y := h
  rw [h]
def kl (a b : ByteArray) : Bool := lt a.toList b.toList
theorem kl_irrefl (a : ByteArray) : kl a a = false := lt_irrefl _
theorem kl_trans {a b c : ByteArray} (h : kl a b = true) (k : kl b c = true) : kl a c = true := lt_trans h k
theorem kl_ne {a b : ByteArray} (h : kl a b = true) : a ≠ b := by
  rintro rfl
  rw [kl_irrefl] at h; cases h
def Up (P : List Pr) : Prop := P.Pairwise fun p q => kl p.1 q.1 = true
def put (c : Ch) : List Pr := if c.gone = true then [] else [(c.k, c.v)]
def doP : List Pr → Ch → List Pr
  | [], c => put c
  | p :: P, c => if kl p.1 c.k = true then p :: doP P c else put c ++ (if p.1 = c.k then P else p :: P)
def allP (P : List Pr) (l : List Ch) : List Pr := l.foldl doP P
def getP : List Pr → ByteArray → Option ByteArray
  | [], _ => none
  | p :: P, k => if p.1 = k then some p.2 else getP P k
theorem get_none {P : List Pr} {k : ByteArray} (h : ∀ x ∈ P, x.1 ≠ k) : getP P k = none := by
  induction P with
  | nil => rfl
  | cons p P ih =>
    unfold getP
    rw [if_neg (h p (by simp))]
    exact ih fun x hx => h x (by simp [hx])
def asCh (P : List Pr) : List Ch := P.map fun p => ⟨p.1, p.2, false⟩
def between (f t : ByteArray) (p : Pr) : Bool := !kl p.1 f && (decide (t.toList = []) || kl p.1 t)
def scanP (P : List Pr) (f t : ByteArray) : List Pr := P.filter (between f t)
def mark (c : Ch) : Text := if c.gone = true then [49] else [48]
def chT (c : Ch) : Text := tieT [c.k.toList, mark c, c.v.toList]
def changesT (l : List Ch) : Text := tieT (l.map chT)
def isCh (c : Ch) : Bool := decide (1 ≤ c.k.size) && decide (c.k.size ≤ 128) && decide (c.v.size ≤ 262144) && (!c.gone || decide (c.v.size = 0))
noncomputable def readOne (s : Text) : Option Ch := match untieT s with
  | some [k, m, v] => if (m = [48] ∨ m = [49]) ∧ isCh ⟨⟨k.toArray⟩, ⟨v.toArray⟩, decide (m = [49])⟩ = true then some ⟨⟨k.toArray⟩, ⟨v.toArray⟩, decide (m = [49])⟩ else none
  | _ => none
noncomputable def readAll : List Text → Option (List Ch)
  | [] => some []
  | s :: l => match readOne s, readAll l with
    | some c, some r => some (c :: r)
    | _, _ => none
noncomputable def readsT (s : Text) : Option (List Ch) := match untieT s with
  | some l => readAll l
  | none => none
def weight (l : List Ch) : Nat := (l.map fun c => c.k.size + c.v.size + 89).sum
def heft (P : List Pr) : Nat := (P.map fun p => p.1.size + p.2.size + 89).sum
def okP (P : List Pr) : Prop := ∀ p ∈ P, isCh ⟨p.1, p.2, false⟩ = true
end Go.Proofs.YtoomkdofoceiaaaGreatDoor.Sf
namespace Go.Proofs.YtoomkdofoceiaaaGreatDoor.Sf
theorem all_append (P : List Pr) (l k : List Ch) : allP P (l ++ k) = allP (allP P l) k := by unfold allP; simp
theorem scan_take (P : List Pr) (f t : ByteArray) (k : Nat) (h : k < P.length) : scanP (P.take (k + 1)) f t = scanP (P.take k) f t ++ (if between f t P[k] = true then [P[k]] else []) := by
  unfold scanP
  rw [List.take_add_one, List.getElem?_eq_getElem h, List.filter_append]
  congr 1
  show List.filter (between f t) [P[k]] = _
  simp [List.filter_cons]
end Go.Proofs.YtoomkdofoceiaaaGreatDoor.Sf
