/-
  THE PLAIN MATHEMATICS OF PACKAGE desc, of no program: descriptors, whether they may be, how they change, their texts and back. No condition.
  What the document says follows, of descriptors, reckoned without a program: what only rises, what comes back. No condition.
-/
import Derived.Test.YtkpakiiijphjeaaGreatDoorPOrdA
namespace Go.Proofs.YtkpakiiijphjeaaGreatDoor.Ds
open Go.Proofs.YtkpakiiijphjeaaGreatDoor.O (Bd isB keyB)
open Go.Proofs.YtkpakiiijphjeaaGreatDoor.M (tieT untieT untie_some untie_spec numT intT inR tieT_inj tie_prefix)
abbrev Text := List UInt8
abbrev Mem := Int × Int
structure De where
  id : Int
  f : ByteArray
  t : ByteArray
  gen : Int
  ms : List Mem
  next : Int
def De.zero : De := ⟨0, ⟨#[]⟩, ⟨#[]⟩, 0, [], 0⟩
def De.b (d : De) : Bd := ⟨d.f.toList, d.t.toList⟩
theorem ba_ext {a b : ByteArray} (h : a.toList = b.toList) : a = b := by
  rw [ByteArray.toList_eq, ByteArray.toList_eq] at h
  obtain ⟨⟨x⟩⟩ := a
  obtain ⟨⟨y⟩⟩ := b
  have h : x = y := h
  rw [h]
def idB (n : Int) : Bool := decide (1 ≤ n ∧ n ≤ 1099511627776)
def nodeB (n : Int) : Bool := decide (1 ≤ n ∧ n ≤ 7)
def mayGo (next : Int) : Int → List Int → List Mem → Bool
  | _, _, [] => true
  | last, tk, m :: l => if nodeB m.1 = true ∧ ¬ m.1 ∈ tk ∧ last < m.2 ∧ m.2 < next then mayGo next m.2 (m.1 :: tk) l else false
def mayB (next : Int) (l : List Mem) : Bool := decide (1 ≤ l.length ∧ l.length ≤ 5) && mayGo next 0 [] l
def isD (d : De) : Bool := idB d.id && idB d.gen && idB d.next && isB d.b && mayB d.next d.ms
theorem isD_iff (d : De) : isD d = true ↔ idB d.id = true ∧ idB d.gen = true ∧ idB d.next = true ∧ isB d.b = true ∧ (1 ≤ d.ms.length ∧ d.ms.length ≤ 5) ∧ mayGo d.next 0 [] d.ms = true := by
  simp [isD, mayB, and_assoc]
theorem nodeB_iff (n : Int) : nodeB n = true ↔ 1 ≤ n ∧ n ≤ 7 := by simp [nodeB]
theorem mayGo_iff (next : Int) : ∀ (l : List Mem) (last : Int) (tk : List Int), mayGo next last tk l = true ↔
    (∀ m ∈ l, nodeB m.1 = true ∧ ¬ m.1 ∈ tk ∧ last < m.2 ∧ m.2 < next) ∧ l.Pairwise (fun a b => a.2 < b.2) ∧ (l.map (·.1)).Nodup
  | [], last, tk => by simp [mayGo]
  | m :: l, last, tk => by
    rw [mayGo]
    by_cases h : nodeB m.1 = true ∧ ¬ m.1 ∈ tk ∧ last < m.2 ∧ m.2 < next
    · rw [if_pos h, mayGo_iff next l m.2 (m.1 :: tk)]
      constructor
      · rintro ⟨h1, h2, h3⟩
        refine ⟨?_, List.pairwise_cons.2 ⟨fun x hx => (h1 x hx).2.2.1, h2⟩, ?_⟩
        · intro x hx
          rcases List.mem_cons.1 hx with rfl | hx
          · exact h
          · obtain ⟨g1, g2, g3, g4⟩ := h1 x hx
            exact ⟨g1, fun e => g2 (by simp [e]), by omega, g4⟩
        · rw [List.map_cons, List.nodup_cons]
          refine ⟨?_, h3⟩
          intro hm
          obtain ⟨x, hx, e⟩ := List.mem_map.1 hm
          exact (h1 x hx).2.1 (by simp [e])
      · rintro ⟨h1, h2, h3⟩
        rw [List.pairwise_cons] at h2
        rw [List.map_cons, List.nodup_cons] at h3
        refine ⟨fun x hx => ?_, h2.2, h3.2⟩
        obtain ⟨g1, g2, g3, g4⟩ := h1 x (by simp [hx])
        refine ⟨g1, ?_, h2.1 x hx, g4⟩
        intro e
        rcases List.mem_cons.1 e with e | e
        · exact h3.1 (List.mem_map.2 ⟨x, hx, e⟩)
        · exact g2 e
    · rw [if_neg h]
      constructor
      · intro e; simp at e
      · rintro ⟨h1, _, _⟩
        exact absurd (h1 m (by simp)) h
def hasM (i : Int) : List Mem → Option Mem
  | [] => none
  | m :: l => if m.2 = i then some m else hasM i l
theorem hasM_mem : ∀ {l : List Mem} {m : Mem}, l.Pairwise (fun a b => a.2 < b.2) → m ∈ l → hasM m.2 l = some m
  | x :: l, m, hp, hm => by
    rw [List.pairwise_cons] at hp
    rw [hasM]
    rcases List.mem_cons.1 hm with rfl | hm
    · rw [if_pos rfl]
    · rw [if_neg (by have := hp.1 m hm; omega)]
      exact hasM_mem hp.2 hm
def okD (d : De) : De × Int := if isD d = true then (d, 0) else (De.zero, 60)
def intsOf : List Text → Option (List Int)
  | [] => some []
  | x :: l => match intT x, intsOf l with
    | some n, some r => some (n :: r)
    | _, _ => none
theorem intsOf_none {x : Text} {l : List Text} (h : intT x = none) : intsOf (x :: l) = none := by rw [intsOf, h]
theorem intsOf_none' {x : Text} {l : List Text} (h : intsOf l = none) : intsOf (x :: l) = none := by rw [intsOf, h]; cases intT x <;> rfl
theorem intsOf_snoc : ∀ {a : List Text} {x : Text}, intsOf (a ++ [x]) = (match intsOf a, intT x with | some r, some n => some (r ++ [n]) | _, _ => none)
  | [], x => by cases h : intT x <;> simp [intsOf, h]
  | y :: a, x => by
    rw [List.cons_append, intsOf, intsOf_snoc (a := a) (x := x), intsOf]
    cases intT y <;> cases intsOf a <;> cases intT x <;> simp
theorem intsOf_length : ∀ {a : List Text} {r : List Int}, intsOf a = some r → r.length = a.length
  | [], r, h => by simp [intsOf] at h; simp [← h]
  | y :: a, r, h => by
    rw [intsOf] at h
    cases h1 : intT y with
    | none => rw [h1] at h; simp at h
    | some n =>
      cases h2 : intsOf a with
      | none => rw [h1, h2] at h; simp at h
      | some q => rw [h1, h2] at h; simp at h; rw [← h]; simp [intsOf_length h2]
theorem intsOf_bad {a b : List Text} {x : Text} (h : intT x = none) : intsOf (a ++ x :: b) = none := by
  induction a with
  | nil => exact intsOf_none h
  | cons y a ih => rw [List.cons_append]; exact intsOf_none' ih
def pairsI : List Int → Option (List Mem)
  | [] => some []
  | [_] => none
  | a :: b :: l => if nodeB a = true then (match pairsI l with | some r => some ((a, b) :: r) | none => none) else none
def parseL : List Text → Option De
  | a :: f :: t :: g :: n :: tl =>
    match intT a, intT g, intT n, intsOf tl with
    | some a, some g, some n, some q => (match pairsI q with | some ms => some ⟨a, ⟨f.toArray⟩, ⟨t.toArray⟩, g, ms, n⟩ | none => none)
    | _, _, _, _ => none
  | _ => none
noncomputable def parseD (s : Text) : De × Int := match untieT s with
  | some l => (match parseL l with | some d => okD d | none => (De.zero, 60))
  | none => (De.zero, 60)
theorem pairsI_odd : ∀ (l : List Int), l.length % 2 = 1 → pairsI l = none
  | [], h => by simp at h
  | [_], _ => rfl
  | a :: b :: l, h => by
    rw [pairsI, pairsI_odd l (by simp at h; omega)]
    simp
theorem pairsI_length : ∀ {l : List Int} {r : List Mem}, pairsI l = some r → l.length = r.length * 2
  | [], r, h => by simp [pairsI] at h; simp [h]
  | [_], r, h => by simp [pairsI] at h
  | a :: b :: l, r, h => by
    rw [pairsI] at h
    by_cases hn : nodeB a = true
    · rw [if_pos hn] at h
      cases h1 : pairsI l with
      | none => rw [h1] at h; simp at h
      | some q => rw [h1] at h; simp at h; rw [← h]; simp [pairsI_length h1]; omega
    · rw [if_neg hn] at h; simp at h
theorem okD_is {d : De} (h : isD d = true) : okD d = (d, 0) := if_pos h
theorem okD_no {d : De} (h : ¬ isD d = true) : okD d = (De.zero, 60) := if_neg h
end Go.Proofs.YtkpakiiijphjeaaGreatDoor.Ds

namespace Go.Proofs.YtkpakiiijphjeaaGreatDoor.Ds
open Go.Proofs.YtkpakiiijphjeaaGreatDoor.O (Bd isB keyB)
theorem okD_cases (d : De) : (isD d = true ∧ okD d = (d, 0)) ∨ okD d = (De.zero, 60) := by
  by_cases h : isD d = true
  · exact .inl ⟨h, okD_is h⟩
  · exact .inr (okD_no h)
theorem isD_parts {d : De} (h : isD d = true) : (∀ m ∈ d.ms, nodeB m.1 = true ∧ 0 < m.2 ∧ m.2 < d.next) ∧ d.ms.Pairwise (fun a b => a.2 < b.2) ∧ (d.ms.map (·.1)).Nodup := by
  obtain ⟨h1, h2, h3⟩ := (mayGo_iff _ _ _ _).1 ((isD_iff d).1 h).2.2.2.2.2
  exact ⟨fun m hm => ⟨(h1 m hm).1, (h1 m hm).2.2.1, (h1 m hm).2.2.2⟩, h2, h3⟩
theorem kept {d : De} (h : isD d = true) {m : Mem} (hm : m ∈ d.ms) : hasM m.2 d.ms = some m := hasM_mem (isD_parts h).2.1 hm
end Go.Proofs.YtkpakiiijphjeaaGreatDoor.Ds
