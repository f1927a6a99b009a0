/-
  THE PLAIN MATHEMATICS OF PACKAGE desc, of no program: descriptors, whether they may be, how they change, their texts and back. No condition.
  What the document says follows, of descriptors, reckoned without a program: what only rises, what comes back. No condition.
-/
import Derived.Test.YthcmnkmfhgoddaaGreatDoorKOrdA
namespace Go.Proofs.YthcmnkmfhgoddaaGreatDoor.Ds
open Go.Proofs.YthcmnkmfhgoddaaGreatDoor.O (Bd isB keyB hasB nextB)
open Go.Proofs.YthcmnkmfhgoddaaGreatDoor.M (tieT untieT untie_some untie_spec numT intT inR tieT_inj tie_prefix)
abbrev Text := List UInt8
abbrev Mem := Int × Int
structure De where
 id : Int
 f : ByteArray
 t : ByteArray
 gen : Int
 ms : List Mem
 next : Int
def De.zero : De := ⟨0, ⟨#[]⟩, ⟨#[]⟩, 0, [], 0⟩
def De.b (d : De) : Bd := ⟨d.f.toList, d.t.toList⟩
theorem ba_ext {a b : ByteArray} (h : a.toList = b.toList) : a = b := by
 rw [ByteArray.toList_eq, ByteArray.toList_eq] at h
 obtain ⟨⟨x⟩⟩ := a
 obtain ⟨⟨y⟩⟩ := b
 have h : x = y := h
 rw [h]
def idB (n : Int) : Bool := decide (1 <= n /\ n <= 1099511627776)
def nodeB (n : Int) : Bool := decide (1 <= n /\ n <= 7)
def mayGo (next : Int) : Int -> List Int -> List Mem -> Bool
 | _, _, [] => true
 | last, tk, m :: l => if nodeB m.1 = true /\ ¬ m.1 ∈ tk /\ last < m.2 /\ m.2 < next then mayGo next m.2 (m.1 :: tk) l else false
def mayB (next : Int) (l : List Mem) : Bool := decide (1 <= l.length /\ l.length <= 5) && mayGo next 0 [] l
def isD (d : De) : Bool := idB d.id && idB d.gen && idB d.next && isB d.b && mayB d.next d.ms
theorem isD_iff (d : De) : isD d = true ↔ idB d.id = true /\ idB d.gen = true /\ idB d.next = true /\ isB d.b = true /\ (1 <= d.ms.length /\ d.ms.length <= 5) /\ mayGo d.next 0 [] d.ms = true := by
 simp [isD, mayB, and_assoc]
theorem idB_iff (n : Int) : idB n = true ↔ 1 <= n /\ n <= 1099511627776 := by simp [idB]
theorem nodeB_iff (n : Int) : nodeB n = true ↔ 1 <= n /\ n <= 7 := by simp [nodeB]
theorem mayGo_iff (next : Int) : ∀ (l : List Mem) (last : Int) (tk : List Int), mayGo next last tk l = true ↔
  (∀ m ∈ l, nodeB m.1 = true /\ ¬ m.1 ∈ tk /\ last < m.2 /\ m.2 < next) /\ l.Pairwise (fun a b => a.2 < b.2) /\ (l.map (·.1)).Nodup
 | [], last, tk => by simp [mayGo]
 | m :: l, last, tk => by
  rw [mayGo]
  by_cases h : nodeB m.1 = true /\ ¬ m.1 ∈ tk /\ last < m.2 /\ m.2 < next
  ·rw [if_pos h, mayGo_iff next l m.2 (m.1 :: tk)]
   constructor
   ·rintro ⟨h1, h2, h3⟩
    refine ⟨?_, List.pairwise_cons.2 ⟨fun x hx => (h1 x hx).2.2.1, h2⟩, ?_⟩
    ·intro x hx
     rcases List.mem_cons.1 hx with rfl | hx
     ·exact h
     ·obtain ⟨g1, g2, g3, g4⟩ := h1 x hx
      exact ⟨g1, fun e => g2 (by simp [e]), by omega, g4⟩
    ·rw [List.map_cons, List.nodup_cons]
     refine ⟨?_, h3⟩
     intro hm
     obtain ⟨x, hx, e⟩ := List.mem_map.1 hm
     exact (h1 x hx).2.1 (by simp [e])
   ·rintro ⟨h1, h2, h3⟩
    rw [List.pairwise_cons] at h2
    rw [List.map_cons, List.nodup_cons] at h3
    refine ⟨fun x hx => ?_, h2.2, h3.2⟩
    obtain ⟨g1, g2, g3, g4⟩ := h1 x (by simp [hx])
    refine ⟨g1, ?_, h2.1 x hx, g4⟩
    intro e
    rcases List.mem_cons.1 e with e | e
    ·exact h3.1 (List.mem_map.2 ⟨x, hx, e⟩)
    ·exact g2 e
  ·rw [if_neg h]
   constructor
   ·intro e; simp at e
   ·rintro ⟨h1, _, _⟩
    exact absurd (h1 m (by simp)) h
def hasM (i : Int) : List Mem -> Option Mem
 | [] => none
 | m :: l => if m.2 = i then some m else hasM i l
theorem hasM_mem : ∀ {l : List Mem} {m : Mem}, l.Pairwise (fun a b => a.2 < b.2) -> m ∈ l -> hasM m.2 l = some m
 | x :: l, m, hp, hm => by
  rw [List.pairwise_cons] at hp
  rw [hasM]
  rcases List.mem_cons.1 hm with rfl | hm
  ·rw [if_pos rfl]
  ·rw [if_neg (by have := hp.1 m hm; omega)]
   exact hasM_mem hp.2 hm
def okD (d : De) : De × Int := if isD d = true then (d, 0) else (De.zero, 60)
def cutsB (b : Bd) (k : Text) : Bool := isB b && keyB k && hasB b k && !decide (k = b.f)
def splitD (d : De) (k : ByteArray) (n : Int) : De × De × Int :=
 if isD d = true then
  if cutsB d.b k.toList = true then
   if n <= d.id then (De.zero, De.zero, 2)
   else if isD { d with t := k, gen := d.gen + 1 } = true /\ isD { d with f := k, gen := d.gen + 1, id := n } = true then
    ({ d with t := k, gen := d.gen + 1 }, { d with f := k, gen := d.gen + 1, id := n }, 0)
   else (De.zero, De.zero, 60)
  else (De.zero, De.zero, 20)
 else (De.zero, De.zero, 60)
def mergeD (l r : De) : De × Int :=
 if isD l = true /\ isD r = true then
  if nextB l.b r.b = true then
   if l.id = r.id then (De.zero, 2) else okD { l with t := r.t, gen := max l.gen r.gen + 1 }
  else (De.zero, 20)
 else (De.zero, 60)
def sameD (a b : De) : Bool := decide (a.id = b.id /\ a.f = b.f /\ a.t = b.t /\ a.gen = b.gen /\ a.next = b.next /\ a.ms = b.ms)
theorem sameD_iff (a b : De) : sameD a b = true ↔ a = b := by
 unfold sameD
 obtain ⟨a1, a2, a3, a4, a5, a6⟩ := a
 obtain ⟨b1, b2, b3, b4, b5, b6⟩ := b
 rw [decide_eq_true_eq]
 constructor
 ·rintro ⟨h1, h2, h3, h4, h5, h6⟩
  simp only at h1 h2 h3 h4 h5 h6
  subst h1 h2 h3 h4 h5 h6
  rfl
 ·intro h
  injection h with h1 h2 h3 h4 h5 h6
  exact ⟨h1, h2, h3, h4, h6, h5⟩
def memT (m : Mem) : List Text := [numT m.1, numT m.2]
def memsT (l : List Mem) : List Text := (l.map memT).flatten
def strandsT (d : De) : List Text := [numT d.id, d.f.toList, d.t.toList, numT d.gen, numT d.next] ++ memsT d.ms
def putT (d : De) : Text := tieT (strandsT d)
theorem memsT_cons (m : Mem) (l : List Mem) : memsT (m :: l) = numT m.1 :: numT m.2 :: memsT l := rfl
theorem memsT_length : ∀ l : List Mem, (memsT l).length = l.length * 2
 | [] => rfl
 | m :: l => by rw [memsT_cons]; simp [memsT_length l]; omega
theorem memsT_inj : ∀ {a b : List Mem}, memsT a = memsT b -> a = b
 | [], [], _ => rfl
 | [], m :: b, h => by rw [memsT_cons] at h; simp [memsT] at h
 | m :: a, [], h => by rw [memsT_cons] at h; simp [memsT] at h
 | m :: a, n :: b, h => by
  rw [memsT_cons, memsT_cons] at h
  injection h with h1 h2
  injection h2 with h2 h3
  obtain ⟨m1, m2⟩ := m
  obtain ⟨n1, n2⟩ := n
  rw [show m1 = n1 from M.numT_inj h1, show m2 = n2 from M.numT_inj h2, memsT_inj h3]
theorem putT_inj {a b : De} (h : putT a = putT b) : a = b := by
 have h := tieT_inj h
 unfold strandsT at h
 simp only [List.cons_append, List.nil_append] at h
 injection h with h1 h
 injection h with h2 h
 injection h with h3 h
 injection h with h4 h
 injection h with h5 h
 cases a; cases b
 simp only at h1 h2 h3 h4 h5 h
 rw [M.numT_inj h1, ba_ext h2, ba_ext h3, M.numT_inj h4, M.numT_inj h5, memsT_inj h]
def intsOf : List Text -> Option (List Int)
 | [] => some []
 | x :: l => match intT x, intsOf l with
  | some n, some r => some (n :: r)
  | _, _ => none
theorem intsOf_some {x : Text} {n : Int} {l : List Text} {r : List Int} (h : intT x = some n) (hl : intsOf l = some r) : intsOf (x :: l) = some (n :: r) := by rw [intsOf, h, hl]
theorem intsOf_none {x : Text} {l : List Text} (h : intT x = none) : intsOf (x :: l) = none := by rw [intsOf, h]
theorem intsOf_none' {x : Text} {l : List Text} (h : intsOf l = none) : intsOf (x :: l) = none := by rw [intsOf, h]; cases intT x <;> rfl
theorem intsOf_snoc : ∀ {a : List Text} {x : Text}, intsOf (a ++ [x]) = (match intsOf a, intT x with | some r, some n => some (r ++ [n]) | _, _ => none)
 | [], x => by cases h : intT x <;> simp [intsOf, h]
 | y :: a, x => by
  rw [List.cons_append, intsOf, intsOf_snoc (a := a) (x := x), intsOf]
  cases intT y <;> cases intsOf a <;> cases intT x <;> simp
theorem intsOf_length : ∀ {a : List Text} {r : List Int}, intsOf a = some r -> r.length = a.length
 | [], r, h => by simp [intsOf] at h; simp [<- h]
 | y :: a, r, h => by
  rw [intsOf] at h
  cases h1 : intT y with
  | none => rw [h1] at h; simp at h
  | some n =>
   cases h2 : intsOf a with
   | none => rw [h1, h2] at h; simp at h
   | some q => rw [h1, h2] at h; simp at h; rw [<- h]; simp [intsOf_length h2]
theorem intsOf_bad {a b : List Text} {x : Text} (h : intT x = none) : intsOf (a ++ x :: b) = none := by
 induction a with
 | nil => exact intsOf_none h
 | cons y a ih => rw [List.cons_append]; exact intsOf_none' ih
def pairsI : List Int -> Option (List Mem)
 | [] => some []
 | [_] => none
 | a :: b :: l => if nodeB a = true then (match pairsI l with | some r => some ((a, b) :: r) | none => none) else none
def parseL : List Text -> Option De
 | a :: f :: t :: g :: n :: tl =>
  match intT a, intT g, intT n, intsOf tl with
  | some a, some g, some n, some q => (match pairsI q with | some ms => some ⟨a, ⟨f.toArray⟩, ⟨t.toArray⟩, g, ms, n⟩ | none => none)
  | _, _, _, _ => none
 | _ => none
noncomputable def parseD (s : Text) : De × Int := match untieT s with
 | some l => (match parseL l with | some d => okD d | none => (De.zero, 60))
 | none => (De.zero, 60)
theorem pairsI_odd : ∀ (l : List Int), l.length % 2 = 1 -> pairsI l = none
 | [], h => by simp at h
 | [_], _ => rfl
 | a :: b :: l, h => by
  rw [pairsI, pairsI_odd l (by simp at h; omega)]
  simp
theorem pairsI_length : ∀ {l : List Int} {r : List Mem}, pairsI l = some r -> l.length = r.length * 2
 | [], r, h => by simp [pairsI] at h; simp [h]
 | [_], r, h => by simp [pairsI] at h
 | a :: b :: l, r, h => by
  rw [pairsI] at h
  by_cases hn : nodeB a = true
  ·rw [if_pos hn] at h
   cases h1 : pairsI l with
   | none => rw [h1] at h; simp at h
   | some q => rw [h1] at h; simp at h; rw [<- h]; simp [pairsI_length h1]; omega
  ·rw [if_neg hn] at h; simp at h
theorem intsOf_mems : ∀ {l : List Mem}, (∀ m ∈ l, inR m.1 /\ inR m.2) -> ∃ q, intsOf (memsT l) = some q /\ ((∀ m ∈ l, nodeB m.1 = true) -> pairsI q = some l) /\ (¬ (∀ m ∈ l, nodeB m.1 = true) -> pairsI q = none)
 | [], _ => ⟨[], rfl, fun _ => rfl, fun h => absurd (fun m hm => by simp at hm) h⟩
 | m :: l, h => by
  obtain ⟨q, h1, h2, h3⟩ := intsOf_mems (l := l) (fun x hx => h x (by simp [hx]))
  have hm := h m (by simp)
  refine ⟨m.1 :: m.2 :: q, ?_, ?_, ?_⟩
  ·rw [memsT_cons]
   exact intsOf_some (M.intT_some hm.1 rfl) (intsOf_some (M.intT_some hm.2 rfl) h1)
  ·intro ha
   rw [pairsI, if_pos (ha m (by simp)), h2 (fun x hx => ha x (by simp [hx]))]
  ·intro ha
   rw [pairsI]
   by_cases hn : nodeB m.1 = true
   ·rw [if_pos hn, h3]
    intro hh
    apply ha
    intro x hx
    rcases List.mem_cons.1 hx with rfl | hx
    ·exact hn
    ·exact hh x hx
   ·rw [if_neg hn]
structure InR (d : De) : Prop where
 id : inR d.id
 gen : inR d.gen
 next : inR d.next
 ms : ∀ m ∈ d.ms, inR m.1 /\ inR m.2
theorem ba_toList (b : ByteArray) : (⟨b.toList.toArray⟩ : ByteArray) = b := by
 rw [ByteArray.toList_eq]
theorem parseL_strands {d : De} (h : InR d) : (∀ x, parseL (strandsT d) = some x -> x = d) /\ ((∀ m ∈ d.ms, nodeB m.1 = true) -> parseL (strandsT d) = some d) /\ (isD d = true -> ∀ m ∈ d.ms, nodeB m.1 = true) := by
 obtain ⟨q, h1, h2, h3⟩ := intsOf_mems h.ms
 have e1 := M.intT_some h.id rfl
 have e2 := M.intT_some h.gen rfl
 have e3 := M.intT_some h.next rfl
 have e : parseL (strandsT d) = (match pairsI q with | some ms => some ⟨d.id, d.f, d.t, d.gen, ms, d.next⟩ | none => none) := by
  unfold strandsT
  simp only [List.cons_append, List.nil_append, parseL, e1, e2, e3, h1, ba_toList]
 have hy : (∀ m ∈ d.ms, nodeB m.1 = true) -> parseL (strandsT d) = some d := by
  intro ha; rw [e, h2 ha]
 refine ⟨?_, hy, ?_⟩
 ·intro x hx
  by_cases ha : ∀ m ∈ d.ms, nodeB m.1 = true
  ·rw [hy ha] at hx; exact (Option.some.inj hx).symm
  ·rw [e, h3 ha] at hx; simp at hx
 ·intro hI m hm
  exact (((mayGo_iff _ _ _ _).1 ((isD_iff d).1 hI).2.2.2.2.2).1 m hm).1
theorem parse_put {d : De} (h : InR d) (hl : d.ms.length <= 2000) (hs : (putT d).length <= 1048576) : parseD (putT d) = okD d := by
 have hlen : (strandsT d).length <= 4096 := by unfold strandsT; rw [List.length_append, memsT_length]; simp; omega
 have hu : untieT (putT d) = some (strandsT d) := untie_some rfl hlen hs
 obtain ⟨h1, h2, h3⟩ := parseL_strands h
 unfold parseD
 rw [hu]
 simp only
 by_cases hI : isD d = true
 ·rw [h2 (h3 hI)]
 ·cases e : parseL (strandsT d) with
  | none => unfold okD; rw [if_neg hI]
  | some x => rw [h1 x e]
theorem okD_is {d : De} (h : isD d = true) : okD d = (d, 0) := if_pos h
theorem okD_spec {d x : De} (h : okD d = (x, 0)) : isD d = true /\ x = d := by
 unfold okD at h
 by_cases hI : isD d = true
 ·rw [if_pos hI] at h; exact ⟨hI, (Prod.ext_iff.1 h).1.symm⟩
 ·rw [if_neg hI] at h; have := (Prod.ext_iff.1 h).2; simp at this
end Go.Proofs.YthcmnkmfhgoddaaGreatDoor.Ds

namespace Go.Proofs.YthcmnkmfhgoddaaGreatDoor.Ds
open Go.Proofs.YthcmnkmfhgoddaaGreatDoor.O (Bd isB keyB hasB nextB)
theorem isD_parts {d : De} (h : isD d = true) : (∀ m ∈ d.ms, nodeB m.1 = true /\ 0 < m.2 /\ m.2 < d.next) /\ d.ms.Pairwise (fun a b => a.2 < b.2) /\ (d.ms.map (·.1)).Nodup := by
 obtain ⟨h1, h2, h3⟩ := (mayGo_iff _ _ _ _).1 ((isD_iff d).1 h).2.2.2.2.2
 exact ⟨fun m hm => ⟨(h1 m hm).1, (h1 m hm).2.2.1, (h1 m hm).2.2.2⟩, h2, h3⟩
theorem kept {d : De} (h : isD d = true) {m : Mem} (hm : m ∈ d.ms) : hasM m.2 d.ms = some m := hasM_mem (isD_parts h).2.1 hm
theorem split_spec {d x y : De} {k : ByteArray} {n : Int} (h : splitD d k n = (x, y, 0)) : isD d = true /\ cutsB d.b k.toList = true /\ d.id < n /\ isD x = true /\ isD y = true /\ x = { d with t := k, gen := d.gen + 1 } /\ y = { d with f := k, gen := d.gen + 1, id := n } := by
 unfold splitD at h
 by_cases hd : isD d = true
 ·rw [if_pos hd] at h
  by_cases h1 : cutsB d.b k.toList = true
  ·rw [if_pos h1] at h
   by_cases h2 : n <= d.id
   ·rw [if_pos h2] at h; have := (Prod.ext_iff.1 (Prod.ext_iff.1 h).2).2; simp at this
   ·rw [if_neg h2] at h
    by_cases h3 : isD { d with t := k, gen := d.gen + 1 } = true /\ isD { d with f := k, gen := d.gen + 1, id := n } = true
    ·rw [if_pos h3] at h
     have e1 := (Prod.ext_iff.1 h).1
     have e2 := (Prod.ext_iff.1 (Prod.ext_iff.1 h).2).1
     simp only at e1 e2
     subst e1 e2
     exact ⟨hd, h1, by omega, h3.1, h3.2, rfl, rfl⟩
    ·rw [if_neg h3] at h; have := (Prod.ext_iff.1 (Prod.ext_iff.1 h).2).2; simp at this
  ·rw [if_neg h1] at h; have := (Prod.ext_iff.1 (Prod.ext_iff.1 h).2).2; simp at this
 ·rw [if_neg hd] at h; have := (Prod.ext_iff.1 (Prod.ext_iff.1 h).2).2; simp at this
end Go.Proofs.YthcmnkmfhgoddaaGreatDoor.Ds
