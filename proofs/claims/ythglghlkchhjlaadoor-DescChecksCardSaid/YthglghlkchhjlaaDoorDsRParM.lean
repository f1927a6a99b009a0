/-
  How the document's Parse goes about, reckoned without a program: the numbers of the strands, one by one, and the members, two by two. No condition.
-/
import Derived.Test.YthglghlkchhjlaaDoorDsA
namespace Go.Proofs.YthglghlkchhjlaaDoor.Ds
open Go.Proofs.YthglghlkchhjlaaDoor.M (tieT untieT untie_some untie_spec numT intT inR tieT_inj tie_prefix)

/-- the numbers of strands from place i on: nothing is read at places 1 and 2 -/
def rintsOf : Nat → List Text → Option (List Int)
  | _, [] => some []
  | i, x :: l => if i = 1 ∨ i = 2 then (rintsOf (i + 1) l).map (0 :: ·) else
    match intT x, rintsOf (i + 1) l with
    | some n, some r => some (n :: r)
    | _, _ => none
theorem rintsOf_ge : ∀ (l : List Text) (i : Nat), 3 ≤ i → rintsOf i l = intsOf l
  | [], _, _ => rfl
  | x :: l, i, h => by
    rw [rintsOf, if_neg (by omega), rintsOf_ge l (i + 1) (by omega), intsOf]
    cases intT x <;> cases intsOf l <;> rfl
theorem rintsOf_cons (a f t g n : Text) (tl : List Text) : rintsOf 0 (a :: f :: t :: g :: n :: tl) =
    (match intT a, intT g, intT n, intsOf tl with | some a, some g, some n, some q => some (a :: 0 :: 0 :: g :: n :: q) | _, _, _, _ => none) := by
  rw [rintsOf, if_neg (by omega), rintsOf, if_pos (by omega), rintsOf, if_pos (by omega), rintsOf, if_neg (by omega), rintsOf, if_neg (by omega), rintsOf_ge tl _ (by omega)]
  cases intT a <;> cases intT g <;> cases intT n <;> cases intsOf tl <;> rfl
/-- what Parse answers, told by the numbers -/
def rok (f t : Text) : List Int → De × Int
  | a :: _ :: _ :: g :: n :: q => (match pairsI q with | some ms => okD ⟨a, ⟨f.toArray⟩, ⟨t.toArray⟩, g, ms, n⟩ | none => (De.zero, 60))
  | _ => (De.zero, 60)
theorem parseD_ints {s a f t g n : Text} {tl : List Text} (h : untieT s = some (a :: f :: t :: g :: n :: tl)) :
    parseD s = (match rintsOf 0 (a :: f :: t :: g :: n :: tl) with | some r => rok f t r | none => (De.zero, 60)) := by
  unfold parseD
  rw [h, rintsOf_cons]
  simp only [parseL]
  cases intT a <;> cases intT g <;> cases intT n <;> cases intsOf tl <;> try rfl
  rename_i q
  simp only [rok]
  cases pairsI q <;> rfl
/-- too few strands, or an even number of them: none -/
theorem parseD_odd {s : Text} {l : List Text} (h : untieT s = some l) (hl : l.length < 7 ∨ l.length % 2 = 0) : parseD s = (De.zero, 60) := by
  unfold parseD
  rw [h]
  simp only
  cases hp : parseL l with
  | none => rfl
  | some d =>
    simp only
    rcases hl with hl | hl
    · exact okD_no (by rw [parseL_few hl d hp]; simp)
    · exfalso
      rcases l with _ | ⟨a, _ | ⟨f, _ | ⟨t, _ | ⟨g, _ | ⟨n, tl⟩⟩⟩⟩⟩
      all_goals try (simp [parseL] at hp; done)
      rw [parseL] at hp
      cases h1 : intT a <;> cases h2 : intT g <;> cases h3 : intT n <;> cases h4 : intsOf tl <;> simp [h1, h2, h3, h4] at hp
      rename_i q
      have e1 := intsOf_length h4
      have e2 : pairsI q = none := pairsI_odd q (by simp at hl; omega)
      rw [e2] at hp
      simp at hp
/-- the members that stand ahead of place k of the pairs -/
theorem pairsI_take : ∀ (q : List Int) (k : Nat) (ms : List Mem), pairsI (q.take (k * 2)) = some ms → ∀ (h : k * 2 + 1 < q.length), nodeB (q[k * 2]) = true → pairsI (q.take ((k + 1) * 2)) = some (ms ++ [(q[k * 2], q[k * 2 + 1])])
  | a :: b :: q, 0, ms, hp, _, hn => by
    have : ms = [] := by simpa [pairsI] using hp.symm
    subst this
    have hn : nodeB a = true := hn
    simp [pairsI, hn]
  | a :: b :: q, k + 1, ms, hp, h, hn => by
    have e1 : (k + 1 + 1) * 2 = (k + 1) * 2 + 1 + 1 := by omega
    have e2 : (k + 1) * 2 = k * 2 + 1 + 1 := by omega
    rw [e2, List.take_succ_cons, List.take_succ_cons, pairsI] at hp
    rw [e1, List.take_succ_cons, List.take_succ_cons, pairsI]
    by_cases ha : nodeB a = true
    · rw [if_pos ha] at hp ⊢
      cases hq : pairsI (q.take (k * 2)) with
      | none => rw [hq] at hp; simp at hp
      | some r =>
        rw [hq] at hp
        have hm : (a, b) :: r = ms := by simpa using hp
        subst hm
        have := pairsI_take q k r hq (by simp at h; omega) (by simpa [e2] using hn)
        rw [this]
        simp [e2]
    · rw [if_neg ha] at hp; simp at hp
  | [], _, _, _, h, _ => by simp at h
  | [_], 0, _, _, h, _ => by simp at h
  | [_], _ + 1, _, _, h, _ => by simp at h
theorem pairsI_stop : ∀ (q : List Int) (k : Nat) (h : k * 2 + 1 < q.length), nodeB (q[k * 2]) = false → pairsI q = none
  | a :: b :: q, 0, _, hn => by
    have hn : nodeB a = false := hn
    rw [pairsI, if_neg (by simp [hn])]
  | a :: b :: q, k + 1, h, hn => by
    have e2 : (k + 1) * 2 = k * 2 + 1 + 1 := by omega
    rw [pairsI]
    by_cases ha : nodeB a = true
    · rw [if_pos ha, pairsI_stop q k (by simp at h; omega) (by simpa [e2] using hn)]
    · rw [if_neg ha]
  | [], _, h, _ => by simp at h
  | [_], 0, h, _ => by simp at h
  | [_], _ + 1, h, _ => by simp at h
end Go.Proofs.YthglghlkchhjlaaDoor.Ds
