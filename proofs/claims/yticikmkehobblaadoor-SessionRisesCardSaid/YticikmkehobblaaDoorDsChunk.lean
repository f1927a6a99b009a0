/-
  slices.Chunk at numbers, by twos, and members: the members whose strands these are. Condition: at most 10,000 texts.
-/
import Derived.RangeFuncBox
import Derived.RangeFuncLeaves
import Derived.RangeFuncNested
import Derived.RangeFuncWrites
import Derived.Shelf.Abstract
import Derived.WalkKit
import Derived.OwnWalkIn
import Derived.TacticsInMore
import Derived.LoopNIn
import Derived.LoopIn
import Derived.Test.YticikmkehobblaaDoorDsPNA
import Derived.Test.YticikmkehobblaaDoorRegA
import Derived.Lib.MinMax
namespace Go.Proofs.YticikmkehobblaaDoor.Ds
open Go.RowKit Bnd
open Go.Proofs.YticikmkehobblaaDoor.M (numT inR tieT intT)
attribute [local go_sem] Oper.semAt_some

/-- a chunk's number -/
abbrev Ix (m : Nat) := { j : Nat // j < m }
def chunkV (b off : Nat) (j : Nat) : Value := .slice (some ⟨b, off + j * 2, none⟩) 2 2
theorem vals_snoc {m k : Nat} {pre : List (Ix m)} (h : pre.map (·.1) = List.range k) (hk : k < m) : (pre ++ [(⟨k, hk⟩ : Ix m)]).map (·.1) = List.range (k + 1) := by
  rw [List.map_append, h, List.range_succ]; rfl
theorem vals_length {m k : Nat} {pre : List (Ix m)} (h : pre.map (·.1) = List.range k) : pre.length = k := by
  have := congrArg List.length h
  simpa using this

/-- what a round keeps: the iterator's two boxes -/
def KpC (B0 B1 : Nat) (W W' : World) : Prop := W'.cell? ⟨B0, 0, none⟩ = W.cell? ⟨B0, 0, none⟩ ∧ W'.cell? ⟨B1, 0, none⟩ = W.cell? ⟨B1, 0, none⟩
theorem kpC_t {B0 B1 : Nat} {A B C : World} (h : KpC B0 B1 A B) (k : KpC B0 B1 B C) : KpC B0 B1 A C := ⟨k.1.trans h.1, k.2.trans h.2⟩
theorem kpC_b {B0 B1 : Nat} {w : World} (h0 : B0 < w.heap.size) (h1 : B1 < w.heap.size) (W : World) (l : Nat) (o o' : Obj) (hl : w.heap.size ≤ l) (h : W.heap[l]? = some o) (_ : o.isCells = false) (_ : o.isWalk = false) : KpC B0 B1 W (W.putObj l o') := by
  have hb : Below w.heap.size W (W.putObj l o') := (Below.refl _ W).grown (grownBy_putObj' W l o') (by have := (Array.getElem?_eq_some_iff.1 h).1; omega) (fun k e => by cases e; omega)
  exact ⟨hb.cell (p := ⟨B0, 0, none⟩) h0, hb.cell (p := ⟨B1, 0, none⟩) h1⟩

/-- the members, two numbers each -/
def fM (q : List Int) (j : Nat) : Mem := (q.getD (j * 2) 0, q.getD (j * 2 + 1) 0)
theorem fM_succ (a b : Int) (l : List Int) (j : Nat) : fM (a :: b :: l) (j + 1) = fM l j := by
  unfold fM
  rw [show (j + 1) * 2 = j * 2 + 1 + 1 by omega]
  rfl
theorem pairsI_all : ∀ (m : Nat) (q : List Int), q.length = m * 2 → (∀ j, j < m → nodeB (fM q j).1 = true) → pairsI q = some ((List.range m).map (fM q))
  | 0, q, h, _ => by
    obtain rfl := List.length_eq_zero_iff.1 (by omega : q.length = 0)
    rfl
  | m + 1, [], h, _ => by simp at h
  | m + 1, [_], h, _ => by simp at h; omega
  | m + 1, a :: b :: l, h, ha => by
    have hl : l.length = m * 2 := by simp at h; omega
    have h0 : nodeB a = true := ha 0 (by omega)
    have ih := pairsI_all m l hl (fun j hj => by have := ha (j + 1) (by omega); rwa [fM_succ] at this)
    rw [pairsI, if_pos h0, ih, List.range_succ_eq_map]
    simp only [List.map_cons, List.map_map]
    congr 2
    apply List.map_congr_left
    intro j _
    exact (fM_succ a b l j).symm
theorem pairsI_bad : ∀ (m : Nat) (q : List Int), q.length = m * 2 → (∃ j, j < m ∧ nodeB (fM q j).1 = false) → pairsI q = none
  | 0, q, h, hx => by obtain ⟨j, hj, _⟩ := hx; omega
  | m + 1, [], h, _ => by simp at h
  | m + 1, [_], h, _ => by simp at h; omega
  | m + 1, a :: b :: l, h, hx => by
    have hl : l.length = m * 2 := by simp at h; omega
    rw [pairsI]
    by_cases h0 : nodeB a = true
    · rw [if_pos h0]
      obtain ⟨j, hj, hn⟩ := hx
      cases j with
      | zero => rw [show fM (a :: b :: l) 0 = (a, b) from rfl] at hn; rw [h0] at hn; cases hn
      | succ j => rw [fM_succ] at hn; rw [pairsI_bad m l hl ⟨j, by omega, hn⟩]
    · rw [if_neg h0]

end Go.Proofs.YticikmkehobblaaDoor.Ds
