/-
  A descriptor's box that is written again while members are held. No condition.
-/
import Derived.Test.YthglghlkchhjlaaDoorDsSplit
namespace Go.Proofs.YthglghlkchhjlaaDoor.Ds
open Go.RowKit Bnd

/-- a descriptor's box, and nothing behind it -/
def BoxE (n : Nat) (d : De) (s : Value) (w : World) : Prop := BoxD n d s w ∧ ∀ o, 6 ≤ o → w.cell? ⟨n, o, none⟩ = none
theorem BoxE.keep {n : Nat} {d : De} {s : Value} {w1 w2 : World} (h : BoxE n d s w1) (hb : Below w1.heap.size w1 w2) : BoxE n d s w2 :=
  ⟨h.1.keep hb, fun o ho => by rw [hb.cell (p := ⟨n, o, none⟩) h.1.1]; exact h.2 o ho⟩
theorem BoxE.alloc {n : Nat} {d : De} {s : Value} {w1 : World} (h : BoxE n d s w1) (o : Obj) : BoxE n d s (w1.alloc o) :=
  h.keep ((Below.refl _ w1).alloc (Nat.le_refl _) o)
theorem BoxE.new (w : World) (d : De) (s : Value) : BoxE w.heap.size d s (w.alloc (.cells #[.int .i64 d.id, .string d.f, .string d.t, .int .i64 d.gen, s, .int .i64 d.next] 26)) := by
  refine ⟨BoxD.new w d s, fun o ho => ?_⟩
  rw [World.cell?_alloc_new]
  match o, ho with
  | o + 6, _ => rfl
theorem BoxE.put {n : Nat} {d0 : De} {s0 : Value} {w1 : World} (h : BoxE n d0 s0 w1) (d : De) (s : Value) : BoxE n d s (putW w1 n d s) := by
  refine ⟨h.1.put d s, fun o ho => ?_⟩
  have e : ∀ (w : World) (j : Nat) (u : Value), j < 6 → (w.setCell ⟨n, j, none⟩ u).cell? ⟨n, o, none⟩ = w.cell? ⟨n, o, none⟩ := by
    intro w j u hj
    simp [go_sem]
  unfold putW
  rw [e _ _ _ (by decide), e _ _ _ (by decide), e _ _ _ (by decide), e _ _ _ (by decide), e _ _ _ (by decide), e _ _ _ (by decide)]
  exact h.2 o ho
/-- two integers never stand in it one behind the other -/
theorem BoxE.no_pair {n : Nat} {d : De} {s : Value} {w : World} (h : BoxE n d s w) {o : Nat} {x y : Int} (h1 : w.cell? ⟨n, o, none⟩ = some (.int .i64 x)) (h2 : w.cell? ⟨n, o + 1, none⟩ = some (.int .i64 y)) (hs : ∃ A l c, s = .slice A l c) : False := by
  obtain ⟨⟨_, ⟨c1, c2, c3, c4, c5, c6⟩, _⟩, hn⟩ := h
  obtain ⟨A, l, c, rfl⟩ := hs
  match o, h1, h2 with
  | 0, h1, h2 => rw [c2] at h2; cases h2
  | 1, h1, h2 => rw [c2] at h1; cases h1
  | 2, h1, h2 => rw [c3] at h1; cases h1
  | 3, h1, h2 => rw [c5] at h2; cases h2
  | 4, h1, h2 => rw [c5] at h1; cases h1
  | 5, h1, h2 => rw [hn 6 (by omega)] at h2; cases h2
  | o + 6, h1, h2 => rw [hn (o + 6) (by omega)] at h1; cases h1
theorem putW_far {w : World} {n : Nat} {d : De} {s : Value} {p : Addr} (hp : p.block ≠ n) : (putW w n d s).cell? p = w.cell? p := by
  unfold putW
  rw [World.cell?_setCell_far _ _ _ _ (fun e => hp e.symm), World.cell?_setCell_far _ _ _ _ (fun e => hp e.symm), World.cell?_setCell_far _ _ _ _ (fun e => hp e.symm), World.cell?_setCell_far _ _ _ _ (fun e => hp e.symm), World.cell?_setCell_far _ _ _ _ (fun e => hp e.symm), World.cell?_setCell_far _ _ _ _ (fun e => hp e.symm)]
theorem putW_size (w : World) (n : Nat) (d : De) (s : Value) : (putW w n d s).heap.size = w.heap.size := by unfold putW; simp
/-- members that are held stay, while a box is written -/
theorem BoxE.put_arg {n : Nat} {d0 d : De} {s0 s v : Value} {w : World} {ms : List Mem} (h : BoxE n d0 s0 w) (hs : ∃ A l c, s0 = .slice A l c) (ha : ArgM w v ms) : ArgM (putW w n d s) v ms := by
  cases ha with
  | nil => exact .nil
  | empty a c => exact .empty a c
  | some b o c ms hm =>
    refine .some b o c ms ?_
    obtain ⟨A', c', hv, hc⟩ := hm
    refine ⟨A', c', hv, fun h0 => ?_⟩
    obtain ⟨b', o', e, hb, hcc⟩ := hc h0
    refine ⟨b', o', e, by rw [putW_size]; exact hb, fun i hi => ?_⟩
    obtain ⟨g1, g2⟩ := hcc i hi
    have hne : b' ≠ n := fun e => by subst e; exact h.no_pair g1 g2 hs
    rw [putW_far (p := ⟨b', o' + i * 2, none⟩) hne, putW_far (p := ⟨b', o' + i * 2 + 1, none⟩) hne]
    exact ⟨g1, g2⟩
end Go.Proofs.YthglghlkchhjlaaDoor.Ds
