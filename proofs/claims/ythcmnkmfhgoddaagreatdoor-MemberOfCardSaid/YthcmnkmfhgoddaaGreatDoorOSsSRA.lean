/-
  The document's set: a session in the place of an earlier one. Conditions: sessions without pairs, at most 100,000.
  The document's word on whether sessions may be: one, Is. Conditions: lengths at most 2^47.
  The document's Note and Merge. Conditions: sessions without pairs, at most 5,000.
-/
import Derived.Test.YthcmnkmfhgoddaaGreatDoorOSsBFA
import Derived.Test.YthcmnkmfhgoddaaGreatDoorORegA
import Derived.Test.YthcmnkmfhgoddaaGreatDoorODsPNA
import Derived.Test.YthcmnkmfhgoddaaGreatDoorOSsBoA
import Derived.Test.YthcmnkmfhgoddaaGreatDoorOSfA
namespace Go.Proofs.YthcmnkmfhgoddaaGreatDoor.Ss
open Go.RowKit Bnd
open Go.Proofs.YthcmnkmfhgoddaaGreatDoor.Od (Rep SP ArgP OwnP rv BoxR)
open Ds (run_append2)
structure RW (W : World) (xs : List Zs) (z : Zs) (ys : List Zs) (L : Nat → Bool) (u : Nat → Value) (wx : World) : Prop where
  b : Below W.heap.size W wx
  o0 : L 0 = true → L 4 = false → ∃ h : Nat, u 0 = .slice (some ⟨h, 0, none⟩) 0 0 ∧ OwnZ wx W.heap.size (u 0) [] ∧ h < wx.heap.size ∧ (L 6 = true → u 6 ≠ .slice (some ⟨h, 0, none⟩) 1 1)
  o4 : L 4 = true → L 7 = false → OwnZ wx W.heap.size (u 4) xs
  o6 : L 6 = true → L 7 = false → ∃ g : Nat, u 6 = .slice (some ⟨g, 0, none⟩) 1 1 ∧ g < wx.heap.size ∧ Cs wx g (0 + 0 * 7) z
  o7 : L 7 = true → L 9 = false → OwnZ wx W.heap.size (u 7) (xs ++ [z])
  o9 : L 9 = true → OwnZ wx W.heap.size (u 9) (xs ++ [z] ++ ys)
theorem RW.made {W wx : World} {xs ys : List Zs} {z : Zs} {L : Nat → Bool} {u : Nat → Value} (h : RW W xs z ys L u wx) (h4 : L 4 = false) (h7 : L 7 = false) (h9 : L 9 = false) :
    RW W xs z ys (St.mark L 0) (St.upd u 0 (.slice (some ⟨wx.heap.size, 0, none⟩) 0 0)) (wx.alloc (.cells #[] 89)) := by
  have hz := h.b.size
  refine ⟨h.b.alloc hz _, fun _ _ => ⟨wx.heap.size, rfl, ownZ_base (ownZ_empty wx) hz, by simp, fun h6 e => ?_⟩, fun h' => ?_, fun h6 _ => ?_, fun h' => ?_, fun h' => ?_⟩
  · have h6 : L 6 = true := h6
    obtain ⟨g, g1, g2, _⟩ := h.o6 h6 h7
    have e : u 6 = .slice (some ⟨wx.heap.size, 0, none⟩) 1 1 := e
    rw [g1] at e
    injection e with e _ _
    injection e with e
    injection e with e _ _
    omega
  · rw [show St.mark L 0 4 = L 4 from rfl, h4] at h'; cases h'
  · have h6 : L 6 = true := h6
    obtain ⟨g, g1, g2, g3⟩ := h.o6 h6 h7
    exact ⟨g, g1, by simp; omega, g3.keep fun i => World.cell?_alloc_lt wx _ ⟨g, i, none⟩ g2⟩
  · rw [show St.mark L 0 7 = L 7 from rfl, h7] at h'; cases h'
  · rw [show St.mark L 0 9 = L 9 from rfl, h9] at h'; cases h'
theorem RW.one {W wx : World} {xs ys : List Zs} {z : Zs} {L : Nat → Bool} {u : Nat → Value} (h : RW W xs z ys L u wx) (h7 : L 7 = false) (h9 : L 9 = false) :
    RW W xs z ys (St.mark L 6) (St.upd u 6 (.slice (some ⟨wx.heap.size, 0, none⟩) 1 1)) (wx.alloc (.cells #[.int .i64 z.1.client, .int .i64 z.1.seq, .int .i64 z.1.rep.code, .int .i64 z.1.rep.err, .bool z.1.rep.has, .string z.1.rep.val, z.2] 89)) := by
  have hz := h.b.size
  refine ⟨h.b.alloc hz _, fun h0 h4 => ?_, fun h4 _ => ownZ_alloc (h.o4 h4 h7) _, fun _ _ => ⟨wx.heap.size, rfl, by simp, ?_⟩, fun h' => ?_, fun h' => ?_⟩
  · obtain ⟨g, g1, g2, g3, _⟩ := h.o0 h0 h4
    refine ⟨g, g1, ownZ_alloc g2 _, by simp; omega, fun _ e => ?_⟩
    have e : (Value.slice (some ⟨wx.heap.size, 0, none⟩) 1 1) = .slice (some ⟨g, 0, none⟩) 1 1 := e
    injection e with e _ _
    injection e with e
    injection e with e _ _
    omega
  · exact ⟨by simp, by simp, by simp, by simp, by simp, by simp, by simp⟩
  · rw [show St.mark L 6 7 = L 7 from rfl, h7] at h'; cases h'
  · rw [show St.mark L 6 9 = L 9 from rfl, h9] at h'; cases h'
theorem RW.app {W wx : World} {xs ys : List Zs} {z : Zs} {L : Nat → Bool} {u : Nat → Value} (h : RW W xs z ys L u wx) (h0 : L 0 = true) (h4 : L 4 = false) (h7 : L 7 = false) (h9 : L 9 = false)
    {v : Value} (hv : ArgZ W v xs) (hone : ∀ z ∈ xs, z.2.oneCell' = true) (hl : xs.length ≤ 100000) (ty : TypeId) :
    ∃ v' w', (∃ A c, v' = .slice A xs.length c) ∧ (Builtin.append_ #[35, 35] ty #[u 0, v]).run Tryz.prog wx = .ok v' w' ∧ RW W xs z ys (St.mark L 4) (St.upd u 4 v') w' := by
  have hz := h.b.size
  obtain ⟨q, q1, q2, q3, q4⟩ := h.o0 h0 h4
  obtain ⟨v', w', k1, k2, k3, k4⟩ := run_append_arg q2 hz (hv.keep h.b) hone (by simp; omega) ty
  rw [List.nil_append] at k2
  refine ⟨v', w', (SZ.of_own k2).form, k1, h.b.trans k3, fun _ h' => (by simp [St.mark] at h'), fun _ _ => k2, fun h6 _ => ?_, fun h' => ?_, fun h' => ?_⟩
  · have h6 : L 6 = true := h6
    obtain ⟨g, g1, g2, g3⟩ := h.o6 h6 h7
    have hne : (u 0).ownBlock ≠ some g := by
      intro e
      rw [q1] at e
      have e' : q = g := by simpa [Value.ownBlock] using e
      exact q4 h6 (by rw [g1, e'])
    exact ⟨g, g1, Nat.lt_of_lt_of_le g2 k4.size, g3.keep fun i => World.cell?_of_block (a := ⟨g, i, none⟩) (k4.block g g2 (fun e => hne e.symm))⟩
  · rw [show St.mark L 4 7 = L 7 from rfl, h7] at h'; cases h'
  · rw [show St.mark L 4 9 = L 9 from rfl, h9] at h'; cases h'
theorem RW.app2 {W wx : World} {xs ys : List Zs} {z : Zs} {L : Nat → Bool} {u : Nat → Value} (h : RW W xs z ys L u wx) (h4 : L 4 = true) (h6 : L 6 = true) (h7 : L 7 = false) (h9 : L 9 = false) (hone : z.2.oneCell' = true) (hl : xs.length ≤ 100000) (ty : TypeId) :
    ∃ v' w', (∃ A c, v' = .slice A (xs.length + 1) c) ∧ (Builtin.append_ #[35, 35] ty #[u 4, u 6]).run Tryz.prog wx = .ok v' w' ∧ RW W xs z ys (St.mark L 7) (St.upd u 7 v') w' := by
  have hz := h.b.size
  have q3 := h.o4 h4 h7
  obtain ⟨g, g1, g2, g3⟩ := h.o6 h6 h7
  have ha : ArgZ wx (u 6) [z] := by
    rw [g1]
    refine .some g 0 1 [z] (Nat.le_refl _) ⟨_, _, rfl, fun _ => ⟨g, 0, rfl, g2, fun i hi => ?_⟩⟩
    match i, hi with
    | 0, _ => exact g3
  obtain ⟨v', w', k1, k2, k3, k4⟩ := run_append_arg q3 hz ha (fun y hy => by rw [List.mem_singleton] at hy; subst hy; exact hone) (by simp; omega) ty
  have hf := (SZ.of_own k2).form
  rw [List.length_append] at hf
  refine ⟨v', w', hf, k1, h.b.trans k3, fun _ h' => ?_, fun _ h' => (by simp [St.mark] at h'), fun _ h' => (by simp [St.mark] at h'), fun _ _ => k2, fun h' => ?_⟩
  · rw [show St.mark L 7 4 = L 4 from rfl, h4] at h'; cases h'
  · rw [show St.mark L 7 9 = L 9 from rfl, h9] at h'; cases h'
theorem NoP.take {k : Nat} {zs : List Zs} (h : NoP zs) : NoP (zs.take k) := fun z hz => h z (List.mem_of_mem_take hz)
theorem NoP.drop {k : Nat} {zs : List Zs} (h : NoP zs) : NoP (zs.drop k) := fun z hz => h z (List.mem_of_mem_drop hz)
theorem NoP.app {a b : List Zs} (h : NoP a) (h' : NoP b) : NoP (a ++ b) := fun z hz => by
  rcases List.mem_append.1 hz with hz | hz
  · exact h z hz
  · exact h' z hz
theorem NoP.one {zs : List Zs} (h : NoP zs) : ∀ z ∈ zs, z.2.oneCell' = true := fun z hz => by
  obtain ⟨_, A, c, e⟩ := h z hz
  rw [e]; rfl
end Go.Proofs.YthcmnkmfhgoddaaGreatDoor.Ss

namespace Go.Proofs.YthcmnkmfhgoddaaGreatDoor.Ss
open Go.RowKit Bnd
open Go.Proofs.YthcmnkmfhgoddaaGreatDoor.Od (Rep SP isR seqB amongB rv BoxR)
end Go.Proofs.YthcmnkmfhgoddaaGreatDoor.Ss

namespace Go.Proofs.YthcmnkmfhgoddaaGreatDoor.Ss
open Go.RowKit Bnd
open Go.Proofs.YthcmnkmfhgoddaaGreatDoor.Od (Rep SP ArgP OwnP rv BoxR)
def NoteOut (W : World) (o : List Ses × Int) (e : Ending) (w' : World) : Prop := ∃ v' zs', e = .returned (.tuple #[v', .int .i64 o.2]) ∧ ses zs' = o.1 ∧ ArgZ w' v' zs' ∧ NoP zs' ∧ Below W.heap.size W w'
theorem NoteOut.none {W w' : World} {n : Int} (h : Below W.heap.size W w') : NoteOut W ([], n) (.returned (.tuple #[.slice none 0 0, .int .i64 n])) w' := ⟨_, [], rfl, rfl, .nil, (fun z hz => by cases hz), h⟩
end Go.Proofs.YthcmnkmfhgoddaaGreatDoor.Ss
