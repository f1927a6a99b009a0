/-
  A new row of bytes out of a text, and back. No condition.
-/
import Derived.Test.YtdgnbiekklmafaaGreatDoorRlNil
import Derived.Lib.AtoiErrMem
namespace Go.Proofs.YtdgnbiekklmafaaGreatDoor.Rl
open Go.RowKit

structure NewRow (w w' : World) (t : ByteArray) (cap : Nat) : Prop where
  below : Below w.heap.size w w'
  cell : ∀ j, j < t.size → w'.cell? ⟨w.heap.size, j, none⟩ = some (.int .u8 ((t.data.toList.getD j 0).toNat : Int))
  frozen : ∀ j, j < t.size → w'.frozen? ⟨w.heap.size, j, none⟩ = false
  le : t.size ≤ cap
theorem new_row (w : World) (t : ByteArray) : ∃ (cap : Nat) (w' : World), (convert 9 61 (.string t)).run Tryz.prog w = .ok (.slice (some ⟨w.heap.size, 0, none⟩) t.size cap) w' ∧ NewRow w w' t cap := by
  refine ⟨grownCap w t.size 0 5, Lib.bytesWorld w 5 t, Lib.run_convert_string_bytes w 9 61 5 t Tryz.underlying9 Tryz.underlying61 Tryz.underlying5, Lib.bytesWorld_below w 5 t, fun j hj => Lib.bytesWorld_cell w 5 t j hj, fun j hj => ?_, grownCap_ge _ _ _ _⟩
  have h1 : t.size ≤ (Lib.bytesCells w 5 t).size := by simp [Lib.bytesCells]
  simp [World.frozen?, Lib.bytesWorld_at_new]
  omega

/-- A block that is not the reel's is written: the reel is as it was. -/
theorem RP.apart {b g : Nat} {m : M} {w : World} (h : RP b m w) (hn : ¬ Mine w b g) (j : Nat) (x : Value) : RP b m (w.setCell ⟨g, j, none⟩ x) := by
  obtain ⟨v0, v1, hb, h0, h1, hs⟩ := h
  have ne : ∀ k, Mine w b k → k ≠ g := fun k hk e => hn (by rw [← e]; exact hk)
  exact ⟨v0, v1, by rw [Below.heap_setCell _ _ _ _ (ne b (.inl rfl))]; exact hb, h0.keep fun k hk => Below.heap_setCell _ _ _ _ (ne k (mine0 hb hk)), h1.keep fun k hk => Below.heap_setCell _ _ _ _ (ne k (mine1 hb hk)), hs⟩
theorem getD_list (L : Text) (j : Nat) (h : j < L.length) : L.getD j 0 = L[j] := by simp [List.getD, h]
theorem row_text {w : World} {g cap : Nat} (L : Text) (h : ∀ j (hj : j < L.length), w.cell? ⟨g, j, none⟩ = some (.int .u8 (L[j].toNat : Int))) :
    (convert 61 9 (.slice (some ⟨g, 0, none⟩) L.length cap)).run Tryz.prog w = .ok (.string (tx L)) w := by
  refine run_convert_bytes_back (P := Tryz.prog) w 61 9 5 ⟨g, 0, none⟩ cap L Tryz.underlying61 Tryz.underlying5 Tryz.underlying9 (fun j hj => ?_)
  rw [show (⟨g, 0, none⟩ : Addr).add j = ⟨g, j, none⟩ by unfold Addr.add; split <;> simp_all]
  exact h j hj

theorem new_row' (w : World) (t : ByteArray) : ∃ (cap : Nat) (w' : World), (convert 9 61 (.string t)).run Tryz.prog w = .ok (.slice (some ⟨w.heap.size, 0, none⟩) t.size cap) w' ∧ NewRow w w' t cap ∧ w'.heap.size = w.heap.size + 1 := by
  refine ⟨grownCap w t.size 0 5, Lib.bytesWorld w 5 t, Lib.run_convert_string_bytes w 9 61 5 t Tryz.underlying9 Tryz.underlying61 Tryz.underlying5, ⟨Lib.bytesWorld_below w 5 t, fun j hj => Lib.bytesWorld_cell w 5 t j hj, fun j hj => ?_, grownCap_ge _ _ _ _⟩, Lib.bytesWorld_size w 5 t⟩
  have h1 : t.size ≤ (Lib.bytesCells w 5 t).size := by simp [Lib.bytesCells]
  simp [World.frozen?, Lib.bytesWorld_at_new]
  omega

end Go.Proofs.YtdgnbiekklmafaaGreatDoor.Rl
