/-
  How a list of strings comes in, out of the form's own reading. No condition.
-/
import Derived.Test.YtglkapamkigdhaaGreatDoorLift
import Derived.SliceStrings
import Derived.Carry
namespace Go.Proofs.YtglkapamkigdhaaGreatDoor
open Go.ChangeShapes Go.WideShapes Go.ChangeAt Go.RowKit

theorem laidOutAll : laidOutB Tryz.prog = true := by kernel_rfl
theorem bytes9 : Tryz.prog.bytesOf 9 = 16 := by kernel_rfl

theorem weight_str {H : Type} (l : List ByteArray) (s : ByteArray) (h : s ∈ l) : s.size ∈ DataW.weightsAll (H := H) Tryz.prog 9 (strs l) := by
  induction l with
  | nil => cases h
  | cons x l ih =>
    simp only [strs, List.map_cons, DataW.weightsAll, DataW.weights]
    rcases List.mem_cons.1 h with rfl | h
    · simp
    · exact List.mem_append.2 (.inr (ih h))

theorem arg_of {H : Type} {enc : TypeId × Value → H} {W : World} {a0 : Option Addr} {n0 c0 : Nat} {d : DataW H} {ps : List MemPlace}
    (h : DataW.Trod enc Tryz.prog W 0 (fun _ => true) true 33 (.slice a0 n0 c0) d ps) (hlt : ∀ x ∈ ps, x.block < W.heap.size) (hwt : ∀ n ∈ d.weights Tryz.prog 33, n ≤ reachBytes) :
    ∃ ss, SL W W.heap.size (.slice a0 n0 c0) ss ∧ ss.length ≤ 140737488355328 ∧ ∀ s ∈ ss, s.size ≤ 140737488355328 := by
  have hrb := reachBytes_lt
  obtain ⟨fuel, hf⟩ := h
  rcases open_strings Tryz.underlying33 Tryz.underlying9 cells9 hf with ⟨hcs, hx⟩ | ⟨a, len, cap, ss, hcs, _, hl, hm, hz, hx, hcell, hws⟩
  · simp [Value.cells] at hcs
    obtain ⟨rfl, rfl, rfl⟩ := hcs
    exact ⟨[], SL.nil _ _, by simp, by simp⟩
  · simp [Value.cells] at hcs
    obtain ⟨rfl, rfl, rfl⟩ := hcs
    simp only [Prod.mk.injEq] at hx
    obtain ⟨rfl, rfl⟩ := hx
    simp only [if_true] at hz
    have htl : (ss.take n0).length = n0 := by rw [List.length_take]; omega
    refine ⟨ss.take n0, ?_, ?_, ?_⟩
    · refine ⟨some a, c0, by rw [htl], fun h0 => ⟨a, rfl, ?_, fun i hi => ?_⟩⟩
      · have hcl := Lib.lt_of_cell (hcell 0 (by omega))
        rw [add_block] at hcl
        exact hcl
      · rw [hcell i (by omega)]
        congr 2
        rw [List.getElem_take, List.getD_eq_getElem?_getD, List.getElem?_eq_getElem (by omega)]; rfl
    · have := hwt ((strs (H := H) (ss.take n0)).length * 16 + (strs (H := H) (ss.drop n0)).length * 16) (by
        simp only [DataW.weights, Tryz.underlying33, bytes9]
        rw [← Nat.add_mul]
        simp)
      simp only [strs, List.length_map, htl] at this
      omega
    · intro s hs
      have := hwt s.size (by
        simp only [DataW.weights, Tryz.underlying33]
        exact List.mem_cons.2 (.inr (List.mem_append.2 (.inl (weight_str _ s hs)))))
      omega

end Go.Proofs.YtglkapamkigdhaaGreatDoor
