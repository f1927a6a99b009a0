/-
  How a list of numbers comes in, out of the form's own reading. No condition.
-/
import Derived.Test.YtlmecfnoipnccaaDoorDsLift1
namespace Go.Proofs.YtlmecfnoipnccaaDoor.Ds
open Go.ChangeShapes Go.WideShapes Go.ChangeAt Go.RowKit Go.Joins Go.Deep

theorem bytesI : Tryd.prog.bytesOf 3 = 8 := by kernel_rfl
theorem no_spot {w : World} {a : Addr} {v : Value} (h : w.cell? a = some v) : a.spot = none := by
  cases hs : a.spot with
  | none => rfl
  | some q =>
    unfold World.cell? at h
    rw [hs] at h
    split at h <;> simp at h

section
variable {H : Type} {enc : TypeId × Value → H} {W : World}

theorem arg_nil {a0 : Option Addr} {n0 c0 : Nat} {d : DataW H} {ps : List MemPlace}
    (h : DataW.Trod enc Tryd.prog W 0 (fun _ => true) true 52 (.slice a0 n0 c0) d ps) : a0 = none → n0 = 0 ∧ c0 = 0 := by
  obtain ⟨fuel, hf⟩ := h
  rcases open_slice Tryd.underlying52 hf with ⟨hcs, _⟩ | ⟨a, len, cap, m, n, D, Pl, hcs, _⟩
  · simp [Value.cells] at hcs
    obtain ⟨rfl, rfl, rfl⟩ := hcs
    exact fun _ => ⟨rfl, rfl⟩
  · simp [Value.cells] at hcs
    obtain ⟨rfl, rfl, rfl⟩ := hcs
    intro h
    cases h
set_option maxRecDepth 100000 in
theorem arg_ints {a0 : Option Addr} {n0 c0 : Nat} {d : DataW H} {ps : List MemPlace}
    (h : DataW.Trod enc Tryd.prog W 0 (fun _ => true) true 52 (.slice a0 n0 c0) d ps) (hwt : ∀ n ∈ d.weights Tryd.prog 52, n ≤ reachBytes) :
    ∃ xs, SI W W.heap.size (.slice a0 n0 c0) xs ∧ xs.length ≤ 140737488355328 := by
  have hrb := reachBytes_lt
  obtain ⟨fuel, hf⟩ := h
  rcases open_slice Tryd.underlying52 hf with ⟨hcs, hx⟩ | ⟨a, len, cap, m, n, D, Pl, hcs, _, hl, hm, hmm, hx, hi⟩
  · simp [Value.cells] at hcs
    obtain ⟨rfl, rfl, rfl⟩ := hcs
    exact ⟨[], ⟨none, 0, rfl, fun h => absurd h (by simp)⟩, by simp⟩
  · simp [Value.cells] at hcs
    obtain ⟨rfl, rfl, rfl⟩ := hcs
    simp only [Prod.mk.injEq] at hx
    obtain ⟨rfl, rfl⟩ := hx
    simp only [if_true] at hmm
    subst hmm
    have each : ∀ i, i < n0 → ∃ x : Int, W.cell? (a.add i) = some (.int .i64 x) := by
      intro i hi0
      obtain ⟨cs', hc, ht⟩ := hi i (by omega)
      rw [cells3'] at hc
      obtain ⟨x, e0, _, _⟩ := DataW.trod_int Tryd.underlying3 ht
      subst e0
      obtain ⟨_, hcl, hat⟩ := World.cells?_some hc
      have j0 := hat 0 (by omega)
      rw [Go.Deep.add_add, Nat.mul_one] at j0
      exact ⟨x, j0⟩
    obtain ⟨F, hF⟩ := choose_lt each
    have hlen : ((List.range n0).map F).length = n0 := by simp
    refine ⟨(List.range n0).map F, ?_, ?_⟩
    · refine ⟨some a, m, by rw [hlen], fun h0 => ?_⟩
      rw [hlen] at h0
      have g0 := hF 0 h0
      have hcl := lt_cell g0
      rw [add_block] at hcl
      rw [Addr.add_zero'] at g0
      have hsp := no_spot g0
      obtain ⟨b, o, q⟩ := a
      have hq : q = none := hsp
      subst hq
      refine ⟨b, o, rfl, hcl, fun i hi => ?_⟩
      have e0 := hF i (by rwa [hlen] at hi)
      rw [Addr.add_lit] at e0
      simp only [List.getElem_map, List.getElem_range]
      exact e0
    · have := hwt ((((List.range n0).map D).length + ((List.range (m - n0)).map fun j => D (n0 + j)).length) * 8) (by
        simp only [DataW.weights, Tryd.underlying52, bytesI]
        exact List.mem_cons_self)
      simp at this ⊢
      omega
end
end Go.Proofs.YtlmecfnoipnccaaDoor.Ds
