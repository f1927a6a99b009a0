/-
  How a list of entries comes in, out of the form's own reading. No condition.
-/
import Derived.Test.YthcmnkmfhgoddaaGreatDoorODsLiftA
import Derived.Test.YthcmnkmfhgoddaaGreatDoorORoRows
namespace Go.Proofs.YthcmnkmfhgoddaaGreatDoor.Mb
open Go.ChangeShapes Go.WideShapes Go.ChangeAt Go.RowKit Go.Joins Go.Deep
open Go.Proofs.YthcmnkmfhgoddaaGreatDoor.Ro (En ArgE)
open Go.Proofs.YthcmnkmfhgoddaaGreatDoor.Ds (cells2' cells9' lt_cell weight_mem)
theorem cellsE : Tryz.prog.cellsOf 47 = 2 := by kernel_rfl
theorem bytesE : Tryz.prog.bytesOf 47 = 24 := by kernel_rfl
section
variable {H : Type} {enc : TypeId × Value → H} {W : World}
set_option maxRecDepth 100000 in
theorem arg_entss {n : Nat} {v : Value} {x : DataW H × List MemPlace}
    (hf : DataW.trod enc Tryz.prog W 0 (fun _ => true) true n 27 [v] = some x) (hwt : ∀ n ∈ x.1.weights Tryz.prog 27, n ≤ reachBytes) :
    ∃ ms, ArgE W v ms ∧ ms.length ≤ 140737488355328 ∧ ∀ m ∈ ms, M.inR m.1 ∧ m.2.size ≤ 140737488355328 := by
  have hrb := reachBytes_lt
  rcases open_slice Tryz.underlying27 hf with ⟨hcs, hx⟩ | ⟨a, len, cap, m, n, D, Pl, hcs, _, hl, hm, hmm, hx, hi⟩
  · simp only [List.cons.injEq, and_true] at hcs
    subst hcs
    exact ⟨[], .nil, by simp, by simp⟩
  · simp only [List.cons.injEq, and_true] at hcs
    subst hcs
    subst hx
    simp only [if_true] at hmm
    subst hmm
    have each : ∀ i, i < len → ∃ p : En, W.cell? (a.add (i * 2)) = some (.int .i64 p.1) ∧ W.cell? (a.add (i * 2 + 1)) = some (.string p.2) ∧ M.inR p.1 ∧ D i = .agg [.lit (.int .i64 p.1), .lit (.string p.2.data.toList)] := by
      intro i hi0
      obtain ⟨cs', hc, ht⟩ := hi i (by omega)
      rw [cellsE] at hc
      obtain ⟨y0, y1, n', hy, hlen, g0, g1⟩ := trod_struct2 Tryz.underlying47 ht
      obtain ⟨_, hcl, hat⟩ := World.cells?_some hc
      rw [cells2'] at g0
      rw [cells9'] at g1
      match cs', hcl with
      | [u0, u1], _ =>
        obtain ⟨f, e0, rfl, w0⟩ := DataW.trod_int Tryz.underlying2 g0
        obtain ⟨t, e1, rfl, _⟩ := DataW.trod_string Tryz.underlying9 g1
        simp at e0 e1
        subst e0 e1
        have a0 := hat 0 (by omega)
        have a1 := hat 1 (by omega)
        rw [Go.Deep.add_add] at a0 a1
        simp only [Prod.mk.injEq] at hy
        exact ⟨(f, t), a0, a1, bounds_i64 w0, hy.1⟩
    obtain ⟨F, hF⟩ := choose_lt each
    have hlen : ((List.range len).map F).length = len := by simp
    refine ⟨(List.range len).map F, ?_, ?_, ?_⟩
    · by_cases h0 : 0 < len
      · have g0 := (hF 0 h0).1
        have hcl := lt_cell g0
        rw [add_block] at hcl
        have hsp : a.spot = none := by
          rw [Nat.zero_mul, Addr.add_zero'] at g0
          cases hs : a.spot with
          | none => rfl
          | some q =>
            unfold World.cell? at g0
            rw [hs] at g0
            split at g0 <;> simp at g0
        obtain ⟨b, o, q⟩ := a
        have hq : q = none := hsp
        subst hq
        have key : ArgE W (.slice (some ⟨b, o, none⟩) ((List.range len).map F).length m) ((List.range len).map F) := by
          refine .some b o m _ (by rw [hlen]; exact hl) ⟨_, _, rfl, fun _ => ⟨b, o, rfl, hcl, fun i hi => ?_⟩⟩
          have hi' : i < len := by rwa [hlen] at hi
          obtain ⟨e0, e1, _, _⟩ := hF i hi'
          rw [Addr.add_lit] at e0 e1
          simp only [List.getElem_map, List.getElem_range]
          exact ⟨e0, e1⟩
        rw [hlen] at key
        exact key
      · obtain rfl : len = 0 := by omega
        exact .empty a m
    · have := hwt ((((List.range len).map D).length + ((List.range (m - len)).map fun j => D (len + j)).length) * 24) (by
        simp only [DataW.weights, Tryz.underlying27, bytesE]
        exact List.mem_cons_self)
      simp at this ⊢
      omega
    · intro p hp
      obtain ⟨i, hi', rfl⟩ := List.mem_map.1 hp
      have hi' := List.mem_range.1 hi'
      obtain ⟨_, _, e9, e⟩ := hF i hi'
      have mem : ∀ x ∈ (D i).weights Tryz.prog 47, x ≤ reachBytes := fun x hx => hwt x (by
        simp only [DataW.weights, Tryz.underlying27]
        exact List.mem_cons.2 (.inr (List.mem_append.2 (.inl (weight_mem hi' x hx)))))
      rw [e] at mem
      simp only [DataW.weights, Tryz.underlying47, List.map_cons, List.map_nil, DataW.weightsEach] at mem
      have h2 := mem (F i).2.data.toList.length (by simp)
      have e4 : (F i).2.data.toList.length = (F i).2.size := by simp
      exact ⟨e9, by omega⟩
theorem arg_ents {a0 : Option Addr} {n0 c0 : Nat} {d : DataW H} {ps : List MemPlace}
    (h : DataW.Trod enc Tryz.prog W 0 (fun _ => true) true 27 (.slice a0 n0 c0) d ps) (hwt : ∀ n ∈ d.weights Tryz.prog 27, n ≤ reachBytes) :
    ∃ ms, ArgE W (.slice a0 n0 c0) ms ∧ ms.length ≤ 140737488355328 ∧ ∀ m ∈ ms, M.inR m.1 ∧ m.2.size ≤ 140737488355328 := by
  obtain ⟨fuel, hf⟩ := h
  exact arg_entss (by simpa [Value.cells] using hf) hwt
end
end Go.Proofs.YthcmnkmfhgoddaaGreatDoor.Mb
