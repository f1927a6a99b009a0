/-
  How a list of numbers, and a list of DescRises' acts, come in, out of the form's own reading. No condition.
-/
import Derived.Test.YtojphacongbnmaaDoorDsLift1
import Derived.Test.YtojphacongbnmaaDoorDsRiseM
namespace Go.Proofs.YtojphacongbnmaaDoor.Ds
open Go.ChangeShapes Go.WideShapes Go.ChangeAt Go.RowKit Go.Joins Go.Deep

theorem cellsAc : Tryd.prog.cellsOf 62 = 4 := by kernel_rfl
theorem bytesAc : Tryd.prog.bytesOf 62 = 40 := by kernel_rfl
theorem bytesI : Tryd.prog.bytesOf 3 = 8 := by kernel_rfl
instance : Inhabited Ac := ⟨⟨0, 0, 0, ⟨#[]⟩⟩⟩
theorem no_spot {w : World} {a : Addr} {v : Value} (h : w.cell? a = some v) : a.spot = none := by
  cases hs : a.spot with
  | none => rfl
  | some q =>
    unfold World.cell? at h
    rw [hs] at h
    split at h <;> simp at h

section
variable {H : Type} {enc : TypeId × Value → H} {W : World}

set_option maxRecDepth 100000 in
theorem arg_ints {a0 : Option Addr} {n0 c0 : Nat} {d : DataW H} {ps : List MemPlace}
    (h : DataW.Trod enc Tryd.prog W 0 (fun _ => true) true 52 (.slice a0 n0 c0) d ps) (hwt : ∀ n ∈ d.weights Tryd.prog 52, n ≤ reachBytes) :
    ∃ xs, SI W W.heap.size (.slice a0 n0 c0) xs ∧ xs.length ≤ 140737488355328 := by
  have hrb := reachBytes_lt
  obtain ⟨fuel, hf⟩ := h
  rcases open_slice Tryd.underlying52 hf with ⟨hcs, hx⟩ | ⟨a, len, cap, m, n, D, Pl, hcs, _, hl, hm, hmm, hx, hi⟩
  · simp [Value.cells] at hcs
    obtain ⟨rfl, rfl, rfl⟩ := hcs
    exact ⟨[], ⟨none, 0, rfl, fun h => absurd h (by simp)⟩, by simp⟩
  · simp [Value.cells] at hcs
    obtain ⟨rfl, rfl, rfl⟩ := hcs
    simp only [Prod.mk.injEq] at hx
    obtain ⟨rfl, rfl⟩ := hx
    simp only [if_true] at hmm
    subst hmm
    have each : ∀ i, i < n0 → ∃ x : Int, W.cell? (a.add i) = some (.int .i64 x) := by
      intro i hi0
      obtain ⟨cs', hc, ht⟩ := hi i (by omega)
      rw [cells3'] at hc
      obtain ⟨x, e0, _, _⟩ := DataW.trod_int Tryd.underlying3 ht
      subst e0
      obtain ⟨_, hcl, hat⟩ := World.cells?_some hc
      have j0 := hat 0 (by omega)
      rw [Go.Deep.add_add, Nat.mul_one] at j0
      exact ⟨x, j0⟩
    obtain ⟨F, hF⟩ := choose_lt each
    have hlen : ((List.range n0).map F).length = n0 := by simp
    refine ⟨(List.range n0).map F, ?_, ?_⟩
    · refine ⟨some a, m, by rw [hlen], fun h0 => ?_⟩
      rw [hlen] at h0
      have g0 := hF 0 h0
      have hcl := lt_cell g0
      rw [add_block] at hcl
      rw [Addr.add_zero'] at g0
      have hsp := no_spot g0
      obtain ⟨b, o, q⟩ := a
      have hq : q = none := hsp
      subst hq
      refine ⟨b, o, rfl, hcl, fun i hi => ?_⟩
      have e0 := hF i (by rwa [hlen] at hi)
      rw [Addr.add_lit] at e0
      simp only [List.getElem_map, List.getElem_range]
      exact e0
    · have := hwt ((((List.range n0).map D).length + ((List.range (m - n0)).map fun j => D (n0 + j)).length) * 8) (by
        simp only [DataW.weights, Tryd.underlying52, bytesI]
        exact List.mem_cons_self)
      simp at this ⊢
      omega

set_option maxRecDepth 100000 in
theorem act_of {n : Nat} {cs : List Value} {x : DataW H × List MemPlace} (h : DataW.trod enc Tryd.prog W 0 (fun _ => true) true n 62 cs = some x) :
    ∃ a : Ac, cs[0]? = some (.int .i64 a.kind) ∧ cs[1]? = some (.int .i64 a.node) ∧ cs[2]? = some (.int .i64 a.id) ∧ cs[3]? = some (.string a.key) := by
  obtain ⟨ys, m, _, rfl, hl, hlen, hf⟩ := DataW.trod_struct Tryd.underlying62 h
  rw [cellsAc] at hl
  have g0 := hf 0 _ rfl
  have g1 := hf 1 _ rfl
  have g2 := hf 2 _ rfl
  have g3 := hf 3 _ rfl
  clear hf
  match ys, hlen, cs, hl with
  | [y0, y1, y2, y3], _, [c0, c1, c2, c3], _ =>
    simp [cells3', cells2', cells9'] at g0 g1 g2 g3
    obtain ⟨kind, e0, _, _⟩ := DataW.trod_int Tryd.underlying3 g0
    obtain ⟨node, e1, _, _⟩ := DataW.trod_int Tryd.underlying3 g1
    obtain ⟨i, e2, _, _⟩ := DataW.trod_int Tryd.underlying2 g2
    obtain ⟨s, e3, _, _⟩ := DataW.trod_string Tryd.underlying9 g3
    simp only [List.cons.injEq, and_true] at e0 e1 e2 e3
    subst e0 e1 e2 e3
    exact ⟨⟨kind, node, i, s⟩, rfl, rfl, rfl, rfl⟩

set_option maxRecDepth 100000 in
theorem arg_dacts {a0 : Option Addr} {n0 c0 : Nat} {d : DataW H} {ps : List MemPlace}
    (h : DataW.Trod enc Tryd.prog W 0 (fun _ => true) true 60 (.slice a0 n0 c0) d ps) (hwt : ∀ n ∈ d.weights Tryd.prog 60, n ≤ reachBytes) :
    ∃ xs, SAc W W.heap.size (.slice a0 n0 c0) xs ∧ xs.length ≤ 140737488355328 := by
  have hrb := reachBytes_lt
  obtain ⟨fuel, hf⟩ := h
  rcases open_slice Tryd.underlying60 hf with ⟨hcs, hx⟩ | ⟨a, len, cap, m, n, D, Pl, hcs, _, hl, hm, hmm, hx, hi⟩
  · simp [Value.cells] at hcs
    obtain ⟨rfl, rfl, rfl⟩ := hcs
    exact ⟨[], SAc.nil _ _, by simp⟩
  · simp [Value.cells] at hcs
    obtain ⟨rfl, rfl, rfl⟩ := hcs
    simp only [Prod.mk.injEq] at hx
    obtain ⟨rfl, rfl⟩ := hx
    simp only [if_true] at hmm
    subst hmm
    have each : ∀ i, i < n0 → ∃ x : Ac, W.cell? (a.add (i * 4)) = some (.int .i64 x.kind) ∧ W.cell? (a.add (i * 4 + 1)) = some (.int .i64 x.node) ∧ W.cell? (a.add (i * 4 + 2)) = some (.int .i64 x.id) ∧ W.cell? (a.add (i * 4 + 3)) = some (.string x.key) := by
      intro i hi0
      obtain ⟨cs', hc, ht⟩ := hi i (by omega)
      rw [cellsAc] at hc
      obtain ⟨x, e0, e1, e2, e3⟩ := act_of ht
      obtain ⟨_, hcl, hat⟩ := World.cells?_some hc
      have j0 := hat 0 (by omega)
      have j1 := hat 1 (by omega)
      have j2 := hat 2 (by omega)
      have j3 := hat 3 (by omega)
      rw [Go.Deep.add_add] at j0 j1 j2 j3
      exact ⟨x, by rw [← e0]; exact j0, by rw [← e1]; exact j1, by rw [← e2]; exact j2, by rw [← e3]; exact j3⟩
    obtain ⟨F, hF⟩ := choose_lt each
    have hlen : ((List.range n0).map F).length = n0 := by simp
    refine ⟨(List.range n0).map F, ?_, ?_⟩
    · refine ⟨some a, m, by rw [hlen], fun h0 => ?_⟩
      rw [hlen] at h0
      have g0 := (hF 0 h0).1
      have hcl := lt_cell g0
      rw [add_block] at hcl
      rw [Nat.zero_mul, Addr.add_zero'] at g0
      have hsp := no_spot g0
      obtain ⟨b, o, q⟩ := a
      have hq : q = none := hsp
      subst hq
      refine ⟨b, o, rfl, hcl, fun i hi => ?_⟩
      obtain ⟨e0, e1, e2, e3⟩ := hF i (by rwa [hlen] at hi)
      rw [Addr.add_lit] at e0 e1 e2 e3
      simp only [List.getElem_map, List.getElem_range]
      exact ⟨e0, e1, e2, e3⟩
    · have := hwt ((((List.range n0).map D).length + ((List.range (m - n0)).map fun j => D (n0 + j)).length) * 40) (by
        simp only [DataW.weights, Tryd.underlying60, bytesAc]
        exact List.mem_cons_self)
      simp at this ⊢
      omega
end
end Go.Proofs.YtojphacongbnmaaDoor.Ds
