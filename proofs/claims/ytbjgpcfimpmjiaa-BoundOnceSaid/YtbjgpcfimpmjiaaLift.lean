/-
  How a bound, and a list of bounds, come in, out of the form's own reading. No condition.
-/
import Derived.Test.YtbjgpcfimpmjiaaRows1
import Derived.Test.YtbjgpcfimpmjiaaRows
import Derived.ProofKit
import Derived.OpenShut
import Derived.LaidMore
import Derived.SizedLaws
import Derived.Carry
import Derived.Lib.SmallJoins
import Derived.Deep.Slices
import Derived.Deep.Fields
import Derived.ChangeSame
import Derived.Deep.DeepHandedRow
import Derived.Deep.DeepWitnessRowRef
import Derived.Stop.Joined
import Derived.Shelf.LaysM
namespace Go.Proofs.Ytbjgpcfimpmjiaa
open Go.ChangeShapes Go.WideShapes Go.ChangeAt Go.RowKit Go.Joins Go.Deep O

theorem own : ownKnob Try.prog.godebug = none := by kernel_rfl
theorem laidOutAll : laidOutB Try.prog = true := by kernel_rfl
theorem cells23 : Try.prog.cellsOf 23 = 2 := by kernel_rfl
theorem cells9 : Try.prog.cellsOf 9 = 1 := by kernel_rfl
theorem bytes23 : Try.prog.bytesOf 23 = 32 := by kernel_rfl
theorem door_met (w : World) : laidMetH Try.prog [] w := ⟨[], rfl, List.nodup_nil, fun _ _ h => nomatch h⟩
theorem lt_cell {w : World} {a : Addr} {v : Value} (h : w.cell? a = some v) : a.block < w.heap.size := by
  rcases Nat.lt_or_ge a.block w.heap.size with h1 | h1
  · exact h1
  · simp [World.cell?, Array.getElem?_eq_none h1] at h

section
variable {H : Type} {enc : TypeId × Value → H} {W : World} {base : Nat} {r : Reach} {b0 : Nat}

theorem arg_bd {v : Value} {d : DataW H} {ps : List MemPlace} (hv : Value.okWide Try.prog W r b0 23 v) (h : DataW.Trod enc Try.prog W 0 (fun _ => true) true 23 v d ps) (hwt : ∀ n ∈ d.weights Try.prog 23, n ≤ reachBytes) :
    ∃ f t : ByteArray, v = bd f t ∧ ps = [] ∧ f.size ≤ 140737488355328 ∧ t.size ≤ 140737488355328 := by
  have hrb := reachBytes_lt
  obtain ⟨c0, c1, y0, y1, n, rfl, rfl, rfl, g0, g1⟩ := open_agg2 Try.underlying23 (by kernel_rfl) cells23 hv h
  obtain ⟨f, e0, rfl, w0⟩ := DataW.trod_string Try.underlying9 g0
  obtain ⟨t, e1, rfl, w1⟩ := DataW.trod_string Try.underlying9 g1
  simp only [List.cons.injEq, and_true] at e0 e1
  subst e0 e1
  simp only [DataW.weights, Try.underlying23, List.map_cons, List.map_nil, DataW.weightsEach] at hwt
  have h1 := hwt f.data.toList.length (by simp)
  have h2 := hwt t.data.toList.length (by simp)
  have e3 : f.data.toList.length = f.size := by simp
  have e4 : t.data.toList.length = t.size := by simp
  exact ⟨f, t, rfl, rfl, by omega, by omega⟩

theorem weight_mem {D : Nat → DataW H} {n k : Nat} {e : TypeId} (h : k < n) (x : Nat) (hx : x ∈ (D k).weights Try.prog e) : x ∈ DataW.weightsAll Try.prog e ((List.range n).map D) := by
  have : ∀ l : List (DataW H), D k ∈ l → x ∈ DataW.weightsAll Try.prog e l := by
    intro l
    induction l with
    | nil => intro h; cases h
    | cons y l ih =>
      intro h
      simp only [DataW.weightsAll, List.mem_append]
      rcases List.mem_cons.1 h with rfl | h
      · exact .inl hx
      · exact .inr (ih h)
  exact this _ (List.mem_map.2 ⟨k, List.mem_range.2 h, rfl⟩)

theorem arg_bds {a0 : Option Addr} {n0 c0 : Nat} {d : DataW H} {ps : List MemPlace}
    (h : DataW.Trod enc Try.prog W 0 (fun _ => true) true 42 (.slice a0 n0 c0) d ps) (hlt : ∀ x ∈ ps, x.block < W.heap.size) (hwt : ∀ n ∈ d.weights Try.prog 42, n ≤ reachBytes) :
    ∃ bs, ArgSB W (.slice a0 n0 c0) bs ∧ bs.length ≤ 140737488355328 ∧ ∀ p ∈ bs, p.1.size ≤ 140737488355328 ∧ p.2.size ≤ 140737488355328 := by
  have hrb := reachBytes_lt
  obtain ⟨fuel, hf⟩ := h
  rcases open_slice Try.underlying42 hf with ⟨hcs, hx⟩ | ⟨a, len, cap, m, n, D, Pl, hcs, _, hl, hm, hmm, hx, hi⟩
  · simp [Value.cells] at hcs
    obtain ⟨rfl, rfl, rfl⟩ := hcs
    exact ⟨[], .nil, by simp, by simp⟩
  · simp [Value.cells] at hcs
    obtain ⟨rfl, rfl, rfl⟩ := hcs
    simp only [Prod.mk.injEq] at hx
    obtain ⟨rfl, rfl⟩ := hx
    simp only [if_true] at hmm
    subst hmm
    have each : ∀ i, i < n0 → ∃ p : Pair, W.cell? (a.add (i * 2)) = some (.string p.1) ∧ W.cell? (a.add (i * 2 + 1)) = some (.string p.2) ∧ D i = .agg [.lit (.string p.1.data.toList), .lit (.string p.2.data.toList)] := by
      intro i hi0
      obtain ⟨cs', hc, ht⟩ := hi i (by omega)
      rw [cells23] at hc
      obtain ⟨y0, y1, n', hy, hlen, g0, g1⟩ := trod_struct2 Try.underlying23 ht
      obtain ⟨_, hcl, hat⟩ := World.cells?_some hc
      rw [cells9] at g0 g1
      match cs', hcl with
      | [u0, u1], _ =>
        obtain ⟨f, e0, rfl, _⟩ := DataW.trod_string Try.underlying9 g0
        obtain ⟨t, e1, rfl, _⟩ := DataW.trod_string Try.underlying9 g1
        simp at e0 e1
        subst e0 e1
        have a0 := hat 0 (by omega)
        have a1 := hat 1 (by omega)
        rw [Go.Deep.add_add] at a0 a1
        simp only [Prod.mk.injEq] at hy
        exact ⟨(f, t), a0, a1, hy.1⟩
    obtain ⟨F, hF⟩ := choose_lt each
    have hlen : ((List.range n0).map F).length = n0 := by simp
    refine ⟨(List.range n0).map F, ?_, ?_, ?_⟩
    · have key : ArgSB W (.slice (some a) ((List.range n0).map F).length m) ((List.range n0).map F) := by
        refine .some a m _ ⟨_, _, rfl, fun h0 => ?_⟩
        rw [hlen] at h0
        obtain ⟨g0, _, _⟩ := hF 0 h0
        have hcl := lt_cell g0
        rw [add_block] at hcl
        have hsp : a.spot = none := by
          rw [Nat.zero_mul, Addr.add_zero'] at g0
          cases hs : a.spot with
          | none => rfl
          | some q =>
            unfold World.cell? at g0
            rw [hs] at g0
            split at g0 <;> simp at g0
        obtain ⟨b, o, q⟩ := a
        have hq : q = none := hsp
        subst hq
        refine ⟨b, o, rfl, hcl, fun i hi => ?_⟩
        have hi' : i < n0 := by rwa [hlen] at hi
        obtain ⟨e0, e1, _⟩ := hF i hi'
        rw [Addr.add_lit] at e0 e1
        simp only [List.getElem_map, List.getElem_range]
        exact ⟨e0, e1⟩
      rw [hlen] at key
      exact key
    · have := hwt ((((List.range n0).map D).length + ((List.range (m - n0)).map fun j => D (n0 + j)).length) * 32) (by
        simp only [DataW.weights, Try.underlying42, bytes23]
        exact List.mem_cons_self)
      simp at this ⊢
      omega
    · intro p hp
      obtain ⟨i, hi', rfl⟩ := List.mem_map.1 hp
      have hi' := List.mem_range.1 hi'
      obtain ⟨_, _, e⟩ := hF i hi'
      have mem : ∀ x ∈ (D i).weights Try.prog 23, x ≤ reachBytes := fun x hx => hwt x (by
        simp only [DataW.weights, Try.underlying42]
        exact List.mem_cons.2 (.inr (List.mem_append.2 (.inl (weight_mem hi' x hx)))))
      rw [e] at mem
      simp only [DataW.weights, Try.underlying23, List.map_cons, List.map_nil, DataW.weightsEach] at mem
      have h1 := mem (F i).1.data.toList.length (by simp)
      have h2 := mem (F i).2.data.toList.length (by simp)
      have e3 : (F i).1.data.toList.length = (F i).1.size := by simp
      have e4 : (F i).2.data.toList.length = (F i).2.size := by simp
      exact ⟨by omega, by omega⟩
end

end Go.Proofs.Ytbjgpcfimpmjiaa
