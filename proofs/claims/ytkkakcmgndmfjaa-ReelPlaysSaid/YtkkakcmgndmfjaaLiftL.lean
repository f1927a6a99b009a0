/-
  How a list of acts comes in, out of the form's own reading. No condition.
-/
import Derived.Test.YtkkakcmgndmfjaaLift
import Derived.Test.YtkkakcmgndmfjaaActs
namespace Go.Proofs.Ytkkakcmgndmfjaa
open Go.ChangeShapes Go.WideShapes Go.ChangeAt Go.RowKit Go.Joins Go.Deep

theorem cells37 : Try.prog.cellsOf 37 = 7 := by kernel_rfl
theorem cells35 : Try.prog.cellsOf 35 = 3 := by kernel_rfl
theorem cells33 : Try.prog.cellsOf 33 = 2 := by kernel_rfl
theorem cells9 : Try.prog.cellsOf 9 = 1 := by kernel_rfl
theorem cells3 : Try.prog.cellsOf 3 = 1 := by kernel_rfl
theorem cells5 : Try.prog.cellsOf 5 = 1 := by kernel_rfl
theorem bytes37 : Try.prog.bytesOf 37 = 64 := by kernel_rfl
instance : Inhabited Act := ⟨⟨0, 0, ⟨#[]⟩, 0, 0, 0, 0⟩⟩
theorem lt_cell {w : World} {a : Addr} {v : Value} (h : w.cell? a = some v) : a.block < w.heap.size := by
  rcases Nat.lt_or_ge a.block w.heap.size with h1 | h1
  · exact h1
  · simp [World.cell?, Array.getElem?_eq_none h1] at h

section
variable {H : Type} {enc : TypeId × Value → H} {W : World}

theorem weight_mem {D : Nat → DataW H} {n k : Nat} {e : TypeId} (h : k < n) (x : Nat) (hx : x ∈ (D k).weights Try.prog e) : x ∈ DataW.weightsAll Try.prog e ((List.range n).map D) := by
  have : ∀ l : List (DataW H), D k ∈ l → x ∈ DataW.weightsAll Try.prog e l := by
    intro l
    induction l with
    | nil => intro h; cases h
    | cons y l ih =>
      intro h
      simp only [DataW.weightsAll, List.mem_append]
      rcases List.mem_cons.1 h with rfl | h
      · exact .inl hx
      · exact .inr (ih h)
  exact this _ (List.mem_map.2 ⟨k, List.mem_range.2 h, rfl⟩)

theorem act_of {n : Nat} {cs : List Value} {x : DataW H × List MemPlace} (h : DataW.trod enc Try.prog W 0 (fun _ => true) true n 37 cs = some x) (hwt : ∀ n ∈ x.1.weights Try.prog 37, n ≤ reachBytes) :
    ∃ a : Act, a.ok ∧ ∀ j, j < 7 → cs[j]? = some (actC a j) := by
  have hrb := reachBytes_lt
  obtain ⟨ys, m, _, rfl, hl, hlen, hf⟩ := DataW.trod_struct Try.underlying37 h
  rw [cells37] at hl
  have g0 := hf 0 _ rfl
  have g1 := hf 1 _ rfl
  have g2 := hf 2 _ rfl
  have g3 := hf 3 _ rfl
  have g4 := hf 4 _ rfl
  clear hf
  match ys, hlen, cs, hl with
  | [y0, y1, y2, y3, y4], _, [c0, c1, c2, c3, c4, c5, c6], _ =>
    simp [cells3, cells9, cells35] at g0 g1 g2 g3 g4
    obtain ⟨kind, e0, rfl, _⟩ := DataW.trod_int Try.underlying3 g0
    obtain ⟨t, e1, rfl, _⟩ := DataW.trod_int Try.underlying3 g1
    obtain ⟨s, e2, rfl, _⟩ := DataW.trod_string Try.underlying9 g2
    obtain ⟨k, e3, rfl, w3⟩ := DataW.trod_int Try.underlying3 g3
    obtain ⟨z0, z1, m', rfl, _, f0, f1⟩ := trod_struct2 Try.underlying35 g4
    simp [cells33, cells5] at f0 f1
    obtain ⟨zs, m2, _, rfl, _, halen, ha⟩ := DataW.trod_array Try.underlying33 f0
    have a0 := ha 0 (by omega)
    have a1 := ha 1 (by omega)
    match zs, halen with
    | [b0, b1], _ =>
      simp [cells3] at a0 a1
      obtain ⟨k0, e4, rfl, w4⟩ := DataW.trod_int Try.underlying3 a0
      obtain ⟨k1, e5, rfl, w5⟩ := DataW.trod_int Try.underlying3 a1
      obtain ⟨u, e6, rfl, w6⟩ := DataW.trod_int Try.underlying5 f1
      simp only [List.cons.injEq, and_true] at e0 e1 e2 e3 e4 e5 e6
      subst e0 e1 e2 e3 e4 e5 e6
      obtain ⟨q0, q1⟩ := wf_u8 w6
      have hs : s.size ≤ 140737488355328 := by
        have := hwt s.data.toList.length (by simp [DataW.weights, Try.underlying37, DataW.weightsEach])
        have e3 : s.data.toList.length = s.size := by simp
        omega
      have hu : ((UInt8.ofNat u.toNat).toNat : Int) = u := by rw [UInt8.toNat_ofNat_of_lt' (by show u.toNat < 256; omega)]; omega
      refine ⟨⟨kind, t, s, k, k0, k1, UInt8.ofNat u.toNat⟩, ⟨(wf_i64 w3).1, (wf_i64 w3).2, (wf_i64 w4).1, (wf_i64 w4).2, (wf_i64 w5).1, (wf_i64 w5).2, hs⟩, fun j hj => ?_⟩
      match j, hj with
      | 0, _ => rfl
      | 1, _ => rfl
      | 2, _ => rfl
      | 3, _ => rfl
      | 4, _ => rfl
      | 5, _ => rfl
      | 6, _ => show some (Value.int .u8 u) = some (Value.int .u8 ((UInt8.ofNat u.toNat).toNat : Int)); rw [hu]

theorem arg_acts {a0 : Option Addr} {n0 c0 : Nat} {d : DataW H} {ps : List MemPlace}
    (h : DataW.Trod enc Try.prog W 0 (fun _ => true) true 22 (.slice a0 n0 c0) d ps) (hwt : ∀ n ∈ d.weights Try.prog 22, n ≤ reachBytes) :
    ∃ xs, SA W W.heap.size (.slice a0 n0 c0) xs ∧ xs.length ≤ 140737488355328 ∧ ∀ a ∈ xs, a.ok := by
  have hrb := reachBytes_lt
  obtain ⟨fuel, hf⟩ := h
  rcases open_slice Try.underlying22 hf with ⟨hcs, hx⟩ | ⟨a, len, cap, m, n, D, Pl, hcs, _, hl, hm, hmm, hx, hi⟩
  · simp [Value.cells] at hcs
    obtain ⟨rfl, rfl, rfl⟩ := hcs
    exact ⟨[], SA.nil _ _, by simp, by simp⟩
  · simp [Value.cells] at hcs
    obtain ⟨rfl, rfl, rfl⟩ := hcs
    simp only [Prod.mk.injEq] at hx
    obtain ⟨rfl, rfl⟩ := hx
    simp only [if_true] at hmm
    subst hmm
    have each : ∀ i, i < n0 → ∃ x : Act, x.ok ∧ ∀ j, j < 7 → W.cell? (a.add (i * 7 + j)) = some (actC x j) := by
      intro i hi0
      obtain ⟨cs', hc, ht⟩ := hi i (by omega)
      rw [cells37] at hc
      have hw : ∀ q ∈ (D i).weights Try.prog 37, q ≤ reachBytes := fun q hq => hwt q (by
        simp only [DataW.weights, Try.underlying22]
        exact List.mem_cons.2 (.inr (List.mem_append.2 (.inl (weight_mem hi0 q hq)))))
      obtain ⟨x, hok, hx⟩ := act_of ht hw
      obtain ⟨_, hcl, hat⟩ := World.cells?_some hc
      refine ⟨x, hok, fun j hj => ?_⟩
      have hj' := hat j hj
      rw [Go.Deep.add_add] at hj'
      rw [hj']
      exact hx j hj
    obtain ⟨F, hF⟩ := choose_lt each
    have hlen : ((List.range n0).map F).length = n0 := by simp
    refine ⟨(List.range n0).map F, ?_, ?_, ?_⟩
    · refine ⟨some a, m, by rw [hlen], fun h0 => ?_⟩
      rw [hlen] at h0
      have g0 := (hF 0 h0).2 0 (by omega)
      have hcl := lt_cell g0
      rw [add_block] at hcl
      have hsp : a.spot = none := by
        rw [Nat.zero_mul, Addr.add_zero'] at g0
        cases hs : a.spot with
        | none => rfl
        | some q =>
          unfold World.cell? at g0
          rw [hs] at g0
          split at g0 <;> simp at g0
      obtain ⟨b, o, q⟩ := a
      have hq : q = none := hsp
      subst hq
      refine ⟨b, o, rfl, hcl, fun i hi j hj => ?_⟩
      have hi' : i < n0 := by rwa [hlen] at hi
      have e0 := (hF i hi').2 j hj
      rw [Addr.add_lit] at e0
      simp only [List.getElem_map, List.getElem_range]
      rw [Nat.add_assoc]
      exact e0
    · have := hwt ((((List.range n0).map D).length + ((List.range (m - n0)).map fun j => D (n0 + j)).length) * 64) (by
        simp only [DataW.weights, Try.underlying22, bytes37]
        exact List.mem_cons_self)
      simp at this ⊢
      omega
    · intro p hp
      obtain ⟨i, hi', rfl⟩ := List.mem_map.1 hp
      exact (hF i (List.mem_range.1 hi')).1
end

end Go.Proofs.Ytkkakcmgndmfjaa
