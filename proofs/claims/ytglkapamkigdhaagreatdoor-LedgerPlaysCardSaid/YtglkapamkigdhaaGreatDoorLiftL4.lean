/-
  How a list of acts comes in, out of the form's own reading. No condition.
-/
import Derived.Test.YtglkapamkigdhaaGreatDoorLift2
import Derived.Test.YtglkapamkigdhaaGreatDoorLiveAll
import Derived.Lib.SmallJoins
import Derived.Deep.Slices
import Derived.Deep.Fields
import Derived.ChangeSame
namespace Go.Proofs.YtglkapamkigdhaaGreatDoor.Rl
open Go.ChangeShapes Go.WideShapes Go.ChangeAt Go.RowKit Go.Joins Go.Deep

theorem cellsA : Tryz.prog.cellsOf 44 = 6 := by kernel_rfl
theorem cellsT : Tryz.prog.cellsOf 42 = 3 := by kernel_rfl
theorem cellsR : Tryz.prog.cellsOf 40 = 2 := by kernel_rfl
theorem cells9' : Tryz.prog.cellsOf 9 = 1 := by kernel_rfl
theorem cells3' : Tryz.prog.cellsOf 3 = 1 := by kernel_rfl
theorem cells5' : Tryz.prog.cellsOf 5 = 1 := by kernel_rfl
theorem bytesA : Tryz.prog.bytesOf 44 = 56 := by kernel_rfl
instance : Inhabited Act := ⟨⟨0, ⟨#[]⟩, 0, 0, 0, 0⟩⟩
theorem lt_cell {w : World} {a : Addr} {v : Value} (h : w.cell? a = some v) : a.block < w.heap.size := by
  rcases Nat.lt_or_ge a.block w.heap.size with h1 | h1
  · exact h1
  · simp [World.cell?, Array.getElem?_eq_none h1] at h

section
variable {H : Type} {enc : TypeId × Value → H} {W : World}

theorem weight_mem {D : Nat → DataW H} {n k : Nat} {e : TypeId} (h : k < n) (x : Nat) (hx : x ∈ (D k).weights Tryz.prog e) : x ∈ DataW.weightsAll Tryz.prog e ((List.range n).map D) := by
  have : ∀ l : List (DataW H), D k ∈ l → x ∈ DataW.weightsAll Tryz.prog e l := by
    intro l
    induction l with
    | nil => intro h; cases h
    | cons y l ih =>
      intro h
      simp only [DataW.weightsAll, List.mem_append]
      rcases List.mem_cons.1 h with rfl | h
      · exact .inl hx
      · exact .inr (ih h)
  exact this _ (List.mem_map.2 ⟨k, List.mem_range.2 h, rfl⟩)

set_option maxRecDepth 100000 in
theorem act_of {n : Nat} {cs : List Value} {x : DataW H × List MemPlace} (h : DataW.trod enc Tryz.prog W 0 (fun _ => true) true n 44 cs = some x) (hwt : ∀ n ∈ x.1.weights Tryz.prog 44, n ≤ reachBytes) :
    ∃ a : Act, a.ok ∧ ∀ j, j < 6 → cs[j]? = some (actC a j) := by
  have hrb := reachBytes_lt
  obtain ⟨ys, m, _, rfl, hl, hlen, hf⟩ := DataW.trod_struct Tryz.underlying44 h
  rw [cellsA] at hl
  have g0 := hf 0 _ rfl
  have g1 := hf 1 _ rfl
  have g2 := hf 2 _ rfl
  have g3 := hf 3 _ rfl
  clear hf
  match ys, hlen, cs, hl with
  | [y0, y1, y2, y3], _, [c0, c1, c2, c3, c4, c5], _ =>
    simp [cells3', cells9', cellsT] at g0 g1 g2 g3
    obtain ⟨kind, e0, rfl, _⟩ := DataW.trod_int Tryz.underlying3 g0
    obtain ⟨s, e1, rfl, _⟩ := DataW.trod_string Tryz.underlying9 g1
    obtain ⟨k, e2, rfl, w3⟩ := DataW.trod_int Tryz.underlying3 g2
    obtain ⟨z0, z1, m', rfl, _, f0, f1⟩ := trod_struct2 Tryz.underlying42 g3
    simp [cellsR, cells5'] at f0 f1
    obtain ⟨zs, m2, _, rfl, _, halen, ha⟩ := DataW.trod_array Tryz.underlying40 f0
    have a0 := ha 0 (by omega)
    have a1 := ha 1 (by omega)
    match zs, halen with
    | [b0, b1], _ =>
      simp [cells3'] at a0 a1
      obtain ⟨k0, e3, rfl, w4⟩ := DataW.trod_int Tryz.underlying3 a0
      obtain ⟨k1, e4, rfl, w5⟩ := DataW.trod_int Tryz.underlying3 a1
      obtain ⟨u, e5, rfl, w6⟩ := DataW.trod_int Tryz.underlying5 f1
      simp only [List.cons.injEq, and_true] at e0 e1 e2 e3 e4 e5
      subst e0 e1 e2 e3 e4 e5
      obtain ⟨q0, q1⟩ := bounds_u8 w6
      have hs : s.size ≤ 140737488355328 := by
        have := hwt s.data.toList.length (by simp [DataW.weights, Tryz.underlying44, DataW.weightsEach])
        have e3 : s.data.toList.length = s.size := by simp
        omega
      have hu : ((UInt8.ofNat u.toNat).toNat : Int) = u := by rw [UInt8.toNat_ofNat_of_lt' (by show u.toNat < 256; omega)]; omega
      refine ⟨⟨kind, s, k, k0, k1, UInt8.ofNat u.toNat⟩, ⟨(bounds_i64 w3).1, (bounds_i64 w3).2, (bounds_i64 w4).1, (bounds_i64 w4).2, (bounds_i64 w5).1, (bounds_i64 w5).2, hs⟩, fun j hj => ?_⟩
      match j, hj with
      | 0, _ => rfl
      | 1, _ => rfl
      | 2, _ => rfl
      | 3, _ => rfl
      | 4, _ => rfl
      | 5, _ => show some (Value.int .u8 u) = some (Value.int .u8 ((UInt8.ofNat u.toNat).toNat : Int)); rw [hu]

set_option maxRecDepth 100000 in
theorem arg_acts {a0 : Option Addr} {n0 c0 : Nat} {d : DataW H} {ps : List MemPlace}
    (h : DataW.Trod enc Tryz.prog W 0 (fun _ => true) true 22 (.slice a0 n0 c0) d ps) (hwt : ∀ n ∈ d.weights Tryz.prog 22, n ≤ reachBytes) :
    ∃ xs, SA W W.heap.size (.slice a0 n0 c0) xs ∧ xs.length ≤ 140737488355328 ∧ ∀ a ∈ xs, a.ok := by
  have hrb := reachBytes_lt
  obtain ⟨fuel, hf⟩ := h
  rcases open_slice Tryz.underlying22 hf with ⟨hcs, hx⟩ | ⟨a, len, cap, m, n, D, Pl, hcs, _, hl, hm, hmm, hx, hi⟩
  · simp [Value.cells] at hcs
    obtain ⟨rfl, rfl, rfl⟩ := hcs
    exact ⟨[], SA.nil _ _, by simp, by simp⟩
  · simp [Value.cells] at hcs
    obtain ⟨rfl, rfl, rfl⟩ := hcs
    simp only [Prod.mk.injEq] at hx
    obtain ⟨rfl, rfl⟩ := hx
    simp only [if_true] at hmm
    subst hmm
    have each : ∀ i, i < n0 → ∃ x : Act, x.ok ∧ ∀ j, j < 6 → W.cell? (a.add (i * 6 + j)) = some (actC x j) := by
      intro i hi0
      obtain ⟨cs', hc, ht⟩ := hi i (by omega)
      rw [cellsA] at hc
      have hw : ∀ q ∈ (D i).weights Tryz.prog 44, q ≤ reachBytes := fun q hq => hwt q (by
        simp only [DataW.weights, Tryz.underlying22]
        exact List.mem_cons.2 (.inr (List.mem_append.2 (.inl (weight_mem hi0 q hq)))))
      obtain ⟨x, hok, hx⟩ := act_of ht hw
      obtain ⟨_, hcl, hat⟩ := World.cells?_some hc
      refine ⟨x, hok, fun j hj => ?_⟩
      have hj' := hat j hj
      rw [Go.Deep.add_add] at hj'
      rw [hj']
      exact hx j hj
    obtain ⟨F, hF⟩ := choose_lt each
    have hlen : ((List.range n0).map F).length = n0 := by simp
    refine ⟨(List.range n0).map F, ?_, ?_, ?_⟩
    · refine ⟨some a, m, by rw [hlen], fun h0 => ?_⟩
      rw [hlen] at h0
      have g0 := (hF 0 h0).2 0 (by omega)
      have hcl := lt_cell g0
      rw [add_block] at hcl
      have hsp : a.spot = none := by
        rw [Nat.zero_mul, Addr.add_zero'] at g0
        cases hs : a.spot with
        | none => rfl
        | some q =>
          unfold World.cell? at g0
          rw [hs] at g0
          split at g0 <;> simp at g0
      obtain ⟨b, o, q⟩ := a
      have hq : q = none := hsp
      subst hq
      refine ⟨b, o, rfl, hcl, fun i hi j hj => ?_⟩
      have hi' : i < n0 := by rwa [hlen] at hi
      have e0 := (hF i hi').2 j hj
      rw [Addr.add_lit] at e0
      simp only [List.getElem_map, List.getElem_range]
      rw [Nat.add_assoc]
      exact e0
    · have := hwt ((((List.range n0).map D).length + ((List.range (m - n0)).map fun j => D (n0 + j)).length) * 56) (by
        simp only [DataW.weights, Tryz.underlying22, bytesA]
        exact List.mem_cons_self)
      simp at this ⊢
      omega
    · intro p hp
      obtain ⟨i, hi', rfl⟩ := List.mem_map.1 hp
      exact (hF i (List.mem_range.1 hi')).1
end

end Go.Proofs.YtglkapamkigdhaaGreatDoor.Rl
