/-
  How a list of entries' numbers comes in, out of the form's own reading. No condition.
  How a list of entries' numbers comes in, and where it lies. No condition.
-/
import Derived.Test.YtlcobgpgggegdaaGreatDoorDsLiftA
import Derived.Test.YtlcobgpgggegdaaGreatDoorDpMA
namespace Go.Proofs.YtlcobgpgggegdaaGreatDoor.Mb
open Go.ChangeShapes Go.WideShapes Go.ChangeAt Go.RowKit Go.Joins Go.Deep
open Go.Proofs.YtlcobgpgggegdaaGreatDoor.Dp (SI)
open Go.Proofs.YtlcobgpgggegdaaGreatDoor.Ds (cells2' lt_cell laidOutAll)

theorem bytesJ : Tryz.prog.bytesOf 2 = 8 := by kernel_rfl
theorem no_spot {w : World} {a : Addr} {v : Value} (h : w.cell? a = some v) : a.spot = none := by
  cases hs : a.spot with
  | none => rfl
  | some q =>
    unfold World.cell? at h
    rw [hs] at h
    split at h <;> simp at h

section
variable {H : Type} {enc : TypeId × Value → H} {W : World}

set_option maxRecDepth 100000 in
theorem arg_ints {a0 : Option Addr} {n0 c0 : Nat} {d : DataW H} {ps : List MemPlace}
    (h : DataW.Trod enc Tryz.prog W 0 (fun _ => true) true 36 (.slice a0 n0 c0) d ps) (hwt : ∀ n ∈ d.weights Tryz.prog 36, n ≤ reachBytes) :
    ∃ xs, SI W W.heap.size (.slice a0 n0 c0) xs ∧ (∀ n ∈ xs, Go.Proofs.YtlcobgpgggegdaaGreatDoor.M.inR n) ∧ xs.length ≤ 140737488355328 := by
  have hrb := reachBytes_lt
  obtain ⟨fuel, hf⟩ := h
  rcases open_slice Tryz.underlying36 hf with ⟨hcs, hx⟩ | ⟨a, len, cap, m, n, D, Pl, hcs, _, hl, hm, hmm, hx, hi⟩
  · simp [Value.cells] at hcs
    obtain ⟨rfl, rfl, rfl⟩ := hcs
    exact ⟨[], ⟨none, 0, rfl, fun h => absurd h (by simp)⟩, (fun n h => by cases h), by simp⟩
  · simp [Value.cells] at hcs
    obtain ⟨rfl, rfl, rfl⟩ := hcs
    simp only [Prod.mk.injEq] at hx
    obtain ⟨rfl, rfl⟩ := hx
    simp only [if_true] at hmm
    subst hmm
    have each : ∀ i, i < n0 → ∃ x : Int, W.cell? (a.add i) = some (.int .i64 x) ∧ Go.Proofs.YtlcobgpgggegdaaGreatDoor.M.inR x := by
      intro i hi0
      obtain ⟨cs', hc, ht⟩ := hi i (by omega)
      rw [cells2'] at hc
      obtain ⟨x, e0, _, w0⟩ := DataW.trod_int Tryz.underlying2 ht
      subst e0
      obtain ⟨_, hcl, hat⟩ := World.cells?_some hc
      have j0 := hat 0 (by omega)
      rw [Go.Deep.add_add, Nat.mul_one] at j0
      exact ⟨x, j0, bounds_i64 w0⟩
    obtain ⟨F, hF⟩ := choose_lt each
    have hlen : ((List.range n0).map F).length = n0 := by simp
    refine ⟨(List.range n0).map F, ?_, ?_, ?_⟩
    · refine ⟨some a, m, by rw [hlen], fun h0 => ?_⟩
      rw [hlen] at h0
      have g0 := (hF 0 h0).1
      have hcl := lt_cell g0
      rw [add_block] at hcl
      rw [Addr.add_zero'] at g0
      have hsp := no_spot g0
      obtain ⟨b, o, q⟩ := a
      have hq : q = none := hsp
      subst hq
      refine ⟨b, o, rfl, hcl, fun i hi => ?_⟩
      have e0 := (hF i (by rwa [hlen] at hi)).1
      rw [Addr.add_lit] at e0
      simp only [List.getElem_map, List.getElem_range]
      exact e0
    · intro n hn
      obtain ⟨i, hi, rfl⟩ := List.mem_map.1 hn
      exact (hF i (List.mem_range.1 hi)).2
    · have := hwt ((((List.range n0).map D).length + ((List.range (m - n0)).map fun j => D (n0 + j)).length) * 8) (by
        simp only [DataW.weights, Tryz.underlying36, bytesJ]
        exact List.mem_cons_self)
      simp at this ⊢
      omega
end
end Go.Proofs.YtlcobgpgggegdaaGreatDoor.Mb

namespace Go.Proofs.YtlcobgpgggegdaaGreatDoor.Mb
open Go.ChangeShapes Go.WideShapes Go.ChangeAt Go.RowKit Go.Joins Go.Deep
open Go.Proofs.YtlcobgpgggegdaaGreatDoor.Dp (SI ArgI)

section
variable {H : Type} {enc : TypeId × Value → H} {W : World}

theorem arg_none {a0 : Option Addr} {n0 c0 : Nat} {d : DataW H} {ps : List MemPlace}
    (h : DataW.Trod enc Tryz.prog W 0 (fun _ => true) true 36 (.slice a0 n0 c0) d ps) : a0 = none → n0 = 0 ∧ c0 = 0 := by
  obtain ⟨fuel, hf⟩ := h
  rcases open_slice Tryz.underlying36 hf with ⟨hcs, _⟩ | ⟨a, len, cap, m, n, D, Pl, hcs, _⟩
  · simp [Value.cells] at hcs
    obtain ⟨rfl, rfl, rfl⟩ := hcs
    exact fun _ => ⟨rfl, rfl⟩
  · simp [Value.cells] at hcs
    obtain ⟨rfl, rfl, rfl⟩ := hcs
    intro h
    cases h
theorem arg_list {a0 : Option Addr} {n0 c0 : Nat} {d : DataW H} {ps : List MemPlace}
    (h : DataW.Trod enc Tryz.prog W 0 (fun _ => true) true 36 (.slice a0 n0 c0) d ps) (hwt : ∀ n ∈ d.weights Tryz.prog 36, n ≤ reachBytes) :
    ∃ xs, ArgI W (.slice a0 n0 c0) xs ∧ (∀ n ∈ xs, Go.Proofs.YtlcobgpgggegdaaGreatDoor.M.inR n) ∧ xs.length ≤ 140737488355328 := by
  have hno := arg_none h
  obtain ⟨xs, hsi, hin, hl⟩ := arg_ints h hwt
  refine ⟨xs, ?_, hin, hl⟩
  obtain ⟨A, c, e, hc⟩ := hsi
  injection e with e1 e2 e3
  subst e1 e2 e3
  match a0, hno, hc with
  | none, hno, _ =>
    obtain ⟨h0, rfl⟩ := hno rfl
    obtain rfl := List.length_eq_zero_iff.1 h0
    exact .nil
  | some ad, _, hc =>
    by_cases h0 : 0 < xs.length
    · obtain ⟨b, o, e, hb, hq⟩ := hc h0
      injection e with e
      subst e
      exact .some b o c0 xs ⟨_, _, rfl, fun _ => ⟨b, o, rfl, hb, hq⟩⟩
    · have hz : xs.length = 0 := by omega
      obtain rfl := List.length_eq_zero_iff.1 hz
      exact .empty ad c0
end
end Go.Proofs.YtlcobgpgggegdaaGreatDoor.Mb
