/-
  How an order, a reply and a list of pairs come in, out of the form's own reading. No condition.
  How a list of entries' numbers comes in, out of the form's own reading. No condition.
-/
import Derived.Test.YtlcobgpgggegdaaGreatDoorDsLiftA
import Derived.Test.YtlcobgpgggegdaaGreatDoorMbLRA
import Derived.Test.YtlcobgpgggegdaaGreatDoorDpMA
namespace Go.Proofs.YtlcobgpgggegdaaGreatDoor.Od
open Go.ChangeShapes Go.WideShapes Go.ChangeAt Go.RowKit Go.Joins Go.Deep
open Ds (lt_cell weight_mem cells9' cells3' cells2')

theorem cellsO : Tryz.prog.cellsOf 40 = 11 := by kernel_rfl
theorem cells4' : Tryz.prog.cellsOf 4 = 1 := by kernel_rfl
theorem array11 {α : Type} {cs : Array α} (h : cs.size = 11) : ∃ c0 c1 c2 c3 c4 c5 c6 c7 c8 c9 c10, cs = #[c0, c1, c2, c3, c4, c5, c6, c7, c8, c9, c10] := by
  obtain ⟨l⟩ := cs
  simp at h
  match l, h with
  | [c0, c1, c2, c3, c4, c5, c6, c7, c8, c9, c10], _ => exact ⟨c0, c1, c2, c3, c4, c5, c6, c7, c8, c9, c10, rfl⟩
/-- a reply that comes in -/
structure LimR (r : Rep) : Prop where
  code : M.inR r.code
  err : M.inR r.err
  val : r.val.size ≤ 140737488355328
  n : r.ps.length ≤ 140737488355328
  ps : ∀ p ∈ r.ps, p.1.size ≤ 140737488355328 ∧ p.2.size ≤ 140737488355328

section
variable {H : Type} {enc : TypeId × Value → H} {W : World}

set_option maxRecDepth 100000 in
set_option maxHeartbeats 4000000 in
theorem arg_ask {base : Nat} {r : Reach} {v : Value} {d : DataW H} {ps : List MemPlace} (hv : Value.okWide Tryz.prog W r base 40 v) (h : DataW.Trod enc Tryz.prog W 0 (fun _ => true) true 40 v d ps) (hwt : ∀ n ∈ d.weights Tryz.prog 40, n ≤ reachBytes) :
    ∃ o : Ask, v = av o ∧ LimA o := by
  have hrb := reachBytes_lt
  obtain ⟨cs, rfl, hsz⟩ := okWide_struct Tryz.underlying40 hv
  obtain ⟨c0, c1, c2, c3, c4, c5, c6, c7, c8, c9, c10, rfl⟩ := array11 (hsz.trans cellsO)
  obtain ⟨fuel, hf⟩ := h
  obtain ⟨ys, m, _, hx, hl, hlen, hfs⟩ := DataW.trod_struct Tryz.underlying40 hf
  have g0 := hfs 0 _ rfl
  have g1 := hfs 1 _ rfl
  have g2 := hfs 2 _ rfl
  have g3 := hfs 3 _ rfl
  have g4 := hfs 4 _ rfl
  have g5 := hfs 5 _ rfl
  have g6 := hfs 6 _ rfl
  have g7 := hfs 7 _ rfl
  have g8 := hfs 8 _ rfl
  have g9 := hfs 9 _ rfl
  have g10 := hfs 10 _ rfl
  clear hfs
  match ys, hlen with
  | [y0, y1, y2, y3, y4, y5, y6, y7, y8, y9, y10], _ =>
    simp [Value.cells, cells2', cells3', cells9', cells4'] at g0 g1 g2 g3 g4 g5 g6 g7 g8 g9 g10
    obtain ⟨x0, e0, e0', w0⟩ := DataW.trod_int Tryz.underlying3 g0
    obtain ⟨x1, e1, e1', w1⟩ := DataW.trod_int Tryz.underlying2 g1
    obtain ⟨x2, e2, e2', w2⟩ := DataW.trod_int Tryz.underlying2 g2
    obtain ⟨x3, e3, e3', w3⟩ := DataW.trod_string Tryz.underlying9 g3
    obtain ⟨x4, e4, e4', w4⟩ := DataW.trod_string Tryz.underlying9 g4
    obtain ⟨x5, e5, e5', w5⟩ := DataW.trod_string Tryz.underlying9 g5
    obtain ⟨x6, e6, e6', w6⟩ := DataW.trod_string Tryz.underlying9 g6
    obtain ⟨x7, e7, e7'⟩ := DataW.trod_bool Tryz.underlying4 g7
    obtain ⟨x8, e8, e8', w8⟩ := DataW.trod_int Tryz.underlying3 g8
    obtain ⟨x9, e9, e9', w9⟩ := DataW.trod_int Tryz.underlying2 g9
    obtain ⟨x10, e10, e10', w10⟩ := DataW.trod_int Tryz.underlying3 g10
    simp only [List.cons.injEq, and_true] at e0 e1 e2 e3 e4 e5 e6 e7 e8 e9 e10
    subst e0 e1 e2 e3 e4 e5 e6 e7 e8 e9 e10
    simp only [Prod.mk.injEq] at hx
    obtain ⟨rfl, _⟩ := hx
    have hwf : x3.size ≤ 140737488355328 ∧ x4.size ≤ 140737488355328 ∧ x5.size ≤ 140737488355328 ∧ x6.size ≤ 140737488355328 := by
      subst e0' e1' e2' e3' e4' e5' e6' e7' e8' e9' e10'
      simp only [DataW.weights, Tryz.underlying40, List.map_cons, List.map_nil, DataW.weightsEach] at hwt
      have h3 := hwt x3.data.toList.length (by simp)
      have k3 : x3.data.toList.length = x3.size := by simp
      have h4 := hwt x4.data.toList.length (by simp)
      have k4 : x4.data.toList.length = x4.size := by simp
      have h5 := hwt x5.data.toList.length (by simp)
      have k5 : x5.data.toList.length = x5.size := by simp
      have h6 := hwt x6.data.toList.length (by simp)
      have k6 : x6.data.toList.length = x6.size := by simp
      exact ⟨by omega, by omega, by omega, by omega⟩
    exact ⟨⟨x0, x1, x2, x3, x4, x5, x6, x7, x8, x9, x10⟩, rfl, ⟨⟨bounds_i64 w0, bounds_i64 w1, bounds_i64 w2, bounds_i64 w8, bounds_i64 w9, bounds_i64 w10⟩, hwf.1, hwf.2.1, hwf.2.2.1, hwf.2.2.2⟩⟩

end
end Go.Proofs.YtlcobgpgggegdaaGreatDoor.Od

namespace Go.Proofs.YtlcobgpgggegdaaGreatDoor.Mb
open Go.ChangeShapes Go.WideShapes Go.ChangeAt Go.RowKit Go.Joins Go.Deep
open Go.Proofs.YtlcobgpgggegdaaGreatDoor.Dp (SI)
open Go.Proofs.YtlcobgpgggegdaaGreatDoor.Ds (cells2' lt_cell laidOutAll)

theorem bytesJ : Tryz.prog.bytesOf 2 = 8 := by kernel_rfl
theorem no_spot {w : World} {a : Addr} {v : Value} (h : w.cell? a = some v) : a.spot = none := by
  cases hs : a.spot with
  | none => rfl
  | some q =>
    unfold World.cell? at h
    rw [hs] at h
    split at h <;> simp at h

section
variable {H : Type} {enc : TypeId × Value → H} {W : World}

set_option maxRecDepth 100000 in
theorem arg_ints {a0 : Option Addr} {n0 c0 : Nat} {d : DataW H} {ps : List MemPlace}
    (h : DataW.Trod enc Tryz.prog W 0 (fun _ => true) true 36 (.slice a0 n0 c0) d ps) (hwt : ∀ n ∈ d.weights Tryz.prog 36, n ≤ reachBytes) :
    ∃ xs, SI W W.heap.size (.slice a0 n0 c0) xs ∧ (∀ n ∈ xs, Go.Proofs.YtlcobgpgggegdaaGreatDoor.M.inR n) ∧ xs.length ≤ 140737488355328 := by
  have hrb := reachBytes_lt
  obtain ⟨fuel, hf⟩ := h
  rcases open_slice Tryz.underlying36 hf with ⟨hcs, hx⟩ | ⟨a, len, cap, m, n, D, Pl, hcs, _, hl, hm, hmm, hx, hi⟩
  · simp [Value.cells] at hcs
    obtain ⟨rfl, rfl, rfl⟩ := hcs
    exact ⟨[], ⟨none, 0, rfl, fun h => absurd h (by simp)⟩, (fun n h => by cases h), by simp⟩
  · simp [Value.cells] at hcs
    obtain ⟨rfl, rfl, rfl⟩ := hcs
    simp only [Prod.mk.injEq] at hx
    obtain ⟨rfl, rfl⟩ := hx
    simp only [if_true] at hmm
    subst hmm
    have each : ∀ i, i < n0 → ∃ x : Int, W.cell? (a.add i) = some (.int .i64 x) ∧ Go.Proofs.YtlcobgpgggegdaaGreatDoor.M.inR x := by
      intro i hi0
      obtain ⟨cs', hc, ht⟩ := hi i (by omega)
      rw [cells2'] at hc
      obtain ⟨x, e0, _, w0⟩ := DataW.trod_int Tryz.underlying2 ht
      subst e0
      obtain ⟨_, hcl, hat⟩ := World.cells?_some hc
      have j0 := hat 0 (by omega)
      rw [Go.Deep.add_add, Nat.mul_one] at j0
      exact ⟨x, j0, bounds_i64 w0⟩
    obtain ⟨F, hF⟩ := choose_lt each
    have hlen : ((List.range n0).map F).length = n0 := by simp
    refine ⟨(List.range n0).map F, ?_, ?_, ?_⟩
    · refine ⟨some a, m, by rw [hlen], fun h0 => ?_⟩
      rw [hlen] at h0
      have g0 := (hF 0 h0).1
      have hcl := lt_cell g0
      rw [add_block] at hcl
      rw [Addr.add_zero'] at g0
      have hsp := no_spot g0
      obtain ⟨b, o, q⟩ := a
      have hq : q = none := hsp
      subst hq
      refine ⟨b, o, rfl, hcl, fun i hi => ?_⟩
      have e0 := (hF i (by rwa [hlen] at hi)).1
      rw [Addr.add_lit] at e0
      simp only [List.getElem_map, List.getElem_range]
      exact e0
    · intro n hn
      obtain ⟨i, hi, rfl⟩ := List.mem_map.1 hn
      exact (hF i (List.mem_range.1 hi)).2
    · have := hwt ((((List.range n0).map D).length + ((List.range (m - n0)).map fun j => D (n0 + j)).length) * 8) (by
        simp only [DataW.weights, Tryz.underlying36, bytesJ]
        exact List.mem_cons_self)
      simp at this ⊢
      omega
end
end Go.Proofs.YtlcobgpgggegdaaGreatDoor.Mb
