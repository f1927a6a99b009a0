/-
  How an order, a reply and a list of pairs come in, out of the form's own reading. No condition.
-/
import Derived.Test.YticikmkehobblaaDoorDsLiftA
import Derived.Test.YticikmkehobblaaDoorOdLawB
namespace Go.Proofs.YticikmkehobblaaDoor.Od
open Go.ChangeShapes Go.WideShapes Go.ChangeAt Go.RowKit Go.Joins Go.Deep
open Ds (lt_cell weight_mem cells9' cells3' cells2')

theorem cellsR : Tryd.prog.cellsOf 26 = 5 := by kernel_rfl
theorem cellsP : Tryd.prog.cellsOf 49 = 2 := by kernel_rfl
theorem cellsPs : Tryd.prog.cellsOf 24 = 1 := by kernel_rfl
theorem cells4' : Tryd.prog.cellsOf 4 = 1 := by kernel_rfl
theorem cellsE : Tryd.prog.cellsOf 23 = 1 := by kernel_rfl
theorem bytesP : Tryd.prog.bytesOf 49 = 32 := by kernel_rfl
theorem array11 {α : Type} {cs : Array α} (h : cs.size = 11) : ∃ c0 c1 c2 c3 c4 c5 c6 c7 c8 c9 c10, cs = #[c0, c1, c2, c3, c4, c5, c6, c7, c8, c9, c10] := by
  obtain ⟨l⟩ := cs
  simp at h
  match l, h with
  | [c0, c1, c2, c3, c4, c5, c6, c7, c8, c9, c10], _ => exact ⟨c0, c1, c2, c3, c4, c5, c6, c7, c8, c9, c10, rfl⟩
theorem array5 {α : Type} {cs : Array α} (h : cs.size = 5) : ∃ c0 c1 c2 c3 c4, cs = #[c0, c1, c2, c3, c4] := by
  obtain ⟨l⟩ := cs
  simp at h
  match l, h with
  | [c0, c1, c2, c3, c4], _ => exact ⟨c0, c1, c2, c3, c4, rfl⟩
/-- a reply that comes in -/
structure LimR (r : Rep) : Prop where
  code : M.inR r.code
  err : M.inR r.err
  val : r.val.size ≤ 140737488355328
  n : r.ps.length ≤ 140737488355328
  ps : ∀ p ∈ r.ps, p.1.size ≤ 140737488355328 ∧ p.2.size ≤ 140737488355328

section
variable {H : Type} {enc : TypeId × Value → H} {W : World}

set_option maxRecDepth 100000 in
theorem arg_prs {n : Nat} {v : Value} {x : DataW H × List MemPlace}
    (hf : DataW.trod enc Tryd.prog W 0 (fun _ => true) true n 24 [v] = some x) (hwt : ∀ n ∈ x.1.weights Tryd.prog 24, n ≤ reachBytes) :
    ∃ ms, ArgP W v ms ∧ ms.length ≤ 140737488355328 ∧ ∀ m ∈ ms, m.1.size ≤ 140737488355328 ∧ m.2.size ≤ 140737488355328 := by
  have hrb := reachBytes_lt
  rcases open_slice Tryd.underlying24 hf with ⟨hcs, hx⟩ | ⟨a, len, cap, m, n, D, Pl, hcs, _, hl, hm, hmm, hx, hi⟩
  · simp only [List.cons.injEq, and_true] at hcs
    subst hcs
    exact ⟨[], .nil, by simp, by simp⟩
  · simp only [List.cons.injEq, and_true] at hcs
    subst hcs
    subst hx
    simp only [if_true] at hmm
    subst hmm
    have each : ∀ i, i < len → ∃ p : Pr, W.cell? (a.add (i * 2)) = some (.string p.1) ∧ W.cell? (a.add (i * 2 + 1)) = some (.string p.2) ∧ D i = .agg [.lit (.string p.1.data.toList), .lit (.string p.2.data.toList)] := by
      intro i hi0
      obtain ⟨cs', hc, ht⟩ := hi i (by omega)
      rw [cellsP] at hc
      obtain ⟨y0, y1, n', hy, hlen, g0, g1⟩ := trod_struct2 Tryd.underlying49 ht
      obtain ⟨_, hcl, hat⟩ := World.cells?_some hc
      rw [cells9'] at g0 g1
      match cs', hcl with
      | [u0, u1], _ =>
        obtain ⟨f, e0, rfl, _⟩ := DataW.trod_string Tryd.underlying9 g0
        obtain ⟨t, e1, rfl, _⟩ := DataW.trod_string Tryd.underlying9 g1
        simp at e0 e1
        subst e0 e1
        have a0 := hat 0 (by omega)
        have a1 := hat 1 (by omega)
        rw [Go.Deep.add_add] at a0 a1
        simp only [Prod.mk.injEq] at hy
        exact ⟨(f, t), a0, a1, hy.1⟩
    obtain ⟨F, hF⟩ := choose_lt each
    have hlen : ((List.range len).map F).length = len := by simp
    refine ⟨(List.range len).map F, ?_, ?_, ?_⟩
    · by_cases h0 : 0 < len
      · have g0 := (hF 0 h0).1
        have hcl := lt_cell g0
        rw [add_block] at hcl
        have hsp : a.spot = none := by
          rw [Nat.zero_mul, Addr.add_zero'] at g0
          cases hs : a.spot with
          | none => rfl
          | some q =>
            unfold World.cell? at g0
            rw [hs] at g0
            split at g0 <;> simp at g0
        obtain ⟨b, o, q⟩ := a
        have hq : q = none := hsp
        subst hq
        have key : ArgP W (.slice (some ⟨b, o, none⟩) ((List.range len).map F).length m) ((List.range len).map F) := by
          refine .some b o m _ ⟨_, _, rfl, fun _ => ⟨b, o, rfl, hcl, fun i hi => ?_⟩⟩
          have hi' : i < len := by rwa [hlen] at hi
          obtain ⟨e0, e1, _⟩ := hF i hi'
          rw [Addr.add_lit] at e0 e1
          simp only [List.getElem_map, List.getElem_range]
          exact ⟨e0, e1⟩
        rw [hlen] at key
        exact key
      · obtain rfl : len = 0 := by omega
        exact .empty a m
    · have := hwt ((((List.range len).map D).length + ((List.range (m - len)).map fun j => D (len + j)).length) * 32) (by
        simp only [DataW.weights, Tryd.underlying24, bytesP]
        exact List.mem_cons_self)
      simp at this ⊢
      omega
    · intro p hp
      obtain ⟨i, hi', rfl⟩ := List.mem_map.1 hp
      have hi' := List.mem_range.1 hi'
      obtain ⟨_, _, e⟩ := hF i hi'
      have mem : ∀ x ∈ (D i).weights Tryd.prog 49, x ≤ reachBytes := fun x hx => hwt x (by
        simp only [DataW.weights, Tryd.underlying24]
        exact List.mem_cons.2 (.inr (List.mem_append.2 (.inl (weight_mem hi' x hx)))))
      rw [e] at mem
      simp only [DataW.weights, Tryd.underlying49, List.map_cons, List.map_nil, DataW.weightsEach] at mem
      have h1 := mem (F i).1.data.toList.length (by simp)
      have h2 := mem (F i).2.data.toList.length (by simp)
      have e3 : (F i).1.data.toList.length = (F i).1.size := by simp
      have e4 : (F i).2.data.toList.length = (F i).2.size := by simp
      exact ⟨by omega, by omega⟩

set_option maxRecDepth 100000 in
set_option maxHeartbeats 4000000 in
theorem arg_rep {base : Nat} {r : Reach} {v : Value} {d : DataW H} {ps : List MemPlace} (hv : Value.okWide Tryd.prog W r base 26 v) (h : DataW.Trod enc Tryd.prog W 0 (fun _ => true) true 26 v d ps) (hwt : ∀ n ∈ d.weights Tryd.prog 26, n ≤ reachBytes) :
    ∃ (o : Rep) (s : Value), v = rv o s ∧ ArgP W s o.ps ∧ LimR o := by
  have hrb := reachBytes_lt
  obtain ⟨cs, rfl, hsz⟩ := okWide_struct Tryd.underlying26 hv
  obtain ⟨c0, c1, c2, c3, c4, rfl⟩ := array5 (hsz.trans cellsR)
  obtain ⟨fuel, hf⟩ := h
  obtain ⟨ys, m, _, hx, hl, hlen, hfs⟩ := DataW.trod_struct Tryd.underlying26 hf
  have g0 := hfs 0 _ rfl
  have g1 := hfs 1 _ rfl
  have g2 := hfs 2 _ rfl
  have g3 := hfs 3 _ rfl
  have g4 := hfs 4 _ rfl
  clear hfs
  match ys, hlen with
  | [y0, y1, y2, y3, y4], _ =>
    simp [Value.cells, cells3', cells9', cells4', cellsE, cellsPs] at g0 g1 g2 g3 g4
    obtain ⟨x0, e0, e0', w0⟩ := DataW.trod_int Tryd.underlying3 g0
    obtain ⟨x1, e1, e1', w1⟩ := DataW.trod_int Tryd.underlying23 g1
    obtain ⟨x2, e2, e2'⟩ := DataW.trod_bool Tryd.underlying4 g2
    obtain ⟨x3, e3, e3', w3⟩ := DataW.trod_string Tryd.underlying9 g3
    simp only [List.cons.injEq, and_true] at e0 e1 e2 e3
    subst e0 e1 e2 e3
    simp only [Prod.mk.injEq] at hx
    obtain ⟨rfl, _⟩ := hx
    have hw4 : ∀ n ∈ y4.1.weights Tryd.prog 24, n ≤ reachBytes := fun n hn => hwt n (by
      simp only [DataW.weights, Tryd.underlying26, List.map_cons, List.map_nil, DataW.weightsEach, List.mem_append]
      first
        | exact .inr (.inr (.inr (.inr (.inl hn))))
        | simp [hn])
    obtain ⟨ms, ha, hl1, hl2⟩ := arg_prs g4 hw4
    have hwf : x3.size ≤ 140737488355328 := by
      subst e0' e1' e2' e3'
      simp only [DataW.weights, Tryd.underlying26, List.map_cons, List.map_nil, DataW.weightsEach] at hwt
      have h3 := hwt x3.data.toList.length (by simp)
      have k3 : x3.data.toList.length = x3.size := by simp
      omega
    exact ⟨⟨x0, x1, x2, x3, ms⟩, c4, rfl, ha, ⟨bounds_i64 w0, bounds_i64 w1, hwf, hl1, hl2⟩⟩
end
end Go.Proofs.YticikmkehobblaaDoor.Od

