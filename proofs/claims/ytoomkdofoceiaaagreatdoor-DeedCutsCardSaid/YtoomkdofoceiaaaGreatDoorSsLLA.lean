
/-
  How a session and a list of sessions come in, out of the form's own reading. No condition.
  What the document says follows, of sessions, reckoned without a program: noted and merged, no client's number becomes less. No condition.
-/
import Derived.Test.YtoomkdofoceiaaaGreatDoorOdLiA
import Derived.Test.YtoomkdofoceiaaaGreatDoorSsBoA
import Derived.Test.YtoomkdofoceiaaaGreatDoorSsMRA
namespace Go.Proofs.YtoomkdofoceiaaaGreatDoor.Ss
open Go.ChangeShapes Go.WideShapes Go.ChangeAt Go.RowKit Go.Joins Go.Deep
open Go.Proofs.YtoomkdofoceiaaaGreatDoor.Ds (lt_cell weight_mem cells9' cells3' cells2')
open Go.Proofs.YtoomkdofoceiaaaGreatDoor.Od (Rep SP ArgP OwnP rv LimR cellsR cells4' cellsE cellsPs arg_prs)
theorem cellsZ : Tryz.prog.cellsOf 70 = 7 := by kernel_rfl
theorem bytesZ : Tryz.prog.bytesOf 70 = 80 := by kernel_rfl
structure LimZ (s : Ses) : Prop where
  client : M.inR s.client
  seq : M.inR s.seq
  rep : LimR s.rep
instance : Inhabited Zs := ⟨(Ses.zero, .slice none 0 0)⟩
section
variable {H : Type} {enc : TypeId × Value → H} {W : World}
set_option maxRecDepth 100000 in
set_option maxHeartbeats 4000000 in
theorem rep_of {n : Nat} {cs : List Value} {x : DataW H × List MemPlace} (h : DataW.trod enc Tryz.prog W 0 (fun _ => true) true n 68 cs = some x) (hwt : ∀ n ∈ x.1.weights Tryz.prog 68, n ≤ reachBytes) :
    ∃ (o : Rep) (s : Value), cs = [.int .i64 o.code, .int .i64 o.err, .bool o.has, .string o.val, s] ∧ ArgP W s o.ps ∧ LimR o := by
  have hrb := reachBytes_lt
  obtain ⟨ys, m, _, rfl, hl, hlen, hfs⟩ := DataW.trod_struct Tryz.underlying68 h
  rw [cellsR] at hl
  have g0 := hfs 0 _ rfl
  have g1 := hfs 1 _ rfl
  have g2 := hfs 2 _ rfl
  have g3 := hfs 3 _ rfl
  have g4 := hfs 4 _ rfl
  clear hfs
  match ys, hlen, cs, hl with
  | [y0, y1, y2, y3, y4], _, [c0, c1, c2, c3, c4], _ =>
    simp [cells3', cells9', cells4', cellsE, cellsPs] at g0 g1 g2 g3 g4
    obtain ⟨x0, e0, e0', w0⟩ := DataW.trod_int Tryz.underlying3 g0
    obtain ⟨x1, e1, e1', w1⟩ := DataW.trod_int Tryz.underlying34 g1
    obtain ⟨x2, e2, e2'⟩ := DataW.trod_bool Tryz.underlying4 g2
    obtain ⟨x3, e3, e3', w3⟩ := DataW.trod_string Tryz.underlying9 g3
    simp only [List.cons.injEq, and_true] at e0 e1 e2 e3
    subst e0 e1 e2 e3
    have hw4 : ∀ n ∈ y4.1.weights Tryz.prog 27, n ≤ reachBytes := fun n hn => hwt n (by
      simp only [DataW.weights, Tryz.underlying68, List.map_cons, List.map_nil, DataW.weightsEach, List.mem_append]
      first
        | exact .inr (.inr (.inr (.inr (.inl hn))))
        | simp [hn])
    obtain ⟨ms, ha, hl1, hl2⟩ := arg_prs g4 hw4
    have hwf : x3.size ≤ 140737488355328 := by
      subst e0' e1' e2' e3'
      simp only [DataW.weights, Tryz.underlying68, List.map_cons, List.map_nil, DataW.weightsEach] at hwt
      have h3 := hwt x3.data.toList.length (by simp)
      have k3 : x3.data.toList.length = x3.size := by simp
      omega
    exact ⟨⟨x0, x1, x2, x3, ms⟩, c4, rfl, ha, ⟨bounds_i64 w0, bounds_i64 w1, hwf, hl1, hl2⟩⟩
set_option maxRecDepth 100000 in
set_option maxHeartbeats 4000000 in
theorem ses_of {n : Nat} {cs : List Value} {x : DataW H × List MemPlace} (h : DataW.trod enc Tryz.prog W 0 (fun _ => true) true n 70 cs = some x) (hwt : ∀ n ∈ x.1.weights Tryz.prog 70, n ≤ reachBytes) :
    ∃ z : Zs, cs = [.int .i64 z.1.client, .int .i64 z.1.seq, .int .i64 z.1.rep.code, .int .i64 z.1.rep.err, .bool z.1.rep.has, .string z.1.rep.val, z.2] ∧ ArgP W z.2 z.1.rep.ps ∧ LimZ z.1 := by
  obtain ⟨ys, m, _, rfl, hl, hlen, hfs⟩ := DataW.trod_struct Tryz.underlying70 h
  rw [cellsZ] at hl
  have g0 := hfs 0 _ rfl
  have g1 := hfs 1 _ rfl
  have g2 := hfs 2 _ rfl
  clear hfs
  match ys, hlen, cs, hl with
  | [y0, y1, y2], _, [c0, c1, c2, c3, c4, c5, c6], _ =>
    simp [cells2', cellsR] at g0 g1 g2
    obtain ⟨x0, e0, e0', w0⟩ := DataW.trod_int Tryz.underlying2 g0
    obtain ⟨x1, e1, e1', w1⟩ := DataW.trod_int Tryz.underlying2 g1
    simp only [List.cons.injEq, and_true] at e0 e1
    subst e0 e1
    have hw2 : ∀ n ∈ y2.1.weights Tryz.prog 68, n ≤ reachBytes := fun n hn => hwt n (by
      simp only [DataW.weights, Tryz.underlying70, List.map_cons, List.map_nil, DataW.weightsEach, List.mem_append]
      first
        | exact .inr (.inr (.inl hn))
        | simp [hn])
    obtain ⟨o, s, e2, ha, hl⟩ := rep_of g2 hw2
    simp only [List.cons.injEq, and_true] at e2
    obtain ⟨rfl, rfl, rfl, rfl, rfl⟩ := e2
    exact ⟨(⟨x0, x1, o⟩, c6), rfl, ha, ⟨bounds_i64 w0, bounds_i64 w1, hl⟩⟩
set_option maxRecDepth 100000 in
theorem arg_zss {n : Nat} {v : Value} {x : DataW H × List MemPlace}
    (hf : DataW.trod enc Tryz.prog W 0 (fun _ => true) true n 28 [v] = some x) (hwt : ∀ n ∈ x.1.weights Tryz.prog 28, n ≤ reachBytes) :
    ∃ zs, ArgZ W v zs ∧ PZ W W.heap.size zs ∧ zs.length ≤ 140737488355328 ∧ ∀ z ∈ zs, LimZ z.1 := by
  have hrb := reachBytes_lt
  rcases open_slice Tryz.underlying28 hf with ⟨hcs, hx⟩ | ⟨a, len, cap, m, n, D, Pl, hcs, _, hl, hm, hmm, hx, hi⟩
  · simp only [List.cons.injEq, and_true] at hcs
    subst hcs
    exact ⟨[], .nil, PZ.nil _ _, by simp, by simp⟩
  · simp only [List.cons.injEq, and_true] at hcs
    subst hcs
    subst hx
    simp only [if_true] at hmm
    subst hmm
    have each : ∀ i, i < len → ∃ z : Zs, (W.cell? (a.add (i * 7)) = some (.int .i64 z.1.client) ∧ W.cell? (a.add (i * 7 + 1)) = some (.int .i64 z.1.seq) ∧ W.cell? (a.add (i * 7 + 2)) = some (.int .i64 z.1.rep.code) ∧ W.cell? (a.add (i * 7 + 3)) = some (.int .i64 z.1.rep.err) ∧ W.cell? (a.add (i * 7 + 4)) = some (.bool z.1.rep.has) ∧ W.cell? (a.add (i * 7 + 5)) = some (.string z.1.rep.val) ∧ W.cell? (a.add (i * 7 + 6)) = some z.2) ∧ ArgP W z.2 z.1.rep.ps ∧ LimZ z.1 := by
      intro i hi0
      obtain ⟨cs', hc, ht⟩ := hi i (by omega)
      rw [cellsZ] at hc
      have mem : ∀ x ∈ (D i).weights Tryz.prog 70, x ≤ reachBytes := fun x hx => hwt x (by
        simp only [DataW.weights, Tryz.underlying28]
        exact List.mem_cons.2 (.inr (List.mem_append.2 (.inl (weight_mem hi0 x hx)))))
      obtain ⟨z, rfl, ha, hl⟩ := ses_of ht mem
      obtain ⟨_, _, hat⟩ := World.cells?_some hc
      have a0 := hat 0 (by omega)
      have a1 := hat 1 (by omega)
      have a2 := hat 2 (by omega)
      have a3 := hat 3 (by omega)
      have a4 := hat 4 (by omega)
      have a5 := hat 5 (by omega)
      have a6 := hat 6 (by omega)
      rw [Go.Deep.add_add] at a0 a1 a2 a3 a4 a5 a6
      exact ⟨z, ⟨a0, a1, a2, a3, a4, a5, a6⟩, ha, hl⟩
    obtain ⟨F, hF⟩ := choose_lt each
    have hlen : ((List.range len).map F).length = len := by simp
    refine ⟨(List.range len).map F, ?_, ?_, ?_, ?_⟩
    · by_cases h0 : 0 < len
      · have g0 := (hF 0 h0).1.1
        have hcl := lt_cell g0
        rw [add_block] at hcl
        have hsp : a.spot = none := by
          rw [Nat.zero_mul, Addr.add_zero'] at g0
          cases hs : a.spot with
          | none => rfl
          | some q =>
            unfold World.cell? at g0
            rw [hs] at g0
            split at g0 <;> simp at g0
        obtain ⟨b, o, q⟩ := a
        have hq : q = none := hsp
        subst hq
        have key : ArgZ W (.slice (some ⟨b, o, none⟩) ((List.range len).map F).length m) ((List.range len).map F) := by
          refine .some b o m _ (by rw [hlen]; exact hl) ⟨_, _, rfl, fun _ => ⟨b, o, rfl, hcl, fun i hi => ?_⟩⟩
          have hi' : i < len := by rwa [hlen] at hi
          obtain ⟨⟨e0, e1, e2, e3, e4, e5, e6⟩, _⟩ := hF i hi'
          rw [Addr.add_lit] at e0 e1 e2 e3 e4 e5 e6
          simp only [List.getElem_map, List.getElem_range]
          exact ⟨e0, e1, e2, e3, e4, e5, e6⟩
        rw [hlen] at key
        exact key
      · obtain rfl : len = 0 := by omega
        exact .empty a m
    · intro z hz
      obtain ⟨i, hi', rfl⟩ := List.mem_map.1 hz
      exact (hF i (List.mem_range.1 hi')).2.1.sm
    · have := hwt ((((List.range len).map D).length + ((List.range (m - len)).map fun j => D (len + j)).length) * 80) (by
        simp only [DataW.weights, Tryz.underlying28, bytesZ]
        exact List.mem_cons_self)
      simp at this ⊢
      omega
    · intro z hz
      obtain ⟨i, hi', rfl⟩ := List.mem_map.1 hz
      exact (hF i (List.mem_range.1 hi')).2.2
end
end Go.Proofs.YtoomkdofoceiaaaGreatDoor.Ss
namespace Go.Proofs.YtoomkdofoceiaaaGreatDoor.Ss
open Go.Proofs.YtoomkdofoceiaaaGreatDoor.Od (Rep isR)
end Go.Proofs.YtoomkdofoceiaaaGreatDoor.Ss
