/-
  What each row of this seat gives the walks: the library's variables; and a state that fits. No condition.
  How a roll and a list of entries come in, out of the form's own reading. No condition.
-/
import Derived.Test.YtimodohcihnoiaaDoorRoLive
import Derived.Test.YtimodohcihnoiaaDoorCards
import Derived.Test.YtimodohcihnoiaaDoorTie
import Derived.ProofKit
import Derived.OpenShut
import Derived.LaidMore
import Derived.SizedLaws
import Derived.Deep.DeepHandedRow
import Derived.Deep.DeepWitnessRowRef
import Derived.Lib.LaidTab
import Derived.Stop.LaidErr
import Derived.Stop.Joined
import Derived.Shelf.LaysM
import Derived.Lib.SmallJoins
import Derived.Deep.Slices
import Derived.Deep.Fields
import Derived.ChangeSame
import Derived.Carry
namespace Go.Proofs.YtimodohcihnoiaaDoor
open Go.ChangeShapes Go.WideShapes Go.ChangeAt Go.RowKit

/-- the list that every row of this seat bears -/
abbrev laidL : List (String × DataW Unit) := Rows.rollChecksRow.laid

theorem own : ownKnob Tryd.prog.godebug = none := by kernel_rfl
theorem gSyn : Tryd.prog.globalNamed "strconv.ErrSyntax" = some 1 := by kernel_rfl
theorem gSynT : (Tryd.prog.globals[1]?).map (·.type) = some 90 := by kernel_rfl
theorem gRng : Tryd.prog.globalNamed "strconv.ErrRange" = some 2 := by kernel_rfl
theorem gRngT : (Tryd.prog.globals[2]?).map (·.type) = some 90 := by kernel_rfl
theorem star : ("*errors.errorString" : String) = "*" ++ "errors.errorString" := by decide
theorem rowErr (u : TypeId) (h : Tryd.prog.typeName? 3 u = some "*errors.errorString") : u = 122 :=
  typeName_ptr_named (nm := "errors.errorString") (by rw [← star]; kernel_rfl) (by kernel_rfl) (by decide) u (by rw [← star]; exact h)
theorem cellsErr : Tryd.prog.cellsOf 124 = 1 := by kernel_rfl
theorem cells9 : Tryd.prog.cellsOf 9 = 1 := by kernel_rfl

/-- WHAT THE ROW's LIST AND THE WORLD's SHAPE GIVE: the library's variables. -/
theorem good_of {W : World} (h : laidMetH Tryd.prog laidL W) (hsh : W.ShapedOpen Tryd.prog) : Good W := by
  obtain ⟨m, hm⟩ := Go.Proofs.cell_of_shapedOpen_int (zero := #[.int .i64 0]) (t := 3) (g := 0) hsh (of_decide_eq_true (by kernel_rfl)) (by kernel_rfl) rfl (by kernel_rfl) (by kernel_rfl) Tryd.underlying3
  rw [MakeChecks.laidMetH_plain _ _ _ (by kernel_rfl)] at h
  have h3 := h.tail.tail.tail
  obtain ⟨a1, s1, hv1, _⟩ := laid_sentinel h3 gRng gRngT Tryd.underlying90 rowErr Tryd.underlying122 Tryd.underlying124 rfl rfl Tryd.underlying9 cellsErr cells9
  obtain ⟨a0, s0, hv0, _⟩ := laid_sentinel h3.tail gSyn gSynT Tryd.underlying90 rowErr Tryd.underlying122 Tryd.underlying124 rfl rfl Tryd.underlying9 cellsErr cells9
  have c0 := World.var?_cell gSyn hv0 0
  have c1 := World.var?_cell gRng hv1 0
  have s0 := Lib.lt_of_cell c0
  have s1 := Lib.lt_of_cell c1
  have s2 := Lib.lt_of_cell hm
  simp only at s0 s1 s2
  exact ⟨by omega, ⟨_, c0, .inr ⟨_, _, rfl⟩⟩, ⟨_, c1, .inr ⟨_, _, rfl⟩⟩, ⟨m, hm⟩⟩

/-- The door's own heap meets the list: three closed facts. -/
theorem door_met (os : Os) (args : Array Value) : laidMetH Tryd.prog laidL ((World.doorLaid Tryd.prog 400 os).forCall (fun _ _ => 0) ⟨#[], args, []⟩).memory :=
  laidMetH_of_parts3 (fuel := 8) (laidMet_of_run' 8 (by kernel_rfl) (by kernel_rfl)) (by kernel_rfl) (by kernel_rfl)

end Go.Proofs.YtimodohcihnoiaaDoor

namespace Go.Proofs.YtimodohcihnoiaaDoor.Ro
open Go.ChangeShapes Go.WideShapes Go.ChangeAt Go.RowKit Go.Joins Go.Deep

theorem laidOutAll : laidOutB Tryd.prog = true := by kernel_rfl
theorem cellsE : Tryd.prog.cellsOf 54 = 2 := by kernel_rfl
theorem cellsEs : Tryd.prog.cellsOf 22 = 1 := by kernel_rfl
theorem cellsLg : Tryd.prog.cellsOf 24 = 3 := by kernel_rfl
theorem cells9' : Tryd.prog.cellsOf 9 = 1 := by kernel_rfl
theorem cells2' : Tryd.prog.cellsOf 2 = 1 := by kernel_rfl
theorem bytesE : Tryd.prog.bytesOf 54 = 24 := by kernel_rfl
theorem array3 {α : Type} {cs : Array α} (h : cs.size = 3) : ∃ c0 c1 c2, cs = #[c0, c1, c2] := by
  obtain ⟨l⟩ := cs
  match l, h with
  | [c0, c1, c2], _ => exact ⟨c0, c1, c2, rfl⟩
theorem lt_cell {w : World} {a : Addr} {v : Value} (h : w.cell? a = some v) : a.block < w.heap.size := by
  rcases Nat.lt_or_ge a.block w.heap.size with h1 | h1
  · exact h1
  · simp [World.cell?, Array.getElem?_eq_none h1] at h

/-- a roll that comes in -/
structure LimL (r : Lg) : Prop where
  base : M.inR r.base
  bt : M.inR r.bt
  n : r.es.length ≤ 140737488355328
  es : ∀ m ∈ r.es, M.inR m.1 ∧ m.2.size ≤ 140737488355328

section
variable {H : Type} {enc : TypeId × Value → H} {W : World}

theorem weight_mem {D : Nat → DataW H} {n k : Nat} {e : TypeId} (h : k < n) (x : Nat) (hx : x ∈ (D k).weights Tryd.prog e) : x ∈ DataW.weightsAll Tryd.prog e ((List.range n).map D) := by
  have : ∀ l : List (DataW H), D k ∈ l → x ∈ DataW.weightsAll Tryd.prog e l := by
    intro l
    induction l with
    | nil => intro h; cases h
    | cons y l ih =>
      intro h
      simp only [DataW.weightsAll, List.mem_append]
      rcases List.mem_cons.1 h with rfl | h
      · exact .inl hx
      · exact .inr (ih h)
  exact this _ (List.mem_map.2 ⟨k, List.mem_range.2 h, rfl⟩)

set_option maxRecDepth 100000 in
theorem arg_entss {n : Nat} {v : Value} {x : DataW H × List MemPlace}
    (hf : DataW.trod enc Tryd.prog W 0 (fun _ => true) true n 22 [v] = some x) (hwt : ∀ n ∈ x.1.weights Tryd.prog 22, n ≤ reachBytes) :
    ∃ ms, ArgE W v ms ∧ ms.length ≤ 140737488355328 ∧ ∀ m ∈ ms, M.inR m.1 ∧ m.2.size ≤ 140737488355328 := by
  have hrb := reachBytes_lt
  rcases open_slice Tryd.underlying22 hf with ⟨hcs, hx⟩ | ⟨a, len, cap, m, n, D, Pl, hcs, _, hl, hm, hmm, hx, hi⟩
  · simp only [List.cons.injEq, and_true] at hcs
    subst hcs
    exact ⟨[], .nil, by simp, by simp⟩
  · simp only [List.cons.injEq, and_true] at hcs
    subst hcs
    subst hx
    simp only [if_true] at hmm
    subst hmm
    have each : ∀ i, i < len → ∃ p : En, W.cell? (a.add (i * 2)) = some (.int .i64 p.1) ∧ W.cell? (a.add (i * 2 + 1)) = some (.string p.2) ∧ M.inR p.1 ∧ D i = .agg [.lit (.int .i64 p.1), .lit (.string p.2.data.toList)] := by
      intro i hi0
      obtain ⟨cs', hc, ht⟩ := hi i (by omega)
      rw [cellsE] at hc
      obtain ⟨y0, y1, n', hy, hlen, g0, g1⟩ := trod_struct2 Tryd.underlying54 ht
      obtain ⟨_, hcl, hat⟩ := World.cells?_some hc
      rw [cells2'] at g0
      rw [cells9'] at g1
      match cs', hcl with
      | [u0, u1], _ =>
        obtain ⟨f, e0, rfl, w0⟩ := DataW.trod_int Tryd.underlying2 g0
        obtain ⟨t, e1, rfl, _⟩ := DataW.trod_string Tryd.underlying9 g1
        simp at e0 e1
        subst e0 e1
        have a0 := hat 0 (by omega)
        have a1 := hat 1 (by omega)
        rw [Go.Deep.add_add] at a0 a1
        simp only [Prod.mk.injEq] at hy
        exact ⟨(f, t), a0, a1, bounds_i64 w0, hy.1⟩
    obtain ⟨F, hF⟩ := choose_lt each
    have hlen : ((List.range len).map F).length = len := by simp
    refine ⟨(List.range len).map F, ?_, ?_, ?_⟩
    · by_cases h0 : 0 < len
      · have g0 := (hF 0 h0).1
        have hcl := lt_cell g0
        rw [add_block] at hcl
        have hsp : a.spot = none := by
          rw [Nat.zero_mul, Addr.add_zero'] at g0
          cases hs : a.spot with
          | none => rfl
          | some q =>
            unfold World.cell? at g0
            rw [hs] at g0
            split at g0 <;> simp at g0
        obtain ⟨b, o, q⟩ := a
        have hq : q = none := hsp
        subst hq
        have key : ArgE W (.slice (some ⟨b, o, none⟩) ((List.range len).map F).length m) ((List.range len).map F) := by
          refine .some b o m _ (by rw [hlen]; exact hl) ⟨_, _, rfl, fun _ => ⟨b, o, rfl, hcl, fun i hi => ?_⟩⟩
          have hi' : i < len := by rwa [hlen] at hi
          obtain ⟨e0, e1, _, _⟩ := hF i hi'
          rw [Addr.add_lit] at e0 e1
          simp only [List.getElem_map, List.getElem_range]
          exact ⟨e0, e1⟩
        rw [hlen] at key
        exact key
      · obtain rfl : len = 0 := by omega
        exact .empty a m
    · have := hwt ((((List.range len).map D).length + ((List.range (m - len)).map fun j => D (len + j)).length) * 24) (by
        simp only [DataW.weights, Tryd.underlying22, bytesE]
        exact List.mem_cons_self)
      simp at this ⊢
      omega
    · intro p hp
      obtain ⟨i, hi', rfl⟩ := List.mem_map.1 hp
      have hi' := List.mem_range.1 hi'
      obtain ⟨_, _, e9, e⟩ := hF i hi'
      have mem : ∀ x ∈ (D i).weights Tryd.prog 54, x ≤ reachBytes := fun x hx => hwt x (by
        simp only [DataW.weights, Tryd.underlying22]
        exact List.mem_cons.2 (.inr (List.mem_append.2 (.inl (weight_mem hi' x hx)))))
      rw [e] at mem
      simp only [DataW.weights, Tryd.underlying54, List.map_cons, List.map_nil, DataW.weightsEach] at mem
      have h2 := mem (F i).2.data.toList.length (by simp)
      have e4 : (F i).2.data.toList.length = (F i).2.size := by simp
      exact ⟨e9, by omega⟩

set_option maxRecDepth 100000 in
set_option maxHeartbeats 4000000 in
theorem arg_roll {base : Nat} {r : Reach} {v : Value} {d : DataW H} {ps : List MemPlace} (hv : Value.okWide Tryd.prog W r base 24 v) (h : DataW.Trod enc Tryd.prog W 0 (fun _ => true) true 24 v d ps) (hwt : ∀ n ∈ d.weights Tryd.prog 24, n ≤ reachBytes) :
    ∃ (o : Lg) (s : Value), v = lv o s ∧ ArgE W s o.es ∧ LimL o := by
  obtain ⟨cs, rfl, hsz⟩ := okWide_struct Tryd.underlying24 hv
  obtain ⟨c0, c1, c2, rfl⟩ := array3 (hsz.trans cellsLg)
  obtain ⟨fuel, hf⟩ := h
  obtain ⟨ys, m, _, hx, hl, hlen, hfs⟩ := DataW.trod_struct Tryd.underlying24 hf
  have g0 := hfs 0 _ rfl
  have g1 := hfs 1 _ rfl
  have g2 := hfs 2 _ rfl
  clear hfs
  match ys, hlen with
  | [y0, y1, y2], _ =>
    simp [Value.cells, cells2', cellsEs] at g0 g1 g2
    obtain ⟨x0, e0, e0', w0⟩ := DataW.trod_int Tryd.underlying2 g0
    obtain ⟨x1, e1, e1', w1⟩ := DataW.trod_int Tryd.underlying2 g1
    simp only [List.cons.injEq, and_true] at e0 e1
    subst e0 e1
    simp only [Prod.mk.injEq] at hx
    obtain ⟨rfl, _⟩ := hx
    have hw2 : ∀ n ∈ y2.1.weights Tryd.prog 22, n ≤ reachBytes := fun n hn => hwt n (by
      simp only [DataW.weights, Tryd.underlying24, List.map_cons, List.map_nil, DataW.weightsEach, List.mem_append]
      first
        | exact .inr (.inr (.inl hn))
        | simp [hn])
    obtain ⟨ms, ha, hl1, hl2⟩ := arg_entss g2 hw2
    exact ⟨⟨x0, x1, ms⟩, c2, rfl, ha, ⟨bounds_i64 w0, bounds_i64 w1, hl1, hl2⟩⟩
theorem arg_ents {a0 : Option Addr} {n0 c0 : Nat} {d : DataW H} {ps : List MemPlace}
    (h : DataW.Trod enc Tryd.prog W 0 (fun _ => true) true 22 (.slice a0 n0 c0) d ps) (hwt : ∀ n ∈ d.weights Tryd.prog 22, n ≤ reachBytes) :
    ∃ ms, ArgE W (.slice a0 n0 c0) ms ∧ ms.length ≤ 140737488355328 ∧ ∀ m ∈ ms, M.inR m.1 ∧ m.2.size ≤ 140737488355328 := by
  obtain ⟨fuel, hf⟩ := h
  exact arg_entss (by simpa [Value.cells] using hf) hwt
end
end Go.Proofs.YtimodohcihnoiaaDoor.Ro
