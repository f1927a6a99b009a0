/-
  What each row of this seat gives the walks: the library's variables; and a state that fits. No condition.
  The law's own small and own: what is asked of a descriptor that comes in. Condition: lengths at most 2^47.
  How a descriptor, and a list of members, come in, out of the form's own reading. No condition.
-/
import Derived.Test.YtlcobgpgggegdaaGreatDoorDsLive
import Derived.Test.YtlcobgpgggegdaaGreatDoorCards
import Derived.Test.YtlcobgpgggegdaaGreatDoorTie
import Derived.ProofKit
import Derived.OpenShut
import Derived.LaidMore
import Derived.SizedLaws
import Derived.Deep.DeepHandedRow
import Derived.Deep.DeepWitnessRowRef
import Derived.Lib.LaidTab
import Derived.Stop.LaidErr
import Derived.Stop.Joined
import Derived.Shelf.LaysM
import Derived.Lib.SmallJoins
import Derived.Deep.Slices
import Derived.Deep.Fields
import Derived.ChangeSame
import Derived.Carry
namespace Go.Proofs.YtlcobgpgggegdaaGreatDoor
open Go.ChangeShapes Go.WideShapes Go.ChangeAt Go.RowKit

/-- the list that every row of this seat bears -/
abbrev laidL : List (String × DataW Unit) := Rows.memberOfRow.laid

theorem own : ownKnob Tryz.prog.godebug = none := by kernel_rfl
theorem gSyn : Tryz.prog.globalNamed "strconv.ErrSyntax" = some 1 := by kernel_rfl
theorem gSynT : (Tryz.prog.globals[1]?).map (·.type) = some 247 := by kernel_rfl
theorem gRng : Tryz.prog.globalNamed "strconv.ErrRange" = some 2 := by kernel_rfl
theorem gRngT : (Tryz.prog.globals[2]?).map (·.type) = some 247 := by kernel_rfl
theorem star : ("*errors.errorString" : String) = "*" ++ "errors.errorString" := by decide
theorem rowErr (u : TypeId) (h : Tryz.prog.typeName? 3 u = some "*errors.errorString") : u = 344 :=
  typeName_ptr_named (nm := "errors.errorString") (by rw [← star]; kernel_rfl) (by kernel_rfl) (by decide) u (by rw [← star]; exact h)
theorem cellsErr : Tryz.prog.cellsOf 346 = 1 := by kernel_rfl
theorem cells9 : Tryz.prog.cellsOf 9 = 1 := by kernel_rfl

/-- WHAT THE ROW's LIST AND THE WORLD's SHAPE GIVE: the library's variables. -/
theorem good_of {W : World} (h : laidMetH Tryz.prog laidL W) (hsh : W.ShapedOpen Tryz.prog) : Good W := by
  obtain ⟨m, hm⟩ := Go.Proofs.cell_of_shapedOpen_int (zero := #[.int .i64 0]) (t := 3) (g := 0) hsh (of_decide_eq_true (by kernel_rfl)) (by kernel_rfl) rfl (by kernel_rfl) (by kernel_rfl) Tryz.underlying3
  rw [MakeChecks.laidMetH_plain _ _ _ (by kernel_rfl)] at h
  have h3 := h.tail.tail.tail
  obtain ⟨a1, s1, hv1, _⟩ := laid_sentinel h3 gRng gRngT Tryz.underlying247 rowErr Tryz.underlying344 Tryz.underlying346 rfl rfl Tryz.underlying9 cellsErr cells9
  obtain ⟨a0, s0, hv0, _⟩ := laid_sentinel h3.tail gSyn gSynT Tryz.underlying247 rowErr Tryz.underlying344 Tryz.underlying346 rfl rfl Tryz.underlying9 cellsErr cells9
  have c0 := World.var?_cell gSyn hv0 0
  have c1 := World.var?_cell gRng hv1 0
  have s0 := Lib.lt_of_cell c0
  have s1 := Lib.lt_of_cell c1
  have s2 := Lib.lt_of_cell hm
  simp only at s0 s1 s2
  exact ⟨by omega, ⟨_, c0, .inr ⟨_, _, rfl⟩⟩, ⟨_, c1, .inr ⟨_, _, rfl⟩⟩, ⟨m, hm⟩⟩

/-- The door's own heap meets the list: three closed facts. -/
theorem door_met (os : Os) (args : Array Value) : laidMetH Tryz.prog laidL ((World.doorLaid Tryz.prog 400 os).forCall (fun _ _ => 0) ⟨#[], args, []⟩).memory :=
  laidMetH_of_parts3 (fuel := 8) (laidMet_of_run' 8 (by kernel_rfl) (by kernel_rfl)) (by kernel_rfl) (by kernel_rfl)

end Go.Proofs.YtlcobgpgggegdaaGreatDoor

namespace Go.Proofs.YtlcobgpgggegdaaGreatDoor.Ds
open Go.RowKit Bnd
open Go.Proofs.YtlcobgpgggegdaaGreatDoor.M (numT inR tieT intT untieT)

/-- what is known of a descriptor that comes in -/
structure Lim (d : De) : Prop where
  f : d.f.size ≤ 140737488355328
  t : d.t.size ≤ 140737488355328
  n : d.ms.length ≤ 140737488355328
  r : InR d
def smallD (d : De) : Bool := decide (d.ms.length ≤ 30 ∧ d.f.size ≤ 2000 ∧ d.t.size ≤ 2000)
theorem small_iff {d : De} : smallD d = true ↔ d.ms.length ≤ 30 ∧ d.f.size ≤ 2000 ∧ d.t.size ≤ 2000 := by simp [smallD]
theorem Lim.fit {d : De} (h : Lim d) (hs : smallD d = true) : Fit d := ⟨h.f, h.t, by have := (small_iff.1 hs).1; omega, h.r⟩

/-- the same descriptor, with a row of its own -/
def OwnD (w : World) (d : De) (e : Ending) (w' : World) : Prop := ∃ s', e = .returned (dv d s') ∧ ArgM w' s' d.ms ∧ Below w.heap.size w w'
end Go.Proofs.YtlcobgpgggegdaaGreatDoor.Ds

namespace Go.Proofs.YtlcobgpgggegdaaGreatDoor.Ds
open Go.ChangeShapes Go.WideShapes Go.ChangeAt Go.RowKit Go.Joins Go.Deep

theorem laidOutAll : laidOutB Tryz.prog = true := by kernel_rfl
theorem cells2' : Tryz.prog.cellsOf 2 = 1 := by kernel_rfl
theorem lt_cell {w : World} {a : Addr} {v : Value} (h : w.cell? a = some v) : a.block < w.heap.size := by
  rcases Nat.lt_or_ge a.block w.heap.size with h1 | h1
  · exact h1
  · simp [World.cell?, Array.getElem?_eq_none h1] at h

section
variable {H : Type} {enc : TypeId × Value → H} {W : World}

end
end Go.Proofs.YtlcobgpgggegdaaGreatDoor.Ds
