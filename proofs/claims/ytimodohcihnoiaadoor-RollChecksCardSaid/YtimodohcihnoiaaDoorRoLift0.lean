/-
  What each row of this seat gives the walks: the library's variables; and a state that fits. No condition.
-/
import Derived.Test.YtimodohcihnoiaaDoorRoLive
import Derived.Test.YtimodohcihnoiaaDoorCards
import Derived.Test.YtimodohcihnoiaaDoorTie
import Derived.ProofKit
import Derived.OpenShut
import Derived.LaidMore
import Derived.SizedLaws
import Derived.Deep.DeepHandedRow
import Derived.Deep.DeepWitnessRowRef
import Derived.Lib.LaidTab
import Derived.Stop.LaidErr
import Derived.Stop.Joined
import Derived.Shelf.LaysM
namespace Go.Proofs.YtimodohcihnoiaaDoor
open Go.ChangeShapes Go.WideShapes Go.ChangeAt Go.RowKit

/-- the list that every row of this seat bears -/
abbrev laidL : List (String × DataW Unit) := Rows.rollChecksRow.laid

theorem own : ownKnob Tryd.prog.godebug = none := by kernel_rfl
theorem gSyn : Tryd.prog.globalNamed "strconv.ErrSyntax" = some 1 := by kernel_rfl
theorem gSynT : (Tryd.prog.globals[1]?).map (·.type) = some 90 := by kernel_rfl
theorem gRng : Tryd.prog.globalNamed "strconv.ErrRange" = some 2 := by kernel_rfl
theorem gRngT : (Tryd.prog.globals[2]?).map (·.type) = some 90 := by kernel_rfl
theorem star : ("*errors.errorString" : String) = "*" ++ "errors.errorString" := by decide
theorem rowErr (u : TypeId) (h : Tryd.prog.typeName? 3 u = some "*errors.errorString") : u = 122 :=
  typeName_ptr_named (nm := "errors.errorString") (by rw [← star]; kernel_rfl) (by kernel_rfl) (by decide) u (by rw [← star]; exact h)
theorem cellsErr : Tryd.prog.cellsOf 124 = 1 := by kernel_rfl
theorem cells9 : Tryd.prog.cellsOf 9 = 1 := by kernel_rfl

/-- WHAT THE ROW's LIST AND THE WORLD's SHAPE GIVE: the library's variables. -/
theorem good_of {W : World} (h : laidMetH Tryd.prog laidL W) (hsh : W.ShapedOpen Tryd.prog) : Good W := by
  obtain ⟨m, hm⟩ := Go.Proofs.cell_of_shapedOpen_int (zero := #[.int .i64 0]) (t := 3) (g := 0) hsh (of_decide_eq_true (by kernel_rfl)) (by kernel_rfl) rfl (by kernel_rfl) (by kernel_rfl) Tryd.underlying3
  rw [MakeChecks.laidMetH_plain _ _ _ (by kernel_rfl)] at h
  have h3 := h.tail.tail.tail
  obtain ⟨a1, s1, hv1, _⟩ := laid_sentinel h3 gRng gRngT Tryd.underlying90 rowErr Tryd.underlying122 Tryd.underlying124 rfl rfl Tryd.underlying9 cellsErr cells9
  obtain ⟨a0, s0, hv0, _⟩ := laid_sentinel h3.tail gSyn gSynT Tryd.underlying90 rowErr Tryd.underlying122 Tryd.underlying124 rfl rfl Tryd.underlying9 cellsErr cells9
  have c0 := World.var?_cell gSyn hv0 0
  have c1 := World.var?_cell gRng hv1 0
  have s0 := Lib.lt_of_cell c0
  have s1 := Lib.lt_of_cell c1
  have s2 := Lib.lt_of_cell hm
  simp only at s0 s1 s2
  exact ⟨by omega, ⟨_, c0, .inr ⟨_, _, rfl⟩⟩, ⟨_, c1, .inr ⟨_, _, rfl⟩⟩, ⟨m, hm⟩⟩

/-- The door's own heap meets the list: three closed facts. -/
theorem door_met (os : Os) (args : Array Value) : laidMetH Tryd.prog laidL ((World.doorLaid Tryd.prog 400 os).forCall (fun _ _ => 0) ⟨#[], args, []⟩).memory :=
  laidMetH_of_parts3 (fuel := 8) (laidMet_of_run' 8 (by kernel_rfl) (by kernel_rfl)) (by kernel_rfl) (by kernel_rfl)

end Go.Proofs.YtimodohcihnoiaaDoor
