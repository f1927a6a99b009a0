/-
  DERIVED. GIVEN WITH THE SEED: THE CARDS: each row of YtoomkdofoceiaaaGreatDoorRows.lean that lists a variable, with what it lists TIED to the program's text (the seventh form; the later family's looks); each row that meets fmt, with fmt's text TOLD by the authors' own Lean function (tested against real Go, not proved from fmt's source: count such statements apart). THE CARD IS WHAT COUNTS. Prove the row's statement (the work); the ties are given (YtoomkdofoceiaaaGreatDoorTie.lean); close each card by the builder's one call (the guide's Derived/Test/ToyasCard.lean, 'card_holds'). Laid BY PROGRAM, IN A SANDBOX (cutbox-door.mjs). By AI agents, Wed Nov 11 2026. No macro, syntax, notation, axiom, sorry.
-/
import Derived.Test.YtoomkdofoceiaaaGreatDoorRows
import GoSem.ClaimSeven
namespace Go.Proofs.YtoomkdofoceiaaaGreatDoor
namespace Rows

/-- THE TIED CARD OF 'furlonglaw09.DeedChecks'. -/
def deedChecksCard : Claim7 := { stood := { row := deedChecksRow, standIns := [], harness := (true, "130380ba8e658267dcb062a8e1f40cf27b8857f10662a7a45993843c31b0952e"), looks := true }, kinds := [], alts := [], laidByText := true, laidKinds := [.data, .data, .data, .sentinel, .sentinel], laidTests := true, laidLooks := .later }
def DeedChecksCardSaid : Prop := Claim7.holds Tryz.pinned (.plain (OpenSpec.ofChange deedChecksSpec)) deedChecksCard

/-- THE TIED CARD OF 'furlonglaw09.DeedCuts'. -/
def deedCutsCard : Claim7 := { stood := { row := deedCutsRow, standIns := [], harness := (true, "130380ba8e658267dcb062a8e1f40cf27b8857f10662a7a45993843c31b0952e"), looks := true }, kinds := [], alts := [], laidByText := true, laidKinds := [.data, .data, .data, .sentinel, .sentinel], laidTests := true, laidLooks := .later }
def DeedCutsCardSaid : Prop := Claim7.holds Tryz.pinned (.plain (OpenSpec.ofChange deedCutsSpec)) deedCutsCard

/-- THE TIED CARD OF 'furlonglaw09.DeedJoins'. -/
def deedJoinsCard : Claim7 := { stood := { row := deedJoinsRow, standIns := [], harness := (true, "130380ba8e658267dcb062a8e1f40cf27b8857f10662a7a45993843c31b0952e"), looks := true }, kinds := [], alts := [], laidByText := true, laidKinds := [.data, .data, .data, .sentinel, .sentinel], laidTests := true, laidLooks := .later }
def DeedJoinsCardSaid : Prop := Claim7.holds Tryz.pinned (.plain (OpenSpec.ofChange deedJoinsSpec)) deedJoinsCard

/-- THE TIED CARD OF 'furlonglaw09.DeedPairs'. -/
def deedPairsCard : Claim7 := { stood := { row := deedPairsRow, standIns := [], harness := (true, "130380ba8e658267dcb062a8e1f40cf27b8857f10662a7a45993843c31b0952e"), looks := true }, kinds := [], alts := [], laidByText := true, laidKinds := [.data, .data, .data, .sentinel, .sentinel], laidTests := true, laidLooks := .later }
def DeedPairsCardSaid : Prop := Claim7.holds Tryz.pinned (.plain (OpenSpec.ofChange deedPairsSpec)) deedPairsCard

/-- THE TIED CARD OF 'furlonglaw09.DeedBack'. -/
def deedBackCard : Claim7 := { stood := { row := deedBackRow, standIns := [], harness := (true, "130380ba8e658267dcb062a8e1f40cf27b8857f10662a7a45993843c31b0952e"), looks := true }, kinds := [], alts := [], laidByText := true, laidKinds := [.data, .data, .data, .sentinel, .sentinel], laidTests := true, laidLooks := .later }
def DeedBackCardSaid : Prop := Claim7.holds Tryz.pinned (.plain (OpenSpec.ofChange deedBackSpec)) deedBackCard

/-- THE TIED CARD OF 'furlonglaw09.DeedPages'. -/
def deedPagesCard : Claim7 := { stood := { row := deedPagesRow, standIns := [], harness := (true, "130380ba8e658267dcb062a8e1f40cf27b8857f10662a7a45993843c31b0952e"), looks := true }, kinds := [], alts := [], laidByText := true, laidKinds := [.data, .data, .data, .sentinel, .sentinel], laidTests := true, laidLooks := .later }
def DeedPagesCardSaid : Prop := Claim7.holds Tryz.pinned (.plain (OpenSpec.ofChange deedPagesSpec)) deedPagesCard

/-- THE SECOND FORM's CARD OF 'furlonglaw09.DeedChecks'. -/
def deedChecksUptoCard : Claim7 := { stood := { row := deedChecksUptoRow, standIns := [], harness := (true, "130380ba8e658267dcb062a8e1f40cf27b8857f10662a7a45993843c31b0952e"), looks := true }, kinds := [], alts := [], laidByText := true, laidKinds := [.data, .data, .data, .sentinel, .sentinel], laidTests := true, laidLooks := .later }
def DeedChecksUptoCardSaid : Prop := Claim7.holds Tryz.pinned (.plain (OpenSpec.upto deedChecksSpec)) deedChecksUptoCard

/-- THE SECOND FORM's CARD OF 'furlonglaw09.DeedCuts'. -/
def deedCutsUptoCard : Claim7 := { stood := { row := deedCutsUptoRow, standIns := [], harness := (true, "130380ba8e658267dcb062a8e1f40cf27b8857f10662a7a45993843c31b0952e"), looks := true }, kinds := [], alts := [], laidByText := true, laidKinds := [.data, .data, .data, .sentinel, .sentinel], laidTests := true, laidLooks := .later }
def DeedCutsUptoCardSaid : Prop := Claim7.holds Tryz.pinned (.plain (OpenSpec.upto deedCutsSpec)) deedCutsUptoCard

/-- THE SECOND FORM's CARD OF 'furlonglaw09.DeedJoins'. -/
def deedJoinsUptoCard : Claim7 := { stood := { row := deedJoinsUptoRow, standIns := [], harness := (true, "130380ba8e658267dcb062a8e1f40cf27b8857f10662a7a45993843c31b0952e"), looks := true }, kinds := [], alts := [], laidByText := true, laidKinds := [.data, .data, .data, .sentinel, .sentinel], laidTests := true, laidLooks := .later }
def DeedJoinsUptoCardSaid : Prop := Claim7.holds Tryz.pinned (.plain (OpenSpec.upto deedJoinsSpec)) deedJoinsUptoCard

/-- THE SECOND FORM's CARD OF 'furlonglaw09.DeedPairs'. -/
def deedPairsUptoCard : Claim7 := { stood := { row := deedPairsUptoRow, standIns := [], harness := (true, "130380ba8e658267dcb062a8e1f40cf27b8857f10662a7a45993843c31b0952e"), looks := true }, kinds := [], alts := [], laidByText := true, laidKinds := [.data, .data, .data, .sentinel, .sentinel], laidTests := true, laidLooks := .later }
def DeedPairsUptoCardSaid : Prop := Claim7.holds Tryz.pinned (.plain (OpenSpec.upto deedPairsSpec)) deedPairsUptoCard

/-- THE SECOND FORM's CARD OF 'furlonglaw09.DeedBack'. -/
def deedBackUptoCard : Claim7 := { stood := { row := deedBackUptoRow, standIns := [], harness := (true, "130380ba8e658267dcb062a8e1f40cf27b8857f10662a7a45993843c31b0952e"), looks := true }, kinds := [], alts := [], laidByText := true, laidKinds := [.data, .data, .data, .sentinel, .sentinel], laidTests := true, laidLooks := .later }
def DeedBackUptoCardSaid : Prop := Claim7.holds Tryz.pinned (.plain (OpenSpec.upto deedBackSpec)) deedBackUptoCard

/-- THE SECOND FORM's CARD OF 'furlonglaw09.DeedPages'. -/
def deedPagesUptoCard : Claim7 := { stood := { row := deedPagesUptoRow, standIns := [], harness := (true, "130380ba8e658267dcb062a8e1f40cf27b8857f10662a7a45993843c31b0952e"), looks := true }, kinds := [], alts := [], laidByText := true, laidKinds := [.data, .data, .data, .sentinel, .sentinel], laidTests := true, laidLooks := .later }
def DeedPagesUptoCardSaid : Prop := Claim7.holds Tryz.pinned (.plain (OpenSpec.upto deedPagesSpec)) deedPagesUptoCard
end Rows
end Go.Proofs.YtoomkdofoceiaaaGreatDoor
