/-
  DERIVED. GIVEN WITH THE SEED: THE CARDS: each row of YtglkapamkigdhaaGreatDoorRows.lean that lists a variable, with what it lists TIED to the program's text (the seventh form; the later family's looks); each row that meets fmt, with fmt's text TOLD by the authors' own Lean function (tested against real Go, not proved from fmt's source: count such statements apart). THE CARD IS WHAT COUNTS. Prove the row's statement (the work); the ties are given (YtglkapamkigdhaaGreatDoorTie.lean); close each card by the builder's one call (the guide's Derived/Test/ToyasCard.lean, 'card_holds'). Laid BY PROGRAM, IN A SANDBOX (cutbox-door.mjs). By AI agents, Wed Nov 11 2026. No macro, syntax, notation, axiom, sorry.
-/
import Derived.Test.YtglkapamkigdhaaGreatDoorRows
import GoSem.ClaimSeven
namespace Go.Proofs.YtglkapamkigdhaaGreatDoor
namespace Rows

/-- THE TIED CARD OF 'furlonglaw04.LedgerPlays'. -/
def ledgerPlaysCard : Claim7 := { stood := { row := ledgerPlaysRow, standIns := [], harness := (true, "7cea79d4a34c9346aef24165f185db9aa11071ba80e6740055d863b474088b8a"), looks := true }, kinds := [], alts := [], laidByText := true, laidKinds := [.data, .data, .data, .sentinel, .sentinel], laidTests := true, laidLooks := .later }
def LedgerPlaysCardSaid : Prop := Claim7.holds Tryz.pinned (.plain (OpenSpec.ofChange ledgerPlaysSpec)) ledgerPlaysCard

/-- THE TIED CARD OF 'furlonglaw04.LedgerTorn'. -/
def ledgerTornCard : Claim7 := { stood := { row := ledgerTornRow, standIns := [], harness := (true, "7cea79d4a34c9346aef24165f185db9aa11071ba80e6740055d863b474088b8a"), looks := true }, kinds := [], alts := [], laidByText := true, laidKinds := [.data, .data, .data, .sentinel, .sentinel], laidTests := true, laidLooks := .later }
def LedgerTornCardSaid : Prop := Claim7.holds Tryz.pinned (.plain (OpenSpec.ofChange ledgerTornSpec)) ledgerTornCard

/-- THE SECOND FORM's CARD OF 'furlonglaw04.LedgerPlays'. -/
def ledgerPlaysUptoCard : Claim7 := { stood := { row := ledgerPlaysUptoRow, standIns := [], harness := (true, "7cea79d4a34c9346aef24165f185db9aa11071ba80e6740055d863b474088b8a"), looks := true }, kinds := [], alts := [], laidByText := true, laidKinds := [.data, .data, .data, .sentinel, .sentinel], laidTests := true, laidLooks := .later }
def LedgerPlaysUptoCardSaid : Prop := Claim7.holds Tryz.pinned (.plain (OpenSpec.upto ledgerPlaysSpec)) ledgerPlaysUptoCard

/-- THE SECOND FORM's CARD OF 'furlonglaw04.LedgerTorn'. -/
def ledgerTornUptoCard : Claim7 := { stood := { row := ledgerTornUptoRow, standIns := [], harness := (true, "7cea79d4a34c9346aef24165f185db9aa11071ba80e6740055d863b474088b8a"), looks := true }, kinds := [], alts := [], laidByText := true, laidKinds := [.data, .data, .data, .sentinel, .sentinel], laidTests := true, laidLooks := .later }
def LedgerTornUptoCardSaid : Prop := Claim7.holds Tryz.pinned (.plain (OpenSpec.upto ledgerTornSpec)) ledgerTornUptoCard
end Rows
end Go.Proofs.YtglkapamkigdhaaGreatDoor
