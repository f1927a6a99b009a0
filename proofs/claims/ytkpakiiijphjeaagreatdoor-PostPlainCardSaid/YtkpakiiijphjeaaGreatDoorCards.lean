/-
  DERIVED. GIVEN WITH THE SEED: THE CARDS: each row of YtkpakiiijphjeaaGreatDoorRows.lean that lists a variable, with what it lists TIED to the program's text (the seventh form; the later family's looks); each row that meets fmt, with fmt's text TOLD by the authors' own Lean function (tested against real Go, not proved from fmt's source: count such statements apart). THE CARD IS WHAT COUNTS. Prove the row's statement (the work); the ties are given (YtkpakiiijphjeaaGreatDoorTie.lean); close each card by the builder's one call (the guide's Derived/Test/ToyasCard.lean, 'card_holds'). Laid BY PROGRAM, IN A SANDBOX (cutbox-door.mjs). By AI agents, Wed Nov 11 2026. No macro, syntax, notation, axiom, sorry.
-/
import Derived.Test.YtkpakiiijphjeaaGreatDoorRows
import GoSem.ClaimSeven
namespace Go.Proofs.YtkpakiiijphjeaaGreatDoor
namespace Rows

/-- THE TIED CARD OF 'furlonglaw14.PostChecks'. -/
def postChecksCard : Claim7 := { stood := { row := postChecksRow, standIns := [], harness := (true, "3419ac6a49a181fd5079230da36ba33dae30835922e17b9472f826e41a7431a1"), looks := true }, kinds := [], alts := [], laidByText := true, laidKinds := [.data, .data, .data, .sentinel, .sentinel], laidTests := true, laidLooks := .later }
def PostChecksCardSaid : Prop := Claim7.holds Tryz.pinned (.plain (OpenSpec.ofChange postChecksSpec)) postChecksCard

/-- THE TIED CARD OF 'furlonglaw14.PostPuts'. -/
def postPutsCard : Claim7 := { stood := { row := postPutsRow, standIns := [], harness := (true, "3419ac6a49a181fd5079230da36ba33dae30835922e17b9472f826e41a7431a1"), looks := true }, kinds := [], alts := [], laidByText := true, laidKinds := [.data, .data, .data, .sentinel, .sentinel], laidTests := true, laidLooks := .later }
def PostPutsCardSaid : Prop := Claim7.holds Tryz.pinned (.plain (OpenSpec.ofChange postPutsSpec)) postPutsCard

/-- THE TIED CARD OF 'furlonglaw14.PostBack'. -/
def postBackCard : Claim7 := { stood := { row := postBackRow, standIns := [], harness := (true, "3419ac6a49a181fd5079230da36ba33dae30835922e17b9472f826e41a7431a1"), looks := true }, kinds := [], alts := [], laidByText := true, laidKinds := [.data, .data, .data, .sentinel, .sentinel], laidTests := true, laidLooks := .later }
def PostBackCardSaid : Prop := Claim7.holds Tryz.pinned (.plain (OpenSpec.ofChange postBackSpec)) postBackCard

/-- THE TIED CARD OF 'furlonglaw14.PostPlain'. -/
def postPlainCard : Claim7 := { stood := { row := postPlainRow, standIns := [], harness := (true, "3419ac6a49a181fd5079230da36ba33dae30835922e17b9472f826e41a7431a1"), looks := true }, kinds := [], alts := [], laidByText := true, laidKinds := [.data, .data, .data, .sentinel, .sentinel], laidTests := true, laidLooks := .later }
def PostPlainCardSaid : Prop := Claim7.holds Tryz.pinned (.plain (OpenSpec.ofChange postPlainSpec)) postPlainCard

/-- THE SECOND FORM's CARD OF 'furlonglaw14.PostChecks'. -/
def postChecksUptoCard : Claim7 := { stood := { row := postChecksUptoRow, standIns := [], harness := (true, "3419ac6a49a181fd5079230da36ba33dae30835922e17b9472f826e41a7431a1"), looks := true }, kinds := [], alts := [], laidByText := true, laidKinds := [.data, .data, .data, .sentinel, .sentinel], laidTests := true, laidLooks := .later }
def PostChecksUptoCardSaid : Prop := Claim7.holds Tryz.pinned (.plain (OpenSpec.upto postChecksSpec)) postChecksUptoCard

/-- THE SECOND FORM's CARD OF 'furlonglaw14.PostPuts'. -/
def postPutsUptoCard : Claim7 := { stood := { row := postPutsUptoRow, standIns := [], harness := (true, "3419ac6a49a181fd5079230da36ba33dae30835922e17b9472f826e41a7431a1"), looks := true }, kinds := [], alts := [], laidByText := true, laidKinds := [.data, .data, .data, .sentinel, .sentinel], laidTests := true, laidLooks := .later }
def PostPutsUptoCardSaid : Prop := Claim7.holds Tryz.pinned (.plain (OpenSpec.upto postPutsSpec)) postPutsUptoCard

/-- THE SECOND FORM's CARD OF 'furlonglaw14.PostBack'. -/
def postBackUptoCard : Claim7 := { stood := { row := postBackUptoRow, standIns := [], harness := (true, "3419ac6a49a181fd5079230da36ba33dae30835922e17b9472f826e41a7431a1"), looks := true }, kinds := [], alts := [], laidByText := true, laidKinds := [.data, .data, .data, .sentinel, .sentinel], laidTests := true, laidLooks := .later }
def PostBackUptoCardSaid : Prop := Claim7.holds Tryz.pinned (.plain (OpenSpec.upto postBackSpec)) postBackUptoCard

/-- THE SECOND FORM's CARD OF 'furlonglaw14.PostPlain'. -/
def postPlainUptoCard : Claim7 := { stood := { row := postPlainUptoRow, standIns := [], harness := (true, "3419ac6a49a181fd5079230da36ba33dae30835922e17b9472f826e41a7431a1"), looks := true }, kinds := [], alts := [], laidByText := true, laidKinds := [.data, .data, .data, .sentinel, .sentinel], laidTests := true, laidLooks := .later }
def PostPlainUptoCardSaid : Prop := Claim7.holds Tryz.pinned (.plain (OpenSpec.upto postPlainSpec)) postPlainUptoCard
end Rows
end Go.Proofs.YtkpakiiijphjeaaGreatDoor
