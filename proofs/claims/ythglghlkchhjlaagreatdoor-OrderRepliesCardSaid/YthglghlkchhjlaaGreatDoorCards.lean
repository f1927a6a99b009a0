/-
  DERIVED. GIVEN WITH THE SEED: THE CARDS: each row of YthglghlkchhjlaaGreatDoorRows.lean that lists a variable, with what it lists TIED to the program's text (the seventh form; the later family's looks); each row that meets fmt, with fmt's text TOLD by the authors' own Lean function (tested against real Go, not proved from fmt's source: count such statements apart). THE CARD IS WHAT COUNTS. Prove the row's statement (the work); the ties are given (YthglghlkchhjlaaGreatDoorTie.lean); close each card by the builder's one call (the guide's Derived/Test/ToyasCard.lean, 'card_holds'). Laid BY PROGRAM, IN A SANDBOX (cutbox-door.mjs). By AI agents, Wed Nov 11 2026. No macro, syntax, notation, axiom, sorry.
-/
import Derived.Test.YthglghlkchhjlaaGreatDoorRows
import GoSem.ClaimSeven
namespace Go.Proofs.YthglghlkchhjlaaGreatDoor
namespace Rows

/-- THE TIED CARD OF 'furlonglaw07.OrderChecks'. -/
def orderChecksCard : Claim7 := { stood := { row := orderChecksRow, standIns := [], harness := (true, "bbd33668c2134fa6c980987908489a812588a32e6dd3e3a8d4b2b37a0429d6b0"), looks := true }, kinds := [], alts := [], laidByText := true, laidKinds := [.data, .data, .data, .sentinel, .sentinel], laidTests := true, laidLooks := .later }
def OrderChecksCardSaid : Prop := Claim7.holds Tryz.pinned (.plain (OpenSpec.ofChange orderChecksSpec)) orderChecksCard

/-- THE TIED CARD OF 'furlonglaw07.OrderPuts'. -/
def orderPutsCard : Claim7 := { stood := { row := orderPutsRow, standIns := [], harness := (true, "bbd33668c2134fa6c980987908489a812588a32e6dd3e3a8d4b2b37a0429d6b0"), looks := true }, kinds := [], alts := [], laidByText := true, laidKinds := [.data, .data, .data, .sentinel, .sentinel], laidTests := true, laidLooks := .later }
def OrderPutsCardSaid : Prop := Claim7.holds Tryz.pinned (.plain (OpenSpec.ofChange orderPutsSpec)) orderPutsCard

/-- THE TIED CARD OF 'furlonglaw07.OrderReplies'. -/
def orderRepliesCard : Claim7 := { stood := { row := orderRepliesRow, standIns := [], harness := (true, "bbd33668c2134fa6c980987908489a812588a32e6dd3e3a8d4b2b37a0429d6b0"), looks := true }, kinds := [], alts := [], laidByText := true, laidKinds := [.data, .data, .data, .sentinel, .sentinel], laidTests := true, laidLooks := .later }
def OrderRepliesCardSaid : Prop := Claim7.holds Tryz.pinned (.plain (OpenSpec.ofChange orderRepliesSpec)) orderRepliesCard

/-- THE TIED CARD OF 'furlonglaw08.SessionChecks'. -/
def sessionChecksCard : Claim7 := { stood := { row := sessionChecksRow, standIns := [], harness := (true, "bbd33668c2134fa6c980987908489a812588a32e6dd3e3a8d4b2b37a0429d6b0"), looks := true }, kinds := [], alts := [], laidByText := true, laidKinds := [.data, .data, .data, .sentinel, .sentinel], laidTests := true, laidLooks := .later }
def SessionChecksCardSaid : Prop := Claim7.holds Tryz.pinned (.plain (OpenSpec.ofChange sessionChecksSpec)) sessionChecksCard

/-- THE SECOND FORM's CARD OF 'furlonglaw07.OrderChecks'. -/
def orderChecksUptoCard : Claim7 := { stood := { row := orderChecksUptoRow, standIns := [], harness := (true, "bbd33668c2134fa6c980987908489a812588a32e6dd3e3a8d4b2b37a0429d6b0"), looks := true }, kinds := [], alts := [], laidByText := true, laidKinds := [.data, .data, .data, .sentinel, .sentinel], laidTests := true, laidLooks := .later }
def OrderChecksUptoCardSaid : Prop := Claim7.holds Tryz.pinned (.plain (OpenSpec.upto orderChecksSpec)) orderChecksUptoCard

/-- THE SECOND FORM's CARD OF 'furlonglaw07.OrderPuts'. -/
def orderPutsUptoCard : Claim7 := { stood := { row := orderPutsUptoRow, standIns := [], harness := (true, "bbd33668c2134fa6c980987908489a812588a32e6dd3e3a8d4b2b37a0429d6b0"), looks := true }, kinds := [], alts := [], laidByText := true, laidKinds := [.data, .data, .data, .sentinel, .sentinel], laidTests := true, laidLooks := .later }
def OrderPutsUptoCardSaid : Prop := Claim7.holds Tryz.pinned (.plain (OpenSpec.upto orderPutsSpec)) orderPutsUptoCard

/-- THE SECOND FORM's CARD OF 'furlonglaw07.OrderReplies'. -/
def orderRepliesUptoCard : Claim7 := { stood := { row := orderRepliesUptoRow, standIns := [], harness := (true, "bbd33668c2134fa6c980987908489a812588a32e6dd3e3a8d4b2b37a0429d6b0"), looks := true }, kinds := [], alts := [], laidByText := true, laidKinds := [.data, .data, .data, .sentinel, .sentinel], laidTests := true, laidLooks := .later }
def OrderRepliesUptoCardSaid : Prop := Claim7.holds Tryz.pinned (.plain (OpenSpec.upto orderRepliesSpec)) orderRepliesUptoCard

/-- THE SECOND FORM's CARD OF 'furlonglaw08.SessionChecks'. -/
def sessionChecksUptoCard : Claim7 := { stood := { row := sessionChecksUptoRow, standIns := [], harness := (true, "bbd33668c2134fa6c980987908489a812588a32e6dd3e3a8d4b2b37a0429d6b0"), looks := true }, kinds := [], alts := [], laidByText := true, laidKinds := [.data, .data, .data, .sentinel, .sentinel], laidTests := true, laidLooks := .later }
def SessionChecksUptoCardSaid : Prop := Claim7.holds Tryz.pinned (.plain (OpenSpec.upto sessionChecksSpec)) sessionChecksUptoCard
end Rows
end Go.Proofs.YthglghlkchhjlaaGreatDoor
