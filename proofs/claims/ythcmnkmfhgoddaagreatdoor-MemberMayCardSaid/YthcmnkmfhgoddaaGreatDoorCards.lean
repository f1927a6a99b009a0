/-
  DERIVED. GIVEN WITH THE SEED: THE CARDS: each row of YthcmnkmfhgoddaaGreatDoorRows.lean that lists a variable, with what it lists TIED to the program's text (the seventh form; the later family's looks); each row that meets fmt, with fmt's text TOLD by the authors' own Lean function (tested against real Go, not proved from fmt's source: count such statements apart). THE CARD IS WHAT COUNTS. Prove the row's statement (the work); the ties are given (YthcmnkmfhgoddaaGreatDoorTie.lean); close each card by the builder's one call (the guide's Derived/Test/ToyasCard.lean, 'card_holds'). Laid BY PROGRAM, IN A SANDBOX (cutbox-door.mjs). By AI agents, Wed Nov 11 2026. No macro, syntax, notation, axiom, sorry.
-/
import Derived.Test.YthcmnkmfhgoddaaGreatDoorRows
import GoSem.ClaimSeven
namespace Go.Proofs.YthcmnkmfhgoddaaGreatDoor
namespace Rows

/-- THE TIED CARD OF 'furlonglaw12.MemberOf'. -/
def memberOfCard : Claim7 := { stood := { row := memberOfRow, standIns := [], harness := (true, "584f46c132d5d9fc08f004c1dee6b71373c85643b97823e5c77bfa76bb10315a"), looks := true }, kinds := [], alts := [], laidByText := true, laidKinds := [.data, .data, .data, .sentinel, .sentinel], laidTests := true, laidLooks := .later }
def MemberOfCardSaid : Prop := Claim7.holds Tryz.pinned (.plain (OpenSpec.ofChange memberOfSpec)) memberOfCard

/-- THE TIED CARD OF 'furlonglaw12.MemberMay'. -/
def memberMayCard : Claim7 := { stood := { row := memberMayRow, standIns := [], harness := (true, "584f46c132d5d9fc08f004c1dee6b71373c85643b97823e5c77bfa76bb10315a"), looks := true }, kinds := [], alts := [], laidByText := true, laidKinds := [.data, .data, .data, .sentinel, .sentinel], laidTests := true, laidLooks := .later }
def MemberMayCardSaid : Prop := Claim7.holds Tryz.pinned (.plain (OpenSpec.ofChange memberMaySpec)) memberMayCard

/-- THE TIED CARD OF 'furlonglaw12.MemberSame'. -/
def memberSameCard : Claim7 := { stood := { row := memberSameRow, standIns := [], harness := (true, "584f46c132d5d9fc08f004c1dee6b71373c85643b97823e5c77bfa76bb10315a"), looks := true }, kinds := [], alts := [], laidByText := true, laidKinds := [.data, .data, .data, .sentinel, .sentinel], laidTests := true, laidLooks := .later }
def MemberSameCardSaid : Prop := Claim7.holds Tryz.pinned (.plain (OpenSpec.ofChange memberSameSpec)) memberSameCard

/-- THE TIED CARD OF 'furlonglaw09.DeedJoins'. -/
def deedJoinsCard : Claim7 := { stood := { row := deedJoinsRow, standIns := [], harness := (true, "584f46c132d5d9fc08f004c1dee6b71373c85643b97823e5c77bfa76bb10315a"), looks := true }, kinds := [], alts := [], laidByText := true, laidKinds := [.data, .data, .data, .sentinel, .sentinel], laidTests := true, laidLooks := .later }
def DeedJoinsCardSaid : Prop := Claim7.holds Tryz.pinned (.plain (OpenSpec.ofChange deedJoinsSpec)) deedJoinsCard

/-- THE TIED CARD OF 'furlonglaw09.DeedPairs'. -/
def deedPairsCard : Claim7 := { stood := { row := deedPairsRow, standIns := [], harness := (true, "584f46c132d5d9fc08f004c1dee6b71373c85643b97823e5c77bfa76bb10315a"), looks := true }, kinds := [], alts := [], laidByText := true, laidKinds := [.data, .data, .data, .sentinel, .sentinel], laidTests := true, laidLooks := .later }
def DeedPairsCardSaid : Prop := Claim7.holds Tryz.pinned (.plain (OpenSpec.ofChange deedPairsSpec)) deedPairsCard

/-- THE TIED CARD OF 'furlonglaw09.DeedPages'. -/
def deedPagesCard : Claim7 := { stood := { row := deedPagesRow, standIns := [], harness := (true, "584f46c132d5d9fc08f004c1dee6b71373c85643b97823e5c77bfa76bb10315a"), looks := true }, kinds := [], alts := [], laidByText := true, laidKinds := [.data, .data, .data, .sentinel, .sentinel], laidTests := true, laidLooks := .later }
def DeedPagesCardSaid : Prop := Claim7.holds Tryz.pinned (.plain (OpenSpec.ofChange deedPagesSpec)) deedPagesCard

/-- THE SECOND FORM's CARD OF 'furlonglaw12.MemberOf'. -/
def memberOfUptoCard : Claim7 := { stood := { row := memberOfUptoRow, standIns := [], harness := (true, "584f46c132d5d9fc08f004c1dee6b71373c85643b97823e5c77bfa76bb10315a"), looks := true }, kinds := [], alts := [], laidByText := true, laidKinds := [.data, .data, .data, .sentinel, .sentinel], laidTests := true, laidLooks := .later }
def MemberOfUptoCardSaid : Prop := Claim7.holds Tryz.pinned (.plain (OpenSpec.upto memberOfSpec)) memberOfUptoCard

/-- THE SECOND FORM's CARD OF 'furlonglaw12.MemberMay'. -/
def memberMayUptoCard : Claim7 := { stood := { row := memberMayUptoRow, standIns := [], harness := (true, "584f46c132d5d9fc08f004c1dee6b71373c85643b97823e5c77bfa76bb10315a"), looks := true }, kinds := [], alts := [], laidByText := true, laidKinds := [.data, .data, .data, .sentinel, .sentinel], laidTests := true, laidLooks := .later }
def MemberMayUptoCardSaid : Prop := Claim7.holds Tryz.pinned (.plain (OpenSpec.upto memberMaySpec)) memberMayUptoCard

/-- THE SECOND FORM's CARD OF 'furlonglaw12.MemberSame'. -/
def memberSameUptoCard : Claim7 := { stood := { row := memberSameUptoRow, standIns := [], harness := (true, "584f46c132d5d9fc08f004c1dee6b71373c85643b97823e5c77bfa76bb10315a"), looks := true }, kinds := [], alts := [], laidByText := true, laidKinds := [.data, .data, .data, .sentinel, .sentinel], laidTests := true, laidLooks := .later }
def MemberSameUptoCardSaid : Prop := Claim7.holds Tryz.pinned (.plain (OpenSpec.upto memberSameSpec)) memberSameUptoCard

/-- THE SECOND FORM's CARD OF 'furlonglaw09.DeedJoins'. -/
def deedJoinsUptoCard : Claim7 := { stood := { row := deedJoinsUptoRow, standIns := [], harness := (true, "584f46c132d5d9fc08f004c1dee6b71373c85643b97823e5c77bfa76bb10315a"), looks := true }, kinds := [], alts := [], laidByText := true, laidKinds := [.data, .data, .data, .sentinel, .sentinel], laidTests := true, laidLooks := .later }
def DeedJoinsUptoCardSaid : Prop := Claim7.holds Tryz.pinned (.plain (OpenSpec.upto deedJoinsSpec)) deedJoinsUptoCard

/-- THE SECOND FORM's CARD OF 'furlonglaw09.DeedPairs'. -/
def deedPairsUptoCard : Claim7 := { stood := { row := deedPairsUptoRow, standIns := [], harness := (true, "584f46c132d5d9fc08f004c1dee6b71373c85643b97823e5c77bfa76bb10315a"), looks := true }, kinds := [], alts := [], laidByText := true, laidKinds := [.data, .data, .data, .sentinel, .sentinel], laidTests := true, laidLooks := .later }
def DeedPairsUptoCardSaid : Prop := Claim7.holds Tryz.pinned (.plain (OpenSpec.upto deedPairsSpec)) deedPairsUptoCard

/-- THE SECOND FORM's CARD OF 'furlonglaw09.DeedPages'. -/
def deedPagesUptoCard : Claim7 := { stood := { row := deedPagesUptoRow, standIns := [], harness := (true, "584f46c132d5d9fc08f004c1dee6b71373c85643b97823e5c77bfa76bb10315a"), looks := true }, kinds := [], alts := [], laidByText := true, laidKinds := [.data, .data, .data, .sentinel, .sentinel], laidTests := true, laidLooks := .later }
def DeedPagesUptoCardSaid : Prop := Claim7.holds Tryz.pinned (.plain (OpenSpec.upto deedPagesSpec)) deedPagesUptoCard
end Rows
end Go.Proofs.YthcmnkmfhgoddaaGreatDoor
