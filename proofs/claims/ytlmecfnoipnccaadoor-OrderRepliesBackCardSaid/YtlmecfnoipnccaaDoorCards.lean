/-
  DERIVED. GIVEN WITH THE SEED: THE CARDS: each row of YtlmecfnoipnccaaDoorRows.lean that lists a variable, with what it lists TIED to the program's text (the seventh form; the later family's looks); each row that meets fmt, with fmt's text TOLD by the authors' own Lean function (tested against real Go, not proved from fmt's source: count such statements apart). THE CARD IS WHAT COUNTS. Prove the row's statement (the work); the ties are given (YtlmecfnoipnccaaDoorTie.lean); close each card by the builder's one call (the guide's Derived/Test/ToyasCard.lean, 'card_holds'). Laid BY PROGRAM, IN A SANDBOX (cutbox-door.mjs). By AI agents, Wed Nov 11 2026. No macro, syntax, notation, axiom, sorry.
-/
import Derived.Test.YtlmecfnoipnccaaDoorRows
import GoSem.ClaimSeven
namespace Go.Proofs.YtlmecfnoipnccaaDoor
namespace Rows

/-- THE TIED CARD OF 'furlonglaw06.DescChecks'. -/
def descChecksCard : Claim7 := { stood := { row := descChecksRow, standIns := [], harness := (true, "3b571fdcf98cc32895ebaf0786107d9bf91262209f8f0ac8d54d354ec891c126"), looks := true }, kinds := [], alts := [], laidByText := true, laidKinds := [.data, .data, .data, .sentinel, .sentinel], laidTests := true, laidLooks := .later }
def DescChecksCardSaid : Prop := Claim7.holds Tryd.pinned (.plain (OpenSpec.ofChange descChecksSpec)) descChecksCard

/-- THE TIED CARD OF 'furlonglaw06.DescSplits'. -/
def descSplitsCard : Claim7 := { stood := { row := descSplitsRow, standIns := [], harness := (true, "3b571fdcf98cc32895ebaf0786107d9bf91262209f8f0ac8d54d354ec891c126"), looks := true }, kinds := [], alts := [], laidByText := true, laidKinds := [.data, .data, .data, .sentinel, .sentinel], laidTests := true, laidLooks := .later }
def DescSplitsCardSaid : Prop := Claim7.holds Tryd.pinned (.plain (OpenSpec.ofChange descSplitsSpec)) descSplitsCard

/-- THE TIED CARD OF 'furlonglaw06.DescMembers'. -/
def descMembersCard : Claim7 := { stood := { row := descMembersRow, standIns := [], harness := (true, "3b571fdcf98cc32895ebaf0786107d9bf91262209f8f0ac8d54d354ec891c126"), looks := true }, kinds := [], alts := [], laidByText := true, laidKinds := [.data, .data, .data, .sentinel, .sentinel], laidTests := true, laidLooks := .later }
def DescMembersCardSaid : Prop := Claim7.holds Tryd.pinned (.plain (OpenSpec.ofChange descMembersSpec)) descMembersCard

/-- THE TIED CARD OF 'furlonglaw07.OrderKinds'. -/
def orderKindsCard : Claim7 := { stood := { row := orderKindsRow, standIns := [], harness := (true, "3b571fdcf98cc32895ebaf0786107d9bf91262209f8f0ac8d54d354ec891c126"), looks := true }, kinds := [], alts := [], laidByText := true, laidKinds := [.data, .data, .data, .sentinel, .sentinel], laidTests := true, laidLooks := .later }
def OrderKindsCardSaid : Prop := Claim7.holds Tryd.pinned (.plain (OpenSpec.ofChange orderKindsSpec)) orderKindsCard

/-- THE TIED CARD OF 'furlonglaw07.OrderBack'. -/
def orderBackCard : Claim7 := { stood := { row := orderBackRow, standIns := [], harness := (true, "3b571fdcf98cc32895ebaf0786107d9bf91262209f8f0ac8d54d354ec891c126"), looks := true }, kinds := [], alts := [], laidByText := true, laidKinds := [.data, .data, .data, .sentinel, .sentinel], laidTests := true, laidLooks := .later }
def OrderBackCardSaid : Prop := Claim7.holds Tryd.pinned (.plain (OpenSpec.ofChange orderBackSpec)) orderBackCard

/-- THE TIED CARD OF 'furlonglaw07.OrderRepliesBack'. -/
def orderRepliesBackCard : Claim7 := { stood := { row := orderRepliesBackRow, standIns := [], harness := (true, "3b571fdcf98cc32895ebaf0786107d9bf91262209f8f0ac8d54d354ec891c126"), looks := true }, kinds := [], alts := [], laidByText := true, laidKinds := [.data, .data, .data, .sentinel, .sentinel], laidTests := true, laidLooks := .later }
def OrderRepliesBackCardSaid : Prop := Claim7.holds Tryd.pinned (.plain (OpenSpec.ofChange orderRepliesBackSpec)) orderRepliesBackCard

/-- THE TIED CARD OF 'furlonglaw07.OrderPlain'. -/
def orderPlainCard : Claim7 := { stood := { row := orderPlainRow, standIns := [], harness := (true, "3b571fdcf98cc32895ebaf0786107d9bf91262209f8f0ac8d54d354ec891c126"), looks := true }, kinds := [], alts := [], laidByText := true, laidKinds := [.data, .data, .data, .sentinel, .sentinel], laidTests := true, laidLooks := .later }
def OrderPlainCardSaid : Prop := Claim7.holds Tryd.pinned (.plain (OpenSpec.ofChange orderPlainSpec)) orderPlainCard

/-- THE SECOND FORM's CARD OF 'furlonglaw06.DescChecks'. -/
def descChecksUptoCard : Claim7 := { stood := { row := descChecksUptoRow, standIns := [], harness := (true, "3b571fdcf98cc32895ebaf0786107d9bf91262209f8f0ac8d54d354ec891c126"), looks := true }, kinds := [], alts := [], laidByText := true, laidKinds := [.data, .data, .data, .sentinel, .sentinel], laidTests := true, laidLooks := .later }
def DescChecksUptoCardSaid : Prop := Claim7.holds Tryd.pinned (.plain (OpenSpec.upto descChecksSpec)) descChecksUptoCard

/-- THE SECOND FORM's CARD OF 'furlonglaw06.DescSplits'. -/
def descSplitsUptoCard : Claim7 := { stood := { row := descSplitsUptoRow, standIns := [], harness := (true, "3b571fdcf98cc32895ebaf0786107d9bf91262209f8f0ac8d54d354ec891c126"), looks := true }, kinds := [], alts := [], laidByText := true, laidKinds := [.data, .data, .data, .sentinel, .sentinel], laidTests := true, laidLooks := .later }
def DescSplitsUptoCardSaid : Prop := Claim7.holds Tryd.pinned (.plain (OpenSpec.upto descSplitsSpec)) descSplitsUptoCard

/-- THE SECOND FORM's CARD OF 'furlonglaw06.DescMembers'. -/
def descMembersUptoCard : Claim7 := { stood := { row := descMembersUptoRow, standIns := [], harness := (true, "3b571fdcf98cc32895ebaf0786107d9bf91262209f8f0ac8d54d354ec891c126"), looks := true }, kinds := [], alts := [], laidByText := true, laidKinds := [.data, .data, .data, .sentinel, .sentinel], laidTests := true, laidLooks := .later }
def DescMembersUptoCardSaid : Prop := Claim7.holds Tryd.pinned (.plain (OpenSpec.upto descMembersSpec)) descMembersUptoCard

/-- THE SECOND FORM's CARD OF 'furlonglaw07.OrderKinds'. -/
def orderKindsUptoCard : Claim7 := { stood := { row := orderKindsUptoRow, standIns := [], harness := (true, "3b571fdcf98cc32895ebaf0786107d9bf91262209f8f0ac8d54d354ec891c126"), looks := true }, kinds := [], alts := [], laidByText := true, laidKinds := [.data, .data, .data, .sentinel, .sentinel], laidTests := true, laidLooks := .later }
def OrderKindsUptoCardSaid : Prop := Claim7.holds Tryd.pinned (.plain (OpenSpec.upto orderKindsSpec)) orderKindsUptoCard

/-- THE SECOND FORM's CARD OF 'furlonglaw07.OrderBack'. -/
def orderBackUptoCard : Claim7 := { stood := { row := orderBackUptoRow, standIns := [], harness := (true, "3b571fdcf98cc32895ebaf0786107d9bf91262209f8f0ac8d54d354ec891c126"), looks := true }, kinds := [], alts := [], laidByText := true, laidKinds := [.data, .data, .data, .sentinel, .sentinel], laidTests := true, laidLooks := .later }
def OrderBackUptoCardSaid : Prop := Claim7.holds Tryd.pinned (.plain (OpenSpec.upto orderBackSpec)) orderBackUptoCard

/-- THE SECOND FORM's CARD OF 'furlonglaw07.OrderRepliesBack'. -/
def orderRepliesBackUptoCard : Claim7 := { stood := { row := orderRepliesBackUptoRow, standIns := [], harness := (true, "3b571fdcf98cc32895ebaf0786107d9bf91262209f8f0ac8d54d354ec891c126"), looks := true }, kinds := [], alts := [], laidByText := true, laidKinds := [.data, .data, .data, .sentinel, .sentinel], laidTests := true, laidLooks := .later }
def OrderRepliesBackUptoCardSaid : Prop := Claim7.holds Tryd.pinned (.plain (OpenSpec.upto orderRepliesBackSpec)) orderRepliesBackUptoCard

/-- THE SECOND FORM's CARD OF 'furlonglaw07.OrderPlain'. -/
def orderPlainUptoCard : Claim7 := { stood := { row := orderPlainUptoRow, standIns := [], harness := (true, "3b571fdcf98cc32895ebaf0786107d9bf91262209f8f0ac8d54d354ec891c126"), looks := true }, kinds := [], alts := [], laidByText := true, laidKinds := [.data, .data, .data, .sentinel, .sentinel], laidTests := true, laidLooks := .later }
def OrderPlainUptoCardSaid : Prop := Claim7.holds Tryd.pinned (.plain (OpenSpec.upto orderPlainSpec)) orderPlainUptoCard
end Rows
end Go.Proofs.YtlmecfnoipnccaaDoor
