/-
  DERIVED. GIVEN WITH THE SEED: THE CARDS: each row of YticikmkehobblaaDoorRows.lean that lists a variable, with what it lists TIED to the program's text (the seventh form; the later family's looks); each row that meets fmt, with fmt's text TOLD by the authors' own Lean function (tested against real Go, not proved from fmt's source: count such statements apart). THE CARD IS WHAT COUNTS. Prove the row's statement (the work); the ties are given (YticikmkehobblaaDoorTie.lean); close each card by the builder's one call (the guide's Derived/Test/ToyasCard.lean, 'card_holds'). Laid BY PROGRAM, IN A SANDBOX (cutbox-door.mjs). By AI agents, Wed Nov 11 2026. No macro, syntax, notation, axiom, sorry.
-/
import Derived.Test.YticikmkehobblaaDoorRows
import GoSem.ClaimSeven
namespace Go.Proofs.YticikmkehobblaaDoor
namespace Rows

/-- THE TIED CARD OF 'furlonglaw08.SessionAsks'. -/
def sessionAsksCard : Claim7 := { stood := { row := sessionAsksRow, standIns := [], harness := (true, "05c4fbec410fe37a8478da38d9a2d1daec60fdf59f5e927d922a86fc8e108693"), looks := true }, kinds := [], alts := [], laidByText := true, laidKinds := [.data, .data, .data, .sentinel, .sentinel], laidTests := true, laidLooks := .later }
def SessionAsksCardSaid : Prop := Claim7.holds Tryd.pinned (.plain (OpenSpec.ofChange sessionAsksSpec)) sessionAsksCard

/-- THE TIED CARD OF 'furlonglaw08.SessionMerges'. -/
def sessionMergesCard : Claim7 := { stood := { row := sessionMergesRow, standIns := [], harness := (true, "05c4fbec410fe37a8478da38d9a2d1daec60fdf59f5e927d922a86fc8e108693"), looks := true }, kinds := [], alts := [], laidByText := true, laidKinds := [.data, .data, .data, .sentinel, .sentinel], laidTests := true, laidLooks := .later }
def SessionMergesCardSaid : Prop := Claim7.holds Tryd.pinned (.plain (OpenSpec.ofChange sessionMergesSpec)) sessionMergesCard

/-- THE TIED CARD OF 'furlonglaw08.SessionRises'. -/
def sessionRisesCard : Claim7 := { stood := { row := sessionRisesRow, standIns := [], harness := (true, "05c4fbec410fe37a8478da38d9a2d1daec60fdf59f5e927d922a86fc8e108693"), looks := true }, kinds := [], alts := [], laidByText := true, laidKinds := [.data, .data, .data, .sentinel, .sentinel], laidTests := true, laidLooks := .later }
def SessionRisesCardSaid : Prop := Claim7.holds Tryd.pinned (.plain (OpenSpec.ofChange sessionRisesSpec)) sessionRisesCard

/-- THE TIED CARD OF 'furlonglaw08.SessionEither'. -/
def sessionEitherCard : Claim7 := { stood := { row := sessionEitherRow, standIns := [], harness := (true, "05c4fbec410fe37a8478da38d9a2d1daec60fdf59f5e927d922a86fc8e108693"), looks := true }, kinds := [], alts := [], laidByText := true, laidKinds := [.data, .data, .data, .sentinel, .sentinel], laidTests := true, laidLooks := .later }
def SessionEitherCardSaid : Prop := Claim7.holds Tryd.pinned (.plain (OpenSpec.ofChange sessionEitherSpec)) sessionEitherCard

/-- THE SECOND FORM's CARD OF 'furlonglaw08.SessionAsks'. -/
def sessionAsksUptoCard : Claim7 := { stood := { row := sessionAsksUptoRow, standIns := [], harness := (true, "05c4fbec410fe37a8478da38d9a2d1daec60fdf59f5e927d922a86fc8e108693"), looks := true }, kinds := [], alts := [], laidByText := true, laidKinds := [.data, .data, .data, .sentinel, .sentinel], laidTests := true, laidLooks := .later }
def SessionAsksUptoCardSaid : Prop := Claim7.holds Tryd.pinned (.plain (OpenSpec.upto sessionAsksSpec)) sessionAsksUptoCard

/-- THE SECOND FORM's CARD OF 'furlonglaw08.SessionMerges'. -/
def sessionMergesUptoCard : Claim7 := { stood := { row := sessionMergesUptoRow, standIns := [], harness := (true, "05c4fbec410fe37a8478da38d9a2d1daec60fdf59f5e927d922a86fc8e108693"), looks := true }, kinds := [], alts := [], laidByText := true, laidKinds := [.data, .data, .data, .sentinel, .sentinel], laidTests := true, laidLooks := .later }
def SessionMergesUptoCardSaid : Prop := Claim7.holds Tryd.pinned (.plain (OpenSpec.upto sessionMergesSpec)) sessionMergesUptoCard

/-- THE SECOND FORM's CARD OF 'furlonglaw08.SessionRises'. -/
def sessionRisesUptoCard : Claim7 := { stood := { row := sessionRisesUptoRow, standIns := [], harness := (true, "05c4fbec410fe37a8478da38d9a2d1daec60fdf59f5e927d922a86fc8e108693"), looks := true }, kinds := [], alts := [], laidByText := true, laidKinds := [.data, .data, .data, .sentinel, .sentinel], laidTests := true, laidLooks := .later }
def SessionRisesUptoCardSaid : Prop := Claim7.holds Tryd.pinned (.plain (OpenSpec.upto sessionRisesSpec)) sessionRisesUptoCard

/-- THE SECOND FORM's CARD OF 'furlonglaw08.SessionEither'. -/
def sessionEitherUptoCard : Claim7 := { stood := { row := sessionEitherUptoRow, standIns := [], harness := (true, "05c4fbec410fe37a8478da38d9a2d1daec60fdf59f5e927d922a86fc8e108693"), looks := true }, kinds := [], alts := [], laidByText := true, laidKinds := [.data, .data, .data, .sentinel, .sentinel], laidTests := true, laidLooks := .later }
def SessionEitherUptoCardSaid : Prop := Claim7.holds Tryd.pinned (.plain (OpenSpec.upto sessionEitherSpec)) sessionEitherUptoCard
end Rows
end Go.Proofs.YticikmkehobblaaDoor
