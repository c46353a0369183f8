/-
  DERIVED. GIVEN WITH THE SEED: THE CARDS: each row of YtiijdacnfhiagaaGreatDoorRows.lean that lists a variable, with what it lists TIED to the program's text (the seventh form; the later family's looks); each row that meets fmt, with fmt's text TOLD by the authors' own Lean function (tested against real Go, not proved from fmt's source: count such statements apart). THE CARD IS WHAT COUNTS. Prove the row's statement (the work); the ties are given (YtiijdacnfhiagaaGreatDoorTie.lean); close each card by the builder's one call (the guide's Derived/Test/ToyasCard.lean, 'card_holds'). Laid BY PROGRAM, IN A SANDBOX (cutbox-door.mjs). By AI agents, Wed Nov 11 2026. No macro, syntax, notation, axiom, sorry.
-/
import Derived.Test.YtiijdacnfhiagaaGreatDoorRows
import GoSem.ClaimSeven
namespace Go.Proofs.YtiijdacnfhiagaaGreatDoor
namespace Rows

/-- THE TIED CARD OF 'alibilaw04.PredTells'. -/
def predTellsCard : Claim7 := { stood := { row := predTellsRow, standIns := [], harness := (true, "d26090c0072b2c9b5c20d0254246b5e4fe08edd6f44f83ba9b7323559d35da9b"), looks := true }, kinds := [], alts := [], laidByText := true, laidKinds := [.data, .data, .data, .data, .sentinel, .sentinel, .pinned], laidTests := true, laidLooks := .later }
def PredTellsCardSaid : Prop := Claim7.holds Tryz.pinned (.plain (OpenSpec.ofChange predTellsSpec)) predTellsCard

/-- THE TIED CARD OF 'alibilaw04.PredTakes'. -/
def predTakesCard : Claim7 := { stood := { row := predTakesRow, standIns := [], harness := (true, "d26090c0072b2c9b5c20d0254246b5e4fe08edd6f44f83ba9b7323559d35da9b"), looks := true }, kinds := [], alts := [], laidByText := true, laidKinds := [.data, .data, .data, .data, .sentinel, .sentinel, .pinned], laidTests := true, laidLooks := .later }
def PredTakesCardSaid : Prop := Claim7.holds Tryz.pinned (.plain (OpenSpec.ofChange predTakesSpec)) predTakesCard

/-- THE TIED CARD OF 'alibilaw04.PredReads'. -/
def predReadsCard : Claim7 := { stood := { row := predReadsRow, standIns := [], harness := (true, "d26090c0072b2c9b5c20d0254246b5e4fe08edd6f44f83ba9b7323559d35da9b"), looks := true }, kinds := [], alts := [], laidByText := true, laidKinds := [.data, .data, .data, .data, .sentinel, .sentinel, .pinned], laidTests := true, laidLooks := .later }
def PredReadsCardSaid : Prop := Claim7.holds Tryz.pinned (.plain (OpenSpec.ofChange predReadsSpec)) predReadsCard

/-- THE TIED CARD OF 'alibilaw04.PredBack'. -/
def predBackCard : Claim7 := { stood := { row := predBackRow, standIns := [], harness := (true, "d26090c0072b2c9b5c20d0254246b5e4fe08edd6f44f83ba9b7323559d35da9b"), looks := true }, kinds := [], alts := [], laidByText := true, laidKinds := [.data, .data, .data, .data, .sentinel, .sentinel, .pinned], laidTests := true, laidLooks := .later }
def PredBackCardSaid : Prop := Claim7.holds Tryz.pinned (.plain (OpenSpec.ofChange predBackSpec)) predBackCard

/-- THE TIED CARD OF 'alibilaw04.PredKnown'. -/
def predKnownCard : Claim7 := { stood := { row := predKnownRow, standIns := [], harness := (true, "d26090c0072b2c9b5c20d0254246b5e4fe08edd6f44f83ba9b7323559d35da9b"), looks := true }, kinds := [], alts := [], laidByText := true, laidKinds := [.data, .data, .data, .data, .sentinel, .sentinel, .pinned], laidTests := true, laidLooks := .later }
def PredKnownCardSaid : Prop := Claim7.holds Tryz.pinned (.plain (OpenSpec.ofChange predKnownSpec)) predKnownCard

/-- THE SECOND FORM's CARD OF 'alibilaw04.PredTells'. -/
def predTellsUptoCard : Claim7 := { stood := { row := predTellsUptoRow, standIns := [], harness := (true, "d26090c0072b2c9b5c20d0254246b5e4fe08edd6f44f83ba9b7323559d35da9b"), looks := true }, kinds := [], alts := [], laidByText := true, laidKinds := [.data, .data, .data, .data, .sentinel, .sentinel, .pinned], laidTests := true, laidLooks := .later }
def PredTellsUptoCardSaid : Prop := Claim7.holds Tryz.pinned (.plain (OpenSpec.upto predTellsSpec)) predTellsUptoCard

/-- THE SECOND FORM's CARD OF 'alibilaw04.PredTakes'. -/
def predTakesUptoCard : Claim7 := { stood := { row := predTakesUptoRow, standIns := [], harness := (true, "d26090c0072b2c9b5c20d0254246b5e4fe08edd6f44f83ba9b7323559d35da9b"), looks := true }, kinds := [], alts := [], laidByText := true, laidKinds := [.data, .data, .data, .data, .sentinel, .sentinel, .pinned], laidTests := true, laidLooks := .later }
def PredTakesUptoCardSaid : Prop := Claim7.holds Tryz.pinned (.plain (OpenSpec.upto predTakesSpec)) predTakesUptoCard

/-- THE SECOND FORM's CARD OF 'alibilaw04.PredReads'. -/
def predReadsUptoCard : Claim7 := { stood := { row := predReadsUptoRow, standIns := [], harness := (true, "d26090c0072b2c9b5c20d0254246b5e4fe08edd6f44f83ba9b7323559d35da9b"), looks := true }, kinds := [], alts := [], laidByText := true, laidKinds := [.data, .data, .data, .data, .sentinel, .sentinel, .pinned], laidTests := true, laidLooks := .later }
def PredReadsUptoCardSaid : Prop := Claim7.holds Tryz.pinned (.plain (OpenSpec.upto predReadsSpec)) predReadsUptoCard

/-- THE SECOND FORM's CARD OF 'alibilaw04.PredBack'. -/
def predBackUptoCard : Claim7 := { stood := { row := predBackUptoRow, standIns := [], harness := (true, "d26090c0072b2c9b5c20d0254246b5e4fe08edd6f44f83ba9b7323559d35da9b"), looks := true }, kinds := [], alts := [], laidByText := true, laidKinds := [.data, .data, .data, .data, .sentinel, .sentinel, .pinned], laidTests := true, laidLooks := .later }
def PredBackUptoCardSaid : Prop := Claim7.holds Tryz.pinned (.plain (OpenSpec.upto predBackSpec)) predBackUptoCard

/-- THE SECOND FORM's CARD OF 'alibilaw04.PredKnown'. -/
def predKnownUptoCard : Claim7 := { stood := { row := predKnownUptoRow, standIns := [], harness := (true, "d26090c0072b2c9b5c20d0254246b5e4fe08edd6f44f83ba9b7323559d35da9b"), looks := true }, kinds := [], alts := [], laidByText := true, laidKinds := [.data, .data, .data, .data, .sentinel, .sentinel, .pinned], laidTests := true, laidLooks := .later }
def PredKnownUptoCardSaid : Prop := Claim7.holds Tryz.pinned (.plain (OpenSpec.upto predKnownSpec)) predKnownUptoCard
end Rows
end Go.Proofs.YtiijdacnfhiagaaGreatDoor
