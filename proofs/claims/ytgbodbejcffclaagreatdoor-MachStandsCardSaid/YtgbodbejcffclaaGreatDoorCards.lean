/-
  DERIVED. GIVEN WITH THE SEED: THE CARDS: each row of YtgbodbejcffclaaGreatDoorRows.lean that lists a variable, with what it lists TIED to the program's text (the seventh form; the later family's looks); each row that meets fmt, with fmt's text TOLD by the authors' own Lean function (tested against real Go, not proved from fmt's source: count such statements apart). THE CARD IS WHAT COUNTS. Prove the row's statement (the work); the ties are given (YtgbodbejcffclaaGreatDoorTie.lean); close each card by the builder's one call (the guide's Derived/Test/ToyasCard.lean, 'card_holds'). Laid BY PROGRAM, IN A SANDBOX (cutbox-door.mjs). By AI agents, Wed Nov 11 2026. No macro, syntax, notation, axiom, sorry.
-/
import Derived.Test.YtgbodbejcffclaaGreatDoorRows
import GoSem.ClaimSeven
namespace Go.Proofs.YtgbodbejcffclaaGreatDoor
namespace Rows

/-- THE TIED CARD OF 'muntinlaw06.MachSteps'. -/
def machStepsCard : Claim7 := { stood := { row := machStepsRow, standIns := [], harness := (true, "6a73925ed41501b2b72bedd8c242d8c182673a2a18c5e0e789a5b6da04d456fe"), looks := false }, kinds := [], alts := [], laidByText := true, laidKinds := [.data, .data], laidTests := true, laidLooks := .later }
def MachStepsCardSaid : Prop := Claim7.holds Tryz.pinned (.plain (OpenSpec.ofChange machStepsSpec)) machStepsCard

/-- THE TIED CARD OF 'muntinlaw06.MachStands'. -/
def machStandsCard : Claim7 := { stood := { row := machStandsRow, standIns := [], harness := (true, "6a73925ed41501b2b72bedd8c242d8c182673a2a18c5e0e789a5b6da04d456fe"), looks := false }, kinds := [], alts := [], laidByText := true, laidKinds := [.data, .data], laidTests := true, laidLooks := .later }
def MachStandsCardSaid : Prop := Claim7.holds Tryz.pinned (.plain (OpenSpec.ofChange machStandsSpec)) machStandsCard

/-- THE TIED CARD OF 'muntinlaw06.MachReturns'. -/
def machReturnsCard : Claim7 := { stood := { row := machReturnsRow, standIns := [], harness := (true, "6a73925ed41501b2b72bedd8c242d8c182673a2a18c5e0e789a5b6da04d456fe"), looks := false }, kinds := [], alts := [], laidByText := true, laidKinds := [.data, .data], laidTests := true, laidLooks := .later }
def MachReturnsCardSaid : Prop := Claim7.holds Tryz.pinned (.plain (OpenSpec.ofChange machReturnsSpec)) machReturnsCard

/-- THE TIED CARD OF 'muntinlaw06.MachLess'. -/
def machLessCard : Claim7 := { stood := { row := machLessRow, standIns := [], harness := (true, "6a73925ed41501b2b72bedd8c242d8c182673a2a18c5e0e789a5b6da04d456fe"), looks := false }, kinds := [], alts := [], laidByText := true, laidKinds := [.data, .data], laidTests := true, laidLooks := .later }
def MachLessCardSaid : Prop := Claim7.holds Tryz.pinned (.plain (OpenSpec.ofChange machLessSpec)) machLessCard

/-- THE TIED CARD OF 'muntinlaw08.WindTurns'. -/
def windTurnsCard : Claim7 := { stood := { row := windTurnsRow, standIns := [], harness := (true, "6a73925ed41501b2b72bedd8c242d8c182673a2a18c5e0e789a5b6da04d456fe"), looks := false }, kinds := [], alts := [], laidByText := true, laidKinds := [.data, .data], laidTests := true, laidLooks := .later }
def WindTurnsCardSaid : Prop := Claim7.holds Tryz.pinned (.plain (OpenSpec.ofChange windTurnsSpec)) windTurnsCard

/-- THE TIED CARD OF 'muntinlaw08.WindBack'. -/
def windBackCard : Claim7 := { stood := { row := windBackRow, standIns := [], harness := (true, "6a73925ed41501b2b72bedd8c242d8c182673a2a18c5e0e789a5b6da04d456fe"), looks := false }, kinds := [], alts := [], laidByText := true, laidKinds := [.data, .data], laidTests := true, laidLooks := .later }
def WindBackCardSaid : Prop := Claim7.holds Tryz.pinned (.plain (OpenSpec.ofChange windBackSpec)) windBackCard

/-- THE TIED CARD OF 'muntinlaw09.TickCounts'. -/
def tickCountsCard : Claim7 := { stood := { row := tickCountsRow, standIns := [], harness := (true, "6a73925ed41501b2b72bedd8c242d8c182673a2a18c5e0e789a5b6da04d456fe"), looks := false }, kinds := [], alts := [], laidByText := true, laidKinds := [.data, .data, .data, .data], laidTests := true, laidLooks := .later }
def TickCountsCardSaid : Prop := Claim7.holds Tryz.pinned (.plain (OpenSpec.ofChange tickCountsSpec)) tickCountsCard

/-- THE SECOND FORM's CARD OF 'muntinlaw06.MachSteps'. -/
def machStepsUptoCard : Claim7 := { stood := { row := machStepsUptoRow, standIns := [], harness := (true, "6a73925ed41501b2b72bedd8c242d8c182673a2a18c5e0e789a5b6da04d456fe"), looks := false }, kinds := [], alts := [], laidByText := true, laidKinds := [.data, .data], laidTests := true, laidLooks := .later }
def MachStepsUptoCardSaid : Prop := Claim7.holds Tryz.pinned (.plain (OpenSpec.upto machStepsSpec)) machStepsUptoCard

/-- THE SECOND FORM's CARD OF 'muntinlaw06.MachStands'. -/
def machStandsUptoCard : Claim7 := { stood := { row := machStandsUptoRow, standIns := [], harness := (true, "6a73925ed41501b2b72bedd8c242d8c182673a2a18c5e0e789a5b6da04d456fe"), looks := false }, kinds := [], alts := [], laidByText := true, laidKinds := [.data, .data], laidTests := true, laidLooks := .later }
def MachStandsUptoCardSaid : Prop := Claim7.holds Tryz.pinned (.plain (OpenSpec.upto machStandsSpec)) machStandsUptoCard

/-- THE SECOND FORM's CARD OF 'muntinlaw06.MachReturns'. -/
def machReturnsUptoCard : Claim7 := { stood := { row := machReturnsUptoRow, standIns := [], harness := (true, "6a73925ed41501b2b72bedd8c242d8c182673a2a18c5e0e789a5b6da04d456fe"), looks := false }, kinds := [], alts := [], laidByText := true, laidKinds := [.data, .data], laidTests := true, laidLooks := .later }
def MachReturnsUptoCardSaid : Prop := Claim7.holds Tryz.pinned (.plain (OpenSpec.upto machReturnsSpec)) machReturnsUptoCard

/-- THE SECOND FORM's CARD OF 'muntinlaw06.MachLess'. -/
def machLessUptoCard : Claim7 := { stood := { row := machLessUptoRow, standIns := [], harness := (true, "6a73925ed41501b2b72bedd8c242d8c182673a2a18c5e0e789a5b6da04d456fe"), looks := false }, kinds := [], alts := [], laidByText := true, laidKinds := [.data, .data], laidTests := true, laidLooks := .later }
def MachLessUptoCardSaid : Prop := Claim7.holds Tryz.pinned (.plain (OpenSpec.upto machLessSpec)) machLessUptoCard

/-- THE SECOND FORM's CARD OF 'muntinlaw08.WindTurns'. -/
def windTurnsUptoCard : Claim7 := { stood := { row := windTurnsUptoRow, standIns := [], harness := (true, "6a73925ed41501b2b72bedd8c242d8c182673a2a18c5e0e789a5b6da04d456fe"), looks := false }, kinds := [], alts := [], laidByText := true, laidKinds := [.data, .data], laidTests := true, laidLooks := .later }
def WindTurnsUptoCardSaid : Prop := Claim7.holds Tryz.pinned (.plain (OpenSpec.upto windTurnsSpec)) windTurnsUptoCard

/-- THE SECOND FORM's CARD OF 'muntinlaw08.WindBack'. -/
def windBackUptoCard : Claim7 := { stood := { row := windBackUptoRow, standIns := [], harness := (true, "6a73925ed41501b2b72bedd8c242d8c182673a2a18c5e0e789a5b6da04d456fe"), looks := false }, kinds := [], alts := [], laidByText := true, laidKinds := [.data, .data], laidTests := true, laidLooks := .later }
def WindBackUptoCardSaid : Prop := Claim7.holds Tryz.pinned (.plain (OpenSpec.upto windBackSpec)) windBackUptoCard

/-- THE SECOND FORM's CARD OF 'muntinlaw09.TickCounts'. -/
def tickCountsUptoCard : Claim7 := { stood := { row := tickCountsUptoRow, standIns := [], harness := (true, "6a73925ed41501b2b72bedd8c242d8c182673a2a18c5e0e789a5b6da04d456fe"), looks := false }, kinds := [], alts := [], laidByText := true, laidKinds := [.data, .data, .data, .data], laidTests := true, laidLooks := .later }
def TickCountsUptoCardSaid : Prop := Claim7.holds Tryz.pinned (.plain (OpenSpec.upto tickCountsSpec)) tickCountsUptoCard
end Rows
end Go.Proofs.YtgbodbejcffclaaGreatDoor
