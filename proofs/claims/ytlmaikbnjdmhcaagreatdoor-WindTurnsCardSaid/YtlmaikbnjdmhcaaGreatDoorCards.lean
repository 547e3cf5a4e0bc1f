/-
  DERIVED. GIVEN WITH THE SEED: THE CARDS: each row of YtlmaikbnjdmhcaaGreatDoorRows.lean that lists a variable, with what it lists TIED to the program's text (the seventh form; the later family's looks); each row that meets fmt, with fmt's text TOLD by the authors' own Lean function (tested against real Go, not proved from fmt's source: count such statements apart). THE CARD IS WHAT COUNTS. Prove the row's statement (the work); the ties are given (YtlmaikbnjdmhcaaGreatDoorTie.lean); close each card by the builder's one call (the guide's Derived/Test/ToyasCard.lean, 'card_holds'). Laid BY PROGRAM, IN A SANDBOX (cutbox-door.mjs). By AI agents, Wed Nov 11 2026. No macro, syntax, notation, axiom, sorry.
-/
import Derived.Test.YtlmaikbnjdmhcaaGreatDoorRows
import GoSem.ClaimSeven
namespace Go.Proofs.YtlmaikbnjdmhcaaGreatDoor
namespace Rows

/-- THE TIED CARD OF 'muntinlaw06.MachSteps'. -/
def machStepsCard : Claim7 := { stood := { row := machStepsRow, standIns := [], harness := (true, "de07d819b66b4dd99705d4fa2d9e23b9d6c6570fbf64ceb249fe2ef83b5a4e3f"), looks := false }, kinds := [], alts := [], laidByText := true, laidKinds := [.data, .data], laidTests := true, laidLooks := .later }
def MachStepsCardSaid : Prop := Claim7.holds Tryz.pinned (.plain (OpenSpec.ofChange machStepsSpec)) machStepsCard

/-- THE TIED CARD OF 'muntinlaw06.MachLess'. -/
def machLessCard : Claim7 := { stood := { row := machLessRow, standIns := [], harness := (true, "de07d819b66b4dd99705d4fa2d9e23b9d6c6570fbf64ceb249fe2ef83b5a4e3f"), looks := false }, kinds := [], alts := [], laidByText := true, laidKinds := [.data, .data], laidTests := true, laidLooks := .later }
def MachLessCardSaid : Prop := Claim7.holds Tryz.pinned (.plain (OpenSpec.ofChange machLessSpec)) machLessCard

/-- THE TIED CARD OF 'muntinlaw08.WindTurns'. -/
def windTurnsCard : Claim7 := { stood := { row := windTurnsRow, standIns := [], harness := (true, "de07d819b66b4dd99705d4fa2d9e23b9d6c6570fbf64ceb249fe2ef83b5a4e3f"), looks := false }, kinds := [], alts := [], laidByText := true, laidKinds := [.data, .data], laidTests := true, laidLooks := .later }
def WindTurnsCardSaid : Prop := Claim7.holds Tryz.pinned (.plain (OpenSpec.ofChange windTurnsSpec)) windTurnsCard

/-- THE TIED CARD OF 'muntinlaw08.WindBack'. -/
def windBackCard : Claim7 := { stood := { row := windBackRow, standIns := [], harness := (true, "de07d819b66b4dd99705d4fa2d9e23b9d6c6570fbf64ceb249fe2ef83b5a4e3f"), looks := false }, kinds := [], alts := [], laidByText := true, laidKinds := [.data, .data], laidTests := true, laidLooks := .later }
def WindBackCardSaid : Prop := Claim7.holds Tryz.pinned (.plain (OpenSpec.ofChange windBackSpec)) windBackCard

/-- THE SECOND FORM's CARD OF 'muntinlaw06.MachSteps'. -/
def machStepsUptoCard : Claim7 := { stood := { row := machStepsUptoRow, standIns := [], harness := (true, "de07d819b66b4dd99705d4fa2d9e23b9d6c6570fbf64ceb249fe2ef83b5a4e3f"), looks := false }, kinds := [], alts := [], laidByText := true, laidKinds := [.data, .data], laidTests := true, laidLooks := .later }
def MachStepsUptoCardSaid : Prop := Claim7.holds Tryz.pinned (.plain (OpenSpec.upto machStepsSpec)) machStepsUptoCard

/-- THE SECOND FORM's CARD OF 'muntinlaw06.MachLess'. -/
def machLessUptoCard : Claim7 := { stood := { row := machLessUptoRow, standIns := [], harness := (true, "de07d819b66b4dd99705d4fa2d9e23b9d6c6570fbf64ceb249fe2ef83b5a4e3f"), looks := false }, kinds := [], alts := [], laidByText := true, laidKinds := [.data, .data], laidTests := true, laidLooks := .later }
def MachLessUptoCardSaid : Prop := Claim7.holds Tryz.pinned (.plain (OpenSpec.upto machLessSpec)) machLessUptoCard

/-- THE SECOND FORM's CARD OF 'muntinlaw08.WindTurns'. -/
def windTurnsUptoCard : Claim7 := { stood := { row := windTurnsUptoRow, standIns := [], harness := (true, "de07d819b66b4dd99705d4fa2d9e23b9d6c6570fbf64ceb249fe2ef83b5a4e3f"), looks := false }, kinds := [], alts := [], laidByText := true, laidKinds := [.data, .data], laidTests := true, laidLooks := .later }
def WindTurnsUptoCardSaid : Prop := Claim7.holds Tryz.pinned (.plain (OpenSpec.upto windTurnsSpec)) windTurnsUptoCard

/-- THE SECOND FORM's CARD OF 'muntinlaw08.WindBack'. -/
def windBackUptoCard : Claim7 := { stood := { row := windBackUptoRow, standIns := [], harness := (true, "de07d819b66b4dd99705d4fa2d9e23b9d6c6570fbf64ceb249fe2ef83b5a4e3f"), looks := false }, kinds := [], alts := [], laidByText := true, laidKinds := [.data, .data], laidTests := true, laidLooks := .later }
def WindBackUptoCardSaid : Prop := Claim7.holds Tryz.pinned (.plain (OpenSpec.upto windBackSpec)) windBackUptoCard
end Rows
end Go.Proofs.YtlmaikbnjdmhcaaGreatDoor
