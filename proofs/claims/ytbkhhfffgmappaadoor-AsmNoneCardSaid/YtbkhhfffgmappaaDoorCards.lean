/-
  DERIVED. GIVEN WITH THE SEED: THE CARDS: each row of YtbkhhfffgmappaaDoorRows.lean that lists a variable, with what it lists TIED to the program's text (the seventh form; the later family's looks); each row that meets fmt, with fmt's text TOLD by the authors' own Lean function (tested against real Go, not proved from fmt's source: count such statements apart). THE CARD IS WHAT COUNTS. Prove the row's statement (the work); the ties are given (YtbkhhfffgmappaaDoorTie.lean); close each card by the builder's one call (the guide's Derived/Test/ToyasCard.lean, 'card_holds'). Laid BY PROGRAM, IN A SANDBOX (cutbox-door.mjs). By AI agents, Wed Nov 11 2026. No macro, syntax, notation, axiom, sorry.
-/
import Derived.Test.YtbkhhfffgmappaaDoorRows
import GoSem.ClaimSeven
namespace Go.Proofs.YtbkhhfffgmappaaDoor
namespace Rows

/-- THE TIED CARD OF 'muntinlaw07.AsmPlays'. -/
def asmPlaysCard : Claim7 := { stood := { row := asmPlaysRow, standIns := [], harness := (true, "c292ce580c2b56a59ebc082febf6087a27b9eb6a8bb01b8e484aae1075f4a43f"), looks := true }, kinds := [], alts := [], laidByText := true, laidKinds := [.data], laidTests := true, laidLooks := .later }
def AsmPlaysCardSaid : Prop := Claim7.holds Tryd.pinned (.plain (OpenSpec.ofChange asmPlaysSpec)) asmPlaysCard

/-- THE TIED CARD OF 'muntinlaw07.AsmMoves'. -/
def asmMovesCard : Claim7 := { stood := { row := asmMovesRow, standIns := [], harness := (true, "c292ce580c2b56a59ebc082febf6087a27b9eb6a8bb01b8e484aae1075f4a43f"), looks := true }, kinds := [], alts := [], laidByText := true, laidKinds := [.data], laidTests := true, laidLooks := .later }
def AsmMovesCardSaid : Prop := Claim7.holds Tryd.pinned (.plain (OpenSpec.ofChange asmMovesSpec)) asmMovesCard

/-- THE TIED CARD OF 'muntinlaw07.AsmNone'. -/
def asmNoneCard : Claim7 := { stood := { row := asmNoneRow, standIns := [], harness := (true, "c292ce580c2b56a59ebc082febf6087a27b9eb6a8bb01b8e484aae1075f4a43f"), looks := true }, kinds := [], alts := [], laidByText := true, laidKinds := [.data], laidTests := true, laidLooks := .later }
def AsmNoneCardSaid : Prop := Claim7.holds Tryd.pinned (.plain (OpenSpec.ofChange asmNoneSpec)) asmNoneCard

/-- THE SECOND FORM's CARD OF 'muntinlaw07.AsmPlays'. -/
def asmPlaysUptoCard : Claim7 := { stood := { row := asmPlaysUptoRow, standIns := [], harness := (true, "c292ce580c2b56a59ebc082febf6087a27b9eb6a8bb01b8e484aae1075f4a43f"), looks := true }, kinds := [], alts := [], laidByText := true, laidKinds := [.data], laidTests := true, laidLooks := .later }
def AsmPlaysUptoCardSaid : Prop := Claim7.holds Tryd.pinned (.plain (OpenSpec.upto asmPlaysSpec)) asmPlaysUptoCard

/-- THE SECOND FORM's CARD OF 'muntinlaw07.AsmMoves'. -/
def asmMovesUptoCard : Claim7 := { stood := { row := asmMovesUptoRow, standIns := [], harness := (true, "c292ce580c2b56a59ebc082febf6087a27b9eb6a8bb01b8e484aae1075f4a43f"), looks := true }, kinds := [], alts := [], laidByText := true, laidKinds := [.data], laidTests := true, laidLooks := .later }
def AsmMovesUptoCardSaid : Prop := Claim7.holds Tryd.pinned (.plain (OpenSpec.upto asmMovesSpec)) asmMovesUptoCard

/-- THE SECOND FORM's CARD OF 'muntinlaw07.AsmNone'. -/
def asmNoneUptoCard : Claim7 := { stood := { row := asmNoneUptoRow, standIns := [], harness := (true, "c292ce580c2b56a59ebc082febf6087a27b9eb6a8bb01b8e484aae1075f4a43f"), looks := true }, kinds := [], alts := [], laidByText := true, laidKinds := [.data], laidTests := true, laidLooks := .later }
def AsmNoneUptoCardSaid : Prop := Claim7.holds Tryd.pinned (.plain (OpenSpec.upto asmNoneSpec)) asmNoneUptoCard
end Rows
end Go.Proofs.YtbkhhfffgmappaaDoor
