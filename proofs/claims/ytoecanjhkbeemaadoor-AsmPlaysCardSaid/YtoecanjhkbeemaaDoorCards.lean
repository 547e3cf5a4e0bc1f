/-
  DERIVED. GIVEN WITH THE SEED: THE CARDS: each row of YtoecanjhkbeemaaDoorRows.lean that lists a variable, with what it lists TIED to the program's text (the seventh form; the later family's looks); each row that meets fmt, with fmt's text TOLD by the authors' own Lean function (tested against real Go, not proved from fmt's source: count such statements apart). THE CARD IS WHAT COUNTS. Prove the row's statement (the work); the ties are given (YtoecanjhkbeemaaDoorTie.lean); close each card by the builder's one call (the guide's Derived/Test/ToyasCard.lean, 'card_holds'). Laid BY PROGRAM, IN A SANDBOX (cutbox-door.mjs). By AI agents, Wed Nov 11 2026. No macro, syntax, notation, axiom, sorry.
-/
import Derived.Test.YtoecanjhkbeemaaDoorRows
import GoSem.ClaimSeven
namespace Go.Proofs.YtoecanjhkbeemaaDoor
namespace Rows

/-- THE TIED CARD OF 'muntinlaw07.AsmPlays'. -/
def asmPlaysCard : Claim7 := { stood := { row := asmPlaysRow, standIns := [], harness := (true, "567d6a41aa10a5e44ab8646eaa7b6577785432bb4f15f003d274c5b6e86eb182"), looks := true }, kinds := [], alts := [], laidByText := true, laidKinds := [.data], laidTests := true, laidLooks := .later }
def AsmPlaysCardSaid : Prop := Claim7.holds Tryd.pinned (.plain (OpenSpec.ofChange asmPlaysSpec)) asmPlaysCard

/-- THE TIED CARD OF 'muntinlaw07.AsmMoves'. -/
def asmMovesCard : Claim7 := { stood := { row := asmMovesRow, standIns := [], harness := (true, "567d6a41aa10a5e44ab8646eaa7b6577785432bb4f15f003d274c5b6e86eb182"), looks := true }, kinds := [], alts := [], laidByText := true, laidKinds := [.data], laidTests := true, laidLooks := .later }
def AsmMovesCardSaid : Prop := Claim7.holds Tryd.pinned (.plain (OpenSpec.ofChange asmMovesSpec)) asmMovesCard

/-- THE SECOND FORM's CARD OF 'muntinlaw07.AsmPlays'. -/
def asmPlaysUptoCard : Claim7 := { stood := { row := asmPlaysUptoRow, standIns := [], harness := (true, "567d6a41aa10a5e44ab8646eaa7b6577785432bb4f15f003d274c5b6e86eb182"), looks := true }, kinds := [], alts := [], laidByText := true, laidKinds := [.data], laidTests := true, laidLooks := .later }
def AsmPlaysUptoCardSaid : Prop := Claim7.holds Tryd.pinned (.plain (OpenSpec.upto asmPlaysSpec)) asmPlaysUptoCard

/-- THE SECOND FORM's CARD OF 'muntinlaw07.AsmMoves'. -/
def asmMovesUptoCard : Claim7 := { stood := { row := asmMovesUptoRow, standIns := [], harness := (true, "567d6a41aa10a5e44ab8646eaa7b6577785432bb4f15f003d274c5b6e86eb182"), looks := true }, kinds := [], alts := [], laidByText := true, laidKinds := [.data], laidTests := true, laidLooks := .later }
def AsmMovesUptoCardSaid : Prop := Claim7.holds Tryd.pinned (.plain (OpenSpec.upto asmMovesSpec)) asmMovesUptoCard
end Rows
end Go.Proofs.YtoecanjhkbeemaaDoor
