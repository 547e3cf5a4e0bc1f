/-
  DERIVED. GIVEN WITH THE SEED: THE CARDS: each row of YtilocfcedcclfaaDoorRows.lean that lists a variable, with what it lists TIED to the program's text (the seventh form; the later family's looks); each row that meets fmt, with fmt's text TOLD by the authors' own Lean function (tested against real Go, not proved from fmt's source: count such statements apart). THE CARD IS WHAT COUNTS. Prove the row's statement (the work); the ties are given (YtilocfcedcclfaaDoorTie.lean); close each card by the builder's one call (the guide's Derived/Test/ToyasCard.lean, 'card_holds'). Laid BY PROGRAM, IN A SANDBOX (cutbox-door.mjs). By AI agents, Wed Nov 11 2026. No macro, syntax, notation, axiom, sorry.
-/
import Derived.Test.YtilocfcedcclfaaDoorRows
import GoSem.ClaimSeven
namespace Go.Proofs.YtilocfcedcclfaaDoor
namespace Rows

/-- THE TIED CARD OF 'muntinlaw04.PsrPacks'. -/
def psrPacksCard : Claim7 := { stood := { row := psrPacksRow, standIns := [], harness := (true, "b618160539e97c9ffbe26bc894764ffeef656ed2cf10bd0a2149a68b2b273b9f"), looks := false }, kinds := [], alts := [], laidByText := true, laidKinds := [.data], laidTests := true, laidLooks := .later }
def PsrPacksCardSaid : Prop := Claim7.holds Tryd.pinned (.plain (OpenSpec.ofChange psrPacksSpec)) psrPacksCard

/-- THE TIED CARD OF 'muntinlaw04.PsrWindows'. -/
def psrWindowsCard : Claim7 := { stood := { row := psrWindowsRow, standIns := [], harness := (true, "b618160539e97c9ffbe26bc894764ffeef656ed2cf10bd0a2149a68b2b273b9f"), looks := false }, kinds := [], alts := [], laidByText := true, laidKinds := [.data], laidTests := true, laidLooks := .later }
def PsrWindowsCardSaid : Prop := Claim7.holds Tryd.pinned (.plain (OpenSpec.ofChange psrWindowsSpec)) psrWindowsCard

/-- THE TIED CARD OF 'muntinlaw04.PsrCircle'. -/
def psrCircleCard : Claim7 := { stood := { row := psrCircleRow, standIns := [], harness := (true, "b618160539e97c9ffbe26bc894764ffeef656ed2cf10bd0a2149a68b2b273b9f"), looks := false }, kinds := [], alts := [], laidByText := true, laidKinds := [.data], laidTests := true, laidLooks := .later }
def PsrCircleCardSaid : Prop := Claim7.holds Tryd.pinned (.plain (OpenSpec.ofChange psrCircleSpec)) psrCircleCard

/-- THE TIED CARD OF 'muntinlaw04.PsrTurns'. -/
def psrTurnsCard : Claim7 := { stood := { row := psrTurnsRow, standIns := [], harness := (true, "b618160539e97c9ffbe26bc894764ffeef656ed2cf10bd0a2149a68b2b273b9f"), looks := false }, kinds := [], alts := [], laidByText := true, laidKinds := [.data], laidTests := true, laidLooks := .later }
def PsrTurnsCardSaid : Prop := Claim7.holds Tryd.pinned (.plain (OpenSpec.ofChange psrTurnsSpec)) psrTurnsCard

/-- THE SECOND FORM's CARD OF 'muntinlaw04.PsrPacks'. -/
def psrPacksUptoCard : Claim7 := { stood := { row := psrPacksUptoRow, standIns := [], harness := (true, "b618160539e97c9ffbe26bc894764ffeef656ed2cf10bd0a2149a68b2b273b9f"), looks := false }, kinds := [], alts := [], laidByText := true, laidKinds := [.data], laidTests := true, laidLooks := .later }
def PsrPacksUptoCardSaid : Prop := Claim7.holds Tryd.pinned (.plain (OpenSpec.upto psrPacksSpec)) psrPacksUptoCard

/-- THE SECOND FORM's CARD OF 'muntinlaw04.PsrWindows'. -/
def psrWindowsUptoCard : Claim7 := { stood := { row := psrWindowsUptoRow, standIns := [], harness := (true, "b618160539e97c9ffbe26bc894764ffeef656ed2cf10bd0a2149a68b2b273b9f"), looks := false }, kinds := [], alts := [], laidByText := true, laidKinds := [.data], laidTests := true, laidLooks := .later }
def PsrWindowsUptoCardSaid : Prop := Claim7.holds Tryd.pinned (.plain (OpenSpec.upto psrWindowsSpec)) psrWindowsUptoCard

/-- THE SECOND FORM's CARD OF 'muntinlaw04.PsrCircle'. -/
def psrCircleUptoCard : Claim7 := { stood := { row := psrCircleUptoRow, standIns := [], harness := (true, "b618160539e97c9ffbe26bc894764ffeef656ed2cf10bd0a2149a68b2b273b9f"), looks := false }, kinds := [], alts := [], laidByText := true, laidKinds := [.data], laidTests := true, laidLooks := .later }
def PsrCircleUptoCardSaid : Prop := Claim7.holds Tryd.pinned (.plain (OpenSpec.upto psrCircleSpec)) psrCircleUptoCard

/-- THE SECOND FORM's CARD OF 'muntinlaw04.PsrTurns'. -/
def psrTurnsUptoCard : Claim7 := { stood := { row := psrTurnsUptoRow, standIns := [], harness := (true, "b618160539e97c9ffbe26bc894764ffeef656ed2cf10bd0a2149a68b2b273b9f"), looks := false }, kinds := [], alts := [], laidByText := true, laidKinds := [.data], laidTests := true, laidLooks := .later }
def PsrTurnsUptoCardSaid : Prop := Claim7.holds Tryd.pinned (.plain (OpenSpec.upto psrTurnsSpec)) psrTurnsUptoCard
end Rows
end Go.Proofs.YtilocfcedcclfaaDoor
