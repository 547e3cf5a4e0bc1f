/-
  DERIVED. GIVEN WITH THE SEED: THE CARDS: each row of YtmpagjijjahohaaGreatDoorRows.lean that lists a variable, with what it lists TIED to the program's text (the seventh form; the later family's looks); each row that meets fmt, with fmt's text TOLD by the authors' own Lean function (tested against real Go, not proved from fmt's source: count such statements apart). THE CARD IS WHAT COUNTS. Prove the row's statement (the work); the ties are given (YtmpagjijjahohaaGreatDoorTie.lean); close each card by the builder's one call (the guide's Derived/Test/ToyasCard.lean, 'card_holds'). Laid BY PROGRAM, IN A SANDBOX (cutbox-door.mjs). By AI agents, Wed Nov 11 2026. No macro, syntax, notation, axiom, sorry.
-/
import Derived.Test.YtmpagjijjahohaaGreatDoorRows
import GoSem.ClaimSeven
namespace Go.Proofs.YtmpagjijjahohaaGreatDoor
namespace Rows

/-- THE TIED CARD OF 'muntinlaw11.BootWords'. -/
def bootWordsCard : Claim7 := { stood := { row := bootWordsRow, standIns := [], harness := (true, "c1a488303facab8bab5c78c5bacc670fd5c75cf7ab56d957bea3162d6ff4ab40"), looks := true }, kinds := [], alts := [], laidByText := true, laidKinds := [.data, .data, .data, .data], laidTests := true, laidLooks := .later }
def BootWordsCardSaid : Prop := Claim7.holds Tryz.pinned (.plain (OpenSpec.ofChange bootWordsSpec)) bootWordsCard

/-- THE TIED CARD OF 'muntinlaw11.BootRuns'. -/
def bootRunsCard : Claim7 := { stood := { row := bootRunsRow, standIns := [], harness := (true, "c1a488303facab8bab5c78c5bacc670fd5c75cf7ab56d957bea3162d6ff4ab40"), looks := true }, kinds := [], alts := [], laidByText := true, laidKinds := [.data, .data, .data, .data], laidTests := true, laidLooks := .later }
def BootRunsCardSaid : Prop := Claim7.holds Tryz.pinned (.plain (OpenSpec.ofChange bootRunsSpec)) bootRunsCard

/-- THE TIED CARD OF 'muntinlaw11.BootNone'. -/
def bootNoneCard : Claim7 := { stood := { row := bootNoneRow, standIns := [], harness := (true, "c1a488303facab8bab5c78c5bacc670fd5c75cf7ab56d957bea3162d6ff4ab40"), looks := true }, kinds := [], alts := [], laidByText := true, laidKinds := [.data, .data, .data, .data], laidTests := true, laidLooks := .later }
def BootNoneCardSaid : Prop := Claim7.holds Tryz.pinned (.plain (OpenSpec.ofChange bootNoneSpec)) bootNoneCard

/-- THE TIED CARD OF 'muntinlaw12.LexTells'. -/
def lexTellsCard : Claim7 := { stood := { row := lexTellsRow, standIns := [], harness := (true, "c1a488303facab8bab5c78c5bacc670fd5c75cf7ab56d957bea3162d6ff4ab40"), looks := true }, kinds := [], alts := [], laidByText := true, laidKinds := [.data, .data, .data, .data, .sentinel, .sentinel, .pinned], laidTests := true, laidLooks := .later }
def LexTellsCardSaid : Prop := Claim7.holds Tryz.pinned (.plain (OpenSpec.ofChange lexTellsSpec)) lexTellsCard

/-- THE TIED CARD OF 'muntinlaw12.LexWords'. -/
def lexWordsCard : Claim7 := { stood := { row := lexWordsRow, standIns := [], harness := (true, "c1a488303facab8bab5c78c5bacc670fd5c75cf7ab56d957bea3162d6ff4ab40"), looks := true }, kinds := [], alts := [], laidByText := true, laidKinds := [.data, .data, .data, .data, .sentinel, .sentinel, .pinned], laidTests := true, laidLooks := .later }
def LexWordsCardSaid : Prop := Claim7.holds Tryz.pinned (.plain (OpenSpec.ofChange lexWordsSpec)) lexWordsCard

/-- THE SECOND FORM's CARD OF 'muntinlaw11.BootWords'. -/
def bootWordsUptoCard : Claim7 := { stood := { row := bootWordsUptoRow, standIns := [], harness := (true, "c1a488303facab8bab5c78c5bacc670fd5c75cf7ab56d957bea3162d6ff4ab40"), looks := true }, kinds := [], alts := [], laidByText := true, laidKinds := [.data, .data, .data, .data], laidTests := true, laidLooks := .later }
def BootWordsUptoCardSaid : Prop := Claim7.holds Tryz.pinned (.plain (OpenSpec.upto bootWordsSpec)) bootWordsUptoCard

/-- THE SECOND FORM's CARD OF 'muntinlaw11.BootRuns'. -/
def bootRunsUptoCard : Claim7 := { stood := { row := bootRunsUptoRow, standIns := [], harness := (true, "c1a488303facab8bab5c78c5bacc670fd5c75cf7ab56d957bea3162d6ff4ab40"), looks := true }, kinds := [], alts := [], laidByText := true, laidKinds := [.data, .data, .data, .data], laidTests := true, laidLooks := .later }
def BootRunsUptoCardSaid : Prop := Claim7.holds Tryz.pinned (.plain (OpenSpec.upto bootRunsSpec)) bootRunsUptoCard

/-- THE SECOND FORM's CARD OF 'muntinlaw11.BootNone'. -/
def bootNoneUptoCard : Claim7 := { stood := { row := bootNoneUptoRow, standIns := [], harness := (true, "c1a488303facab8bab5c78c5bacc670fd5c75cf7ab56d957bea3162d6ff4ab40"), looks := true }, kinds := [], alts := [], laidByText := true, laidKinds := [.data, .data, .data, .data], laidTests := true, laidLooks := .later }
def BootNoneUptoCardSaid : Prop := Claim7.holds Tryz.pinned (.plain (OpenSpec.upto bootNoneSpec)) bootNoneUptoCard

/-- THE SECOND FORM's CARD OF 'muntinlaw12.LexTells'. -/
def lexTellsUptoCard : Claim7 := { stood := { row := lexTellsUptoRow, standIns := [], harness := (true, "c1a488303facab8bab5c78c5bacc670fd5c75cf7ab56d957bea3162d6ff4ab40"), looks := true }, kinds := [], alts := [], laidByText := true, laidKinds := [.data, .data, .data, .data, .sentinel, .sentinel, .pinned], laidTests := true, laidLooks := .later }
def LexTellsUptoCardSaid : Prop := Claim7.holds Tryz.pinned (.plain (OpenSpec.upto lexTellsSpec)) lexTellsUptoCard

/-- THE SECOND FORM's CARD OF 'muntinlaw12.LexWords'. -/
def lexWordsUptoCard : Claim7 := { stood := { row := lexWordsUptoRow, standIns := [], harness := (true, "c1a488303facab8bab5c78c5bacc670fd5c75cf7ab56d957bea3162d6ff4ab40"), looks := true }, kinds := [], alts := [], laidByText := true, laidKinds := [.data, .data, .data, .data, .sentinel, .sentinel, .pinned], laidTests := true, laidLooks := .later }
def LexWordsUptoCardSaid : Prop := Claim7.holds Tryz.pinned (.plain (OpenSpec.upto lexWordsSpec)) lexWordsUptoCard
end Rows
end Go.Proofs.YtmpagjijjahohaaGreatDoor
