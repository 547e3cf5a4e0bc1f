/-
  DERIVED. GIVEN WITH THE SEED: THE CARDS: each row of YtgbodbejcffclaaDoorRows.lean that lists a variable, with what it lists TIED to the program's text (the seventh form; the later family's looks); each row that meets fmt, with fmt's text TOLD by the authors' own Lean function (tested against real Go, not proved from fmt's source: count such statements apart). THE CARD IS WHAT COUNTS. Prove the row's statement (the work); the ties are given (YtgbodbejcffclaaDoorTie.lean); close each card by the builder's one call (the guide's Derived/Test/ToyasCard.lean, 'card_holds'). Laid BY PROGRAM, IN A SANDBOX (cutbox-door.mjs). By AI agents, Wed Nov 11 2026. No macro, syntax, notation, axiom, sorry.
-/
import Derived.Test.YtgbodbejcffclaaDoorRows
import GoSem.ClaimSeven
namespace Go.Proofs.YtgbodbejcffclaaDoor
namespace Rows

/-- THE TIED CARD OF 'muntinlaw09.TickPuts'. -/
def tickPutsCard : Claim7 := { stood := { row := tickPutsRow, standIns := [], harness := (true, "270a957c143af820a119a5f6b19155e253b971bb5383387fe23415d4a66677ee"), looks := false }, kinds := [], alts := [], laidByText := true, laidKinds := [.data, .data, .data, .data], laidTests := true, laidLooks := .later }
def TickPutsCardSaid : Prop := Claim7.holds Tryd.pinned (.plain (OpenSpec.ofChange tickPutsSpec)) tickPutsCard

/-- THE SECOND FORM's CARD OF 'muntinlaw09.TickPuts'. -/
def tickPutsUptoCard : Claim7 := { stood := { row := tickPutsUptoRow, standIns := [], harness := (true, "270a957c143af820a119a5f6b19155e253b971bb5383387fe23415d4a66677ee"), looks := false }, kinds := [], alts := [], laidByText := true, laidKinds := [.data, .data, .data, .data], laidTests := true, laidLooks := .later }
def TickPutsUptoCardSaid : Prop := Claim7.holds Tryd.pinned (.plain (OpenSpec.upto tickPutsSpec)) tickPutsUptoCard
end Rows
end Go.Proofs.YtgbodbejcffclaaDoor
