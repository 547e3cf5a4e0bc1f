/-
  DERIVED. GIVEN WITH THE SEED: THE CARDS: each row of YtpcaffjkiodkkaaDoorRows.lean that lists a variable, with what it lists TIED to the program's text (the seventh form; the later family's looks); each row that meets fmt, with fmt's text TOLD by the authors' own Lean function (tested against real Go, not proved from fmt's source: count such statements apart). THE CARD IS WHAT COUNTS. Prove the row's statement (the work); the ties are given (YtpcaffjkiodkkaaDoorTie.lean); close each card by the builder's one call (the guide's Derived/Test/ToyasCard.lean, 'card_holds'). Laid BY PROGRAM, IN A SANDBOX (cutbox-door.mjs). By AI agents, Wed Nov 11 2026. No macro, syntax, notation, axiom, sorry.
-/
import Derived.Test.YtpcaffjkiodkkaaDoorRows
import GoSem.ClaimSeven
namespace Go.Proofs.YtpcaffjkiodkkaaDoor
namespace Rows

/-- THE TIED CARD OF 'muntinlaw02.InstEncodes'. -/
def instEncodesCard : Claim7 := { stood := { row := instEncodesRow, standIns := [], harness := (true, "5a257e6d28ed48f4c5c09175ff8dc778d5beb5e6bfa25a043f977aa3e596d828"), looks := false }, kinds := [], alts := [], laidByText := true, laidKinds := [.data], laidTests := true, laidLooks := .later }
def InstEncodesCardSaid : Prop := Claim7.holds Tryd.pinned (.plain (OpenSpec.ofChange instEncodesSpec)) instEncodesCard

/-- THE TIED CARD OF 'muntinlaw02.InstDecodes'. -/
def instDecodesCard : Claim7 := { stood := { row := instDecodesRow, standIns := [], harness := (true, "5a257e6d28ed48f4c5c09175ff8dc778d5beb5e6bfa25a043f977aa3e596d828"), looks := false }, kinds := [], alts := [], laidByText := true, laidKinds := [.data], laidTests := true, laidLooks := .later }
def InstDecodesCardSaid : Prop := Claim7.holds Tryd.pinned (.plain (OpenSpec.ofChange instDecodesSpec)) instDecodesCard

/-- THE TIED CARD OF 'muntinlaw02.InstUnlike'. -/
def instUnlikeCard : Claim7 := { stood := { row := instUnlikeRow, standIns := [], harness := (true, "5a257e6d28ed48f4c5c09175ff8dc778d5beb5e6bfa25a043f977aa3e596d828"), looks := false }, kinds := [], alts := [], laidByText := true, laidKinds := [.data], laidTests := true, laidLooks := .later }
def InstUnlikeCardSaid : Prop := Claim7.holds Tryd.pinned (.plain (OpenSpec.ofChange instUnlikeSpec)) instUnlikeCard

/-- THE SECOND FORM's CARD OF 'muntinlaw02.InstEncodes'. -/
def instEncodesUptoCard : Claim7 := { stood := { row := instEncodesUptoRow, standIns := [], harness := (true, "5a257e6d28ed48f4c5c09175ff8dc778d5beb5e6bfa25a043f977aa3e596d828"), looks := false }, kinds := [], alts := [], laidByText := true, laidKinds := [.data], laidTests := true, laidLooks := .later }
def InstEncodesUptoCardSaid : Prop := Claim7.holds Tryd.pinned (.plain (OpenSpec.upto instEncodesSpec)) instEncodesUptoCard

/-- THE SECOND FORM's CARD OF 'muntinlaw02.InstDecodes'. -/
def instDecodesUptoCard : Claim7 := { stood := { row := instDecodesUptoRow, standIns := [], harness := (true, "5a257e6d28ed48f4c5c09175ff8dc778d5beb5e6bfa25a043f977aa3e596d828"), looks := false }, kinds := [], alts := [], laidByText := true, laidKinds := [.data], laidTests := true, laidLooks := .later }
def InstDecodesUptoCardSaid : Prop := Claim7.holds Tryd.pinned (.plain (OpenSpec.upto instDecodesSpec)) instDecodesUptoCard

/-- THE SECOND FORM's CARD OF 'muntinlaw02.InstUnlike'. -/
def instUnlikeUptoCard : Claim7 := { stood := { row := instUnlikeUptoRow, standIns := [], harness := (true, "5a257e6d28ed48f4c5c09175ff8dc778d5beb5e6bfa25a043f977aa3e596d828"), looks := false }, kinds := [], alts := [], laidByText := true, laidKinds := [.data], laidTests := true, laidLooks := .later }
def InstUnlikeUptoCardSaid : Prop := Claim7.holds Tryd.pinned (.plain (OpenSpec.upto instUnlikeSpec)) instUnlikeUptoCard
end Rows
end Go.Proofs.YtpcaffjkiodkkaaDoor
