/-
  NARROWER THAN 'FOR EVERY INPUT', by the rows' own cells (each row's printed sentence says how): AsmPlays: laid · AsmMoves: laid · AsmNone: laid.
  DERIVED. THE GIVEN ROWS OF THIS SEAT. 3 by the template 'for every input the law returns true; each argument reads behind the call as it read before'; 0 by the template 'total and deterministic' (their statements: YtbkhhfffgmappaaDoorTotals.lean).
  GIVEN WITH THE SEED: the statements are not yours to turn. If you find one false, say at which input.
  Laid BY PROGRAM, IN A SANDBOX (cutbox-rows.mjs): the forced cells as the released guide's own fill.sh prints them over the translation 442e6b0a8cc1ba70… (all of the seat's roots in one cut). By AI agents, Wed Nov 11 2026. No macro, syntax, notation, axiom, sorry.
-/
import Derived.Test.YtbkhhfffgmappaaDoorChecked
import GoSem.Claim
import GoSem.ClaimJoined
import GoSem.ClaimMapViews
import Derived.JoinedTies
import Derived.KernelRfl
namespace Go.Proofs.YtbkhhfffgmappaaDoor
/- THE CELL 'sum', in the pinned program and in every row, IS THE sha256 OF THE DUMP (.gsa) THAT YtbkhhfffgmappaaDoorProg.lean LOADS. Nothing in Lean hashes anything: it is a label: what it is worth is what the hold of that sum in a sandbox is worth. -/
noncomputable def Tryd.pinned : Pinned := { name := "ytbkhhfffgmappaadoor", sum := "442e6b0a8cc1ba701bc6f5d1a873ce31d63b8708e7afd28c4aacb9a6b593afc1", checked := Tryd.checked }
namespace Rows
def none {H : Type} : Left H := { results := [], args := [] }

/- WHAT THE LISTED PACKAGE-LEVEL VARIABLES READ AS WHEN THE CALL BEGINS. Each datum BY PROGRAM (the guide's laid-datum.mjs) off the statement by which the dump's own 'gosem.cut.vars' lays the variable. In a bare row this is a premise. The card (YtbkhhfffgmappaaDoorCards.lean) ties it to the program's text. -/
def laid_muntin_inst_fieldsByOp {H : Type} : DataW H := .agg [.agg [.lit (.bool false), .lit (.bool false), .lit (.bool false), .lit (.bool false), .lit (.bool false)], .agg [.lit (.bool true), .lit (.bool true), .lit (.bool true), .lit (.bool true), .lit (.bool false)], .agg [.lit (.bool false), .lit (.bool false), .lit (.bool false), .lit (.bool false), .lit (.bool false)], .agg [.lit (.bool false), .lit (.bool false), .lit (.bool false), .lit (.bool false), .lit (.bool false)], .agg [.lit (.bool false), .lit (.bool false), .lit (.bool false), .lit (.bool false), .lit (.bool false)], .agg [.lit (.bool false), .lit (.bool false), .lit (.bool false), .lit (.bool false), .lit (.bool false)], .agg [.lit (.bool false), .lit (.bool false), .lit (.bool false), .lit (.bool false), .lit (.bool false)], .agg [.lit (.bool false), .lit (.bool false), .lit (.bool false), .lit (.bool false), .lit (.bool false)], .agg [.lit (.bool false), .lit (.bool false), .lit (.bool false), .lit (.bool false), .lit (.bool false)], .agg [.lit (.bool false), .lit (.bool false), .lit (.bool false), .lit (.bool false), .lit (.bool false)], .agg [.lit (.bool false), .lit (.bool false), .lit (.bool false), .lit (.bool false), .lit (.bool false)], .agg [.lit (.bool false), .lit (.bool false), .lit (.bool false), .lit (.bool false), .lit (.bool false)], .agg [.lit (.bool false), .lit (.bool false), .lit (.bool false), .lit (.bool false), .lit (.bool false)], .agg [.lit (.bool false), .lit (.bool false), .lit (.bool false), .lit (.bool false), .lit (.bool false)], .agg [.lit (.bool false), .lit (.bool false), .lit (.bool false), .lit (.bool false), .lit (.bool false)], .agg [.lit (.bool true), .lit (.bool false), .lit (.bool false), .lit (.bool true), .lit (.bool true)], .agg [.lit (.bool false), .lit (.bool true), .lit (.bool true), .lit (.bool true), .lit (.bool false)], .agg [.lit (.bool true), .lit (.bool false), .lit (.bool false), .lit (.bool true), .lit (.bool true)], .agg [.lit (.bool false), .lit (.bool false), .lit (.bool false), .lit (.bool true), .lit (.bool true)], .agg [.lit (.bool true), .lit (.bool true), .lit (.bool true), .lit (.bool true), .lit (.bool false)], .agg [.lit (.bool true), .lit (.bool true), .lit (.bool true), .lit (.bool true), .lit (.bool false)], .agg [.lit (.bool true), .lit (.bool true), .lit (.bool true), .lit (.bool true), .lit (.bool false)], .agg [.lit (.bool true), .lit (.bool true), .lit (.bool true), .lit (.bool true), .lit (.bool false)], .agg [.lit (.bool true), .lit (.bool true), .lit (.bool true), .lit (.bool true), .lit (.bool false)], .agg [.lit (.bool true), .lit (.bool true), .lit (.bool true), .lit (.bool true), .lit (.bool false)], .agg [.lit (.bool true), .lit (.bool true), .lit (.bool true), .lit (.bool true), .lit (.bool false)], .agg [.lit (.bool true), .lit (.bool false), .lit (.bool false), .lit (.bool false), .lit (.bool false)], .agg [.lit (.bool false), .lit (.bool true), .lit (.bool true), .lit (.bool true), .lit (.bool false)], .agg [.lit (.bool true), .lit (.bool false), .lit (.bool false), .lit (.bool false), .lit (.bool false)], .agg [.lit (.bool false), .lit (.bool true), .lit (.bool true), .lit (.bool true), .lit (.bool false)], .agg [.lit (.bool true), .lit (.bool false), .lit (.bool false), .lit (.bool true), .lit (.bool false)], .agg [.lit (.bool false), .lit (.bool true), .lit (.bool false), .lit (.bool true), .lit (.bool false)], .agg [.lit (.bool false), .lit (.bool false), .lit (.bool false), .lit (.bool false), .lit (.bool false)], .agg [.lit (.bool false), .lit (.bool false), .lit (.bool false), .lit (.bool true), .lit (.bool false)], .agg [.lit (.bool true), .lit (.bool false), .lit (.bool false), .lit (.bool false), .lit (.bool false)], .agg [.lit (.bool false), .lit (.bool true), .lit (.bool false), .lit (.bool false), .lit (.bool false)], .agg [.lit (.bool false), .lit (.bool true), .lit (.bool false), .lit (.bool false), .lit (.bool false)], .agg [.lit (.bool false), .lit (.bool false), .lit (.bool false), .lit (.bool true), .lit (.bool false)]]

/-- 'muntinlaw07.AsmPlays': WHATEVER THE INPUT: true; the input reads as it did. -/
def asmPlaysSpec : ChangeSpec := { name := "asmPlays", fn := fun _ => fun
  | [d] => { results := [.lit (.bool true)], args := [d] }
  | _ => none }
def asmPlaysRow : OpenClaim := { program := "ytbkhhfffgmappaadoor", sum := "442e6b0a8cc1ba701bc6f5d1a873ce31d63b8708e7afd28c4aacb9a6b593afc1", func := "muntin/muntinlaw07.AsmPlays", spec := "asmPlays", inPlace := ["maps.clone"], unfollowed := true, recurses := true, named := ["muntin/inst.fieldsByOp"], apart := false, laid := [("muntin/inst.fieldsByOp", laid_muntin_inst_fieldsByOp)] }
def AsmPlaysSaid : Prop := asmPlaysRow.holds Tryd.pinned (OpenSpec.ofChange asmPlaysSpec)

/-- ITS FALSE NEIGHBOUR: 'it returns false'. Refute it at one input. -/
def asmPlaysWrong : ChangeSpec := { name := "asmPlays", fn := fun _ => fun
  | [d] => { results := [.lit (.bool false)], args := [d] }
  | _ => none }
def AsmPlaysWrongFalsely : Prop := asmPlaysRow.holds Tryd.pinned (OpenSpec.ofChange asmPlaysWrong)

/-- 'muntinlaw07.AsmMoves': WHATEVER THE INPUT: true; the input reads as it did. -/
def asmMovesSpec : ChangeSpec := { name := "asmMoves", fn := fun _ => fun
  | [d1, d2] => { results := [.lit (.bool true)], args := [d1, d2] }
  | _ => none }
def asmMovesRow : OpenClaim := { program := "ytbkhhfffgmappaadoor", sum := "442e6b0a8cc1ba701bc6f5d1a873ce31d63b8708e7afd28c4aacb9a6b593afc1", func := "muntin/muntinlaw07.AsmMoves", spec := "asmMoves", unfollowed := true, recurses := true, named := ["muntin/inst.fieldsByOp"], apart := false, laid := [("muntin/inst.fieldsByOp", laid_muntin_inst_fieldsByOp)] }
def AsmMovesSaid : Prop := asmMovesRow.holds Tryd.pinned (OpenSpec.ofChange asmMovesSpec)

/-- ITS FALSE NEIGHBOUR: 'it returns false'. Refute it at one input. -/
def asmMovesWrong : ChangeSpec := { name := "asmMoves", fn := fun _ => fun
  | [d1, d2] => { results := [.lit (.bool false)], args := [d1, d2] }
  | _ => none }
def AsmMovesWrongFalsely : Prop := asmMovesRow.holds Tryd.pinned (OpenSpec.ofChange asmMovesWrong)

/-- 'muntinlaw07.AsmNone': WHATEVER THE INPUT: true; the input reads as it did. -/
def asmNoneSpec : ChangeSpec := { name := "asmNone", fn := fun _ => fun
  | [d] => { results := [.lit (.bool true)], args := [d] }
  | _ => none }
def asmNoneRow : OpenClaim := { program := "ytbkhhfffgmappaadoor", sum := "442e6b0a8cc1ba701bc6f5d1a873ce31d63b8708e7afd28c4aacb9a6b593afc1", func := "muntin/muntinlaw07.AsmNone", spec := "asmNone", inPlace := ["maps.clone"], unfollowed := true, recurses := true, named := ["muntin/inst.fieldsByOp"], apart := false, laid := [("muntin/inst.fieldsByOp", laid_muntin_inst_fieldsByOp)] }
def AsmNoneSaid : Prop := asmNoneRow.holds Tryd.pinned (OpenSpec.ofChange asmNoneSpec)

/-- ITS FALSE NEIGHBOUR: 'it returns false'. Refute it at one input. -/
def asmNoneWrong : ChangeSpec := { name := "asmNone", fn := fun _ => fun
  | [d] => { results := [.lit (.bool false)], args := [d] }
  | _ => none }
def AsmNoneWrongFalsely : Prop := asmNoneRow.holds Tryd.pinned (OpenSpec.ofChange asmNoneWrong)

/- THE SECOND FORM. 'bulk': how many values and letters a reading holds, each counted each time it is reached (what is shared counts as often as it is met; a slice's spare places count too). A statement '..UptoSaid' is the law's where the arguments, and the package variables that the reading takes, are together of bulk at most 1048576: NARROWER than '..Said'. Prove '..Said' where nothing that the law and all that it calls make is longer than what came in: it says more and counts as full. Else prove '..UptoSaid'. A law counts once. -/
mutual
def uptoBulk {H : Type} : DataW H → Nat
  | .lit (.string bytes) => bytes.length + 1
  | .lit _ => 1
  | .nil => 1
  | .ptr d => uptoBulk d + 1
  | .slice elems spare => uptoBulkAll elems + uptoBulkAll spare + 1
  | .agg parts => uptoBulkAll parts + 1
  | .iface _ d => uptoBulk d + 1
  | .map entries => uptoBulkEntries entries + 1
  | .held _ => 1
def uptoBulkAll {H : Type} : List (DataW H) → Nat
  | [] => 0
  | d :: r => uptoBulk d + uptoBulkAll r
def uptoBulkEntries {H : Type} : List (Lit × DataW H) → Nat
  | [] => 0
  | x :: r => uptoBulkEntry x + uptoBulkEntries r
def uptoBulkEntry {H : Type} : Lit × DataW H → Nat
  | (.string bytes, d) => bytes.length + uptoBulk d + 1
  | (_, d) => uptoBulk d + 1
 end
def uptoSmall : (H : Type) → List (DataW H) → Bool := fun _ ds => decide (uptoBulkAll ds ≤ 1048576)
def OpenSpec.upto (s : _root_.Go.ChangeSpec) : _root_.Go.OpenSpec := { _root_.Go.OpenSpec.ofChange s with cond := some uptoSmall }

/-- 'muntinlaw07.AsmPlays', WHERE WHAT IT READS IS OF BULK AT MOST 1048576: true; the input reads as it did. -/
def asmPlaysUptoRow : OpenClaim := { program := "ytbkhhfffgmappaadoor", sum := "442e6b0a8cc1ba701bc6f5d1a873ce31d63b8708e7afd28c4aacb9a6b593afc1", func := "muntin/muntinlaw07.AsmPlays", spec := "asmPlays", inPlace := ["maps.clone"], unfollowed := true, recurses := true, named := ["muntin/inst.fieldsByOp"], apart := false, laid := [("muntin/inst.fieldsByOp", laid_muntin_inst_fieldsByOp)], narrowed := true }
def AsmPlaysUptoSaid : Prop := asmPlaysUptoRow.holds Tryd.pinned (OpenSpec.upto asmPlaysSpec)

/-- 'muntinlaw07.AsmMoves', WHERE WHAT IT READS IS OF BULK AT MOST 1048576: true; the input reads as it did. -/
def asmMovesUptoRow : OpenClaim := { program := "ytbkhhfffgmappaadoor", sum := "442e6b0a8cc1ba701bc6f5d1a873ce31d63b8708e7afd28c4aacb9a6b593afc1", func := "muntin/muntinlaw07.AsmMoves", spec := "asmMoves", unfollowed := true, recurses := true, named := ["muntin/inst.fieldsByOp"], apart := false, laid := [("muntin/inst.fieldsByOp", laid_muntin_inst_fieldsByOp)], narrowed := true }
def AsmMovesUptoSaid : Prop := asmMovesUptoRow.holds Tryd.pinned (OpenSpec.upto asmMovesSpec)

/-- 'muntinlaw07.AsmNone', WHERE WHAT IT READS IS OF BULK AT MOST 1048576: true; the input reads as it did. -/
def asmNoneUptoRow : OpenClaim := { program := "ytbkhhfffgmappaadoor", sum := "442e6b0a8cc1ba701bc6f5d1a873ce31d63b8708e7afd28c4aacb9a6b593afc1", func := "muntin/muntinlaw07.AsmNone", spec := "asmNone", inPlace := ["maps.clone"], unfollowed := true, recurses := true, named := ["muntin/inst.fieldsByOp"], apart := false, laid := [("muntin/inst.fieldsByOp", laid_muntin_inst_fieldsByOp)], narrowed := true }
def AsmNoneUptoSaid : Prop := asmNoneUptoRow.holds Tryd.pinned (OpenSpec.upto asmNoneSpec)

end Rows
end Go.Proofs.YtbkhhfffgmappaaDoor
