/-
  No cell of these rows narrows 'for every input' (looked for: loops, veiled, ifaces, maps, wideKeys, modest, calm, conditions, laid).
  DERIVED. THE GIVEN ROWS OF THIS SEAT. 4 by the template 'for every input the law returns true; each argument reads behind the call as it read before'; 0 by the template 'total and deterministic' (their statements: YthhkecdcgalcbaaTotals.lean).
  GIVEN WITH THE SEED: the statements are not yours to turn. If you find one false, say at which input.
  Laid BY PROGRAM, IN A SANDBOX (cutbox-rows.mjs): the forced cells as the released guide's own fill.sh prints them over the translation 45ae0cf491e1bd3b… (all of the seat's roots in one cut). By AI agents, Wed Nov 11 2026. No macro, syntax, notation, axiom, sorry.
-/
import Derived.Test.YthhkecdcgalcbaaChecked
import GoSem.Claim
import GoSem.ClaimJoined
import GoSem.ClaimMapViews
import Derived.JoinedTies
import Derived.KernelRfl
namespace Go.Proofs.Ythhkecdcgalcbaa
/- THE CELL 'sum', in the pinned program and in every row, IS THE sha256 OF THE DUMP (.gsa) THAT YthhkecdcgalcbaaProg.lean LOADS. Nothing in Lean hashes anything: it is a label: what it is worth is what the hold of that sum in a sandbox is worth. -/
noncomputable def Try.pinned : Pinned := { name := "ythhkecdcgalcbaa", sum := "45ae0cf491e1bd3b0fbe12c623d816a1d1c029d3319f861235d60a7a58f0a5a0", checked := Try.checked }
namespace Rows
def none {H : Type} : Left H := { results := [], args := [] }

/-- 'muntinlaw03.FilePlays': WHATEVER THE INPUT: true; the input reads as it did. -/
def filePlaysSpec : ChangeSpec := { name := "filePlays", fn := fun _ => fun
  | [d1, d2] => { results := [.lit (.bool true)], args := [d1, d2] }
  | _ => none }
def filePlaysRow : OpenClaim := { program := "ythhkecdcgalcbaa", sum := "45ae0cf491e1bd3b0fbe12c623d816a1d1c029d3319f861235d60a7a58f0a5a0", func := "muntin/muntinlaw03.FilePlays", spec := "filePlays", unfollowed := true, recurses := true, apart := false }
def FilePlaysSaid : Prop := filePlaysRow.holds Try.pinned (OpenSpec.ofChange filePlaysSpec)

/-- ITS FALSE NEIGHBOUR: 'it returns false'. Refute it at one input. -/
def filePlaysWrong : ChangeSpec := { name := "filePlays", fn := fun _ => fun
  | [d1, d2] => { results := [.lit (.bool false)], args := [d1, d2] }
  | _ => none }
def FilePlaysWrongFalsely : Prop := filePlaysRow.holds Try.pinned (OpenSpec.ofChange filePlaysWrong)

/-- 'muntinlaw03.FileOverlaps': WHATEVER THE INPUT: true; the input reads as it did. -/
def fileOverlapsSpec : ChangeSpec := { name := "fileOverlaps", fn := fun _ => fun
  | [d1, d2, d3] => { results := [.lit (.bool true)], args := [d1, d2, d3] }
  | _ => none }
def fileOverlapsRow : OpenClaim := { program := "ythhkecdcgalcbaa", sum := "45ae0cf491e1bd3b0fbe12c623d816a1d1c029d3319f861235d60a7a58f0a5a0", func := "muntin/muntinlaw03.FileOverlaps", spec := "fileOverlaps", unfollowed := true, recurses := true, apart := false }
def FileOverlapsSaid : Prop := fileOverlapsRow.holds Try.pinned (OpenSpec.ofChange fileOverlapsSpec)

/-- ITS FALSE NEIGHBOUR: 'it returns false'. Refute it at one input. -/
def fileOverlapsWrong : ChangeSpec := { name := "fileOverlaps", fn := fun _ => fun
  | [d1, d2, d3] => { results := [.lit (.bool false)], args := [d1, d2, d3] }
  | _ => none }
def FileOverlapsWrongFalsely : Prop := fileOverlapsRow.holds Try.pinned (OpenSpec.ofChange fileOverlapsWrong)

/-- 'muntinlaw03.FileNone': WHATEVER THE INPUT: true; the input reads as it did. -/
def fileNoneSpec : ChangeSpec := { name := "fileNone", fn := fun _ => fun
  | [d1, d2] => { results := [.lit (.bool true)], args := [d1, d2] }
  | _ => none }
def fileNoneRow : OpenClaim := { program := "ythhkecdcgalcbaa", sum := "45ae0cf491e1bd3b0fbe12c623d816a1d1c029d3319f861235d60a7a58f0a5a0", func := "muntin/muntinlaw03.FileNone", spec := "fileNone", unfollowed := true, recurses := true, apart := false }
def FileNoneSaid : Prop := fileNoneRow.holds Try.pinned (OpenSpec.ofChange fileNoneSpec)

/-- ITS FALSE NEIGHBOUR: 'it returns false'. Refute it at one input. -/
def fileNoneWrong : ChangeSpec := { name := "fileNone", fn := fun _ => fun
  | [d1, d2] => { results := [.lit (.bool false)], args := [d1, d2] }
  | _ => none }
def FileNoneWrongFalsely : Prop := fileNoneRow.holds Try.pinned (OpenSpec.ofChange fileNoneWrong)

/-- 'muntinlaw03.FileTurns': WHATEVER THE INPUT: true; the input reads as it did. -/
def fileTurnsSpec : ChangeSpec := { name := "fileTurns", fn := fun _ => fun
  | [d1, d2] => { results := [.lit (.bool true)], args := [d1, d2] }
  | _ => none }
def fileTurnsRow : OpenClaim := { program := "ythhkecdcgalcbaa", sum := "45ae0cf491e1bd3b0fbe12c623d816a1d1c029d3319f861235d60a7a58f0a5a0", func := "muntin/muntinlaw03.FileTurns", spec := "fileTurns", unfollowed := true, recurses := true, apart := false }
def FileTurnsSaid : Prop := fileTurnsRow.holds Try.pinned (OpenSpec.ofChange fileTurnsSpec)

/-- ITS FALSE NEIGHBOUR: 'it returns false'. Refute it at one input. -/
def fileTurnsWrong : ChangeSpec := { name := "fileTurns", fn := fun _ => fun
  | [d1, d2] => { results := [.lit (.bool false)], args := [d1, d2] }
  | _ => none }
def FileTurnsWrongFalsely : Prop := fileTurnsRow.holds Try.pinned (OpenSpec.ofChange fileTurnsWrong)

/- THE SECOND FORM. 'bulk': how many values and letters a reading holds, each counted each time it is reached (what is shared counts as often as it is met; a slice's spare places count too). A statement '..UptoSaid' is the law's where the arguments, and the package variables that the reading takes, are together of bulk at most 1048576: NARROWER than '..Said'. Prove '..Said' where nothing that the law and all that it calls make is longer than what came in: it says more and counts as full. Else prove '..UptoSaid'. A law counts once. -/
mutual
def uptoBulk {H : Type} : DataW H → Nat
  | .lit (.string bytes) => bytes.length + 1
  | .lit _ => 1
  | .nil => 1
  | .ptr d => uptoBulk d + 1
  | .slice elems spare => uptoBulkAll elems + uptoBulkAll spare + 1
  | .agg parts => uptoBulkAll parts + 1
  | .iface _ d => uptoBulk d + 1
  | .map entries => uptoBulkEntries entries + 1
  | .held _ => 1
def uptoBulkAll {H : Type} : List (DataW H) → Nat
  | [] => 0
  | d :: r => uptoBulk d + uptoBulkAll r
def uptoBulkEntries {H : Type} : List (Lit × DataW H) → Nat
  | [] => 0
  | x :: r => uptoBulkEntry x + uptoBulkEntries r
def uptoBulkEntry {H : Type} : Lit × DataW H → Nat
  | (.string bytes, d) => bytes.length + uptoBulk d + 1
  | (_, d) => uptoBulk d + 1
 end
def uptoSmall : (H : Type) → List (DataW H) → Bool := fun _ ds => decide (uptoBulkAll ds ≤ 1048576)
def OpenSpec.upto (s : _root_.Go.ChangeSpec) : _root_.Go.OpenSpec := { _root_.Go.OpenSpec.ofChange s with cond := some uptoSmall }

/-- 'muntinlaw03.FilePlays', WHERE WHAT IT READS IS OF BULK AT MOST 1048576: true; the input reads as it did. -/
def filePlaysUptoRow : OpenClaim := { program := "ythhkecdcgalcbaa", sum := "45ae0cf491e1bd3b0fbe12c623d816a1d1c029d3319f861235d60a7a58f0a5a0", func := "muntin/muntinlaw03.FilePlays", spec := "filePlays", unfollowed := true, recurses := true, apart := false, narrowed := true }
def FilePlaysUptoSaid : Prop := filePlaysUptoRow.holds Try.pinned (OpenSpec.upto filePlaysSpec)

/-- 'muntinlaw03.FileOverlaps', WHERE WHAT IT READS IS OF BULK AT MOST 1048576: true; the input reads as it did. -/
def fileOverlapsUptoRow : OpenClaim := { program := "ythhkecdcgalcbaa", sum := "45ae0cf491e1bd3b0fbe12c623d816a1d1c029d3319f861235d60a7a58f0a5a0", func := "muntin/muntinlaw03.FileOverlaps", spec := "fileOverlaps", unfollowed := true, recurses := true, apart := false, narrowed := true }
def FileOverlapsUptoSaid : Prop := fileOverlapsUptoRow.holds Try.pinned (OpenSpec.upto fileOverlapsSpec)

/-- 'muntinlaw03.FileNone', WHERE WHAT IT READS IS OF BULK AT MOST 1048576: true; the input reads as it did. -/
def fileNoneUptoRow : OpenClaim := { program := "ythhkecdcgalcbaa", sum := "45ae0cf491e1bd3b0fbe12c623d816a1d1c029d3319f861235d60a7a58f0a5a0", func := "muntin/muntinlaw03.FileNone", spec := "fileNone", unfollowed := true, recurses := true, apart := false, narrowed := true }
def FileNoneUptoSaid : Prop := fileNoneUptoRow.holds Try.pinned (OpenSpec.upto fileNoneSpec)

/-- 'muntinlaw03.FileTurns', WHERE WHAT IT READS IS OF BULK AT MOST 1048576: true; the input reads as it did. -/
def fileTurnsUptoRow : OpenClaim := { program := "ythhkecdcgalcbaa", sum := "45ae0cf491e1bd3b0fbe12c623d816a1d1c029d3319f861235d60a7a58f0a5a0", func := "muntin/muntinlaw03.FileTurns", spec := "fileTurns", unfollowed := true, recurses := true, apart := false, narrowed := true }
def FileTurnsUptoSaid : Prop := fileTurnsUptoRow.holds Try.pinned (OpenSpec.upto fileTurnsSpec)

end Rows
end Go.Proofs.Ythhkecdcgalcbaa
