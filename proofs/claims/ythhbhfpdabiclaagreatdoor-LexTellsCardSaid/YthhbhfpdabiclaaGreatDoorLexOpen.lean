/- What the row's condition gives layer 12's walks: the library's table and its two errors. -/
import Derived.Test.YthhbhfpdabiclaaGreatDoorLexVal
import Derived.Test.YthhbhfpdabiclaaGreatDoorRows
import Derived.ProofKit
import Derived.LaidMore
import Derived.OpenShut
import Derived.Stop.Joined
import Derived.Lib.SmallJoins
import Derived.Lib.LaidTab
namespace Go.Proofs.YthhbhfpdabiclaaGreatDoor.L12
open Go.ChangeShapes Go.WideShapes Go.ChangeAt Go.WideMaps Go.WideElems Go.RowKit
set_option linter.unusedVariables false
theorem own : ownKnob Tryz.prog.godebug = none := by kernel_rfl
def laidTab : List (String × DataW Unit) := [("math/bits.deBruijn32tab", Rows.laid_math_bits_deBruijn32tab), ("math/bits.deBruijn64tab", Rows.laid_math_bits_deBruijn64tab), ("internal/strconv.uint64pow10", Rows.laid_internal_strconv_uint64pow10), ("unicode/utf8.acceptRanges", Rows.laid_unicode_utf8_acceptRanges), ("strconv.ErrRange", Rows.laid_strconv_ErrRange), ("strconv.ErrSyntax", Rows.laid_strconv_ErrSyntax), ("unicode/utf8.first", Rows.laid_unicode_utf8_first)]
def laidSix : List (String × DataW Unit) := [("math/bits.deBruijn32tab", Rows.laid_math_bits_deBruijn32tab), ("math/bits.deBruijn64tab", Rows.laid_math_bits_deBruijn64tab), ("internal/strconv.uint64pow10", Rows.laid_internal_strconv_uint64pow10), ("unicode/utf8.acceptRanges", Rows.laid_unicode_utf8_acceptRanges), ("strconv.ErrRange", Rows.laid_strconv_ErrRange), ("strconv.ErrSyntax", Rows.laid_strconv_ErrSyntax)]
theorem door_met6 (os : Os) (args : Array Value) : laidMetH Tryz.prog laidSix ((World.doorLaid Tryz.prog 65 os).forCall (fun _ _ => 0) ⟨#[], args, []⟩).memory :=
  laidMetH_of_parts3 (fuel := 8) (laidMet_of_run' 8 (by kernel_rfl) (by kernel_rfl)) (by kernel_rfl) (by kernel_rfl)
/-- The program's start, with the pinned variable's value. -/
noncomputable def doorW (os : Os) : World := { World.doorLaid Tryz.prog 65 os with heap := (World.doorLaid Tryz.prog 65 os).heap.modify 2 fun o => match o with
  | .cells _ t f => .cells (Pinned.utf8FirstZ.map fun z => Value.int .u8 (z : Nat)).toArray t f
  | o => o }
theorem door_met (os : Os) (args : Array Value) : laidMetH Tryz.prog laidTab ((doorW os).forCall (fun _ _ => 0) ⟨#[], args, []⟩).memory :=
  laidMetH_of_parts3 (fuel := 8) (laidMet_of_run' 8 (by kernel_rfl) (by kernel_rfl)) (by kernel_rfl) (by kernel_rfl)
theorem door_shaped (os : Os) : True := trivial
theorem trod_if {H : Type} {enc : TypeId × Value → H} {P : Program} {w : World} {base : Nat} {sp : Nat → Bool} {held : Bool} {fuel : Nat} {t : TypeId} {cs : List Value} {y : DataW H × List MemPlace} {nm : String} {d : DataW H}
    (ht : ∃ m, P.underlying t = some (.interface m)) (h : DataW.trod enc P w base sp held fuel t cs = some y) (hy : y.1 = .iface nm d) : ∃ u v, cs = [.iface u v] := by
  obtain ⟨m, ht⟩ := ht
  cases fuel with
  | zero => simp [DataW.trod] at h
  | succ fuel =>
    simp only [DataW.trod, ht] at h
    split at h
    all_goals first
      | (exact ⟨_, _, rfl⟩)
      | (exfalso; simp at h; done)
      | (exfalso; simp only [Option.some.injEq] at h; subst h; simp at hy; done)
      | (exfalso; rename_i e _; simp at e; done)
      | (exfalso; rename_i e; simp at e; done)
      | (exfalso; rename_i e _ _; simp at e; done)
      | skip
theorem gPow : Tryz.prog.globalNamed "internal/strconv.uint64pow10" = some 1 := by kernel_rfl
theorem gEr : Tryz.prog.globalNamed "strconv.ErrRange" = some 5 := by kernel_rfl
theorem gEs : Tryz.prog.globalNamed "strconv.ErrSyntax" = some 4 := by kernel_rfl
theorem i64_b {n : Int} (h : (Lit.int .i64 n).wf = true) : -9223372036854775808 ≤ n ∧ n ≤ 9223372036854775807 := by
  simp only [Lit.wf, Bool.and_eq_true, decide_eq_true_eq] at h
  simp [IntKind.min, IntKind.max, IntKind.bits, IntKind.signed] at h
  omega
theorem pow_data {H : Type} : (Rows.laid_internal_strconv_uint64pow10 : DataW H) = Lib.tabData .u64 Lib.pow10Tab := by kernel_rfl
theorem of_laid {W : World} (h : laidMetH Tryz.prog laidTab W) : LT W := by
  rw [MakeChecks.laidMetH_plain _ _ _ (by kernel_rfl)] at h
  obtain ⟨ps, ⟨g0, t0, cs0, f0, p0, q0, hg0, ht0, hv0, hd0, ⟨g1, t1, cs1, f1, p1, q1, hg1, ht1, hv1, hd1, ⟨g2, t2, cs2, f2, p2, q2, hg2, ht2, hv2, hd2, ⟨g3, t3, cs3, f3, p3, q3, hg3, ht3, hv3, hd3, ⟨g4, t4, cs4, f4, p4, q4, hg4, ht4, hv4, hd4, ⟨g5, t5, cs5, f5, p5, q5, hg5, ht5, hv5, hd5, _, _⟩, _⟩, _⟩, _⟩, _⟩, _⟩, _, _⟩ := h
  obtain rfl := Option.some.inj (gPow.symm.trans hg2)
  obtain rfl := Option.some.inj (gEr.symm.trans hg4)
  obtain rfl := Option.some.inj (gEs.symm.trans hg5)
  refine ⟨?_, ?_, ?_⟩
  · have tt : (Tryz.prog.globals[1]?).map (·.type) = some 106 := by kernel_rfl
    obtain rfl := Option.some.inj (tt.symm.trans ht2)
    rw [pow_data] at hd2
    unfold Lib.TabIs
    rw [hv2, ← Lib.cells_of_tab Tryz.underlying106 Tryz.underlying69 (by kernel_rfl) (by kernel_rfl) hd2]
  · have tt : (Tryz.prog.globals[4]?).map (·.type) = some 54 := by kernel_rfl
    obtain rfl := Option.some.inj (tt.symm.trans ht5)
    obtain ⟨u, v, hc⟩ := trod_if ⟨_, Tryz.underlying54⟩ hd5 rfl
    exact ⟨u, v, by have := World.var?_cell hg5 hv5 0; rw [this]; have h1 := congrArg (·[0]?) hc; simpa using h1⟩
  · have tt : (Tryz.prog.globals[5]?).map (·.type) = some 54 := by kernel_rfl
    obtain rfl := Option.some.inj (tt.symm.trans ht4)
    obtain ⟨u, v, hc⟩ := trod_if ⟨_, Tryz.underlying54⟩ hd4 rfl
    exact ⟨u, v, by have := World.var?_cell hg4 hv4 0; rw [this]; have h1 := congrArg (·[0]?) hc; simpa using h1⟩
end Go.Proofs.YthhbhfpdabiclaaGreatDoor.L12
