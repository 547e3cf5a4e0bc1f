/- What the row's condition gives the walks of layer 9 (TickPuts): the table of the instructions' fields, cell by cell, where four tables are listed. -/
import Derived.Test.YtmpagjijjahohaaGreatDoorInstG
import Derived.Test.YtmpagjijjahohaaGreatDoorRows
import Derived.ProofKit
import Derived.LaidMore
import Derived.OpenShut
import Derived.Stop.Joined
import Derived.Lib.SmallJoins
namespace Go.Proofs.YtmpagjijjahohaaGreatDoor.T9
open Go.ChangeShapes Go.WideShapes Go.ChangeAt Go.WideMaps Go.WideElems Go.RowKit
set_option linter.unusedVariables false
theorem own : ownKnob Tryz.prog.godebug = none := by kernel_rfl
def laidTab : List (String × DataW Unit) := [("math/bits.deBruijn32tab", Rows.laid_math_bits_deBruijn32tab), ("math/bits.deBruijn64tab", Rows.laid_math_bits_deBruijn64tab), ("internal/strconv.uint64pow10", Rows.laid_internal_strconv_uint64pow10), ("muntin/inst.fieldsByOp", Rows.laid_muntin_inst_fieldsByOp)]
theorem door_met (os : Os) (args : Array Value) : laidMetH Tryz.prog laidTab ((World.doorLaid Tryz.prog 191 os).forCall (fun _ _ => 0) ⟨#[], args, []⟩).memory :=
  laidMetH_of_parts3 (fuel := 8) (laidMet_of_run' 8 (by kernel_rfl) (by kernel_rfl)) (by kernel_rfl) (by kernel_rfl)
theorem gTabI : Tryz.prog.globalNamed "muntin/inst.fieldsByOp" = some 0 := by kernel_rfl
theorem tTabI : (Tryz.prog.globals[0]?).map (·.type) = some 294 := by kernel_rfl
/-- The table's datum, row by row. -/
def rowD {H : Type} (k : Nat) : DataW H := .agg [.lit (.bool (I2.tb k 0)), .lit (.bool (I2.tb k 1)), .lit (.bool (I2.tb k 2)), .lit (.bool (I2.tb k 3)), .lit (.bool (I2.tb k 4))]
theorem laid_rows {H : Type} : (Rows.laid_muntin_inst_fieldsByOp : DataW H) = .agg ((List.range 38).map rowD) := by kernel_rfl
theorem trod_bit {H : Type} {enc : TypeId × Value → H} {w : World} {base : Nat} {sp : Nat → Bool} {held : Bool} {m : Nat} {cs : List Value} {y : DataW H × List MemPlace} {b : Bool}
    (h : DataW.trod enc Tryz.prog w base sp held m 4 cs = some y) (e : y.1 = .lit (.bool b)) : cs = [.bool b] := by
  obtain ⟨c, rfl, rfl⟩ := DataW.trod_bool Tryz.underlying4 h
  simpa using e
theorem of_laid_i {W : World} {g0 : Nat} {t0 : TypeId} {cs0 : Array Value} {f0 : Nat} {p0 : List MemPlace} (hg0 : Tryz.prog.globalNamed "muntin/inst.fieldsByOp" = some g0) (ht0 : (Tryz.prog.globals[g0]?).map (·.type) = some t0) (hv0 : W.var? Tryz.prog "muntin/inst.fieldsByOp" = some cs0)
    (hd0 : DataW.trod (fun _ => ()) Tryz.prog W 0 (fun _ => true) false f0 t0 cs0.toList = some (Rows.laid_muntin_inst_fieldsByOp, p0)) : I2.Tab W := by
  obtain rfl := Option.some.inj (gTabI.symm.trans hg0)
  obtain rfl := Option.some.inj (tTabI.symm.trans ht0)
  have c5 : Tryz.prog.cellsOf 245 = 5 := by kernel_rfl
  obtain ⟨xs, m, rfl, hx, hlen, hn, hel⟩ := DataW.trod_array Tryz.underlying294 hd0
  rw [laid_rows] at hx
  simp only [Prod.mk.injEq, DataW.agg.injEq] at hx
  intro k hk j hj
  have hy := hel k hk
  have hxk : xs[k]? = some (xs[k]'(by omega)) := List.getElem?_eq_getElem (by omega)
  rw [hxk, c5] at hy
  have hrow : (xs[k]'(by omega)).1 = rowD k := by
    have h1 := congrArg (fun l => l[k]?) hx.1
    simp only [List.getElem?_map, hxk, Option.map_some, List.getElem?_range hk] at h1
    exact (Option.some.inj h1).symm
  obtain ⟨zs, m2, _, hz, hl2, hn2, hf⟩ := DataW.trod_struct Tryz.underlying245 hy
  rw [hz] at hrow
  simp only [rowD, DataW.agg.injEq] at hrow
  match zs, hn2, hrow, hf with
  | [z0, z1, z2, z3, z4], _, hrow, hf =>
    simp only [List.map_cons, List.map_nil, List.cons.injEq, and_true] at hrow
    obtain ⟨r0, r1, r2, r3, r4⟩ := hrow
    have cb : Tryz.prog.cellsOf 4 = 1 := by kernel_rfl
    rw [World.var?_cell hg0 hv0]
    have q0 := trod_bit (hf 0 _ rfl) r0
    have q1 := trod_bit (hf 1 _ rfl) r1
    have q2 := trod_bit (hf 2 _ rfl) r2
    have q3 := trod_bit (hf 3 _ rfl) r3
    have q4 := trod_bit (hf 4 _ rfl) r4
    change (((cs0.toList.drop (k * 5)).take 5).drop 0).take (Tryz.prog.cellsOf 4) = _ at q0
    rw [cb] at q0
    change (((cs0.toList.drop (k * 5)).take 5).drop 1).take (Tryz.prog.cellsOf 4) = _ at q1
    rw [cb] at q1
    change (((cs0.toList.drop (k * 5)).take 5).drop 2).take (Tryz.prog.cellsOf 4) = _ at q2
    rw [cb] at q2
    change (((cs0.toList.drop (k * 5)).take 5).drop 3).take (Tryz.prog.cellsOf 4) = _ at q3
    rw [cb] at q3
    change (((cs0.toList.drop (k * 5)).take 5).drop 4).take (Tryz.prog.cellsOf 4) = _ at q4
    rw [cb] at q4
    have pick : ∀ (i : Nat) (v : Value), i < 5 → (((cs0.toList.drop (k * 5)).take 5).drop i).take 1 = [v] → cs0[k * 5 + i]? = some v := by
      intro i v hi h
      have h1 := congrArg (fun l => l[0]?) h
      simp only [List.getElem?_take, List.getElem?_drop] at h1
      rw [if_pos (by omega), if_pos (by omega)] at h1
      simpa using h1
    rcases (by omega : j = 0 ∨ j = 1 ∨ j = 2 ∨ j = 3 ∨ j = 4) with rfl | rfl | rfl | rfl | rfl
    · exact pick 0 _ (by decide) q0
    · exact pick 1 _ (by decide) q1
    · exact pick 2 _ (by decide) q2
    · exact pick 3 _ (by decide) q3
    · exact pick 4 _ (by decide) q4

theorem of_laid {W : World} (h : laidMetH Tryz.prog laidTab W) : I2.Tab W := by
  rw [MakeChecks.laidMetH_plain _ _ _ (by kernel_rfl)] at h
  obtain ⟨ps, ⟨g0, t0, cs0, f0, p0, q0, hg0, ht0, hv0, hd0, ⟨g1, t1, cs1, f1, p1, q1, hg1, ht1, hv1, hd1, ⟨g2, t2, cs2, f2, p2, q2, hg2, ht2, hv2, hd2, ⟨g3, t3, cs3, f3, p3, q3, hg3, ht3, hv3, hd3, _, _⟩, _⟩, _⟩, _⟩, _, _⟩ := h
  exact of_laid_i hg3 ht3 hv3 hd3
theorem u8_b {n : Int} (h : (Lit.int .u8 n).wf = true) : 0 ≤ n ∧ n < 256 := by
  simp only [Lit.wf, Bool.and_eq_true, decide_eq_true_eq] at h
  simp [IntKind.min, IntKind.max, IntKind.bits, IntKind.signed] at h
  omega
theorem u32_b {n : Int} (h : (Lit.int .u32 n).wf = true) : 0 ≤ n ∧ n < 4294967296 := by
  simp only [Lit.wf, Bool.and_eq_true, decide_eq_true_eq] at h
  simp [IntKind.min, IntKind.max, IntKind.bits, IntKind.signed] at h
  omega
theorem i64_b {n : Int} (h : (Lit.int .i64 n).wf = true) : -9223372036854775808 ≤ n ∧ n ≤ 9223372036854775807 := by
  simp only [Lit.wf, Bool.and_eq_true, decide_eq_true_eq] at h
  simp [IntKind.min, IntKind.max, IntKind.bits, IntKind.signed] at h
  omega
end Go.Proofs.YtmpagjijjahohaaGreatDoor.T9
