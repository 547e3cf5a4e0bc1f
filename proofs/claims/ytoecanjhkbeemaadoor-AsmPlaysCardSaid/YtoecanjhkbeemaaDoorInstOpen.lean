/- What the row's condition gives the walks of layer 2: the table of fields, cell by cell; an instruction that comes in by value. -/
import Derived.Test.YtoecanjhkbeemaaDoorInstSmall
import Derived.Test.YtoecanjhkbeemaaDoorRows
import Derived.ProofKit
import Derived.LaidMore
import Derived.OpenShut
import Derived.Stop.Joined
import Derived.Lib.SmallJoins
namespace Go.Proofs.YtoecanjhkbeemaaDoor.I2
open Go.ChangeShapes Go.WideShapes Go.ChangeAt Go.WideMaps Go.WideElems Go.RowKit
theorem own : ownKnob Tryd.prog.godebug = none := by kernel_rfl
theorem gTab : Tryd.prog.globalNamed "muntin/inst.fieldsByOp" = some 0 := by kernel_rfl
theorem tTab : (Tryd.prog.globals[0]?).map (·.type) = some 95 := by kernel_rfl
def laidTab : List (String × DataW Unit) := [("muntin/inst.fieldsByOp", Rows.laid_muntin_inst_fieldsByOp)]
theorem door_met (os : Os) (args : Array Value) : laidMetH Tryd.prog laidTab ((World.doorLaid Tryd.prog 38 os).forCall (fun _ _ => 0) ⟨#[], args, []⟩).memory :=
  laidMetH_of_parts3 (fuel := 8) (laidMet_of_run' 8 (by kernel_rfl) (by kernel_rfl)) (by kernel_rfl) (by kernel_rfl)
/-- The table's datum, row by row. -/
def rowD {H : Type} (k : Nat) : DataW H := .agg [.lit (.bool (tb k 0)), .lit (.bool (tb k 1)), .lit (.bool (tb k 2)), .lit (.bool (tb k 3)), .lit (.bool (tb k 4))]
theorem laid_rows {H : Type} : (Rows.laid_muntin_inst_fieldsByOp : DataW H) = .agg ((List.range 38).map rowD) := by kernel_rfl
theorem trod_bit {H : Type} {enc : TypeId × Value → H} {w : World} {base : Nat} {sp : Nat → Bool} {held : Bool} {m : Nat} {cs : List Value} {y : DataW H × List MemPlace} {b : Bool}
    (h : DataW.trod enc Tryd.prog w base sp held m 4 cs = some y) (e : y.1 = .lit (.bool b)) : cs = [.bool b] := by
  obtain ⟨c, rfl, rfl⟩ := DataW.trod_bool Tryd.underlying4 h
  simpa using e
theorem of_laid {W : World} (h : laidMetH Tryd.prog laidTab W) : Tab W := by
  rw [MakeChecks.laidMetH_plain _ _ _ (by kernel_rfl)] at h
  obtain ⟨ps, ⟨g0, t0, cs0, f0, p0, q0, hg0, ht0, hv0, hd0, _, _⟩, _, _⟩ := h
  obtain rfl := Option.some.inj (gTab.symm.trans hg0)
  obtain rfl := Option.some.inj (tTab.symm.trans ht0)
  have c5 : Tryd.prog.cellsOf 85 = 5 := by kernel_rfl
  obtain ⟨xs, m, rfl, hx, hlen, hn, hel⟩ := DataW.trod_array Tryd.underlying95 hd0
  rw [laid_rows] at hx
  simp only [Prod.mk.injEq, DataW.agg.injEq] at hx
  intro k hk j hj
  have hy := hel k hk
  have hxk : xs[k]? = some (xs[k]'(by omega)) := List.getElem?_eq_getElem (by omega)
  rw [hxk, c5] at hy
  have hrow : (xs[k]'(by omega)).1 = rowD k := by
    have h1 := congrArg (fun l => l[k]?) hx.1
    simp only [List.getElem?_map, hxk, Option.map_some, List.getElem?_range hk] at h1
    exact (Option.some.inj h1).symm
  obtain ⟨zs, m2, _, hz, hl2, hn2, hf⟩ := DataW.trod_struct Tryd.underlying85 hy
  rw [hz] at hrow
  simp only [rowD, DataW.agg.injEq] at hrow
  match zs, hn2, hrow, hf with
  | [z0, z1, z2, z3, z4], _, hrow, hf =>
    simp only [List.map_cons, List.map_nil, List.cons.injEq, and_true] at hrow
    obtain ⟨r0, r1, r2, r3, r4⟩ := hrow
    have cb : Tryd.prog.cellsOf 4 = 1 := by kernel_rfl
    rw [World.var?_cell hg0 hv0]
    have q0 := trod_bit (hf 0 _ rfl) r0
    have q1 := trod_bit (hf 1 _ rfl) r1
    have q2 := trod_bit (hf 2 _ rfl) r2
    have q3 := trod_bit (hf 3 _ rfl) r3
    have q4 := trod_bit (hf 4 _ rfl) r4
    change (((cs0.toList.drop (k * 5)).take 5).drop 0).take (Tryd.prog.cellsOf 4) = _ at q0
    rw [cb] at q0
    change (((cs0.toList.drop (k * 5)).take 5).drop 1).take (Tryd.prog.cellsOf 4) = _ at q1
    rw [cb] at q1
    change (((cs0.toList.drop (k * 5)).take 5).drop 2).take (Tryd.prog.cellsOf 4) = _ at q2
    rw [cb] at q2
    change (((cs0.toList.drop (k * 5)).take 5).drop 3).take (Tryd.prog.cellsOf 4) = _ at q3
    rw [cb] at q3
    change (((cs0.toList.drop (k * 5)).take 5).drop 4).take (Tryd.prog.cellsOf 4) = _ at q4
    rw [cb] at q4
    have pick : ∀ (i : Nat) (v : Value), i < 5 → (((cs0.toList.drop (k * 5)).take 5).drop i).take 1 = [v] → cs0[k * 5 + i]? = some v := by
      intro i v hi h
      have h1 := congrArg (fun l => l[0]?) h
      simp only [List.getElem?_take, List.getElem?_drop] at h1
      rw [if_pos (by omega), if_pos (by omega)] at h1
      simpa using h1
    rcases (by omega : j = 0 ∨ j = 1 ∨ j = 2 ∨ j = 3 ∨ j = 4) with rfl | rfl | rfl | rfl | rfl
    · exact pick 0 _ (by decide) q0
    · exact pick 1 _ (by decide) q1
    · exact pick 2 _ (by decide) q2
    · exact pick 3 _ (by decide) q3
    · exact pick 4 _ (by decide) q4

/-! An instruction by value. -/
theorem array6 {α : Type} {cs : Array α} (h : cs.size = 6) : ∃ c0 c1 c2 c3 c4 c5, cs = #[c0, c1, c2, c3, c4, c5] := by
  obtain ⟨l⟩ := cs
  match l, h with
  | [c0, c1, c2, c3, c4, c5], _ => exact ⟨c0, c1, c2, c3, c4, c5, rfl⟩
theorem open_inst {H : Type} {enc : TypeId × Value → H} {w : World} {base : Nat} {spare : Nat → Bool} {held : Bool} {r : Reach} {b0 : Nat} {v : Value} {d : DataW H} {p : List MemPlace}
    (hv : Value.okWide Tryd.prog w r b0 49 v) (h : DataW.Trod enc Tryd.prog w base spare held 49 v d p) :
    ∃ (o e s t : Int) (b : Bool) (n : Int), v = .agg #[.int .u8 o, .int .u8 e, .int .u8 s, .int .u8 t, .bool b, .int .i32 n] ∧ p = [] ∧ (Lit.int .u8 o).wf = true ∧ (Lit.int .u8 e).wf = true ∧ (Lit.int .u8 s).wf = true ∧ (Lit.int .u8 t).wf = true ∧ (Lit.int .i32 n).wf = true := by
  obtain ⟨cs, rfl, hsz⟩ := okWide_struct Tryd.underlying49 hv
  obtain ⟨c0, c1, c2, c3, c4, c5, rfl⟩ := array6 (hsz.trans (by kernel_rfl))
  obtain ⟨fuel, hf⟩ := h
  obtain ⟨xs, n, _, hx, _, hlen, hg⟩ := DataW.trod_struct Tryd.underlying49 hf
  match xs, hlen with
  | [y0, y1, y2, y3, y4, y5], _ =>
    have k5 : Tryd.prog.cellsOf 5 = 1 := by kernel_rfl
    have k4 : Tryd.prog.cellsOf 4 = 1 := by kernel_rfl
    have k21 : Tryd.prog.cellsOf 21 = 1 := by kernel_rfl
    obtain ⟨o, e1, f1, g1⟩ := DataW.trod_int Tryd.underlying5 (hg 0 _ rfl)
    obtain ⟨e, e2, f2, g2⟩ := DataW.trod_int Tryd.underlying5 (hg 1 _ rfl)
    obtain ⟨s, e3, f3, g3⟩ := DataW.trod_int Tryd.underlying5 (hg 2 _ rfl)
    obtain ⟨t, e4, f4, g4⟩ := DataW.trod_int Tryd.underlying5 (hg 3 _ rfl)
    obtain ⟨b, e5, f5⟩ := DataW.trod_bool Tryd.underlying4 (hg 4 _ rfl)
    obtain ⟨m, e6, f6, g6⟩ := DataW.trod_int Tryd.underlying21 (hg 5 _ rfl)
    simp [Value.cells, k5, k4, k21] at e1 e2 e3 e4 e5 e6
    subst e1 e2 e3 e4 e5 e6 f1 f2 f3 f4 f5 f6
    simp only [Prod.mk.injEq] at hx
    exact ⟨o, e, s, t, b, m, rfl, by simpa using hx.2, g1, g2, g3, g4, g6⟩
theorem inst_flat : flatT Tryd.prog 3 49 = true := by kernel_rfl
end Go.Proofs.YtoecanjhkbeemaaDoor.I2
