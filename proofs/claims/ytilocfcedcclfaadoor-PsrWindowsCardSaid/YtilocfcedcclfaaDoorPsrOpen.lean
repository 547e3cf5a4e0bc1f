/- What a row's condition gives the walks of layer 4: the library's table of 32 numbers, cell by cell; a state that comes in by value. -/
import Derived.Test.YtilocfcedcclfaaDoorPsrBits
import Derived.Test.YtilocfcedcclfaaDoorGrown
import Derived.Test.YtilocfcedcclfaaDoorRows
import Derived.ProofKit
import Derived.LaidMore
import Derived.OpenShut
import Derived.Stop.Joined
import Derived.Lib.SmallJoins
namespace Go.Proofs.YtilocfcedcclfaaDoor
open Go.ChangeShapes Go.WideShapes Go.ChangeAt Go.WideMaps Go.WideElems Go.RowKit
theorem own : ownKnob Tryd.prog.godebug = none := by kernel_rfl
theorem gTab : Tryd.prog.globalNamed "math/bits.deBruijn32tab" = some 0 := by kernel_rfl
theorem tTab : (Tryd.prog.globals[0]?).map (·.type) = some 71 := by kernel_rfl
def laidTab : List (String × DataW Unit) := [("math/bits.deBruijn32tab", Rows.laid_math_bits_deBruijn32tab)]
theorem door_met (os : Os) (args : Array Value) : laidMetH Tryd.prog laidTab ((World.doorLaid Tryd.prog 33 os).forCall (fun _ _ => 0) ⟨#[], args, []⟩).memory :=
  laidMetH_of_parts3 (fuel := 8) (laidMet_of_run' 8 (by kernel_rfl) (by kernel_rfl)) (by kernel_rfl) (by kernel_rfl)
theorem laid_tab {H : Type} : (Rows.laid_math_bits_deBruijn32tab : DataW H) = .agg ((List.range 32).map fun j => .lit (.int .u8 (Lib.deBruijn32tab.getD j 0))) := by kernel_rfl
theorem trod_num {H : Type} {enc : TypeId × Value → H} {w : World} {base : Nat} {sp : Nat → Bool} {held : Bool} {m : Nat} {cs : List Value} {y : DataW H × List MemPlace} {n : Int}
    (h : DataW.trod enc Tryd.prog w base sp held m 5 cs = some y) (e : y.1 = .lit (.int .u8 n)) : cs = [.int .u8 n] := by
  obtain ⟨c, rfl, rfl, _⟩ := DataW.trod_int Tryd.underlying5 h
  simpa using e
theorem of_laid {W : World} (h : laidMetH Tryd.prog laidTab W) : TabAt W := by
  rw [MakeChecks.laidMetH_plain _ _ _ (by kernel_rfl)] at h
  obtain ⟨ps, ⟨g0, t0, cs0, f0, p0, q0, hg0, ht0, hv0, hd0, _, _⟩, _, _⟩ := h
  obtain rfl := Option.some.inj (gTab.symm.trans hg0)
  obtain rfl := Option.some.inj (tTab.symm.trans ht0)
  have c1 : Tryd.prog.cellsOf 5 = 1 := by kernel_rfl
  obtain ⟨xs, m, rfl, hx, hlen, hn, hel⟩ := DataW.trod_array Tryd.underlying71 hd0
  rw [laid_tab] at hx
  simp only [Prod.mk.injEq, DataW.agg.injEq] at hx
  intro k hk
  have hy := hel k hk
  have hxk : xs[k]? = some (xs[k]'(by omega)) := List.getElem?_eq_getElem (by omega)
  rw [hxk, c1] at hy
  have hrow : (xs[k]'(by omega)).1 = .lit (.int .u8 (Lib.deBruijn32tab.getD k 0)) := by
    have h1 := congrArg (fun l => l[k]?) hx.1
    simp only [List.getElem?_map, hxk, Option.map_some, List.getElem?_range hk] at h1
    exact (Option.some.inj h1).symm
  have q := trod_num hy hrow
  rw [World.var?_cell hg0 hv0]
  have h1 := congrArg (fun l => l[0]?) q
  simp only [List.getElem?_take, List.getElem?_drop, Nat.mul_one] at h1
  rw [if_pos (by omega)] at h1
  simpa using h1

/-! A state by value. -/
theorem array4 {α : Type} {cs : Array α} (h : cs.size = 4) : ∃ c0 c1 c2 c3, cs = #[c0, c1, c2, c3] := by
  obtain ⟨l⟩ := cs
  match l, h with
  | [c0, c1, c2, c3], _ => exact ⟨c0, c1, c2, c3, rfl⟩
theorem open_psr {H : Type} {enc : TypeId × Value → H} {w : World} {base : Nat} {spare : Nat → Bool} {held : Bool} {r : Reach} {b0 : Nat} {v : Value} {d : DataW H} {p : List MemPlace}
    (hv : Value.okWide Tryd.prog w r b0 23 v) (h : DataW.Trod enc Tryd.prog w base spare held 23 v d p) :
    ∃ a b c e : Int, v = .agg #[.int .u8 a, .int .u8 b, .int .u8 c, .int .u8 e] ∧ p = [] ∧ (Lit.int .u8 a).wf = true ∧ (Lit.int .u8 b).wf = true ∧ (Lit.int .u8 c).wf = true ∧ (Lit.int .u8 e).wf = true := by
  obtain ⟨cs, rfl, hsz⟩ := okWide_struct Tryd.underlying23 hv
  obtain ⟨c0, c1, c2, c3, rfl⟩ := array4 (hsz.trans (by kernel_rfl))
  obtain ⟨fuel, hf⟩ := h
  obtain ⟨xs, n, _, hx, _, hlen, hg⟩ := DataW.trod_struct Tryd.underlying23 hf
  match xs, hlen with
  | [y0, y1, y2, y3], _ =>
    have k5 : Tryd.prog.cellsOf 5 = 1 := by kernel_rfl
    obtain ⟨a, e1, f1, g1⟩ := DataW.trod_int Tryd.underlying5 (hg 0 _ rfl)
    obtain ⟨b, e2, f2, g2⟩ := DataW.trod_int Tryd.underlying5 (hg 1 _ rfl)
    obtain ⟨c, e3, f3, g3⟩ := DataW.trod_int Tryd.underlying5 (hg 2 _ rfl)
    obtain ⟨e, e4, f4, g4⟩ := DataW.trod_int Tryd.underlying5 (hg 3 _ rfl)
    simp [Value.cells, k5] at e1 e2 e3 e4
    subst e1 e2 e3 e4 f1 f2 f3 f4
    simp only [Prod.mk.injEq] at hx
    exact ⟨a, b, c, e, rfl, by simpa using hx.2, g1, g2, g3, g4⟩
theorem u8_b {n : Int} (h : (Lit.int .u8 n).wf = true) : 0 ≤ n ∧ n < 256 := by
  simp only [Lit.wf, Bool.and_eq_true, decide_eq_true_eq] at h
  simp [IntKind.min, IntKind.max, IntKind.bits, IntKind.signed] at h
  omega
theorem u32_b {n : Int} (h : (Lit.int .u32 n).wf = true) : 0 ≤ n ∧ n < 4294967296 := by
  simp only [Lit.wf, Bool.and_eq_true, decide_eq_true_eq] at h
  simp [IntKind.min, IntKind.max, IntKind.bits, IntKind.signed] at h
  omega
theorem i64_b {n : Int} (h : (Lit.int .i64 n).wf = true) : -9223372036854775808 ≤ n ∧ n ≤ 9223372036854775807 := by
  simp only [Lit.wf, Bool.and_eq_true, decide_eq_true_eq] at h
  simp [IntKind.min, IntKind.max, IntKind.bits, IntKind.signed] at h
  omega
theorem psr_flat : flatT Tryd.prog 3 23 = true := by kernel_rfl
end Go.Proofs.YtilocfcedcclfaaDoor
