/- What a row's condition gives the walks of layer 7: the table of fields; an act that comes in by value. -/
import Derived.Test.YtoecanjhkbeemaaDoorAsmIs
import Derived.Test.YtoecanjhkbeemaaDoorInstOpen
namespace Go.Proofs.YtoecanjhkbeemaaDoor.A7
open Go.ChangeShapes Go.WideShapes Go.ChangeAt Go.WideMaps Go.WideElems Go.RowKit
set_option linter.unusedVariables false
theorem own : ownKnob Tryd.prog.godebug = none := by kernel_rfl
def laidTab : List (String × DataW Unit) := [("muntin/inst.fieldsByOp", Rows.laid_muntin_inst_fieldsByOp)]
theorem door_met (os : Os) (args : Array Value) : laidMetH Tryd.prog laidTab ((World.doorLaid Tryd.prog 191 os).forCall (fun _ _ => 0) ⟨#[], args, []⟩).memory :=
  laidMetH_of_parts3 (fuel := 8) (laidMet_of_run' 8 (by kernel_rfl) (by kernel_rfl)) (by kernel_rfl) (by kernel_rfl)
theorem of_laid {W : World} (h : laidMetH Tryd.prog laidTab W) : I2.Tab W := I2.of_laid h
theorem u8_b {n : Int} (h : (Lit.int .u8 n).wf = true) : 0 ≤ n ∧ n < 256 := by
  simp only [Lit.wf, Bool.and_eq_true, decide_eq_true_eq] at h
  simp [IntKind.min, IntKind.max, IntKind.bits, IntKind.signed] at h
  omega
theorem u32_b {n : Int} (h : (Lit.int .u32 n).wf = true) : 0 ≤ n ∧ n < 4294967296 := by
  simp only [Lit.wf, Bool.and_eq_true, decide_eq_true_eq] at h
  simp [IntKind.min, IntKind.max, IntKind.bits, IntKind.signed] at h
  omega
theorem array5 {α : Type} {cs : Array α} (h : cs.size = 5) : ∃ c0 c1 c2 c3 c4, cs = #[c0, c1, c2, c3, c4] := by
  obtain ⟨l⟩ := cs
  rcases l with _ | ⟨c0, _ | ⟨c1, _ | ⟨c2, _ | ⟨c3, _ | ⟨c4, _ | ⟨c5, l⟩⟩⟩⟩⟩⟩
  all_goals first | (exact ⟨_, _, _, _, _, rfl⟩) | (exact absurd h (by simp))
set_option maxRecDepth 100000 in
theorem open_act {H : Type} {enc : TypeId × Value → H} {w : World} {base : Nat} {spare : Nat → Bool} {held : Bool} {r : Reach} {b0 : Nat} {v : Value} {d : DataW H} {p : List MemPlace}
    (hv : Value.okWide Tryd.prog w r b0 36 v) (h : DataW.Trod enc Tryd.prog w base spare held 36 v d p) :
    ∃ (wh cd u : Int) (l : Value) (s : ByteArray), v = .agg #[.int .u8 wh, l, .string s, .int .u8 cd, .int .u32 u] ∧ 0 ≤ u ∧ u < 4294967296 := by
  obtain ⟨cs, rfl, hsz⟩ := okWide_struct Tryd.underlying36 hv
  obtain ⟨c0, c1, c2, c3, c4, rfl⟩ := array5 (hsz.trans (by kernel_rfl))
  obtain ⟨fuel, hf⟩ := h
  obtain ⟨xs, n, _, hx, _, hlen, hg⟩ := DataW.trod_struct Tryd.underlying36 hf
  match xs, hlen with
  | [y0, y1, y2, y3, y4], _ =>
    have k8 : Tryd.prog.cellsOf 5 = 1 := by kernel_rfl
    have ks : Tryd.prog.cellsOf 9 = 1 := by kernel_rfl
    have ku : Tryd.prog.cellsOf 34 = 1 := by kernel_rfl
    obtain ⟨a0, e0, _, _⟩ := DataW.trod_int Tryd.underlying5 (hg 0 _ rfl)
    obtain ⟨a2, e2, _⟩ := DataW.trod_string Tryd.underlying9 (hg 2 _ rfl)
    obtain ⟨a3, e3, _, _⟩ := DataW.trod_int Tryd.underlying5 (hg 3 _ rfl)
    obtain ⟨a4, e4, _, hw4⟩ := DataW.trod_int Tryd.underlying34 (hg 4 _ rfl)
    simp [Value.cells, k8, ks, ku] at e0 e2 e3 e4
    subst e0 e2 e3 e4
    exact ⟨a0, a3, a4, c1, a2, rfl, u32_b hw4⟩
end Go.Proofs.YtoecanjhkbeemaaDoor.A7
