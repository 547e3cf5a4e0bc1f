/- What a row's condition gives the walks of layer 3: an act that comes in by value. -/
import Derived.Test.YthhkecdcgalcbaaGrown
import Derived.Test.YthhkecdcgalcbaaFileMath
import Derived.ProofKit
import Derived.OpenShut
import Derived.Stop.Joined
namespace Go.Proofs.Ythhkecdcgalcbaa
open Go.ChangeShapes Go.WideShapes Go.ChangeAt Go.WideMaps Go.WideElems Go.RowKit
theorem array5 {α : Type} {A : Array α} (h : A.size = 5) : ∃ a b c d e, A = #[a, b, c, d, e] := by
  obtain ⟨l⟩ := A
  match l, h with
  | [a, b, c, d, e], _ => exact ⟨a, b, c, d, e, rfl⟩
/-- The cells of an act. -/
theorem trod_act {H : Type} {enc : TypeId × Value → H} {w : World} {base : Nat} {spare : Nat → Bool} {held : Bool} {fuel : Nat} {c0 c1 c2 c3 c4 : Value} {z : DataW H × List MemPlace}
    (hf : DataW.trod enc Try.prog w base spare held fuel 36 [c0, c1, c2, c3, c4] = some z) :
    ∃ (p : Bool) (x k r v : Int), c0 = .bool p ∧ c1 = .int .i64 x ∧ c2 = .int .i64 k ∧ c3 = .int .i64 r ∧ c4 = .int .u32 v ∧ z.2 = [] ∧ (Lit.int .i64 x).wf = true ∧ (Lit.int .i64 k).wf = true ∧ (Lit.int .i64 r).wf = true ∧ (Lit.int .u32 v).wf = true := by
  obtain ⟨xs, n, _, hx, hlen, hn, hg⟩ := DataW.trod_struct Try.underlying36 hf
  match xs, hn with
  | [y0, y1, y2, y3, y4], _ =>
    have k3 : Try.prog.cellsOf 3 = 1 := by kernel_rfl
    have k4 : Try.prog.cellsOf 4 = 1 := by kernel_rfl
    have k34 : Try.prog.cellsOf 34 = 1 := by kernel_rfl
    obtain ⟨p, e0, f0⟩ := DataW.trod_bool Try.underlying4 (hg 0 _ rfl)
    obtain ⟨x, e1, f1, g1⟩ := DataW.trod_int Try.underlying3 (hg 1 _ rfl)
    obtain ⟨k, e2, f2, g2⟩ := DataW.trod_int Try.underlying3 (hg 2 _ rfl)
    obtain ⟨r, e3, f3, g3⟩ := DataW.trod_int Try.underlying3 (hg 3 _ rfl)
    obtain ⟨v, e4, f4, g4⟩ := DataW.trod_int Try.underlying34 (hg 4 _ rfl)
    simp [k3, k4, k34] at e0 e1 e2 e3 e4
    subst e0 e1 e2 e3 e4 f0 f1 f2 f3 f4
    exact ⟨p, x, k, r, v, rfl, rfl, rfl, rfl, rfl, by rw [hx]; rfl, g1, g2, g3, g4⟩
theorem open_act {H : Type} {enc : TypeId × Value → H} {w : World} {base : Nat} {spare : Nat → Bool} {held : Bool} {r : Reach} {b0 : Nat} {v : Value} {d : DataW H} {q : List MemPlace}
    (hv : Value.okWide Try.prog w r b0 36 v) (h : DataW.Trod enc Try.prog w base spare held 36 v d q) :
    ∃ (p : Bool) (x k r v4 : Int), v = .agg #[.bool p, .int .i64 x, .int .i64 k, .int .i64 r, .int .u32 v4] ∧ q = [] ∧ (Lit.int .i64 x).wf = true ∧ (Lit.int .i64 k).wf = true ∧ (Lit.int .i64 r).wf = true ∧ (Lit.int .u32 v4).wf = true := by
  obtain ⟨cs, rfl, hsz⟩ := okWide_struct Try.underlying36 hv
  obtain ⟨c0, c1, c2, c3, c4, rfl⟩ := array5 (hsz.trans (by kernel_rfl))
  obtain ⟨fuel, hf⟩ := h
  obtain ⟨p, x, k, r, v4, rfl, rfl, rfl, rfl, rfl, hz, g1, g2, g3, g4⟩ := trod_act (z := (d, q)) hf
  exact ⟨p, x, k, r, v4, rfl, hz, g1, g2, g3, g4⟩
theorem act_flat : flatT Try.prog 3 36 = true := by kernel_rfl
end Go.Proofs.Ythhkecdcgalcbaa
