/- What a row's condition gives the walks of layer 10: a case opened whole. -/
import Derived.Test.YtiobgnelhiadbaaGreatDoorXSwapGW
import Derived.Test.YtiobgnelhiadbaaGreatDoorXWindGOp
import Derived.Laws.IdiomArrays
namespace Go.Proofs.YtiobgnelhiadbaaGreatDoor.S10
open Go.ChangeShapes Go.WideShapes Go.ChangeAt Go.WideMaps Go.WideElems Go.RowKit Go.Deep
open K6
set_option linter.unusedVariables false
theorem array20 {α : Type} {cs : Array α} (h : cs.size = 20) : ∃ c0 c1 c2 c3 c4 c5 c6 c7 c8 c9 c10 c11 c12 c13 c14 c15 c16 c17 c18 c19, cs = #[c0, c1, c2, c3, c4, c5, c6, c7, c8, c9, c10, c11, c12, c13, c14, c15, c16, c17, c18, c19] := by
  obtain ⟨l⟩ := cs
  match l, h with
  | [c0, c1, c2, c3, c4, c5, c6, c7, c8, c9, c10, c11, c12, c13, c14, c15, c16, c17, c18, c19], _ => exact ⟨c0, c1, c2, c3, c4, c5, c6, c7, c8, c9, c10, c11, c12, c13, c14, c15, c16, c17, c18, c19, rfl⟩
def pick4 {α : Type} (a b c d : α) (i : Nat) : α := if i = 0 then a else if i = 1 then b else if i = 2 then c else d
theorem pick4_all {α : Type} {a b c d : α} {p : α → Prop} (ha : p a) (hb : p b) (hc : p c) (hd : p d) (i : Nat) : p (pick4 a b c d i) := by
  unfold pick4
  split
  · exact ha
  · split
    · exact hb
    · split
      · exact hc
      · exact hd
set_option maxRecDepth 100000 in
/-- A case that came in. -/
theorem open_zcase {H : Type} {enc : TypeId × Value → H} {w : World} {r : Go.Reach} {b0 : Nat} {v : Value} {d : DataW H} {p : List MemPlace}
    (hv : Value.okWide Tryz.prog w r b0 54 v) (h : DataW.Trod enc Tryz.prog w 0 (fun _ => true) true 54 v d p) :
    ∃ (s : TC) (vr vf : Value), v = .agg (zrow s vr vf) ∧ TCAt w s vr vf ∧ TCB s := by
  obtain ⟨cs, rfl, hsz⟩ := okWide_struct Tryz.underlying54 hv
  obtain ⟨c0, c1, c2, c3, c4, c5, c6, c7, c8, c9, c10, c11, c12, c13, c14, c15, c16, c17, c18, c19, rfl⟩ := array20 (hsz.trans (by kernel_rfl))
  obtain ⟨fuel, hf⟩ := h
  obtain ⟨xs, n, _, hx, _, hlen, hg⟩ := DataW.trod_struct Tryz.underlying54 hf
  match xs, hlen with
  | [y0, y1, y2, y3, y4, y5, y6, y7, y8, y9, y10, y11, y12, y13], _ =>
    have ki : Tryz.prog.cellsOf 3 = 1 := by kernel_rfl
    have ku : Tryz.prog.cellsOf 22 = 1 := by kernel_rfl
    have k8 : Tryz.prog.cellsOf 5 = 1 := by kernel_rfl
    have k16 : Tryz.prog.cellsOf 51 = 1 := by kernel_rfl
    have kw : Tryz.prog.cellsOf 25 = 1 := by kernel_rfl
    have kh : Tryz.prog.cellsOf 49 = 1 := by kernel_rfl
    have kb : Tryz.prog.cellsOf 4 = 1 := by kernel_rfl
    have kab : Tryz.prog.cellsOf 50 = 4 := by kernel_rfl
    have kah : Tryz.prog.cellsOf 52 = 4 := by kernel_rfl
    obtain ⟨vr, lr, fr, e3, hr, br⟩ := o_words (hg 3 _ rfl)
    obtain ⟨vf, lf, ff, e4, hf4, bf⟩ := o_halves (hg 4 _ rfl)
    have g7 := hg 7 _ rfl
    have g8 := hg 8 _ rfl
    obtain ⟨a0, e0, _, _⟩ := DataW.trod_int Tryz.underlying3 (hg 0 _ rfl)
    obtain ⟨a1, e1, _, _⟩ := DataW.trod_int Tryz.underlying3 (hg 1 _ rfl)
    obtain ⟨a2, e2, _, _⟩ := DataW.trod_int Tryz.underlying3 (hg 2 _ rfl)
    obtain ⟨a5, e5, _, _⟩ := DataW.trod_int Tryz.underlying3 (hg 5 _ rfl)
    obtain ⟨a6, e6, _, _⟩ := DataW.trod_int Tryz.underlying3 (hg 6 _ rfl)
    obtain ⟨a9, e9, _, g9⟩ := DataW.trod_int Tryz.underlying22 (hg 9 _ rfl)
    obtain ⟨a10, e10, _, g10⟩ := DataW.trod_int Tryz.underlying5 (hg 10 _ rfl)
    obtain ⟨a11, e11, _, g11⟩ := DataW.trod_int Tryz.underlying5 (hg 11 _ rfl)
    obtain ⟨a12, e12, _, g12⟩ := DataW.trod_int Tryz.underlying22 (hg 12 _ rfl)
    obtain ⟨a13, e13, _⟩ := DataW.trod_bool Tryz.underlying4 (hg 13 _ rfl)
    simp [Value.cells, ki, ku, k8, kw, kh, kb] at e0 e1 e2 e3 e4 e5 e6 e9 e10 e11 e12 e13
    simp [Value.cells, kab] at g7
    simp [Value.cells, kah] at g8
    obtain ⟨z0, z1, z2, z3, _, _, p0, p1, p2, p3⟩ := trod_array4 Tryz.underlying50 kb g7
    obtain ⟨t0, t1, t2, t3, _, _, q0, q1, q2, q3⟩ := trod_array4 Tryz.underlying52 k16 g8
    obtain ⟨b0, f0, _⟩ := DataW.trod_bool Tryz.underlying4 p0
    obtain ⟨b1, f1, _⟩ := DataW.trod_bool Tryz.underlying4 p1
    obtain ⟨b2, f2, _⟩ := DataW.trod_bool Tryz.underlying4 p2
    obtain ⟨b3, f3, _⟩ := DataW.trod_bool Tryz.underlying4 p3
    obtain ⟨s0, i0, _, w0⟩ := DataW.trod_int Tryz.underlying51 q0
    obtain ⟨s1, i1, _, w1⟩ := DataW.trod_int Tryz.underlying51 q1
    obtain ⟨s2, i2, _, w2⟩ := DataW.trod_int Tryz.underlying51 q2
    obtain ⟨s3, i3, _, w3⟩ := DataW.trod_int Tryz.underlying51 q3
    simp at f0 f1 f2 f3 i0 i1 i2 i3
    subst e0 e1 e2 e3 e4 e5 e6 e9 e10 e11 e12 e13 f0 f1 f2 f3 i0 i1 i2 i3
    exact ⟨⟨a0, a1, a2, lr, fr, lf, ff, a5, a6, pick4 b0 b1 b2 b3, pick4 s0 s1 s2 s3, a9, a10, a11, a12, a13⟩, _, _, rfl, ⟨hr.sl, hf4⟩, ⟨br, bf, pick4_all (p := fun n => 0 ≤ n ∧ n < 65536) (o_u16 w0) (o_u16 w1) (o_u16 w2) (o_u16 w3), o_u32 g9, o_u8 g10, o_u8 g11, o_u32 g12⟩⟩
end Go.Proofs.YtiobgnelhiadbaaGreatDoor.S10
