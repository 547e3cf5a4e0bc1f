/- What a row's condition gives the walks of layer 6: both tables, cell by cell; where a machine begins, by value. What a row's condition gives the walks of layer 8: a case opened whole, a slice of words. What a row's condition gives the walks of layer 10: a case opened whole. -/
import Derived.Test.YtiobgnelhiadbaaGreatDoorVMachGA
import Derived.Test.YtiobgnelhiadbaaGreatDoorVBaseG
import Derived.Test.YtiobgnelhiadbaaGreatDoorRows
import Derived.ProofKit
import Derived.LaidMore
import Derived.OpenShut
import Derived.Stop.Joined
import Derived.Lib.SmallJoins
import Derived.Test.YtiobgnelhiadbaaGreatDoorVWindGU
import Derived.Deep.Slices
import Derived.WideKeyArgs
import Derived.Test.YtiobgnelhiadbaaGreatDoorVSwapGW
import Derived.Laws.IdiomArrays
namespace Go.Proofs.YtiobgnelhiadbaaGreatDoor.K6
open Go.ChangeShapes Go.WideShapes Go.ChangeAt Go.WideMaps Go.WideElems Go.RowKit
set_option linter.unusedVariables false
theorem own : ownKnob Tryz.prog.godebug = none := by kernel_rfl
def laidTab : List (String × DataW Unit) := [("math/bits.deBruijn32tab", Rows.laid_math_bits_deBruijn32tab), ("muntin/inst.fieldsByOp", Rows.laid_muntin_inst_fieldsByOp)]
theorem door_met (os : Os) (args : Array Value) : laidMetH Tryz.prog laidTab ((World.doorLaid Tryz.prog 191 os).forCall (fun _ _ => 0) ⟨#[], args, []⟩).memory :=
  laidMetH_of_parts3 (fuel := 8) (laidMet_of_run' 8 (by kernel_rfl) (by kernel_rfl)) (by kernel_rfl) (by kernel_rfl)
theorem gTabP : Tryz.prog.globalNamed "math/bits.deBruijn32tab" = some 1 := by kernel_rfl
theorem tTabP : (Tryz.prog.globals[1]?).map (·.type) = some 327 := by kernel_rfl
theorem gTabI : Tryz.prog.globalNamed "muntin/inst.fieldsByOp" = some 0 := by kernel_rfl
theorem tTabI : (Tryz.prog.globals[0]?).map (·.type) = some 299 := by kernel_rfl
theorem laid_tab {H : Type} : (Rows.laid_math_bits_deBruijn32tab : DataW H) = .agg ((List.range 32).map fun j => .lit (.int .u8 (Lib.deBruijn32tab.getD j 0))) := by kernel_rfl
theorem trod_num {H : Type} {enc : TypeId × Value → H} {w : World} {base : Nat} {sp : Nat → Bool} {held : Bool} {m : Nat} {cs : List Value} {y : DataW H × List MemPlace} {n : Int}
    (h : DataW.trod enc Tryz.prog w base sp held m 5 cs = some y) (e : y.1 = .lit (.int .u8 n)) : cs = [.int .u8 n] := by
  obtain ⟨c, rfl, rfl, _⟩ := DataW.trod_int Tryz.underlying5 h
  simpa using e
theorem of_laid_p {W : World} {g0 : Nat} {t0 : TypeId} {cs0 : Array Value} {f0 : Nat} {p0 : List MemPlace} (hg0 : Tryz.prog.globalNamed "math/bits.deBruijn32tab" = some g0) (ht0 : (Tryz.prog.globals[g0]?).map (·.type) = some t0) (hv0 : W.var? Tryz.prog "math/bits.deBruijn32tab" = some cs0)
    (hd0 : DataW.trod (fun _ => ()) Tryz.prog W 0 (fun _ => true) false f0 t0 cs0.toList = some (Rows.laid_math_bits_deBruijn32tab, p0)) : P4.TabAt W := by
  obtain rfl := Option.some.inj (gTabP.symm.trans hg0)
  obtain rfl := Option.some.inj (tTabP.symm.trans ht0)
  have c1 : Tryz.prog.cellsOf 5 = 1 := by kernel_rfl
  obtain ⟨xs, m, rfl, hx, hlen, hn, hel⟩ := DataW.trod_array Tryz.underlying327 hd0
  rw [laid_tab] at hx
  simp only [Prod.mk.injEq, DataW.agg.injEq] at hx
  intro k hk
  have hy := hel k hk
  have hxk : xs[k]? = some (xs[k]'(by omega)) := List.getElem?_eq_getElem (by omega)
  rw [hxk, c1] at hy
  have hrow : (xs[k]'(by omega)).1 = .lit (.int .u8 (Lib.deBruijn32tab.getD k 0)) := by
    have h1 := congrArg (fun l => l[k]?) hx.1
    simp only [List.getElem?_map, hxk, Option.map_some, List.getElem?_range hk] at h1
    exact (Option.some.inj h1).symm
  have q := trod_num hy hrow
  rw [World.var?_cell hg0 hv0]
  have h1 := congrArg (fun l => l[0]?) q
  simp only [List.getElem?_take, List.getElem?_drop, Nat.mul_one] at h1
  rw [if_pos (by omega)] at h1
  simpa using h1

/-- The table's datum, row by row. -/
def rowD {H : Type} (k : Nat) : DataW H := .agg [.lit (.bool (I2.tb k 0)), .lit (.bool (I2.tb k 1)), .lit (.bool (I2.tb k 2)), .lit (.bool (I2.tb k 3)), .lit (.bool (I2.tb k 4))]
theorem laid_rows {H : Type} : (Rows.laid_muntin_inst_fieldsByOp : DataW H) = .agg ((List.range 38).map rowD) := by kernel_rfl
theorem trod_bit {H : Type} {enc : TypeId × Value → H} {w : World} {base : Nat} {sp : Nat → Bool} {held : Bool} {m : Nat} {cs : List Value} {y : DataW H × List MemPlace} {b : Bool}
    (h : DataW.trod enc Tryz.prog w base sp held m 4 cs = some y) (e : y.1 = .lit (.bool b)) : cs = [.bool b] := by
  obtain ⟨c, rfl, rfl⟩ := DataW.trod_bool Tryz.underlying4 h
  simpa using e
theorem of_laid_i {W : World} {g0 : Nat} {t0 : TypeId} {cs0 : Array Value} {f0 : Nat} {p0 : List MemPlace} (hg0 : Tryz.prog.globalNamed "muntin/inst.fieldsByOp" = some g0) (ht0 : (Tryz.prog.globals[g0]?).map (·.type) = some t0) (hv0 : W.var? Tryz.prog "muntin/inst.fieldsByOp" = some cs0)
    (hd0 : DataW.trod (fun _ => ()) Tryz.prog W 0 (fun _ => true) false f0 t0 cs0.toList = some (Rows.laid_muntin_inst_fieldsByOp, p0)) : I2.Tab W := by
  obtain rfl := Option.some.inj (gTabI.symm.trans hg0)
  obtain rfl := Option.some.inj (tTabI.symm.trans ht0)
  have c5 : Tryz.prog.cellsOf 265 = 5 := by kernel_rfl
  obtain ⟨xs, m, rfl, hx, hlen, hn, hel⟩ := DataW.trod_array Tryz.underlying299 hd0
  rw [laid_rows] at hx
  simp only [Prod.mk.injEq, DataW.agg.injEq] at hx
  intro k hk j hj
  have hy := hel k hk
  have hxk : xs[k]? = some (xs[k]'(by omega)) := List.getElem?_eq_getElem (by omega)
  rw [hxk, c5] at hy
  have hrow : (xs[k]'(by omega)).1 = rowD k := by
    have h1 := congrArg (fun l => l[k]?) hx.1
    simp only [List.getElem?_map, hxk, Option.map_some, List.getElem?_range hk] at h1
    exact (Option.some.inj h1).symm
  obtain ⟨zs, m2, _, hz, hl2, hn2, hf⟩ := DataW.trod_struct Tryz.underlying265 hy
  rw [hz] at hrow
  simp only [rowD, DataW.agg.injEq] at hrow
  match zs, hn2, hrow, hf with
  | [z0, z1, z2, z3, z4], _, hrow, hf =>
    simp only [List.map_cons, List.map_nil, List.cons.injEq, and_true] at hrow
    obtain ⟨r0, r1, r2, r3, r4⟩ := hrow
    have cb : Tryz.prog.cellsOf 4 = 1 := by kernel_rfl
    rw [World.var?_cell hg0 hv0]
    have q0 := trod_bit (hf 0 _ rfl) r0
    have q1 := trod_bit (hf 1 _ rfl) r1
    have q2 := trod_bit (hf 2 _ rfl) r2
    have q3 := trod_bit (hf 3 _ rfl) r3
    have q4 := trod_bit (hf 4 _ rfl) r4
    change (((cs0.toList.drop (k * 5)).take 5).drop 0).take (Tryz.prog.cellsOf 4) = _ at q0
    rw [cb] at q0
    change (((cs0.toList.drop (k * 5)).take 5).drop 1).take (Tryz.prog.cellsOf 4) = _ at q1
    rw [cb] at q1
    change (((cs0.toList.drop (k * 5)).take 5).drop 2).take (Tryz.prog.cellsOf 4) = _ at q2
    rw [cb] at q2
    change (((cs0.toList.drop (k * 5)).take 5).drop 3).take (Tryz.prog.cellsOf 4) = _ at q3
    rw [cb] at q3
    change (((cs0.toList.drop (k * 5)).take 5).drop 4).take (Tryz.prog.cellsOf 4) = _ at q4
    rw [cb] at q4
    have pick : ∀ (i : Nat) (v : Value), i < 5 → (((cs0.toList.drop (k * 5)).take 5).drop i).take 1 = [v] → cs0[k * 5 + i]? = some v := by
      intro i v hi h
      have h1 := congrArg (fun l => l[0]?) h
      simp only [List.getElem?_take, List.getElem?_drop] at h1
      rw [if_pos (by omega), if_pos (by omega)] at h1
      simpa using h1
    rcases (by omega : j = 0 ∨ j = 1 ∨ j = 2 ∨ j = 3 ∨ j = 4) with rfl | rfl | rfl | rfl | rfl
    · exact pick 0 _ (by decide) q0
    · exact pick 1 _ (by decide) q1
    · exact pick 2 _ (by decide) q2
    · exact pick 3 _ (by decide) q3
    · exact pick 4 _ (by decide) q4

theorem of_laid {W : World} (h : laidMetH Tryz.prog laidTab W) : Tabs W := by
  rw [MakeChecks.laidMetH_plain _ _ _ (by kernel_rfl)] at h
  obtain ⟨ps, ⟨g0, t0, cs0, f0, p0, q0, hg0, ht0, hv0, hd0, ⟨g1, t1, cs1, f1, p1, q1, hg1, ht1, hv1, hd1, _, _⟩, _⟩, _, _⟩ := h
  exact ⟨of_laid_p hg0 ht0 hv0 hd0, of_laid_i hg1 ht1 hv1 hd1⟩
/-! Where a machine begins, by value. -/
end Go.Proofs.YtiobgnelhiadbaaGreatDoor.K6
namespace Go.Proofs.YtiobgnelhiadbaaGreatDoor.K6
open Go.ChangeShapes Go.WideShapes Go.ChangeAt Go.WideMaps Go.WideElems Go.RowKit Go.Deep
set_option linter.unusedVariables false
theorem o_u8 {n : Int} (h : (Lit.int .u8 n).wf = true) : P4.Byte n := by
  simp only [Lit.wf, Bool.and_eq_true, decide_eq_true_eq] at h
  simp [IntKind.min, IntKind.max, IntKind.bits, IntKind.signed] at h
  unfold P4.Byte
  omega
theorem o_u32 {n : Int} (h : (Lit.int .u32 n).wf = true) : W32 n := by
  simp only [Lit.wf, Bool.and_eq_true, decide_eq_true_eq] at h
  simp [IntKind.min, IntKind.max, IntKind.bits, IntKind.signed] at h
  unfold W32
  omega
/-- Words that came in. -/
theorem o_words {H : Type} {enc : TypeId × Value → H} {w : World} {base : Nat} {spare : Nat → Bool} {held : Bool} {fuel : Nat} {cs : List Value} {x : DataW H × List MemPlace}
    (hf : DataW.trod enc Tryz.prog w base spare held fuel 25 cs = some x) : ∃ v n h, cs = [v] ∧ SlP w v n h ∧ ∀ i, W32 (h i) := by
  rcases open_ints Tryz.underlying25 Tryz.underlying22 (by kernel_rfl) hf with ⟨rfl, _⟩ | ⟨a, len, cap, zs, rfl, _, hl, hm, hz, _, hc, hw⟩
  · exact ⟨_, 0, fun _ => 0, rfl, .inl ⟨rfl, rfl⟩, fun _ => (⟨by decide, by decide⟩ : W32 0)⟩
  · have hlz : len ≤ zs.length := by rw [hz]; split <;> omega
    refine ⟨_, len, fun i => zs.getD i 0, rfl, .inr ⟨a, cap, rfl, fun hn => ?_⟩, fun i => ?_⟩
    · obtain ⟨ab, ao, asp⟩ := a
      have h0 := hc 0 (by omega)
      have hs : asp = none := by
        cases asp with
        | none => rfl
        | some y =>
          exfalso
          simp only [Addr.add, World.cell?] at h0
          split at h0 <;> simp at h0
      subst hs
      exact ⟨ab, ao, rfl, fun i hi => by have := hc i (by omega); rw [add_at] at this; exact this⟩
    · by_cases hi : i < zs.length
      · have : zs.getD i 0 = zs[i] := by simp [List.getD, List.getElem?_eq_getElem hi]
        simp only [this]
        exact o_u32 (hw _ (List.getElem_mem hi))
      · have : zs.getD i 0 = 0 := by simp [List.getD, List.getElem?_eq_none (by omega : zs.length ≤ i)]
        simp only [this]
        exact ⟨by decide, by decide⟩
theorem o_u16 {n : Int} (h : (Lit.int .u16 n).wf = true) : 0 ≤ n ∧ n < 65536 := by
  simp only [Lit.wf, Bool.and_eq_true, decide_eq_true_eq] at h
  simp [IntKind.min, IntKind.max, IntKind.bits, IntKind.signed] at h
  omega
/-- Halves that came in. -/
theorem o_halves {H : Type} {enc : TypeId × Value → H} {w : World} {base : Nat} {spare : Nat → Bool} {held : Bool} {fuel : Nat} {cs : List Value} {x : DataW H × List MemPlace}
    (hf : DataW.trod enc Tryz.prog w base spare held fuel 49 cs = some x) : ∃ v n h, cs = [v] ∧ Sl .u16 w v n h ∧ ∀ i, 0 ≤ h i ∧ h i < 65536 := by
  rcases open_ints Tryz.underlying49 Tryz.underlying51 (by kernel_rfl) hf with ⟨rfl, _⟩ | ⟨a, len, cap, zs, rfl, _, hl, hm, hz, _, hc, hw⟩
  · exact ⟨_, 0, fun _ => 0, rfl, ⟨none, 0, rfl, fun h => absurd h (Nat.lt_irrefl _)⟩, fun _ => ⟨Int.le_refl _, by show (0 : Int) < 65536; decide⟩⟩
  · have hlz : len ≤ zs.length := by rw [hz]; split <;> omega
    refine ⟨_, len, fun i => zs.getD i 0, rfl, ⟨_, _, rfl, fun hn => ?_⟩, fun i => ?_⟩
    · obtain ⟨ab, ao, asp⟩ := a
      have h0 := hc 0 (by omega)
      have hs : asp = none := by
        cases asp with
        | none => rfl
        | some y =>
          exfalso
          simp only [Addr.add, World.cell?] at h0
          split at h0 <;> simp at h0
      subst hs
      exact ⟨ab, ao, rfl, fun i hi => by have := hc i (by omega); rw [add_at] at this; exact this⟩
    · by_cases hi : i < zs.length
      · have : zs.getD i 0 = zs[i] := by simp [List.getD, List.getElem?_eq_getElem hi]
        simp only [this]
        exact o_u16 (hw _ (List.getElem_mem hi))
      · have : zs.getD i 0 = 0 := by simp [List.getD, List.getElem?_eq_none (by omega : zs.length ≤ i)]
        simp only [this]
        exact ⟨by decide, by decide⟩
end Go.Proofs.YtiobgnelhiadbaaGreatDoor.K6
namespace Go.Proofs.YtiobgnelhiadbaaGreatDoor.S10
open Go.ChangeShapes Go.WideShapes Go.ChangeAt Go.WideMaps Go.WideElems Go.RowKit Go.Deep
open K6
set_option linter.unusedVariables false
theorem array20 {α : Type} {cs : Array α} (h : cs.size = 20) : ∃ c0 c1 c2 c3 c4 c5 c6 c7 c8 c9 c10 c11 c12 c13 c14 c15 c16 c17 c18 c19, cs = #[c0, c1, c2, c3, c4, c5, c6, c7, c8, c9, c10, c11, c12, c13, c14, c15, c16, c17, c18, c19] := by
  obtain ⟨l⟩ := cs
  match l, h with
  | [c0, c1, c2, c3, c4, c5, c6, c7, c8, c9, c10, c11, c12, c13, c14, c15, c16, c17, c18, c19], _ => exact ⟨c0, c1, c2, c3, c4, c5, c6, c7, c8, c9, c10, c11, c12, c13, c14, c15, c16, c17, c18, c19, rfl⟩
def pick4 {α : Type} (a b c d : α) (i : Nat) : α := if i = 0 then a else if i = 1 then b else if i = 2 then c else d
theorem pick4_all {α : Type} {a b c d : α} {p : α → Prop} (ha : p a) (hb : p b) (hc : p c) (hd : p d) (i : Nat) : p (pick4 a b c d i) := by
  unfold pick4
  split
  · exact ha
  · split
    · exact hb
    · split
      · exact hc
      · exact hd
set_option maxRecDepth 100000 in
/-- A case that came in. -/
theorem open_zcase {H : Type} {enc : TypeId × Value → H} {w : World} {r : Go.Reach} {b0 : Nat} {v : Value} {d : DataW H} {p : List MemPlace}
    (hv : Value.okWide Tryz.prog w r b0 54 v) (h : DataW.Trod enc Tryz.prog w 0 (fun _ => true) true 54 v d p) :
    ∃ (s : TC) (vr vf : Value), v = .agg (zrow s vr vf) ∧ TCAt w s vr vf ∧ TCB s := by
  obtain ⟨cs, rfl, hsz⟩ := okWide_struct Tryz.underlying54 hv
  obtain ⟨c0, c1, c2, c3, c4, c5, c6, c7, c8, c9, c10, c11, c12, c13, c14, c15, c16, c17, c18, c19, rfl⟩ := array20 (hsz.trans (by kernel_rfl))
  obtain ⟨fuel, hf⟩ := h
  obtain ⟨xs, n, _, hx, _, hlen, hg⟩ := DataW.trod_struct Tryz.underlying54 hf
  match xs, hlen with
  | [y0, y1, y2, y3, y4, y5, y6, y7, y8, y9, y10, y11, y12, y13], _ =>
    have ki : Tryz.prog.cellsOf 3 = 1 := by kernel_rfl
    have ku : Tryz.prog.cellsOf 22 = 1 := by kernel_rfl
    have k8 : Tryz.prog.cellsOf 5 = 1 := by kernel_rfl
    have k16 : Tryz.prog.cellsOf 51 = 1 := by kernel_rfl
    have kw : Tryz.prog.cellsOf 25 = 1 := by kernel_rfl
    have kh : Tryz.prog.cellsOf 49 = 1 := by kernel_rfl
    have kb : Tryz.prog.cellsOf 4 = 1 := by kernel_rfl
    have kab : Tryz.prog.cellsOf 50 = 4 := by kernel_rfl
    have kah : Tryz.prog.cellsOf 52 = 4 := by kernel_rfl
    obtain ⟨vr, lr, fr, e3, hr, br⟩ := o_words (hg 3 _ rfl)
    obtain ⟨vf, lf, ff, e4, hf4, bf⟩ := o_halves (hg 4 _ rfl)
    have g7 := hg 7 _ rfl
    have g8 := hg 8 _ rfl
    obtain ⟨a0, e0, _, _⟩ := DataW.trod_int Tryz.underlying3 (hg 0 _ rfl)
    obtain ⟨a1, e1, _, _⟩ := DataW.trod_int Tryz.underlying3 (hg 1 _ rfl)
    obtain ⟨a2, e2, _, _⟩ := DataW.trod_int Tryz.underlying3 (hg 2 _ rfl)
    obtain ⟨a5, e5, _, _⟩ := DataW.trod_int Tryz.underlying3 (hg 5 _ rfl)
    obtain ⟨a6, e6, _, _⟩ := DataW.trod_int Tryz.underlying3 (hg 6 _ rfl)
    obtain ⟨a9, e9, _, g9⟩ := DataW.trod_int Tryz.underlying22 (hg 9 _ rfl)
    obtain ⟨a10, e10, _, g10⟩ := DataW.trod_int Tryz.underlying5 (hg 10 _ rfl)
    obtain ⟨a11, e11, _, g11⟩ := DataW.trod_int Tryz.underlying5 (hg 11 _ rfl)
    obtain ⟨a12, e12, _, g12⟩ := DataW.trod_int Tryz.underlying22 (hg 12 _ rfl)
    obtain ⟨a13, e13, _⟩ := DataW.trod_bool Tryz.underlying4 (hg 13 _ rfl)
    simp [Value.cells, ki, ku, k8, kw, kh, kb] at e0 e1 e2 e3 e4 e5 e6 e9 e10 e11 e12 e13
    simp [Value.cells, kab] at g7
    simp [Value.cells, kah] at g8
    obtain ⟨z0, z1, z2, z3, _, _, p0, p1, p2, p3⟩ := trod_array4 Tryz.underlying50 kb g7
    obtain ⟨t0, t1, t2, t3, _, _, q0, q1, q2, q3⟩ := trod_array4 Tryz.underlying52 k16 g8
    obtain ⟨b0, f0, _⟩ := DataW.trod_bool Tryz.underlying4 p0
    obtain ⟨b1, f1, _⟩ := DataW.trod_bool Tryz.underlying4 p1
    obtain ⟨b2, f2, _⟩ := DataW.trod_bool Tryz.underlying4 p2
    obtain ⟨b3, f3, _⟩ := DataW.trod_bool Tryz.underlying4 p3
    obtain ⟨s0, i0, _, w0⟩ := DataW.trod_int Tryz.underlying51 q0
    obtain ⟨s1, i1, _, w1⟩ := DataW.trod_int Tryz.underlying51 q1
    obtain ⟨s2, i2, _, w2⟩ := DataW.trod_int Tryz.underlying51 q2
    obtain ⟨s3, i3, _, w3⟩ := DataW.trod_int Tryz.underlying51 q3
    simp at f0 f1 f2 f3 i0 i1 i2 i3
    subst e0 e1 e2 e3 e4 e5 e6 e9 e10 e11 e12 e13 f0 f1 f2 f3 i0 i1 i2 i3
    exact ⟨⟨a0, a1, a2, lr, fr, lf, ff, a5, a6, pick4 b0 b1 b2 b3, pick4 s0 s1 s2 s3, a9, a10, a11, a12, a13⟩, _, _, rfl, ⟨hr.sl, hf4⟩, ⟨br, bf, pick4_all (p := fun n => 0 ≤ n ∧ n < 65536) (o_u16 w0) (o_u16 w1) (o_u16 w2) (o_u16 w3), o_u32 g9, o_u8 g10, o_u8 g11, o_u32 g12⟩⟩
end Go.Proofs.YtiobgnelhiadbaaGreatDoor.S10
