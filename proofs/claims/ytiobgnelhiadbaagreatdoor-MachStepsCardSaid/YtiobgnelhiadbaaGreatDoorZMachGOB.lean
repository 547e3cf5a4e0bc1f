/- What a row's condition gives the walks of layer 6 that want a whole start: its words, registers, choices, and the bounds of all. -/
import Derived.Test.YtiobgnelhiadbaaGreatDoorZMachGMm
import Derived.Test.YtiobgnelhiadbaaGreatDoorZMachGO
import Derived.Deep.Slices
import Derived.WideKeyArgs
namespace Go.Proofs.YtiobgnelhiadbaaGreatDoor.K6
open Go.ChangeShapes Go.WideShapes Go.ChangeAt Go.WideMaps Go.WideElems Go.RowKit Go.Deep
set_option linter.unusedVariables false
theorem o_u8 {n : Int} (h : (Lit.int .u8 n).wf = true) : P4.Byte n := by
  simp only [Lit.wf, Bool.and_eq_true, decide_eq_true_eq] at h
  simp [IntKind.min, IntKind.max, IntKind.bits, IntKind.signed] at h
  unfold P4.Byte
  omega
theorem o_u32 {n : Int} (h : (Lit.int .u32 n).wf = true) : W32 n := by
  simp only [Lit.wf, Bool.and_eq_true, decide_eq_true_eq] at h
  simp [IntKind.min, IntKind.max, IntKind.bits, IntKind.signed] at h
  unfold W32
  omega
theorem o_four {α : Type} {l : List α} (h : l.length = 4) : ∃ a b c d, l = [a, b, c, d] := by
  match l, h with
  | [a, b, c, d], _ => exact ⟨a, b, c, d, rfl⟩
theorem o_spot {w : World} {ab ao n : Nat} {asp : Option Nat} {v : Value} (h : w.cell? (((⟨ab, ao, asp⟩ : Addr).add (0 * n)).add 0) = some v) : asp = none := by
  cases asp with
  | none => rfl
  | some y =>
    exfalso
    simp only [Nat.zero_mul, Addr.add, World.cell?] at h
    split at h <;> simp at h
/-- Words that came in. -/
theorem o_words {H : Type} {enc : TypeId × Value → H} {w : World} {base : Nat} {spare : Nat → Bool} {held : Bool} {fuel : Nat} {cs : List Value} {x : DataW H × List MemPlace}
    (hf : DataW.trod enc Tryz.prog w base spare held fuel 25 cs = some x) : ∃ v n h, cs = [v] ∧ SlP w v n h ∧ ∀ i, W32 (h i) := by
  rcases open_ints Tryz.underlying25 Tryz.underlying22 (by kernel_rfl) hf with ⟨rfl, _⟩ | ⟨a, len, cap, zs, rfl, _, hl, hm, hz, _, hc, hw⟩
  · exact ⟨_, 0, fun _ => 0, rfl, .inl ⟨rfl, rfl⟩, fun _ => (⟨by decide, by decide⟩ : W32 0)⟩
  · have hlz : len ≤ zs.length := by rw [hz]; split <;> omega
    refine ⟨_, len, fun i => zs.getD i 0, rfl, .inr ⟨a, cap, rfl, fun hn => ?_⟩, fun i => ?_⟩
    · obtain ⟨ab, ao, asp⟩ := a
      have h0 := hc 0 (by omega)
      have hs : asp = none := by
        cases asp with
        | none => rfl
        | some y =>
          exfalso
          simp only [Addr.add, World.cell?] at h0
          split at h0 <;> simp at h0
      subst hs
      exact ⟨ab, ao, rfl, fun i hi => by have := hc i (by omega); rw [add_at] at this; exact this⟩
    · by_cases hi : i < zs.length
      · have : zs.getD i 0 = zs[i] := by simp [List.getD, List.getElem?_eq_getElem hi]
        simp only [this]
        exact o_u32 (hw _ (List.getElem_mem hi))
      · have : zs.getD i 0 = 0 := by simp [List.getD, List.getElem?_eq_none (by omega : zs.length ≤ i)]
        simp only [this]
        exact ⟨by decide, by decide⟩
instance : Inhabited RG := ⟨⟨0, 0, 0, 0⟩⟩
theorem o_reg {H : Type} {enc : TypeId × Value → H} {w : World} {base : Nat} {spare : Nat → Bool} {held : Bool} {fuel : Nat} {c0 c1 c2 c3 : Value} {z : DataW H × List MemPlace}
    (hf : DataW.trod enc Tryz.prog w base spare held fuel 124 [c0, c1, c2, c3] = some z) : ∃ a : RG, c0 = .int .i64 a.x ∧ c1 = .int .i64 a.k ∧ c2 = .int .i64 a.r ∧ c3 = .int .u32 a.v ∧ W32 a.v := by
  obtain ⟨xs, n, _, hx, _, hlen, hg⟩ := DataW.trod_struct Tryz.underlying124 hf
  match xs, hlen with
  | [y0, y1, y2, y3], _ =>
    have ki : Tryz.prog.cellsOf 3 = 1 := by kernel_rfl
    have ku : Tryz.prog.cellsOf 22 = 1 := by kernel_rfl
    obtain ⟨a0, e0, _, _⟩ := DataW.trod_int Tryz.underlying3 (hg 0 _ rfl)
    obtain ⟨a1, e1, _, _⟩ := DataW.trod_int Tryz.underlying3 (hg 1 _ rfl)
    obtain ⟨a2, e2, _, _⟩ := DataW.trod_int Tryz.underlying3 (hg 2 _ rfl)
    obtain ⟨a3, e3, _, g3⟩ := DataW.trod_int Tryz.underlying22 (hg 3 _ rfl)
    simp [ki, ku] at e0 e1 e2 e3
    exact ⟨⟨a0, a1, a2, a3⟩, e0, e1, e2, e3, o_u32 g3⟩
set_option maxRecDepth 100000 in
/-- Registers that came in. -/
theorem o_regs {H : Type} {enc : TypeId × Value → H} {w : World} {fuel : Nat} {cs : List Value} {z : DataW H × List MemPlace}
    (hf : DataW.trod enc Tryz.prog w 0 (fun _ => true) true fuel 26 cs = some z) : ∃ v n A, cs = [v] ∧ Rgs w v n A ∧ ∀ i, i < n → W32 (A i).v := by
  have hcel : Tryz.prog.cellsOf 124 = 4 := by kernel_rfl
  rcases open_slice Tryz.underlying26 hf with ⟨rfl, _⟩ | ⟨a, len, cap, m, n, D, Pl, rfl, _, hl, _, hm, hx, hi⟩
  · exact ⟨_, 0, fun _ => default, rfl, ⟨none, 0, rfl, fun h => absurd h (Nat.lt_irrefl 0)⟩, fun i h => absurd h (Nat.not_lt_zero i)⟩
  · simp only [if_true] at hm
    subst hm
    rw [hcel] at hi
    obtain ⟨ab, ao, asp⟩ := a
    by_cases h0 : len = 0
    · subst h0
      exact ⟨_, 0, fun _ => default, rfl, ⟨_, _, rfl, fun h => absurd h (Nat.lt_irrefl 0)⟩, fun i h => absurd h (Nat.not_lt_zero i)⟩
    obtain ⟨cs0, hc0, _⟩ := hi 0 (by omega)
    obtain ⟨_, hn0, hat0⟩ := World.cells?_some hc0
    obtain ⟨c0, c1, c2, c3, rfl⟩ := o_four hn0
    have hspot : asp = none := o_spot (hat0 0 (by omega))
    subst hspot
    clear hc0 hn0 hat0
    have each : ∀ i, i < len → ∃ x : RG, (w.cell? ⟨ab, ao + i * 4, none⟩ = some (.int .i64 x.x) ∧ w.cell? ⟨ab, ao + i * 4 + 1, none⟩ = some (.int .i64 x.k) ∧ w.cell? ⟨ab, ao + i * 4 + 2, none⟩ = some (.int .i64 x.r) ∧ w.cell? ⟨ab, ao + i * 4 + 3, none⟩ = some (.int .u32 x.v)) ∧ W32 x.v := by
      intro i hlt
      obtain ⟨cs, hc, ht⟩ := hi i (by omega)
      obtain ⟨_, hn, hat⟩ := World.cells?_some hc
      obtain ⟨c0, c1, c2, c3, rfl⟩ := o_four hn
      obtain ⟨x, rfl, rfl, rfl, rfl, hxb⟩ := o_reg ht
      have ad' : ∀ j, ((⟨ab, ao, none⟩ : Addr).add (i * 4)).add j = ⟨ab, ao + i * 4 + j, none⟩ := fun j => by rw [add_at, add_at]
      have e0 := hat 0 (by omega)
      have e1 := hat 1 (by omega)
      have e2 := hat 2 (by omega)
      have e3 := hat 3 (by omega)
      rw [ad'] at e0 e1 e2 e3
      exact ⟨x, ⟨e0, e1, e2, e3⟩, hxb⟩
    obtain ⟨A, hA⟩ := choose_lt each
    exact ⟨_, len, A, rfl, ⟨_, _, rfl, fun _ => ⟨ab, ao, rfl, fun i h => (hA i h).1⟩⟩, fun i h => (hA i h).2⟩
set_option maxRecDepth 100000 in
/-- A start that came in. -/
theorem open_whole {H : Type} {enc : TypeId × Value → H} {w : World} {r : Reach} {b0 : Nat} {v : Value} {d : DataW H} {p : List MemPlace}
    (hv : Value.okWide Tryz.prog w r b0 28 v) (h : DataW.Trod enc Tryz.prog w 0 (fun _ => true) true 28 v d p) :
    ∃ (s : ST) (vw vr vc : Value), v = .agg (srow s vw vr vc) ∧ StAt w s vw vr vc ∧ STB s := by
  obtain ⟨cs, rfl, hsz⟩ := okWide_struct Tryz.underlying28 hv
  obtain ⟨c0, c1, c2, c3, c4, c5, c6, c7, c8, c9, c10, rfl⟩ := array11 (hsz.trans (by kernel_rfl))
  obtain ⟨fuel, hf⟩ := h
  obtain ⟨xs, n, _, hx, _, hlen, hg⟩ := DataW.trod_struct Tryz.underlying28 hf
  match xs, hlen with
  | [y0, y1, y2, y3, y4, y5, y6, y7], _ =>
    have ki : Tryz.prog.cellsOf 3 = 1 := by kernel_rfl
    have ku : Tryz.prog.cellsOf 22 = 1 := by kernel_rfl
    have kp : Tryz.prog.cellsOf 24 = 4 := by kernel_rfl
    have k8 : Tryz.prog.cellsOf 5 = 1 := by kernel_rfl
    have kw : Tryz.prog.cellsOf 25 = 1 := by kernel_rfl
    have kr : Tryz.prog.cellsOf 26 = 1 := by kernel_rfl
    obtain ⟨vw, lw, fw, e5, hw, bw⟩ := o_words (hg 5 _ rfl)
    obtain ⟨vr, lr, A, e6, hr, br⟩ := o_regs (hg 6 _ rfl)
    obtain ⟨vc, lc, fc, e7, hc, bc⟩ := o_words (hg 7 _ rfl)
    obtain ⟨a0, e0, _, _⟩ := DataW.trod_int Tryz.underlying3 (hg 0 _ rfl)
    obtain ⟨a1, e1, _, _⟩ := DataW.trod_int Tryz.underlying3 (hg 1 _ rfl)
    obtain ⟨a2, e2, _, g2⟩ := DataW.trod_int Tryz.underlying22 (hg 2 _ rfl)
    obtain ⟨zs, m, _, hz, _, hlz, hgz⟩ := DataW.trod_struct Tryz.underlying24 (hg 3 _ rfl)
    obtain ⟨a4, e4, _, g4⟩ := DataW.trod_int Tryz.underlying22 (hg 4 _ rfl)
    match zs, hlz with
    | [z0, z1, z2, z3], _ =>
      obtain ⟨p0, f0, _, q0⟩ := DataW.trod_int Tryz.underlying5 (hgz 0 _ rfl)
      obtain ⟨p1, f1, _, q1⟩ := DataW.trod_int Tryz.underlying5 (hgz 1 _ rfl)
      obtain ⟨p2, f2, _, q2⟩ := DataW.trod_int Tryz.underlying5 (hgz 2 _ rfl)
      obtain ⟨p3, f3, _, q3⟩ := DataW.trod_int Tryz.underlying5 (hgz 3 _ rfl)
      simp [Value.cells, ki, ku, kp, k8, kw, kr] at e0 e1 e2 e4 e5 e6 e7 f0 f1 f2 f3
      subst e0 e1 e2 e4 e5 e6 e7 f0 f1 f2 f3
      exact ⟨⟨a0, a1, a2, p0, p1, p2, p3, a4, lw, fw, lr, A, lc, fc⟩, _, _, _, rfl, ⟨hw.sl, hr, hc⟩, ⟨o_u32 g2, o_u8 q0, o_u8 q1, o_u8 q2, o_u8 q3, o_u32 g4, bw, br, bc⟩⟩
end Go.Proofs.YtiobgnelhiadbaaGreatDoor.K6
