/- What a row's condition gives the walks of layer 8: a case opened whole, a slice of words. -/
import Derived.Test.YtlmaikbnjdmhcaaGreatDoorTuW
import Derived.Test.YtlmaikbnjdmhcaaGreatDoorMachGO
import Derived.Deep.Slices
import Derived.WideKeyArgs
namespace Go.Proofs.YtlmaikbnjdmhcaaGreatDoor.K6
open Go.ChangeShapes Go.WideShapes Go.ChangeAt Go.WideMaps Go.WideElems Go.RowKit Go.Deep
set_option linter.unusedVariables false
theorem o_u8 {n : Int} (h : (Lit.int .u8 n).wf = true) : P4.Byte n := by
  simp only [Lit.wf, Bool.and_eq_true, decide_eq_true_eq] at h
  simp [IntKind.min, IntKind.max, IntKind.bits, IntKind.signed] at h
  unfold P4.Byte
  omega
theorem o_u32 {n : Int} (h : (Lit.int .u32 n).wf = true) : W32 n := by
  simp only [Lit.wf, Bool.and_eq_true, decide_eq_true_eq] at h
  simp [IntKind.min, IntKind.max, IntKind.bits, IntKind.signed] at h
  unfold W32
  omega
/-- Words that came in. -/
theorem o_words {H : Type} {enc : TypeId × Value → H} {w : World} {base : Nat} {spare : Nat → Bool} {held : Bool} {fuel : Nat} {cs : List Value} {x : DataW H × List MemPlace}
    (hf : DataW.trod enc Tryz.prog w base spare held fuel 25 cs = some x) : ∃ v n h, cs = [v] ∧ SlP w v n h ∧ ∀ i, W32 (h i) := by
  rcases open_ints Tryz.underlying25 Tryz.underlying22 (by kernel_rfl) hf with ⟨rfl, _⟩ | ⟨a, len, cap, zs, rfl, _, hl, hm, hz, _, hc, hw⟩
  · exact ⟨_, 0, fun _ => 0, rfl, .inl ⟨rfl, rfl⟩, fun _ => (⟨by decide, by decide⟩ : W32 0)⟩
  · have hlz : len ≤ zs.length := by rw [hz]; split <;> omega
    refine ⟨_, len, fun i => zs.getD i 0, rfl, .inr ⟨a, cap, rfl, fun hn => ?_⟩, fun i => ?_⟩
    · obtain ⟨ab, ao, asp⟩ := a
      have h0 := hc 0 (by omega)
      have hs : asp = none := by
        cases asp with
        | none => rfl
        | some y =>
          exfalso
          simp only [Addr.add, World.cell?] at h0
          split at h0 <;> simp at h0
      subst hs
      exact ⟨ab, ao, rfl, fun i hi => by have := hc i (by omega); rw [add_at] at this; exact this⟩
    · by_cases hi : i < zs.length
      · have : zs.getD i 0 = zs[i] := by simp [List.getD, List.getElem?_eq_getElem hi]
        simp only [this]
        exact o_u32 (hw _ (List.getElem_mem hi))
      · have : zs.getD i 0 = 0 := by simp [List.getD, List.getElem?_eq_none (by omega : zs.length ≤ i)]
        simp only [this]
        exact ⟨by decide, by decide⟩
theorem o_u16 {n : Int} (h : (Lit.int .u16 n).wf = true) : 0 ≤ n ∧ n < 65536 := by
  simp only [Lit.wf, Bool.and_eq_true, decide_eq_true_eq] at h
  simp [IntKind.min, IntKind.max, IntKind.bits, IntKind.signed] at h
  omega
theorem array9 {α : Type} {cs : Array α} (h : cs.size = 9) : ∃ c0 c1 c2 c3 c4 c5 c6 c7 c8, cs = #[c0, c1, c2, c3, c4, c5, c6, c7, c8] := by
  obtain ⟨l⟩ := cs
  match l, h with
  | [c0, c1, c2, c3, c4, c5, c6, c7, c8], _ => exact ⟨c0, c1, c2, c3, c4, c5, c6, c7, c8, rfl⟩
/-- Halves that came in. -/
theorem o_halves {H : Type} {enc : TypeId × Value → H} {w : World} {base : Nat} {spare : Nat → Bool} {held : Bool} {fuel : Nat} {cs : List Value} {x : DataW H × List MemPlace}
    (hf : DataW.trod enc Tryz.prog w base spare held fuel 67 cs = some x) : ∃ v n h, cs = [v] ∧ Sl .u16 w v n h ∧ ∀ i, 0 ≤ h i ∧ h i < 65536 := by
  rcases open_ints Tryz.underlying67 Tryz.underlying144 (by kernel_rfl) hf with ⟨rfl, _⟩ | ⟨a, len, cap, zs, rfl, _, hl, hm, hz, _, hc, hw⟩
  · exact ⟨_, 0, fun _ => 0, rfl, ⟨none, 0, rfl, fun h => absurd h (Nat.lt_irrefl _)⟩, fun _ => ⟨Int.le_refl _, by show (0 : Int) < 65536; decide⟩⟩
  · have hlz : len ≤ zs.length := by rw [hz]; split <;> omega
    refine ⟨_, len, fun i => zs.getD i 0, rfl, ⟨_, _, rfl, fun hn => ?_⟩, fun i => ?_⟩
    · obtain ⟨ab, ao, asp⟩ := a
      have h0 := hc 0 (by omega)
      have hs : asp = none := by
        cases asp with
        | none => rfl
        | some y =>
          exfalso
          simp only [Addr.add, World.cell?] at h0
          split at h0 <;> simp at h0
      subst hs
      exact ⟨ab, ao, rfl, fun i hi => by have := hc i (by omega); rw [add_at] at this; exact this⟩
    · by_cases hi : i < zs.length
      · have : zs.getD i 0 = zs[i] := by simp [List.getD, List.getElem?_eq_getElem hi]
        simp only [this]
        exact o_u16 (hw _ (List.getElem_mem hi))
      · have : zs.getD i 0 = 0 := by simp [List.getD, List.getElem?_eq_none (by omega : zs.length ≤ i)]
        simp only [this]
        exact ⟨by decide, by decide⟩
set_option maxRecDepth 100000 in
/-- A case that came in. -/
theorem open_case {H : Type} {enc : TypeId × Value → H} {w : World} {r : Go.Reach} {b0 : Nat} {v : Value} {d : DataW H} {p : List MemPlace}
    (hv : Value.okWide Tryz.prog w r b0 69 v) (h : DataW.Trod enc Tryz.prog w 0 (fun _ => true) true 69 v d p) :
    ∃ (s : CS) (vr vf vg : Value), v = .agg (crow s vr vf vg) ∧ CaseAt w s vr vf vg ∧ CSB s := by
  obtain ⟨cs, rfl, hsz⟩ := okWide_struct Tryz.underlying69 hv
  obtain ⟨c0, c1, c2, c3, c4, c5, c6, c7, c8, rfl⟩ := array9 (hsz.trans (by kernel_rfl))
  obtain ⟨fuel, hf⟩ := h
  obtain ⟨xs, n, _, hx, _, hlen, hg⟩ := DataW.trod_struct Tryz.underlying69 hf
  match xs, hlen with
  | [y0, y1, y2, y3, y4, y5, y6, y7, y8], _ =>
    have ki : Tryz.prog.cellsOf 3 = 1 := by kernel_rfl
    have ku : Tryz.prog.cellsOf 22 = 1 := by kernel_rfl
    have k8 : Tryz.prog.cellsOf 5 = 1 := by kernel_rfl
    have kw : Tryz.prog.cellsOf 25 = 1 := by kernel_rfl
    have kh : Tryz.prog.cellsOf 67 = 1 := by kernel_rfl
    have kb : Tryz.prog.cellsOf 4 = 1 := by kernel_rfl
    obtain ⟨vr, lr, fr, e2, hr, br⟩ := o_words (hg 2 _ rfl)
    obtain ⟨vf, lf, ff, e3, hf3, bf⟩ := o_halves (hg 3 _ rfl)
    obtain ⟨vg, lg, fg, e6, hg6, bg⟩ := o_words (hg 6 _ rfl)
    obtain ⟨a0, e0, _, _⟩ := DataW.trod_int Tryz.underlying3 (hg 0 _ rfl)
    obtain ⟨a1, e1, _, _⟩ := DataW.trod_int Tryz.underlying3 (hg 1 _ rfl)
    obtain ⟨a4, e4, _, g4⟩ := DataW.trod_int Tryz.underlying5 (hg 4 _ rfl)
    obtain ⟨a5, e5, _, g5⟩ := DataW.trod_int Tryz.underlying5 (hg 5 _ rfl)
    obtain ⟨a7, e7, _, g7⟩ := DataW.trod_int Tryz.underlying22 (hg 7 _ rfl)
    obtain ⟨a8, e8, _⟩ := DataW.trod_bool Tryz.underlying4 (hg 8 _ rfl)
    simp [Value.cells, ki, ku, k8, kw, kh, kb] at e0 e1 e2 e3 e4 e5 e6 e7 e8
    subst e0 e1 e2 e3 e4 e5 e6 e7 e8
    exact ⟨⟨a0, a1, lr, fr, lf, ff, a4, a5, lg, fg, a7, a8⟩, _, _, _, rfl, ⟨hr.sl, hf3, hg6.sl⟩, ⟨br, bf, o_u8 g4, o_u8 g5, bg, o_u32 g7⟩⟩
set_option maxRecDepth 100000 in
/-- Words that came in. -/
theorem open_words {H : Type} {enc : TypeId × Value → H} {w : World} {base : Nat} {spare : Nat → Bool} {held : Bool} {r : Go.Reach} {b0 : Nat} {v : Value} {d : DataW H} {q : List MemPlace}
    (hv : Value.okWide Tryz.prog w r b0 25 v) (h : DataW.Trod enc Tryz.prog w base spare held 25 v d q) :
    ∃ (N : Nat) (L : Nat → Int), Sl .u32 w v N L ∧ ∀ i, W32 (L i) := by
  obtain ⟨a0, len0, cap0, rfl⟩ := okWide_slice Tryz.underlying25 hv
  obtain ⟨fuel, hf⟩ := h
  have h0 : (Value.slice a0 len0 cap0).cells.toList = [Value.slice a0 len0 cap0] := rfl
  rw [h0] at hf
  obtain ⟨v, n, L, e, hs, hb⟩ := o_words hf
  obtain rfl : Value.slice a0 len0 cap0 = v := by simpa using e
  exact ⟨n, L, hs.sl, hb⟩
end Go.Proofs.YtlmaikbnjdmhcaaGreatDoor.K6
