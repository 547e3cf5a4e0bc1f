/- What a row's condition gives the walks of layer 8: a case opened whole, a slice of words. -/
import Derived.Test.YtiobgnelhiadbaaGreatDoorXWindGW
import Derived.Test.YtiobgnelhiadbaaGreatDoorXMachGO
import Derived.Deep.Slices
import Derived.WideKeyArgs
namespace Go.Proofs.YtiobgnelhiadbaaGreatDoor.K6
open Go.ChangeShapes Go.WideShapes Go.ChangeAt Go.WideMaps Go.WideElems Go.RowKit Go.Deep
set_option linter.unusedVariables false
theorem o_u8 {n : Int} (h : (Lit.int .u8 n).wf = true) : P4.Byte n := by
  simp only [Lit.wf, Bool.and_eq_true, decide_eq_true_eq] at h
  simp [IntKind.min, IntKind.max, IntKind.bits, IntKind.signed] at h
  unfold P4.Byte
  omega
theorem o_u32 {n : Int} (h : (Lit.int .u32 n).wf = true) : W32 n := by
  simp only [Lit.wf, Bool.and_eq_true, decide_eq_true_eq] at h
  simp [IntKind.min, IntKind.max, IntKind.bits, IntKind.signed] at h
  unfold W32
  omega
/-- Words that came in. -/
theorem o_words {H : Type} {enc : TypeId × Value → H} {w : World} {base : Nat} {spare : Nat → Bool} {held : Bool} {fuel : Nat} {cs : List Value} {x : DataW H × List MemPlace}
    (hf : DataW.trod enc Tryz.prog w base spare held fuel 25 cs = some x) : ∃ v n h, cs = [v] ∧ SlP w v n h ∧ ∀ i, W32 (h i) := by
  rcases open_ints Tryz.underlying25 Tryz.underlying22 (by kernel_rfl) hf with ⟨rfl, _⟩ | ⟨a, len, cap, zs, rfl, _, hl, hm, hz, _, hc, hw⟩
  · exact ⟨_, 0, fun _ => 0, rfl, .inl ⟨rfl, rfl⟩, fun _ => (⟨by decide, by decide⟩ : W32 0)⟩
  · have hlz : len ≤ zs.length := by rw [hz]; split <;> omega
    refine ⟨_, len, fun i => zs.getD i 0, rfl, .inr ⟨a, cap, rfl, fun hn => ?_⟩, fun i => ?_⟩
    · obtain ⟨ab, ao, asp⟩ := a
      have h0 := hc 0 (by omega)
      have hs : asp = none := by
        cases asp with
        | none => rfl
        | some y =>
          exfalso
          simp only [Addr.add, World.cell?] at h0
          split at h0 <;> simp at h0
      subst hs
      exact ⟨ab, ao, rfl, fun i hi => by have := hc i (by omega); rw [add_at] at this; exact this⟩
    · by_cases hi : i < zs.length
      · have : zs.getD i 0 = zs[i] := by simp [List.getD, List.getElem?_eq_getElem hi]
        simp only [this]
        exact o_u32 (hw _ (List.getElem_mem hi))
      · have : zs.getD i 0 = 0 := by simp [List.getD, List.getElem?_eq_none (by omega : zs.length ≤ i)]
        simp only [this]
        exact ⟨by decide, by decide⟩
theorem o_u16 {n : Int} (h : (Lit.int .u16 n).wf = true) : 0 ≤ n ∧ n < 65536 := by
  simp only [Lit.wf, Bool.and_eq_true, decide_eq_true_eq] at h
  simp [IntKind.min, IntKind.max, IntKind.bits, IntKind.signed] at h
  omega
/-- Halves that came in. -/
theorem o_halves {H : Type} {enc : TypeId × Value → H} {w : World} {base : Nat} {spare : Nat → Bool} {held : Bool} {fuel : Nat} {cs : List Value} {x : DataW H × List MemPlace}
    (hf : DataW.trod enc Tryz.prog w base spare held fuel 49 cs = some x) : ∃ v n h, cs = [v] ∧ Sl .u16 w v n h ∧ ∀ i, 0 ≤ h i ∧ h i < 65536 := by
  rcases open_ints Tryz.underlying49 Tryz.underlying51 (by kernel_rfl) hf with ⟨rfl, _⟩ | ⟨a, len, cap, zs, rfl, _, hl, hm, hz, _, hc, hw⟩
  · exact ⟨_, 0, fun _ => 0, rfl, ⟨none, 0, rfl, fun h => absurd h (Nat.lt_irrefl _)⟩, fun _ => ⟨Int.le_refl _, by show (0 : Int) < 65536; decide⟩⟩
  · have hlz : len ≤ zs.length := by rw [hz]; split <;> omega
    refine ⟨_, len, fun i => zs.getD i 0, rfl, ⟨_, _, rfl, fun hn => ?_⟩, fun i => ?_⟩
    · obtain ⟨ab, ao, asp⟩ := a
      have h0 := hc 0 (by omega)
      have hs : asp = none := by
        cases asp with
        | none => rfl
        | some y =>
          exfalso
          simp only [Addr.add, World.cell?] at h0
          split at h0 <;> simp at h0
      subst hs
      exact ⟨ab, ao, rfl, fun i hi => by have := hc i (by omega); rw [add_at] at this; exact this⟩
    · by_cases hi : i < zs.length
      · have : zs.getD i 0 = zs[i] := by simp [List.getD, List.getElem?_eq_getElem hi]
        simp only [this]
        exact o_u16 (hw _ (List.getElem_mem hi))
      · have : zs.getD i 0 = 0 := by simp [List.getD, List.getElem?_eq_none (by omega : zs.length ≤ i)]
        simp only [this]
        exact ⟨by decide, by decide⟩
end Go.Proofs.YtiobgnelhiadbaaGreatDoor.K6
