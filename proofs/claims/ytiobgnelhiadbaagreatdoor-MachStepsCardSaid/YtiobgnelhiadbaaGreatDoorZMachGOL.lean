/- Levels that came in: a slice of bytes, opened. -/
import Derived.Test.YtiobgnelhiadbaaGreatDoorZMachGO
import Derived.Test.YtiobgnelhiadbaaGreatDoorZBaseG
namespace Go.Proofs.YtiobgnelhiadbaaGreatDoor.K6
open Go.ChangeShapes Go.WideShapes Go.ChangeAt Go.WideMaps Go.WideElems Go.RowKit
set_option linter.unusedVariables false
theorem t_u8 {n : Int} (h : (Lit.int .u8 n).wf = true) : 0 ≤ n ∧ n < 256 := by
  simp only [Lit.wf, Bool.and_eq_true, decide_eq_true_eq] at h
  simp [IntKind.min, IntKind.max, IntKind.bits, IntKind.signed] at h
  omega
set_option maxRecDepth 100000 in
/-- Levels that came in. -/
theorem open_levels {H : Type} {enc : TypeId × Value → H} {w : World} {base : Nat} {spare : Nat → Bool} {held : Bool} {r : Reach} {b0 : Nat} {v : Value} {d : DataW H} {q : List MemPlace}
    (hv : Value.okWide Tryz.prog w r b0 29 v) (h : DataW.Trod enc Tryz.prog w base spare held 29 v d q) :
    ∃ (N : Nat) (L : Nat → Nat), Sl .u8 w v N (fun i => (L i : Int)) ∧ ∀ i, L i < 256 := by
  obtain ⟨a0, len0, cap0, rfl⟩ := okWide_slice Tryz.underlying29 hv
  obtain ⟨fuel, hf⟩ := h
  have h0 : (Value.slice a0 len0 cap0).cells.toList = [Value.slice a0 len0 cap0] := rfl
  rw [h0] at hf
  rcases open_ints Tryz.underlying29 Tryz.underlying5 (by kernel_rfl) hf with ⟨e, _⟩ | ⟨a, len, cap, zs, e, _, hl, hm, hz, _, hc, hw⟩
  · cases e
    exact ⟨0, fun _ => 0, ⟨_, _, rfl, fun h => absurd h (Nat.lt_irrefl _)⟩, fun _ => (by decide : 0 < 256)⟩
  · cases e
    have hlz : len0 ≤ zs.length := by rw [hz]; split <;> omega
    have hb : ∀ i, 0 ≤ zs.getD i 0 ∧ zs.getD i 0 < 256 := fun i => by
      by_cases hi : i < zs.length
      · have : zs.getD i 0 = zs[i] := by simp [List.getD, List.getElem?_eq_getElem hi]
        rw [this]
        exact t_u8 (hw _ (List.getElem_mem hi))
      · have : zs.getD i 0 = 0 := by simp [List.getD, List.getElem?_eq_none (by omega : zs.length ≤ i)]
        rw [this]
        exact ⟨by decide, by decide⟩
    refine ⟨len0, fun i => (zs.getD i 0).toNat, ⟨_, _, rfl, fun hn => ?_⟩, fun i => by have := hb i; show (zs.getD i 0).toNat < 256; omega⟩
    obtain ⟨ab, ao, asp⟩ := a
    have h0 := hc 0 (by omega)
    have hs : asp = none := by
      cases asp with
      | none => rfl
      | some y =>
        exfalso
        simp only [Addr.add, World.cell?] at h0
        split at h0 <;> simp at h0
    subst hs
    refine ⟨ab, ao, rfl, fun i hi => ?_⟩
    have h1 := hc i (by omega)
    rw [add_at] at h1
    have e := Int.toNat_of_nonneg (hb i).1
    show _ = some (Value.int .u8 (((zs.getD i 0).toNat : Nat) : Int))
    rw [e]
    exact h1
end Go.Proofs.YtiobgnelhiadbaaGreatDoor.K6
