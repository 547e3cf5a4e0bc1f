/- Numbers that came in: a slice of ints, opened. -/
import Derived.Test.YtmpagjijjahohaaGreatDoorTickGOp
import Derived.Test.YtmpagjijjahohaaGreatDoorBaseG
namespace Go.Proofs.YtmpagjijjahohaaGreatDoor.T9
open Go.ChangeShapes Go.WideShapes Go.ChangeAt Go.WideMaps Go.WideElems Go.RowKit
set_option linter.unusedVariables false
set_option maxRecDepth 100000 in
theorem open_nums {H : Type} {enc : TypeId × Value → H} {w : World} {base : Nat} {spare : Nat → Bool} {held : Bool} {r : Reach} {b0 : Nat} {v : Value} {d : DataW H} {q : List MemPlace}
    (hv : Value.okWide Tryz.prog w r b0 22 v) (h : DataW.Trod enc Tryz.prog w base spare held 22 v d q) :
    ∃ (N : Nat) (L : Nat → Int), Sl .i64 w v N L := by
  obtain ⟨a0, len0, cap0, rfl⟩ := okWide_slice Tryz.underlying22 hv
  obtain ⟨fuel, hf⟩ := h
  have h0 : (Value.slice a0 len0 cap0).cells.toList = [Value.slice a0 len0 cap0] := rfl
  rw [h0] at hf
  rcases open_ints Tryz.underlying22 Tryz.underlying3 (by kernel_rfl) hf with ⟨e, _⟩ | ⟨a, len, cap, zs, e, _, hl, hm, hz, _, hc, hw⟩
  · cases e
    exact ⟨0, fun _ => 0, ⟨_, _, rfl, fun h => absurd h (Nat.lt_irrefl _)⟩⟩
  · cases e
    have hlz : len0 ≤ zs.length := by rw [hz]; split <;> omega
    refine ⟨len0, fun i => zs.getD i 0, ⟨_, _, rfl, fun hn => ?_⟩⟩
    obtain ⟨ab, ao, asp⟩ := a
    have h0 := hc 0 (by omega)
    have hs : asp = none := by
      cases asp with
      | none => rfl
      | some y =>
        exfalso
        simp only [Addr.add, World.cell?] at h0
        split at h0 <;> simp at h0
    subst hs
    refine ⟨ab, ao, rfl, fun i hi => ?_⟩
    have h1 := hc i (by omega)
    rw [add_at] at h1
    exact h1
end Go.Proofs.YtmpagjijjahohaaGreatDoor.T9
