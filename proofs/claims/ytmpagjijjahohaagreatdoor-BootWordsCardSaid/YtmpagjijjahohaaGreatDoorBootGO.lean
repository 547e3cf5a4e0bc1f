/- boot (layer 11): the document's Leads. -/
import Derived.Test.YtmpagjijjahohaaGreatDoorBootGN
namespace Go.Proofs.YtmpagjijjahohaaGreatDoor.B11
open Go.RowKit
set_option linter.unusedVariables false
set_option maxHeartbeats 8000000 in
theorem leads_yes (g c k : Nat) (hk : k = 1 ∨ k = 2 ∨ k = 3 ∨ k = 4 ∨ k = 17 ∨ k = 18 ∨ k = 19 ∨ k = 20 ∨ k = 21 ∨ k = 22 ∨ k = 23 ∨ k = 24 ∨ k = 25 ∨ k = 26 ∨ k = 27 ∨ k = 28 ∨ k = 29 ∨ k = 30 ∨ k = 31) (w : World) (hc : ∀ j, j < 4 → w.cell? ⟨g, 64 + 4 * k + j, none⟩ = some (.int .u32 (vW (4 * k + j)))) : Calls Tryz.prog 16 #[.slice (some ⟨g, 0, none⟩) 405 c, .int .i64 (k : Int)] w fun e w' => e = .returned (.tuple #[.int .u32 (256 + 4 * (tgt k : Int)), .bool true]) ∧ w = w' := by
  have C := Lib.hid (fun W => types_at k (by omega) W)
  have c0 := hc 0 (by decide)
  have c1 := hc 1 (by decide)
  have c2 := hc 2 (by decide)
  have c3 := hc 3 (by decide)
  clear hc
  rcases hk with rfl | rfl | rfl | rfl | rfl | rfl | rfl | rfl | rfl | rfl | rfl | rfl | rfl | rfl | rfl | rfl | rfl | rfl | rfl
  all_goals
    simp [vW, hasH, tgt] at c0 c1 c2 c3
    go_enter Tryz.func16, Tryz.ntmps16
    go_wp2_with fail
    refine (C.out _).mono ?_; rintro e w1 ⟨rfl, rfl⟩
    simp only [hasH]
    go_wp2_with fail
    go_ret2
    exact ⟨rfl, rfl⟩
set_option maxHeartbeats 8000000 in
theorem leads_no (g c k : Nat) (hk : k = 0 ∨ k = 5 ∨ k = 6 ∨ k = 7 ∨ k = 8 ∨ k = 9 ∨ k = 10 ∨ k = 11 ∨ k = 12 ∨ k = 13 ∨ k = 14 ∨ k = 15 ∨ k = 16) (w : World) (hc : ∀ W, Below w.heap.size w W → ∀ j, j < 4 → W.cell? ⟨g, 64 + 4 * k + j, none⟩ = some (.int .u32 (vW (4 * k + j)))) : Calls Tryz.prog 16 #[.slice (some ⟨g, 0, none⟩) 405 c, .int .i64 (k : Int)] w fun e w' => e = .returned (.tuple #[.int .u32 0, .bool true]) ∧ Below w.heap.size w w' := by
  have C := Lib.hid (fun W => types_at k (by omega) W)
  have GD : Hid (Below w.heap.size w w.drew) := Below.drew (Below.refl _ _)
  have c0 := hc w (Below.refl _ _) 0 (by decide)
  have c1 := hc w (Below.refl _ _) 1 (by decide)
  have c2 := hc w (Below.refl _ _) 2 (by decide)
  have c3 := hc w (Below.refl _ _) 3 (by decide)
  have D0 := hc w.drew GD.out 0 (by decide)
  clear hc
  rcases hk with rfl | rfl | rfl | rfl | rfl | rfl | rfl | rfl | rfl | rfl | rfl | rfl | rfl
  all_goals
    simp [vW, hasH] at c0 c1 c2 c3
    simp only [vW, hasH, Nat.reduceMul, Nat.reduceAdd] at D0
    go_enter Tryz.func16, Tryz.ntmps16
    go_wp2_with fail
    refine (C.out _).mono ?_; rintro e w1 ⟨rfl, rfl⟩
    simp only [hasH]
    go_upto_region 5 with (fail)
    go_region
    all_goals
      go_wp2_with fail
      go_ret2
      exact ⟨rfl, GD.out⟩
end Go.Proofs.YtmpagjijjahohaaGreatDoor.B11
