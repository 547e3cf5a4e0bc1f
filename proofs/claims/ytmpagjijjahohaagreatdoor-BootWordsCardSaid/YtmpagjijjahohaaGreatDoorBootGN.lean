/- boot (layer 11): the document's Types and Zeros. -/
import Derived.Test.YtmpagjijjahohaaGreatDoorBootGM
namespace Go.Proofs.YtmpagjijjahohaaGreatDoor.B11
open Go.RowKit
set_option linter.unusedVariables false
set_option maxHeartbeats 4000000 in
theorem types_at (k : Nat) (hk : k < 32) (w : World) : Calls Tryz.prog 17 #[.int .i64 (k : Int)] w fun e w' => e = .returned (.bool (hasH k)) ∧ w = w' := by
  rcases (by omega : k = 0 ∨ k = 1 ∨ k = 2 ∨ k = 3 ∨ k = 4 ∨ k = 5 ∨ k = 6 ∨ k = 7 ∨ k = 8 ∨ k = 9 ∨ k = 10 ∨ k = 11 ∨ k = 12 ∨ k = 13 ∨ k = 14 ∨ k = 15 ∨ k = 16 ∨ k = 17 ∨ k = 18 ∨ k = 19 ∨ k = 20 ∨ k = 21 ∨ k = 22 ∨ k = 23 ∨ k = 24 ∨ k = 25 ∨ k = 26 ∨ k = 27 ∨ k = 28 ∨ k = 29 ∨ k = 30 ∨ k = 31) with rfl | rfl | rfl | rfl | rfl | rfl | rfl | rfl | rfl | rfl | rfl | rfl | rfl | rfl | rfl | rfl | rfl | rfl | rfl | rfl | rfl | rfl | rfl | rfl | rfl | rfl | rfl | rfl | rfl | rfl | rfl | rfl
  all_goals
    go_enter Tryz.func17, Tryz.ntmps17
    go_wp2_with fail
    go_ret
    exact ⟨rfl, rfl⟩
theorem zeros_of (g m c : Nat) (h : 64 ≤ m) (w : World) (hz : ∀ i, i < 64 → w.cell? ⟨g, i, none⟩ = some (.int .u32 0)) : Calls Tryz.prog 15 #[.slice (some ⟨g, 0, none⟩) m c, .int .i64 64] w fun e w' => e = .returned (.bool true) ∧ w = w' := by
  have HZ := Lib.hid hz
  clear hz
  go_enter Tryz.func15, Tryz.ntmps15
  go_wp2_with fail
  go_loopw [5] (fun i wr => ∃ k : Nat, k ≤ 64 ∧ i = .int .i64 k ∧ w = wr) (fun i _ => (64 - intOf i).toNat)
  case atStart => exact ⟨0, by decide, rfl, rfl⟩
  case round =>
    obtain ⟨k, hk, rfl, rfl⟩ := hrel
    by_cases hlt : k < 64
    · have hlt' : (k : Int) < 64 := by omega
      have hlt2 : (k : Int) < (m : Int) := by omega
      have hd : decide ((k : Int) ≥ (m : Int)) = false := decide_eq_false (by omega)
      have c0 := HZ.out k hlt
      go_wp2_with fail
      go_roundw
      case rel => exact ⟨k + 1, by omega, by first | rfl | simp⟩
      case measure => simp only [intOf]; omega
    · obtain rfl : k = 64 := by omega
      go_wp2_with fail
      go_ret
      exact ⟨rfl, rfl⟩
end Go.Proofs.YtmpagjijjahohaaGreatDoor.B11
