/- Plain arithmetic for the document's answer of layer 1: its loops bit by bit and shift by shift come to what WordMath says. What the document's answer of layer 1 (its Do) comes to: the same plain arithmetic of WordMath as the program's. What calls of word.Flags and word.Holds, and the document's answers of the same names, come to: the plain arithmetic of WordMath. -/
import Derived.Test.YtiobgnelhiadbaaGreatDoorXBaseG
import Derived.Test.YtiobgnelhiadbaaGreatDoorXWordGO
namespace Go.Proofs.YtiobgnelhiadbaaGreatDoor.W1
open Go.RowKit
def bz (op : Int) (x y : Int) : Int := if op = 5 then x * y else if op = 6 then max x y else (x + y) % 2
theorem two_pow_pos (k : Nat) : (0 : Int) < 2 ^ k := Int.pow_pos (by decide)
theorem div_pow_succ (a j : Nat) : a / 2 ^ (j + 1) = a / 2 ^ j / 2 := by
  rw [Nat.div_div_eq_div_mul, ← Nat.pow_succ]
end Go.Proofs.YtiobgnelhiadbaaGreatDoor.W1
namespace Go.Proofs.YtiobgnelhiadbaaGreatDoor.W1
open Go.RowKit
set_option linter.unusedVariables false
/-! The document's Do. -/
end Go.Proofs.YtiobgnelhiadbaaGreatDoor.W1
namespace Go.Proofs.YtiobgnelhiadbaaGreatDoor.W1
open Go.RowKit
set_option linter.unusedVariables false
theorem when_any (p : Bool) (k : Int) (w : World) :
    Calls Tryz.prog 296 #[.bool p, .int .u8 k] w fun e w' => e = .returned (.int .u8 (wh p k)) ∧ w = w' := by
  cases p
  · go_enter Tryz.func296, Tryz.ntmps296
    go_wp2
    go_ret
    exact ⟨rfl, rfl⟩
  · go_enter Tryz.func296, Tryz.ntmps296
    go_wp2
    go_ret
    exact ⟨rfl, rfl⟩
theorem combine_any (b n : Nat) (xs : List Int) (w : World) (hl : (n : Int) ≤ 1000) (hc : ∀ k, k < n → w.cell? ⟨b, k, none⟩ = some (.int .u8 (xs.getD k 0))) :
    Calls Tryz.prog 295 #[.slice (some ⟨b, 0, none⟩) n n] w fun e w' => e = .returned (.int .u8 (orTo xs n)) ∧ w = w' := by
  have HC : Hid (∀ k, k < n → w.cell? ⟨b, k, none⟩ = some (.int .u8 (xs.getD k 0))) := hc
  clear hc
  go_enter Tryz.func295, Tryz.ntmps295
  go_wp2
  go_loop [3, 8] (fun t i => ∃ k : Nat, k ≤ n ∧ i = .int .i64 (k : Int) ∧ t = .int .u8 (orTo xs k)) (fun _ i => n - (intOf i).toNat)
  case atStart => exact ⟨0, Nat.zero_le _, rfl, rfl⟩
  case round =>
    obtain ⟨k, hk, rfl, rfl⟩ := hrel
    by_cases hlt : k < n
    · have hcell : w.cell? ⟨b, k, none⟩ = some (.int .u8 (xs.getD k 0)) := HC.out k hlt
      have H : Hid (orTo xs (k + 1) = bits .or .u8 (orTo xs k) (xs.getD k 0)) := by unfold Hid; rfl
      generalize xs.getD k 0 = x at hcell H
      go_wp2
      refine ⟨⟨k + 1, by omega, rfl, ?_⟩, ?_⟩
      · rw [H.out]
      · simp only [intOf]; omega
    · have hkn : k = n := by omega
      subst hkn
      go_wp2
      go_ret
      exact ⟨rfl, rfl⟩
theorem combine4 (p q r s : Bool) (w : World) :
    Calls Tryz.prog 295 #[.slice (some ⟨w.heap.size, 0, none⟩) 4 4] (w.alloc (.cells #[.int .u8 (wh p 8), .int .u8 (wh q 4), .int .u8 (wh r 2), .int .u8 (wh s 1)] 5))
      fun e w' => e = .returned (.int .u8 (8 * tr p + 4 * tr q + 2 * tr r + tr s)) ∧ w.alloc (.cells #[.int .u8 (wh p 8), .int .u8 (wh q 4), .int .u8 (wh r 2), .int .u8 (wh s 1)] 5) = w' := by
  rw [← orTo_4]
  refine combine_any w.heap.size 4 _ _ (by decide) ?_
  intro k hk
  rw [cell_of_row _ _ _ _ _ _ (heap_alloc_last _ _)]
  rcases (by omega : k = 0 ∨ k = 1 ∨ k = 2 ∨ k = 3) with rfl | rfl | rfl | rfl <;> rfl
theorem flags_any (a b : Int) (w : World) (ha : 0 ≤ a ∧ a < 4294967296) (hb : 0 ≤ b ∧ b < 4294967296) :
    Calls Tryz.prog 264 #[.int .u32 a, .int .u32 b] w fun e w' => e = .returned (.int .u8 (fl a b)) ∧ Grown w w' := by
  have b1 := wrap32_bd a
  have b2 := wrap32_bd b
  have b3 := wrap32_bd ((a - b) % 4294967296)
  go_enter Tryz.func264, Tryz.ntmps264
  go_wp2_with (first | (go_at_call 296; refine (when_any _ _ _).mono ?_; rintro e w1 ⟨rfl, rfl⟩) | (go_at_call 295; refine (combine4 _ _ _ _ _).mono ?_; rintro e w1 ⟨rfl, rfl⟩))
  go_ret
  exact ⟨rfl, (Grown.refl _).alloc _ _⟩
/-! Conditions. -/
theorem hv_no (c f : Int) (h : 7 ≤ c) : hv c f = false := by
  unfold hv
  repeat' rw [if_neg (by omega)]
theorem holds0 (f : Int) (w : World) (hf : 0 ≤ f ∧ f ≤ 255) :
    Calls Tryz.prog 266 #[.int .u8 0, .int .u8 f] w fun e w' => e = .returned (.bool (hv 0 f)) ∧ w = w' := by
  have e8 := and8 f hf
  have e4 := and4 f hf
  have e2 := and2 f hf
  have e1 := and1 f hf
  go_enter Tryz.func266, Tryz.ntmps266
  go_wp2
  go_ret
  exact ⟨rfl, rfl⟩
theorem holds1 (f : Int) (w : World) (hf : 0 ≤ f ∧ f ≤ 255) :
    Calls Tryz.prog 266 #[.int .u8 1, .int .u8 f] w fun e w' => e = .returned (.bool (hv 1 f)) ∧ w = w' := by
  have e8 := and8 f hf
  have e4 := and4 f hf
  have e2 := and2 f hf
  have e1 := and1 f hf
  go_enter Tryz.func266, Tryz.ntmps266
  go_wp2
  go_ret
  exact ⟨rfl, rfl⟩
theorem holds2 (f : Int) (w : World) (hf : 0 ≤ f ∧ f ≤ 255) :
    Calls Tryz.prog 266 #[.int .u8 2, .int .u8 f] w fun e w' => e = .returned (.bool (hv 2 f)) ∧ w = w' := by
  have e8 := and8 f hf
  have e4 := and4 f hf
  have e2 := and2 f hf
  have e1 := and1 f hf
  go_enter Tryz.func266, Tryz.ntmps266
  go_wp2
  go_ret
  exact ⟨rfl, rfl⟩
theorem holds3 (f : Int) (w : World) (hf : 0 ≤ f ∧ f ≤ 255) :
    Calls Tryz.prog 266 #[.int .u8 3, .int .u8 f] w fun e w' => e = .returned (.bool (hv 3 f)) ∧ w = w' := by
  have e8 := and8 f hf
  have e4 := and4 f hf
  have e2 := and2 f hf
  have e1 := and1 f hf
  go_enter Tryz.func266, Tryz.ntmps266
  go_wp2
  go_ret
  exact ⟨rfl, rfl⟩
theorem holds4 (f : Int) (w : World) (hf : 0 ≤ f ∧ f ≤ 255) :
    Calls Tryz.prog 266 #[.int .u8 4, .int .u8 f] w fun e w' => e = .returned (.bool (hv 4 f)) ∧ w = w' := by
  have e8 := and8 f hf
  have e4 := and4 f hf
  have e2 := and2 f hf
  have e1 := and1 f hf
  go_enter Tryz.func266, Tryz.ntmps266
  go_wp2
  go_ret
  exact ⟨rfl, rfl⟩
theorem holds5 (f : Int) (w : World) (hf : 0 ≤ f ∧ f ≤ 255) :
    Calls Tryz.prog 266 #[.int .u8 5, .int .u8 f] w fun e w' => e = .returned (.bool (hv 5 f)) ∧ w = w' := by
  have e8 := and8 f hf
  have e4 := and4 f hf
  have e2 := and2 f hf
  have e1 := and1 f hf
  go_enter Tryz.func266, Tryz.ntmps266
  go_wp2
  go_ret
  exact ⟨rfl, rfl⟩
theorem holds6 (f : Int) (w : World) (hf : 0 ≤ f ∧ f ≤ 255) :
    Calls Tryz.prog 266 #[.int .u8 6, .int .u8 f] w fun e w' => e = .returned (.bool (hv 6 f)) ∧ w = w' := by
  have e8 := and8 f hf
  have e4 := and4 f hf
  have e2 := and2 f hf
  have e1 := and1 f hf
  go_enter Tryz.func266, Tryz.ntmps266
  go_wp2
  go_ret
  exact ⟨rfl, rfl⟩
theorem holds_none (c f : Int) (w : World) (hc : 7 ≤ c ∧ c ≤ 255) :
    Calls Tryz.prog 266 #[.int .u8 c, .int .u8 f] w fun e w' => e = .returned (.bool false) ∧ w = w' := by
  go_enter Tryz.func266, Tryz.ntmps266
  go_wp2
  go_ret
  exact ⟨rfl, rfl⟩
/-- What Holds comes to, whatever the condition and the flags. -/
theorem holds_any (c f : Int) (w : World) (hc : 0 ≤ c ∧ c ≤ 255) (hf : 0 ≤ f ∧ f ≤ 255) :
    Calls Tryz.prog 266 #[.int .u8 c, .int .u8 f] w fun e w' => e = .returned (.bool (hv c f)) ∧ w = w' := by
  by_cases h7 : 7 ≤ c
  · rw [hv_no c f h7]; exact holds_none c f w ⟨h7, hc.2⟩
  have hcases : c = 0 ∨ c = 1 ∨ c = 2 ∨ c = 3 ∨ c = 4 ∨ c = 5 ∨ c = 6 := by omega
  clear h7 hc
  rcases hcases with rfl | rfl | rfl | rfl | rfl | rfl | rfl
  · exact holds0 f w hf
  · exact holds1 f w hf
  · exact holds2 f w hf
  · exact holds3 f w hf
  · exact holds4 f w hf
  · exact holds5 f w hf
  · exact holds6 f w hf
end Go.Proofs.YtiobgnelhiadbaaGreatDoor.W1
