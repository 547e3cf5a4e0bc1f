/- Package tick as it has landed: Name, the handlers. -/
import Derived.Test.YtgbodbejcffclaaDoorAsmWords
import Derived.Test.YtgbodbejcffclaaDoorTickX
namespace Go.Proofs.YtgbodbejcffclaaDoor.T9
open Go.RowKit
open A7 (AS AsmB XI XB)
set_option linter.unusedVariables false
/-- A level's mark. -/
def nm (k : Nat) : ByteArray := if k < 10 then ⟨#[116, 105, 99, 107, 48 + k.toUInt8]⟩ else ⟨#[116, 105, 99, 107, 49, 38 + k.toUInt8]⟩
/-- Its digits. -/
def sm (k : Nat) : ByteArray := if k < 10 then ⟨#[48 + k.toUInt8]⟩ else ⟨#[49, 38 + k.toUInt8]⟩
theorem nm_size (k : Nat) : (nm k).size ≤ maxLen := by unfold nm; split <;> exact of_decide_eq_true (by kernel_rfl)
theorem ks {k : Nat} (h1 : 1 ≤ k) (h2 : k ≤ 15) : k = 1 ∨ k = 2 ∨ k = 3 ∨ k = 4 ∨ k = 5 ∨ k = 6 ∨ k = 7 ∨ k = 8 ∨ k = 9 ∨ k = 10 ∨ k = 11 ∨ k = 12 ∨ k = 13 ∨ k = 14 ∨ k = 15 := by omega
theorem isLevel_at (n : Int) (w : World) : Calls Tryd.prog 17 #[.int .i64 n] w fun e w' => e = .returned (.bool (decide (1 ≤ n ∧ n ≤ 15))) ∧ w' = w := by
  by_cases h : 1 ≤ n ∧ n ≤ 15
  · have e : decide (1 ≤ n ∧ n ≤ 15) = true := decide_eq_true h
    rw [e]
    obtain ⟨h1, h2⟩ := h
    go_enter Tryd.func17, Tryd.ntmps17
    go_wp2
    go_ret
    exact ⟨rfl, rfl⟩
  · have e : decide (1 ≤ n ∧ n ≤ 15) = false := decide_eq_false h
    rw [e]
    by_cases h1 : 1 ≤ n
    · have h2 : decide (n ≤ 15) = false := decide_eq_false (by omega)
      clear h e
      go_enter Tryd.func17, Tryd.ntmps17
      go_wp2
      go_ret
      exact ⟨by simp, rfl⟩
    · have h2 : n < 1 := by omega
      clear h e h1
      go_enter Tryd.func17, Tryd.ntmps17
      go_wp2
      go_ret
      exact ⟨rfl, rfl⟩
set_option maxRecDepth 100000 in
theorem small_at (k : Nat) (w : World) (h1 : 1 ≤ k) (h2 : k ≤ 15) : Calls Tryd.prog 33 #[.int .i64 k] w fun e w' => e = .returned (.string (sm k)) ∧ w' = w := by
  rcases ks h1 h2 with rfl | rfl | rfl | rfl | rfl | rfl | rfl | rfl | rfl | rfl | rfl | rfl | rfl | rfl | rfl <;>
  (go_enter Tryd.func33, Tryd.ntmps33
   go_wp2
   go_ret
   exact ⟨by kernel_rfl, rfl⟩)
theorem nm_low {k : Nat} (h1 : 1 ≤ k) (h2 : k ≤ 15) : (⟨#[116, 105, 99, 107]⟩ : ByteArray) ++ sm k = nm k := by
  rcases ks h1 h2 with rfl | rfl | rfl | rfl | rfl | rfl | rfl | rfl | rfl | rfl | rfl | rfl | rfl | rfl | rfl <;> kernel_rfl
theorem FormatInt_at (k : Nat) (w : World) (h1 : 1 ≤ k) (h2 : k ≤ 15) : Calls Tryd.prog 29 #[.int .i64 k, .int .i64 10] w fun e w' => e = .returned (.string (sm k)) ∧ w' = w := by
  have i1 : (0 : Int) ≤ k := by omega
  have i2 : (k : Int) < 100 := by omega
  have C := Lib.hid (small_at k w h1 h2)
  go_enter Tryd.func29, Tryd.ntmps29
  go_wp2_with fail
  refine C.out.mono ?_; rintro e w1 ⟨rfl, rfl⟩
  go_wp2_with fail
  go_ret
  exact ⟨rfl, rfl⟩
theorem iItoa_at (k : Nat) (w : World) (h1 : 1 ≤ k) (h2 : k ≤ 15) : Calls Tryd.prog 27 #[.int .i64 k] w fun e w' => e = .returned (.string (sm k)) ∧ w' = w := by
  have C := Lib.hid (FormatInt_at k w h1 h2)
  go_enter Tryd.func27, Tryd.ntmps27
  go_wp2_with fail
  refine C.out.mono ?_; rintro e w1 ⟨rfl, rfl⟩
  go_wp2_with fail
  go_ret
  exact ⟨rfl, rfl⟩
theorem Itoa_at (k : Nat) (w : World) (h1 : 1 ≤ k) (h2 : k ≤ 15) : Calls Tryd.prog 18 #[.int .i64 k] w fun e w' => e = .returned (.string (sm k)) ∧ w' = w := by
  have C := Lib.hid (iItoa_at k w h1 h2)
  go_enter Tryd.func18, Tryd.ntmps18
  go_wp2_with fail
  refine C.out.mono ?_; rintro e w1 ⟨rfl, rfl⟩
  go_wp2_with fail
  go_ret
  exact ⟨rfl, rfl⟩
theorem Name_at (k : Nat) (w : World) (h1 : 1 ≤ k) (h2 : k ≤ 15) : Calls Tryd.prog 5 #[.int .i64 k] w fun e w' => e = .returned (.string (nm k)) ∧ w' = w := by
  have C := Lib.hid (Itoa_at k w h1 h2)
  have L := Lib.hid (isLevel_at k w)
  have e : decide (1 ≤ (k : Int) ∧ (k : Int) ≤ 15) = true := decide_eq_true (by omega)
  rw [e] at L
  have N := Lib.hid (nm_low h1 h2)
  have hs : ¬ 9223372036854775807 < 4 + (sm k).size := by unfold sm; split <;> exact of_decide_eq_true (by kernel_rfl)
  go_enter Tryd.func5, Tryd.ntmps5
  go_wp2_with fail
  refine L.out.mono ?_; rintro e w1 ⟨rfl, rfl⟩
  go_wp2_with fail
  refine C.out.mono ?_; rintro e w1 ⟨rfl, rfl⟩
  go_wp2_with fail
  rw [N.out]
  go_ret
  exact ⟨rfl, rfl⟩
theorem Name_no (n : Int) (w : World) (h : ¬ (1 ≤ n ∧ n ≤ 15)) : Calls Tryd.prog 5 #[.int .i64 n] w fun e w' => e = .returned (.string ⟨#[]⟩) ∧ w' = w := by
  have L := Lib.hid (isLevel_at n w)
  have e : decide (1 ≤ n ∧ n ≤ 15) = false := decide_eq_false h
  rw [e] at L
  clear h e
  go_enter Tryd.func5, Tryd.ntmps5
  go_wp2_with fail
  refine L.out.mono ?_; rintro e w1 ⟨rfl, rfl⟩
  go_wp2_with fail
  go_ret
  exact ⟨rfl, rfl⟩
/-- The rows of a level's handler. -/
def tRows (k : Int) : List Value := (tX k 0).row ++ (tX k 1).row ++ (tX k 2).row ++ (tX k 3).row
theorem handler_at (k : Nat) (w : World) (h1 : 1 ≤ k) (h2 : k ≤ 15) : Calls Tryd.prog 20 #[.int .i64 k] w fun e w' => e = .returned (.slice (some ⟨w.heap.size, 0, none⟩) 4 4) ∧ w' = w.alloc (.cells (tRows k).toArray 57) := by
  have i1 : (1 : Int) ≤ k := by omega
  have i2 : (k : Int) ≤ 15 := by omega
  go_enter Tryd.func20, Tryd.ntmps20
  go_wp2
  go_ret
  exact ⟨rfl, rfl⟩
end Go.Proofs.YtgbodbejcffclaaDoor.T9
