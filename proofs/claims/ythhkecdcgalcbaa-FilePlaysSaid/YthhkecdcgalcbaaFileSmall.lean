/- What the small functions of package file come to, for any arguments. -/
import Derived.Test.YthhkecdcgalcbaaFileWorld
import Derived.Deep.RegionWith
import Derived.BigQuiet
import Derived.Deep.QuietTactic
namespace Go.Proofs.Ythhkecdcgalcbaa
open Go.RowKit
set_option linter.unusedVariables false

theorem below_in (x n : Int) (w : World) (h0 : 0 ≤ x) (h1 : x < n) : Calls Try.prog 28 #[.int .i64 x, .int .i64 n] w fun e w' => e = .returned (.bool true) ∧ w = w' := by
  go_enter Try.func28, Try.ntmps28
  go_wp2
  go_ret
  exact ⟨rfl, rfl⟩
theorem below_out (x n : Int) (w : World) (h : x < 0 ∨ n ≤ x) : Calls Try.prog 28 #[.int .i64 x, .int .i64 n] w fun e w' => e = .returned (.bool false) ∧ w = w' := by
  by_cases h0 : x < 0
  · have h1 : ¬ 0 ≤ x := by omega
    go_enter Try.func28, Try.ntmps28
    go_wp2
    go_ret
    exact ⟨rfl, rfl⟩
  · have h1 : 0 ≤ x := by omega
    have h2 : ¬ x < n := by omega
    go_enter Try.func28, Try.ntmps28
    go_wp2
    go_ret
    exact ⟨rfl, rfl⟩
theorem isObject_nil (w : World) : Calls Try.prog 22 #[.pointer none] w fun e w' => e = .returned (.bool false) ∧ w = w' := by
  go_enter Try.func22, Try.ntmps22
  go_wp2
  go_ret
  exact ⟨rfl, rfl⟩
theorem isObject_zero (b : Nat) (w : World) (hc : w.cell? ⟨b, 0, none⟩ = some (.int .i64 0)) : Calls Try.prog 22 #[.pointer (some ⟨b, 0, none⟩)] w fun e w' => e = .returned (.bool false) ∧ w = w' := by
  go_enter Try.func22, Try.ntmps22
  go_wp2
  go_ret
  exact ⟨rfl, rfl⟩
theorem isObject_no (p : Option Addr) (w : World) (h : NoFile w p) : Calls Try.prog 22 #[.pointer p] w fun e w' => e = .returned (.bool false) ∧ w = w' := by
  rcases h with rfl | ⟨b, rfl, hc⟩
  · exact isObject_nil w
  · exact isObject_zero b w hc
theorem isObject_yes (b : Nat) (n : Int) (w : World) (hc : w.cell? ⟨b, 0, none⟩ = some (.int .i64 n)) (hn : 2 ≤ n) : Calls Try.prog 22 #[.pointer (some ⟨b, 0, none⟩)] w fun e w' => e = .returned (.bool true) ∧ w = w' := by
  have h0 : (n != 0) = true := by simp; omega
  go_enter Try.func22, Try.ntmps22
  go_wp2
  go_ret
  exact ⟨rfl, rfl⟩
theorem check_no (p : Option Addr) (x : Int) (w : World) (h : NoFile w p) : Calls Try.prog 23 #[.pointer p, .int .i64 x] w fun e w' => e = .returned (.int .i64 1) ∧ w = w' := by
  go_enter Try.func23, Try.ntmps23
  go_wp2_with fail
  refine (isObject_no _ _ h).mono ?_; rintro e w1 ⟨rfl, rfl⟩
  go_wp2_with fail
  go_ret
  exact ⟨rfl, rfl⟩
theorem check_in (b : Nat) (n x : Int) (w : World) (hc : w.cell? ⟨b, 0, none⟩ = some (.int .i64 n)) (hn : 2 ≤ n) (h0 : 0 ≤ x) (h1 : x < n) : Calls Try.prog 23 #[.pointer (some ⟨b, 0, none⟩), .int .i64 x] w fun e w' => e = .returned (.int .i64 0) ∧ w = w' := by
  go_enter Try.func23, Try.ntmps23
  go_wp2_with fail
  refine (isObject_yes _ n _ hc hn).mono ?_; rintro e w1 ⟨rfl, rfl⟩
  go_wp2_with fail
  refine (below_in _ _ _ h0 h1).mono ?_; rintro e w1 ⟨rfl, rfl⟩
  go_wp2_with fail
  go_ret
  exact ⟨rfl, rfl⟩
theorem check_out (b : Nat) (n x : Int) (w : World) (hc : w.cell? ⟨b, 0, none⟩ = some (.int .i64 n)) (hn : 2 ≤ n) (h : x < 0 ∨ n ≤ x) : Calls Try.prog 23 #[.pointer (some ⟨b, 0, none⟩), .int .i64 x] w fun e w' => e = .returned (.int .i64 2) ∧ w = w' := by
  go_enter Try.func23, Try.ntmps23
  go_wp2_with fail
  refine (isObject_yes _ n _ hc hn).mono ?_; rintro e w1 ⟨rfl, rfl⟩
  go_wp2_with fail
  refine (below_out _ _ _ h).mono ?_; rintro e w1 ⟨rfl, rfl⟩
  go_wp2_with fail
  go_ret
  exact ⟨rfl, rfl⟩
theorem before_zero (b : Nat) (n : Int) (w : World) (hc : w.cell? ⟨b, 0, none⟩ = some (.int .i64 n)) (hn : 2 ≤ n) (hn' : n ≤ 32) : Calls Try.prog 31 #[.pointer (some ⟨b, 0, none⟩), .int .i64 0] w fun e w' => e = .returned (.int .i64 (n - 1)) ∧ w = w' := by
  go_enter Try.func31, Try.ntmps31
  go_wp2
  go_ret
  exact ⟨rfl, rfl⟩
theorem before_more (b : Nat) (x : Int) (w : World) (h0 : 1 ≤ x) (h1 : x < 32) : Calls Try.prog 31 #[.pointer (some ⟨b, 0, none⟩), .int .i64 x] w fun e w' => e = .returned (.int .i64 (x - 1)) ∧ w = w' := by
  have hx : ¬ x = 0 := by omega
  go_enter Try.func31, Try.ntmps31
  go_wp2
  go_ret
  exact ⟨rfl, rfl⟩
/-! A register's location, of the block in which the file lies; 'o' is the place of the window, or of the bank. -/
theorem ptr_eq {b o o' : Nat} (h : o = o') : Ending.returned (.pointer (some ⟨b, o, none⟩)) = Ending.returned (.pointer (some ⟨b, o', none⟩)) := by rw [h]
theorem own_any (b o : Nat) (r : Int) (w : World) (h0 : 16 ≤ r) (h1 : r < 32) : Calls Try.prog 33 #[.pointer (some ⟨b, o, none⟩), .int .i64 r] w fun e w' => e = .returned (.pointer (some ⟨b, o + (r - 16).toNat, none⟩)) ∧ w = w' := by
  go_enter Try.func33, Try.ntmps33
  go_wp2
  go_ret
  exact ⟨ptr_eq (by omega), rfl⟩
theorem out_any (b o : Nat) (r : Int) (w : World) (h0 : 8 ≤ r) (h1 : r < 16) : Calls Try.prog 32 #[.pointer (some ⟨b, o, none⟩), .int .i64 r] w fun e w' => e = .returned (.pointer (some ⟨b, o + r.toNat, none⟩)) ∧ w = w' := by
  go_enter Try.func32, Try.ntmps32
  go_wp2
  go_ret
  exact ⟨ptr_eq (by omega), rfl⟩
theorem global_any (b o : Nat) (r : Int) (w : World) (h0 : 0 ≤ r) (h1 : r < 8) : Calls Try.prog 30 #[.pointer (some ⟨b, o, none⟩), .int .i64 r] w fun e w' => e = .returned (.pointer (some ⟨b, o + r.toNat, none⟩)) ∧ w = w' := by
  go_enter Try.func30, Try.ntmps30
  go_wp2
  go_ret
  exact ⟨ptr_eq (by omega), rfl⟩
end Go.Proofs.Ythhkecdcgalcbaa
