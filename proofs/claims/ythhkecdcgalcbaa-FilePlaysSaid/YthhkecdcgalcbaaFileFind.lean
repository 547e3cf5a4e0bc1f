/- Where package file finds a register, for any arguments. -/
import Derived.Test.YthhkecdcgalcbaaFileSmall
namespace Go.Proofs.Ythhkecdcgalcbaa
open Go.RowKit
set_option linter.unusedVariables false
theorem fn_eq {f : Fn} {b o o' : Nat} (h : o = o') : Ending.returned (.func f #[.pointer (some ⟨b, o, none⟩)] #[]) = Ending.returned (.func f #[.pointer (some ⟨b, o', none⟩)] #[]) := by rw [h]
theorem home_global (b : Nat) (x k r : Int) (w : World) (h0 : 0 ≤ k) (h1 : k < 17) (hr : r < 8) :
    Calls Try.prog 29 #[.pointer (some ⟨b, 0, none⟩), .int .i64 x, .int .i64 k, .int .i64 r] w fun e w' => e = .returned (.func (.func 30) #[.pointer (some ⟨b, 513 + k.toNat * 8, none⟩)] #[]) ∧ Below w.heap.size w w' := by
  go_enter Try.func29, Try.ntmps29
  go_wp2
  go_ret
  exact ⟨fn_eq (by omega), by go_grown⟩
theorem home_own (b : Nat) (x k r : Int) (w : World) (h0 : 0 ≤ x) (h1 : x < 32) (hr : 16 ≤ r) :
    Calls Try.prog 29 #[.pointer (some ⟨b, 0, none⟩), .int .i64 x, .int .i64 k, .int .i64 r] w fun e w' => e = .returned (.func (.func 33) #[.pointer (some ⟨b, 1 + x.toNat * 16, none⟩)] #[]) ∧ Below w.heap.size w w' := by
  have h8 : ¬ r < 8 := by omega
  have h16 : ¬ r < 16 := by omega
  go_enter Try.func29, Try.ntmps29
  go_wp2
  go_ret
  exact ⟨fn_eq (by omega), by go_grown⟩
theorem home_out (b : Nat) (n x k r y : Int) (w : World) (hc : w.cell? ⟨b, 0, none⟩ = some (.int .i64 n)) (hn : 2 ≤ n) (hn' : n ≤ 32) (h0 : 0 ≤ x) (h1 : x < n) (h8 : 8 ≤ r) (hr : r < 16) (hy0 : 0 ≤ y) (hy1 : y < 32)
    (hb : ∀ W : World, W.cell? ⟨b, 0, none⟩ = some (.int .i64 n) → Calls Try.prog 31 #[.pointer (some ⟨b, 0, none⟩), .int .i64 x] W fun e w' => e = .returned (.int .i64 y) ∧ W = w') :
    Calls Try.prog 29 #[.pointer (some ⟨b, 0, none⟩), .int .i64 x, .int .i64 k, .int .i64 r] w fun e w' => e = .returned (.func (.func 32) #[.pointer (some ⟨b, 1 + y.toNat * 16, none⟩)] #[]) ∧ Below w.heap.size w w' := by
  have h8' : ¬ r < 8 := by omega
  have HB := Lib.hid hb; clear hb
  go_enter Try.func29, Try.ntmps29
  go_wp2_with fail
  go_region_with (go_at_call 31; refine (HB.out _ (by simpa using hc)).mono ?_; rintro e w1 ⟨rfl, rfl⟩)
  all_goals
    go_wp2
    go_ret
    exact ⟨fn_eq (by omega), by go_grown⟩

theorem pair_eq {b o o' : Nat} (h : o = o') : Ending.returned (.tuple #[.pointer (some ⟨b, o, none⟩), .int .i64 0]) = Ending.returned (.tuple #[.pointer (some ⟨b, o', none⟩), .int .i64 0]) := by rw [h]
theorem find_no (p : Option Addr) (x k r : Int) (w : World) (h : NoFile w p) :
    Calls Try.prog 25 #[.pointer p, .int .i64 x, .int .i64 k, .int .i64 r] w fun e w' => e = .returned (.tuple #[.pointer none, .int .i64 1]) ∧ w = w' := by
  go_enter Try.func25, Try.ntmps25
  go_wp2_with fail
  refine (check_no _ _ _ h).mono ?_; rintro e w1 ⟨rfl, rfl⟩
  go_wp2_with fail
  go_ret2
  exact ⟨rfl, rfl⟩
theorem find_bad (b : Nat) (n x k r : Int) (w : World) (hc : w.cell? ⟨b, 0, none⟩ = some (.int .i64 n)) (hn : 2 ≤ n) (h : ¬ Named n x k r) :
    Calls Try.prog 25 #[.pointer (some ⟨b, 0, none⟩), .int .i64 x, .int .i64 k, .int .i64 r] w fun e w' => e = .returned (.tuple #[.pointer none, .int .i64 2]) ∧ w = w' := by
  unfold Named at h
  by_cases hx : x < 0 ∨ n ≤ x
  · clear h
    go_enter Try.func25, Try.ntmps25
    go_wp2_with fail
    refine (check_out _ n _ _ hc hn hx).mono ?_; rintro e w1 ⟨rfl, rfl⟩
    go_wp2_with fail
    go_ret2
    exact ⟨rfl, rfl⟩
  by_cases hk : k < 0 ∨ 17 ≤ k
  · clear h
    have h0 : 0 ≤ x := by omega
    have h1 : x < n := by omega
    clear hx
    go_enter Try.func25, Try.ntmps25
    go_wp2_with fail
    refine (check_in _ n _ _ hc hn h0 h1).mono ?_; rintro e w1 ⟨rfl, rfl⟩
    go_wp2_with fail
    refine (below_out _ _ _ hk).mono ?_; rintro e w1 ⟨rfl, rfl⟩
    go_wp2_with fail
    go_ret2
    exact ⟨rfl, rfl⟩
  · have h0 : 0 ≤ x := by omega
    have h1 : x < n := by omega
    have h2 : 0 ≤ k := by omega
    have h3 : k < 17 := by omega
    have h4 : r < 0 ∨ 32 ≤ r := by omega
    clear h hx hk
    go_enter Try.func25, Try.ntmps25
    go_wp2_with fail
    refine (check_in _ n _ _ hc hn h0 h1).mono ?_; rintro e w1 ⟨rfl, rfl⟩
    go_wp2_with fail
    refine (below_in _ _ _ h2 h3).mono ?_; rintro e w1 ⟨rfl, rfl⟩
    go_wp2_with fail
    refine (below_out _ _ _ h4).mono ?_; rintro e w1 ⟨rfl, rfl⟩
    go_wp2_with fail
    go_ret2
    exact ⟨rfl, rfl⟩
theorem find_at (b : Nat) (n x k r : Int) (w : World) (hc : w.cell? ⟨b, 0, none⟩ = some (.int .i64 n)) (hn : 2 ≤ n) (hn' : n ≤ 32) (h : Named n x k r) :
    Calls Try.prog 25 #[.pointer (some ⟨b, 0, none⟩), .int .i64 x, .int .i64 k, .int .i64 r] w fun e w' => e = .returned (.tuple #[.pointer (some ⟨b, 1 + loc n x k r, none⟩), .int .i64 0]) ∧ Below w.heap.size w w' := by
  obtain ⟨h0, h1, h2, h3, h4, h5⟩ := h
  by_cases h8 : r < 8
  · have HL := Lib.hid (loc_global (n := n) (win := x) (bank := k) h8)
    go_enter Try.func25, Try.ntmps25
    go_wp2_with fail
    refine (check_in _ n _ _ hc hn h0 h1).mono ?_; rintro e w1 ⟨rfl, rfl⟩
    go_wp2_with fail
    refine (below_in _ _ _ h2 h3).mono ?_; rintro e w1 ⟨rfl, rfl⟩
    go_wp2_with fail
    refine (below_in _ _ _ h4 h5).mono ?_; rintro e w1 ⟨rfl, rfl⟩
    go_wp2_with fail
    refine (home_global b x k r _ h2 h3 h8).mono ?_; rintro e w1 ⟨rfl, g1⟩
    go_wp2_with fail
    refine (global_any b _ r _ h4 h8).mono ?_; rintro e w2 ⟨rfl, rfl⟩
    go_wp2_with fail
    go_ret2
    exact ⟨pair_eq (by rw [HL.out]; omega), g1⟩
  by_cases h16 : r < 16
  · have h8' : 8 ≤ r := by omega
    by_cases hz : x = 0
    · subst hz
      have HL := Lib.hid (loc_out0 (n := n) (bank := k) h8' h16)
      go_enter Try.func25, Try.ntmps25
      go_wp2_with fail
      refine (check_in _ n _ _ hc hn h0 h1).mono ?_; rintro e w1 ⟨rfl, rfl⟩
      go_wp2_with fail
      refine (below_in _ _ _ h2 h3).mono ?_; rintro e w1 ⟨rfl, rfl⟩
      go_wp2_with fail
      refine (below_in _ _ _ h4 h5).mono ?_; rintro e w1 ⟨rfl, rfl⟩
      go_wp2_with fail
      refine (home_out b n 0 k r (n - 1) _ hc hn hn' h0 h1 h8' h16 (by omega) (by omega) (fun W hW => before_zero b n W hW hn hn')).mono ?_; rintro e w1 ⟨rfl, g1⟩
      go_wp2_with fail
      refine (out_any b _ r _ h8' h16).mono ?_; rintro e w2 ⟨rfl, rfl⟩
      go_wp2_with fail
      go_ret2
      exact ⟨pair_eq (by rw [HL.out]; omega), g1⟩
    · have HL := Lib.hid (loc_out (n := n) (bank := k) h8' h16 hz)
      have hx : 1 ≤ x := by omega
      clear hz
      go_enter Try.func25, Try.ntmps25
      go_wp2_with fail
      refine (check_in _ n _ _ hc hn h0 h1).mono ?_; rintro e w1 ⟨rfl, rfl⟩
      go_wp2_with fail
      refine (below_in _ _ _ h2 h3).mono ?_; rintro e w1 ⟨rfl, rfl⟩
      go_wp2_with fail
      refine (below_in _ _ _ h4 h5).mono ?_; rintro e w1 ⟨rfl, rfl⟩
      go_wp2_with fail
      refine (home_out b n x k r (x - 1) _ hc hn hn' h0 h1 h8' h16 (by omega) (by omega) (fun W _ => before_more b x W hx (by omega))).mono ?_; rintro e w1 ⟨rfl, g1⟩
      go_wp2_with fail
      refine (out_any b _ r _ h8' h16).mono ?_; rintro e w2 ⟨rfl, rfl⟩
      go_wp2_with fail
      go_ret2
      exact ⟨pair_eq (by rw [HL.out]; omega), g1⟩
  · have h16' : 16 ≤ r := by omega
    have HL := Lib.hid (loc_own (n := n) (win := x) (bank := k) h16')
    go_enter Try.func25, Try.ntmps25
    go_wp2_with fail
    refine (check_in _ n _ _ hc hn h0 h1).mono ?_; rintro e w1 ⟨rfl, rfl⟩
    go_wp2_with fail
    refine (below_in _ _ _ h2 h3).mono ?_; rintro e w1 ⟨rfl, rfl⟩
    go_wp2_with fail
    refine (below_in _ _ _ h4 h5).mono ?_; rintro e w1 ⟨rfl, rfl⟩
    go_wp2_with fail
    refine (home_own b x k r _ h0 (by omega) h16').mono ?_; rintro e w1 ⟨rfl, g1⟩
    go_wp2_with fail
    refine (own_any b _ r _ h16' h5).mono ?_; rintro e w2 ⟨rfl, rfl⟩
    go_wp2_with fail
    go_ret2
    exact ⟨pair_eq (by rw [HL.out]; omega), g1⟩
end Go.Proofs.Ythhkecdcgalcbaa
