/- The document's answers for layer 4, for any arguments: Wim, Invalid, Resident; when two rows are the same. -/
import Derived.Test.YtbkhhfffgmappaaGreatDoorPsrRef
import Derived.Test.YtbkhhfffgmappaaGreatDoorPsrRes
namespace Go.Proofs.YtbkhhfffgmappaaGreatDoor.P4
open Go.RowKit
set_option linter.unusedVariables false
theorem pw_succ (k : Nat) : 2 * pw k = pw (k + 1) := by unfold pw; rw [Nat.pow_succ]; omega
theorem pw_inj {a b : Nat} (h : pw a = pw b) : a = b := by
  unfold pw at h
  have h' : 2 ^ a = 2 ^ b := by omega
  rcases Nat.lt_trichotomy a b with hh | hh | hh
  · have := Nat.pow_lt_pow_right (a := 2) (by decide) hh; omega
  · exact hh
  · have := Nat.pow_lt_pow_right (a := 2) (by decide) hh; omega
theorem rWim_no (x n : Int) (w : World) (h : ¬ (2 ≤ n ∧ n ≤ 32 ∧ 0 ≤ x ∧ x < n)) : Calls Tryz.prog 143 #[.int .i64 x, .int .i64 n] w fun e w' => e = .returned (.tuple #[.int .u32 0, .int .i64 2]) ∧ w = w' := by
  by_cases hn : 2 ≤ n ∧ n ≤ 32
  · by_cases h0 : x < 0
    · obtain ⟨hn, hn'⟩ := hn
      clear h
      go_enter Tryz.func143, Tryz.ntmps143
      go_wp2_with fail
      refine (rwin_yes n _ hn hn').mono ?_; rintro e w1 ⟨rfl, rfl⟩
      go_wp2_with fail
      go_ret2
      exact ⟨rfl, rfl⟩
    · have h1 : n ≤ x := by omega
      obtain ⟨hn, hn'⟩ := hn
      clear h
      go_enter Tryz.func143, Tryz.ntmps143
      go_wp2_with fail
      refine (rwin_yes n _ hn hn').mono ?_; rintro e w1 ⟨rfl, rfl⟩
      go_wp2_with fail
      go_ret2
      exact ⟨rfl, rfl⟩
  · have H := Lib.hid hn
    clear h hn
    go_enter Tryz.func143, Tryz.ntmps143
    go_wp2_with fail
    refine (rwin_no n _ H.out).mono ?_; rintro e w1 ⟨rfl, rfl⟩
    go_wp2_with fail
    go_ret2
    exact ⟨rfl, rfl⟩
theorem rWim_yes (x : Nat) (n : Int) (w : World) (hn : 2 ≤ n) (hn' : n ≤ 32) (h1 : (x : Int) < n) : Calls Tryz.prog 143 #[.int .i64 x, .int .i64 n] w fun e w' => e = .returned (.tuple #[.int .u32 (pw x), .int .i64 0]) ∧ w = w' := by
  have h2 : ¬ (x : Int) < 0 := by omega
  have h3 : ¬ n ≤ x := by omega
  have hx : (x : Int) < 32 := by omega
  go_enter Tryz.func143, Tryz.ntmps143
  go_wp2_with fail
  refine (rwin_yes n _ hn hn').mono ?_; rintro e w1 ⟨rfl, rfl⟩
  go_wp2_with fail
  go_loop [6, 7] (fun m i => ∃ k : Nat, k ≤ x ∧ i = .int .i64 k ∧ m = .int .u32 (pw k)) (fun _ i => x - (intOf i).toNat)
  case atStart => exact ⟨0, by omega, rfl, rfl⟩
  case round =>
    obtain ⟨k, hk, rfl, rfl⟩ := hrel
    by_cases hlt : k < x
    · have hp := Lib.hid (pw_succ k)
      obtain ⟨p0, p1⟩ := pw_in (x := k) (by omega)
      obtain ⟨q0, q1⟩ := pw_in (x := k + 1) (by omega)
      rw [← pw_succ] at q0 q1
      generalize pw k = u at *
      go_wp2_with fail
      go_round
      case rel => exact ⟨k + 1, by omega, by go_num, by rw [← hp.out]⟩
      case measure => simp [intOf]; omega
    · obtain rfl : k = x := by omega
      go_wp2_with fail
      go_ret2
      exact ⟨rfl, rfl⟩
theorem rInvalid_arg (v n : Int) (w : World) (h : ¬ (2 ≤ n ∧ n ≤ 32)) : Calls Tryz.prog 117 #[.int .u32 v, .int .i64 n] w fun e w' => e = .returned (.tuple #[.int .i64 0, .int .i64 2]) ∧ w = w' := by
  have H := Lib.hid h
  clear h
  go_enter Tryz.func117, Tryz.ntmps117
  go_wp2_with fail
  refine (rwin_no n _ H.out).mono ?_; rintro e w1 ⟨rfl, rfl⟩
  go_wp2_with fail
  go_ret2
  exact ⟨rfl, rfl⟩
theorem rInvalid_yes (x : Nat) (n : Int) (w : World) (hn : 2 ≤ n) (hn' : n ≤ 32) (h1 : (x : Int) < n) : Calls Tryz.prog 117 #[.int .u32 (pw x), .int .i64 n] w fun e w' => e = .returned (.tuple #[.int .i64 x, .int .i64 0]) ∧ w = w' := by
  have hx : (x : Int) < 32 := by omega
  have HE : Hid (∀ k : Nat, k < x → pw k ≠ pw x) := fun k hk e => by have := pw_inj e; omega
  have HP : Hid (∀ k : Nat, 0 ≤ pw k) := fun k => by unfold pw; exact Int.natCast_nonneg _
  go_enter Tryz.func117, Tryz.ntmps117
  go_wp2_with fail
  refine (rwin_yes n _ hn hn').mono ?_; rintro e w1 ⟨rfl, rfl⟩
  go_wp2_with fail
  go_loop [6] (fun i => ∃ k : Nat, k ≤ x ∧ i = .int .i64 k) (fun i => x - (intOf i).toNat)
  case atStart => exact ⟨0, by omega, rfl⟩
  case round =>
    obtain ⟨k, hk, rfl⟩ := hrel
    have hkn : (k : Int) < n := by omega
    have hc := Lib.hid (fun w => rWim_yes k n w hn hn' hkn)
    by_cases hlt : k < x
    · have hne : (pw k == pw x) = false := by simpa using HE.out k hlt
      generalize pw k = u at *
      go_wp2_with fail
      refine (hc.out _).mono ?_; rintro e w1 ⟨rfl, rfl⟩
      go_wp2_with fail
      go_round
      case rel => exact ⟨k + 1, by omega, by go_num⟩
      case measure => simp [intOf]; omega
    · obtain rfl : k = x := by omega
      generalize pw k = u at *
      go_wp2_with fail
      refine (hc.out _).mono ?_; rintro e w1 ⟨rfl, rfl⟩
      go_wp2_with fail
      go_ret2
      exact ⟨rfl, rfl⟩
theorem rInvalid_form (v n : Int) (w : World) (hv : 0 ≤ v ∧ v < 4294967296) (hn : 2 ≤ n) (hn' : n ≤ 32) (h : ∀ x : Nat, (x : Int) < n → v ≠ pw x) : Calls Tryz.prog 117 #[.int .u32 v, .int .i64 n] w fun e w' => e = .returned (.tuple #[.int .i64 0, .int .i64 5]) ∧ w = w' := by
  have HE := Lib.hid h
  clear h
  obtain ⟨hv0, hv1⟩ := hv
  obtain ⟨m, rfl⟩ : ∃ m : Nat, n = m := ⟨n.toNat, by omega⟩
  go_enter Tryz.func117, Tryz.ntmps117
  go_wp2_with fail
  refine (rwin_yes m _ hn hn').mono ?_; rintro e w1 ⟨rfl, rfl⟩
  go_wp2_with fail
  go_loop [6] (fun i => ∃ k : Nat, k ≤ m ∧ i = .int .i64 k) (fun i => m - (intOf i).toNat)
  case atStart => exact ⟨0, by omega, rfl⟩
  case round =>
    obtain ⟨k, hk, rfl⟩ := hrel
    by_cases hlt : k < m
    · have hkn : (k : Int) < m := by omega
      have hc := Lib.hid (fun w => rWim_yes k m w hn hn' hkn)
      have hne : (pw k == v) = false := by have := HE.out k hkn; simp; exact fun e => this e.symm
      generalize pw k = u at *
      go_wp2_with fail
      refine (hc.out _).mono ?_; rintro e w1 ⟨rfl, rfl⟩
      go_wp2_with fail
      go_round
      case rel => exact ⟨k + 1, by omega, by go_num⟩
      case measure => simp [intOf]; omega
    · obtain rfl : k = m := by omega
      go_wp2_with fail
      go_ret2
      exact ⟨rfl, rfl⟩
/-! Two rows that are the same. -/
def Ints (w : World) (s : Value) (m : Nat) (f : Nat → Int) : Prop := ∃ p c, s = .slice p m c ∧ (0 < m → ∃ b, p = some ⟨b, 0, none⟩ ∧ ∀ i, i < m → w.cell? ⟨b, i, none⟩ = some (.int .i64 (f i)))
theorem Ints.bel {w w' : World} {s : Value} {m : Nat} {f : Nat → Int} (h : Ints w s m f) (g : Below w.heap.size w w') : Ints w' s m f := by
  obtain ⟨p, c, rfl, h⟩ := h
  exact ⟨p, c, rfl, fun hm => by obtain ⟨b, rfl, hc⟩ := h hm; exact ⟨b, rfl, fun i hi => bel_cell g (hc i hi)⟩⟩
theorem row_ints {w : World} {B m : Nat} {s : Value} {x n : Int} (h : Row w B s x n m) : Ints w s m (win x n) := by
  obtain ⟨_, h | ⟨g, cap, cur, rfl, hB, hg, h1, h2, h3, h4⟩⟩ := h
  · obtain ⟨rfl, rfl⟩ := h; exact ⟨none, 0, rfl, fun h => absurd h (by decide)⟩
  · refine ⟨_, cap, rfl, fun _ => ⟨g, rfl, fun i hi => ?_⟩⟩
    rw [cell_of_row _ _ _ _ _ _ hg]
    have := rl_get x n m i hi
    rw [← h4, List.getElem?_take_of_lt (by omega)] at this
    simpa using this
end Go.Proofs.YtbkhhfffgmappaaGreatDoor.P4
