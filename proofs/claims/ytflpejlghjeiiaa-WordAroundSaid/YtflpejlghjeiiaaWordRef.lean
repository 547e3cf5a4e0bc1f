/- What the document's answer of layer 1 (its Do) comes to: the same plain arithmetic of WordMath as the program's. -/
import Derived.Test.YtflpejlghjeiiaaWordOps
import Derived.Test.YtflpejlghjeiiaaWordLoops
namespace Go.Proofs.Ytflpejlghjeiiaa
open Go.RowKit
set_option linter.unusedVariables false
theorem r17 (n : Int) (w : World) : Calls Try.prog 17 #[.int .i64 n] w fun e w' => e = .returned (.int .u32 (n % 4294967296)) ∧ w = w' := by
  have h1 := tmod_mod n
  have h2 := tmod_bd n
  by_cases hn : n.tmod 4294967296 < 0
  · have H : Hid (n % 4294967296 = n.tmod 4294967296 + 4294967296) := by unfold Hid; omega
    clear h1
    go_enter Try.func17, Try.ntmps17
    go_wp2
    go_ret
    exact ⟨by rw [H.out]; rfl, rfl⟩
  · have H : Hid (n % 4294967296 = n.tmod 4294967296) := by unfold Hid; omega
    clear h1
    go_enter Try.func17, Try.ntmps17
    go_wp2
    go_ret
    exact ⟨by rw [H.out]; rfl, rfl⟩
theorem r18 (a : Int) (w : World) (ha : 0 ≤ a ∧ a < 4294967296) : Calls Try.prog 18 #[.int .u32 a] w fun e w' => e = .returned (.int .i64 (wrap32 a)) ∧ w = w' := by
  by_cases hn : 2147483648 ≤ a
  · have H : Hid (wrap32 a = a - 4294967296) := wrap32_high a ⟨hn, ha.2⟩
    go_enter Try.func18, Try.ntmps18
    go_wp2
    go_ret
    exact ⟨by rw [H.out]; rfl, rfl⟩
  · have H : Hid (wrap32 a = a) := wrap32_low a ⟨ha.1, by omega⟩
    go_enter Try.func18, Try.ntmps18
    go_wp2
    go_ret
    exact ⟨by rw [H.out]; rfl, rfl⟩
theorem r21 (p : Bool) (w : World) :
    Calls Try.prog 21 #[.bool p] w fun e w' => e = .returned (.int .u32 (tr p)) ∧ w = w' := by
  cases p
  · go_enter Try.func21, Try.ntmps21
    go_wp2
    go_ret
    exact ⟨rfl, rfl⟩
  · go_enter Try.func21, Try.ntmps21
    go_wp2
    go_ret
    exact ⟨rfl, rfl⟩
theorem r19n5 (a b : Nat) (w : World) (ha : a < 4294967296) (hb : b < 4294967296) :
    Calls Try.prog 19 #[.int .u8 5, .int .u32 a, .int .u32 b] w fun e w' => e = .returned (.int .u32 (bop 5 a b)) ∧ w = w' := by
  go_enter Try.func19, Try.ntmps19
  go_wp2
  go_loop [7, 8] (fun n i => ∃ k : Nat, k ≤ 32 ∧ i = .int .i64 ((k : Int) - 1) ∧ n = .int .u32 (bop 5 (a / 2 ^ k) (b / 2 ^ k))) (fun _ i => (intOf i + 1).toNat)
  case atStart => exact ⟨32, Nat.le_refl _, rfl, by rw [bop_start 5 a b ha hb]⟩
  case round =>
    obtain ⟨k, hk, rfl, rfl⟩ := hrel
    cases k with
    | zero =>
      go_wp2
      go_ret
      exact ⟨by simp, rfl⟩
    | succ j =>
      have H : Hid _ := round5 a b j ha hb
      rw [show ((j + 1 : Nat) : Int) - 1 = (j : Int) by omega]
      go_wp2
      refine ⟨⟨j, by omega, rfl, ?_⟩, ?_⟩
      · rw [← H.out]
      · simp only [intOf]; omega
theorem r19_5 (a b : Int) (w : World) (ha : 0 ≤ a ∧ a < 4294967296) (hb : 0 ≤ b ∧ b < 4294967296) :
    Calls Try.prog 19 #[.int .u8 5, .int .u32 a, .int .u32 b] w fun e w' => e = .returned (.int .u32 (dv 5 a b)) ∧ w = w' := by
  obtain ⟨x, rfl⟩ := Int.eq_ofNat_of_zero_le ha.1
  obtain ⟨y, rfl⟩ := Int.eq_ofNat_of_zero_le hb.1
  rw [← bop_dv 5 (by decide) x y (by omega) (by omega)]
  exact r19n5 x y w (by omega) (by omega)
theorem r19n6 (a b : Nat) (w : World) (ha : a < 4294967296) (hb : b < 4294967296) :
    Calls Try.prog 19 #[.int .u8 6, .int .u32 a, .int .u32 b] w fun e w' => e = .returned (.int .u32 (bop 6 a b)) ∧ w = w' := by
  go_enter Try.func19, Try.ntmps19
  go_wp2
  go_loop [7, 8] (fun n i => ∃ k : Nat, k ≤ 32 ∧ i = .int .i64 ((k : Int) - 1) ∧ n = .int .u32 (bop 6 (a / 2 ^ k) (b / 2 ^ k))) (fun _ i => (intOf i + 1).toNat)
  case atStart => exact ⟨32, Nat.le_refl _, rfl, by rw [bop_start 6 a b ha hb]⟩
  case round =>
    obtain ⟨k, hk, rfl, rfl⟩ := hrel
    cases k with
    | zero =>
      go_wp2
      go_ret
      exact ⟨by simp, rfl⟩
    | succ j =>
      have H : Hid _ := round6 a b j ha hb
      rw [show ((j + 1 : Nat) : Int) - 1 = (j : Int) by omega]
      go_wp2
      refine ⟨⟨j, by omega, rfl, ?_⟩, ?_⟩
      · rw [← H.out]
      · simp only [intOf]; omega
theorem r19_6 (a b : Int) (w : World) (ha : 0 ≤ a ∧ a < 4294967296) (hb : 0 ≤ b ∧ b < 4294967296) :
    Calls Try.prog 19 #[.int .u8 6, .int .u32 a, .int .u32 b] w fun e w' => e = .returned (.int .u32 (dv 6 a b)) ∧ w = w' := by
  obtain ⟨x, rfl⟩ := Int.eq_ofNat_of_zero_le ha.1
  obtain ⟨y, rfl⟩ := Int.eq_ofNat_of_zero_le hb.1
  rw [← bop_dv 6 (by decide) x y (by omega) (by omega)]
  exact r19n6 x y w (by omega) (by omega)
theorem r19n7 (a b : Nat) (w : World) (ha : a < 4294967296) (hb : b < 4294967296) :
    Calls Try.prog 19 #[.int .u8 7, .int .u32 a, .int .u32 b] w fun e w' => e = .returned (.int .u32 (bop 7 a b)) ∧ w = w' := by
  go_enter Try.func19, Try.ntmps19
  go_wp2
  go_loop [7, 8] (fun n i => ∃ k : Nat, k ≤ 32 ∧ i = .int .i64 ((k : Int) - 1) ∧ n = .int .u32 (bop 7 (a / 2 ^ k) (b / 2 ^ k))) (fun _ i => (intOf i + 1).toNat)
  case atStart => exact ⟨32, Nat.le_refl _, rfl, by rw [bop_start 7 a b ha hb]⟩
  case round =>
    obtain ⟨k, hk, rfl, rfl⟩ := hrel
    cases k with
    | zero =>
      go_wp2
      go_ret
      exact ⟨by simp, rfl⟩
    | succ j =>
      have H : Hid _ := round7 a b j ha hb
      rw [show ((j + 1 : Nat) : Int) - 1 = (j : Int) by omega]
      go_wp2
      refine ⟨⟨j, by omega, rfl, ?_⟩, ?_⟩
      · rw [← H.out]
      · simp only [intOf]; omega
theorem r19_7 (a b : Int) (w : World) (ha : 0 ≤ a ∧ a < 4294967296) (hb : 0 ≤ b ∧ b < 4294967296) :
    Calls Try.prog 19 #[.int .u8 7, .int .u32 a, .int .u32 b] w fun e w' => e = .returned (.int .u32 (dv 7 a b)) ∧ w = w' := by
  obtain ⟨x, rfl⟩ := Int.eq_ofNat_of_zero_le ha.1
  obtain ⟨y, rfl⟩ := Int.eq_ofNat_of_zero_le hb.1
  rw [← bop_dv 7 (by decide) x y (by omega) (by omega)]
  exact r19n7 x y w (by omega) (by omega)
theorem r20_8 (a b : Int) (w : World) (ha : 0 ≤ a ∧ a < 4294967296) (hb : 0 ≤ b ∧ b < 4294967296) :
    Calls Try.prog 20 #[.int .u8 8, .int .u32 a, .int .u32 b] w fun e w' => e = .returned (.int .u32 (dv 8 a b)) ∧ w = w' := by
  have HD : Hid (shk 8 a (b % 32).toNat = dv 8 a b) := shk_dv 8 a b (by decide)
  go_enter Try.func20, Try.ntmps20
  go_wp2
  go_loop [1, 7] (fun x i => ∃ k : Nat, (k : Int) ≤ b % 32 ∧ i = .int .u32 (k : Int) ∧ x = .int .u32 (shk 8 a k)) (fun _ i => ((b % 32) - (intOf i)).toNat)
  case atStart => exact ⟨0, by simp; omega, rfl, by rw [shk_0 8 a ha]⟩
  case round =>
    obtain ⟨k, hk, rfl, rfl⟩ := hrel
    have hs := shk_bd 8 a k ha
    have HS : Hid _ := shk_8 a k
    by_cases hlt : (k : Int) < b % 32
    · go_wp2_with (go_at_call 17; refine (r17 _ _).mono ?_; rintro e w1 ⟨rfl, rfl⟩)
      refine ⟨⟨k + 1, by omega, rfl, ?_⟩, ?_⟩
      · rw [HS.out]
      · simp only [intOf]; omega
    · have hk2 : (b % 32).toNat = k := by omega
      have HK : Hid ((b % 32).toNat = k) := hk2
      clear hk2
      go_wp2
      go_ret
      exact ⟨by rw [← HD.out, HK.out]; rfl, rfl⟩
theorem r20_9 (a b : Int) (w : World) (ha : 0 ≤ a ∧ a < 4294967296) (hb : 0 ≤ b ∧ b < 4294967296) :
    Calls Try.prog 20 #[.int .u8 9, .int .u32 a, .int .u32 b] w fun e w' => e = .returned (.int .u32 (dv 9 a b)) ∧ w = w' := by
  have HD : Hid (shk 9 a (b % 32).toNat = dv 9 a b) := shk_dv 9 a b (by decide)
  go_enter Try.func20, Try.ntmps20
  go_wp2
  go_loop [1, 7] (fun x i => ∃ k : Nat, (k : Int) ≤ b % 32 ∧ i = .int .u32 (k : Int) ∧ x = .int .u32 (shk 9 a k)) (fun _ i => ((b % 32) - (intOf i)).toNat)
  case atStart => exact ⟨0, by simp; omega, rfl, by rw [shk_0 9 a ha]⟩
  case round =>
    obtain ⟨k, hk, rfl, rfl⟩ := hrel
    have hs := shk_bd 9 a k ha
    have HS : Hid _ := shk_9 a k
    by_cases hlt : (k : Int) < b % 32
    · go_wp2
      refine ⟨⟨k + 1, by omega, rfl, ?_⟩, ?_⟩
      · rw [HS.out]
      · simp only [intOf]; omega
    · have hk2 : (b % 32).toNat = k := by omega
      have HK : Hid ((b % 32).toNat = k) := hk2
      clear hk2
      go_wp2
      go_ret
      exact ⟨by rw [← HD.out, HK.out]; rfl, rfl⟩
theorem r20_10 (a b : Int) (w : World) (ha : 0 ≤ a ∧ a < 4294967296) (hb : 0 ≤ b ∧ b < 4294967296) :
    Calls Try.prog 20 #[.int .u8 10, .int .u32 a, .int .u32 b] w fun e w' => e = .returned (.int .u32 (dv 10 a b)) ∧ w = w' := by
  have HD : Hid (shk 10 a (b % 32).toNat = dv 10 a b) := shk_dv 10 a b (by decide)
  go_enter Try.func20, Try.ntmps20
  go_wp2
  go_loop [1, 7] (fun x i => ∃ k : Nat, (k : Int) ≤ b % 32 ∧ i = .int .u32 (k : Int) ∧ x = .int .u32 (shk 10 a k)) (fun _ i => ((b % 32) - (intOf i)).toNat)
  case atStart => exact ⟨0, by simp; omega, rfl, by rw [shk_0 10 a ha]⟩
  case round =>
    obtain ⟨k, hk, rfl, rfl⟩ := hrel
    have hs := shk_bd 10 a k ha
    have HS : Hid _ := shk_10 a k
    by_cases hlt : (k : Int) < b % 32
    · go_wp2
      refine ⟨⟨k + 1, by omega, rfl, ?_⟩, ?_⟩
      · rw [HS.out]
      · simp only [intOf]; omega
    · have hk2 : (b % 32).toNat = k := by omega
      have HK : Hid ((b % 32).toNat = k) := hk2
      clear hk2
      go_wp2
      go_ret
      exact ⟨by rw [← HD.out, HK.out]; rfl, rfl⟩

/-! The document's Do. -/
set_option maxHeartbeats 1000000 in
theorem rdo0 (a b : Int) (w : World) (ha : 0 ≤ a ∧ a < 4294967296) (hb : 0 ≤ b ∧ b < 4294967296) :
    Calls Try.prog 10 #[.int .u8 0, .int .u32 a, .int .u32 b] w fun e w' => e = .returned (.tuple #[.int .u32 (dv 0 a b), .bool true]) ∧ w = w' := by
  have b1 := wrap32_bd a
  have b2 := wrap32_bd b
  go_enter Try.func10, Try.ntmps10
  go_wp2_with (first | (go_at_call 17; refine (r17 _ _).mono ?_; rintro e w1 ⟨rfl, rfl⟩) | (go_at_call 18; refine (r18 _ _ (by assumption)).mono ?_; rintro e w1 ⟨rfl, rfl⟩) | (go_at_call 21; refine (r21 _ _).mono ?_; rintro e w1 ⟨rfl, rfl⟩))
  go_ret2
  exact ⟨rfl, rfl⟩
set_option maxHeartbeats 1000000 in
theorem rdo1 (a b : Int) (w : World) (ha : 0 ≤ a ∧ a < 4294967296) (hb : 0 ≤ b ∧ b < 4294967296) :
    Calls Try.prog 10 #[.int .u8 1, .int .u32 a, .int .u32 b] w fun e w' => e = .returned (.tuple #[.int .u32 (dv 1 a b), .bool true]) ∧ w = w' := by
  have b1 := wrap32_bd a
  have b2 := wrap32_bd b
  go_enter Try.func10, Try.ntmps10
  go_wp2_with (first | (go_at_call 17; refine (r17 _ _).mono ?_; rintro e w1 ⟨rfl, rfl⟩) | (go_at_call 18; refine (r18 _ _ (by assumption)).mono ?_; rintro e w1 ⟨rfl, rfl⟩) | (go_at_call 21; refine (r21 _ _).mono ?_; rintro e w1 ⟨rfl, rfl⟩))
  go_ret2
  exact ⟨rfl, rfl⟩
set_option maxHeartbeats 1000000 in
theorem rdo2 (a b : Int) (w : World) (ha : 0 ≤ a ∧ a < 4294967296) (hb : 0 ≤ b ∧ b < 4294967296) :
    Calls Try.prog 10 #[.int .u8 2, .int .u32 a, .int .u32 b] w fun e w' => e = .returned (.tuple #[.int .u32 (dv 2 a b), .bool true]) ∧ w = w' := by
  have b1 := wrap32_bd a
  have b2 := wrap32_bd b
  go_enter Try.func10, Try.ntmps10
  go_wp2_with (first | (go_at_call 17; refine (r17 _ _).mono ?_; rintro e w1 ⟨rfl, rfl⟩) | (go_at_call 18; refine (r18 _ _ (by assumption)).mono ?_; rintro e w1 ⟨rfl, rfl⟩) | (go_at_call 21; refine (r21 _ _).mono ?_; rintro e w1 ⟨rfl, rfl⟩))
  go_ret2
  exact ⟨by rw [show dv 2 a b = wrap64 (wrap32 a * wrap32 b) % 4294967296 by rw [dv_2, ← mul_wrap, wrap64_mod]]; rfl, rfl⟩
set_option maxHeartbeats 1000000 in
theorem rdo3 (a b : Int) (w : World) (ha : 0 ≤ a ∧ a < 4294967296) (hb : 0 ≤ b ∧ b < 4294967296) (h0 : b ≠ 0) :
    Calls Try.prog 10 #[.int .u8 3, .int .u32 a, .int .u32 b] w fun e w' => e = .returned (.tuple #[.int .u32 (dv 3 a b), .bool true]) ∧ w = w' := by
  have hz : (b == 0) = false := by simpa using h0
  have hq : wrap32 b ≠ 0 := fun h => h0 ((wrap32_zero b hb).1 h)
  have b1 := wrap32_bd a
  have b2 := wrap32_bd b
  go_enter Try.func10, Try.ntmps10
  go_wp2_with (first | (go_at_call 17; refine (r17 _ _).mono ?_; rintro e w1 ⟨rfl, rfl⟩) | (go_at_call 18; refine (r18 _ _ (by assumption)).mono ?_; rintro e w1 ⟨rfl, rfl⟩) | (go_at_call 21; refine (r21 _ _).mono ?_; rintro e w1 ⟨rfl, rfl⟩))
  go_ret2
  exact ⟨by first | (rw [dv_3 a b h0]; rfl) | (rw [show dv 3 a b = wrap64 ((wrap32 a).tdiv (wrap32 b)) % 4294967296 by rw [dv_3 a b h0, wrap64_mod]]; rfl), rfl⟩
set_option maxHeartbeats 1000000 in
theorem rdo4 (a b : Int) (w : World) (ha : 0 ≤ a ∧ a < 4294967296) (hb : 0 ≤ b ∧ b < 4294967296) (h0 : b ≠ 0) :
    Calls Try.prog 10 #[.int .u8 4, .int .u32 a, .int .u32 b] w fun e w' => e = .returned (.tuple #[.int .u32 (dv 4 a b), .bool true]) ∧ w = w' := by
  have hz : (b == 0) = false := by simpa using h0
  have hq : wrap32 b ≠ 0 := fun h => h0 ((wrap32_zero b hb).1 h)
  have b1 := wrap32_bd a
  have b2 := wrap32_bd b
  go_enter Try.func10, Try.ntmps10
  go_wp2_with (first | (go_at_call 17; refine (r17 _ _).mono ?_; rintro e w1 ⟨rfl, rfl⟩) | (go_at_call 18; refine (r18 _ _ (by assumption)).mono ?_; rintro e w1 ⟨rfl, rfl⟩) | (go_at_call 21; refine (r21 _ _).mono ?_; rintro e w1 ⟨rfl, rfl⟩))
  go_ret2
  exact ⟨by rw [dv_4 a b h0]; rfl, rfl⟩
set_option maxHeartbeats 1000000 in
theorem rdo5 (a b : Int) (w : World) (ha : 0 ≤ a ∧ a < 4294967296) (hb : 0 ≤ b ∧ b < 4294967296) :
    Calls Try.prog 10 #[.int .u8 5, .int .u32 a, .int .u32 b] w fun e w' => e = .returned (.tuple #[.int .u32 (dv 5 a b), .bool true]) ∧ w = w' := by
  have b1 := wrap32_bd a
  have b2 := wrap32_bd b
  go_enter Try.func10, Try.ntmps10
  go_wp2_with (first | (go_at_call 17; refine (r17 _ _).mono ?_; rintro e w1 ⟨rfl, rfl⟩) | (go_at_call 18; refine (r18 _ _ (by assumption)).mono ?_; rintro e w1 ⟨rfl, rfl⟩) | (go_at_call 21; refine (r21 _ _).mono ?_; rintro e w1 ⟨rfl, rfl⟩) | (go_at_call 19; refine (r19_5 _ _ _ ha hb).mono ?_; rintro e w1 ⟨rfl, rfl⟩))
  go_ret2
  exact ⟨rfl, rfl⟩
set_option maxHeartbeats 1000000 in
theorem rdo6 (a b : Int) (w : World) (ha : 0 ≤ a ∧ a < 4294967296) (hb : 0 ≤ b ∧ b < 4294967296) :
    Calls Try.prog 10 #[.int .u8 6, .int .u32 a, .int .u32 b] w fun e w' => e = .returned (.tuple #[.int .u32 (dv 6 a b), .bool true]) ∧ w = w' := by
  have b1 := wrap32_bd a
  have b2 := wrap32_bd b
  go_enter Try.func10, Try.ntmps10
  go_wp2_with (first | (go_at_call 17; refine (r17 _ _).mono ?_; rintro e w1 ⟨rfl, rfl⟩) | (go_at_call 18; refine (r18 _ _ (by assumption)).mono ?_; rintro e w1 ⟨rfl, rfl⟩) | (go_at_call 21; refine (r21 _ _).mono ?_; rintro e w1 ⟨rfl, rfl⟩) | (go_at_call 19; refine (r19_6 _ _ _ ha hb).mono ?_; rintro e w1 ⟨rfl, rfl⟩))
  go_ret2
  exact ⟨rfl, rfl⟩
set_option maxHeartbeats 1000000 in
theorem rdo7 (a b : Int) (w : World) (ha : 0 ≤ a ∧ a < 4294967296) (hb : 0 ≤ b ∧ b < 4294967296) :
    Calls Try.prog 10 #[.int .u8 7, .int .u32 a, .int .u32 b] w fun e w' => e = .returned (.tuple #[.int .u32 (dv 7 a b), .bool true]) ∧ w = w' := by
  have b1 := wrap32_bd a
  have b2 := wrap32_bd b
  go_enter Try.func10, Try.ntmps10
  go_wp2_with (first | (go_at_call 17; refine (r17 _ _).mono ?_; rintro e w1 ⟨rfl, rfl⟩) | (go_at_call 18; refine (r18 _ _ (by assumption)).mono ?_; rintro e w1 ⟨rfl, rfl⟩) | (go_at_call 21; refine (r21 _ _).mono ?_; rintro e w1 ⟨rfl, rfl⟩) | (go_at_call 19; refine (r19_7 _ _ _ ha hb).mono ?_; rintro e w1 ⟨rfl, rfl⟩))
  go_ret2
  exact ⟨rfl, rfl⟩
set_option maxHeartbeats 1000000 in
theorem rdo8 (a b : Int) (w : World) (ha : 0 ≤ a ∧ a < 4294967296) (hb : 0 ≤ b ∧ b < 4294967296) :
    Calls Try.prog 10 #[.int .u8 8, .int .u32 a, .int .u32 b] w fun e w' => e = .returned (.tuple #[.int .u32 (dv 8 a b), .bool true]) ∧ w = w' := by
  have b1 := wrap32_bd a
  have b2 := wrap32_bd b
  go_enter Try.func10, Try.ntmps10
  go_wp2_with (first | (go_at_call 17; refine (r17 _ _).mono ?_; rintro e w1 ⟨rfl, rfl⟩) | (go_at_call 18; refine (r18 _ _ (by assumption)).mono ?_; rintro e w1 ⟨rfl, rfl⟩) | (go_at_call 21; refine (r21 _ _).mono ?_; rintro e w1 ⟨rfl, rfl⟩) | (go_at_call 20; refine (r20_8 _ _ _ ha hb).mono ?_; rintro e w1 ⟨rfl, rfl⟩))
  go_ret2
  exact ⟨rfl, rfl⟩
set_option maxHeartbeats 1000000 in
theorem rdo9 (a b : Int) (w : World) (ha : 0 ≤ a ∧ a < 4294967296) (hb : 0 ≤ b ∧ b < 4294967296) :
    Calls Try.prog 10 #[.int .u8 9, .int .u32 a, .int .u32 b] w fun e w' => e = .returned (.tuple #[.int .u32 (dv 9 a b), .bool true]) ∧ w = w' := by
  have b1 := wrap32_bd a
  have b2 := wrap32_bd b
  go_enter Try.func10, Try.ntmps10
  go_wp2_with (first | (go_at_call 17; refine (r17 _ _).mono ?_; rintro e w1 ⟨rfl, rfl⟩) | (go_at_call 18; refine (r18 _ _ (by assumption)).mono ?_; rintro e w1 ⟨rfl, rfl⟩) | (go_at_call 21; refine (r21 _ _).mono ?_; rintro e w1 ⟨rfl, rfl⟩) | (go_at_call 20; refine (r20_9 _ _ _ ha hb).mono ?_; rintro e w1 ⟨rfl, rfl⟩))
  go_ret2
  exact ⟨rfl, rfl⟩
set_option maxHeartbeats 1000000 in
theorem rdo10 (a b : Int) (w : World) (ha : 0 ≤ a ∧ a < 4294967296) (hb : 0 ≤ b ∧ b < 4294967296) :
    Calls Try.prog 10 #[.int .u8 10, .int .u32 a, .int .u32 b] w fun e w' => e = .returned (.tuple #[.int .u32 (dv 10 a b), .bool true]) ∧ w = w' := by
  have b1 := wrap32_bd a
  have b2 := wrap32_bd b
  go_enter Try.func10, Try.ntmps10
  go_wp2_with (first | (go_at_call 17; refine (r17 _ _).mono ?_; rintro e w1 ⟨rfl, rfl⟩) | (go_at_call 18; refine (r18 _ _ (by assumption)).mono ?_; rintro e w1 ⟨rfl, rfl⟩) | (go_at_call 21; refine (r21 _ _).mono ?_; rintro e w1 ⟨rfl, rfl⟩) | (go_at_call 20; refine (r20_10 _ _ _ ha hb).mono ?_; rintro e w1 ⟨rfl, rfl⟩))
  go_ret2
  exact ⟨rfl, rfl⟩
set_option maxHeartbeats 1000000 in
theorem rdo11 (a b : Int) (w : World) (ha : 0 ≤ a ∧ a < 4294967296) (hb : 0 ≤ b ∧ b < 4294967296) :
    Calls Try.prog 10 #[.int .u8 11, .int .u32 a, .int .u32 b] w fun e w' => e = .returned (.tuple #[.int .u32 (dv 11 a b), .bool true]) ∧ w = w' := by
  have b1 := wrap32_bd a
  have b2 := wrap32_bd b
  go_enter Try.func10, Try.ntmps10
  go_wp2_with (first | (go_at_call 17; refine (r17 _ _).mono ?_; rintro e w1 ⟨rfl, rfl⟩) | (go_at_call 18; refine (r18 _ _ (by assumption)).mono ?_; rintro e w1 ⟨rfl, rfl⟩) | (go_at_call 21; refine (r21 _ _).mono ?_; rintro e w1 ⟨rfl, rfl⟩))
  go_ret2
  exact ⟨rfl, rfl⟩
set_option maxHeartbeats 1000000 in
theorem rdo12 (a b : Int) (w : World) (ha : 0 ≤ a ∧ a < 4294967296) (hb : 0 ≤ b ∧ b < 4294967296) :
    Calls Try.prog 10 #[.int .u8 12, .int .u32 a, .int .u32 b] w fun e w' => e = .returned (.tuple #[.int .u32 (dv 12 a b), .bool true]) ∧ w = w' := by
  have b1 := wrap32_bd a
  have b2 := wrap32_bd b
  go_enter Try.func10, Try.ntmps10
  go_wp2_with (first | (go_at_call 17; refine (r17 _ _).mono ?_; rintro e w1 ⟨rfl, rfl⟩) | (go_at_call 18; refine (r18 _ _ (by assumption)).mono ?_; rintro e w1 ⟨rfl, rfl⟩) | (go_at_call 21; refine (r21 _ _).mono ?_; rintro e w1 ⟨rfl, rfl⟩))
  go_ret2
  exact ⟨rfl, rfl⟩
set_option maxHeartbeats 1000000 in
theorem rdo13 (a b : Int) (w : World) (ha : 0 ≤ a ∧ a < 4294967296) (hb : 0 ≤ b ∧ b < 4294967296) :
    Calls Try.prog 10 #[.int .u8 13, .int .u32 a, .int .u32 b] w fun e w' => e = .returned (.tuple #[.int .u32 (dv 13 a b), .bool true]) ∧ w = w' := by
  have b1 := wrap32_bd a
  have b2 := wrap32_bd b
  go_enter Try.func10, Try.ntmps10
  go_wp2_with (first | (go_at_call 17; refine (r17 _ _).mono ?_; rintro e w1 ⟨rfl, rfl⟩) | (go_at_call 18; refine (r18 _ _ (by assumption)).mono ?_; rintro e w1 ⟨rfl, rfl⟩) | (go_at_call 21; refine (r21 _ _).mono ?_; rintro e w1 ⟨rfl, rfl⟩))
  go_ret2
  exact ⟨rfl, rfl⟩
set_option maxHeartbeats 1000000 in
theorem rdo30 (a : Int) (w : World) :
    Calls Try.prog 10 #[.int .u8 3, .int .u32 a, .int .u32 0] w fun e w' => e = .returned (.tuple #[.int .u32 0, .bool false]) ∧ w = w' := by
  go_enter Try.func10, Try.ntmps10
  go_wp2
  go_ret2
  exact ⟨rfl, rfl⟩
set_option maxHeartbeats 1000000 in
theorem rdo40 (a : Int) (w : World) :
    Calls Try.prog 10 #[.int .u8 4, .int .u32 a, .int .u32 0] w fun e w' => e = .returned (.tuple #[.int .u32 0, .bool false]) ∧ w = w' := by
  go_enter Try.func10, Try.ntmps10
  go_wp2
  go_ret2
  exact ⟨rfl, rfl⟩
theorem rdo_none (op a b : Int) (w : World) (h : 14 ≤ op ∧ op ≤ 255) :
    Calls Try.prog 10 #[.int .u8 op, .int .u32 a, .int .u32 b] w fun e w' => e = .returned (.tuple #[.int .u32 0, .bool false]) ∧ w = w' := by
  go_enter Try.func10, Try.ntmps10
  go_wp2
  go_ret2
  exact ⟨rfl, rfl⟩
theorem rdo_any (op a b : Int) (w : World) (h : 0 ≤ op ∧ op ≤ 255) (ha : 0 ≤ a ∧ a < 4294967296) (hb : 0 ≤ b ∧ b < 4294967296) :
    Calls Try.prog 10 #[.int .u8 op, .int .u32 a, .int .u32 b] w fun e w' => e = .returned (.tuple #[.int .u32 (dv op a b), .bool (dok op b)]) ∧ w = w' := by
  by_cases h14 : 14 ≤ op
  · rw [dv_no op a b h14, dok_no op b h14]; exact rdo_none op a b w ⟨h14, h.2⟩
  have hcases : op = 0 ∨ op = 1 ∨ op = 2 ∨ op = 3 ∨ op = 4 ∨ op = 5 ∨ op = 6 ∨ op = 7 ∨ op = 8 ∨ op = 9 ∨ op = 10 ∨ op = 11 ∨ op = 12 ∨ op = 13 := by omega
  clear h14 h
  rcases hcases with rfl | rfl | rfl | rfl | rfl | rfl | rfl | rfl | rfl | rfl | rfl | rfl | rfl | rfl
  · exact rdo0 a b w ha hb
  · exact rdo1 a b w ha hb
  · exact rdo2 a b w ha hb
  · by_cases h0 : b = 0
    · subst h0; exact rdo30 a w
    · rw [dok_div 3 b (by decide) h0]; exact rdo3 a b w ha hb h0
  · by_cases h0 : b = 0
    · subst h0; exact rdo40 a w
    · rw [dok_div 4 b (by decide) h0]; exact rdo4 a b w ha hb h0
  · exact rdo5 a b w ha hb
  · exact rdo6 a b w ha hb
  · exact rdo7 a b w ha hb
  · exact rdo8 a b w ha hb
  · exact rdo9 a b w ha hb
  · exact rdo10 a b w ha hb
  · exact rdo11 a b w ha hb
  · exact rdo12 a b w ha hb
  · exact rdo13 a b w ha hb
end Go.Proofs.Ytflpejlghjeiiaa
