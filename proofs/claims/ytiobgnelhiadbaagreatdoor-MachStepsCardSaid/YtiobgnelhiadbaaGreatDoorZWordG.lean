/- Plain arithmetic for the document's answer of layer 1: its loops bit by bit and shift by shift come to what WordMath says. What the document's answer of layer 1 (its Do) comes to: the same plain arithmetic of WordMath as the program's. What calls of word.Flags and word.Holds, and the document's answers of the same names, come to: the plain arithmetic of WordMath. -/
import Derived.Test.YtiobgnelhiadbaaGreatDoorZBaseG
import Derived.Test.YtiobgnelhiadbaaGreatDoorZWordGO
namespace Go.Proofs.YtiobgnelhiadbaaGreatDoor.W1
open Go.RowKit
/-- Bit by bit: 5 and, 6 or, 7 exclusive or. -/
def bop (op : Int) (x y : Nat) : Nat := if op = 5 then x &&& y else if op = 6 then x ||| y else x ^^^ y
def bz (op : Int) (x y : Int) : Int := if op = 5 then x * y else if op = 6 then max x y else (x + y) % 2
theorem bop_step (op : Int) (x y : Nat) : (bop op x y : Int) = 2 * (bop op (x / 2) (y / 2) : Int) + bz op ((x : Int) % 2) ((y : Int) % 2) := by
  have hx : (x : Int) % 2 = 0 ∨ (x : Int) % 2 = 1 := by omega
  have hy : (y : Int) % 2 = 0 ∨ (y : Int) % 2 = 1 := by omega
  unfold bop bz
  by_cases h5 : op = 5
  · simp only [h5, if_true]
    have h1 := @Nat.and_div_two x y
    have h2 := @Nat.and_mod_two_eq_one x y
    rw [← h1]
    rcases hx with hx | hx <;> rcases hy with hy | hy <;> rw [hx, hy] <;> simp <;> omega
  · by_cases h6 : op = 6
    · simp only [h6, if_true]
      have h1 := @Nat.or_div_two x y
      have h2 := @Nat.or_mod_two_eq_one x y
      simp only [show ¬ ((6 : Int) = 5) by decide, if_false]
      rw [← h1]
      rcases hx with hx | hx <;> rcases hy with hy | hy <;> rw [hx, hy] <;> simp <;> omega
    · simp only [h5, h6, if_false]
      have h1 := @Nat.xor_div_two x y
      have h2 := @Nat.xor_mod_two_eq_one x y
      rw [← h1]
      rcases hx with hx | hx <;> rcases hy with hy | hy <;> rw [hx, hy] <;> simp <;> omega
theorem bop_bd (op : Int) (x y n : Nat) (hx : x < 2 ^ n) (hy : y < 2 ^ n) : bop op x y < 2 ^ n := by
  unfold bop
  repeat' split
  · exact Nat.and_lt_two_pow x hy
  · exact Nat.or_lt_two_pow hx hy
  · exact Nat.xor_lt_two_pow hx hy
theorem bop_dv (op : Int) (h : op = 5 ∨ op = 6 ∨ op = 7) (x y : Nat) (hx : x < 4294967296) (hy : y < 4294967296) : (bop op x y : Int) = dv op x y := by
  rcases h with rfl | rfl | rfl
  · rw [dv_5, u32_and_nat x y hx hy]; rfl
  · rw [dv_6, u32_or_nat x y hx hy]; rfl
  · rw [dv_7, u32_xor_nat x y hx hy]; rfl
/-- The k-th shift by one. -/
def shk (op a : Int) (k : Nat) : Int := if op = 8 then a * 2 ^ k % 4294967296 else if op = 9 then a / 2 ^ k else wrap32 a / 2 ^ k % 4294967296
theorem two_pow_pos (k : Nat) : (0 : Int) < 2 ^ k := Int.pow_pos (by decide)
theorem ediv_step (a : Int) (k : Nat) : a / 2 ^ (k + 1) = a / 2 ^ k / 2 := by
  rw [Int.ediv_ediv_of_nonneg (Int.le_of_lt (two_pow_pos k)), ← Int.pow_succ]
theorem shk_8 (a : Int) (k : Nat) : shk 8 a (k + 1) = 2 * shk 8 a k % 4294967296 := by
  unfold shk
  simp only [if_true]
  rw [Int.pow_succ, ← Int.mul_assoc]
  omega
theorem shk_9 (a : Int) (k : Nat) : shk 9 a (k + 1) = shk 9 a k / 2 := by
  unfold shk
  simp only [show ¬ ((9 : Int) = 8) by decide, if_true, if_false]
  exact ediv_step a k
theorem ediv_pow_bd (x : Int) (k : Nat) (h : -2147483648 ≤ x ∧ x ≤ 2147483647) : -2147483648 ≤ x / 2 ^ k ∧ x / 2 ^ k ≤ 2147483647 := by
  induction k with
  | zero => simpa using h
  | succ k ih => rw [ediv_step]; omega
theorem shk_10 (a : Int) (k : Nat) : shk 10 a (k + 1) = shk 10 a k / 2 + shk 10 a k / 2147483648 * 2147483648 := by
  unfold shk
  simp only [show ¬ ((10 : Int) = 8) by decide, show ¬ ((10 : Int) = 9) by decide, if_false]
  rw [ediv_step]
  have h := ediv_pow_bd (wrap32 a) k (wrap32_bd a)
  generalize wrap32 a / 2 ^ k = x at h
  omega
theorem shk_0 (op a : Int) (ha : 0 ≤ a ∧ a < 4294967296) : shk op a 0 = a := by
  unfold shk
  have := wrap32_mod a
  repeat' split
  all_goals simp
  all_goals omega
theorem shk_bd (op a : Int) (k : Nat) (ha : 0 ≤ a ∧ a < 4294967296) : 0 ≤ shk op a k ∧ shk op a k < 4294967296 := by
  unfold shk
  have h1 := Int.ediv_nonneg ha.1 (b := 2 ^ k) (Int.le_of_lt (two_pow_pos k))
  have h2 := Int.ediv_le_self (2 ^ k) ha.1
  repeat' split
  all_goals omega
theorem shk_dv (op a b : Int) (h : op = 8 ∨ op = 9 ∨ op = 10) : shk op a (b % 32).toNat = dv op a b := by
  rcases h with rfl | rfl | rfl <;> rfl

theorem div_pow_succ (a j : Nat) : a / 2 ^ (j + 1) = a / 2 ^ j / 2 := by
  rw [Nat.div_div_eq_div_mul, ← Nat.pow_succ]
theorem cast_div_pow (a j : Nat) : (a : Int) / 2 ^ j = ((a / 2 ^ j : Nat) : Int) := by simp
theorem tmod2 (x : Nat) : ((x : Nat) : Int).tmod 2 = (x : Int) % 2 := rfl
theorem div_pow_lt (a j : Nat) (h : a < 4294967296) : a / 2 ^ j < 2 ^ 32 := Nat.lt_of_le_of_lt (Nat.div_le_self _ _) h
/-- A round of the loop over bits, as the walk spells it. -/
theorem round5 (a b j : Nat) (ha : a < 4294967296) (hb : b < 4294967296) :
    (2 * (bop 5 (a / 2 ^ (j + 1)) (b / 2 ^ (j + 1)) : Int) % 4294967296 + ((a : Int) / 2 ^ j).tmod 2 * ((b : Int) / 2 ^ j).tmod 2 % 4294967296) % 4294967296 = (bop 5 (a / 2 ^ j) (b / 2 ^ j) : Int) := by
  rw [div_pow_succ, div_pow_succ, cast_div_pow, cast_div_pow, tmod2, tmod2]
  have hl := bop_bd 5 _ _ 32 (div_pow_lt a j ha) (div_pow_lt b j hb)
  have hs := bop_step 5 (a / 2 ^ j) (b / 2 ^ j)
  generalize a / 2 ^ j = x at *
  generalize b / 2 ^ j = y at *
  unfold bz at hs
  simp only [if_true] at hs
  have hx : (x : Int) % 2 = 0 ∨ (x : Int) % 2 = 1 := by omega
  have hy : (y : Int) % 2 = 0 ∨ (y : Int) % 2 = 1 := by omega
  rcases hx with hx | hx <;> rcases hy with hy | hy <;> rw [hx, hy] at hs ⊢ <;> omega
theorem round6 (a b j : Nat) (ha : a < 4294967296) (hb : b < 4294967296) :
    (2 * (bop 6 (a / 2 ^ (j + 1)) (b / 2 ^ (j + 1)) : Int) % 4294967296 + (if ((a : Int) / 2 ^ j).tmod 2 < ((b : Int) / 2 ^ j).tmod 2 then ((b : Int) / 2 ^ j).tmod 2 else ((a : Int) / 2 ^ j).tmod 2)) % 4294967296 = (bop 6 (a / 2 ^ j) (b / 2 ^ j) : Int) := by
  rw [div_pow_succ, div_pow_succ, cast_div_pow, cast_div_pow, tmod2, tmod2]
  have hl := bop_bd 6 _ _ 32 (div_pow_lt a j ha) (div_pow_lt b j hb)
  have hs := bop_step 6 (a / 2 ^ j) (b / 2 ^ j)
  generalize a / 2 ^ j = x at *
  generalize b / 2 ^ j = y at *
  unfold bz at hs
  simp only [show ¬ ((6 : Int) = 5) by decide, if_false, if_true] at hs
  have hx : (x : Int) % 2 = 0 ∨ (x : Int) % 2 = 1 := by omega
  have hy : (y : Int) % 2 = 0 ∨ (y : Int) % 2 = 1 := by omega
  rcases hx with hx | hx <;> rcases hy with hy | hy <;> rw [hx, hy] at hs ⊢ <;> simp at hs ⊢ <;> omega
theorem round7 (a b j : Nat) (ha : a < 4294967296) (hb : b < 4294967296) :
    2 * (bop 7 (a / 2 ^ (j + 1)) (b / 2 ^ (j + 1)) : Int) % 4294967296 + (((a : Int) / 2 ^ j).tmod 2 + ((b : Int) / 2 ^ j).tmod 2) % 2 = (bop 7 (a / 2 ^ j) (b / 2 ^ j) : Int) := by
  rw [div_pow_succ, div_pow_succ, cast_div_pow, cast_div_pow, tmod2, tmod2]
  have hl := bop_bd 7 _ _ 32 (div_pow_lt a j ha) (div_pow_lt b j hb)
  have hs := bop_step 7 (a / 2 ^ j) (b / 2 ^ j)
  generalize a / 2 ^ j = x at *
  generalize b / 2 ^ j = y at *
  unfold bz at hs
  simp only [show ¬ ((7 : Int) = 5) by decide, show ¬ ((7 : Int) = 6) by decide, if_false] at hs
  omega
theorem bop_start (op : Int) (a b : Nat) (ha : a < 4294967296) (hb : b < 4294967296) : (bop op (a / 2 ^ 32) (b / 2 ^ 32) : Int) = 0 := by
  rw [Nat.div_eq_of_lt ha, Nat.div_eq_of_lt hb]
  unfold bop
  repeat' split
  all_goals rfl
end Go.Proofs.YtiobgnelhiadbaaGreatDoor.W1
namespace Go.Proofs.YtiobgnelhiadbaaGreatDoor.W1
open Go.RowKit
set_option linter.unusedVariables false
theorem max_lt (x y : Int) : max x y = if x < y then y else x := by rw [Int.max_def]; split <;> split <;> omega
theorem r17 (n : Int) (w : World) : Calls Tryz.prog 137 #[.int .i64 n] w fun e w' => e = .returned (.int .u32 (n % 4294967296)) ∧ w = w' := by
  have h1 := tmod_mod n
  have h2 := tmod_bd n
  by_cases hn : n.tmod 4294967296 < 0
  · have H : Hid (n % 4294967296 = n.tmod 4294967296 + 4294967296) := by unfold Hid; omega
    clear h1
    go_enter Tryz.func137, Tryz.ntmps137
    go_wp2
    go_ret
    exact ⟨by rw [H.out]; rfl, rfl⟩
  · have H : Hid (n % 4294967296 = n.tmod 4294967296) := by unfold Hid; omega
    clear h1
    go_enter Tryz.func137, Tryz.ntmps137
    go_wp2
    go_ret
    exact ⟨by rw [H.out]; rfl, rfl⟩
theorem r18 (a : Int) (w : World) (ha : 0 ≤ a ∧ a < 4294967296) : Calls Tryz.prog 138 #[.int .u32 a] w fun e w' => e = .returned (.int .i64 (wrap32 a)) ∧ w = w' := by
  by_cases hn : 2147483648 ≤ a
  · have H : Hid (wrap32 a = a - 4294967296) := wrap32_high a ⟨hn, ha.2⟩
    go_enter Tryz.func138, Tryz.ntmps138
    go_wp2
    go_ret
    exact ⟨by rw [H.out]; rfl, rfl⟩
  · have H : Hid (wrap32 a = a) := wrap32_low a ⟨ha.1, by omega⟩
    go_enter Tryz.func138, Tryz.ntmps138
    go_wp2
    go_ret
    exact ⟨by rw [H.out]; rfl, rfl⟩
theorem r21 (p : Bool) (w : World) :
    Calls Tryz.prog 141 #[.bool p] w fun e w' => e = .returned (.int .u32 (tr p)) ∧ w = w' := by
  cases p
  · go_enter Tryz.func141, Tryz.ntmps141
    go_wp2
    go_ret
    exact ⟨rfl, rfl⟩
  · go_enter Tryz.func141, Tryz.ntmps141
    go_wp2
    go_ret
    exact ⟨rfl, rfl⟩
theorem r19n5 (a b : Nat) (w : World) (ha : a < 4294967296) (hb : b < 4294967296) :
    Calls Tryz.prog 139 #[.int .u8 5, .int .u32 a, .int .u32 b] w fun e w' => e = .returned (.int .u32 (bop 5 a b)) ∧ w = w' := by
  go_enter Tryz.func139, Tryz.ntmps139
  go_wp2
  go_loop [7, 8] (fun n i => ∃ k : Nat, k ≤ 32 ∧ i = .int .i64 ((k : Int) - 1) ∧ n = .int .u32 (bop 5 (a / 2 ^ k) (b / 2 ^ k))) (fun _ i => (intOf i + 1).toNat)
  case atStart => exact ⟨32, Nat.le_refl _, rfl, by rw [bop_start 5 a b ha hb]⟩
  case round =>
    obtain ⟨k, hk, rfl, rfl⟩ := hrel
    cases k with
    | zero =>
      go_wp2
      go_ret
      exact ⟨by simp, rfl⟩
    | succ j =>
      have H : Hid _ := round5 a b j ha hb
      rw [show ((j + 1 : Nat) : Int) - 1 = (j : Int) by omega]
      go_wp2
      refine ⟨⟨j, by omega, rfl, ?_⟩, ?_⟩
      · rw [← H.out]
      · simp only [intOf]; omega
theorem r19_5 (a b : Int) (w : World) (ha : 0 ≤ a ∧ a < 4294967296) (hb : 0 ≤ b ∧ b < 4294967296) :
    Calls Tryz.prog 139 #[.int .u8 5, .int .u32 a, .int .u32 b] w fun e w' => e = .returned (.int .u32 (dv 5 a b)) ∧ w = w' := by
  obtain ⟨x, rfl⟩ := Int.eq_ofNat_of_zero_le ha.1
  obtain ⟨y, rfl⟩ := Int.eq_ofNat_of_zero_le hb.1
  rw [← bop_dv 5 (by decide) x y (by omega) (by omega)]
  exact r19n5 x y w (by omega) (by omega)
theorem r19n6 (a b : Nat) (w : World) (ha : a < 4294967296) (hb : b < 4294967296) :
    Calls Tryz.prog 139 #[.int .u8 6, .int .u32 a, .int .u32 b] w fun e w' => e = .returned (.int .u32 (bop 6 a b)) ∧ w = w' := by
  go_enter Tryz.func139, Tryz.ntmps139
  go_wp2
  go_loop [7, 8] (fun n i => ∃ k : Nat, k ≤ 32 ∧ i = .int .i64 ((k : Int) - 1) ∧ n = .int .u32 (bop 6 (a / 2 ^ k) (b / 2 ^ k))) (fun _ i => (intOf i + 1).toNat)
  case atStart => exact ⟨32, Nat.le_refl _, rfl, by rw [bop_start 6 a b ha hb]⟩
  case round =>
    obtain ⟨k, hk, rfl, rfl⟩ := hrel
    cases k with
    | zero =>
      go_wp2
      go_ret
      exact ⟨by simp, rfl⟩
    | succ j =>
      have H : Hid _ := round6 a b j ha hb
      rw [show ((j + 1 : Nat) : Int) - 1 = (j : Int) by omega]
      go_wp2
      refine ⟨⟨j, by omega, rfl, ?_⟩, ?_⟩
      · first | (rw [← H.out]; done) | rw [← H.out, max_lt]
      · simp only [intOf]; omega
theorem r19_6 (a b : Int) (w : World) (ha : 0 ≤ a ∧ a < 4294967296) (hb : 0 ≤ b ∧ b < 4294967296) :
    Calls Tryz.prog 139 #[.int .u8 6, .int .u32 a, .int .u32 b] w fun e w' => e = .returned (.int .u32 (dv 6 a b)) ∧ w = w' := by
  obtain ⟨x, rfl⟩ := Int.eq_ofNat_of_zero_le ha.1
  obtain ⟨y, rfl⟩ := Int.eq_ofNat_of_zero_le hb.1
  rw [← bop_dv 6 (by decide) x y (by omega) (by omega)]
  exact r19n6 x y w (by omega) (by omega)
theorem r19n7 (a b : Nat) (w : World) (ha : a < 4294967296) (hb : b < 4294967296) :
    Calls Tryz.prog 139 #[.int .u8 7, .int .u32 a, .int .u32 b] w fun e w' => e = .returned (.int .u32 (bop 7 a b)) ∧ w = w' := by
  go_enter Tryz.func139, Tryz.ntmps139
  go_wp2
  go_loop [7, 8] (fun n i => ∃ k : Nat, k ≤ 32 ∧ i = .int .i64 ((k : Int) - 1) ∧ n = .int .u32 (bop 7 (a / 2 ^ k) (b / 2 ^ k))) (fun _ i => (intOf i + 1).toNat)
  case atStart => exact ⟨32, Nat.le_refl _, rfl, by rw [bop_start 7 a b ha hb]⟩
  case round =>
    obtain ⟨k, hk, rfl, rfl⟩ := hrel
    cases k with
    | zero =>
      go_wp2
      go_ret
      exact ⟨by simp, rfl⟩
    | succ j =>
      have H : Hid _ := round7 a b j ha hb
      rw [show ((j + 1 : Nat) : Int) - 1 = (j : Int) by omega]
      go_wp2
      refine ⟨⟨j, by omega, rfl, ?_⟩, ?_⟩
      · rw [← H.out]
      · simp only [intOf]; omega
theorem r19_7 (a b : Int) (w : World) (ha : 0 ≤ a ∧ a < 4294967296) (hb : 0 ≤ b ∧ b < 4294967296) :
    Calls Tryz.prog 139 #[.int .u8 7, .int .u32 a, .int .u32 b] w fun e w' => e = .returned (.int .u32 (dv 7 a b)) ∧ w = w' := by
  obtain ⟨x, rfl⟩ := Int.eq_ofNat_of_zero_le ha.1
  obtain ⟨y, rfl⟩ := Int.eq_ofNat_of_zero_le hb.1
  rw [← bop_dv 7 (by decide) x y (by omega) (by omega)]
  exact r19n7 x y w (by omega) (by omega)
theorem r20_8 (a b : Int) (w : World) (ha : 0 ≤ a ∧ a < 4294967296) (hb : 0 ≤ b ∧ b < 4294967296) :
    Calls Tryz.prog 140 #[.int .u8 8, .int .u32 a, .int .u32 b] w fun e w' => e = .returned (.int .u32 (dv 8 a b)) ∧ w = w' := by
  have HD : Hid (shk 8 a (b % 32).toNat = dv 8 a b) := shk_dv 8 a b (by decide)
  go_enter Tryz.func140, Tryz.ntmps140
  go_wp2
  go_loop [1, 7] (fun x i => ∃ k : Nat, (k : Int) ≤ b % 32 ∧ i = .int .u32 (k : Int) ∧ x = .int .u32 (shk 8 a k)) (fun _ i => ((b % 32) - (intOf i)).toNat)
  case atStart => exact ⟨0, by simp; omega, rfl, by rw [shk_0 8 a ha]⟩
  case round =>
    obtain ⟨k, hk, rfl, rfl⟩ := hrel
    have hs := shk_bd 8 a k ha
    have HS : Hid _ := shk_8 a k
    by_cases hlt : (k : Int) < b % 32
    · go_wp2_with (go_at_call 137; refine (r17 _ _).mono ?_; rintro e w1 ⟨rfl, rfl⟩)
      refine ⟨⟨k + 1, by omega, rfl, ?_⟩, ?_⟩
      · rw [HS.out]
      · simp only [intOf]; omega
    · have hk2 : (b % 32).toNat = k := by omega
      have HK : Hid ((b % 32).toNat = k) := hk2
      clear hk2
      go_wp2
      go_ret
      exact ⟨by rw [← HD.out, HK.out]; rfl, rfl⟩
theorem r20_9 (a b : Int) (w : World) (ha : 0 ≤ a ∧ a < 4294967296) (hb : 0 ≤ b ∧ b < 4294967296) :
    Calls Tryz.prog 140 #[.int .u8 9, .int .u32 a, .int .u32 b] w fun e w' => e = .returned (.int .u32 (dv 9 a b)) ∧ w = w' := by
  have HD : Hid (shk 9 a (b % 32).toNat = dv 9 a b) := shk_dv 9 a b (by decide)
  go_enter Tryz.func140, Tryz.ntmps140
  go_wp2
  go_loop [1, 7] (fun x i => ∃ k : Nat, (k : Int) ≤ b % 32 ∧ i = .int .u32 (k : Int) ∧ x = .int .u32 (shk 9 a k)) (fun _ i => ((b % 32) - (intOf i)).toNat)
  case atStart => exact ⟨0, by simp; omega, rfl, by rw [shk_0 9 a ha]⟩
  case round =>
    obtain ⟨k, hk, rfl, rfl⟩ := hrel
    have hs := shk_bd 9 a k ha
    have HS : Hid _ := shk_9 a k
    by_cases hlt : (k : Int) < b % 32
    · go_wp2
      refine ⟨⟨k + 1, by omega, rfl, ?_⟩, ?_⟩
      · rw [HS.out]
      · simp only [intOf]; omega
    · have hk2 : (b % 32).toNat = k := by omega
      have HK : Hid ((b % 32).toNat = k) := hk2
      clear hk2
      go_wp2
      go_ret
      exact ⟨by rw [← HD.out, HK.out]; rfl, rfl⟩
theorem r20_10 (a b : Int) (w : World) (ha : 0 ≤ a ∧ a < 4294967296) (hb : 0 ≤ b ∧ b < 4294967296) :
    Calls Tryz.prog 140 #[.int .u8 10, .int .u32 a, .int .u32 b] w fun e w' => e = .returned (.int .u32 (dv 10 a b)) ∧ w = w' := by
  have HD : Hid (shk 10 a (b % 32).toNat = dv 10 a b) := shk_dv 10 a b (by decide)
  go_enter Tryz.func140, Tryz.ntmps140
  go_wp2
  go_loop [1, 7] (fun x i => ∃ k : Nat, (k : Int) ≤ b % 32 ∧ i = .int .u32 (k : Int) ∧ x = .int .u32 (shk 10 a k)) (fun _ i => ((b % 32) - (intOf i)).toNat)
  case atStart => exact ⟨0, by simp; omega, rfl, by rw [shk_0 10 a ha]⟩
  case round =>
    obtain ⟨k, hk, rfl, rfl⟩ := hrel
    have hs := shk_bd 10 a k ha
    have HS : Hid _ := shk_10 a k
    by_cases hlt : (k : Int) < b % 32
    · go_wp2
      refine ⟨⟨k + 1, by omega, rfl, ?_⟩, ?_⟩
      · rw [HS.out]
      · simp only [intOf]; omega
    · have hk2 : (b % 32).toNat = k := by omega
      have HK : Hid ((b % 32).toNat = k) := hk2
      clear hk2
      go_wp2
      go_ret
      exact ⟨by rw [← HD.out, HK.out]; rfl, rfl⟩

/-! The document's Do. -/
set_option maxHeartbeats 1000000 in
theorem rdo0 (a b : Int) (w : World) (ha : 0 ≤ a ∧ a < 4294967296) (hb : 0 ≤ b ∧ b < 4294967296) :
    Calls Tryz.prog 77 #[.int .u8 0, .int .u32 a, .int .u32 b] w fun e w' => e = .returned (.tuple #[.int .u32 (dv 0 a b), .bool true]) ∧ w = w' := by
  have b1 := wrap32_bd a
  have b2 := wrap32_bd b
  go_enter Tryz.func77, Tryz.ntmps77
  go_wp2_with (first | (go_at_call 137; refine (r17 _ _).mono ?_; rintro e w1 ⟨rfl, rfl⟩) | (go_at_call 138; refine (r18 _ _ (by assumption)).mono ?_; rintro e w1 ⟨rfl, rfl⟩) | (go_at_call 141; refine (r21 _ _).mono ?_; rintro e w1 ⟨rfl, rfl⟩))
  go_ret2
  exact ⟨rfl, rfl⟩
set_option maxHeartbeats 1000000 in
theorem rdo1 (a b : Int) (w : World) (ha : 0 ≤ a ∧ a < 4294967296) (hb : 0 ≤ b ∧ b < 4294967296) :
    Calls Tryz.prog 77 #[.int .u8 1, .int .u32 a, .int .u32 b] w fun e w' => e = .returned (.tuple #[.int .u32 (dv 1 a b), .bool true]) ∧ w = w' := by
  have b1 := wrap32_bd a
  have b2 := wrap32_bd b
  go_enter Tryz.func77, Tryz.ntmps77
  go_wp2_with (first | (go_at_call 137; refine (r17 _ _).mono ?_; rintro e w1 ⟨rfl, rfl⟩) | (go_at_call 138; refine (r18 _ _ (by assumption)).mono ?_; rintro e w1 ⟨rfl, rfl⟩) | (go_at_call 141; refine (r21 _ _).mono ?_; rintro e w1 ⟨rfl, rfl⟩))
  go_ret2
  exact ⟨rfl, rfl⟩
set_option maxHeartbeats 1000000 in
theorem rdo2 (a b : Int) (w : World) (ha : 0 ≤ a ∧ a < 4294967296) (hb : 0 ≤ b ∧ b < 4294967296) :
    Calls Tryz.prog 77 #[.int .u8 2, .int .u32 a, .int .u32 b] w fun e w' => e = .returned (.tuple #[.int .u32 (dv 2 a b), .bool true]) ∧ w = w' := by
  have b1 := wrap32_bd a
  have b2 := wrap32_bd b
  go_enter Tryz.func77, Tryz.ntmps77
  go_wp2_with (first | (go_at_call 137; refine (r17 _ _).mono ?_; rintro e w1 ⟨rfl, rfl⟩) | (go_at_call 138; refine (r18 _ _ (by assumption)).mono ?_; rintro e w1 ⟨rfl, rfl⟩) | (go_at_call 141; refine (r21 _ _).mono ?_; rintro e w1 ⟨rfl, rfl⟩))
  go_ret2
  exact ⟨by rw [show dv 2 a b = wrap64 (wrap32 a * wrap32 b) % 4294967296 by rw [dv_2, ← mul_wrap, wrap64_mod]]; rfl, rfl⟩
set_option maxHeartbeats 1000000 in
theorem rdo3 (a b : Int) (w : World) (ha : 0 ≤ a ∧ a < 4294967296) (hb : 0 ≤ b ∧ b < 4294967296) (h0 : b ≠ 0) :
    Calls Tryz.prog 77 #[.int .u8 3, .int .u32 a, .int .u32 b] w fun e w' => e = .returned (.tuple #[.int .u32 (dv 3 a b), .bool true]) ∧ w = w' := by
  have hz : (b == 0) = false := by simpa using h0
  have hq : wrap32 b ≠ 0 := fun h => h0 ((wrap32_zero b hb).1 h)
  have b1 := wrap32_bd a
  have b2 := wrap32_bd b
  go_enter Tryz.func77, Tryz.ntmps77
  go_wp2_with (first | (go_at_call 137; refine (r17 _ _).mono ?_; rintro e w1 ⟨rfl, rfl⟩) | (go_at_call 138; refine (r18 _ _ (by assumption)).mono ?_; rintro e w1 ⟨rfl, rfl⟩) | (go_at_call 141; refine (r21 _ _).mono ?_; rintro e w1 ⟨rfl, rfl⟩))
  go_ret2
  exact ⟨by first | (rw [dv_3 a b h0]; rfl) | (rw [show dv 3 a b = wrap64 ((wrap32 a).tdiv (wrap32 b)) % 4294967296 by rw [dv_3 a b h0, wrap64_mod]]; rfl), rfl⟩
set_option maxHeartbeats 1000000 in
theorem rdo4 (a b : Int) (w : World) (ha : 0 ≤ a ∧ a < 4294967296) (hb : 0 ≤ b ∧ b < 4294967296) (h0 : b ≠ 0) :
    Calls Tryz.prog 77 #[.int .u8 4, .int .u32 a, .int .u32 b] w fun e w' => e = .returned (.tuple #[.int .u32 (dv 4 a b), .bool true]) ∧ w = w' := by
  have hz : (b == 0) = false := by simpa using h0
  have hq : wrap32 b ≠ 0 := fun h => h0 ((wrap32_zero b hb).1 h)
  have b1 := wrap32_bd a
  have b2 := wrap32_bd b
  go_enter Tryz.func77, Tryz.ntmps77
  go_wp2_with (first | (go_at_call 137; refine (r17 _ _).mono ?_; rintro e w1 ⟨rfl, rfl⟩) | (go_at_call 138; refine (r18 _ _ (by assumption)).mono ?_; rintro e w1 ⟨rfl, rfl⟩) | (go_at_call 141; refine (r21 _ _).mono ?_; rintro e w1 ⟨rfl, rfl⟩))
  go_ret2
  exact ⟨by rw [dv_4 a b h0]; rfl, rfl⟩
set_option maxHeartbeats 1000000 in
theorem rdo5 (a b : Int) (w : World) (ha : 0 ≤ a ∧ a < 4294967296) (hb : 0 ≤ b ∧ b < 4294967296) :
    Calls Tryz.prog 77 #[.int .u8 5, .int .u32 a, .int .u32 b] w fun e w' => e = .returned (.tuple #[.int .u32 (dv 5 a b), .bool true]) ∧ w = w' := by
  have b1 := wrap32_bd a
  have b2 := wrap32_bd b
  go_enter Tryz.func77, Tryz.ntmps77
  go_wp2_with (first | (go_at_call 137; refine (r17 _ _).mono ?_; rintro e w1 ⟨rfl, rfl⟩) | (go_at_call 138; refine (r18 _ _ (by assumption)).mono ?_; rintro e w1 ⟨rfl, rfl⟩) | (go_at_call 141; refine (r21 _ _).mono ?_; rintro e w1 ⟨rfl, rfl⟩) | (go_at_call 139; refine (r19_5 _ _ _ ha hb).mono ?_; rintro e w1 ⟨rfl, rfl⟩))
  go_ret2
  exact ⟨rfl, rfl⟩
set_option maxHeartbeats 1000000 in
theorem rdo6 (a b : Int) (w : World) (ha : 0 ≤ a ∧ a < 4294967296) (hb : 0 ≤ b ∧ b < 4294967296) :
    Calls Tryz.prog 77 #[.int .u8 6, .int .u32 a, .int .u32 b] w fun e w' => e = .returned (.tuple #[.int .u32 (dv 6 a b), .bool true]) ∧ w = w' := by
  have b1 := wrap32_bd a
  have b2 := wrap32_bd b
  go_enter Tryz.func77, Tryz.ntmps77
  go_wp2_with (first | (go_at_call 137; refine (r17 _ _).mono ?_; rintro e w1 ⟨rfl, rfl⟩) | (go_at_call 138; refine (r18 _ _ (by assumption)).mono ?_; rintro e w1 ⟨rfl, rfl⟩) | (go_at_call 141; refine (r21 _ _).mono ?_; rintro e w1 ⟨rfl, rfl⟩) | (go_at_call 139; refine (r19_6 _ _ _ ha hb).mono ?_; rintro e w1 ⟨rfl, rfl⟩))
  go_ret2
  exact ⟨rfl, rfl⟩
set_option maxHeartbeats 1000000 in
theorem rdo7 (a b : Int) (w : World) (ha : 0 ≤ a ∧ a < 4294967296) (hb : 0 ≤ b ∧ b < 4294967296) :
    Calls Tryz.prog 77 #[.int .u8 7, .int .u32 a, .int .u32 b] w fun e w' => e = .returned (.tuple #[.int .u32 (dv 7 a b), .bool true]) ∧ w = w' := by
  have b1 := wrap32_bd a
  have b2 := wrap32_bd b
  go_enter Tryz.func77, Tryz.ntmps77
  go_wp2_with (first | (go_at_call 137; refine (r17 _ _).mono ?_; rintro e w1 ⟨rfl, rfl⟩) | (go_at_call 138; refine (r18 _ _ (by assumption)).mono ?_; rintro e w1 ⟨rfl, rfl⟩) | (go_at_call 141; refine (r21 _ _).mono ?_; rintro e w1 ⟨rfl, rfl⟩) | (go_at_call 139; refine (r19_7 _ _ _ ha hb).mono ?_; rintro e w1 ⟨rfl, rfl⟩))
  go_ret2
  exact ⟨rfl, rfl⟩
set_option maxHeartbeats 1000000 in
theorem rdo8 (a b : Int) (w : World) (ha : 0 ≤ a ∧ a < 4294967296) (hb : 0 ≤ b ∧ b < 4294967296) :
    Calls Tryz.prog 77 #[.int .u8 8, .int .u32 a, .int .u32 b] w fun e w' => e = .returned (.tuple #[.int .u32 (dv 8 a b), .bool true]) ∧ w = w' := by
  have b1 := wrap32_bd a
  have b2 := wrap32_bd b
  go_enter Tryz.func77, Tryz.ntmps77
  go_wp2_with (first | (go_at_call 137; refine (r17 _ _).mono ?_; rintro e w1 ⟨rfl, rfl⟩) | (go_at_call 138; refine (r18 _ _ (by assumption)).mono ?_; rintro e w1 ⟨rfl, rfl⟩) | (go_at_call 141; refine (r21 _ _).mono ?_; rintro e w1 ⟨rfl, rfl⟩) | (go_at_call 140; refine (r20_8 _ _ _ ha hb).mono ?_; rintro e w1 ⟨rfl, rfl⟩))
  go_ret2
  exact ⟨rfl, rfl⟩
set_option maxHeartbeats 1000000 in
theorem rdo9 (a b : Int) (w : World) (ha : 0 ≤ a ∧ a < 4294967296) (hb : 0 ≤ b ∧ b < 4294967296) :
    Calls Tryz.prog 77 #[.int .u8 9, .int .u32 a, .int .u32 b] w fun e w' => e = .returned (.tuple #[.int .u32 (dv 9 a b), .bool true]) ∧ w = w' := by
  have b1 := wrap32_bd a
  have b2 := wrap32_bd b
  go_enter Tryz.func77, Tryz.ntmps77
  go_wp2_with (first | (go_at_call 137; refine (r17 _ _).mono ?_; rintro e w1 ⟨rfl, rfl⟩) | (go_at_call 138; refine (r18 _ _ (by assumption)).mono ?_; rintro e w1 ⟨rfl, rfl⟩) | (go_at_call 141; refine (r21 _ _).mono ?_; rintro e w1 ⟨rfl, rfl⟩) | (go_at_call 140; refine (r20_9 _ _ _ ha hb).mono ?_; rintro e w1 ⟨rfl, rfl⟩))
  go_ret2
  exact ⟨rfl, rfl⟩
set_option maxHeartbeats 1000000 in
theorem rdo10 (a b : Int) (w : World) (ha : 0 ≤ a ∧ a < 4294967296) (hb : 0 ≤ b ∧ b < 4294967296) :
    Calls Tryz.prog 77 #[.int .u8 10, .int .u32 a, .int .u32 b] w fun e w' => e = .returned (.tuple #[.int .u32 (dv 10 a b), .bool true]) ∧ w = w' := by
  have b1 := wrap32_bd a
  have b2 := wrap32_bd b
  go_enter Tryz.func77, Tryz.ntmps77
  go_wp2_with (first | (go_at_call 137; refine (r17 _ _).mono ?_; rintro e w1 ⟨rfl, rfl⟩) | (go_at_call 138; refine (r18 _ _ (by assumption)).mono ?_; rintro e w1 ⟨rfl, rfl⟩) | (go_at_call 141; refine (r21 _ _).mono ?_; rintro e w1 ⟨rfl, rfl⟩) | (go_at_call 140; refine (r20_10 _ _ _ ha hb).mono ?_; rintro e w1 ⟨rfl, rfl⟩))
  go_ret2
  exact ⟨rfl, rfl⟩
set_option maxHeartbeats 1000000 in
theorem rdo11 (a b : Int) (w : World) (ha : 0 ≤ a ∧ a < 4294967296) (hb : 0 ≤ b ∧ b < 4294967296) :
    Calls Tryz.prog 77 #[.int .u8 11, .int .u32 a, .int .u32 b] w fun e w' => e = .returned (.tuple #[.int .u32 (dv 11 a b), .bool true]) ∧ w = w' := by
  have b1 := wrap32_bd a
  have b2 := wrap32_bd b
  go_enter Tryz.func77, Tryz.ntmps77
  go_wp2_with (first | (go_at_call 137; refine (r17 _ _).mono ?_; rintro e w1 ⟨rfl, rfl⟩) | (go_at_call 138; refine (r18 _ _ (by assumption)).mono ?_; rintro e w1 ⟨rfl, rfl⟩) | (go_at_call 141; refine (r21 _ _).mono ?_; rintro e w1 ⟨rfl, rfl⟩))
  go_ret2
  exact ⟨rfl, rfl⟩
set_option maxHeartbeats 1000000 in
theorem rdo12 (a b : Int) (w : World) (ha : 0 ≤ a ∧ a < 4294967296) (hb : 0 ≤ b ∧ b < 4294967296) :
    Calls Tryz.prog 77 #[.int .u8 12, .int .u32 a, .int .u32 b] w fun e w' => e = .returned (.tuple #[.int .u32 (dv 12 a b), .bool true]) ∧ w = w' := by
  have b1 := wrap32_bd a
  have b2 := wrap32_bd b
  go_enter Tryz.func77, Tryz.ntmps77
  go_wp2_with (first | (go_at_call 137; refine (r17 _ _).mono ?_; rintro e w1 ⟨rfl, rfl⟩) | (go_at_call 138; refine (r18 _ _ (by assumption)).mono ?_; rintro e w1 ⟨rfl, rfl⟩) | (go_at_call 141; refine (r21 _ _).mono ?_; rintro e w1 ⟨rfl, rfl⟩))
  go_ret2
  exact ⟨rfl, rfl⟩
set_option maxHeartbeats 1000000 in
theorem rdo13 (a b : Int) (w : World) (ha : 0 ≤ a ∧ a < 4294967296) (hb : 0 ≤ b ∧ b < 4294967296) :
    Calls Tryz.prog 77 #[.int .u8 13, .int .u32 a, .int .u32 b] w fun e w' => e = .returned (.tuple #[.int .u32 (dv 13 a b), .bool true]) ∧ w = w' := by
  have b1 := wrap32_bd a
  have b2 := wrap32_bd b
  go_enter Tryz.func77, Tryz.ntmps77
  go_wp2_with (first | (go_at_call 137; refine (r17 _ _).mono ?_; rintro e w1 ⟨rfl, rfl⟩) | (go_at_call 138; refine (r18 _ _ (by assumption)).mono ?_; rintro e w1 ⟨rfl, rfl⟩) | (go_at_call 141; refine (r21 _ _).mono ?_; rintro e w1 ⟨rfl, rfl⟩))
  go_ret2
  exact ⟨rfl, rfl⟩
set_option maxHeartbeats 1000000 in
theorem rdo30 (a : Int) (w : World) :
    Calls Tryz.prog 77 #[.int .u8 3, .int .u32 a, .int .u32 0] w fun e w' => e = .returned (.tuple #[.int .u32 0, .bool false]) ∧ w = w' := by
  go_enter Tryz.func77, Tryz.ntmps77
  go_wp2
  go_ret2
  exact ⟨rfl, rfl⟩
set_option maxHeartbeats 1000000 in
theorem rdo40 (a : Int) (w : World) :
    Calls Tryz.prog 77 #[.int .u8 4, .int .u32 a, .int .u32 0] w fun e w' => e = .returned (.tuple #[.int .u32 0, .bool false]) ∧ w = w' := by
  go_enter Tryz.func77, Tryz.ntmps77
  go_wp2
  go_ret2
  exact ⟨rfl, rfl⟩
theorem rdo_none (op a b : Int) (w : World) (h : 14 ≤ op ∧ op ≤ 255) :
    Calls Tryz.prog 77 #[.int .u8 op, .int .u32 a, .int .u32 b] w fun e w' => e = .returned (.tuple #[.int .u32 0, .bool false]) ∧ w = w' := by
  go_enter Tryz.func77, Tryz.ntmps77
  go_wp2
  go_ret2
  exact ⟨rfl, rfl⟩
theorem rdo_any (op a b : Int) (w : World) (h : 0 ≤ op ∧ op ≤ 255) (ha : 0 ≤ a ∧ a < 4294967296) (hb : 0 ≤ b ∧ b < 4294967296) :
    Calls Tryz.prog 77 #[.int .u8 op, .int .u32 a, .int .u32 b] w fun e w' => e = .returned (.tuple #[.int .u32 (dv op a b), .bool (dok op b)]) ∧ w = w' := by
  by_cases h14 : 14 ≤ op
  · rw [dv_no op a b h14, dok_no op b h14]; exact rdo_none op a b w ⟨h14, h.2⟩
  have hcases : op = 0 ∨ op = 1 ∨ op = 2 ∨ op = 3 ∨ op = 4 ∨ op = 5 ∨ op = 6 ∨ op = 7 ∨ op = 8 ∨ op = 9 ∨ op = 10 ∨ op = 11 ∨ op = 12 ∨ op = 13 := by omega
  clear h14 h
  rcases hcases with rfl | rfl | rfl | rfl | rfl | rfl | rfl | rfl | rfl | rfl | rfl | rfl | rfl | rfl
  · exact rdo0 a b w ha hb
  · exact rdo1 a b w ha hb
  · exact rdo2 a b w ha hb
  · by_cases h0 : b = 0
    · subst h0; exact rdo30 a w
    · rw [dok_div 3 b (by decide) h0]; exact rdo3 a b w ha hb h0
  · by_cases h0 : b = 0
    · subst h0; exact rdo40 a w
    · rw [dok_div 4 b (by decide) h0]; exact rdo4 a b w ha hb h0
  · exact rdo5 a b w ha hb
  · exact rdo6 a b w ha hb
  · exact rdo7 a b w ha hb
  · exact rdo8 a b w ha hb
  · exact rdo9 a b w ha hb
  · exact rdo10 a b w ha hb
  · exact rdo11 a b w ha hb
  · exact rdo12 a b w ha hb
  · exact rdo13 a b w ha hb
end Go.Proofs.YtiobgnelhiadbaaGreatDoor.W1
namespace Go.Proofs.YtiobgnelhiadbaaGreatDoor.W1
open Go.RowKit
set_option linter.unusedVariables false
theorem when_any (p : Bool) (k : Int) (w : World) :
    Calls Tryz.prog 296 #[.bool p, .int .u8 k] w fun e w' => e = .returned (.int .u8 (wh p k)) ∧ w = w' := by
  cases p
  · go_enter Tryz.func296, Tryz.ntmps296
    go_wp2
    go_ret
    exact ⟨rfl, rfl⟩
  · go_enter Tryz.func296, Tryz.ntmps296
    go_wp2
    go_ret
    exact ⟨rfl, rfl⟩
theorem combine_any (b n : Nat) (xs : List Int) (w : World) (hl : (n : Int) ≤ 1000) (hc : ∀ k, k < n → w.cell? ⟨b, k, none⟩ = some (.int .u8 (xs.getD k 0))) :
    Calls Tryz.prog 295 #[.slice (some ⟨b, 0, none⟩) n n] w fun e w' => e = .returned (.int .u8 (orTo xs n)) ∧ w = w' := by
  have HC : Hid (∀ k, k < n → w.cell? ⟨b, k, none⟩ = some (.int .u8 (xs.getD k 0))) := hc
  clear hc
  go_enter Tryz.func295, Tryz.ntmps295
  go_wp2
  go_loop [3, 8] (fun t i => ∃ k : Nat, k ≤ n ∧ i = .int .i64 (k : Int) ∧ t = .int .u8 (orTo xs k)) (fun _ i => n - (intOf i).toNat)
  case atStart => exact ⟨0, Nat.zero_le _, rfl, rfl⟩
  case round =>
    obtain ⟨k, hk, rfl, rfl⟩ := hrel
    by_cases hlt : k < n
    · have hcell : w.cell? ⟨b, k, none⟩ = some (.int .u8 (xs.getD k 0)) := HC.out k hlt
      have H : Hid (orTo xs (k + 1) = bits .or .u8 (orTo xs k) (xs.getD k 0)) := by unfold Hid; rfl
      generalize xs.getD k 0 = x at hcell H
      go_wp2
      refine ⟨⟨k + 1, by omega, rfl, ?_⟩, ?_⟩
      · rw [H.out]
      · simp only [intOf]; omega
    · have hkn : k = n := by omega
      subst hkn
      go_wp2
      go_ret
      exact ⟨rfl, rfl⟩
theorem combine4 (p q r s : Bool) (w : World) :
    Calls Tryz.prog 295 #[.slice (some ⟨w.heap.size, 0, none⟩) 4 4] (w.alloc (.cells #[.int .u8 (wh p 8), .int .u8 (wh q 4), .int .u8 (wh r 2), .int .u8 (wh s 1)] 5))
      fun e w' => e = .returned (.int .u8 (8 * tr p + 4 * tr q + 2 * tr r + tr s)) ∧ w.alloc (.cells #[.int .u8 (wh p 8), .int .u8 (wh q 4), .int .u8 (wh r 2), .int .u8 (wh s 1)] 5) = w' := by
  rw [← orTo_4]
  refine combine_any w.heap.size 4 _ _ (by decide) ?_
  intro k hk
  rw [cell_of_row _ _ _ _ _ _ (heap_alloc_last _ _)]
  rcases (by omega : k = 0 ∨ k = 1 ∨ k = 2 ∨ k = 3) with rfl | rfl | rfl | rfl <;> rfl
theorem flags_any (a b : Int) (w : World) (ha : 0 ≤ a ∧ a < 4294967296) (hb : 0 ≤ b ∧ b < 4294967296) :
    Calls Tryz.prog 264 #[.int .u32 a, .int .u32 b] w fun e w' => e = .returned (.int .u8 (fl a b)) ∧ Grown w w' := by
  have b1 := wrap32_bd a
  have b2 := wrap32_bd b
  have b3 := wrap32_bd ((a - b) % 4294967296)
  go_enter Tryz.func264, Tryz.ntmps264
  go_wp2_with (first | (go_at_call 296; refine (when_any _ _ _).mono ?_; rintro e w1 ⟨rfl, rfl⟩) | (go_at_call 295; refine (combine4 _ _ _ _ _).mono ?_; rintro e w1 ⟨rfl, rfl⟩))
  go_ret
  exact ⟨rfl, (Grown.refl _).alloc _ _⟩
theorem has_any (f k : Int) (w : World) (hf : 0 ≤ f ∧ f ≤ 255) (hk : 1 ≤ k ∧ k ≤ 255) :
    Calls Tryz.prog 202 #[.int .u8 f, .int .u8 k] w fun e w' => e = .returned (.bool (fbit f k)) ∧ w = w' := by
  have h0 : 0 ≤ f / k := Int.ediv_nonneg hf.1 (by omega)
  go_enter Tryz.func202, Tryz.ntmps202
  go_wp2
  go_ret
  exact ⟨rfl, rfl⟩
set_option maxHeartbeats 1000000 in
theorem rflags_at (a b : Int) (w : World) (ha : 0 ≤ a ∧ a < 4294967296) (hb : 0 ≤ b ∧ b < 4294967296) (p q r s : Bool)
    (hp : decide (wrap32 ((a - b) % 4294967296) < 0) = p) (hq : ((a - b) % 4294967296 == 0) = q) (hr : (wrap32 a - wrap32 b != wrap32 ((a - b) % 4294967296)) = r) (hs : decide (a < b) = s) :
    Calls Tryz.prog 142 #[.int .u32 a, .int .u32 b] w fun e w' => e = .returned (.int .u8 (8 * tr p + 4 * tr q + 2 * tr r + tr s)) ∧ w = w' := by
  have b1 := wrap32_bd a
  have b2 := wrap32_bd b
  have b3 := wrap32_bd ((a - b) % 4294967296)
  have b4 : 0 ≤ (a - b) % 4294967296 ∧ (a - b) % 4294967296 < 4294967296 := by omega
  cases p <;> cases q <;> cases r <;> cases s
  all_goals
    go_enter Tryz.func142, Tryz.ntmps142
    go_wp2_with (first | (go_at_call 137; refine (r17 _ _).mono ?_; rintro e w1 ⟨rfl, rfl⟩) | (go_at_call 138; refine (r18 _ _ (by assumption)).mono ?_; rintro e w1 ⟨rfl, rfl⟩))
    go_ret
    exact ⟨rfl, rfl⟩
theorem rflags_any (a b : Int) (w : World) (ha : 0 ≤ a ∧ a < 4294967296) (hb : 0 ≤ b ∧ b < 4294967296) :
    Calls Tryz.prog 142 #[.int .u32 a, .int .u32 b] w fun e w' => e = .returned (.int .u8 (fl a b)) ∧ w = w' :=
  rflags_at a b w ha hb _ _ _ _ rfl rfl rfl rfl

/-! Conditions. -/
theorem hv_no (c f : Int) (h : 7 ≤ c) : hv c f = false := by
  unfold hv
  repeat' rw [if_neg (by omega)]
theorem holds0 (f : Int) (w : World) (hf : 0 ≤ f ∧ f ≤ 255) :
    Calls Tryz.prog 266 #[.int .u8 0, .int .u8 f] w fun e w' => e = .returned (.bool (hv 0 f)) ∧ w = w' := by
  have e8 := and8 f hf
  have e4 := and4 f hf
  have e2 := and2 f hf
  have e1 := and1 f hf
  go_enter Tryz.func266, Tryz.ntmps266
  go_wp2
  go_ret
  exact ⟨rfl, rfl⟩
theorem holds1 (f : Int) (w : World) (hf : 0 ≤ f ∧ f ≤ 255) :
    Calls Tryz.prog 266 #[.int .u8 1, .int .u8 f] w fun e w' => e = .returned (.bool (hv 1 f)) ∧ w = w' := by
  have e8 := and8 f hf
  have e4 := and4 f hf
  have e2 := and2 f hf
  have e1 := and1 f hf
  go_enter Tryz.func266, Tryz.ntmps266
  go_wp2
  go_ret
  exact ⟨rfl, rfl⟩
theorem holds2 (f : Int) (w : World) (hf : 0 ≤ f ∧ f ≤ 255) :
    Calls Tryz.prog 266 #[.int .u8 2, .int .u8 f] w fun e w' => e = .returned (.bool (hv 2 f)) ∧ w = w' := by
  have e8 := and8 f hf
  have e4 := and4 f hf
  have e2 := and2 f hf
  have e1 := and1 f hf
  go_enter Tryz.func266, Tryz.ntmps266
  go_wp2
  go_ret
  exact ⟨rfl, rfl⟩
theorem holds3 (f : Int) (w : World) (hf : 0 ≤ f ∧ f ≤ 255) :
    Calls Tryz.prog 266 #[.int .u8 3, .int .u8 f] w fun e w' => e = .returned (.bool (hv 3 f)) ∧ w = w' := by
  have e8 := and8 f hf
  have e4 := and4 f hf
  have e2 := and2 f hf
  have e1 := and1 f hf
  go_enter Tryz.func266, Tryz.ntmps266
  go_wp2
  go_ret
  exact ⟨rfl, rfl⟩
theorem holds4 (f : Int) (w : World) (hf : 0 ≤ f ∧ f ≤ 255) :
    Calls Tryz.prog 266 #[.int .u8 4, .int .u8 f] w fun e w' => e = .returned (.bool (hv 4 f)) ∧ w = w' := by
  have e8 := and8 f hf
  have e4 := and4 f hf
  have e2 := and2 f hf
  have e1 := and1 f hf
  go_enter Tryz.func266, Tryz.ntmps266
  go_wp2
  go_ret
  exact ⟨rfl, rfl⟩
theorem holds5 (f : Int) (w : World) (hf : 0 ≤ f ∧ f ≤ 255) :
    Calls Tryz.prog 266 #[.int .u8 5, .int .u8 f] w fun e w' => e = .returned (.bool (hv 5 f)) ∧ w = w' := by
  have e8 := and8 f hf
  have e4 := and4 f hf
  have e2 := and2 f hf
  have e1 := and1 f hf
  go_enter Tryz.func266, Tryz.ntmps266
  go_wp2
  go_ret
  exact ⟨rfl, rfl⟩
theorem holds6 (f : Int) (w : World) (hf : 0 ≤ f ∧ f ≤ 255) :
    Calls Tryz.prog 266 #[.int .u8 6, .int .u8 f] w fun e w' => e = .returned (.bool (hv 6 f)) ∧ w = w' := by
  have e8 := and8 f hf
  have e4 := and4 f hf
  have e2 := and2 f hf
  have e1 := and1 f hf
  go_enter Tryz.func266, Tryz.ntmps266
  go_wp2
  go_ret
  exact ⟨rfl, rfl⟩
theorem holds_none (c f : Int) (w : World) (hc : 7 ≤ c ∧ c ≤ 255) :
    Calls Tryz.prog 266 #[.int .u8 c, .int .u8 f] w fun e w' => e = .returned (.bool false) ∧ w = w' := by
  go_enter Tryz.func266, Tryz.ntmps266
  go_wp2
  go_ret
  exact ⟨rfl, rfl⟩
/-- What Holds comes to, whatever the condition and the flags. -/
theorem holds_any (c f : Int) (w : World) (hc : 0 ≤ c ∧ c ≤ 255) (hf : 0 ≤ f ∧ f ≤ 255) :
    Calls Tryz.prog 266 #[.int .u8 c, .int .u8 f] w fun e w' => e = .returned (.bool (hv c f)) ∧ w = w' := by
  by_cases h7 : 7 ≤ c
  · rw [hv_no c f h7]; exact holds_none c f w ⟨h7, hc.2⟩
  have hcases : c = 0 ∨ c = 1 ∨ c = 2 ∨ c = 3 ∨ c = 4 ∨ c = 5 ∨ c = 6 := by omega
  clear h7 hc
  rcases hcases with rfl | rfl | rfl | rfl | rfl | rfl | rfl
  · exact holds0 f w hf
  · exact holds1 f w hf
  · exact holds2 f w hf
  · exact holds3 f w hf
  · exact holds4 f w hf
  · exact holds5 f w hf
  · exact holds6 f w hf
theorem rholds0 (f : Int) (w : World) (hf : 0 ≤ f ∧ f ≤ 255) :
    Calls Tryz.prog 143 #[.int .u8 0, .int .u8 f] w fun e w' => e = .returned (.bool (hv 0 f)) ∧ w = w' := by
  go_enter Tryz.func143, Tryz.ntmps143
  go_wp2_with (go_at_call 202; refine (has_any _ _ _ hf (by decide)).mono ?_; rintro e w1 ⟨rfl, rfl⟩)
  go_ret
  exact ⟨rfl, rfl⟩
theorem rholds1 (f : Int) (w : World) (hf : 0 ≤ f ∧ f ≤ 255) :
    Calls Tryz.prog 143 #[.int .u8 1, .int .u8 f] w fun e w' => e = .returned (.bool (hv 1 f)) ∧ w = w' := by
  go_enter Tryz.func143, Tryz.ntmps143
  go_wp2_with (go_at_call 202; refine (has_any _ _ _ hf (by decide)).mono ?_; rintro e w1 ⟨rfl, rfl⟩)
  go_ret
  exact ⟨rfl, rfl⟩
theorem rholds2 (f : Int) (w : World) (hf : 0 ≤ f ∧ f ≤ 255) :
    Calls Tryz.prog 143 #[.int .u8 2, .int .u8 f] w fun e w' => e = .returned (.bool (hv 2 f)) ∧ w = w' := by
  go_enter Tryz.func143, Tryz.ntmps143
  go_wp2_with (go_at_call 202; refine (has_any _ _ _ hf (by decide)).mono ?_; rintro e w1 ⟨rfl, rfl⟩)
  go_ret
  exact ⟨rfl, rfl⟩
theorem rholds3 (f : Int) (w : World) (hf : 0 ≤ f ∧ f ≤ 255) :
    Calls Tryz.prog 143 #[.int .u8 3, .int .u8 f] w fun e w' => e = .returned (.bool (hv 3 f)) ∧ w = w' := by
  go_enter Tryz.func143, Tryz.ntmps143
  go_wp2_with (go_at_call 202; refine (has_any _ _ _ hf (by decide)).mono ?_; rintro e w1 ⟨rfl, rfl⟩)
  go_ret
  exact ⟨rfl, rfl⟩
theorem rholds4 (f : Int) (w : World) (hf : 0 ≤ f ∧ f ≤ 255) :
    Calls Tryz.prog 143 #[.int .u8 4, .int .u8 f] w fun e w' => e = .returned (.bool (hv 4 f)) ∧ w = w' := by
  go_enter Tryz.func143, Tryz.ntmps143
  go_wp2_with (go_at_call 202; refine (has_any _ _ _ hf (by decide)).mono ?_; rintro e w1 ⟨rfl, rfl⟩)
  go_ret
  exact ⟨rfl, rfl⟩
theorem rholds5 (f : Int) (w : World) (hf : 0 ≤ f ∧ f ≤ 255) :
    Calls Tryz.prog 143 #[.int .u8 5, .int .u8 f] w fun e w' => e = .returned (.bool (hv 5 f)) ∧ w = w' := by
  go_enter Tryz.func143, Tryz.ntmps143
  go_wp2_with (go_at_call 202; refine (has_any _ _ _ hf (by decide)).mono ?_; rintro e w1 ⟨rfl, rfl⟩)
  go_ret
  exact ⟨rfl, rfl⟩
theorem rholds6 (f : Int) (w : World) (hf : 0 ≤ f ∧ f ≤ 255) :
    Calls Tryz.prog 143 #[.int .u8 6, .int .u8 f] w fun e w' => e = .returned (.bool (hv 6 f)) ∧ w = w' := by
  go_enter Tryz.func143, Tryz.ntmps143
  go_wp2_with (go_at_call 202; refine (has_any _ _ _ hf (by decide)).mono ?_; rintro e w1 ⟨rfl, rfl⟩)
  go_ret
  exact ⟨rfl, rfl⟩
theorem rholds_none (c f : Int) (w : World) (hc : 7 ≤ c ∧ c ≤ 255) :
    Calls Tryz.prog 143 #[.int .u8 c, .int .u8 f] w fun e w' => e = .returned (.bool false) ∧ w = w' := by
  go_enter Tryz.func143, Tryz.ntmps143
  go_wp2
  go_ret
  exact ⟨rfl, rfl⟩
theorem rholds_any (c f : Int) (w : World) (hc : 0 ≤ c ∧ c ≤ 255) (hf : 0 ≤ f ∧ f ≤ 255) :
    Calls Tryz.prog 143 #[.int .u8 c, .int .u8 f] w fun e w' => e = .returned (.bool (hv c f)) ∧ w = w' := by
  by_cases h7 : 7 ≤ c
  · rw [hv_no c f h7]; exact rholds_none c f w ⟨h7, hc.2⟩
  have hcases : c = 0 ∨ c = 1 ∨ c = 2 ∨ c = 3 ∨ c = 4 ∨ c = 5 ∨ c = 6 := by omega
  clear h7 hc
  rcases hcases with rfl | rfl | rfl | rfl | rfl | rfl | rfl
  · exact rholds0 f w hf
  · exact rholds1 f w hf
  · exact rholds2 f w hf
  · exact rholds3 f w hf
  · exact rholds4 f w hf
  · exact rholds5 f w hf
  · exact rholds6 f w hf
end Go.Proofs.YtiobgnelhiadbaaGreatDoor.W1
