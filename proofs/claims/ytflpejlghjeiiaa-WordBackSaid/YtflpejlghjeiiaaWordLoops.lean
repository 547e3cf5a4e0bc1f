/- Plain arithmetic for the document's answer of layer 1: its loops bit by bit and shift by shift come to what WordMath says. -/
import Derived.Test.YtflpejlghjeiiaaWordMath
namespace Go.Proofs.Ytflpejlghjeiiaa
open Go.RowKit
/-- Bit by bit: 5 and, 6 or, 7 exclusive or. -/
def bop (op : Int) (x y : Nat) : Nat := if op = 5 then x &&& y else if op = 6 then x ||| y else x ^^^ y
def bz (op : Int) (x y : Int) : Int := if op = 5 then x * y else if op = 6 then max x y else (x + y) % 2
theorem bop_step (op : Int) (x y : Nat) : (bop op x y : Int) = 2 * (bop op (x / 2) (y / 2) : Int) + bz op ((x : Int) % 2) ((y : Int) % 2) := by
  have hx : (x : Int) % 2 = 0 ∨ (x : Int) % 2 = 1 := by omega
  have hy : (y : Int) % 2 = 0 ∨ (y : Int) % 2 = 1 := by omega
  unfold bop bz
  by_cases h5 : op = 5
  · simp only [h5, if_true]
    have h1 := @Nat.and_div_two x y
    have h2 := @Nat.and_mod_two_eq_one x y
    rw [← h1]
    rcases hx with hx | hx <;> rcases hy with hy | hy <;> rw [hx, hy] <;> simp <;> omega
  · by_cases h6 : op = 6
    · simp only [h6, if_true]
      have h1 := @Nat.or_div_two x y
      have h2 := @Nat.or_mod_two_eq_one x y
      simp only [show ¬ ((6 : Int) = 5) by decide, if_false]
      rw [← h1]
      rcases hx with hx | hx <;> rcases hy with hy | hy <;> rw [hx, hy] <;> simp <;> omega
    · simp only [h5, h6, if_false]
      have h1 := @Nat.xor_div_two x y
      have h2 := @Nat.xor_mod_two_eq_one x y
      rw [← h1]
      rcases hx with hx | hx <;> rcases hy with hy | hy <;> rw [hx, hy] <;> simp <;> omega
theorem bop_bd (op : Int) (x y n : Nat) (hx : x < 2 ^ n) (hy : y < 2 ^ n) : bop op x y < 2 ^ n := by
  unfold bop
  repeat' split
  · exact Nat.and_lt_two_pow x hy
  · exact Nat.or_lt_two_pow hx hy
  · exact Nat.xor_lt_two_pow hx hy
theorem bop_dv (op : Int) (h : op = 5 ∨ op = 6 ∨ op = 7) (x y : Nat) (hx : x < 4294967296) (hy : y < 4294967296) : (bop op x y : Int) = dv op x y := by
  rcases h with rfl | rfl | rfl
  · rw [dv_5, u32_and_nat x y hx hy]; rfl
  · rw [dv_6, u32_or_nat x y hx hy]; rfl
  · rw [dv_7, u32_xor_nat x y hx hy]; rfl
/-- The k-th shift by one. -/
def shk (op a : Int) (k : Nat) : Int := if op = 8 then a * 2 ^ k % 4294967296 else if op = 9 then a / 2 ^ k else wrap32 a / 2 ^ k % 4294967296
theorem two_pow_pos (k : Nat) : (0 : Int) < 2 ^ k := Int.pow_pos (by decide)
theorem ediv_step (a : Int) (k : Nat) : a / 2 ^ (k + 1) = a / 2 ^ k / 2 := by
  rw [Int.ediv_ediv_of_nonneg (Int.le_of_lt (two_pow_pos k)), ← Int.pow_succ]
theorem shk_8 (a : Int) (k : Nat) : shk 8 a (k + 1) = 2 * shk 8 a k % 4294967296 := by
  unfold shk
  simp only [if_true]
  rw [Int.pow_succ, ← Int.mul_assoc]
  omega
theorem shk_9 (a : Int) (k : Nat) : shk 9 a (k + 1) = shk 9 a k / 2 := by
  unfold shk
  simp only [show ¬ ((9 : Int) = 8) by decide, if_true, if_false]
  exact ediv_step a k
theorem ediv_pow_bd (x : Int) (k : Nat) (h : -2147483648 ≤ x ∧ x ≤ 2147483647) : -2147483648 ≤ x / 2 ^ k ∧ x / 2 ^ k ≤ 2147483647 := by
  induction k with
  | zero => simpa using h
  | succ k ih => rw [ediv_step]; omega
theorem shk_10 (a : Int) (k : Nat) : shk 10 a (k + 1) = shk 10 a k / 2 + shk 10 a k / 2147483648 * 2147483648 := by
  unfold shk
  simp only [show ¬ ((10 : Int) = 8) by decide, show ¬ ((10 : Int) = 9) by decide, if_false]
  rw [ediv_step]
  have h := ediv_pow_bd (wrap32 a) k (wrap32_bd a)
  generalize wrap32 a / 2 ^ k = x at h
  omega
theorem shk_0 (op a : Int) (ha : 0 ≤ a ∧ a < 4294967296) : shk op a 0 = a := by
  unfold shk
  have := wrap32_mod a
  repeat' split
  all_goals simp
  all_goals omega
theorem shk_bd (op a : Int) (k : Nat) (ha : 0 ≤ a ∧ a < 4294967296) : 0 ≤ shk op a k ∧ shk op a k < 4294967296 := by
  unfold shk
  have h1 := Int.ediv_nonneg ha.1 (b := 2 ^ k) (Int.le_of_lt (two_pow_pos k))
  have h2 := Int.ediv_le_self (2 ^ k) ha.1
  repeat' split
  all_goals omega
theorem shk_dv (op a b : Int) (h : op = 8 ∨ op = 9 ∨ op = 10) : shk op a (b % 32).toNat = dv op a b := by
  rcases h with rfl | rfl | rfl <;> rfl

theorem div_pow_succ (a j : Nat) : a / 2 ^ (j + 1) = a / 2 ^ j / 2 := by
  rw [Nat.div_div_eq_div_mul, ← Nat.pow_succ]
theorem cast_div_pow (a j : Nat) : (a : Int) / 2 ^ j = ((a / 2 ^ j : Nat) : Int) := by simp
theorem tmod2 (x : Nat) : ((x : Nat) : Int).tmod 2 = (x : Int) % 2 := rfl
theorem div_pow_lt (a j : Nat) (h : a < 4294967296) : a / 2 ^ j < 2 ^ 32 := Nat.lt_of_le_of_lt (Nat.div_le_self _ _) h
/-- A round of the loop over bits, as the walk spells it. -/
theorem round5 (a b j : Nat) (ha : a < 4294967296) (hb : b < 4294967296) :
    (2 * (bop 5 (a / 2 ^ (j + 1)) (b / 2 ^ (j + 1)) : Int) % 4294967296 + ((a : Int) / 2 ^ j).tmod 2 * ((b : Int) / 2 ^ j).tmod 2 % 4294967296) % 4294967296 = (bop 5 (a / 2 ^ j) (b / 2 ^ j) : Int) := by
  rw [div_pow_succ, div_pow_succ, cast_div_pow, cast_div_pow, tmod2, tmod2]
  have hl := bop_bd 5 _ _ 32 (div_pow_lt a j ha) (div_pow_lt b j hb)
  have hs := bop_step 5 (a / 2 ^ j) (b / 2 ^ j)
  generalize a / 2 ^ j = x at *
  generalize b / 2 ^ j = y at *
  unfold bz at hs
  simp only [if_true] at hs
  have hx : (x : Int) % 2 = 0 ∨ (x : Int) % 2 = 1 := by omega
  have hy : (y : Int) % 2 = 0 ∨ (y : Int) % 2 = 1 := by omega
  rcases hx with hx | hx <;> rcases hy with hy | hy <;> rw [hx, hy] at hs ⊢ <;> omega
theorem round6 (a b j : Nat) (ha : a < 4294967296) (hb : b < 4294967296) :
    (2 * (bop 6 (a / 2 ^ (j + 1)) (b / 2 ^ (j + 1)) : Int) % 4294967296 + (if ((a : Int) / 2 ^ j).tmod 2 < ((b : Int) / 2 ^ j).tmod 2 then ((b : Int) / 2 ^ j).tmod 2 else ((a : Int) / 2 ^ j).tmod 2)) % 4294967296 = (bop 6 (a / 2 ^ j) (b / 2 ^ j) : Int) := by
  rw [div_pow_succ, div_pow_succ, cast_div_pow, cast_div_pow, tmod2, tmod2]
  have hl := bop_bd 6 _ _ 32 (div_pow_lt a j ha) (div_pow_lt b j hb)
  have hs := bop_step 6 (a / 2 ^ j) (b / 2 ^ j)
  generalize a / 2 ^ j = x at *
  generalize b / 2 ^ j = y at *
  unfold bz at hs
  simp only [show ¬ ((6 : Int) = 5) by decide, if_false, if_true] at hs
  have hx : (x : Int) % 2 = 0 ∨ (x : Int) % 2 = 1 := by omega
  have hy : (y : Int) % 2 = 0 ∨ (y : Int) % 2 = 1 := by omega
  rcases hx with hx | hx <;> rcases hy with hy | hy <;> rw [hx, hy] at hs ⊢ <;> simp at hs ⊢ <;> omega
theorem round7 (a b j : Nat) (ha : a < 4294967296) (hb : b < 4294967296) :
    2 * (bop 7 (a / 2 ^ (j + 1)) (b / 2 ^ (j + 1)) : Int) % 4294967296 + (((a : Int) / 2 ^ j).tmod 2 + ((b : Int) / 2 ^ j).tmod 2) % 2 = (bop 7 (a / 2 ^ j) (b / 2 ^ j) : Int) := by
  rw [div_pow_succ, div_pow_succ, cast_div_pow, cast_div_pow, tmod2, tmod2]
  have hl := bop_bd 7 _ _ 32 (div_pow_lt a j ha) (div_pow_lt b j hb)
  have hs := bop_step 7 (a / 2 ^ j) (b / 2 ^ j)
  generalize a / 2 ^ j = x at *
  generalize b / 2 ^ j = y at *
  unfold bz at hs
  simp only [show ¬ ((7 : Int) = 5) by decide, show ¬ ((7 : Int) = 6) by decide, if_false] at hs
  omega
theorem bop_start (op : Int) (a b : Nat) (ha : a < 4294967296) (hb : b < 4294967296) : (bop op (a / 2 ^ 32) (b / 2 ^ 32) : Int) = 0 := by
  rw [Nat.div_eq_of_lt ha, Nat.div_eq_of_lt hb]
  unfold bop
  repeat' split
  all_goals rfl
end Go.Proofs.Ytflpejlghjeiiaa
