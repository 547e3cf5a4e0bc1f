/- Plain arithmetic of layer 1 (word), which imports nothing of the translation: what the operations, the flags and the conditions come to as integers, and facts on them. -/
import Derived.RowKit
import Derived.Laws.Entries
import Derived.Laws.BitsAllLaws
namespace Go.Proofs.YtoecanjhkbeemaaGreatDoor.W1
open Go.RowKit

/-- 1 or 0. -/
def tr (p : Bool) : Int := if p then 1 else 0
theorem tr_true : tr true = 1 := rfl
theorem tr_false : tr false = 0 := rfl
theorem tr_eq (p : Bool) : (tr p == 1) = p := by cases p <;> rfl
theorem tr_bd (p : Bool) : 0 ≤ tr p ∧ tr p ≤ 1 := by cases p <;> decide

/-- What an operation makes (0 where there is no result). -/
def dv (op a b : Int) : Int :=
  if op = 0 then (a + b) % 4294967296
  else if op = 1 then (a - b) % 4294967296
  else if op = 2 then a * b % 4294967296
  else if op = 3 then (if b = 0 then 0 else (wrap32 a).tdiv (wrap32 b) % 4294967296)
  else if op = 4 then (if b = 0 then 0 else (wrap32 a).tmod (wrap32 b) % 4294967296)
  else if op = 5 then bits .and .u32 a b
  else if op = 6 then bits .or .u32 a b
  else if op = 7 then bits .xor .u32 a b
  else if op = 8 then a * 2 ^ (b % 32).toNat % 4294967296
  else if op = 9 then a / 2 ^ (b % 32).toNat
  else if op = 10 then wrap32 a / 2 ^ (b % 32).toNat % 4294967296
  else if op = 11 then tr (decide (wrap32 a < wrap32 b))
  else if op = 12 then tr (decide (a < b))
  else if op = 13 then tr (a == b)
  else 0
/-- Whether there is a result. -/
def dok (op b : Int) : Bool := decide (op ≤ 13) && !((op == 3 || op == 4) && b == 0)

theorem dv_0 (a b : Int) : dv 0 a b = (a + b) % 4294967296 := rfl
theorem dv_1 (a b : Int) : dv 1 a b = (a - b) % 4294967296 := rfl
theorem dv_2 (a b : Int) : dv 2 a b = a * b % 4294967296 := rfl
theorem dv_3 (a b : Int) (h : b ≠ 0) : dv 3 a b = (wrap32 a).tdiv (wrap32 b) % 4294967296 := by unfold dv; simp [h]
theorem dv_4 (a b : Int) (h : b ≠ 0) : dv 4 a b = (wrap32 a).tmod (wrap32 b) % 4294967296 := by unfold dv; simp [h]
theorem dv_30 (a : Int) : dv 3 a 0 = 0 := rfl
theorem dv_40 (a : Int) : dv 4 a 0 = 0 := rfl
theorem dv_5 (a b : Int) : dv 5 a b = bits .and .u32 a b := rfl
theorem dv_6 (a b : Int) : dv 6 a b = bits .or .u32 a b := rfl
theorem dv_7 (a b : Int) : dv 7 a b = bits .xor .u32 a b := rfl
theorem dv_8 (a b : Int) : dv 8 a b = a * 2 ^ (b % 32).toNat % 4294967296 := rfl
theorem dv_9 (a b : Int) : dv 9 a b = a / 2 ^ (b % 32).toNat := rfl
theorem dv_10 (a b : Int) : dv 10 a b = wrap32 a / 2 ^ (b % 32).toNat % 4294967296 := rfl
theorem dv_11 (a b : Int) : dv 11 a b = tr (decide (wrap32 a < wrap32 b)) := rfl
theorem dv_12 (a b : Int) : dv 12 a b = tr (decide (a < b)) := rfl
theorem dv_13 (a b : Int) : dv 13 a b = tr (a == b) := rfl
theorem dv_no (op a b : Int) (h : 14 ≤ op) : dv op a b = 0 := by
  unfold dv
  repeat' rw [if_neg (by omega)]
theorem dok_no (op b : Int) (h : 14 ≤ op) : dok op b = false := by
  unfold dok; simp; omega
theorem dok_yes (op b : Int) (h : op ≤ 13) (h3 : op ≠ 3) (h4 : op ≠ 4) : dok op b = true := by
  unfold dok; simp; omega
theorem dok_div (op b : Int) (h : op ≤ 13) (hb : b ≠ 0) : dok op b = true := by
  unfold dok; simp; omega
theorem dok_30 : dok 3 0 = false := rfl
theorem dok_40 : dok 4 0 = false := rfl

theorem pow32 (n : Nat) (h : n ≤ 31) : (1 : Int) ≤ 2 ^ n ∧ (2 : Int) ^ n ≤ 2147483648 := by
  have h1 : (1 : Nat) ≤ 2 ^ n := Nat.one_le_two_pow
  have h2 : (2 : Nat) ^ n ≤ 2 ^ 31 := Nat.pow_le_pow_right (by decide) h
  have e : ((2 ^ n : Nat) : Int) = (2 : Int) ^ n := by simp
  rw [← e]
  have : (2 : Nat) ^ 31 = 2147483648 := by decide
  omega
theorem bits_u32_bd (op : BinOp) (a b : Int) : 0 ≤ bits op .u32 a b ∧ bits op .u32 a b < 4294967296 := by
  unfold bits
  rw [IntKind.wrap_u32']
  omega
/-- What an operation makes is a word. -/
theorem dv_bd (op a b : Int) (ha : 0 ≤ a ∧ a < 4294967296) : 0 ≤ dv op a b ∧ dv op a b < 4294967296 := by
  have key : ∀ x, dv op a b = x → 0 ≤ x ∧ x < 4294967296 := by
    intro x hx
    unfold dv at hx
    have hp := pow32 (b % 32).toNat (by omega)
    have h1 := Int.ediv_nonneg ha.1 (b := 2 ^ (b % 32).toNat) (by omega)
    have h2 := Int.ediv_le_self (2 ^ (b % 32).toNat) ha.1
    have t1 := tr_bd (decide (wrap32 a < wrap32 b))
    have t2 := tr_bd (decide (a < b))
    have t3 := tr_bd (a == b)
    have b1 := bits_u32_bd .and a b
    have b2 := bits_u32_bd .or a b
    have b3 := bits_u32_bd .xor a b
    repeat' split at hx
    all_goals omega
  exact key _ rfl

theorem tmod_mod (n : Int) : n.tmod 4294967296 % 4294967296 = n % 4294967296 := by
  have := Int.mul_tdiv_add_tmod n 4294967296
  omega
theorem tmod_bd (n : Int) : -4294967296 < n.tmod 4294967296 ∧ n.tmod 4294967296 < 4294967296 := by
  constructor
  · exact Int.lt_tmod_of_pos n (by decide)
  · exact Int.tmod_lt_of_pos n (by decide)
theorem wrap32_mod (n : Int) : wrap32 n % 4294967296 = n % 4294967296 := by unfold wrap32; omega
theorem wrap64_mod (n : Int) : wrap64 n % 4294967296 = n % 4294967296 := by unfold wrap64; omega
theorem wrap32_bd (n : Int) : -2147483648 ≤ wrap32 n ∧ wrap32 n ≤ 2147483647 := by unfold wrap32; omega
theorem wrap32_zero (n : Int) (h : 0 ≤ n ∧ n < 4294967296) : wrap32 n = 0 ↔ n = 0 := by unfold wrap32; omega
theorem wrap32_low (n : Int) (h : 0 ≤ n ∧ n < 2147483648) : wrap32 n = n := by unfold wrap32; omega
theorem wrap32_high (n : Int) (h : 2147483648 ≤ n ∧ n < 4294967296) : wrap32 n = n - 4294967296 := by unfold wrap32; omega
theorem mul_wrap (a b : Int) : wrap32 a * wrap32 b % 4294967296 = a * b % 4294967296 := by
  rw [Int.mul_emod, wrap32_mod, wrap32_mod, ← Int.mul_emod]
theorem and31 (b : Int) (h : 0 ≤ b ∧ b < 4294967296) : bits .and .u32 b 31 = b % 32 := by
  rw [u32_and b 31 h.1 h.2 (by decide) (by decide)]
  have : (31 : Int).toNat = 31 := rfl
  rw [this, nat_mask5]; omega

/-! Flags and conditions. -/
def fl (a b : Int) : Int :=
  8 * tr (decide (wrap32 ((a - b) % 4294967296) < 0)) + 4 * tr ((a - b) % 4294967296 == 0) + 2 * tr (wrap32 a - wrap32 b != wrap32 ((a - b) % 4294967296)) + tr (decide (a < b))
def fbit (f k : Int) : Bool := f / k % 2 == 1
def hv (c f : Int) : Bool :=
  if c = 0 then true
  else if c = 1 then fbit f 4
  else if c = 2 then !fbit f 4
  else if c = 3 then fbit f 8 != fbit f 2
  else if c = 4 then fbit f 8 == fbit f 2
  else if c = 5 then fbit f 1
  else if c = 6 then !fbit f 1
  else false
theorem fl_bd (a b : Int) : 0 ≤ fl a b ∧ fl a b ≤ 15 := by
  unfold fl
  have h1 := tr_bd (decide (wrap32 ((a - b) % 4294967296) < 0))
  have h2 := tr_bd ((a - b) % 4294967296 == 0)
  have h3 := tr_bd (wrap32 a - wrap32 b != wrap32 ((a - b) % 4294967296))
  have h4 := tr_bd (decide (a < b))
  omega
/-- A flag, or none. -/
def wh (p : Bool) (k : Int) : Int := if p then k else 0
/-- What is combined of the first k. -/
def orTo (xs : List Int) : Nat → Int
  | 0 => 0
  | k + 1 => bits .or .u8 (orTo xs k) (xs.getD k 0)
theorem orTo_4 (p q r s : Bool) : orTo [wh p 8, wh q 4, wh r 2, wh s 1] 4 = 8 * tr p + 4 * tr q + 2 * tr r + tr s := by
  cases p <;> cases q <;> cases r <;> cases s <;> rfl
theorem land_u8 (f k i : Nat) (hf : f < 256) (hk : k = 2 ^ i) (hk2 : k < 256) : (bits .and .u8 (f : Int) (k : Int) != 0) = fbit f k := by
  rw [u8_and_nat f k hf hk2, hk, nat_bit i f]
  unfold fbit
  rw [show ((2 ^ i : Nat) : Int) = ((2 ^ i : Nat) : Int) from rfl, ← Int.natCast_ediv]
  have h0 : 2 ^ i ≠ 0 := by have := @Nat.two_pow_pos i; omega
  generalize f / 2 ^ i = x
  have hx : x % 2 = 0 ∨ x % 2 = 1 := by omega
  have hxi : ((x : Int)) % 2 = ((x % 2 : Nat) : Int) := by omega
  rw [hxi]
  rcases hx with hx | hx
  · rw [hx]; simp
  · rw [hx]; simp
    exact Int.pow_ne_zero (by decide)
theorem and8 (f : Int) (h : 0 ≤ f ∧ f ≤ 255) : (bits .and .u8 f 8 != 0) = fbit f 8 := by
  obtain ⟨x, rfl⟩ := Int.eq_ofNat_of_zero_le h.1
  exact land_u8 x 8 3 (by omega) (by decide) (by decide)
theorem and4 (f : Int) (h : 0 ≤ f ∧ f ≤ 255) : (bits .and .u8 f 4 != 0) = fbit f 4 := by
  obtain ⟨x, rfl⟩ := Int.eq_ofNat_of_zero_le h.1
  exact land_u8 x 4 2 (by omega) (by decide) (by decide)
theorem and2 (f : Int) (h : 0 ≤ f ∧ f ≤ 255) : (bits .and .u8 f 2 != 0) = fbit f 2 := by
  obtain ⟨x, rfl⟩ := Int.eq_ofNat_of_zero_le h.1
  exact land_u8 x 2 1 (by omega) (by decide) (by decide)
theorem and1 (f : Int) (h : 0 ≤ f ∧ f ≤ 255) : (bits .and .u8 f 1 != 0) = fbit f 1 := by
  obtain ⟨x, rfl⟩ := Int.eq_ofNat_of_zero_le h.1
  exact land_u8 x 1 0 (by omega) (by decide) (by decide)
end Go.Proofs.YtoecanjhkbeemaaGreatDoor.W1
