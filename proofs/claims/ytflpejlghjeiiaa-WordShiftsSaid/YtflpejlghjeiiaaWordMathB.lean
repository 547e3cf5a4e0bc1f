/- Plain arithmetic for the statements WordBack, WordShifts and WordAround of layer 1. -/
import Derived.Test.YtflpejlghjeiiaaWordLoops
namespace Go.Proofs.Ytflpejlghjeiiaa
open Go.RowKit
set_option linter.unusedVariables false
theorem back_add (a b : Int) (ha : 0 ≤ a ∧ a < 4294967296) : dv 1 (dv 0 a b) b = a := by
  rw [dv_1, dv_0]; omega
theorem back_xor (a b : Int) (ha : 0 ≤ a ∧ a < 4294967296) (hb : 0 ≤ b ∧ b < 4294967296) : dv 7 (dv 7 a b) b = a := by
  obtain ⟨x, rfl⟩ := Int.eq_ofNat_of_zero_le ha.1
  obtain ⟨y, rfl⟩ := Int.eq_ofNat_of_zero_le hb.1
  have hx : x < 4294967296 := by omega
  have hy : y < 4294967296 := by omega
  have hz : x ^^^ y < 4294967296 := Nat.xor_lt_two_pow (n := 32) hx hy
  rw [dv_7, dv_7, u32_xor_nat x y hx hy, u32_xor_nat _ y hz hy, Nat.xor_assoc, Nat.xor_self, Nat.xor_zero]
theorem mask_at : ∀ k : Fin 32, (4294967295 : Nat) / 2 ^ k.val = 2 ^ (32 - k.val) - 1 := by decide
theorem pow_cast (k : Nat) : ((2 ^ k : Nat) : Int) = (2 : Int) ^ k := by simp
theorem back_shift (a b : Int) (ha : 0 ≤ a ∧ a < 4294967296) : dv 9 (dv 8 a b) b = bits .and .u32 a (4294967295 / 2 ^ (b % 32).toNat) := by
  obtain ⟨x, rfl⟩ := Int.eq_ofNat_of_zero_le ha.1
  have hx : x < 4294967296 := by omega
  have hk : (b % 32).toNat < 32 := by omega
  rw [dv_9, dv_8]
  generalize (b % 32).toNat = k at hk
  have hm := mask_at ⟨k, hk⟩
  simp only at hm
  have e1 : (4294967295 : Int) / 2 ^ k = ((2 ^ (32 - k) - 1 : Nat) : Int) := by rw [← hm, ← pow_cast]; rfl
  have hp : 2 ^ (32 - k) ≤ 2 ^ 32 := Nat.pow_le_pow_right (by decide) (by omega)
  have h32 : (2 : Nat) ^ 32 = 4294967296 := by decide
  have hp1 : 1 ≤ 2 ^ (32 - k) := Nat.one_le_two_pow
  rw [e1, u32_and_nat x _ hx (by omega), Nat.and_two_pow_sub_one_eq_mod]
  have e2 : (x : Int) * 2 ^ k % 4294967296 / 2 ^ k = ((x * 2 ^ k % 4294967296 / 2 ^ k : Nat) : Int) := by rw [← pow_cast]; rfl
  rw [e2]
  have e3 : (4294967296 : Nat) = 2 ^ (32 - k) * 2 ^ k := by rw [← Nat.pow_add, ← h32]; congr 1; omega
  rw [e3, Nat.mul_mod_mul_right, Nat.mul_div_cancel _ (Nat.two_pow_pos k)]
theorem back_div (a b : Int) (ha : 0 ≤ a ∧ a < 4294967296) (hb : 0 ≤ b ∧ b < 4294967296) (h0 : b ≠ 0) : dv 0 (dv 2 (dv 3 a b) b) (dv 4 a b) = a := by
  rw [dv_0, dv_2, dv_3 a b h0, dv_4 a b h0]
  have h := Int.mul_tdiv_add_tmod (wrap32 a) (wrap32 b)
  have ea : wrap32 a % 4294967296 = a := by rw [wrap32_mod]; omega
  obtain ⟨j, hj⟩ : ∃ j : Int, b = wrap32 b + 4294967296 * j := ⟨(b - wrap32 b) / 4294967296, by unfold wrap32; omega⟩
  generalize (wrap32 a).tdiv (wrap32 b) = Q at *
  generalize (wrap32 a).tmod (wrap32 b) = R at *
  have e : (Q % 4294967296 * b % 4294967296 + R % 4294967296) % 4294967296 = (Q * b + R) % 4294967296 := by
    rw [Int.mul_emod, Int.emod_emod, ← Int.mul_emod, ← Int.add_emod]
  rw [e]
  have e4 : Q * b = wrap32 b * Q + 4294967296 * (j * Q) := by
    conv => lhs; rw [hj]
    rw [Int.mul_add, Int.mul_comm Q (wrap32 b), Int.mul_comm Q (4294967296 * j), Int.mul_assoc]
  rw [e4]
  omega
/-! WordShifts: iterates are the shifts. -/
theorem iter_8 (a : Int) (k : Nat) (ha : 0 ≤ a ∧ a < 4294967296) : dv 8 (shk 8 a k) 1 = shk 8 a (k + 1) := by
  rw [dv_8, shk_8]
  show shk 8 a k * 2 ^ (1 : Nat) % 4294967296 = _
  omega
theorem iter_9 (a : Int) (k : Nat) : dv 9 (shk 9 a k) 1 = shk 9 a (k + 1) := by
  rw [dv_9, shk_9]; rfl
theorem iter_10 (a : Int) (k : Nat) (ha : 0 ≤ a ∧ a < 4294967296) : dv 10 (shk 10 a k) 1 = shk 10 a (k + 1) := by
  rw [dv_10, shk_10]
  show wrap32 (shk 10 a k) / 2 ^ (1 : Nat) % 4294967296 = _
  have := shk_bd 10 a k ha
  unfold wrap32
  omega
theorem shift_32 (a b : Int) (op : Int) (h : op = 8 ∨ op = 9 ∨ op = 10) : dv op a (b % 32) = dv op a b := by
  rw [← shk_dv op a _ h, ← shk_dv op a _ h]
  congr 2
  omega
theorem floor_is (q p : Int) (hp : 0 < p) : q / p = if q.tmod p < 0 then q.tdiv p - 1 else q.tdiv p := by
  have h := Int.mul_tdiv_add_tmod q p
  have l1 := Int.lt_tmod_of_pos q hp
  have l2 := Int.tmod_lt_of_pos q hp
  split
  · have : q = p * (q.tdiv p - 1) + (q.tmod p + p) := by rw [Int.mul_sub]; omega
    conv => lhs; rw [this]
    rw [Int.add_comm, Int.add_mul_ediv_left _ _ (by omega), Int.ediv_eq_zero_of_lt (by omega) (by omega)]; omega
  · conv => lhs; rw [← h]
    rw [Int.add_comm, Int.add_mul_ediv_left _ _ (by omega), Int.ediv_eq_zero_of_lt (by omega) (by omega)]; omega
/-! WordAround. -/
theorem bop_comm (op : Int) (x y : Nat) : bop op x y = bop op y x := by
  unfold bop
  repeat' split
  · exact Nat.and_comm x y
  · exact Nat.or_comm x y
  · exact Nat.xor_comm x y
theorem bop_assoc (op : Int) (x y z : Nat) : bop op (bop op x y) z = bop op x (bop op y z) := by
  unfold bop
  repeat' split
  · exact Nat.and_assoc x y z
  · exact Nat.or_assoc x y z
  · exact Nat.xor_assoc x y z
theorem around_comm (op a b : Int) (h : op = 0 ∨ op = 2 ∨ op = 5 ∨ op = 6 ∨ op = 7 ∨ op = 13) (ha : 0 ≤ a ∧ a < 4294967296) (hb : 0 ≤ b ∧ b < 4294967296) : dv op b a = dv op a b := by
  by_cases h2 : op = 5 ∨ op = 6 ∨ op = 7
  · obtain ⟨x, rfl⟩ := Int.eq_ofNat_of_zero_le ha.1
    obtain ⟨y, rfl⟩ := Int.eq_ofNat_of_zero_le hb.1
    have e1 := bop_dv op h2 x y (by omega) (by omega)
    have e2 := bop_dv op h2 y x (by omega) (by omega)
    rw [bop_comm] at e2
    exact e2.symm.trans e1
  · have h3 : op = 0 ∨ op = 2 ∨ op = 13 := by omega
    rcases h3 with rfl | rfl | rfl
    · rw [dv_0, dv_0, Int.add_comm]
    · rw [dv_2, dv_2, Int.mul_comm]
    · rw [dv_13, dv_13]
      have : (b == a) = (a == b) := by rw [Bool.eq_iff_iff]; simp; omega
      rw [this]
theorem around_assoc (op a b c : Int) (h : op = 0 ∨ op = 2 ∨ op = 5 ∨ op = 6 ∨ op = 7) (ha : 0 ≤ a ∧ a < 4294967296) (hb : 0 ≤ b ∧ b < 4294967296) (hc : 0 ≤ c ∧ c < 4294967296) : dv op a (dv op b c) = dv op (dv op a b) c := by
  by_cases h2 : op = 5 ∨ op = 6 ∨ op = 7
  · obtain ⟨x, rfl⟩ := Int.eq_ofNat_of_zero_le ha.1
    obtain ⟨y, rfl⟩ := Int.eq_ofNat_of_zero_le hb.1
    obtain ⟨z, rfl⟩ := Int.eq_ofNat_of_zero_le hc.1
    have hx : x < 4294967296 := by omega
    have hy : y < 4294967296 := by omega
    have hz : z < 4294967296 := by omega
    have l1 := bop_bd op x y 32 hx hy
    have l2 := bop_bd op y z 32 hy hz
    have e1 := bop_dv op h2 x y hx hy
    have e2 := bop_dv op h2 y z hy hz
    have e3 := bop_dv op h2 (bop op x y) z l1 hz
    have e4 := bop_dv op h2 x (bop op y z) hx l2
    rw [← e1, ← e2, ← e3, ← e4, bop_assoc]
  · have h3 : op = 0 ∨ op = 2 := by omega
    rcases h3 with rfl | rfl
    · rw [dv_0, dv_0, dv_0, dv_0]; omega
    · rw [dv_2, dv_2, dv_2, dv_2]
      rw [Int.mul_emod, Int.emod_emod, ← Int.mul_emod, Int.mul_emod (a * b % 4294967296), Int.emod_emod, ← Int.mul_emod, Int.mul_assoc]
theorem mul_shift (a b : Int) : dv 2 a (2 ^ (b % 32).toNat) = dv 8 a b := by
  rw [dv_2, dv_8]
end Go.Proofs.Ytflpejlghjeiiaa
