/- The library's two counts of bits, as package psr asks them: of a word that has just one bit, and of any other. -/
import Derived.Test.YtoecanjhkbeemaaGreatDoorBel
import Derived.Test.YtoecanjhkbeemaaGreatDoorPsrMath
import Derived.BigQuiet
import Derived.Lib.BitFns
import Derived.KernelRfl
import Derived.Deep.QuietTactic
namespace Go.Proofs.YtoecanjhkbeemaaGreatDoor.P4
open Go.RowKit
set_option linter.unusedVariables false
/-- The library's table, as the row lays it. -/
def TabAt (w : World) : Prop := ∀ j, j < 32 → w.cell? ⟨0, j, none⟩ = some (.int .u8 (Lib.deBruijn32tab.getD j 0))
theorem TabAt.bel {w w' : World} (h : TabAt w) (g : Below w.heap.size w w') : TabAt w' := fun j hj => bel_cell g (h j hj)
theorem tz_zero (w : World) : Calls Tryz.prog 149 #[.int .u32 0] w fun e w' => e = .returned (.int .i64 32) ∧ w = w' := by
  go_enter Tryz.func149, Tryz.ntmps149
  go_wp2
  go_ret
  exact ⟨rfl, rfl⟩
theorem tz_any (v : Int) (k idx : Nat) (w : World) (hv0 : (v == 0) = false) (hv : 0 ≤ v ∧ v < 4294967296) (key : bits BinOp.and IntKind.u32 v (-v % 4294967296) * 125613361 % 4294967296 / 134217728 = (idx : Int)) (hi : idx < 32) (hk : k < 32)
    (hcell : w.cell? ⟨0, idx, none⟩ = some (.int .u8 k)) : Calls Tryz.prog 149 #[.int .u32 v] w fun e w' => e = .returned (.int .i64 k) ∧ w = w' := by
  go_enter Tryz.func149, Tryz.ntmps149
  go_wp2_with (simp only [key])
  go_ret
  exact ⟨rfl, rfl⟩
/-- How many trailing zeros a word has. -/
theorem tz_word (v : Int) (w : World) (hv : 0 ≤ v ∧ v < 4294967296) (hT : TabAt w) : Calls Tryz.prog 149 #[.int .u32 v] w fun e w' => e = .returned (.int .i64 (Lib.ctz 32 v.toNat)) ∧ w = w' := by
  obtain ⟨x, rfl⟩ : ∃ x : Nat, v = x := ⟨v.toNat, by omega⟩
  by_cases hx0 : x = 0
  · subst hx0
    exact tz_zero w
  · obtain ⟨hlow, hk⟩ := Lib.lowest_bit 32 x hx0 (by omega)
    obtain ⟨hi, htab⟩ := Lib.deBruijn32_at _ hk
    have hcell := hT _ hi
    rw [htab] at hcell
    have e1 : -(x : Int) % 4294967296 = ((4294967296 - x : Nat) : Int) := by omega
    have key : bits BinOp.and IntKind.u32 (x : Int) (-(x : Int) % 4294967296) * 125613361 % 4294967296 / 134217728 = ((2 ^ Lib.ctz 32 x * 125613361 % 4294967296 / 134217728 : Nat) : Int) := by
      rw [e1, u32_and_nat x _ (by omega) (by omega), show x &&& (4294967296 - x) = 2 ^ Lib.ctz 32 x from hlow]
      simp [Int.natCast_ediv, Int.natCast_emod]
    rw [Int.toNat_natCast]
    exact tz_any x _ _ w (by simp; omega) hv key hi hk hcell
/-- How many ones a word has, by the library's table of bytes. -/
def popc (v : Int) : Int := (Lib.pop8 (v / 16777216) + Lib.pop8 (v / 65536 % 256) + Lib.pop8 (v / 256 % 256) + Lib.pop8 (v % 256)) % 256
theorem ones_any (v : Int) (w : World) (hv : 0 ≤ v ∧ v < 4294967296) : Calls Tryz.prog 150 #[.int .u32 v] w fun e w' => e = .returned (.int .i64 (popc v)) ∧ Below w.heap.size w w' := by
  go_enter Tryz.func150, Tryz.ntmps150
  obtain ⟨hv0, hv1⟩ := hv
  have a3 : bits .and .u32 v 255 = v % 256 := and_mask 8 255 256 _ rfl rfl (by omega) ⟨hv0, hv1⟩
  have a2 : bits .and .u32 (v / 256) 255 = v / 256 % 256 := and_mask 8 255 256 _ rfl rfl (by omega) (by omega)
  have a1 : bits .and .u32 (v / 65536) 255 = v / 65536 % 256 := and_mask 8 255 256 _ rfl rfl (by omega) (by omega)
  go_wp2
  generalize hs : ByteArray.mk (List.toArray _) = s
  obtain rfl : Lib.pop8tab = s := by rw [← hs]; kernel_rfl
  clear hs
  have i0 : 0 ≤ v / 16777216 := by omega
  have i1 : v / 16777216 ≤ 255 := by omega
  go_quiet (fail)
  go_wp2
  go_ret
  exact ⟨rfl, bel_drewN (Below.refl _ _) _⟩
theorem pop_bound : ∀ n : Fin 256, 0 ≤ Lib.pop8 (n.val : Int) ∧ Lib.pop8 (n.val : Int) ≤ 8 := by decide +kernel
theorem pop_zero : ∀ n : Fin 256, Lib.pop8 (n.val : Int) = 0 → n.val = 0 := by decide +kernel
theorem pop_one : ∀ n : Fin 256, Lib.pop8 (n.val : Int) = 1 → ∃ k : Fin 8, n.val = 2 ^ k.val := by decide +kernel
theorem popc_one {v : Int} (hv : 0 ≤ v ∧ v < 4294967296) (h : popc v = 1) : ∃ k : Nat, k < 32 ∧ v = ((2 ^ k : Nat) : Int) := by
  obtain ⟨x, rfl⟩ : ∃ x : Nat, v = x := ⟨v.toNat, by omega⟩
  unfold popc at h
  have b0 := pop_bound ⟨x / 16777216, by omega⟩
  have b1 := pop_bound ⟨x / 65536 % 256, by omega⟩
  have b2 := pop_bound ⟨x / 256 % 256, by omega⟩
  have b3 := pop_bound ⟨x % 256, by omega⟩
  have z0 := pop_zero ⟨x / 16777216, by omega⟩
  have z1 := pop_zero ⟨x / 65536 % 256, by omega⟩
  have z2 := pop_zero ⟨x / 256 % 256, by omega⟩
  have z3 := pop_zero ⟨x % 256, by omega⟩
  have o0 := pop_one ⟨x / 16777216, by omega⟩
  have o1 := pop_one ⟨x / 65536 % 256, by omega⟩
  have o2 := pop_one ⟨x / 256 % 256, by omega⟩
  have o3 := pop_one ⟨x % 256, by omega⟩
  simp only at b0 b1 b2 b3 z0 z1 z2 z3 o0 o1 o2 o3
  have c0 : (x : Int) / 16777216 = ((x / 16777216 : Nat) : Int) := by omega
  have c1 : (x : Int) / 65536 % 256 = ((x / 65536 % 256 : Nat) : Int) := by omega
  have c2 : (x : Int) / 256 % 256 = ((x / 256 % 256 : Nat) : Int) := by omega
  have c3 : (x : Int) % 256 = ((x % 256 : Nat) : Int) := by omega
  rw [c0, c1, c2, c3] at h
  generalize Lib.pop8 ((x / 16777216 : Nat) : Int) = p0 at *
  generalize Lib.pop8 ((x / 65536 % 256 : Nat) : Int) = p1 at *
  generalize Lib.pop8 ((x / 256 % 256 : Nat) : Int) = p2 at *
  generalize Lib.pop8 ((x % 256 : Nat) : Int) = p3 at *
  clear c0 c1 c2 c3
  rcases (by omega : (p0 = 1 ∧ p1 = 0 ∧ p2 = 0 ∧ p3 = 0) ∨ (p0 = 0 ∧ p1 = 1 ∧ p2 = 0 ∧ p3 = 0) ∨ (p0 = 0 ∧ p1 = 0 ∧ p2 = 1 ∧ p3 = 0) ∨ (p0 = 0 ∧ p1 = 0 ∧ p2 = 0 ∧ p3 = 1)) with ⟨h0, h1, h2, h3⟩ | ⟨h0, h1, h2, h3⟩ | ⟨h0, h1, h2, h3⟩ | ⟨h0, h1, h2, h3⟩
  · obtain ⟨k, hk⟩ := o0 h0
    have := z1 h1; have := z2 h2; have := z3 h3
    refine ⟨k.val + 24, by omega, ?_⟩
    rw [Nat.pow_add, ← hk]; omega
  · obtain ⟨k, hk⟩ := o1 h1
    have := z0 h0; have := z2 h2; have := z3 h3
    refine ⟨k.val + 16, by omega, ?_⟩
    rw [Nat.pow_add, ← hk]; omega
  · obtain ⟨k, hk⟩ := o2 h2
    have := z0 h0; have := z1 h1; have := z3 h3
    refine ⟨k.val + 8, by omega, ?_⟩
    rw [Nat.pow_add, ← hk]; omega
  · obtain ⟨k, hk⟩ := o3 h3
    have := z0 h0; have := z1 h1; have := z2 h2
    refine ⟨k.val, by omega, ?_⟩
    rw [← hk]; omega
theorem popc_pow : ∀ k : Fin 32, popc ((2 ^ k.val : Nat) : Int) = 1 := by decide +kernel
theorem ctz_pow : ∀ k : Fin 32, Lib.ctz 32 (2 ^ k.val) = k.val := by decide +kernel
end Go.Proofs.YtoecanjhkbeemaaGreatDoor.P4
