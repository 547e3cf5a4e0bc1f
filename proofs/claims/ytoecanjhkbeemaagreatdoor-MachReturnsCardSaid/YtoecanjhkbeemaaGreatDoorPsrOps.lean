/- What package psr's functions come to, for any arguments: Pack, Unpack, Next, Ahead, Wim, Invalid, Resident. -/
import Derived.Test.YtoecanjhkbeemaaGreatDoorPsrParts
import Derived.Test.YtoecanjhkbeemaaGreatDoorPsrSmall
import Derived.Test.YtoecanjhkbeemaaGreatDoorPsrBits
import Derived.Test.YtoecanjhkbeemaaGreatDoorFour
namespace Go.Proofs.YtoecanjhkbeemaaGreatDoor.P4
open Go.RowKit
set_option linter.unusedVariables false
/-- The word of a state. -/
def pword (a b c d : Int) : Int := a + 32 * b + 512 * c + 16384 * d
theorem Pack_no (a b c d n : Int) (w : World) (ha : Byte a) (hb : Byte b) (hc : Byte c) (hd : Byte d) (h : ¬ State a b c d n) :
    Calls Tryz.prog 101 #[.agg #[.int .u8 a, .int .u8 b, .int .u8 c, .int .u8 d], .int .i64 n] w fun e w' => e = .returned (.tuple #[.int .u32 0, .int .i64 2]) ∧ Below w.heap.size w w' := by
  go_enter Tryz.func101, Tryz.ntmps101
  go_wp2_with fail
  refine (isState_no a b c d n _ ha hb hc hd h).mono ?_; rintro e w1 ⟨rfl, g1⟩
  go_wp2_with fail
  go_ret2
  exact ⟨rfl, bel_trans ((Below.refl _ _).alloc (Nat.le_refl _) _) g1⟩
theorem Pack_yes (a b c d n : Int) (w : World) (ha : Byte a) (hb : Byte b) (hc : Byte c) (hd : Byte d) (h : State a b c d n) :
    Calls Tryz.prog 101 #[.agg #[.int .u8 a, .int .u8 b, .int .u8 c, .int .u8 d], .int .i64 n] w fun e w' => e = .returned (.tuple #[.int .u32 (pword a b c d), .int .i64 0]) ∧ Below w.heap.size w w' := by
  have H := Lib.hid h
  go_enter Tryz.func101, Tryz.ntmps101
  go_wp2_with fail
  refine (isState_yes a b c d n _ ha hb hc hd H.out).mono ?_; rintro e w1 ⟨rfl, g1⟩
  have S1 : SB w w.heap.size #[.int .u8 a, .int .u8 b, .int .u8 c, .int .u8 d] 24 w1 := SB.more ⟨row_born rfl, (Below.refl _ _).alloc (Nat.le_refl _) _⟩ g1
  clear g1
  obtain ⟨c0, c1, c2, c3, S1⟩ := S1.all4
  have g1 := S1.bel
  clear S1
  go_wp2_with fail
  refine (join_any a b c d ?_ ?_ ?_ ?_ _).mono ?_
  · have := H.out; unfold State at this; unfold Byte at ha; omega
  · have := H.out; unfold State at this; unfold Byte at hb; omega
  · have := H.out; unfold State at this; unfold Byte at hc; omega
  · have := H.out; unfold State at this; unfold Byte at hd; omega
  rintro e w2 ⟨rfl, g2⟩
  go_wp2_with fail
  go_ret2
  exact ⟨rfl, bel_trans g1 g2⟩
theorem Next_no (x n : Int) (w : World) (h : ¬ (2 ≤ n ∧ n ≤ 32 ∧ 0 ≤ x ∧ x < n)) : Calls Tryz.prog 207 #[.int .i64 x, .int .i64 n] w fun e w' => e = .returned (.tuple #[.int .i64 0, .int .i64 2]) ∧ Below w.heap.size w w' := by
  go_enter Tryz.func207, Tryz.ntmps207
  go_wp2_with fail
  refine (isWindow_no x n _ h).mono ?_; rintro e w1 ⟨rfl, g1⟩
  go_wp2_with fail
  go_ret2
  exact ⟨rfl, g1⟩
theorem Next_yes (x n : Int) (w : World) (hn : 2 ≤ n) (hn' : n ≤ 32) (h0 : 0 ≤ x) (h1 : x < n) : Calls Tryz.prog 207 #[.int .i64 x, .int .i64 n] w fun e w' => e = .returned (.tuple #[.int .i64 ((x + 1) % n), .int .i64 0]) ∧ Below w.heap.size w w' := by
  go_enter Tryz.func207, Tryz.ntmps207
  go_wp2_with fail
  refine (isWindow_yes x n _ hn hn' h0 h1).mono ?_; rintro e w1 ⟨rfl, g1⟩
  go_wp2_with fail
  refine (after_any x n _ h0 h1 hn').mono ?_; rintro e w2 ⟨rfl, rfl⟩
  go_wp2_with fail
  go_ret2
  exact ⟨rfl, g1⟩
theorem Ahead_no (x n : Int) (w : World) (h : ¬ (2 ≤ n ∧ n ≤ 32 ∧ 0 ≤ x ∧ x < n)) : Calls Tryz.prog 205 #[.int .i64 x, .int .i64 n] w fun e w' => e = .returned (.tuple #[.int .i64 0, .int .i64 2]) ∧ Below w.heap.size w w' := by
  go_enter Tryz.func205, Tryz.ntmps205
  go_wp2_with fail
  refine (isWindow_no x n _ h).mono ?_; rintro e w1 ⟨rfl, g1⟩
  go_wp2_with fail
  go_ret2
  exact ⟨rfl, g1⟩
theorem Ahead_yes (x n : Int) (w : World) (hn : 2 ≤ n) (hn' : n ≤ 32) (h0 : 0 ≤ x) (h1 : x < n) : Calls Tryz.prog 205 #[.int .i64 x, .int .i64 n] w fun e w' => e = .returned (.tuple #[.int .i64 ((x + n - 1) % n), .int .i64 0]) ∧ Below w.heap.size w w' := by
  go_enter Tryz.func205, Tryz.ntmps205
  go_wp2_with fail
  refine (isWindow_yes x n _ hn hn' h0 h1).mono ?_; rintro e w1 ⟨rfl, g1⟩
  go_wp2_with fail
  go_ret2
  exact ⟨rfl, g1⟩
theorem Wim_no (x n : Int) (w : World) (h : ¬ (2 ≤ n ∧ n ≤ 32 ∧ 0 ≤ x ∧ x < n)) : Calls Tryz.prog 98 #[.int .i64 x, .int .i64 n] w fun e w' => e = .returned (.tuple #[.int .u32 0, .int .i64 2]) ∧ Below w.heap.size w w' := by
  go_enter Tryz.func98, Tryz.ntmps98
  go_wp2_with fail
  refine (isWindow_no x n _ h).mono ?_; rintro e w1 ⟨rfl, g1⟩
  go_wp2_with fail
  go_ret2
  exact ⟨rfl, g1⟩
/-- The WIM in which a window is invalid. -/
def pw (x : Nat) : Int := ((2 ^ x : Nat) : Int)
theorem pw_in {x : Nat} (h : x < 32) : 1 ≤ pw x ∧ pw x < 4294967296 := by
  have h1 : 2 ^ x ≤ 2147483648 := Nat.pow_le_pow_right (i := x) (j := 31) (by decide) (by omega)
  have h2 : 1 ≤ 2 ^ x := Nat.one_le_two_pow
  unfold pw
  generalize 2 ^ x = y at *
  omega
theorem pw_mod {x : Nat} (h : x < 32) : (2 : Int) ^ x % 4294967296 = pw x := by
  have := pw_in h
  have e : (2 : Int) ^ x = pw x := by simp [pw]
  rw [e]; omega
theorem Wim_yes (x : Nat) (n : Int) (w : World) (hn : 2 ≤ n) (hn' : n ≤ 32) (h1 : (x : Int) < n) : Calls Tryz.prog 98 #[.int .i64 x, .int .i64 n] w fun e w' => e = .returned (.tuple #[.int .u32 (pw x), .int .i64 0]) ∧ Below w.heap.size w w' := by
  have h0 : (0 : Int) ≤ x := by omega
  have hx : (x : Int) < 32 := by omega
  have hp := Lib.hid (pw_mod (x := x) (by omega))
  go_enter Tryz.func98, Tryz.ntmps98
  go_wp2_with fail
  refine (isWindow_yes x n _ hn hn' h0 h1).mono ?_; rintro e w1 ⟨rfl, g1⟩
  go_wp2_with fail
  go_ret2
  refine ⟨?_, g1⟩
  show Ending.returned (.tuple #[.int .u32 ((2 : Int) ^ x % 4294967296), .int .i64 0]) = _
  rw [hp.out]
theorem Invalid_arg (v n : Int) (w : World) (h : ¬ (2 ≤ n ∧ n ≤ 32)) : Calls Tryz.prog 103 #[.int .u32 v, .int .i64 n] w fun e w' => e = .returned (.tuple #[.int .i64 0, .int .i64 2]) ∧ Below w.heap.size w w' := by
  have H := Lib.hid h
  clear h
  go_enter Tryz.func103, Tryz.ntmps103
  go_wp2_with fail
  refine (windows_any _ _).mono ?_; rintro e w1 ⟨rfl, g1⟩
  go_wp2_with fail
  refine (valid_not _ 1 _ _ _ _ _ (by decide) (nums1 w1 n _) (fun hh => H.out (by
    obtain ⟨a0, a1⟩ := hh 0 (by decide)
    exact ⟨a0, by omega⟩))).mono ?_; rintro e w2 ⟨rfl, g2⟩
  go_wp2_with fail
  go_ret2
  exact ⟨rfl, bel_trans (bel_trans g1 ((Below.refl _ _).alloc (Nat.le_refl _) _)) g2⟩
/-- The window whose WIM a word is. -/
theorem Invalid_yes (x : Nat) (n : Int) (w : World) (hT : TabAt w) (hn : 2 ≤ n) (hn' : n ≤ 32) (h1 : (x : Int) < n) : Calls Tryz.prog 103 #[.int .u32 (pw x), .int .i64 n] w fun e w' => e = .returned (.tuple #[.int .i64 x, .int .i64 0]) ∧ Below w.heap.size w w' := by
  have hx : x < 32 := by omega
  have hc : Lib.ctz 32 (pw x).toNat = x := ctz_pow ⟨x, hx⟩
  have hp : popc (pw x) = 1 := popc_pow ⟨x, hx⟩
  obtain ⟨p0, p1⟩ := pw_in hx
  have HT := Lib.hid hT
  clear hT
  have hn1 : ¬ n ≤ (x : Int) := by omega
  generalize pw x = v at *
  go_enter Tryz.func103, Tryz.ntmps103
  go_wp2_with fail
  refine (windows_any _ _).mono ?_; rintro e w1 ⟨rfl, g1⟩
  go_wp2_with fail
  refine (valid_yes _ 1 _ _ _ _ _ (by decide) (nums1 w1 n _) (fun i _ => ⟨hn, by omega⟩)).mono ?_; rintro e w2 ⟨rfl, g2⟩
  have G2 := bel_trans (bel_trans g1 ((Below.refl _ _).alloc (Nat.le_refl _) _)) g2
  clear g1 g2
  go_wp2_with fail
  refine (tz_word v _ (by omega) (HT.out.bel G2)).mono ?_; rintro e w3 ⟨rfl, rfl⟩
  rw [hc]
  go_wp2_with fail
  refine (ones_any v _ (by omega)).mono ?_; rintro e w4 ⟨rfl, g4⟩
  rw [hp]
  go_wp2_with fail
  go_ret2
  exact ⟨rfl, bel_trans G2 g4⟩
/-- A word that is no window's WIM. -/
theorem Invalid_form (v n : Int) (w : World) (hT : TabAt w) (hv : 0 ≤ v ∧ v < 4294967296) (hn : 2 ≤ n) (hn' : n ≤ 32) (h : ∀ x : Nat, (x : Int) < n → v ≠ pw x) :
    Calls Tryz.prog 103 #[.int .u32 v, .int .i64 n] w fun e w' => e = .returned (.tuple #[.int .i64 0, .int .i64 5]) ∧ Below w.heap.size w w' := by
  obtain ⟨hv0, hv1⟩ := hv
  have HT := Lib.hid hT
  clear hT
  by_cases hp : popc v = 1
  · obtain ⟨k, hk, hvk⟩ := popc_one ⟨hv0, hv1⟩ hp
    have hc : Lib.ctz 32 v.toNat = k := by
      have := ctz_pow ⟨k, hk⟩
      rw [hvk, Int.toNat_natCast]; exact this
    have hkn : n ≤ (k : Int) := by
      rcases Int.lt_or_le k n with hh | hh
      · exact absurd hvk (h k hh)
      · exact hh
    clear h hvk
    go_enter Tryz.func103, Tryz.ntmps103
    go_wp2_with fail
    refine (windows_any _ _).mono ?_; rintro e w1 ⟨rfl, g1⟩
    go_wp2_with fail
    refine (valid_yes _ 1 _ _ _ _ _ (by decide) (nums1 w1 n _) (fun i _ => ⟨hn, by omega⟩)).mono ?_; rintro e w2 ⟨rfl, g2⟩
    have G2 := bel_trans (bel_trans g1 ((Below.refl _ _).alloc (Nat.le_refl _) _)) g2
    clear g1 g2
    go_wp2_with fail
    refine (tz_word v _ ⟨hv0, hv1⟩ (HT.out.bel G2)).mono ?_; rintro e w3 ⟨rfl, rfl⟩
    rw [hc]
    go_wp2_with fail
    refine (ones_any v _ ⟨hv0, hv1⟩).mono ?_; rintro e w4 ⟨rfl, g4⟩
    rw [hp]
    go_wp2_with fail
    go_ret2
    exact ⟨rfl, bel_trans G2 g4⟩
  · have hp' : (popc v != 1) = true := by simpa using hp
    clear h hp
    go_enter Tryz.func103, Tryz.ntmps103
    go_wp2_with fail
    refine (windows_any _ _).mono ?_; rintro e w1 ⟨rfl, g1⟩
    go_wp2_with fail
    refine (valid_yes _ 1 _ _ _ _ _ (by decide) (nums1 w1 n _) (fun i _ => ⟨hn, by omega⟩)).mono ?_; rintro e w2 ⟨rfl, g2⟩
    have G2 := bel_trans (bel_trans g1 ((Below.refl _ _).alloc (Nat.le_refl _) _)) g2
    clear g1 g2
    go_wp2_with fail
    refine (tz_word v _ ⟨hv0, hv1⟩ (HT.out.bel G2)).mono ?_; rintro e w3 ⟨rfl, rfl⟩
    go_wp2_with fail
    refine (ones_any v _ ⟨hv0, hv1⟩).mono ?_; rintro e w4 ⟨rfl, g4⟩
    go_wp2_with fail
    go_ret2
    exact ⟨rfl, bel_trans G2 g4⟩
/-! The state whose word a word is. -/
theorem Unpack_arg (v n : Int) (w : World) (h : ¬ (2 ≤ n ∧ n ≤ 32)) : Calls Tryz.prog 210 #[.int .u32 v, .int .i64 n] w fun e w' => e = .returned (.tuple #[.agg #[.int .u8 0, .int .u8 0, .int .u8 0, .int .u8 0], .int .i64 2]) ∧ Below w.heap.size w w' := by
  have H := Lib.hid h
  clear h
  go_enter Tryz.func210, Tryz.ntmps210
  go_wp2_with fail
  refine (windows_any _ _).mono ?_; rintro e w1 ⟨rfl, g1⟩
  have R1 : w1.heap[w.heap.size]? = some (.cells #[.int .u8 0, .int .u8 0, .int .u8 0, .int .u8 0] 24 (0, 0)) := bel_heap g1 (row_born rfl)
  have G1 := bel_trans ((Below.refl _ _).alloc (Nat.le_refl _) _) g1
  clear g1
  go_wp2_with fail
  refine (valid_not _ 1 _ _ _ _ _ (by decide) (nums1 w1 n _) (fun hh => H.out (by
    obtain ⟨a0, a1⟩ := hh 0 (by decide)
    exact ⟨a0, by omega⟩))).mono ?_; rintro e w2 ⟨rfl, g2⟩
  have R2 := bel_heap g2 (row_alloc R1)
  have G2 := bel_trans (bel_trans G1 ((Below.refl _ _).alloc (Nat.le_refl _) _)) g2
  clear g2 R1 G1
  obtain ⟨⟨c0, c1, c2, c3⟩, f0, f1, f2, f3⟩ := four_at R2
  go_wp2_with fail
  have G3 := put4_bel (y0 := .int .u8 0) (y1 := .int .u8 0) (y2 := .int .u8 0) (y3 := .int .u8 0) G2 (Nat.le_refl _)
  obtain ⟨⟨q0, q1, q2, q3⟩, _⟩ := four_at (put4_row (y0 := .int .u8 0) (y1 := .int .u8 0) (y2 := .int .u8 0) (y3 := .int .u8 0) R2)
  clear c0 c1 c2 c3 f0 f1 f2 f3 R2 G2
  refine bodyPost_ret (v := .tuple #[.agg #[.int .u8 0, .int .u8 0, .int .u8 0, .int .u8 0], .int .i64 2]) ?_ rfl ⟨rfl, G3⟩
  simp [results, Tryz.results210, go_sem, q0, q1, q2, q3]
theorem Unpack_walk (v n : Int) (w : World) (hn : 2 ≤ n) (hn' : n ≤ 32) (hv : 0 ≤ v ∧ v < 4294967296) (k y e0 y0 y1 y2 y3 : Int)
    (hp : ∀ W : World, Calls Tryz.prog 101 #[.agg #[.int .u8 (v % 32), .int .u8 (v / 32 % 16), .int .u8 (v / 512 % 32), .int .u8 (v / 16384 % 16)], .int .i64 n] W fun e w' => e = .returned (.tuple #[.int .u32 y, .int .i64 k]) ∧ Below W.heap.size W w')
    (hk : (k = 0 ∧ y = v ∧ e0 = 0 ∧ y0 = v % 32 ∧ y1 = v / 32 % 16 ∧ y2 = v / 512 % 32 ∧ y3 = v / 16384 % 16) ∨ ((k = 2 ∨ k = 0 ∧ y ≠ v) ∧ e0 = 5 ∧ y0 = 0 ∧ y1 = 0 ∧ y2 = 0 ∧ y3 = 0)) :
    Calls Tryz.prog 210 #[.int .u32 v, .int .i64 n] w fun e w' => e = .returned (.tuple #[.agg #[.int .u8 y0, .int .u8 y1, .int .u8 y2, .int .u8 y3], .int .i64 e0]) ∧ Below w.heap.size w w' := by
  have HP := Lib.hid hp
  have HK := Lib.hid hk
  clear hp hk
  have hs := Lib.hid (split_any v hv)
  generalize v % 32 = p0 at *
  generalize v / 32 % 16 = p1 at *
  generalize v / 512 % 32 = p2 at *
  generalize v / 16384 % 16 = p3 at *
  go_enter Tryz.func210, Tryz.ntmps210
  go_wp2_with fail
  refine (windows_any _ _).mono ?_; rintro e w1 ⟨rfl, g1⟩
  have R1 : w1.heap[w.heap.size]? = some (.cells #[.int .u8 0, .int .u8 0, .int .u8 0, .int .u8 0] 24 (0, 0)) := bel_heap g1 (row_born rfl)
  have G1 := bel_trans ((Below.refl _ _).alloc (Nat.le_refl _) _) g1
  clear g1
  go_wp2_with fail
  refine (valid_yes _ 1 _ _ _ _ _ (by decide) (nums1 w1 n _) (fun i _ => ⟨hn, by omega⟩)).mono ?_; rintro e w2 ⟨rfl, g2⟩
  have R2 := bel_heap g2 (row_alloc R1)
  have G2 := bel_trans (bel_trans G1 ((Below.refl _ _).alloc (Nat.le_refl _) _)) g2
  clear g2 R1 G1
  go_wp2_with fail
  refine (hs.out _).mono ?_; rintro e w3 ⟨rfl, g3⟩
  have R3 := bel_heap g3 R2
  have G3 := bel_trans G2 g3
  clear g3 R2 G2 hs
  have hz3 : w.heap.size < w3.heap.size := by
    have := G3.size
    rcases Nat.lt_or_ge w.heap.size w3.heap.size with hh | hh
    · exact hh
    · rw [Array.getElem?_eq_none hh] at R3; cases R3
  go_wp2_with fail
  refine (HP.out _).mono ?_; rintro e w4 ⟨rfl, g4⟩
  have R4 := bel_heap g4 (row_alloc R3)
  have P4 : w4.heap[w3.heap.size]? = some (.cells #[.int .u8 p0, .int .u8 p1, .int .u8 p2, .int .u8 p3] 24 (0, 0)) := bel_heap g4 (row_born rfl)
  have G4 := bel_trans (bel_trans G3 ((Below.refl _ _).alloc (Nat.le_refl _) _)) g4
  clear g4 R3 G3 HP
  obtain ⟨⟨c0, c1, c2, c3⟩, f0, f1, f2, f3⟩ := four_at R4
  obtain ⟨⟨d0, d1, d2, d3⟩, _⟩ := four_at P4
  generalize w3.heap.size = z3 at *
  clear P4 w3 hz3
  rcases HK.out with ⟨rfl, rfl, rfl, rfl, rfl, rfl, rfl⟩ | ⟨hk, rfl, rfl, rfl, rfl, rfl⟩
  · clear HK
    go_wp2_with fail
    have G5 := put4_bel (y0 := .int .u8 y0) (y1 := .int .u8 y1) (y2 := .int .u8 y2) (y3 := .int .u8 y3) G4 (Nat.le_refl _)
    obtain ⟨⟨q0, q1, q2, q3⟩, _⟩ := four_at (put4_row (y0 := .int .u8 y0) (y1 := .int .u8 y1) (y2 := .int .u8 y2) (y3 := .int .u8 y3) R4)
    clear c0 c1 c2 c3 d0 d1 d2 d3 f0 f1 f2 f3 R4 G4
    refine bodyPost_ret (v := .tuple #[.agg #[.int .u8 y0, .int .u8 y1, .int .u8 y2, .int .u8 y3], .int .i64 0]) ?_ rfl ⟨rfl, G5⟩
    simp [results, Tryz.results210, go_sem, q0, q1, q2, q3]
  · clear HK
    have G5 := put4_bel (y0 := .int .u8 0) (y1 := .int .u8 0) (y2 := .int .u8 0) (y3 := .int .u8 0) G4 (Nat.le_refl _)
    obtain ⟨⟨q0, q1, q2, q3⟩, _⟩ := four_at (put4_row (y0 := .int .u8 0) (y1 := .int .u8 0) (y2 := .int .u8 0) (y3 := .int .u8 0) R4)
    have G5 := Lib.hid G5
    have Q0 := Lib.hid q0
    have Q1 := Lib.hid q1
    have Q2 := Lib.hid q2
    have Q3 := Lib.hid q3
    clear q0 q1 q2 q3
    rcases hk with rfl | ⟨rfl, hne⟩
    · go_wp2_with fail
      refine bodyPost_ret (v := .tuple #[.agg #[.int .u8 0, .int .u8 0, .int .u8 0, .int .u8 0], .int .i64 5]) ?_ rfl ⟨rfl, G5.out⟩
      simp [results, Tryz.results210, go_sem, Q0.out, Q1.out, Q2.out, Q3.out]
    · have hne' : (y != v) = true := by simpa using hne
      go_wp2_with fail
      refine bodyPost_ret (v := .tuple #[.agg #[.int .u8 0, .int .u8 0, .int .u8 0, .int .u8 0], .int .i64 5]) ?_ rfl ⟨rfl, G5.out⟩
      simp [results, Tryz.results210, go_sem, Q0.out, Q1.out, Q2.out, Q3.out]
/-- The state that a word would have. -/
def WState (v n : Int) : Prop := State (v % 32) (v / 32 % 16) (v / 512 % 32) (v / 16384 % 16) n
theorem parts_byte (v : Int) : Byte (v % 32) ∧ Byte (v / 32 % 16) ∧ Byte (v / 512 % 32) ∧ Byte (v / 16384 % 16) := by unfold Byte; omega
theorem pword_parts {v : Int} (hv : 0 ≤ v ∧ v < 4294967296) : pword (v % 32) (v / 32 % 16) (v / 512 % 32) (v / 16384 % 16) = v ↔ v < 262144 := by unfold pword; omega
theorem Unpack_yes (v n : Int) (w : World) (hv : 0 ≤ v ∧ v < 262144) (h : WState v n) : Calls Tryz.prog 210 #[.int .u32 v, .int .i64 n] w fun e w' => e = .returned (.tuple #[.agg #[.int .u8 (v % 32), .int .u8 (v / 32 % 16), .int .u8 (v / 512 % 32), .int .u8 (v / 16384 % 16)], .int .i64 0]) ∧ Below w.heap.size w w' := by
  obtain ⟨b0, b1, b2, b3⟩ := parts_byte v
  exact Unpack_walk v n w h.1 h.2.1 (by omega) 0 _ 0 _ _ _ _ (fun W => Pack_yes _ _ _ _ n W b0 b1 b2 b3 h) (.inl ⟨rfl, (pword_parts (by omega)).2 hv.2, rfl, rfl, rfl, rfl, rfl⟩)
theorem Unpack_form (v n : Int) (w : World) (hn : 2 ≤ n) (hn' : n ≤ 32) (hv : 0 ≤ v ∧ v < 4294967296) (h : ¬ (v < 262144 ∧ WState v n)) : Calls Tryz.prog 210 #[.int .u32 v, .int .i64 n] w fun e w' => e = .returned (.tuple #[.agg #[.int .u8 0, .int .u8 0, .int .u8 0, .int .u8 0], .int .i64 5]) ∧ Below w.heap.size w w' := by
  obtain ⟨b0, b1, b2, b3⟩ := parts_byte v
  by_cases hs : WState v n
  · exact Unpack_walk v n w hn hn' hv 0 _ 5 _ _ _ _ (fun W => Pack_yes _ _ _ _ n W b0 b1 b2 b3 hs) (.inr ⟨.inr ⟨rfl, fun e => h ⟨(pword_parts hv).1 e, hs⟩⟩, rfl, rfl, rfl, rfl, rfl⟩)
  · exact Unpack_walk v n w hn hn' hv 2 0 5 _ _ _ _ (fun W => Pack_no _ _ _ _ n W b0 b1 b2 b3 hs) (.inr ⟨.inl rfl, rfl, rfl, rfl, rfl, rfl⟩)
end Go.Proofs.YtoecanjhkbeemaaGreatDoor.P4
