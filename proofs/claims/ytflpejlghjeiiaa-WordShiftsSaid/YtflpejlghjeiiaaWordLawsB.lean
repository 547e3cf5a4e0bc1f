/- The walks of layer 1's statements WordBack, WordShifts and WordAround: each returns true; memory has at most new blocks. -/
import Derived.Test.YtflpejlghjeiiaaWordLaws
import Derived.Test.YtflpejlghjeiiaaWordMathB
namespace Go.Proofs.Ytflpejlghjeiiaa
open Go.RowKit
set_option linter.unusedVariables false
set_option maxHeartbeats 1000000 in
theorem back_no (a b : Int) (ha : 0 ≤ a ∧ a < 4294967296) (hb : 0 ≤ b ∧ b < 4294967296) (h0 : b = 0) (w : World)
    (s x l : Int) (D0 : Hid (dv 0 a b = s)) (D1 : Hid (dv 1 s b = a)) (D7 : Hid (dv 7 a b = x)) (E7 : Hid (dv 7 x b = a)) (D8 : Hid (dv 8 a b = l)) (D9 : Hid (dv 9 l b = bits .and .u32 a (4294967295 / 2 ^ (b % 32).toNat)))
    (bs : 0 ≤ s ∧ s < 4294967296) (bx : 0 ≤ x ∧ x < 4294967296) (bl : 0 ≤ l ∧ l < 4294967296) :
    Calls Try.prog 6 #[.int .u32 a, .int .u32 b] w fun e w' => e = .returned (.bool true) ∧ Grown w w' := by
  have hz : (b == 0) = true := by simpa using h0
  have Z : Hid (b = 0) := h0
  clear h0
  go_enter Try.func6, Try.ntmps6
  go_wp2_with fail
  refine (do_is 0 a b s true _ (by decide) ha hb D0.out (by rfl)).mono ?_; rintro e x1 ⟨rfl, g1⟩
  go_wp2_with fail
  refine (do_is 1 s b a true _ (by decide) bs hb D1.out (by rfl)).mono ?_; rintro e x2 ⟨rfl, g2⟩
  go_wp2_with fail
  refine (do_is 7 a b x true _ (by decide) ha hb D7.out (by rfl)).mono ?_; rintro e x3 ⟨rfl, g3⟩
  go_wp2_with fail
  refine (do_is 7 x b a true _ (by decide) bx hb E7.out (by rfl)).mono ?_; rintro e x4 ⟨rfl, g4⟩
  go_wp2_with fail
  refine (do_is 8 a b l true _ (by decide) ha hb D8.out (by rfl)).mono ?_; rintro e x5 ⟨rfl, g5⟩
  go_wp2_with fail
  refine (do_is 9 l b _ true _ (by decide) bl hb D9.out (by rfl)).mono ?_; rintro e x6 ⟨rfl, g6⟩
  go_wp2_with fail
  refine (do_is 3 a b 0 false _ (by decide) ha hb (by rw [Z.out]; rfl) (by rw [Z.out]; rfl)).mono ?_; rintro e x7 ⟨rfl, g7⟩
  go_wp2_with fail
  refine (do_is 4 a b 0 false _ (by decide) ha hb (by rw [Z.out]; rfl) (by rw [Z.out]; rfl)).mono ?_; rintro e x8 ⟨rfl, g8⟩
  go_wp2_with fail
  refine (head_any _).mono ?_; rintro e x9 ⟨rfl, g9⟩
  go_wp2
  go_ret
  exact ⟨rfl, grown_trans (grown_trans (grown_trans (grown_trans (grown_trans (grown_trans (grown_trans (grown_trans g1 g2) g3) g4) g5) g6) g7) g8) g9⟩
set_option maxHeartbeats 1000000 in
theorem back_yes (a b : Int) (ha : 0 ≤ a ∧ a < 4294967296) (hb : 0 ≤ b ∧ b < 4294967296) (h0 : b ≠ 0) (w : World)
    (s x l q n m : Int) (D0 : Hid (dv 0 a b = s)) (D1 : Hid (dv 1 s b = a)) (D7 : Hid (dv 7 a b = x)) (E7 : Hid (dv 7 x b = a)) (D8 : Hid (dv 8 a b = l)) (D9 : Hid (dv 9 l b = bits .and .u32 a (4294967295 / 2 ^ (b % 32).toNat)))
    (D3 : Hid (dv 3 a b = q)) (D4 : Hid (dv 4 a b = n)) (D2 : Hid (dv 2 q b = m)) (F0 : Hid (dv 0 m n = a))
    (bs : 0 ≤ s ∧ s < 4294967296) (bx : 0 ≤ x ∧ x < 4294967296) (bl : 0 ≤ l ∧ l < 4294967296) (bq : 0 ≤ q ∧ q < 4294967296) (bn : 0 ≤ n ∧ n < 4294967296) (bm : 0 ≤ m ∧ m < 4294967296) :
    Calls Try.prog 6 #[.int .u32 a, .int .u32 b] w fun e w' => e = .returned (.bool true) ∧ Grown w w' := by
  have hz : (b == 0) = false := by simpa using h0
  have Z : Hid (b ≠ 0) := h0
  clear h0
  go_enter Try.func6, Try.ntmps6
  go_wp2_with fail
  refine (do_is 0 a b s true _ (by decide) ha hb D0.out (by rfl)).mono ?_; rintro e x1 ⟨rfl, g1⟩
  go_wp2_with fail
  refine (do_is 1 s b a true _ (by decide) bs hb D1.out (by rfl)).mono ?_; rintro e x2 ⟨rfl, g2⟩
  go_wp2_with fail
  refine (do_is 7 a b x true _ (by decide) ha hb D7.out (by rfl)).mono ?_; rintro e x3 ⟨rfl, g3⟩
  go_wp2_with fail
  refine (do_is 7 x b a true _ (by decide) bx hb E7.out (by rfl)).mono ?_; rintro e x4 ⟨rfl, g4⟩
  go_wp2_with fail
  refine (do_is 8 a b l true _ (by decide) ha hb D8.out (by rfl)).mono ?_; rintro e x5 ⟨rfl, g5⟩
  go_wp2_with fail
  refine (do_is 9 l b _ true _ (by decide) bl hb D9.out (by rfl)).mono ?_; rintro e x6 ⟨rfl, g6⟩
  go_wp2_with fail
  refine (do_is 3 a b q true _ (by decide) ha hb D3.out (dok_div 3 b (by decide) Z.out)).mono ?_; rintro e x7 ⟨rfl, g7⟩
  go_wp2_with fail
  refine (do_is 4 a b n true _ (by decide) ha hb D4.out (dok_div 4 b (by decide) Z.out)).mono ?_; rintro e x8 ⟨rfl, g8⟩
  go_wp2_with fail
  refine (do_is 2 q b m true _ (by decide) bq hb D2.out (by rfl)).mono ?_; rintro e x9 ⟨rfl, g9⟩
  go_wp2_with fail
  refine (do_is 0 m n a true _ (by decide) bm bn F0.out (by rfl)).mono ?_; rintro e x10 ⟨rfl, g10⟩
  go_wp2_with fail
  refine (head_any _).mono ?_; rintro e x11 ⟨rfl, g11⟩
  go_wp2
  go_ret
  exact ⟨rfl, grown_trans (grown_trans (grown_trans (grown_trans (grown_trans (grown_trans (grown_trans (grown_trans (grown_trans (grown_trans g1 g2) g3) g4) g5) g6) g7) g8) g9) g10) g11⟩
theorem wordBack_walk (a b : Int) (w1 : (Lit.int .u32 a).wf = true) (w2 : (Lit.int .u32 b).wf = true) (w : World) :
    Calls Try.prog 6 #[.int .u32 a, .int .u32 b] w fun e w' => e = .returned (.bool true) ∧ Grown w w' := by
  have ha := wf_u32_bd w1
  have hb := wf_u32_bd w2
  by_cases h0 : b = 0
  · exact back_no a b ha hb h0 w _ _ _ rfl (back_add a b ha) rfl (back_xor a b ha hb) rfl (back_shift a b ha) (dv_bd _ _ _ ha) (dv_bd _ _ _ ha) (dv_bd _ _ _ ha)
  · exact back_yes a b ha hb h0 w _ _ _ _ _ _ rfl (back_add a b ha) rfl (back_xor a b ha hb) rfl (back_shift a b ha) rfl rfl rfl (back_div a b ha hb h0) (dv_bd _ _ _ ha) (dv_bd _ _ _ ha) (dv_bd _ _ _ ha) (dv_bd _ _ _ ha) (dv_bd _ _ _ ha) (dv_bd _ _ _ (dv_bd _ _ _ ha))
theorem tdiv_bd (x p : Int) (hp : 1 ≤ p) (hx : -2147483648 ≤ x ∧ x ≤ 2147483647) : -2147483648 ≤ x.tdiv p ∧ x.tdiv p ≤ 2147483647 := by
  have h := floor_is x p (by omega)
  have h1 : -2147483648 ≤ x / p ∧ x / p ≤ 2147483647 := by
    have l1 : x / p ≤ 2147483647 / p := Int.ediv_le_ediv (by omega) hx.2
    have l2 : (2147483647 : Int) / p ≤ 2147483647 := Int.ediv_le_self _ (by omega)
    have l3 : -2147483648 / p ≤ x / p := Int.ediv_le_ediv (by omega) hx.1
    have l4 : (-2147483648 : Int) ≤ -2147483648 / p := by
      have h5 : -2147483648 * p ≤ -2147483648 := by omega
      exact (Int.le_ediv_iff_mul_le (by omega)).2 h5
    omega
  have hm := Int.mul_tdiv_add_tmod x p
  split at h
  · rename_i hn
    have hx0 : x < 0 := by
      by_cases h0 : 0 ≤ x
      · have := Int.tmod_nonneg p h0; omega
      · omega
    have : x.tdiv p ≤ 0 := by
      have h7 := Int.tdiv_nonneg (a := -x) (b := p) (by omega) (by omega)
      rw [Int.neg_tdiv] at h7; omega
    omega
  · omega
set_option maxHeartbeats 4000000 in
theorem shifts_neg (a b : Int) (ha : 0 ≤ a ∧ a < 4294967296) (hb : 0 ≤ b ∧ b < 4294967296) (w : World)
    (hq : (wrap32 a).tmod (2 ^ (b % 32).toNat) < 0)
    (bq : -2147483648 ≤ (wrap32 a).tdiv (2 ^ (b % 32).toNat) ∧ (wrap32 a).tdiv (2 ^ (b % 32).toNat) ≤ 2147483647)
    (Z : Hid (dv 10 a b = ((wrap32 a).tdiv (2 ^ (b % 32).toNat) - 1) % 4294967296)) :
    Calls Try.prog 7 #[.int .u32 a, .int .u32 b] w fun e w' => e = .returned (.bool true) ∧ Grown w w' := by
  have b1 := wrap32_bd a
  have hp := pow32 (b % 32).toNat (by omega)
  go_enter Try.func7, Try.ntmps7
  go_wp2
  go_loopw [5, 6, 7, 8] (fun l r s i wr => ∃ k : Nat, (k : Int) ≤ b % 32 ∧ i = .int .u32 (k : Int) ∧ l = .int .u32 (shk 8 a k) ∧ r = .int .u32 (shk 9 a k) ∧ s = .int .u32 (shk 10 a k) ∧ Grown w wr) (fun _ _ _ i _ => (b % 32 - intOf i).toNat)
  case atStart => exact ⟨0, by simp; omega, rfl, by rw [shk_0 8 a ha], by rw [shk_0 9 a ha], by rw [shk_0 10 a ha], Grown.refl _⟩
  case round =>
    obtain ⟨k, hk, rfl, rfl, rfl, rfl, hg⟩ := hrel
    have h8 := shk_bd 8 a k ha
    have h9 := shk_bd 9 a k ha
    have h10 := shk_bd 10 a k ha
    by_cases hlt : (k : Int) < b % 32
    · go_wp2_with fail
      refine (do_is 8 _ 1 (shk 8 a (k + 1)) true _ (by decide) h8 (by decide) (iter_8 a k ha) (by rfl)).mono ?_; rintro e x1 ⟨rfl, g1⟩
      go_wp2_with fail
      refine (do_is 9 _ 1 (shk 9 a (k + 1)) true _ (by decide) h9 (by decide) (iter_9 a k) (by rfl)).mono ?_; rintro e x2 ⟨rfl, g2⟩
      go_wp2_with fail
      refine (do_is 10 _ 1 (shk 10 a (k + 1)) true _ (by decide) h10 (by decide) (iter_10 a k ha) (by rfl)).mono ?_; rintro e x3 ⟨rfl, g3⟩
      go_wp2
      refine ⟨⟨k + 1, by omega, rfl, rfl, rfl, rfl, grown_trans (grown_trans (grown_trans hg g1) g2) g3⟩, ?_⟩
      simp only [intOf]; omega
    · have hk2 : (b % 32).toNat = k := by omega
      have d8 : dv 8 a b = shk 8 a k := by rw [← hk2, shk_dv 8 a b (by decide)]
      have d9 : dv 9 a b = shk 9 a k := by rw [← hk2, shk_dv 9 a b (by decide)]
      have d10 : dv 10 a b = shk 10 a k := by rw [← hk2, shk_dv 10 a b (by decide)]
      have d11 : dv 8 a (b % 32) = shk 8 a k := by rw [shift_32 a b 8 (by decide), d8]
      have D8 : Hid (dv 8 a b = shk 8 a k) := d8
      have D9 : Hid (dv 9 a b = shk 9 a k) := d9
      have D10 : Hid (dv 10 a b = shk 10 a k) := d10
      have D11 : Hid (dv 8 a (b % 32) = shk 8 a k) := d11
      have ez : (((wrap32 a).tdiv (2 ^ (b % 32).toNat) - 1) % 4294967296 == shk 10 a k) = true := by rw [← d10, Z.out]; simp
      clear d8 d9 d10 d11 hk2
      have hm : 0 ≤ b % 32 ∧ b % 32 < 4294967296 := by omega
      go_wp2_with fail
      refine (do_is 8 a b (shk 8 a k) true _ (by decide) ha hb D8.out (by rfl)).mono ?_; rintro e x1 ⟨rfl, g1⟩
      go_wp2_with fail
      refine (do_is 9 a b (shk 9 a k) true _ (by decide) ha hb D9.out (by rfl)).mono ?_; rintro e x2 ⟨rfl, g2⟩
      go_wp2_with fail
      refine (do_is 10 a b (shk 10 a k) true _ (by decide) ha hb D10.out (by rfl)).mono ?_; rintro e x3 ⟨rfl, g3⟩
      go_wp2_with fail
      refine (do_is 8 a (b % 32) (shk 8 a k) true _ (by decide) ha hm D11.out (by rfl)).mono ?_; rintro e x4 ⟨rfl, g4⟩
      go_wp2_with fail
      refine (head_any _).mono ?_; rintro e x5 ⟨rfl, g5⟩
      go_wp2
      go_ret
      exact ⟨rfl, grown_trans (grown_trans (grown_trans (grown_trans (grown_trans hg g1) g2) g3) g4) g5⟩
set_option maxHeartbeats 4000000 in
theorem shifts_pos (a b : Int) (ha : 0 ≤ a ∧ a < 4294967296) (hb : 0 ≤ b ∧ b < 4294967296) (w : World)
    (hq : 0 ≤ (wrap32 a).tmod (2 ^ (b % 32).toNat))
    (bq : -2147483648 ≤ (wrap32 a).tdiv (2 ^ (b % 32).toNat) ∧ (wrap32 a).tdiv (2 ^ (b % 32).toNat) ≤ 2147483647)
    (Z : Hid (dv 10 a b = (wrap32 a).tdiv (2 ^ (b % 32).toNat) % 4294967296)) :
    Calls Try.prog 7 #[.int .u32 a, .int .u32 b] w fun e w' => e = .returned (.bool true) ∧ Grown w w' := by
  have b1 := wrap32_bd a
  have hp := pow32 (b % 32).toNat (by omega)
  go_enter Try.func7, Try.ntmps7
  go_wp2
  go_loopw [5, 6, 7, 8] (fun l r s i wr => ∃ k : Nat, (k : Int) ≤ b % 32 ∧ i = .int .u32 (k : Int) ∧ l = .int .u32 (shk 8 a k) ∧ r = .int .u32 (shk 9 a k) ∧ s = .int .u32 (shk 10 a k) ∧ Grown w wr) (fun _ _ _ i _ => (b % 32 - intOf i).toNat)
  case atStart => exact ⟨0, by simp; omega, rfl, by rw [shk_0 8 a ha], by rw [shk_0 9 a ha], by rw [shk_0 10 a ha], Grown.refl _⟩
  case round =>
    obtain ⟨k, hk, rfl, rfl, rfl, rfl, hg⟩ := hrel
    have h8 := shk_bd 8 a k ha
    have h9 := shk_bd 9 a k ha
    have h10 := shk_bd 10 a k ha
    by_cases hlt : (k : Int) < b % 32
    · go_wp2_with fail
      refine (do_is 8 _ 1 (shk 8 a (k + 1)) true _ (by decide) h8 (by decide) (iter_8 a k ha) (by rfl)).mono ?_; rintro e x1 ⟨rfl, g1⟩
      go_wp2_with fail
      refine (do_is 9 _ 1 (shk 9 a (k + 1)) true _ (by decide) h9 (by decide) (iter_9 a k) (by rfl)).mono ?_; rintro e x2 ⟨rfl, g2⟩
      go_wp2_with fail
      refine (do_is 10 _ 1 (shk 10 a (k + 1)) true _ (by decide) h10 (by decide) (iter_10 a k ha) (by rfl)).mono ?_; rintro e x3 ⟨rfl, g3⟩
      go_wp2
      refine ⟨⟨k + 1, by omega, rfl, rfl, rfl, rfl, grown_trans (grown_trans (grown_trans hg g1) g2) g3⟩, ?_⟩
      simp only [intOf]; omega
    · have hk2 : (b % 32).toNat = k := by omega
      have d8 : dv 8 a b = shk 8 a k := by rw [← hk2, shk_dv 8 a b (by decide)]
      have d9 : dv 9 a b = shk 9 a k := by rw [← hk2, shk_dv 9 a b (by decide)]
      have d10 : dv 10 a b = shk 10 a k := by rw [← hk2, shk_dv 10 a b (by decide)]
      have d11 : dv 8 a (b % 32) = shk 8 a k := by rw [shift_32 a b 8 (by decide), d8]
      have D8 : Hid (dv 8 a b = shk 8 a k) := d8
      have D9 : Hid (dv 9 a b = shk 9 a k) := d9
      have D10 : Hid (dv 10 a b = shk 10 a k) := d10
      have D11 : Hid (dv 8 a (b % 32) = shk 8 a k) := d11
      have ez : ((wrap32 a).tdiv (2 ^ (b % 32).toNat) % 4294967296 == shk 10 a k) = true := by rw [← d10, Z.out]; simp
      clear d8 d9 d10 d11 hk2
      have hm : 0 ≤ b % 32 ∧ b % 32 < 4294967296 := by omega
      go_wp2_with fail
      refine (do_is 8 a b (shk 8 a k) true _ (by decide) ha hb D8.out (by rfl)).mono ?_; rintro e x1 ⟨rfl, g1⟩
      go_wp2_with fail
      refine (do_is 9 a b (shk 9 a k) true _ (by decide) ha hb D9.out (by rfl)).mono ?_; rintro e x2 ⟨rfl, g2⟩
      go_wp2_with fail
      refine (do_is 10 a b (shk 10 a k) true _ (by decide) ha hb D10.out (by rfl)).mono ?_; rintro e x3 ⟨rfl, g3⟩
      go_wp2_with fail
      refine (do_is 8 a (b % 32) (shk 8 a k) true _ (by decide) ha hm D11.out (by rfl)).mono ?_; rintro e x4 ⟨rfl, g4⟩
      go_wp2_with fail
      refine (head_any _).mono ?_; rintro e x5 ⟨rfl, g5⟩
      go_wp2
      go_ret
      exact ⟨rfl, grown_trans (grown_trans (grown_trans (grown_trans (grown_trans hg g1) g2) g3) g4) g5⟩
theorem wordShifts_walk (a b : Int) (w1 : (Lit.int .u32 a).wf = true) (w2 : (Lit.int .u32 b).wf = true) (w : World) :
    Calls Try.prog 7 #[.int .u32 a, .int .u32 b] w fun e w' => e = .returned (.bool true) ∧ Grown w w' := by
  have ha := wf_u32_bd w1
  have hb := wf_u32_bd w2
  have hp := pow32 (b % 32).toNat (by omega)
  have bq := tdiv_bd (wrap32 a) (2 ^ (b % 32).toNat) hp.1 (wrap32_bd a)
  have hf := floor_is (wrap32 a) (2 ^ (b % 32).toNat) (by omega)
  by_cases hn : (wrap32 a).tmod (2 ^ (b % 32).toNat) < 0
  · rw [if_pos hn] at hf
    exact shifts_neg a b ha hb w hn bq (by show dv 10 a b = _; rw [dv_10, hf])
  · rw [if_neg hn] at hf
    exact shifts_pos a b ha hb w (by omega) bq (by show dv 10 a b = _; rw [dv_10, hf])
end Go.Proofs.Ytflpejlghjeiiaa
