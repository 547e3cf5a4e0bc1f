/- The walk of layer 3's statement FileTurns: it returns true; of what was there nothing has turned. -/
import Derived.Test.YthhkecdcgalcbaaFileHead
import Derived.Test.YthhkecdcgalcbaaFileWords
namespace Go.Proofs.Ythhkecdcgalcbaa
open Go.RowKit
set_option linter.unusedVariables false
/-- The words of a file into whose first k windows words were put. -/
def RT (v : Int) (k : Nat) : Nat → Int := fun j => if j < 16 * k then wd ((v + ((j / 16 : Nat) : Int) * 1000) % 4294967296) (j % 16) else 0
theorem RT_zero (v : Int) : RT v 0 = fun _ => 0 := by funext j; unfold RT; rw [if_neg (by omega)]
theorem RT_put (v : Int) (k : Nat) : putF (RT v k) (k * 16) (wd ((v + (k : Int) * 1000) % 4294967296)) = RT v (k + 1) := by
  funext j
  unfold putF RT
  by_cases h1 : j < 16 * k
  · rw [if_neg (by omega), if_pos h1, if_pos (by omega)]
  · by_cases h2 : j < 16 * (k + 1)
    · rw [if_pos (by omega), if_pos h2, show j / 16 = k by omega, show j % 16 = j - k * 16 by omega]
    · rw [if_neg (by omega), if_neg h1, if_neg h2]
theorem RT_at (v : Int) {m k i : Nat} (hk : k < m) (hi : i < 16) : RT v m (k * 16 + i) = wd ((v + (k : Int) * 1000) % 4294967296) i := by
  unfold RT
  rw [if_pos (by omega), show (k * 16 + i) / 16 = k by omega, show (k * 16 + i) % 16 = i by omega]
theorem loc_next {n : Int} {k r : Nat} (hn : 2 ≤ n) (hk : (k : Int) < n) (hr : r < 8) : loc n (((k : Int) + 1) % n) 9 (8 + (r : Int)) = k * 16 + (8 + r) := by
  by_cases h : (k : Int) + 1 = n
  · rw [h, Int.emod_self, loc_out0 (by omega) (by omega)]; omega
  · rw [Int.emod_eq_of_lt (by omega) (by omega), loc_out (by omega) (by omega) (by omega)]; omega
theorem wf_u8 {n : Int} (h : (Lit.int .u8 n).wf = true) : 0 ≤ n ∧ n < 256 := by
  simp only [Lit.wf, Bool.and_eq_true, decide_eq_true_eq] at h
  simp [IntKind.min, IntKind.max, IntKind.bits, IntKind.signed] at h
  omega
theorem wf_u32 {n : Int} (h : (Lit.int .u32 n).wf = true) : 0 ≤ n ∧ n < 4294967296 := by
  simp only [Lit.wf, Bool.and_eq_true, decide_eq_true_eq] at h
  simp [IntKind.min, IntKind.max, IntKind.bits, IntKind.signed] at h
  omega
set_option maxHeartbeats 4000000 in
set_option maxRecDepth 100000 in
theorem fileTurns_walk (nw v : Int) (w0 : (Lit.int .u8 nw).wf = true) (w1 : (Lit.int .u32 v).wf = true) (w : World) :
    Calls Try.prog 6 #[.int .u8 nw, .int .u32 v] w fun e w' => e = .returned (.bool true) ∧ Below w.heap.size w w' := by
  have hnw := wf_u8 w0
  obtain ⟨hv, hv'⟩ := wf_u32 w1
  clear w0 w1
  go_enter Try.func6, Try.ntmps6
  go_wp2_with fail
  obtain ⟨m, hm⟩ : ∃ m : Nat, 2 + nw % 31 = (m : Int) := ⟨(2 + nw % 31).toNat, by omega⟩
  have hn : 2 ≤ m := by omega
  have hn' : m ≤ 32 := by omega
  rw [hm]
  clear hm
  refine (new_at m _ (by omega) (by omega)).mono ?_; rintro e w1 ⟨rfl, g1, F0⟩
  generalize hz : w.heap.size = z at F0
  have hb : w.heap.size ≤ z := by omega
  clear hz
  rw [← RT_zero v] at F0
  go_wp2_with fail
  go_loopw [8] (fun i wr => ∃ k : Nat, k ≤ m ∧ i = .int .i64 k ∧ FileAt wr z m (RT v k) ∧ Below w.heap.size w wr) (fun i _ => m - (intOf i).toNat)
  case atStart => exact ⟨0, by omega, rfl, F0, g1⟩
  case round =>
    clear F0 g1 w1
    obtain ⟨k, hk, rfl, F, hg⟩ := hrel
    by_cases hlt : k < m
    · have hk32 : k < 32 := by omega
      go_wp2_with fail
      refine (words_any _ 16 _ (by omega) (by omega) (by omega)).mono ?_; rintro e w2 ⟨s, rfl, ho, g2⟩
      obtain ⟨g, c, rfl, hgB, hc⟩ := words_form ho (by decide)
      have HC := Lib.hid hc
      have F2 := F.bel g2
      have G2 := bel_trans hg g2
      clear hc ho F hg g2
      go_wp2_with fail
      refine (put_at z m k _ _ g c _ F2 (by omega) (by omega) (by omega) (by omega) HC.out).mono ?_; rintro e w3 ⟨rfl, k3, F3⟩
      have G3 := only_bel G2 k3 hb
      rw [Int.toNat_natCast, RT_put] at F3
      clear k3 G2 F2
      go_wp2
      go_roundw
      case rel => exact ⟨k + 1, by omega, by go_num, F3, G3⟩
      case measure => simp [intOf]; omega
    · obtain rfl : k = m := by omega
      go_wp2_with fail
      have F0 := F
      have G0 := hg
      clear F hg
      go_loopw [9] (fun i ws => ∃ j : Nat, j ≤ k ∧ i = .int .i64 j ∧ Below wr.heap.size wr ws) (fun i _ => k - (intOf i).toNat)
      case atStart => exact ⟨0, by omega, rfl, Below.refl _ _⟩
      case round =>
        obtain ⟨j, hj, rfl, hg⟩ := hrel
        by_cases hlt : j < k
        · have hj32 : j < 32 := by omega
          have F := F0.bel hg
          go_wp2_with fail
          refine (window_at z k j _ _ F (by omega) (by omega) (by omega) (by omega)).mono ?_; rintro e w4 ⟨rfl, g4, hrow⟩
          rw [Int.toNat_natCast, wl_congr (g := wd ((v + (j : Int) * 1000) % 4294967296)) (fun i hi => RT_at v hlt hi)] at hrow
          have HL : Hid (∀ i, i < 16 → w4.cell? ⟨wr.heap.size, i, none⟩ = some (.int .u32 (wd ((v + (j : Int) * 1000) % 4294967296) i))) := fun i hi => by
            rw [cell_of_row _ _ _ _ _ _ hrow]; simpa using wl_get (wd ((v + (j : Int) * 1000) % 4294967296)) hi
          have G4 := bel_trans hg g4
          generalize wr.heap.size = q at HL ⊢
          clear hrow F g4
          go_wp2_with fail
          refine (words_any _ 16 _ (by omega) (by omega) (by omega)).mono ?_; rintro e w5 ⟨s, rfl, ho, g5⟩
          obtain ⟨g, c, rfl, hgB, hc⟩ := words_form ho (by decide)
          have HC := Lib.hid hc
          have HL5 : Hid (∀ i, i < 16 → w5.cell? ⟨q, i, none⟩ = some (.int .u32 (wd ((v + (j : Int) * 1000) % 4294967296) i))) := fun i hi => bel_cell g5 (HL.out i hi)
          have G5 := bel_trans G4 g5
          clear hc ho g5 HL G4 hgB
          go_wp2_with fail
          refine (same_yes _ _ 16 _ _ (wd ((v + (j : Int) * 1000) % 4294967296)) _ (by omega) ⟨_, rfl, HL5.out⟩ ⟨_, rfl, HC.out⟩).mono ?_; rintro e w6 ⟨rfl, g6⟩
          have HL6 : Hid (∀ i, i < 16 → w6.cell? ⟨q, i, none⟩ = some (.int .u32 (wd ((v + (j : Int) * 1000) % 4294967296) i))) := fun i hi => bel_cell g6 (HL5.out i hi)
          have G6 := bel_trans G5 g6
          clear g6 HL5 G5 HC
          go_wp2_with fail
          go_loopw [12] (fun i ws => ∃ r : Nat, r ≤ 8 ∧ i = .int .i64 r ∧ Below w6.heap.size w6 ws) (fun i _ => 8 - (intOf i).toNat)
          case atStart => exact ⟨0, by omega, rfl, Below.refl _ _⟩
          case round =>
            obtain ⟨r, hr, rfl, hx⟩ := hrel
            by_cases hlt8 : r < 8
            · have F := F0.bel (bel_trans G6 hx)
              have HV : Hid (RT v k (loc k (((j : Int) + 1) % k) 9 (8 + (r : Int))) = wd ((v + (j : Int) * 1000) % 4294967296) (8 + r)) := by
                rw [loc_next (by omega) (by omega) hlt8]; exact RT_at v hlt (by omega)
              have hc := bel_cell hx (HL6.out (8 + r) (by omega))
              have h0 : 0 ≤ ((j : Int) + 1) % k := Int.emod_nonneg _ (by omega)
              have h1 : ((j : Int) + 1) % k < k := Int.emod_lt_of_pos _ (by omega)
              go_wp2_with fail
              refine (get_is z k _ 9 _ _ _ _ F (by omega) (by omega) ⟨h0, h1, by decide, by decide, by omega, by omega⟩ HV.out).mono ?_; rintro e w7 ⟨rfl, g7⟩
              have hc7 := bel_cell g7 hc
              have G7 := bel_trans hx g7
              have he : (8 + (r : Int)).toNat = 8 + r := by omega
              clear hc g7 h0 h1
              go_wp2
              go_roundw
              case rel => exact ⟨r + 1, by omega, by go_num, G7⟩
              case measure => simp [intOf]; omega
            · obtain rfl : r = 8 := by omega
              go_wp2
              go_roundw
              case rel => exact ⟨j + 1, by omega, by go_num, bel_trans G6 hx⟩
              case measure => simp [intOf]; omega
        · obtain rfl : j = k := by omega
          have F := F0.bel hg
          have G := bel_trans G0 hg
          go_wp2_with fail
          refine (words_any v 16 _ (by omega) (by omega) (by omega)).mono ?_; rintro e w2 ⟨s, rfl, ho, g2⟩
          have F2 := F.bel g2
          go_wp2_with fail
          refine (put_bad z j j _ _ F2.nw (by omega) (.inr (Int.le_refl _))).mono ?_; rintro e w3 ⟨rfl, rfl⟩
          go_wp2_with fail
          refine (nw_at z j _ F2.nw (by omega)).mono ?_; rintro e w3 ⟨rfl, rfl⟩
          go_wp2_with fail
          refine (head_any _).mono ?_; rintro e w4 ⟨rfl, g4⟩
          go_wp2
          go_ret
          exact ⟨rfl, bel_trans (bel_trans G g2) g4⟩
end Go.Proofs.Ythhkecdcgalcbaa
