/- The walk of layer 4's statement PsrCircle: it returns true; of what was there nothing has turned. -/
import Derived.Test.YtilocfcedcclfaaDoorPsrHead
namespace Go.Proofs.YtilocfcedcclfaaDoor
open Go.RowKit
set_option linter.unusedVariables false
theorem u8_in {n : Int} (h : (Lit.int .u8 n).wf = true) : 0 ≤ n ∧ n < 256 := by
  simp only [Lit.wf, Bool.and_eq_true, decide_eq_true_eq] at h
  simp [IntKind.min, IntKind.max, IntKind.bits, IntKind.signed] at h
  omega
theorem win_all {x n : Int} {m : Nat} (hx : 0 ≤ x ∧ x < n) (hm : n = m := by rfl) : win x n m = x := by
  unfold win; rw [← hm, Int.add_emod_right]; exact Int.emod_eq_of_lt hx.1 hx.2
theorem next_ahead {x n : Int} (hx : 0 ≤ x ∧ x < n) (hn : 2 ≤ n) : ((x + 1) % n + n - 1) % n = x := by
  rw [turn_mod (t := x + 1) (by omega) (by omega)]
  split
  · rw [turn_mod (by omega) (by omega)]; split <;> omega
  · rw [turn_mod (by omega) (by omega)]; split <;> omega
theorem next_ne {x n : Int} (hx : 0 ≤ x ∧ x < n) (hn : 2 ≤ n) : (x + 1) % n ≠ x ∧ 0 ≤ (x + 1) % n ∧ (x + 1) % n < n := by
  rw [turn_mod (t := x + 1) (by omega) (by omega)]
  split <;> omega
theorem dist_turn {x y z n : Int} (hx : 0 ≤ x ∧ x < n) (hy : 0 ≤ y ∧ y < n) (hz : (y + 1) % n = z) (hn : 2 ≤ n) : dist x z n = dist x y n + 1 ∨ (dist x z n = 0 ∧ z = x ∧ dist x y n = n - 1) := by
  rw [turn_mod (by omega) (by omega)] at hz
  unfold dist
  split at hz <;> split <;> split <;> omega
theorem ahead_dist {x y n : Int} (hx : 0 ≤ x ∧ x < n) (hy : 0 ≤ y ∧ y < n) (h : (x + n - 1) % n = y) : dist x y n = n - 1 := by
  rw [turn_mod (by omega) (by omega)] at h
  unfold dist
  split at h <;> split <;> omega
set_option maxHeartbeats 4000000 in
set_option maxRecDepth 100000 in
theorem circle_walk (nw wi iv : Int) (w0 : 0 ≤ nw ∧ nw < 256) (w1 : 0 ≤ wi ∧ wi < 256) (w2 : 0 ≤ iv ∧ iv < 256) (w : World) (hT : TabAt w) :
    Calls Tryd.prog 5 #[.int .u8 nw, .int .u8 wi, .int .u8 iv] w fun e w' => e = .returned (.bool true) ∧ Below w.heap.size w w' := by
  have HT := Lib.hid hT
  clear hT
  go_enter Tryd.func5, Tryd.ntmps5
  go_wp2_with fail
  obtain ⟨m, hm⟩ : ∃ m : Nat, 2 + nw % 31 = (m : Int) := ⟨(2 + nw % 31).toNat, by omega⟩
  rw [hm]
  have hm2 : 2 ≤ m := by omega
  have hm32 : m ≤ 32 := by omega
  clear hm w0
  go_quiet (fail)
  obtain ⟨a, ha⟩ : ∃ a : Int, wi % (m : Int) = a := ⟨_, rfl⟩
  have ha0 : 0 ≤ a := by rw [← ha]; exact Int.emod_nonneg _ (by omega)
  have ha1 : a < m := by rw [← ha]; exact Int.emod_lt_of_pos _ (by omega)
  obtain ⟨y, hy⟩ : ∃ y : Nat, iv % (m : Int) = y := ⟨(iv % (m : Int)).toNat, (Int.toNat_of_nonneg (Int.emod_nonneg _ (by omega))).symm⟩
  have hy1 : (y : Int) < m := by rw [← hy]; exact Int.emod_lt_of_pos _ (by omega)
  rw [ha, hy]
  clear ha hy w1 w2
  have G0 : Below w.heap.size w (w.drewN nq) := bel_drewN (Below.refl _ _) nq
  generalize w.drewN nq = V at *
  have hd := dist_in ⟨ha0, ha1⟩ ⟨Int.natCast_nonneg y, hy1⟩
  obtain ⟨d, hdd⟩ : ∃ d : Nat, dist a y m = d := ⟨(dist a y m).toNat, by omega⟩
  have HW : Hid (∀ k : Nat, k ≤ d → (win a m k = y ↔ k = d)) := fun k hk => (win_eq ⟨ha0, ha1⟩ ⟨Int.natCast_nonneg y, hy1⟩ (by omega)).trans (by omega)
  have HI : Hid (∀ k : Nat, 0 ≤ win a m k ∧ win a m k < m) := fun k => win_in (by omega) k
  have HS : Hid (∀ k : Nat, (win a m k + 1) % m = win a m (k + 1)) := fun k => win_succ a m k
  have HZ := Lib.hid (win_zero ⟨ha0, ha1⟩)
  have HF : Hid (win a m m = a) := win_all ⟨ha0, ha1⟩
  have HB : Hid (((a + 1) % (m : Int) + m - 1) % m = a) := next_ahead ⟨ha0, ha1⟩ (by omega)
  have HN : Hid ((a + 1) % (m : Int) ≠ a ∧ 0 ≤ (a + 1) % (m : Int) ∧ (a + 1) % (m : Int) < m) := next_ne ⟨ha0, ha1⟩ (by omega)
  have HD : Hid (a = y ↔ d = 0) := by
    have := HW.out 0 (by omega)
    rw [HZ.out] at this
    exact this.trans (by omega)
  have HA : Hid ((a + (m : Int) - 1) % m = y → d = m - 1) := fun e => by have := ahead_dist ⟨ha0, ha1⟩ ⟨Int.natCast_nonneg y, hy1⟩ e; omega
  have hdm : d < m := by omega
  clear hd
  go_wp2_with fail
  refine (Next_yes a m _ (by omega) (by omega) ha0 ha1).mono ?_; rintro e u1 ⟨rfl, g1⟩
  have G1 := bel_trans G0 g1
  clear g1 G0
  obtain ⟨b, hb⟩ : ∃ b : Int, (a + 1) % (m : Int) = b := ⟨_, rfl⟩
  rw [hb] at HB HN ⊢
  clear hb
  obtain ⟨hb, hb0, hb1⟩ := HN.out
  clear HN
  go_wp2_with fail
  refine (Ahead_yes b m _ (by omega) (by omega) hb0 hb1).mono ?_; rintro e u2 ⟨rfl, g2⟩
  have G2 := bel_trans G1 g2
  clear g2 G1
  rw [HB.out]
  clear HB hb0 hb1
  go_wp2_with fail
  go_loopw [14, 15] (fun t i wr => ∃ k : Nat, k ≤ m ∧ i = .int .i64 k ∧ t = .int .i64 (win a m k) ∧ Below w.heap.size w wr) (fun _ i _ => m - (intOf i).toNat)
  case atStart => exact ⟨0, by omega, rfl, by rw [HZ.out], G2⟩
  case round =>
    clear G2
    obtain ⟨k, hk, rfl, rfl, hg⟩ := hrel
    have hu0 := (HI.out k).1
    have hu1 := (HI.out k).2
    have hs1 := Lib.hid (HS.out k)
    by_cases hlt : k < m
    · have hk32 : k < 32 := by omega
      generalize win a m k = u at *
      go_wp2_with fail
      refine (Next_yes u m _ (by omega) (by omega) hu0 hu1).mono ?_; rintro e u3 ⟨rfl, g3⟩
      go_wp2_with fail
      go_roundw
      case rel => exact ⟨k + 1, by omega, by go_num, by rw [hs1.out], bel_trans hg g3⟩
      case measure => simp [intOf]; omega
    · obtain rfl : k = m := by omega
      rw [HF.out]
      clear hu0 hu1 hs1 hlt hk
      have hba : (b == a) = false := by simpa using hb
      have hee : ((d : Int) == 0) = (a == (y : Int)) := by
        have := HD.out
        by_cases h : d = 0
        · rw [this.2 h, h]; simp
        · have h' : a ≠ y := fun e => h (this.1 e)
          rw [beq_eq_false_iff_ne.2 h', beq_eq_false_iff_ne]; omega
      have hgt : ¬ ((k : Int) - 1 < (d : Int)) := by omega
      have hk32 : k < 32 ∨ k = 32 := by omega
      go_wp2_with fail
      refine (Wim_yes y k _ (by omega) (by omega) hy1).mono ?_; rintro e u3 ⟨rfl, g3⟩
      have G3 := bel_trans hg g3
      have HV := Lib.hid (fun W (t : TabAt W) => Invalid_yes y k W t (by omega) (by omega) hy1)
      have HR := Lib.hid (fun W (t : TabAt W) => Resident_yes a k y W t (by omega) (by omega) ha0 ha1 hy1)
      rw [hdd, Int.toNat_natCast] at HR
      clear g3 hg HD HF hdd
      generalize pw y = v at *
      go_wp2_with fail
      refine (HV.out _ (HT.out.bel G3)).mono ?_; rintro e u4 ⟨rfl, g4⟩
      have G4 := bel_trans G3 g4
      clear g4 G3 HV
      go_wp2_with fail
      refine (HR.out _ (HT.out.bel G4)).mono ?_; rintro e u5 ⟨s, rfl, hs, g5⟩
      have G5 := bel_trans G4 g5
      obtain ⟨p, c, rfl, hp⟩ := row_ints hs
      have HP := Lib.hid hp
      clear g5 G4 HR hs hp
      have hd32 : d < 32 := by omega
      go_wp2_with fail
      clear hba hee hgt
      go_loopw [22] (fun i ws => ∃ j : Nat, j ≤ d ∧ i = .int .i64 j ∧ Below u5.heap.size u5 ws) (fun i _ => d - (intOf i).toNat)
      case atStart => exact ⟨0, by omega, rfl, Below.refl _ _⟩
      case round =>
        obtain ⟨j, hj, rfl, hx⟩ := hrel
        by_cases hlt : j < d
        · obtain ⟨g, rfl, hcs⟩ := HP.out (by omega)
          have cj := bel_cell hx (hcs j hlt)
          have hu0 := (HI.out j).1
          have hu1 := (HI.out j).2
          have hs1 := Lib.hid (HS.out j)
          have hz0 : Hid (j = 0 → win a k j = a) := fun e => by rw [e]; exact HZ.out
          have hyj : Hid (j + 1 = d → win a k (j + 1) = y) := fun e => (HW.out (j + 1) (by omega)).2 e
          have cj1 : Hid (j + 1 < d → ∀ W, Below wr.heap.size wr W → W.cell? ⟨g, j + 1, none⟩ = some (.int .i64 (win a k (j + 1)))) := fun e W hW => bel_cell hW (bel_cell hx (hcs (j + 1) e))
          have cj0 : Hid (∀ W, Below wr.heap.size wr W → W.cell? ⟨g, j, none⟩ = some (.int .i64 (win a k j))) := fun W hW => bel_cell hW cj
          generalize win a k j = t at *
          generalize win a k (j + 1) = t' at *
          have hj32 : j < 32 := by omega
          go_wp2_with fail
          refine (Next_yes t k _ (by omega) (by omega) hu0 hu1).mono ?_; rintro e u6 ⟨rfl, g6⟩
          rw [hs1.out]
          have X6 := bel_trans hx g6
          have c0 := cj0.out _ g6
          clear cj cj0 hs1 hu0 hu1
          have hj1 : ((j : Int) + 1).toNat = j + 1 := by omega
          by_cases h0 : j = 0
          · subst h0
            have et : (t != a) = false := by have := hz0.out rfl; simp [this]
            by_cases h1 : 0 + 1 < d
            · have c1 : u6.cell? ⟨g, 1, none⟩ = some (.int .i64 t') := cj1.out h1 _ g6
              have l1 : (1 : Int) < d := by omega
              have l2 : ((1 : Int) == d) = false := by simp; omega
              clear hj1
              go_wp2_with fail
              go_roundw
              case rel => exact ⟨1, by omega, by go_num, X6⟩
              case measure => simp [intOf]; omega
            · have h2 : 0 + 1 = d := by omega
              have l1 : ¬ (1 : Int) < d := by omega
              have l2 : ((1 : Int) == d) = true := by simp; omega
              have l3 : (t' != (y : Int)) = false := by have := hyj.out h2; simp [this]
              clear hj1 h2
              go_wp2_with fail
              go_roundw
              case rel => exact ⟨1, by omega, by go_num, X6⟩
              case measure => simp [intOf]; omega
          · have e0 : ((j : Int) == 0) = false := by simpa using h0
            by_cases h1 : j + 1 < d
            · have c1 := cj1.out h1 _ g6
              have l1 : (j : Int) + 1 < d := by omega
              have l2 : ((j : Int) + 1 == d) = false := by simp; omega
              go_wp2_with fail
              go_roundw
              case rel => exact ⟨j + 1, by omega, by go_num, X6⟩
              case measure => simp [intOf]; omega
            · have h2 : j + 1 = d := by omega
              have l1 : ¬ (j : Int) + 1 < d := by omega
              have l2 : ((j : Int) + 1 == d) = true := by simp; omega
              have l3 : (t' != (y : Int)) = false := by have := hyj.out h2; simp [this]
              clear h2
              go_wp2_with fail
              go_roundw
              case rel => exact ⟨j + 1, by omega, by go_num, X6⟩
              case measure => simp [intOf]; omega
        · obtain rfl : j = d := by omega
          have Gx := bel_trans G5 hx
          clear hx G5 HP HW HI HS HZ
          go_wp2_with fail
          refine (Ahead_yes a k _ (by omega) (by omega) ha0 ha1).mono ?_; rintro e u7 ⟨rfl, g7⟩
          have G7 := bel_trans Gx g7
          clear Gx g7
          by_cases he : (a + (k : Int) - 1) % k = y
          · rw [he]
            have hjk : ((j : Int) == (k : Int) - 1) = true := by have := HA.out he; simp; omega
            clear he HA
            go_wp2_with fail
            refine (head_any _ (HT.out.bel G7)).mono ?_; rintro e u8 ⟨rfl, g8⟩
            go_wp2_with fail
            go_ret
            exact ⟨rfl, bel_trans G7 g8⟩
          · have he' : ((a + (k : Int) - 1) % k != (y : Int)) = true := by simpa using he
            clear he HA
            generalize (a + (k : Int) - 1) % k = z at *
            go_wp2_with fail
            refine (head_any _ (HT.out.bel G7)).mono ?_; rintro e u8 ⟨rfl, g8⟩
            go_wp2_with fail
            go_ret
            exact ⟨rfl, bel_trans G7 g8⟩
end Go.Proofs.YtilocfcedcclfaaDoor
