/- What the laws of layer 10 share: may a case be looked at; how many are alive behind. -/
import Derived.Test.YtiobgnelhiadbaaGreatDoorVSwapGW
namespace Go.Proofs.YtiobgnelhiadbaaGreatDoor.S10
open Go.RowKit K6
set_option linter.unusedVariables false
open Classical in
noncomputable def mayZ (s : TC) : Bool := if s.May then true else false
theorem mayZ_yes {s : TC} (h : s.May) : mayZ s = true := by unfold mayZ; rw [if_pos h]
theorem mayZ_no {s : TC} (h : ¬ s.May) : mayZ s = false := by unfold mayZ; rw [if_neg h]
theorem mayZ_may {s : TC} (h : mayZ s = true) : s.May := by
  unfold mayZ at h
  split at h
  · assumption
  · cases h
set_option maxRecDepth 100000 in
set_option maxHeartbeats 8000000 in
theorem may_at {w : World} (s : TC) {vr vf : Value} (hC : TCAt w s vr vf) :
    Calls Tryz.prog 17 #[.agg (zrow s vr vf)] w fun e w' => e = .returned (.bool (mayZ s)) ∧ Below w.heap.size w w' := by
  obtain ⟨pr, cr, rfl, _⟩ := id hC.rr
  obtain ⟨pf, cf, rfl, _⟩ := id hC.rf
  have gX : Hid (Below w.heap.size w (w.alloc (.cells (zrow s (.slice pr s.lr cr) (.slice pf s.lf cf)) 54))) := bel_alK (Below.refl _ _)
  have hX : (w.alloc (.cells (zrow s (.slice pr s.lr cr) (.slice pf s.lf cf)) 54)).heap[w.heap.size]? = some (.cells (zrow s (.slice pr s.lr cr) (.slice pf s.lf cf)) 54 (0, 0)) := heap_alloc_last _ _
  have x0 := row_cell hX (j := 0) (v := .int .i64 s.nw) rfl
  have x1 := row_cell hX (j := 1) (v := .int .i64 s.c) rfl
  have x2 := row_cell hX (j := 2) (v := .int .i64 s.iv) rfl
  have x3 := row_cell hX (j := 3) (v := .slice pr s.lr cr) rfl
  have x4 := row_cell hX (j := 4) (v := .slice pf s.lf cf) rfl
  have x5 := row_cell hX (j := 5) (v := .int .i64 s.th) rfl
  have x6 := row_cell hX (j := 6) (v := .int .i64 s.ru) rfl
  have x16 := row_cell hX (j := 16) (v := .int .u8 s.fl) rfl
  have x17 := row_cell hX (j := 17) (v := .int .u8 s.pl) rfl
  clear hX hC
  go_enter Tryz.func17, Tryz.ntmps17
  go_upto_region 1 with (fail)
  change Code.wp _ _ _ _ (w.alloc (.cells (zrow s (.slice pr s.lr cr) (.slice pf s.lf cf)) 54))
  generalize (w.alloc (.cells (zrow s (.slice pr s.lr cr) (.slice pf s.lf cf)) 54)) = V at *
  by_cases h0 : 2 ≤ s.nw
  case neg => have e : Hid (mayZ s = false) := mayZ_no (fun m => h0 (m.n2)); go_wp2_with fail; go_ret; exact ⟨by rw [e.out]; rfl, gX.out⟩
  by_cases h1 : s.nw ≤ 32
  case neg => have e : Hid (mayZ s = false) := mayZ_no (fun m => h1 (m.n32)); go_wp2_with fail; go_ret; exact ⟨by rw [e.out]; rfl, gX.out⟩
  by_cases h2 : 0 ≤ s.c
  case neg => have e : Hid (mayZ s = false) := mayZ_no (fun m => h2 (m.c0)); go_wp2_with fail; go_ret; exact ⟨by rw [e.out]; rfl, gX.out⟩
  by_cases h3 : s.c < s.nw
  case neg => have e : Hid (mayZ s = false) := mayZ_no (fun m => h3 (m.c1)); go_wp2_with fail; go_ret; exact ⟨by rw [e.out]; rfl, gX.out⟩
  by_cases h4 : 0 ≤ s.iv
  case neg => have e : Hid (mayZ s = false) := mayZ_no (fun m => h4 (m.i0)); go_wp2_with fail; go_ret; exact ⟨by rw [e.out]; rfl, gX.out⟩
  by_cases h5 : s.iv < s.nw
  case neg => have e : Hid (mayZ s = false) := mayZ_no (fun m => h5 (m.i1)); go_wp2_with fail; go_ret; exact ⟨by rw [e.out]; rfl, gX.out⟩
  by_cases h6 : s.iv = s.c
  case pos => have e : Hid (mayZ s = false) := mayZ_no (fun m => m.ic h6); have b6 : (s.iv != s.c) = false := by rw [h6]; simp
              clear h6; go_wp2_with fail; go_ret; exact ⟨by rw [e.out]; rfl, gX.out⟩
  have b6 : (s.iv != s.c) = true := by simpa using h6
  by_cases h7 : 1 ≤ s.th
  case neg => have e : Hid (mayZ s = false) := mayZ_no (fun m => h7 (m.t1)); go_wp2_with fail; go_ret; exact ⟨by rw [e.out]; rfl, gX.out⟩
  by_cases h8 : s.th ≤ 4
  case neg => have e : Hid (mayZ s = false) := mayZ_no (fun m => h8 (m.t4)); go_wp2_with fail; go_ret; exact ⟨by rw [e.out]; rfl, gX.out⟩
  by_cases h9 : 0 ≤ s.ru
  case neg => have e : Hid (mayZ s = false) := mayZ_no (fun m => h9 (m.r0)); go_wp2_with fail; go_ret; exact ⟨by rw [e.out]; rfl, gX.out⟩
  by_cases h10 : s.ru < s.th
  case neg => have e : Hid (mayZ s = false) := mayZ_no (fun m => h10 (m.r1)); go_wp2_with fail; go_ret; exact ⟨by rw [e.out]; rfl, gX.out⟩
  by_cases h11 : s.pl ≤ 15
  case neg => have e : Hid (mayZ s = false) := mayZ_no (fun m => h11 (m.pl)); go_wp2_with fail; go_ret; exact ⟨by rw [e.out]; rfl, gX.out⟩
  by_cases h12 : s.fl ≤ 15
  case neg => have e : Hid (mayZ s = false) := mayZ_no (fun m => h12 (m.fl)); go_wp2_with fail; go_ret; exact ⟨by rw [e.out]; rfl, gX.out⟩
  by_cases h13 : (s.lr : Int) ≤ 512
  case neg => have e : Hid (mayZ s = false) := mayZ_no (fun m => h13 (by have := m.lr; omega)); go_wp2_with fail; go_ret; exact ⟨by rw [e.out]; rfl, gX.out⟩
  by_cases h14 : (s.lf : Int) ≤ 64
  case neg => have e : Hid (mayZ s = false) := mayZ_no (fun m => h14 (by have := m.lf; omega)); go_wp2_with fail; go_ret; exact ⟨by rw [e.out]; rfl, gX.out⟩
  have e : Hid (mayZ s = true) := mayZ_yes ⟨h0, h1, h2, h3, h4, h5, h6, h7, h8, h9, h10, h11, h12, by omega, by omega⟩
  go_wp2_with fail
  go_ret
  exact ⟨by rw [e.out]; rfl, gX.out⟩
set_option maxRecDepth 100000 in
set_option maxHeartbeats 2000000 in
theorem living_at {w : World} (s : TC) {vr vf : Value} (hC : TCAt w s vr vf) (t1 : 1 ≤ s.th) (t4 : s.th ≤ 4) :
    Calls Tryz.prog 18 #[.agg (zrow s vr vf)] w fun e w' => e = .returned (.int .i64 (cntA s.la s.th.toNat)) ∧ Below w.heap.size w w' := by
  obtain ⟨pr, cr, rfl, _⟩ := id hC.rr
  obtain ⟨pf, cf, rfl, _⟩ := id hC.rf
  have gX : Hid (Below w.heap.size w (w.alloc (.cells (zrow s (.slice pr s.lr cr) (.slice pf s.lf cf)) 54))) := bel_alK (Below.refl _ _)
  have hX : (w.alloc (.cells (zrow s (.slice pr s.lr cr) (.slice pf s.lf cf)) 54)).heap[w.heap.size]? = some (.cells (zrow s (.slice pr s.lr cr) (.slice pf s.lf cf)) 54 (0, 0)) := heap_alloc_last _ _
  have x5 := row_cell hX (j := 5) (v := .int .i64 s.th) rfl
  have x6 := row_cell hX (j := 6) (v := .int .i64 s.ru) rfl
  have x7 := row_cell hX (j := 7) (v := .bool (s.al 0)) rfl
  have x8 := row_cell hX (j := 8) (v := .bool (s.al 1)) rfl
  have x9 := row_cell hX (j := 9) (v := .bool (s.al 2)) rfl
  have x10 := row_cell hX (j := 10) (v := .bool (s.al 3)) rfl
  have x19 := row_cell hX (j := 19) (v := .bool s.en) rfl
  clear hX hC
  go_enter Tryz.func18, Tryz.ntmps18
  go_upto_region 1 with (fail)
  change Code.wp _ _ _ _ (w.alloc (.cells (zrow s (.slice pr s.lr cr) (.slice pf s.lf cf)) 54))
  generalize (w.alloc (.cells (zrow s (.slice pr s.lr cr) (.slice pf s.lf cf)) 54)) = V at *
  go_wp2_with fail
  go_loopw [3, 4] (fun n t wr => ∃ k : Nat, (k : Int) ≤ s.th ∧ n = .int .i64 (cntA s.la k) ∧ t = .int .i64 k ∧ wr = V) (fun _ t _ => (s.th - intOf t).toNat)
  case atStart => exact ⟨0, by omega, rfl, rfl, rfl⟩
  case round =>
    obtain ⟨k, hk, rfl, rfl, rfl⟩ := hrel
    obtain ⟨n0, n1⟩ := cntA_b (al := s.la) k fun j _ => la_01 j
    by_cases hlt : (k : Int) < s.th
    · have k4 : k < 4 := by omega
      have EK : Hid (cntA s.la (k + 1) = cntA s.la k + s.la k) := rfl
      have LA : Hid (s.la k = if s.en = true ∧ (k : Int) = s.ru then 0 else if s.al k then 1 else 0) := rfl
      obtain ⟨N, hN⟩ : ∃ N, N = cntA s.la k := ⟨_, rfl⟩
      rw [← hN] at n0 n1 EK ⊢
      have HN := Lib.hid hN
      have HL := Lib.hid hlt
      have wN : IntKind.i64.wrap (N + 1) = N + 1 := IntWalk.i64_in _ (by omega)
      clear hN
      rcases (by omega : k = 0 ∨ k = 1 ∨ k = 2 ∨ k = 3) with rfl | rfl | rfl | rfl
      · clear x8 x9 x10
        cases ha : s.al 0
        · have LV : Hid (s.la 0 = 0) := by unfold Hid; rw [LA.out, ha]; split <;> rfl
          rw [ha] at x7
          clear ha
          go_wp2_with fail
          go_roundw
          case rel => exact ⟨0 + 1, by have := HL.out; omega, by rw [EK.out, LV.out]; rw [Int.add_zero], by go_num, by first | rfl | trivial⟩
          case measure => simp only [intOf]; have := HL.out; omega
        · rw [ha] at x7
          cases he : s.en
          · have LV : Hid (s.la 0 = 1) := by unfold Hid; rw [LA.out, ha, he]; rfl
            rw [he] at x19
            clear ha he
            go_wp2_with fail
            go_roundw
            case rel => exact ⟨0 + 1, by have := HL.out; omega, by rw [EK.out, LV.out], by go_num, by first | rfl | trivial⟩
            case measure => simp only [intOf]; have := HL.out; omega
          · rw [he] at x19
            by_cases hr : ((0 : Nat) : Int) = s.ru
            · have LV : Hid (s.la 0 = 0) := by unfold Hid; rw [LA.out, if_pos ⟨he, hr⟩]
              have hb : (((0 : Nat) : Int) == s.ru) = true := by simpa using hr
              have hb' : (0 == s.ru) = true := hb
              clear ha he hr
              go_wp2_with fail
              go_roundw
              case rel => exact ⟨0 + 1, by have := HL.out; omega, by rw [EK.out, LV.out]; rw [Int.add_zero], by go_num, by first | rfl | trivial⟩
              case measure => simp only [intOf]; have := HL.out; omega
            · have LV : Hid (s.la 0 = 1) := by unfold Hid; rw [LA.out, if_neg (fun e => hr e.2), ha]; rfl
              have hb : (((0 : Nat) : Int) == s.ru) = false := by simpa using hr
              have hb' : (0 == s.ru) = false := hb
              clear ha he hr
              go_wp2_with fail
              go_roundw
              case rel => exact ⟨0 + 1, by have := HL.out; omega, by rw [EK.out, LV.out], by go_num, by first | rfl | trivial⟩
              case measure => simp only [intOf]; have := HL.out; omega
      · clear x7 x9 x10
        cases ha : s.al 1
        · have LV : Hid (s.la 1 = 0) := by unfold Hid; rw [LA.out, ha]; split <;> rfl
          rw [ha] at x8
          clear ha
          go_wp2_with fail
          go_roundw
          case rel => exact ⟨1 + 1, by have := HL.out; omega, by rw [EK.out, LV.out]; rw [Int.add_zero], by go_num, by first | rfl | trivial⟩
          case measure => simp only [intOf]; have := HL.out; omega
        · rw [ha] at x8
          cases he : s.en
          · have LV : Hid (s.la 1 = 1) := by unfold Hid; rw [LA.out, ha, he]; rfl
            rw [he] at x19
            clear ha he
            go_wp2_with fail
            go_roundw
            case rel => exact ⟨1 + 1, by have := HL.out; omega, by rw [EK.out, LV.out], by go_num, by first | rfl | trivial⟩
            case measure => simp only [intOf]; have := HL.out; omega
          · rw [he] at x19
            by_cases hr : ((1 : Nat) : Int) = s.ru
            · have LV : Hid (s.la 1 = 0) := by unfold Hid; rw [LA.out, if_pos ⟨he, hr⟩]
              have hb : (((1 : Nat) : Int) == s.ru) = true := by simpa using hr
              have hb' : (1 == s.ru) = true := hb
              clear ha he hr
              go_wp2_with fail
              go_roundw
              case rel => exact ⟨1 + 1, by have := HL.out; omega, by rw [EK.out, LV.out]; rw [Int.add_zero], by go_num, by first | rfl | trivial⟩
              case measure => simp only [intOf]; have := HL.out; omega
            · have LV : Hid (s.la 1 = 1) := by unfold Hid; rw [LA.out, if_neg (fun e => hr e.2), ha]; rfl
              have hb : (((1 : Nat) : Int) == s.ru) = false := by simpa using hr
              have hb' : (1 == s.ru) = false := hb
              clear ha he hr
              go_wp2_with fail
              go_roundw
              case rel => exact ⟨1 + 1, by have := HL.out; omega, by rw [EK.out, LV.out], by go_num, by first | rfl | trivial⟩
              case measure => simp only [intOf]; have := HL.out; omega
      · clear x7 x8 x10
        cases ha : s.al 2
        · have LV : Hid (s.la 2 = 0) := by unfold Hid; rw [LA.out, ha]; split <;> rfl
          rw [ha] at x9
          clear ha
          go_wp2_with fail
          go_roundw
          case rel => exact ⟨2 + 1, by have := HL.out; omega, by rw [EK.out, LV.out]; rw [Int.add_zero], by go_num, by first | rfl | trivial⟩
          case measure => simp only [intOf]; have := HL.out; omega
        · rw [ha] at x9
          cases he : s.en
          · have LV : Hid (s.la 2 = 1) := by unfold Hid; rw [LA.out, ha, he]; rfl
            rw [he] at x19
            clear ha he
            go_wp2_with fail
            go_roundw
            case rel => exact ⟨2 + 1, by have := HL.out; omega, by rw [EK.out, LV.out], by go_num, by first | rfl | trivial⟩
            case measure => simp only [intOf]; have := HL.out; omega
          · rw [he] at x19
            by_cases hr : ((2 : Nat) : Int) = s.ru
            · have LV : Hid (s.la 2 = 0) := by unfold Hid; rw [LA.out, if_pos ⟨he, hr⟩]
              have hb : (((2 : Nat) : Int) == s.ru) = true := by simpa using hr
              have hb' : (2 == s.ru) = true := hb
              clear ha he hr
              go_wp2_with fail
              go_roundw
              case rel => exact ⟨2 + 1, by have := HL.out; omega, by rw [EK.out, LV.out]; rw [Int.add_zero], by go_num, by first | rfl | trivial⟩
              case measure => simp only [intOf]; have := HL.out; omega
            · have LV : Hid (s.la 2 = 1) := by unfold Hid; rw [LA.out, if_neg (fun e => hr e.2), ha]; rfl
              have hb : (((2 : Nat) : Int) == s.ru) = false := by simpa using hr
              have hb' : (2 == s.ru) = false := hb
              clear ha he hr
              go_wp2_with fail
              go_roundw
              case rel => exact ⟨2 + 1, by have := HL.out; omega, by rw [EK.out, LV.out], by go_num, by first | rfl | trivial⟩
              case measure => simp only [intOf]; have := HL.out; omega
      · clear x7 x8 x9
        cases ha : s.al 3
        · have LV : Hid (s.la 3 = 0) := by unfold Hid; rw [LA.out, ha]; split <;> rfl
          rw [ha] at x10
          clear ha
          go_wp2_with fail
          go_roundw
          case rel => exact ⟨3 + 1, by have := HL.out; omega, by rw [EK.out, LV.out]; rw [Int.add_zero], by go_num, by first | rfl | trivial⟩
          case measure => simp only [intOf]; have := HL.out; omega
        · rw [ha] at x10
          cases he : s.en
          · have LV : Hid (s.la 3 = 1) := by unfold Hid; rw [LA.out, ha, he]; rfl
            rw [he] at x19
            clear ha he
            go_wp2_with fail
            go_roundw
            case rel => exact ⟨3 + 1, by have := HL.out; omega, by rw [EK.out, LV.out], by go_num, by first | rfl | trivial⟩
            case measure => simp only [intOf]; have := HL.out; omega
          · rw [he] at x19
            by_cases hr : ((3 : Nat) : Int) = s.ru
            · have LV : Hid (s.la 3 = 0) := by unfold Hid; rw [LA.out, if_pos ⟨he, hr⟩]
              have hb : (((3 : Nat) : Int) == s.ru) = true := by simpa using hr
              have hb' : (3 == s.ru) = true := hb
              clear ha he hr
              go_wp2_with fail
              go_roundw
              case rel => exact ⟨3 + 1, by have := HL.out; omega, by rw [EK.out, LV.out]; rw [Int.add_zero], by go_num, by first | rfl | trivial⟩
              case measure => simp only [intOf]; have := HL.out; omega
            · have LV : Hid (s.la 3 = 1) := by unfold Hid; rw [LA.out, if_neg (fun e => hr e.2), ha]; rfl
              have hb : (((3 : Nat) : Int) == s.ru) = false := by simpa using hr
              have hb' : (3 == s.ru) = false := hb
              clear ha he hr
              go_wp2_with fail
              go_roundw
              case rel => exact ⟨3 + 1, by have := HL.out; omega, by rw [EK.out, LV.out], by go_num, by first | rfl | trivial⟩
              case measure => simp only [intOf]; have := HL.out; omega
    · obtain rfl : k = s.th.toNat := by omega
      clear hlt hk x7 x8 x9 x10
      have hth : ((s.th.toNat : Nat) : Int) = s.th := by omega
      have hlt' : ¬ (((s.th.toNat : Nat) : Int) < s.th) := by omega
      clear hth
      go_wp2_with fail
      go_ret
      exact ⟨rfl, gX.out⟩
end Go.Proofs.YtiobgnelhiadbaaGreatDoor.S10
