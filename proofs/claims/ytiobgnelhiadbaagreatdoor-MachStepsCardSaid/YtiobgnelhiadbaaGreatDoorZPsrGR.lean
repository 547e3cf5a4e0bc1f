/- The document's answers for layer 4, for any arguments: windows, May, Pack, Unpack, Next, Ahead. Which windows are resident: package psr's Resident, for any arguments; rows of windows. The document's answers for layer 4, for any arguments: Wim, Invalid, Resident; when two rows are the same. -/
import Derived.Test.YtiobgnelhiadbaaGreatDoorZPsrG
import Derived.OwnWalk
import Derived.Laws.AppendOwn
import Derived.IntWalk
namespace Go.Proofs.YtiobgnelhiadbaaGreatDoor.P4
open Go.RowKit
set_option linter.unusedVariables false
theorem rwin_yes (n : Int) (w : World) (hn : 2 ≤ n) (hn' : n ≤ 32) : Calls Tryz.prog 158 #[.int .i64 n] w fun e w' => e = .returned (.bool true) ∧ w = w' := by
  go_enter Tryz.func158, Tryz.ntmps158
  go_wp2
  go_ret
  exact ⟨rfl, rfl⟩
/-- May a state be? (of which the number of windows is asked elsewhere) -/
def May4 (a b c d n : Int) : Prop := a < n ∧ b ≤ 15 ∧ c ≤ 16 ∧ d ≤ 15
theorem may_yes (a b c d n : Int) (w : World) (ha : Byte a) (hb : Byte b) (hc : Byte c) (hd : Byte d) (h : May4 a b c d n) :
    Calls Tryz.prog 201 #[.agg #[.int .u8 a, .int .u8 b, .int .u8 c, .int .u8 d], .int .i64 n] w fun e w' => e = .returned (.bool true) ∧ Below w.heap.size w w' := by
  obtain ⟨ha0, ha1⟩ := ha
  obtain ⟨hb0, hb1⟩ := hb
  obtain ⟨hc0, hc1⟩ := hc
  obtain ⟨hd0, hd1⟩ := hd
  obtain ⟨h0, h1, h2, h3⟩ := h
  go_enter Tryz.func201, Tryz.ntmps201
  go_wp2
  go_ret
  exact ⟨rfl, by go_grown⟩
theorem may_no (a b c d n : Int) (w : World) (ha : Byte a) (hb : Byte b) (hc : Byte c) (hd : Byte d) (h : ¬ May4 a b c d n) :
    Calls Tryz.prog 201 #[.agg #[.int .u8 a, .int .u8 b, .int .u8 c, .int .u8 d], .int .i64 n] w fun e w' => e = .returned (.bool false) ∧ Below w.heap.size w w' := by
  obtain ⟨ha0, ha1⟩ := ha
  obtain ⟨hb0, hb1⟩ := hb
  obtain ⟨hc0, hc1⟩ := hc
  obtain ⟨hd0, hd1⟩ := hd
  unfold May4 at h
  by_cases h0 : a < n
  · by_cases h1 : b ≤ 15
    · by_cases h2 : c ≤ 16
      · have h3 : ¬ d ≤ 15 := by omega
        clear h
        go_enter Tryz.func201, Tryz.ntmps201
        go_wp2
        go_ret
        exact ⟨rfl, by go_grown⟩
      · clear h
        go_enter Tryz.func201, Tryz.ntmps201
        go_wp2
        go_ret
        exact ⟨rfl, by go_grown⟩
    · clear h
      go_enter Tryz.func201, Tryz.ntmps201
      go_wp2
      go_ret
      exact ⟨rfl, by go_grown⟩
  · clear h
    go_enter Tryz.func201, Tryz.ntmps201
    go_wp2
    go_ret
    exact ⟨rfl, by go_grown⟩
theorem rPack_yes (a b c d n : Int) (w : World) (ha : Byte a) (hb : Byte b) (hc : Byte c) (hd : Byte d) (h : State a b c d n) :
    Calls Tryz.prog 132 #[.agg #[.int .u8 a, .int .u8 b, .int .u8 c, .int .u8 d], .int .i64 n] w fun e w' => e = .returned (.tuple #[.int .u32 (pword a b c d), .int .i64 0]) ∧ Below w.heap.size w w' := by
  have hm : Hid (May4 a b c d n) := h.2.2
  obtain ⟨hn, hn', h0, h1, h2, h3⟩ := h
  go_enter Tryz.func132, Tryz.ntmps132
  go_wp2_with fail
  refine (rwin_yes n _ hn hn').mono ?_; rintro e w1 ⟨rfl, rfl⟩
  go_wp2_with fail
  refine (may_yes a b c d n _ ha hb hc hd hm.out).mono ?_; rintro e w1 ⟨rfl, g1⟩
  have S1 : SB w w.heap.size #[.int .u8 a, .int .u8 b, .int .u8 c, .int .u8 d] 24 w1 := SB.more ⟨row_born rfl, (Below.refl _ _).alloc (Nat.le_refl _) _⟩ g1
  clear g1
  obtain ⟨c0, c1, c2, c3, S1⟩ := S1.all4
  have g1 := S1.bel
  clear S1
  obtain ⟨ha0, ha1⟩ := ha
  obtain ⟨hb0, hb1⟩ := hb
  obtain ⟨hc0, hc1⟩ := hc
  obtain ⟨hd0, hd1⟩ := hd
  go_wp2
  go_ret2
  exact ⟨by unfold pword; rfl, g1⟩
theorem rUnpack_yes (v n : Int) (w : World) (hv : 0 ≤ v ∧ v < 262144) (h : WState v n) : Calls Tryz.prog 147 #[.int .u32 v, .int .i64 n] w fun e w' => e = .returned (.tuple #[.agg #[.int .u8 (v % 32), .int .u8 (v / 32 % 16), .int .u8 (v / 512 % 32), .int .u8 (v / 16384 % 16)], .int .i64 0]) ∧ Below w.heap.size w w' := by
  obtain ⟨b0, b1, b2, b3⟩ := parts_byte v
  have hm : Hid (May4 (v % 32) (v / 32 % 16) (v / 512 % 32) (v / 16384 % 16) n) := h.2.2
  obtain ⟨hn, hn', _⟩ := h
  obtain ⟨hv0, hv1⟩ := hv
  have hge : ¬ 262144 ≤ v := by omega
  go_enter Tryz.func147, Tryz.ntmps147
  go_wp2_with fail
  refine (rwin_yes n _ hn hn').mono ?_; rintro e w1 ⟨rfl, rfl⟩
  go_wp2_with fail
  refine (may_yes _ _ _ _ n _ b0 b1 b2 b3 hm.out).mono ?_; rintro e w1 ⟨rfl, g1⟩
  have R1 : w1.heap[w.heap.size]? = some (.cells #[.int .u8 0, .int .u8 0, .int .u8 0, .int .u8 0] 24 (0, 0)) := bel_heap g1 (row_alloc (row_born rfl))
  have G1 := bel_trans (bel_trans ((Below.refl _ _).alloc (Nat.le_refl _) _) ((Below.refl _ _).alloc (Nat.le_refl _) _)) g1
  have P1 : w1.heap[w.heap.size + 1]? = some (.cells #[.int .u8 (v % 32), .int .u8 (v / 32 % 16), .int .u8 (v / 512 % 32), .int .u8 (v / 16384 % 16)] 24 (0, 0)) := bel_heap g1 (row_born (by simp))
  clear g1 hm b0 b1 b2 b3
  obtain ⟨⟨c0, c1, c2, c3⟩, f0, f1, f2, f3⟩ := four_at R1
  obtain ⟨⟨d0, d1, d2, d3⟩, _⟩ := four_at P1
  go_wp2_with fail
  have G5 := put4_bel (y0 := .int .u8 (v % 32)) (y1 := .int .u8 (v / 32 % 16)) (y2 := .int .u8 (v / 512 % 32)) (y3 := .int .u8 (v / 16384 % 16)) G1 (Nat.le_refl _)
  obtain ⟨⟨q0, q1, q2, q3⟩, _⟩ := four_at (put4_row (y0 := .int .u8 (v % 32)) (y1 := .int .u8 (v / 32 % 16)) (y2 := .int .u8 (v / 512 % 32)) (y3 := .int .u8 (v / 16384 % 16)) R1)
  clear c0 c1 c2 c3 d0 d1 d2 d3 f0 f1 f2 f3 R1 G1 P1
  refine bodyPost_ret (v := .tuple #[.agg #[.int .u8 (v % 32), .int .u8 (v / 32 % 16), .int .u8 (v / 512 % 32), .int .u8 (v / 16384 % 16)], .int .i64 0]) ?_ rfl ⟨rfl, G5⟩
  simp [results, Tryz.results147, go_sem, q0, q1, q2, q3]
theorem rUnpack_form (v n : Int) (w : World) (hn : 2 ≤ n) (hn' : n ≤ 32) (hv : 0 ≤ v ∧ v < 4294967296) (h : ¬ (v < 262144 ∧ WState v n)) : Calls Tryz.prog 147 #[.int .u32 v, .int .i64 n] w fun e w' => e = .returned (.tuple #[.agg #[.int .u8 0, .int .u8 0, .int .u8 0, .int .u8 0], .int .i64 5]) ∧ Below w.heap.size w w' := by
  obtain ⟨b0, b1, b2, b3⟩ := parts_byte v
  obtain ⟨hv0, hv1⟩ := hv
  by_cases hge : 262144 ≤ v
  · clear h b0 b1 b2 b3
    go_enter Tryz.func147, Tryz.ntmps147
    go_wp2_with fail
    refine (rwin_yes n _ hn hn').mono ?_; rintro e w1 ⟨rfl, rfl⟩
    go_wp2_with fail
    refine bodyPost_ret (v := .tuple #[.agg #[.int .u8 0, .int .u8 0, .int .u8 0, .int .u8 0], .int .i64 5]) ?_ rfl ⟨rfl, by go_grown⟩
    simp [results, Tryz.results147, go_sem]
  · have hm : Hid (¬ May4 (v % 32) (v / 32 % 16) (v / 512 % 32) (v / 16384 % 16) n) := fun m => h ⟨by omega, hn, hn', m⟩
    clear h
    go_enter Tryz.func147, Tryz.ntmps147
    go_wp2_with fail
    refine (rwin_yes n _ hn hn').mono ?_; rintro e w1 ⟨rfl, rfl⟩
    go_wp2_with fail
    refine (may_no _ _ _ _ n _ b0 b1 b2 b3 hm.out).mono ?_; rintro e w1 ⟨rfl, g1⟩
    have R1 : w1.heap[w.heap.size]? = some (.cells #[.int .u8 0, .int .u8 0, .int .u8 0, .int .u8 0] 24 (0, 0)) := bel_heap g1 (row_alloc (row_born rfl))
    have G1 := bel_trans (bel_trans ((Below.refl _ _).alloc (Nat.le_refl _) _) ((Below.refl _ _).alloc (Nat.le_refl _) _)) g1
    clear g1 hm b0 b1 b2 b3
    obtain ⟨⟨c0, c1, c2, c3⟩, f0, f1, f2, f3⟩ := four_at R1
    go_wp2_with fail
    have G5 := put4_bel (y0 := .int .u8 0) (y1 := .int .u8 0) (y2 := .int .u8 0) (y3 := .int .u8 0) G1 (Nat.le_refl _)
    obtain ⟨⟨q0, q1, q2, q3⟩, _⟩ := four_at (put4_row (y0 := .int .u8 0) (y1 := .int .u8 0) (y2 := .int .u8 0) (y3 := .int .u8 0) R1)
    clear c0 c1 c2 c3 f0 f1 f2 f3 R1 G1
    refine bodyPost_ret (v := .tuple #[.agg #[.int .u8 0, .int .u8 0, .int .u8 0, .int .u8 0], .int .i64 5]) ?_ rfl ⟨rfl, G5⟩
    simp [results, Tryz.results147, go_sem, q0, q1, q2, q3]
theorem rNext_yes (x n k : Int) (w : World) (hn : 2 ≤ n) (hn' : n ≤ 32) (h0 : 0 ≤ x) (h1 : x < n) (hk : 0 ≤ k) (hk' : k < 32) : Calls Tryz.prog 103 #[.int .i64 x, .int .i64 n, .int .i64 k] w fun e w' => e = .returned (.tuple #[.int .i64 ((x + k) % n), .int .i64 0]) ∧ w = w' := by
  have h2 : ¬ x < 0 := by omega
  have h3 : ¬ n ≤ x := by omega
  go_enter Tryz.func103, Tryz.ntmps103
  go_wp2_with fail
  refine (rwin_yes n _ hn hn').mono ?_; rintro e w1 ⟨rfl, rfl⟩
  go_wp2_with fail
  go_ret2
  exact ⟨rfl, rfl⟩
theorem rAhead_yes (x n : Int) (w : World) (hn : 2 ≤ n) (hn' : n ≤ 32) (h0 : 0 ≤ x) (h1 : x < n) : Calls Tryz.prog 144 #[.int .i64 x, .int .i64 n] w fun e w' => e = .returned (.tuple #[.int .i64 ((x + (n - 1)) % n), .int .i64 0]) ∧ w = w' := by
  go_enter Tryz.func144, Tryz.ntmps144
  go_wp2_with fail
  refine (rNext_yes x n (n - 1) _ hn hn' h0 h1 (by omega) (by omega)).mono ?_; rintro e w1 ⟨rfl, rfl⟩
  go_wp2_with fail
  go_ret2
  exact ⟨rfl, rfl⟩
end Go.Proofs.YtiobgnelhiadbaaGreatDoor.P4
namespace Go.Proofs.YtiobgnelhiadbaaGreatDoor.P4
open Go.RowKit
set_option linter.unusedVariables false
/-- The window that is k on from x. -/
def win (x n : Int) (k : Nat) : Int := (x + (k : Int)) % n
end Go.Proofs.YtiobgnelhiadbaaGreatDoor.P4
namespace Go.Proofs.YtiobgnelhiadbaaGreatDoor.P4
open Go.RowKit
set_option linter.unusedVariables false
theorem pw_succ (k : Nat) : 2 * pw k = pw (k + 1) := by unfold pw; rw [Nat.pow_succ]; omega
theorem pw_inj {a b : Nat} (h : pw a = pw b) : a = b := by
  unfold pw at h
  have h' : 2 ^ a = 2 ^ b := by omega
  rcases Nat.lt_trichotomy a b with hh | hh | hh
  · have := Nat.pow_lt_pow_right (a := 2) (by decide) hh; omega
  · exact hh
  · have := Nat.pow_lt_pow_right (a := 2) (by decide) hh; omega
theorem rWim_yes (x : Nat) (n : Int) (w : World) (hn : 2 ≤ n) (hn' : n ≤ 32) (h1 : (x : Int) < n) : Calls Tryz.prog 98 #[.int .i64 x, .int .i64 n] w fun e w' => e = .returned (.tuple #[.int .u32 (pw x), .int .i64 0]) ∧ w = w' := by
  have h2 : ¬ (x : Int) < 0 := by omega
  have h3 : ¬ n ≤ x := by omega
  have hx : (x : Int) < 32 := by omega
  go_enter Tryz.func98, Tryz.ntmps98
  go_wp2_with fail
  refine (rwin_yes n _ hn hn').mono ?_; rintro e w1 ⟨rfl, rfl⟩
  go_wp2_with fail
  go_loop [6, 7] (fun m i => ∃ k : Nat, k ≤ x ∧ i = .int .i64 k ∧ m = .int .u32 (pw k)) (fun _ i => x - (intOf i).toNat)
  case atStart => exact ⟨0, by omega, rfl, rfl⟩
  case round =>
    obtain ⟨k, hk, rfl, rfl⟩ := hrel
    by_cases hlt : k < x
    · have hp := Lib.hid (pw_succ k)
      obtain ⟨p0, p1⟩ := pw_in (x := k) (by omega)
      obtain ⟨q0, q1⟩ := pw_in (x := k + 1) (by omega)
      rw [← pw_succ] at q0 q1
      generalize pw k = u at *
      go_wp2_with fail
      go_round
      case rel => exact ⟨k + 1, by omega, by go_num, by rw [← hp.out]⟩
      case measure => simp [intOf]; omega
    · obtain rfl : k = x := by omega
      go_wp2_with fail
      go_ret2
      exact ⟨rfl, rfl⟩
theorem rInvalid_yes (x : Nat) (n : Int) (w : World) (hn : 2 ≤ n) (hn' : n ≤ 32) (h1 : (x : Int) < n) : Calls Tryz.prog 145 #[.int .u32 (pw x), .int .i64 n] w fun e w' => e = .returned (.tuple #[.int .i64 x, .int .i64 0]) ∧ w = w' := by
  have hx : (x : Int) < 32 := by omega
  have HE : Hid (∀ k : Nat, k < x → pw k ≠ pw x) := fun k hk e => by have := pw_inj e; omega
  have HP : Hid (∀ k : Nat, 0 ≤ pw k) := fun k => by unfold pw; exact Int.natCast_nonneg _
  go_enter Tryz.func145, Tryz.ntmps145
  go_wp2_with fail
  refine (rwin_yes n _ hn hn').mono ?_; rintro e w1 ⟨rfl, rfl⟩
  go_wp2_with fail
  go_loop [6] (fun i => ∃ k : Nat, k ≤ x ∧ i = .int .i64 k) (fun i => x - (intOf i).toNat)
  case atStart => exact ⟨0, by omega, rfl⟩
  case round =>
    obtain ⟨k, hk, rfl⟩ := hrel
    have hkn : (k : Int) < n := by omega
    have hc := Lib.hid (fun w => rWim_yes k n w hn hn' hkn)
    by_cases hlt : k < x
    · have hne : (pw k == pw x) = false := by simpa using HE.out k hlt
      generalize pw k = u at *
      go_wp2_with fail
      refine (hc.out _).mono ?_; rintro e w1 ⟨rfl, rfl⟩
      go_wp2_with fail
      go_round
      case rel => exact ⟨k + 1, by omega, by go_num⟩
      case measure => simp [intOf]; omega
    · obtain rfl : k = x := by omega
      generalize pw k = u at *
      go_wp2_with fail
      refine (hc.out _).mono ?_; rintro e w1 ⟨rfl, rfl⟩
      go_wp2_with fail
      go_ret2
      exact ⟨rfl, rfl⟩
theorem rInvalid_form (v n : Int) (w : World) (hv : 0 ≤ v ∧ v < 4294967296) (hn : 2 ≤ n) (hn' : n ≤ 32) (h : ∀ x : Nat, (x : Int) < n → v ≠ pw x) : Calls Tryz.prog 145 #[.int .u32 v, .int .i64 n] w fun e w' => e = .returned (.tuple #[.int .i64 0, .int .i64 5]) ∧ w = w' := by
  have HE := Lib.hid h
  clear h
  obtain ⟨hv0, hv1⟩ := hv
  obtain ⟨m, rfl⟩ : ∃ m : Nat, n = m := ⟨n.toNat, by omega⟩
  go_enter Tryz.func145, Tryz.ntmps145
  go_wp2_with fail
  refine (rwin_yes m _ hn hn').mono ?_; rintro e w1 ⟨rfl, rfl⟩
  go_wp2_with fail
  go_loop [6] (fun i => ∃ k : Nat, k ≤ m ∧ i = .int .i64 k) (fun i => m - (intOf i).toNat)
  case atStart => exact ⟨0, by omega, rfl⟩
  case round =>
    obtain ⟨k, hk, rfl⟩ := hrel
    by_cases hlt : k < m
    · have hkn : (k : Int) < m := by omega
      have hc := Lib.hid (fun w => rWim_yes k m w hn hn' hkn)
      have hne : (pw k == v) = false := by have := HE.out k hkn; simp; exact fun e => this e.symm
      generalize pw k = u at *
      go_wp2_with fail
      refine (hc.out _).mono ?_; rintro e w1 ⟨rfl, rfl⟩
      go_wp2_with fail
      go_round
      case rel => exact ⟨k + 1, by omega, by go_num⟩
      case measure => simp [intOf]; omega
    · obtain rfl : k = m := by omega
      go_wp2_with fail
      go_ret2
      exact ⟨rfl, rfl⟩
/-! Two rows that are the same. -/
def Ints (w : World) (s : Value) (m : Nat) (f : Nat → Int) : Prop := ∃ p c, s = .slice p m c ∧ (0 < m → ∃ b, p = some ⟨b, 0, none⟩ ∧ ∀ i, i < m → w.cell? ⟨b, i, none⟩ = some (.int .i64 (f i)))
theorem Ints.bel {w w' : World} {s : Value} {m : Nat} {f : Nat → Int} (h : Ints w s m f) (g : Below w.heap.size w w') : Ints w' s m f := by
  obtain ⟨p, c, rfl, h⟩ := h
  exact ⟨p, c, rfl, fun hm => by obtain ⟨b, rfl, hc⟩ := h hm; exact ⟨b, rfl, fun i hi => bel_cell g (hc i hi)⟩⟩
end Go.Proofs.YtiobgnelhiadbaaGreatDoor.P4
