/- The document's answers for layer 4, for any arguments: windows, May, Pack, Unpack, Next, Ahead. Which windows are resident: package psr's Resident, for any arguments; rows of windows. The document's answers for layer 4, for any arguments: Wim, Invalid, Resident; when two rows are the same. -/
import Derived.Test.YtiobgnelhiadbaaGreatDoorVPsrG
import Derived.OwnWalk
import Derived.Laws.AppendOwn
import Derived.IntWalk
namespace Go.Proofs.YtiobgnelhiadbaaGreatDoor.P4
open Go.RowKit
set_option linter.unusedVariables false
theorem rwin_yes (n : Int) (w : World) (hn : 2 ≤ n) (hn' : n ≤ 32) : Calls Tryz.prog 158 #[.int .i64 n] w fun e w' => e = .returned (.bool true) ∧ w = w' := by
  go_enter Tryz.func158, Tryz.ntmps158
  go_wp2
  go_ret
  exact ⟨rfl, rfl⟩
theorem rwin_no (n : Int) (w : World) (h : ¬ (2 ≤ n ∧ n ≤ 32)) : Calls Tryz.prog 158 #[.int .i64 n] w fun e w' => e = .returned (.bool false) ∧ w = w' := by
  by_cases h2 : 2 ≤ n
  · have h3 : ¬ n ≤ 32 := by omega
    clear h
    go_enter Tryz.func158, Tryz.ntmps158
    go_wp2
    go_ret
    exact ⟨rfl, rfl⟩
  · clear h
    go_enter Tryz.func158, Tryz.ntmps158
    go_wp2
    go_ret
    exact ⟨rfl, rfl⟩
/-- May a state be? (of which the number of windows is asked elsewhere) -/
def May4 (a b c d n : Int) : Prop := a < n ∧ b ≤ 15 ∧ c ≤ 16 ∧ d ≤ 15
theorem may_yes (a b c d n : Int) (w : World) (ha : Byte a) (hb : Byte b) (hc : Byte c) (hd : Byte d) (h : May4 a b c d n) :
    Calls Tryz.prog 201 #[.agg #[.int .u8 a, .int .u8 b, .int .u8 c, .int .u8 d], .int .i64 n] w fun e w' => e = .returned (.bool true) ∧ Below w.heap.size w w' := by
  obtain ⟨ha0, ha1⟩ := ha
  obtain ⟨hb0, hb1⟩ := hb
  obtain ⟨hc0, hc1⟩ := hc
  obtain ⟨hd0, hd1⟩ := hd
  obtain ⟨h0, h1, h2, h3⟩ := h
  go_enter Tryz.func201, Tryz.ntmps201
  go_wp2
  go_ret
  exact ⟨rfl, by go_grown⟩
theorem rUnpack_yes (v n : Int) (w : World) (hv : 0 ≤ v ∧ v < 262144) (h : WState v n) : Calls Tryz.prog 147 #[.int .u32 v, .int .i64 n] w fun e w' => e = .returned (.tuple #[.agg #[.int .u8 (v % 32), .int .u8 (v / 32 % 16), .int .u8 (v / 512 % 32), .int .u8 (v / 16384 % 16)], .int .i64 0]) ∧ Below w.heap.size w w' := by
  obtain ⟨b0, b1, b2, b3⟩ := parts_byte v
  have hm : Hid (May4 (v % 32) (v / 32 % 16) (v / 512 % 32) (v / 16384 % 16) n) := h.2.2
  obtain ⟨hn, hn', _⟩ := h
  obtain ⟨hv0, hv1⟩ := hv
  have hge : ¬ 262144 ≤ v := by omega
  go_enter Tryz.func147, Tryz.ntmps147
  go_wp2_with fail
  refine (rwin_yes n _ hn hn').mono ?_; rintro e w1 ⟨rfl, rfl⟩
  go_wp2_with fail
  refine (may_yes _ _ _ _ n _ b0 b1 b2 b3 hm.out).mono ?_; rintro e w1 ⟨rfl, g1⟩
  have R1 : w1.heap[w.heap.size]? = some (.cells #[.int .u8 0, .int .u8 0, .int .u8 0, .int .u8 0] 24 (0, 0)) := bel_heap g1 (row_alloc (row_born rfl))
  have G1 := bel_trans (bel_trans ((Below.refl _ _).alloc (Nat.le_refl _) _) ((Below.refl _ _).alloc (Nat.le_refl _) _)) g1
  have P1 : w1.heap[w.heap.size + 1]? = some (.cells #[.int .u8 (v % 32), .int .u8 (v / 32 % 16), .int .u8 (v / 512 % 32), .int .u8 (v / 16384 % 16)] 24 (0, 0)) := bel_heap g1 (row_born (by simp))
  clear g1 hm b0 b1 b2 b3
  obtain ⟨⟨c0, c1, c2, c3⟩, f0, f1, f2, f3⟩ := four_at R1
  obtain ⟨⟨d0, d1, d2, d3⟩, _⟩ := four_at P1
  go_wp2_with fail
  have G5 := put4_bel (y0 := .int .u8 (v % 32)) (y1 := .int .u8 (v / 32 % 16)) (y2 := .int .u8 (v / 512 % 32)) (y3 := .int .u8 (v / 16384 % 16)) G1 (Nat.le_refl _)
  obtain ⟨⟨q0, q1, q2, q3⟩, _⟩ := four_at (put4_row (y0 := .int .u8 (v % 32)) (y1 := .int .u8 (v / 32 % 16)) (y2 := .int .u8 (v / 512 % 32)) (y3 := .int .u8 (v / 16384 % 16)) R1)
  clear c0 c1 c2 c3 d0 d1 d2 d3 f0 f1 f2 f3 R1 G1 P1
  refine bodyPost_ret (v := .tuple #[.agg #[.int .u8 (v % 32), .int .u8 (v / 32 % 16), .int .u8 (v / 512 % 32), .int .u8 (v / 16384 % 16)], .int .i64 0]) ?_ rfl ⟨rfl, G5⟩
  simp [results, Tryz.results147, go_sem, q0, q1, q2, q3]
theorem rNext_yes (x n k : Int) (w : World) (hn : 2 ≤ n) (hn' : n ≤ 32) (h0 : 0 ≤ x) (h1 : x < n) (hk : 0 ≤ k) (hk' : k < 32) : Calls Tryz.prog 103 #[.int .i64 x, .int .i64 n, .int .i64 k] w fun e w' => e = .returned (.tuple #[.int .i64 ((x + k) % n), .int .i64 0]) ∧ w = w' := by
  have h2 : ¬ x < 0 := by omega
  have h3 : ¬ n ≤ x := by omega
  go_enter Tryz.func103, Tryz.ntmps103
  go_wp2_with fail
  refine (rwin_yes n _ hn hn').mono ?_; rintro e w1 ⟨rfl, rfl⟩
  go_wp2_with fail
  go_ret2
  exact ⟨rfl, rfl⟩
end Go.Proofs.YtiobgnelhiadbaaGreatDoor.P4
namespace Go.Proofs.YtiobgnelhiadbaaGreatDoor.P4
open Go.RowKit
set_option linter.unusedVariables false
/-- How far it is from one window on to another. -/
def dist (x y n : Int) : Int := if x ≤ y then y - x else y - x + n
theorem dist_in {x y n : Int} (hx : 0 ≤ x ∧ x < n) (hy : 0 ≤ y ∧ y < n) : 0 ≤ dist x y n ∧ dist x y n < n := by unfold dist; split <;> omega
theorem turn_mod {t n : Int} (h0 : 0 ≤ t) (h1 : t < 2 * n) : t % n = if t < n then t else t - n := by
  split
  · exact Int.emod_eq_of_lt h0 (by omega)
  · rw [show t = (t - n) + n by omega, Int.add_emod_right, Int.emod_eq_of_lt (by omega) (by omega)]; omega
/-- The window that is k on from x. -/
def win (x n : Int) (k : Nat) : Int := (x + (k : Int)) % n
theorem win_in {x n : Int} (hn : 0 < n) (k : Nat) : 0 ≤ win x n k ∧ win x n k < n := ⟨Int.emod_nonneg _ (by omega), Int.emod_lt_of_pos _ hn⟩
theorem win_zero {x n : Int} (hx : 0 ≤ x ∧ x < n) : win x n 0 = x := by unfold win; simp; exact Int.emod_eq_of_lt hx.1 hx.2
theorem win_succ (x n : Int) (k : Nat) : (win x n k + 1) % n = win x n (k + 1) := by unfold win; rw [Int.emod_add_emod]; congr 1; omega
theorem win_eq {x y n : Int} (hx : 0 ≤ x ∧ x < n) (hy : 0 ≤ y ∧ y < n) {k : Nat} (hk : (k : Int) ≤ dist x y n) : win x n k = y ↔ (k : Int) = dist x y n := by
  have := dist_in hx hy
  unfold win
  rw [turn_mod (by omega) (by omega)]
  unfold dist at *
  split <;> split at * <;> omega
/-- The windows from x on. -/
def rl (x n : Int) (m : Nat) : List Value := (List.range m).map fun i => Value.int .i64 (win x n i)
theorem rl_succ (x n : Int) (m : Nat) : rl x n (m + 1) = rl x n m ++ [.int .i64 (win x n m)] := by simp [rl, List.range_succ]
theorem rl_get (x n : Int) (m i : Nat) (h : i < m) : (rl x n m)[i]? = some (.int .i64 (win x n i)) := by simp [rl, h]
/-- A slice's length. -/
def lenOf : Value → Nat | .slice _ m _ => m | _ => 0
theorem own_len {w : World} {B : Nat} {t : TypeId} {s : Value} {m : Nat} {xs : List Value} (h : w.ownsRow B t 1 s m xs) : lenOf s = m := by
  obtain ⟨h0, h | ⟨g, cap, cur, rfl, _⟩⟩ := h
  · obtain ⟨rfl, rfl⟩ := h; rfl
  · rfl
theorem int_parts : (Tryz.prog.info? 3).map (fun i => (i.zero, i.size, i.bytes)) = some (some (.int .i64 0), 1, 8) := by kernel_rfl
theorem int_under : Tryz.prog.underlying 94 = some (.slice 3) := by kernel_rfl
/-- A row of the windows from x on, as a slice. -/
def Row (w : World) (B : Nat) (s : Value) (x n : Int) (m : Nat) : Prop := w.ownsRow B 3 1 s m (rl x n m)
end Go.Proofs.YtiobgnelhiadbaaGreatDoor.P4
namespace Go.Proofs.YtiobgnelhiadbaaGreatDoor.P4
open Go.RowKit
set_option linter.unusedVariables false
theorem pw_succ (k : Nat) : 2 * pw k = pw (k + 1) := by unfold pw; rw [Nat.pow_succ]; omega
theorem pw_inj {a b : Nat} (h : pw a = pw b) : a = b := by
  unfold pw at h
  have h' : 2 ^ a = 2 ^ b := by omega
  rcases Nat.lt_trichotomy a b with hh | hh | hh
  · have := Nat.pow_lt_pow_right (a := 2) (by decide) hh; omega
  · exact hh
  · have := Nat.pow_lt_pow_right (a := 2) (by decide) hh; omega
theorem rWim_yes (x : Nat) (n : Int) (w : World) (hn : 2 ≤ n) (hn' : n ≤ 32) (h1 : (x : Int) < n) : Calls Tryz.prog 98 #[.int .i64 x, .int .i64 n] w fun e w' => e = .returned (.tuple #[.int .u32 (pw x), .int .i64 0]) ∧ w = w' := by
  have h2 : ¬ (x : Int) < 0 := by omega
  have h3 : ¬ n ≤ x := by omega
  have hx : (x : Int) < 32 := by omega
  go_enter Tryz.func98, Tryz.ntmps98
  go_wp2_with fail
  refine (rwin_yes n _ hn hn').mono ?_; rintro e w1 ⟨rfl, rfl⟩
  go_wp2_with fail
  go_loop [6, 7] (fun m i => ∃ k : Nat, k ≤ x ∧ i = .int .i64 k ∧ m = .int .u32 (pw k)) (fun _ i => x - (intOf i).toNat)
  case atStart => exact ⟨0, by omega, rfl, rfl⟩
  case round =>
    obtain ⟨k, hk, rfl, rfl⟩ := hrel
    by_cases hlt : k < x
    · have hp := Lib.hid (pw_succ k)
      obtain ⟨p0, p1⟩ := pw_in (x := k) (by omega)
      obtain ⟨q0, q1⟩ := pw_in (x := k + 1) (by omega)
      rw [← pw_succ] at q0 q1
      generalize pw k = u at *
      go_wp2_with fail
      go_round
      case rel => exact ⟨k + 1, by omega, by go_num, by rw [← hp.out]⟩
      case measure => simp [intOf]; omega
    · obtain rfl : k = x := by omega
      go_wp2_with fail
      go_ret2
      exact ⟨rfl, rfl⟩
theorem rInvalid_yes (x : Nat) (n : Int) (w : World) (hn : 2 ≤ n) (hn' : n ≤ 32) (h1 : (x : Int) < n) : Calls Tryz.prog 145 #[.int .u32 (pw x), .int .i64 n] w fun e w' => e = .returned (.tuple #[.int .i64 x, .int .i64 0]) ∧ w = w' := by
  have hx : (x : Int) < 32 := by omega
  have HE : Hid (∀ k : Nat, k < x → pw k ≠ pw x) := fun k hk e => by have := pw_inj e; omega
  have HP : Hid (∀ k : Nat, 0 ≤ pw k) := fun k => by unfold pw; exact Int.natCast_nonneg _
  go_enter Tryz.func145, Tryz.ntmps145
  go_wp2_with fail
  refine (rwin_yes n _ hn hn').mono ?_; rintro e w1 ⟨rfl, rfl⟩
  go_wp2_with fail
  go_loop [6] (fun i => ∃ k : Nat, k ≤ x ∧ i = .int .i64 k) (fun i => x - (intOf i).toNat)
  case atStart => exact ⟨0, by omega, rfl⟩
  case round =>
    obtain ⟨k, hk, rfl⟩ := hrel
    have hkn : (k : Int) < n := by omega
    have hc := Lib.hid (fun w => rWim_yes k n w hn hn' hkn)
    by_cases hlt : k < x
    · have hne : (pw k == pw x) = false := by simpa using HE.out k hlt
      generalize pw k = u at *
      go_wp2_with fail
      refine (hc.out _).mono ?_; rintro e w1 ⟨rfl, rfl⟩
      go_wp2_with fail
      go_round
      case rel => exact ⟨k + 1, by omega, by go_num⟩
      case measure => simp [intOf]; omega
    · obtain rfl : k = x := by omega
      generalize pw k = u at *
      go_wp2_with fail
      refine (hc.out _).mono ?_; rintro e w1 ⟨rfl, rfl⟩
      go_wp2_with fail
      go_ret2
      exact ⟨rfl, rfl⟩
set_option maxRecDepth 100000 in
set_option maxHeartbeats 1000000 in
theorem rResident_yes (x n : Int) (y : Nat) (w : World) (hn : 2 ≤ n) (hn' : n ≤ 32) (h0 : 0 ≤ x) (h1 : x < n) (hy : (y : Int) < n) :
    Calls Tryz.prog 99 #[.int .i64 x, .int .u32 (pw y), .int .i64 n] w fun e w' => ∃ s, e = .returned (.tuple #[s, .int .i64 0]) ∧ Row w' w.heap.size s x n (dist x y n).toNat ∧ Below w.heap.size w w' := by
  have hd := dist_in ⟨h0, h1⟩ ⟨Int.natCast_nonneg y, hy⟩
  obtain ⟨d, hdd⟩ : ∃ d : Nat, dist x y n = d := ⟨(dist x y n).toNat, by omega⟩
  have HW : Hid (∀ k : Nat, k ≤ d → (win x n k = y ↔ k = d)) := fun k hk => (win_eq ⟨h0, h1⟩ ⟨Int.natCast_nonneg y, hy⟩ (by omega)).trans (by omega)
  have HI : Hid (∀ k : Nat, 0 ≤ win x n k ∧ win x n k < n) := fun k => win_in (by omega) k
  have HZ := Lib.hid (win_zero ⟨h0, h1⟩)
  rw [hdd, Int.toNat_natCast]
  have hdn : (d : Int) < 32 := by omega
  clear hdd hd
  obtain ⟨i0, hi, hz0, hz1, hz2⟩ := info_parts int_parts
  have HV := Lib.hid (fun W => rInvalid_yes y n W hn hn' hy)
  have h2 : ¬ x < 0 := by omega
  have h3 : ¬ n ≤ x := by omega
  generalize pw y = v at *
  go_enter Tryz.func99, Tryz.ntmps99
  go_wp2_with fail
  refine (rwin_yes n _ hn hn').mono ?_; rintro e w1 ⟨rfl, rfl⟩
  go_wp2_with fail
  refine (HV.out _).mono ?_; rintro e w2 ⟨rfl, rfl⟩
  clear HV
  go_wp2_with fail
  go_loopw [0, 10] (fun i s wr => ∃ k : Nat, k ≤ d ∧ i = .int .i64 (win x n k) ∧ wr.ownsRow w.heap.size 3 1 s k (rl x n k) ∧ Below w.heap.size w wr) (fun _ s _ => d - lenOf s)
  case atStart => exact ⟨0, by omega, by rw [HZ.out], World.ownsRow_nil _ _ _ _, Below.refl _ _⟩
  case round =>
    obtain ⟨k, hk, rfl, hown, hg⟩ := hrel
    have hlen := Lib.hid (own_len hown)
    have hu0 := (HI.out k).1
    have hu1 := (HI.out k).2
    have hs1 := Lib.hid (win_succ x n k)
    by_cases hlt : k < d
    · have hne : (win x n k != y) = true := by have := HW.out k hk; simp; omega
      have hsz := hg.size
      have hrl := Lib.hid (rl_succ x n k)
      generalize win x n k = u at *
      have hk32 : k < 32 := by omega
      go_wp2_with (at_builtin; refine wpList_append_own _ rfl _ _ 94 rfl w.heap.size 3 i0 (.int .i64 0) 1 8 int_under hi hz0 hz1 hz2 rfl (by decide) _ _ _ rfl (hown.alloc _) ⟨wr.heap.size, 0, none⟩ 1 1 [.int .i64 u] rfl rfl (one_new _ _ _) (fun x hx => by simp at hx; subst hx; rfl) (by unfold maxLen; omega) (by omega) (by simp; omega) ?_; intro s' w3 hown' hgrow hnil
                   have X : Hid (w3.ownsRow w.heap.size 3 1 s' (k + 1) (rl x n (k + 1)) ∧ Below w.heap.size w w3) := ⟨by rw [hrl.out]; exact hown', Below.grown (hg.alloc (by omega) _) hgrow (by simp; omega) (fun j hj => (hown.lt _ hj).1)⟩
                   clear hown' hgrow hnil)
      go_roundw
      case rel => exact ⟨k + 1, by omega, by rw [← hs1.out], X.out.1, X.out.2⟩
      case measure =>
        have h1 := own_len X.out.1
        have h2 := hlen.out
        simp
        omega
    · obtain rfl : k = d := by omega
      rw [(HW.out k hk).2 rfl]
      go_wp2_with fail
      go_ret2
      exact ⟨_, rfl, hown, hg⟩
/-! Two rows that are the same. -/
end Go.Proofs.YtiobgnelhiadbaaGreatDoor.P4
