/- SwapBack (layer 10), its numbers: the only thread yields, its windows lie in their frames. -/
import Derived.Test.YtiobgnelhiadbaaGreatDoorXSwapGP
namespace Go.Proofs.YtiobgnelhiadbaaGreatDoor.S10
open Go.RowKit
open K6
set_option linter.unusedVariables false
/-- The only thread yields; each window's frame is where it is by itself. -/
structure TC.One (s : TC) : Prop where
  en : s.en = false
  th : s.th = 1
  ru : s.ru = 0
  al : s.al 0 = true
  lf : s.lf = 0
theorem mod_ne {n c : Int} {j k : Nat} (h : j < k) (hk : (k : Int) - j < n) : (c + j) % n ≠ (c + k) % n := fun e => by
  have e2 := Int.emod_eq_emod_iff_emod_sub_eq_zero.1 e.symm
  rw [show c + (k : Int) - (c + j) = (k : Int) - j by omega, Int.emod_eq_of_lt (by omega) (by omega)] at e2
  omega
section
variable {s : TC} (H : s.May)
include H
/-- i6 of a window is o6 of the next one. -/
theorem i6_loc {x b : Int} (h0 : 0 ≤ x) (h1 : x < s.nw) : F3.loc s.nw ((x + 1) % s.nw) b 14 = (16 * x).toNat + 14 := by
  have n2 := H.n2
  by_cases e : x + 1 = s.nw
  · rw [e, Int.emod_self, F3.loc_out0 (by decide) (by decide)]; omega
  · rw [Int.emod_eq_of_lt (by omega) (by omega), F3.loc_out (by decide) (by decide) (by omega)]; omega
theorem wx_in (j : Nat) : 0 ≤ (s.c + j) % s.nw ∧ (s.c + j) % s.nw < s.nw := by
  have n2 := H.n2
  exact ⟨Int.emod_nonneg _ (by omega), Int.emod_lt_of_pos _ (by omega)⟩
theorem wx_next (j : Nat) : ((s.c + j) % s.nw + 1) % s.nw = (s.c + (j + 1 : Nat)) % s.nw := by
  have n2 := H.n2
  rw [Int.emod_add_emod]
  congr 1
  omega
theorem wx_zero : (s.c + ((0 : Nat) : Int)) % s.nw = s.c := by
  have := H.c0
  have := H.c1
  rw [show s.c + ((0 : Nat) : Int) = s.c by omega]
  exact Int.emod_eq_of_lt (by omega) (by omega)
variable (O : s.One)
include O
theorem fp_one {k : Nat} (hk : k < 32) : s.fp k = 2048 + 64 * (k : Int) := by
  have _ := H
  have e : s.fv k = (k : Int) * 16 := by
    unfold TC.fv
    rw [if_neg (by rw [O.lf]; omega)]
    omega
  unfold TC.fp frm
  rw [e]
  omega
theorem fR_one : ∀ k : Nat, (k : Int) ≤ s.nw → ∀ l : Nat, l < k → s.fR k (F3.loc s.nw l 0 14) = 2048 + 64 * (l : Int)
  | 0, _, l, h => absurd h (Nat.not_lt_zero _)
  | k + 1, hk, l, h => by
    have n32 := H.n32
    have n2 := H.n2
    show F3.setR (s.fR k) s.nw k 0 14 (s.fp k) _ = _
    unfold F3.setR
    rw [if_neg (by decide)]
    by_cases e : l = k
    · subst e
      rw [F3.upd_same]
      exact fp_one H O (by omega)
    · rw [F3.upd_ne _ _ (by
        unfold F3.loc
        simp only [show ¬ ((14 : Int) < 8) by decide, show (14 : Int) < 16 by decide, if_true, if_false]
        split <;> split <;> omega)]
      exact fR_one k (by omega) l (by omega)
/-- Where a window's frame is. -/
theorem R_one {l b : Int} (h0 : 0 ≤ l) (h1 : l < s.nw) : s.R (F3.loc s.nw l b 14) = 2048 + 64 * l := by
  have n2 := H.n2
  rw [(loc14z H h0 h1).2]
  have := fR_one H O s.nw.toNat (by omega) l.toNat (by omega)
  rw [Int.toNat_of_nonneg h0] at this
  exact this
theorem R_i6 (j : Nat) : s.R ((16 * ((s.c + j) % s.nw)).toNat + 14) = 2048 + 64 * ((s.c + (j + 1 : Nat)) % s.nw) := by
  obtain ⟨a0, a1⟩ := wx_in H j
  obtain ⟨b0, b1⟩ := wx_in H (j + 1)
  rw [← i6_loc (b := 0) H a0 a1, wx_next H]
  exact R_one H O b0 b1
variable (B : TCB s)
include B
theorem stS_one (f : Nat → Int) : ∀ k : Nat, (k : Int) ≤ s.nw → ∀ j i : Nat, j < k → i < 16 →
    ldB (stS s.R s.nw s.c f k) ((2048 + 64 * ((s.c + j) % s.nw)).toNat + 4 * i) 4 = s.R ((16 * ((s.c + j) % s.nw)).toNat + i)
  | 0, _, _, _, h, _ => absurd h (Nat.not_lt_zero _)
  | k + 1, hk, j, i, hj, hi => by
    obtain ⟨a0, a1⟩ := wx_in H k
    obtain ⟨b0, b1⟩ := wx_in H j
    show ldB (ptB (stS s.R s.nw s.c f k) (s.R (F3.loc s.nw ((s.c + k) % s.nw) 16 14)).toNat (fun i => s.R ((16 * ((s.c + k) % s.nw)).toNat + i)) 16) _ 4 = _
    rw [R_one H O a0 a1]
    by_cases e : j = k
    · subst e
      exact ld_ptw _ _ _ (fun i => zfR_w H B _ _) 16 i hi
    · have ne : (s.c + j) % s.nw ≠ (s.c + k) % s.nw := mod_ne (by omega) (by omega)
      rw [ld_ptf _ _ _ _ _ (by omega)]
      exact stS_one f k (by omega) j i (by omega) hi
theorem fH_one {a : Nat} (h : 2048 ≤ a) : ldB s.fH a 4 = ldB (stS s.R s.nw s.c s.mem s.d) a 4 := by
  obtain ⟨r0, r4⟩ := ru_is H B
  unfold TC.fH
  rw [if_neg (by rw [O.en]; decide), ld_far (by omega), ld_far (by omega)]
theorem fH_pc : ldB s.fH (64 + 16 * 0) 4 = 1540 := by
  have _ := B
  have _ := H
  unfold TC.fH
  rw [if_neg (by rw [O.en]; decide), O.ru]
  show ldB (stB (stB _ 64 4 1540) 68 4 _) 64 4 = 1540
  rw [ld_far (by decide)]
  exact ld_st (⟨by decide, by decide⟩ : W32 1540)
theorem fH_sp1 : ldB s.fH (68 + 16 * 0) 4 = 2048 + 64 * s.c := by
  have _ := B
  have c0 := H.c0
  have c1 := H.c1
  have n32 := H.n32
  unfold TC.fH
  rw [if_neg (by rw [O.en]; decide), O.ru, R_one H O H.c0 H.c1]
  show ldB (stB _ 68 4 (2048 + 64 * s.c)) 68 4 = _
  exact ld_st (by unfold W32; omega)
theorem one_run : ∃ e k, Zn (mZ s) (P4.pw ((s.c + 1) % s.nw).toNat) 1540 (nxF s.fH 0) (nxR s.nw s.c s.fH s.R 0) e ∧ Runs 1540 k (mZ s) e ∧ (k : Int) ≤ 40 * s.nw + 140 := by
  have l0 : s.la 0 = 1 := by
    unfold TC.la TC.ai
    rw [if_neg (by rw [O.en]; intro h; exact absurd h.1 (by decide)), if_pos O.al]
  have e1 : s.th.toNat = 1 := by rw [O.th]; rfl
  have c1 : cntA s.la 1 = 1 := by show 0 + s.la 0 = 1; rw [l0]; rfl
  obtain ⟨e, k, z, r, hk⟩ := whole H B (T := 0) (by rw [O.th]; decide) l0 (by rw [e1, c1]; show (0 : Int) = s.ch % 1; omega) (by rw [e1, c1]; decide)
  rw [fH_pc H O B] at z r
  obtain ⟨d1, d2, _⟩ := d_is H B
  exact ⟨e, k, z, r, by omega⟩
theorem one_words {j i : Nat} (hj : j < s.d) (hi : i < 16) : ldB (nxF s.fH 0) ((2048 + 64 * ((s.c + j) % s.nw)).toNat + 4 * i) 4 = s.R ((16 * ((s.c + j) % s.nw)).toNat + i) := by
  obtain ⟨d1, d2, _⟩ := d_is H B
  obtain ⟨a0, a1⟩ := wx_in H j
  rw [nxF_far (by omega), fH_one H O B (by omega)]
  exact stS_one H O B s.mem s.d (by omega) j i hj hi
theorem one_row {i : Nat} (hi : i < 16) : nxR s.nw s.c s.fH s.R 0 ((16 * s.c).toNat + i) = s.R ((16 * s.c).toNat + i) := by
  obtain ⟨d1, d2, _⟩ := d_is H B
  have := one_words H O B (j := 0) (i := i) (by omega) hi
  rw [wx_zero H] at this
  unfold nxR ldR
  rw [if_pos (by omega), fH_sp1 H O B, show (2048 + 64 * s.c).toNat + 4 * ((16 * s.c).toNat + i - (16 * s.c).toNat) = (2048 + 64 * s.c).toNat + 4 * i by omega]
  exact this
theorem one_sp (b : Int) : nxR s.nw s.c s.fH s.R 0 (F3.loc s.nw s.c b 14) = 2048 + 64 * s.c := by
  have n2 := H.n2
  have c0 := H.c0
  have c1 := H.c1
  have e : F3.loc s.nw s.c b 14 = F3.loc s.nw s.c 16 14 := by
    unfold F3.loc
    simp only [show ¬ ((14 : Int) < 8) by decide, show (14 : Int) < 16 by decide, if_true, if_false]
  rw [e]
  unfold nxR ldR
  rw [if_neg, F3.upd_same]
  · exact fH_sp1 H O B
  · unfold F3.loc
    rw [if_neg (by decide), if_pos (by decide)]
    split <;> omega
end
end Go.Proofs.YtiobgnelhiadbaaGreatDoor.S10
