/- SwapTurns, SwapBack and SwapWords (layer 10): a case as numbers, the machine that made makes, and what a TRAP of it comes to. -/
import Derived.Test.YtiobgnelhiadbaaGreatDoorVSwapGN
import Derived.Test.YtiobgnelhiadbaaGreatDoorVWindGU
namespace Go.Proofs.YtiobgnelhiadbaaGreatDoor.S10
open Go.RowKit
open A7 (XI XB)
open W8 (sFr gX gX_mem sBr)
open K6
set_option linter.unusedVariables false
/-- A case, as numbers. -/
structure TC where
  nw : Int
  c : Int
  iv : Int
  lr : Nat
  rg : Nat → Int
  lf : Nat
  fr : Nat → Int
  th : Int
  ru : Int
  al : Nat → Bool
  sk : Nat → Int
  ch : Int
  fl : Int
  pl : Int
  fill : Int
  en : Bool
structure TCB (s : TC) : Prop where
  rg : ∀ i, W32 (s.rg i)
  fr : ∀ i, 0 ≤ s.fr i ∧ s.fr i < 65536
  sk : ∀ i, 0 ≤ s.sk i ∧ s.sk i < 65536
  ch : W32 s.ch
  fl : 0 ≤ s.fl ∧ s.fl < 256
  pl : 0 ≤ s.pl ∧ s.pl < 256
  fill : W32 s.fill
structure TC.May (s : TC) : Prop where
  n2 : 2 ≤ s.nw
  n32 : s.nw ≤ 32
  c0 : 0 ≤ s.c
  c1 : s.c < s.nw
  i0 : 0 ≤ s.iv
  i1 : s.iv < s.nw
  ic : s.iv ≠ s.c
  t1 : 1 ≤ s.th
  t4 : s.th ≤ 4
  r0 : 0 ≤ s.ru
  r1 : s.ru < s.th
  pl : s.pl ≤ 15
  fl : s.fl ≤ 15
  lr : s.lr ≤ 512
  lf : s.lf ≤ 64
/-! The memory. -/
def zW (nw : Int) (i : Nat) : Int := if i < 94 then (gX (zL nw) i).word else 0
def zFill (fill : Int) (i : Nat) : Int := (fill + 4 * (i : Int) * 2654435761 % 4294967296) % 4294967296
def frm (n : Int) : Int := 2048 + n % 1520 * 4
def TC.kd (s : TC) : Int := if s.en then 4 else 3
def TC.ai (s : TC) (t : Nat) : Int := if s.al t then 1 else 0
def zA (nw fill : Int) : Nat → Int := stB (stB (ptB (ptB (fun _ => 0) 0 (zFill fill) 2048) 768 (zW nw) 94) 304 4 (sBr 120).word) 320 4 (sBr 112).word
def TC.fB (s : TC) : Nat → Int := stB (stB (stB (zA s.nw s.fill) 1536 4 (tI s.kd).word) 128 4 s.ru) 132 4 s.th
def TC.blk (s : TC) (t : Nat) (i : Nat) : Int := if i = 0 then 1700 + 4 * (t : Int) else if i = 1 then frm (s.sk t) else if i = 2 then 5000 + (t : Int) else s.ai t
def TC.fT (s : TC) : Nat → Nat → Int
  | 0 => s.fB
  | t + 1 => ptB (s.fT t) (64 + 16 * t) (s.blk t) 4
def TC.mem (s : TC) : Nat → Int := s.fT 4
/-! The registers. -/
def TC.rR (s : TC) : Nat → Nat → Int
  | 0 => fun _ => 0
  | k + 1 => F3.setR (s.rR k) s.nw ((k : Int) / 16 % s.nw) 0 (16 + (k : Int) % 16) (s.rg k)
def TC.fv (s : TC) (k : Nat) : Int := if k < s.lf then s.fr k else (k : Int) * 16 % 65536
def TC.fp (s : TC) (k : Nat) : Int := frm (s.fv k)
def TC.fR (s : TC) : Nat → Nat → Int
  | 0 => s.rR s.lr
  | k + 1 => F3.setR (s.fR k) s.nw k 0 14 (s.fp k)
def TC.R (s : TC) : Nat → Int := s.fR s.nw.toNat
def mZ (s : TC) : MS := { mnew s.nw 8192 with f := s.mem, R := s.R, pc := 1536, cwp := s.c, pil := s.pl, fl := s.fl, wim := P4.pw s.iv.toNat, cl := 1, ch := fun _ => s.ch }
theorem zFill_w (fill : Int) (i : Nat) : W32 (zFill fill i) := by unfold zFill W32; omega
theorem zW_w {nw : Int} (h2 : 2 ≤ nw) (h32 : nw ≤ 32) (i : Nat) : W32 (zW nw i) := by
  unfold zW
  split
  · rename_i h
    exact W8.xw_w (zL_b h2 h32 _ (gX_mem (by rw [zL_len]; exact h)))
  · exact ⟨Int.le_refl _, by decide⟩
/-- A frame's address may be. -/
def Fz (v : Int) : Prop := v % 4 = 0 ∧ 2048 ≤ v ∧ v + 64 ≤ 8192
theorem frm_fz {n : Int} : Fz (frm n) := by unfold Fz frm; omega
theorem Fz.w {v : Int} (h : Fz v) : W32 v := by unfold Fz at h; unfold W32; omega
theorem setR_orZ (R : Nat → Int) (n a b r v : Int) (j : Nat) : F3.setR R n a b r v j = v ∨ F3.setR R n a b r v j = R j := by
  unfold F3.setR
  split
  · exact .inr rfl
  · unfold F3.upd
    split
    · exact .inl rfl
    · exact .inr rfl
theorem d_num {n c iv : Int} (h2 : 2 ≤ n) (c0 : 0 ≤ c) (c1 : c < n) (i0 : 0 ≤ iv) (i1 : iv < n) (ic : iv ≠ c) : ((((iv - c) % n).toNat : Nat) : Int) < n ∧ 1 ≤ ((iv - c) % n).toNat ∧ (c + (((iv - c) % n).toNat : Nat)) % n = iv ∧ ∀ j : Nat, j < ((iv - c) % n).toNat → (c + j) % n ≠ iv := by
  have cs : (c ≤ iv ∧ (iv - c) % n = iv - c) ∨ (iv < c ∧ (iv - c) % n = iv - c + n) := by
    by_cases h : c ≤ iv
    · exact .inl ⟨h, Int.emod_eq_of_lt (by omega) (by omega)⟩
    · refine .inr ⟨by omega, ?_⟩
      rw [← Int.add_emod_right]
      exact Int.emod_eq_of_lt (by omega) (by omega)
  have red : ∀ x : Int, 0 ≤ x → x < 2 * n → x % n = if x < n then x else x - n := fun x h0 h1 => by
    split
    · exact Int.emod_eq_of_lt h0 (by assumption)
    · rw [← Int.sub_emod_right]; exact Int.emod_eq_of_lt (by omega) (by omega)
  rcases cs with ⟨e0, e⟩ | ⟨e0, e⟩
  · rw [e]
    refine ⟨by omega, by omega, ?_, fun j hj => ?_⟩
    · rw [red _ (by omega) (by omega)]; split <;> omega
    · rw [red _ (by omega) (by omega)]; split <;> omega
  · rw [e]
    refine ⟨by omega, by omega, ?_, fun j hj => ?_⟩
    · rw [red _ (by omega) (by omega)]; split <;> omega
    · rw [red _ (by omega) (by omega)]; split <;> omega
section
variable {s : TC} (H : s.May)
include H
theorem kd_is : s.kd = 3 ∨ s.kd = 4 := by
  have _ := H
  unfold TC.kd; split; exact .inr rfl; exact .inl rfl
theorem ru_w : W32 s.ru := by have := H.r0; have := H.r1; have := H.t4; unfold W32; omega
theorem th_ww : W32 s.th := by have := H.t1; have := H.t4; unfold W32; omega
theorem blk_w (t : Nat) (ht : t < 4) (i : Nat) : W32 (s.blk t i) := by
  have _ := H
  unfold TC.blk
  split
  · unfold W32; omega
  · split
    · exact frm_fz.w
    · split
      · unfold W32; omega
      · unfold TC.ai W32; split <;> omega
/-- What lies elsewhere. -/
theorem fT_far : ∀ k a, (a + 4 ≤ 64 ∨ 64 + 16 * k ≤ a) → ldB (s.fT k) a 4 = ldB s.fB a 4
  | 0, _, _ => rfl
  | k + 1, a, h => by
    have _ := H.n2
    show ldB (ptB (s.fT k) (64 + 16 * k) (s.blk k) 4) a 4 = _
    rw [ld_ptf _ _ _ _ _ (by omega)]
    exact fT_far k a (by omega)
theorem fT_at : ∀ k, k ≤ 4 → ∀ t i, t < k → i < 4 → ldB (s.fT k) (64 + 16 * t + 4 * i) 4 = s.blk t i
  | 0, _, _, _, h, _ => absurd h (Nat.not_lt_zero _)
  | k + 1, hk, t, i, ht, hi => by
    show ldB (ptB (s.fT k) (64 + 16 * k) (s.blk k) 4) _ 4 = _
    by_cases e : t = k
    · subst e; exact ld_ptw _ _ _ (blk_w H t (by omega)) 4 i hi
    · rw [ld_ptf _ _ _ _ _ (by omega)]
      exact fT_at k (by omega) t i (by omega) hi
theorem mem_far {a : Nat} (h : a + 4 ≤ 64 ∨ 128 ≤ a) : ldB s.mem a 4 = ldB s.fB a 4 := fT_far H 4 a (by omega)
theorem mem_blk {t i : Nat} (ht : t < 4) (hi : i < 4) : ldB s.mem (64 + 16 * t + 4 * i) 4 = s.blk t i := fT_at H 4 (Nat.le_refl _) t i ht hi
theorem mem_pc {t : Nat} (ht : t < 4) : ldB s.mem (64 + 16 * t) 4 = 1700 + 4 * (t : Int) := mem_blk H (i := 0) ht (by decide)
theorem mem_sp {t : Nat} (ht : t < 4) : ldB s.mem (68 + 16 * t) 4 = frm (s.sk t) := by
  have := mem_blk H (i := 1) ht (by decide)
  rw [show 64 + 16 * t + 4 * 1 = 68 + 16 * t by omega] at this; exact this
theorem mem_al {t : Nat} (ht : t < 4) : ldB s.mem (76 + 16 * t) 4 = s.ai t := by
  have := mem_blk H (i := 3) ht (by decide)
  rw [show 64 + 16 * t + 4 * 3 = 76 + 16 * t by omega] at this; exact this
theorem mem_ru : ldB s.mem 128 4 = s.ru := by
  rw [mem_far H (by omega)]
  unfold TC.fB
  rw [ld_far (by omega)]
  exact ld_st (ru_w H)
theorem mem_th : ldB s.mem 132 4 = s.th := by
  rw [mem_far H (by omega)]
  exact ld_st (th_ww H)
theorem mem_tr : ldB s.mem 1536 4 = (tI s.kd).word := by
  rw [mem_far H (by omega)]
  unfold TC.fB
  rw [ld_far (by omega), ld_far (by omega)]
  exact ld_st (W8.xw_w (tI_all (kd_is H)).1)
theorem mem_z : ZMem s.nw s.mem := by
  have b1 : W32 (sBr 120).word := W8.xw_w (W8.sBr_b ⟨by decide, by decide⟩)
  have b2 : W32 (sBr 112).word := W8.xw_w (W8.sBr_b ⟨by decide, by decide⟩)
  refine ⟨?_, ?_, fun i hi => ?_⟩
  · rw [mem_far H (by omega)]
    unfold TC.fB zA
    rw [ld_far (by omega), ld_far (by omega), ld_far (by omega), ld_far (by omega)]
    exact ld_st b1
  · rw [mem_far H (by omega)]
    unfold TC.fB zA
    rw [ld_far (by omega), ld_far (by omega), ld_far (by omega)]
    exact ld_st b2
  · rw [mem_far H (by omega)]
    unfold TC.fB zA
    rw [ld_far (by omega), ld_far (by omega), ld_far (by omega), ld_far (by omega), ld_far (by omega), ld_ptw _ _ _ (zW_w H.n2 H.n32) _ _ hi]
    unfold zW
    rw [if_pos hi]
/-! The registers. -/
theorem loc14z {l b : Int} (h0 : 0 ≤ l) (h1 : l < s.nw) : F3.loc s.nw l b 14 < 512 ∧ F3.loc s.nw l b 14 = F3.loc s.nw l 0 14 := by
  have := H.n32
  constructor
  · unfold F3.loc
    rw [if_neg (by decide), if_pos (by decide)]
    split <;> omega
  · unfold F3.loc
    simp only [show ¬ ((14 : Int) < 8) by decide, show (14 : Int) < 16 by decide, if_true, if_false]
theorem zfR_fr : ∀ k : Nat, (k : Int) ≤ s.nw → ∀ l : Nat, l < k → Fz (s.fR k (F3.loc s.nw l 0 14))
  | 0, _, l, h => absurd h (Nat.not_lt_zero _)
  | k + 1, hk, l, h => by
    have _ := H.n2
    show Fz (F3.setR (s.fR k) s.nw k 0 14 (s.fp k) _)
    by_cases e : l = k
    · subst e
      unfold F3.setR
      rw [if_neg (by decide), F3.upd_same]
      exact frm_fz
    · rcases setR_orZ (s.fR k) s.nw k 0 14 (s.fp k) (F3.loc s.nw l 0 14) with h' | h'
      · rw [h']; exact frm_fz
      · rw [h']; exact zfR_fr k (by omega) l (by omega)
theorem R_fz {l b : Int} (h0 : 0 ≤ l) (h1 : l < s.nw) : Fz (s.R (F3.loc s.nw l b 14)) := by
  have h2 := H.n2
  obtain ⟨e1, e2⟩ := loc14z (b := b) H h0 h1
  rw [e2]
  have := zfR_fr H s.nw.toNat (by omega) l.toNat (by omega)
  rwa [Int.toNat_of_nonneg h0] at this
theorem zrR_hi : ∀ k j, 512 ≤ j → s.rR k j = 0
  | 0, _, _ => rfl
  | k + 1, j, h => by
    have h2 := H.n2
    have h32 := H.n32
    show F3.setR (s.rR k) s.nw ((k : Int) / 16 % s.nw) 0 (16 + (k : Int) % 16) (s.rg k) j = 0
    have e1 := Int.emod_nonneg ((k : Int) / 16) (b := s.nw) (by omega)
    have e2 := Int.emod_lt_of_pos ((k : Int) / 16) (b := s.nw) (by omega)
    unfold F3.setR
    rw [if_neg (by omega), F3.loc_own (by omega), F3.upd_ne _ _ (by omega)]
    exact zrR_hi k j h
theorem zfR_hi : ∀ k : Nat, (k : Int) ≤ s.nw → ∀ j, 512 ≤ j → s.fR k j = 0
  | 0, _, j, h => zrR_hi H _ j h
  | k + 1, hk, j, h => by
    show F3.setR (s.fR k) s.nw k 0 14 (s.fp k) j = 0
    have e1 := (loc14z (b := 0) H (l := k) (by omega) (by omega)).1
    unfold F3.setR
    rw [if_neg (by decide), F3.upd_ne _ _ (by omega)]
    exact zfR_hi k (by omega) j h
theorem R_hi {j : Nat} (h : 512 ≤ j) : s.R j = 0 := by have h2 := H.n2; exact zfR_hi H _ (by omega) j h
variable (B : TCB s)
include B
theorem zrR_w : ∀ k j, W32 (s.rR k j)
  | 0, _ => (⟨Int.le_refl _, by decide⟩ : W32 0)
  | k + 1, j => by
    have _ := H.n2
    exact setR_w (zrR_w k) _ _ _ _ _ (B.rg k) j
theorem zfR_w : ∀ k j, W32 (s.fR k j)
  | 0, j => zrR_w H B _ j
  | k + 1, j => setR_w (zfR_w k) _ _ _ _ _ frm_fz.w j
theorem z0_made : Z0 (mZ s) where
  n2 := H.n2
  n32 := H.n32
  sz := rfl
  c0 := H.c0
  c1 := H.c1
  p0 := B.pl.1
  p1 := H.pl
  f0 := B.fl.1
  f1 := H.fl
  sk := rfl
  bank := rfl
  g0 := R_hi H (by decide)
  RW := zfR_w H B _
/-! What the TRAP comes to. -/
/-- How many windows are stored. -/
def TC.d (s : TC) : Nat := ((s.iv - s.c) % s.nw).toNat
/-- Who is alive behind. -/
def TC.la (s : TC) (t : Nat) : Int := if s.en = true ∧ (t : Int) = s.ru then 0 else s.ai t
omit H B in
theorem la_01 (t : Nat) : s.la t = 0 ∨ s.la t = 1 := by
  unfold TC.la TC.ai
  split
  · exact .inl rfl
  · split
    · exact .inr rfl
    · exact .inl rfl
/-- The memory behind the first half. -/
def TC.fH (s : TC) : Nat → Int :=
  if s.en then stB s.mem (76 + 16 * s.ru.toNat) 4 0
  else stB (stB (stS s.R s.nw s.c s.mem s.d) (64 + 16 * s.ru.toNat) 4 1540) (68 + 16 * s.ru.toNat) 4 (s.R (F3.loc s.nw s.c 16 14))
theorem d_is : (s.d : Int) < s.nw ∧ 1 ≤ s.d ∧ (s.c + s.d) % s.nw = s.iv ∧ ∀ j : Nat, j < s.d → (s.c + j) % s.nw ≠ s.iv := by
  have _ := B
  exact d_num H.n2 H.c0 H.c1 H.i0 H.i1 H.ic
theorem ru_is : (s.ru.toNat : Int) = s.ru ∧ s.ru.toNat < 4 := by
  have _ := B
  have := H.r0
  have := H.r1
  have := H.t4
  omega
theorem frames_ok (j : Nat) : 1144 ≤ s.R (F3.loc s.nw ((s.c + j) % s.nw) 16 14) ∧ s.R (F3.loc s.nw ((s.c + j) % s.nw) 16 14) % 4 = 0 ∧ s.R (F3.loc s.nw ((s.c + j) % s.nw) 16 14) + 64 ≤ 8192 := by
  have _ := B
  have h2 := H.n2
  have := R_fz H (b := 16) (l := (s.c + j) % s.nw) (Int.emod_nonneg _ (by omega)) (Int.emod_lt_of_pos _ (by omega))
  unfold Fz at this
  omega
/-- What frames that are stored leave: all below 2048. -/
theorem stS_far (f : Nat → Int) {a : Nat} (ha : a + 4 ≤ 2048) : ∀ k, ldB (stS s.R s.nw s.c f k) a 4 = ldB f a 4
  | 0 => by have _ := B; rfl
  | k + 1 => by
    show ldB (ptB (stS s.R s.nw s.c f k) _ _ 16) a 4 = _
    have h2 := H.n2
    have := R_fz H (b := 16) (l := (s.c + k) % s.nw) (Int.emod_nonneg _ (by omega)) (Int.emod_lt_of_pos _ (by omega))
    unfold Fz at this
    rw [ld_ptf _ _ _ _ _ (by omega)]
    exact stS_far f ha k
theorem fH_far {a : Nat} (ha : a + 4 ≤ 2048) (hb : a + 4 ≤ 64 + 16 * s.ru.toNat ∨ 80 + 16 * s.ru.toNat ≤ a) : ldB s.fH a 4 = ldB s.mem a 4 := by
  unfold TC.fH
  split
  · exact ld_far (by omega)
  · rw [ld_far (by omega), ld_far (by omega)]; exact stS_far H B _ ha _
theorem fH_z : ZMem s.nw s.fH := by
  obtain ⟨r0, r4⟩ := ru_is H B
  unfold TC.fH
  split
  · exact (mem_z H).st (by omega) _
  · exact (((mem_z H).sts s.c s.d fun j _ => (frames_ok H B j).1).st (by omega) _).st (by omega) _
theorem fH_th : ldB s.fH 132 4 = s.th := by
  obtain ⟨r0, r4⟩ := ru_is H B
  rw [fH_far H B (by omega) (by omega)]; exact mem_th H
theorem fH_al {t : Nat} (ht : t < 4) : ldB s.fH (76 + 16 * t) 4 = s.la t := by
  obtain ⟨r0, r4⟩ := ru_is H B
  by_cases e : t = s.ru.toNat
  · subst e
    unfold TC.fH TC.la
    by_cases he : s.en = true
    · rw [if_pos he, if_pos ⟨he, r0⟩]
      exact ld_st ⟨Int.le_refl _, by decide⟩
    · rw [if_neg he, if_neg (fun h => he h.1), ld_far (by omega), ld_far (by omega), stS_far H B _ (by omega)]
      exact mem_al H ht
  · rw [fH_far H B (by omega) (by omega), mem_al H ht]
    unfold TC.la
    rw [if_neg (fun h => e (by omega))]
theorem fH_sp {t : Nat} (ht : t < 4) : Fz (ldB s.fH (68 + 16 * t) 4) := by
  obtain ⟨r0, r4⟩ := ru_is H B
  by_cases e : t = s.ru.toNat
  · subst e
    unfold TC.fH
    split
    · rw [ld_far (by omega), mem_sp H r4]; exact frm_fz
    · have := R_fz H (b := 16) H.c0 H.c1
      rw [ld_st this.w]; exact this
  · rw [fH_far H B (by omega) (by omega), mem_sp H ht]; exact frm_fz
/-- The first half. -/
theorem half (t : Int) : ∃ m g k, Zd (mZ s) s.c (mZ s).wim (768 + 4 * ((39 : Nat) : Int)) s.fl 1540 s.fH s.R g 1 m ∧ K6.Reach t (mZ s) k m ∧ k ≤ 24 * (s.d : Int) + 17 := by
  have Z := z0_made H B
  have hM := mem_z H
  obtain ⟨r0, r4⟩ := ru_is H B
  have g0 : s.R 640 = 0 := R_hi H (by decide)
  obtain ⟨d1, d2, d3, d4⟩ := d_is H B
  obtain ⟨s0, q0⟩ := into (t := t) Z hM rfl (kd_is H) (mem_tr H)
  by_cases he : s.en = true
  · have hk : s.kd = 4 := by unfold TC.kd; rw [if_pos he]
    rw [hk] at s0
    obtain ⟨m', g', s1, q1⟩ := end_mid (t := t) Z hM g0 s0 r4 (by rw [r0]; exact mem_ru H)
    have ef : s.fH = stB s.mem (76 + 16 * s.ru.toNat) 4 0 := by unfold TC.fH; rw [if_pos he]
    exact ⟨m', g', 4 + 2, by rw [ef]; exact s1, q0.trans q1, by omega⟩
  · have hk : s.kd = 3 := by unfold TC.kd; rw [if_neg he]
    rw [hk] at s0
    have s0 : Zd (mZ s) s.c (P4.pw s.iv.toNat) (768 + 4 * ((4 : Nat) : Int)) s.fl 1540 s.mem s.R (fun r => s.R (640 + r)) 1 _ := s0
    obtain ⟨p1, p2, p3⟩ := pword_cut s.c s.pl s.fl H.c0 (by have := H.c1; have := H.n32; omega) B.pl.1 H.pl B.fl.1 H.fl 16 (by decide) (by decide)
    have s1 := s0.rd Z hM (by decide) rfl
    have s2 := s1.alu Z hM g0 (by decide) (d := 3) rfl s.c (by decide) (by decide) (by decide) (by decide) rfl (by
      show bits .and .u32 (P4.pword s.c s.pl 16 s.fl) 31 = s.c
      rw [I2.and_5 _ p1, p2])
    have s3 := s2.alu Z hM g0 (by decide) (d := 2) rfl (P4.pword 0 s.pl 16 s.fl) (by decide) (by decide) (by decide) (by decide) rfl (by
      show (P4.pword s.c s.pl 16 s.fl - s.c) % 4294967296 = _
      exact p3)
    have r1 := (Zd.reach (t := t) s3)
    obtain ⟨m4, c4, fl4, g4, s4, hc4, e2, e3, q4⟩ := loop_st (t := t) Z hM g0 (iv := s.iv.toNat) (by have := H.i0; have := H.i1; show ((s.iv.toNat : Nat) : Int) < s.nw; omega) (x := s.c) ⟨H.c0, H.c1⟩ s3 ⟨H.c0, H.c1⟩ rfl rfl s.d fun j hj => ⟨by have h0 := H.i0; rw [show ((s.iv.toNat : Nat) : Int) = s.iv by omega]; exact d4 j hj, frames_ok H B j⟩
    have hM4 : ZMem s.nw (stS s.R s.nw s.c s.mem s.d) := hM.sts s.c s.d fun j _ => (frames_ok H B j).1
    obtain ⟨m5, g5, s5, q5⟩ := yield_mid (t := t) Z hM4 g0 (iv := s.iv.toNat) (by have := H.i0; have := H.i1; show ((s.iv.toNat : Nat) : Int) < s.nw; omega) s4 e2 (by rw [e3]; have := H.i0; rw [show ((s.iv.toNat : Nat) : Int) = s.iv by omega]; exact d3) r4 (by rw [stS_far H B _ (by omega), r0]; exact mem_ru H)
    have ef : s.fH = stB (stB (stS s.R s.nw s.c s.mem s.d) (64 + 16 * s.ru.toNat) 4 1540) (68 + 16 * s.ru.toNat) 4 (s.R (F3.loc s.nw s.c 16 14)) := by unfold TC.fH; rw [if_neg he]
    refine ⟨m5, g5, 12 + (24 * s.d + (1 + (1 + (1 + 2)))), by rw [ef]; exact s5, (((((q0.trans (Zd.reach (t := t) s1)).trans (Zd.reach (t := t) s2)).trans r1).trans q4).trans q5), ?_⟩
    push_cast
    omega
/-- The whole: thread T goes on, the one that the choice names. -/
theorem whole {T : Nat} (hT : (T : Int) < s.th) (h1 : s.la T = 1) (hx : cntA s.la T = s.ch % cntA s.la s.th.toNat) (hpos : 0 < cntA s.la s.th.toNat) :
    ∃ e k, Zn (mZ s) (P4.pw ((s.c + 1) % s.nw).toNat) (ldB s.fH (64 + 16 * T) 4) (nxF s.fH T) (nxR s.nw s.c s.fH s.R T) e ∧ Runs (ldB s.fH (64 + 16 * T) 4) k (mZ s) e ∧ (k : Int) ≤ 24 * (s.d : Int) + 103 := by
  have Z := z0_made H B
  have t4 := H.t4
  have t1 := H.t1
  have hz := fH_z H B
  obtain ⟨m, g, k, s1, q1, hk⟩ := half H B (ldB s.fH (64 + 16 * T) 4)
  have f := fH_sp H B (t := T) (by omega)
  unfold Fz at f
  obtain ⟨e, k2, z, q2, hk2⟩ := goes (m0 := mZ s) Z hz (R_hi H (by decide)) s1 (Nat.zero_lt_one) B.ch (n := s.th.toNat) (T := T) ⟨by omega, by omega⟩ (by rw [fH_th H B]; omega) (al := s.la) (fun j hj => ⟨fH_al H B (by omega), la_01 j⟩) h1 hx hpos f.1 (by omega) f.2.2
  exact ⟨e, k2 + k, z, q1 _ _ q2, by push_cast; omega⟩
end
end Go.Proofs.YtiobgnelhiadbaaGreatDoor.S10
