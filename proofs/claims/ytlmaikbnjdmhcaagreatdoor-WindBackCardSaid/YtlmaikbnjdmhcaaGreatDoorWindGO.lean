/- WindTurns' and WindBack's arithmetic (layer 8): the machine that made makes. WindBack's arithmetic (layer 8): a SAVE that traps, registers set between, a RESTORE. -/
import Derived.Test.YtlmaikbnjdmhcaaGreatDoorWindGM
namespace Go.Proofs.YtlmaikbnjdmhcaaGreatDoor.K6
open Go.RowKit W8
set_option linter.unusedVariables false
/-- A case, as numbers. -/
structure CS where
  nw : Int
  c : Int
  lr : Nat
  rg : Nat → Int
  lf : Nat
  fr : Nat → Int
  fl : Int
  pl : Int
  lg : Nat
  gl : Nat → Int
  fill : Int
  up : Bool
structure CSB (s : CS) : Prop where
  rg : ∀ i, W32 (s.rg i)
  fr : ∀ i, 0 ≤ s.fr i ∧ s.fr i < 65536
  fl : 0 ≤ s.fl ∧ s.fl < 256
  pl : 0 ≤ s.pl ∧ s.pl < 256
  gl : ∀ i, W32 (s.gl i)
  fill : W32 s.fill
structure CS.May (s : CS) : Prop where
  n2 : 2 ≤ s.nw
  n32 : s.nw ≤ 32
  c0 : 0 ≤ s.c
  c1 : s.c < s.nw
  pl : s.pl ≤ 15
  fl : s.fl ≤ 15
  lr : s.lr ≤ 512
  lf : s.lf ≤ 64
  lg : s.lg ≤ 120
/-- The memory: the handlers' words, the vectors, what fills the frames' room, the instruction. -/
def wW (nw : Int) (i : Nat) : Int := if i < 54 then (gX (wL nw) i).word else 0
def wA (nw : Int) : Nat → Int := stB (stB (ptB (fun _ => 0) 768 (wW nw) 54) 272 4 (sBr 124).word) 288 4 (sBr 146).word
def wFill (fill : Int) (i : Nat) : Int := (fill + (2048 + 4 * (i : Int)) * 2654435761 % 4294967296) % 4294967296
def wF (nw fill : Int) (k : Nat) : Nat → Int := ptB (wA nw) 2048 (wFill fill) k
def CS.op (s : CS) : Int := if s.up then 21 else 20
def CS.to (s : CS) : Int := if s.up then (s.c + 1) % s.nw else (s.c + s.nw - 1) % s.nw
def CS.mem (s : CS) : Nat → Int := stB (wF s.nw s.fill 512) 1536 4 (sTr s.op).word
/-- The registers. -/
def CS.rR (s : CS) : Nat → Nat → Int
  | 0 => fun _ => 0
  | k + 1 => F3.setR (s.rR k) s.nw ((k : Int) / 16 % s.nw) 0 (16 + (k : Int) % 16) (s.rg k)
def CS.fv (s : CS) (k : Nat) : Int := if k < s.lf then s.fr k else (k : Int) * 64 % 65536
def CS.fp (s : CS) (k : Nat) : Int := 2048 + s.fv k % 496 * 4
def CS.fR (s : CS) : Nat → Nat → Int
  | 0 => s.rR s.lr
  | k + 1 => F3.setR (s.fR k) s.nw k 0 14 (s.fp k)
def CS.gR (s : CS) : Nat → Nat → Int
  | 0 => s.fR s.nw.toNat
  | k + 1 => F3.setR (s.gR k) s.nw 0 ((k : Int) % 16) (1 + (k : Int) % 7) (s.gl k)
def mW (s : CS) : MS := { mnew s.nw 4096 with f := s.mem, R := s.gR s.lg, pc := 1536, cwp := s.c, pil := s.pl, fl := s.fl, wim := P4.pw s.to.toNat }
theorem ld_ptw (f : Nat → Int) (a : Nat) (g : Nat → Int) (hg : ∀ i, W32 (g i)) : ∀ k i, i < k → ldB (ptB f a g k) (a + 4 * i) 4 = g i
  | 0, i, h => absurd h (Nat.not_lt_zero _)
  | k + 1, i, h => by
    show ldB (stB (ptB f a g k) (a + 4 * k) 4 (g k)) (a + 4 * i) 4 = g i
    by_cases e : i = k
    · subst e; exact ld_st (hg i)
    · rw [ld_far (by omega)]; exact ld_ptw f a g hg k i (by omega)
theorem ld_ptf (f : Nat → Int) (a : Nat) (g : Nat → Int) : ∀ k c, c + 4 ≤ a ∨ a + 4 * k ≤ c → ldB (ptB f a g k) c 4 = ldB f c 4
  | 0, _, _ => rfl
  | k + 1, c, h => by
    show ldB (stB (ptB f a g k) (a + 4 * k) 4 (g k)) c 4 = _
    rw [ld_far (by omega)]
    exact ld_ptf f a g k c (by omega)
theorem wFill_w (fill : Int) (i : Nat) : W32 (wFill fill i) := by unfold wFill W32; omega
theorem wW_w {nw : Int} (h2 : 2 ≤ nw) (h32 : nw ≤ 32) (i : Nat) : W32 (wW nw i) := by
  unfold wW
  split
  · rename_i h
    exact xw_w (wL_b h2 h32 _ (gX_mem (by rw [wL_len]; exact h)))
  · exact ⟨Int.le_refl _, by decide⟩
section
variable {s : CS} (H : s.May) (B : CSB s)
include H
theorem CS.to_b : 0 ≤ s.to ∧ s.to < s.nw := by
  have h2 := H.n2
  unfold CS.to
  split
  · exact ⟨Int.emod_nonneg _ (by omega), Int.emod_lt_of_pos _ (by omega)⟩
  · exact ⟨Int.emod_nonneg _ (by omega), Int.emod_lt_of_pos _ (by omega)⟩
theorem sTr_w : W32 (sTr s.op).word := by
  have _ := H
  exact xw_w (sTr_b (by unfold CS.op; split; exact .inr rfl; exact .inl rfl))
theorem mem_w : WMem s.nw s.mem := by
  have b1 : W32 (sBr 124).word := xw_w (sBr_b ⟨by decide, by decide⟩)
  have b2 : W32 (sBr 146).word := xw_w (sBr_b ⟨by decide, by decide⟩)
  refine ⟨?_, ?_, fun i hi => ?_⟩
  · unfold CS.mem wF wA
    rw [ld_far (by omega), ld_ptf _ _ _ _ _ (by omega), ld_far (by omega)]
    exact ld_st b1
  · unfold CS.mem wF wA
    rw [ld_far (by omega), ld_ptf _ _ _ _ _ (by omega)]
    exact ld_st b2
  · unfold CS.mem wF wA
    rw [ld_far (by omega), ld_ptf _ _ _ _ _ (by omega), ld_far (by omega), ld_far (by omega), ld_ptw _ _ _ (wW_w H.n2 H.n32) _ _ hi]
    unfold wW
    rw [if_pos hi]
theorem mem_code : ldB s.mem 1536 4 = (sTr s.op).word := by
  unfold CS.mem
  exact ld_st (sTr_w H)
/-- A frame's address may be. -/
def Fr (v : Int) : Prop := v % 4 = 0 ∧ 2048 ≤ v ∧ v + 64 ≤ 4096
omit H in
theorem fp_fr (k : Nat) : Fr (s.fp k) := by unfold Fr CS.fp; omega
omit H in
theorem setR_or (R : Nat → Int) (n a b r v : Int) (j : Nat) : F3.setR R n a b r v j = v ∨ F3.setR R n a b r v j = R j := by
  unfold F3.setR
  split
  · exact .inr rfl
  · unfold F3.upd
    split
    · exact .inl rfl
    · exact .inr rfl
theorem fR_fr : ∀ k : Nat, (k : Int) ≤ s.nw → ∀ l : Nat, l < k → Fr (s.fR k (F3.loc s.nw l 0 14))
  | 0, _, l, h => absurd h (Nat.not_lt_zero _)
  | k + 1, hk, l, h => by
    have _ := H.n2
    show Fr (F3.setR (s.fR k) s.nw k 0 14 (s.fp k) _)
    by_cases e : l = k
    · subst e
      unfold F3.setR
      rw [if_neg (by decide), F3.upd_same]
      exact fp_fr _
    · rcases setR_or (s.fR k) s.nw k 0 14 (s.fp k) (F3.loc s.nw l 0 14) with h' | h'
      · rw [h']; exact fp_fr _
      · rw [h']; exact fR_fr k (by omega) l (by omega)
omit H in
theorem gR_lo : ∀ k j, j < 512 → s.gR k j = s.fR s.nw.toNat j
  | 0, _, _ => rfl
  | k + 1, j, h => by
    show F3.setR (s.gR k) s.nw 0 ((k : Int) % 16) (1 + (k : Int) % 7) (s.gl k) j = _
    unfold F3.setR
    rw [if_neg (by omega), F3.loc_global (by omega), F3.upd_ne _ _ (by omega)]
    exact gR_lo k j h
theorem loc14 {l b : Int} (h0 : 0 ≤ l) (h1 : l < s.nw) : F3.loc s.nw l b 14 < 512 ∧ F3.loc s.nw l b 14 = F3.loc s.nw l 0 14 := by
  have := H.n32
  constructor
  · unfold F3.loc
    rw [if_neg (by decide), if_pos (by decide)]
    split <;> omega
  · unfold F3.loc
    simp only [show ¬ ((14 : Int) < 8) by decide, show (14 : Int) < 16 by decide, if_true, if_false]
theorem gR_fr {l b : Int} (h0 : 0 ≤ l) (h1 : l < s.nw) (k : Nat) : Fr (s.gR k (F3.loc s.nw l b 14)) := by
  have h2 := H.n2
  obtain ⟨e1, e2⟩ := loc14 (b := b) H h0 h1
  rw [gR_lo k _ e1, e2]
  have := fR_fr H s.nw.toNat (by omega) l.toNat (by omega)
  rwa [Int.toNat_of_nonneg h0] at this
include B
theorem rR_w : ∀ k j, W32 (s.rR k j)
  | 0, _ => (⟨Int.le_refl _, by decide⟩ : W32 0)
  | k + 1, j => by
    have _ := H.n2
    exact setR_w (rR_w k) _ _ _ _ _ (B.rg k) j
theorem fR_w : ∀ k j, W32 (s.fR k j)
  | 0, j => rR_w H B _ j
  | k + 1, j => setR_w (fR_w k) _ _ _ _ _ (by have := fp_fr (s := s) k; unfold Fr at this; unfold W32; omega) j
theorem gR_w : ∀ k j, W32 (s.gR k j)
  | 0, j => fR_w H B _ j
  | k + 1, j => setR_w (gR_w k) _ _ _ _ _ (B.gl k) j
omit B in
theorem rR_hi : ∀ k j, 512 ≤ j → s.rR k j = 0
  | 0, _, _ => rfl
  | k + 1, j, h => by
    have h2 := H.n2
    have h32 := H.n32
    show F3.setR (s.rR k) s.nw ((k : Int) / 16 % s.nw) 0 (16 + (k : Int) % 16) (s.rg k) j = 0
    have e1 := Int.emod_nonneg ((k : Int) / 16) (b := s.nw) (by omega)
    have e2 := Int.emod_lt_of_pos ((k : Int) / 16) (b := s.nw) (by omega)
    unfold F3.setR
    rw [if_neg (by omega), F3.loc_own (by omega), F3.upd_ne _ _ (by omega)]
    exact rR_hi k j h
omit B in
theorem fR_hi : ∀ k : Nat, (k : Int) ≤ s.nw → ∀ j, 512 ≤ j → s.fR k j = 0
  | 0, _, j, h => rR_hi H _ j h
  | k + 1, hk, j, h => by
    show F3.setR (s.fR k) s.nw k 0 14 (s.fp k) j = 0
    have e1 := (loc14 (b := 0) H (l := k) (by omega) (by omega)).1
    unfold F3.setR
    rw [if_neg (by decide), F3.upd_ne _ _ (by omega)]
    exact fR_hi k (by omega) j h
omit B in
theorem gR_g0 : ∀ k, s.gR k 640 = 0
  | 0 => by
    have h2 := H.n2
    exact fR_hi H _ (by omega) 640 (by decide)
  | k + 1 => by
    show F3.setR (s.gR k) s.nw 0 ((k : Int) % 16) (1 + (k : Int) % 7) (s.gl k) 640 = 0
    unfold F3.setR
    rw [if_neg (by omega), F3.loc_global (by omega), F3.upd_ne _ _ (by omega)]
    exact gR_g0 k
theorem w0_made : W0 (mW s) where
  n2 := H.n2
  n32 := H.n32
  sz := rfl
  c0 := H.c0
  c1 := H.c1
  p0 := B.pl.1
  p1 := H.pl
  f0 := B.fl.1
  f1 := H.fl
  sk := rfl
  bank := rfl
  g0 := gR_g0 H _
  RW := gR_w H B _
  mem := mem_w H
end
end Go.Proofs.YtlmaikbnjdmhcaaGreatDoor.K6
namespace Go.Proofs.YtlmaikbnjdmhcaaGreatDoor.K6
open Go.RowKit W8
set_option linter.unusedVariables false
/-- Registers of the new window that are set between. -/
def bR (R : Nat → Int) (nw c1 : Int) (g : Nat → Int) : Nat → Nat → Int
  | 0 => R
  | k + 1 => if 8 + (k : Int) % 24 = 30 ∨ 8 + (k : Int) % 24 = 14 then bR R nw c1 g k else F3.setR (bR R nw c1 g k) nw c1 0 (8 + (k : Int) % 24) (g k)
section
variable {R : Nat → Int} {nw c1 : Int} {g : Nat → Int} (h2 : 2 ≤ nw) (h32 : nw ≤ 32) (k0 : 0 ≤ c1) (k1 : c1 < nw)
include h2 h32 k0 k1
theorem bR_hi : ∀ k j, 512 ≤ j → bR R nw c1 g k j = R j
  | 0, _, _ => rfl
  | k + 1, j, h => by
    unfold bR
    split
    · exact bR_hi k j h
    · rename_i hn
      have hl : F3.loc nw c1 0 (8 + (k : Int) % 24) < 512 := by
        unfold F3.loc
        rw [if_neg (by omega)]
        split
        · split <;> omega
        · omega
      unfold F3.setR
      rw [if_neg (by omega), F3.upd_ne _ _ (by omega)]
      exact bR_hi k j h
/-- What is in no window's own but the new one's and the one before it. -/
theorem bR_own {j : Nat} (hj : j < 512) (n1 : ¬ ((16 * c1).toNat ≤ j ∧ j < (16 * c1).toNat + 16)) (n2 : ¬ ((16 * (if c1 = 0 then nw - 1 else c1 - 1)).toNat ≤ j ∧ j < (16 * (if c1 = 0 then nw - 1 else c1 - 1)).toNat + 16)) : ∀ k, bR R nw c1 g k j = R j
  | 0 => rfl
  | k + 1 => by
    unfold bR
    split
    · exact bR_own hj n1 n2 k
    · rename_i hn
      have hl : F3.loc nw c1 0 (8 + (k : Int) % 24) ≠ j := by
        unfold F3.loc
        rw [if_neg (by omega)]
        split
        · split at n2 <;> (rename_i e; first | rw [if_pos e] | rw [if_neg e]) <;> omega
        · omega
      unfold F3.setR
      rw [if_neg (by omega), F3.upd_ne _ _ (fun e => hl e.symm)]
      exact bR_own hj n1 n2 k
/-- The new window's i6 stays. -/
theorem bR_fp : ∀ k, bR R nw c1 g k ((16 * c1).toNat + 14) = R ((16 * c1).toNat + 14)
  | 0 => rfl
  | k + 1 => by
    have _ := k1
    unfold bR
    split
    · exact bR_fp k
    · rename_i hn
      have hl : F3.loc nw c1 0 (8 + (k : Int) % 24) ≠ (16 * c1).toNat + 14 := by
        unfold F3.loc
        rw [if_neg (by omega)]
        split
        · split <;> omega
        · omega
      unfold F3.setR
      rw [if_neg (by omega), F3.upd_ne _ _ (fun e => hl e.symm)]
      exact bR_fp k
omit h2 h32 k0 k1 in
theorem bR_w (hR : ∀ j, W32 (R j)) (hg : ∀ i, W32 (g i)) : ∀ k j, W32 (bR R nw c1 g k j)
  | 0, j => hR j
  | k + 1, j => by
    unfold bR
    split
    · exact bR_w hR hg k j
    · exact setR_w (bR_w hR hg k) _ _ _ _ _ (hg k) j
end
/-- The machine that WindBack begins with. -/
def mB (s : CS) : MS := { mW s with f := stB s.mem 1540 4 (sTr 21).word }
section
variable {s : CS} (H : s.May) (B : CSB s) (hup : s.up = false)
include H B
theorem w0_back : W0 (mB s) where
  n2 := H.n2
  n32 := H.n32
  sz := rfl
  c0 := H.c0
  c1 := H.c1
  p0 := B.pl.1
  p1 := H.pl
  f0 := B.fl.1
  f1 := H.fl
  sk := rfl
  bank := rfl
  g0 := gR_g0 H _
  RW := gR_w H B _
  mem := WMem.st (a := 1540) (mem_w H) (Nat.le_of_ble_eq_true rfl) (sTr 21).word
include hup
theorem mB_code : ldB (mB s).f (mB s).pc.toNat 4 = (sTr 20).word := by
  have _ := B
  show ldB (stB s.mem 1540 4 (sTr 21).word) 1536 4 = _
  rw [ld_far (by omega), mem_code H]
  unfold CS.op
  rw [hup]
  rfl
theorem mB_wim : (mB s).wim = P4.pw ((s.c + s.nw - 1) % s.nw).toNat := by
  have _ := H
  have _ := B
  show P4.pw s.to.toNat = _
  unfold CS.to
  rw [hup]
  rfl
/-- The frame of a window. -/
def CS.fa (s : CS) (l : Int) : Nat := (s.gR s.lg (F3.loc s.nw l 16 14)).toNat
omit B hup in
theorem fa_is {l : Int} (l0 : 0 ≤ l) (l1 : l < s.nw) : s.gR s.lg (F3.loc s.nw l 16 14) = s.fa l ∧ s.fa l % 4 = 0 ∧ 2048 ≤ s.fa l ∧ s.fa l + 64 ≤ 4096 := by
  have := gR_fr (b := 16) H l0 l1 s.lg
  unfold Fr at this
  unfold CS.fa
  omega
theorem back_one : ∃ e, Dn (mB s) ((s.c + s.nw - 1) % s.nw) (P4.pw ((s.c + (s.nw - 2)) % s.nw).toNat) 1540 (ptB (mB s).f (s.fa ((s.c + (s.nw - 2)) % s.nw)) (fun k => (mB s).R ((16 * ((s.c + (s.nw - 2)) % s.nw)).toNat + k)) 16) (mB s).R e ∧ Runs 1540 29 (mB s) e := by
  have h2 := H.n2
  have l0 : 0 ≤ (s.c + (s.nw - 2)) % s.nw := Int.emod_nonneg _ (by omega)
  have l1 : (s.c + (s.nw - 2)) % s.nw < s.nw := Int.emod_lt_of_pos _ (by omega)
  obtain ⟨f1, f2, f3, f4⟩ := fa_is H l0 l1
  exact over_run (w0_back H B) ⟨show (984 : Int) ≤ 1536 by decide, show (1536 : Int) + 4 ≤ 2048 by decide, show (1536 : Int) % 4 = 0 by decide⟩ (mB_code H B hup) (mB_wim H B hup) rfl f1 f2 f3 f4
/-- What is true of the machine behind the RESTORE. -/
structure Bk (s : CS) (e : MS) : Prop where
  nw : e.nw = s.nw
  sk : e.sk = 0
  ol : e.ol = 0
  cwp : e.cwp = s.c
  pil : e.pil = s.pl
  bank : e.bank = 0
  fl : e.fl = s.fl
  R : ∀ i, i < 16 → e.R ((16 * s.c).toNat + i) = s.gR s.lg ((16 * s.c).toNat + i)
  sp : e.R (F3.loc s.nw s.c 0 14) = s.gR s.lg (F3.loc s.nw s.c 0 14)
omit B hup in
theorem prev_c : (s.c + s.nw - 1) % s.nw = if s.c = 0 then s.nw - 1 else s.c - 1 := F3.before_mod H.c0 H.c1
theorem back_two {e : MS} (D : Dn (mB s) ((s.c + s.nw - 1) % s.nw) (P4.pw ((s.c + (s.nw - 2)) % s.nw).toNat) 1540 (ptB (mB s).f (s.fa ((s.c + (s.nw - 2)) % s.nw)) (fun k => (mB s).R ((16 * ((s.c + (s.nw - 2)) % s.nw)).toNat + k)) 16) (mB s).R e)
    (hR : ∀ j, W32 (e.R j)) (g : Nat → Int) (hg : ∀ i, W32 (g i)) (k : Nat) :
    ∃ n e3, n ≤ 31 ∧ Runs 1544 n { e with R := bR e.R s.nw ((s.c + s.nw - 1) % s.nw) g k } e3 ∧ Bk s e3 := by
  have _ := hup
  have h2 := H.n2
  have h32 := H.n32
  have c0 := H.c0
  have c1 := H.c1
  have p0 := prev_c H
  obtain ⟨u, hu⟩ : ∃ u, u = (s.c + s.nw - 1) % s.nw := ⟨_, rfl⟩
  rw [← hu] at D p0 ⊢
  have u0 : 0 ≤ u := by rw [p0]; split <;> omega
  have u1 : u < s.nw := by rw [p0]; split <;> omega
  have nx : (u + 1) % s.nw = s.c := by
    rw [p0]
    split
    · rename_i e0; rw [e0, show s.nw - 1 + 1 = s.nw by omega]; exact Int.emod_self
    · rw [show s.c - 1 + 1 = s.c by omega]; exact Int.emod_eq_of_lt c0 c1
  have hl14 : F3.loc s.nw s.c 0 14 = (16 * u).toNat + 14 := by
    unfold F3.loc
    rw [if_neg (by decide), if_pos (by decide), ← p0]
    omega
  have hcode : ldB e.f 1540 4 = (sTr 21).word := by
    have l0 : 0 ≤ (s.c + (s.nw - 2)) % s.nw := Int.emod_nonneg _ (by omega)
    have l1 : (s.c + (s.nw - 2)) % s.nw < s.nw := Int.emod_lt_of_pos _ (by omega)
    obtain ⟨f1, f2, f3, f4⟩ := fa_is H l0 l1
    rw [D.f, ld_pt (by omega)]
    exact ld_st (xw_w (sTr_b (.inr rfl)))
  have eR : ∀ j, j < 512 → e.R j = s.gR s.lg j := fun j hj => D.R j (by omega) (by omega) (by omega)
  have hsp : bR e.R s.nw u g k ((16 * u).toNat + 14) = s.gR s.lg ((16 * u).toNat + 14) := by
    rw [bR_fp h2 h32 u0 u1 k]
    exact eR _ (by omega)
  by_cases hn : s.nw = 2
  · have hlc : (s.c + (s.nw - 2)) % s.nw = s.c := by rw [hn]; omega
    rw [hlc] at D
    obtain ⟨f1, f2, f3, f4⟩ := fa_is H c0 c1
    have W : W0 { e with R := bR e.R s.nw u g k } :=
      { n2 := by show 2 ≤ e.nw; rw [D.nw]; exact h2
        n32 := by show e.nw ≤ 32; rw [D.nw]; exact h32
        sz := D.sz
        c0 := by show 0 ≤ e.cwp; rw [D.cwp]; exact u0
        c1 := by show e.cwp < e.nw; rw [D.cwp, D.nw]; exact u1
        p0 := by show 0 ≤ e.pil; rw [D.pil]; exact (w0_back H B).p0
        p1 := by show e.pil ≤ 15; rw [D.pil]; exact (w0_back H B).p1
        f0 := by show 0 ≤ e.fl; rw [D.fl]; exact (w0_back H B).f0
        f1 := by show e.fl ≤ 15; rw [D.fl]; exact (w0_back H B).f1
        sk := D.sk
        bank := D.bank
        g0 := by
          show bR e.R s.nw u g k 640 = 0
          rw [bR_hi h2 h32 u0 u1 k 640 (by decide), D.R 640 (by decide) (by decide) (by decide)]
          exact (w0_back H B).g0
        RW := bR_w hR hg k
        mem := by
          show WMem e.nw e.f
          rw [D.nw, D.f]
          exact (w0_back H B).mem.pt (by omega) _ _ }
    have hs : bR e.R s.nw u g k (F3.loc e.nw s.c 16 14) = s.fa s.c := by
      have e1 : F3.loc e.nw s.c 16 14 = (16 * u).toNat + 14 := by
        rw [D.nw, ← hl14]
        show F3.loc s.nw s.c 16 14 = _
        exact (loc14 (b := 16) H c0 c1).2
      rw [e1, hsp, ← f1, (loc14 (b := 16) H c0 c1).2, hl14]
    obtain ⟨e3, D3, R3⟩ := under_run (m0 := { e with R := bR e.R s.nw u g k }) W (by show 984 ≤ e.pc ∧ e.pc + 4 ≤ 2048 ∧ e.pc % 4 = 0; rw [D.pc]; decide) (by show ldB e.f e.pc.toNat 4 = _; rw [D.pc]; exact hcode)
      (by show e.wim = P4.pw ((e.cwp + 1) % e.nw).toNat; rw [D.wim, D.cwp, D.nw]; show _ = P4.pw ((u + 1) % s.nw).toNat; rw [nx])
      (l := s.c) (by show (e.cwp + 1) % e.nw = _; rw [D.cwp, D.nw]; exact nx) hs f2 f4
    refine ⟨31, e3, Nat.le_refl _, ?_, ?_⟩
    · have hp : e.pc + 4 = 1544 := by rw [D.pc]; rfl
      have : Runs (e.pc + 4) 31 { e with R := bR e.R s.nw u g k } e3 := R3
      rw [hp] at this
      exact this
    · refine ⟨D3.nw.trans D.nw, D3.sk, D3.ol.trans D.ol, D3.cwp, D3.pil.trans D.pil, D3.bank, D3.fl.trans D.fl, fun i hi => ?_, ?_⟩
      · rw [D3.R _ (by omega) (by omega) (by omega)]
        show ldR (bR e.R s.nw u g k) e.f s.c (s.fa s.c) 16 _ = _
        unfold ldR
        rw [if_pos (by omega), D.f, Nat.add_sub_cancel_left, ld_ptw _ _ _ (fun i => (w0_back H B).RW _) 16 i hi]
        rfl
      · rw [hl14, D3.R _ (by omega) (by omega) (by omega)]
        show ldR (bR e.R s.nw u g k) e.f s.c (s.fa s.c) 16 _ = _
        unfold ldR
        rw [if_neg (by rw [p0]; split <;> omega)]
        exact hsp
  · have hx : wx e.wim e.nw ≠ some s.c.toNat := by
      have e2 : (s.c + (s.nw - 2)) % s.nw = if s.c < 2 then s.c + (s.nw - 2) else s.c - 2 := by
        split
        · exact Int.emod_eq_of_lt (by omega) (by omega)
        · rw [show s.c + (s.nw - 2) = (s.c - 2) + s.nw by omega, Int.add_emod_right, Int.emod_eq_of_lt (by omega) (by omega)]
      rw [D.wim, D.nw]
      show wx (P4.pw _) s.nw ≠ _
      rw [e2]
      split
      · rw [wx_pw (by omega)]; intro h; injection h with h; omega
      · rw [wx_pw (by omega)]; intro h; injection h with h; omega
    have Q := quiet_run (m := { e with R := bR e.R s.nw u g k }) (c' := s.c) (by show s.c = (e.cwp + 1) % e.nw; rw [D.cwp, D.nw]; exact nx.symm) D.sk D.bank (by show 0 ≤ e.pil; rw [D.pil]; exact (w0_back H B).p0) D.sz (by show 0 ≤ e.pc ∧ e.pc < 2048 ∧ e.pc % 4 = 0; rw [D.pc]; decide) (by show ldB e.f e.pc.toNat 4 = _; rw [D.pc]; exact hcode) hx
    refine ⟨1, { e with R := bR e.R s.nw u g k, cwp := s.c, pc := 1544 }, by decide, ?_, ⟨D.nw, D.sk, D.ol, rfl, D.pil, D.bank, D.fl, fun i hi => ?_, ?_⟩⟩
    · have hp : e.pc + 4 = 1544 := by rw [D.pc]; rfl
      have Q' : Runs (e.pc + 4) 1 { e with R := bR e.R s.nw u g k } { e with R := bR e.R s.nw u g k, cwp := s.c, pc := e.pc + 4 } := Q
      rw [hp] at Q'
      exact Q'
    · show bR e.R s.nw u g k _ = _
      rw [bR_own h2 h32 u0 u1 (by omega) (by rw [p0]; split <;> omega) (by rw [p0]; split <;> split <;> omega) k]
      exact eR _ (by omega)
    · rw [hl14]
      exact hsp
end
end Go.Proofs.YtlmaikbnjdmhcaaGreatDoor.K6
