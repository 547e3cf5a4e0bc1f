/- WindTurns' and WindBack's arithmetic (layer 8): the machine that made makes. WindBack's arithmetic (layer 8): a SAVE that traps, registers set between, a RESTORE. -/
import Derived.Test.YtlmaikbnjdmhcaaGreatDoorTuM
namespace Go.Proofs.YtlmaikbnjdmhcaaGreatDoor.K6
open Go.RowKit W8
set_option linter.unusedVariables false
/-- A case, as numbers. -/
structure CS where
  nw : Int
  c : Int
  lr : Nat
  rg : Nat → Int
  lf : Nat
  fr : Nat → Int
  fl : Int
  pl : Int
  lg : Nat
  gl : Nat → Int
  fill : Int
  up : Bool
structure CSB (s : CS) : Prop where
  rg : ∀ i, W32 (s.rg i)
  fr : ∀ i, 0 ≤ s.fr i ∧ s.fr i < 65536
  fl : 0 ≤ s.fl ∧ s.fl < 256
  pl : 0 ≤ s.pl ∧ s.pl < 256
  gl : ∀ i, W32 (s.gl i)
  fill : W32 s.fill
structure CS.May (s : CS) : Prop where
  n2 : 2 ≤ s.nw
  n32 : s.nw ≤ 32
  c0 : 0 ≤ s.c
  c1 : s.c < s.nw
  pl : s.pl ≤ 15
  fl : s.fl ≤ 15
  lr : s.lr ≤ 512
  lf : s.lf ≤ 64
  lg : s.lg ≤ 120
/-- The memory: the handlers' words, the vectors, what fills the frames' room, the instruction. -/
def wW (nw : Int) (i : Nat) : Int := if i < 54 then (gX (wL nw) i).word else 0
def wA (nw : Int) : Nat → Int := stB (stB (ptB (fun _ => 0) 768 (wW nw) 54) 272 4 (sBr 124).word) 288 4 (sBr 146).word
def wFill (fill : Int) (i : Nat) : Int := (fill + (2048 + 4 * (i : Int)) * 2654435761 % 4294967296) % 4294967296
def wF (nw fill : Int) (k : Nat) : Nat → Int := ptB (wA nw) 2048 (wFill fill) k
def CS.op (s : CS) : Int := if s.up then 21 else 20
def CS.to (s : CS) : Int := if s.up then (s.c + 1) % s.nw else (s.c + s.nw - 1) % s.nw
def CS.mem (s : CS) : Nat → Int := stB (wF s.nw s.fill 512) 1536 4 (sTr s.op).word
/-- The registers. -/
def CS.rR (s : CS) : Nat → Nat → Int
  | 0 => fun _ => 0
  | k + 1 => F3.setR (s.rR k) s.nw ((k : Int) / 16 % s.nw) 0 (16 + (k : Int) % 16) (s.rg k)
def CS.fv (s : CS) (k : Nat) : Int := if k < s.lf then s.fr k else (k : Int) * 64 % 65536
def CS.fp (s : CS) (k : Nat) : Int := 2048 + s.fv k % 496 * 4
def CS.fR (s : CS) : Nat → Nat → Int
  | 0 => s.rR s.lr
  | k + 1 => F3.setR (s.fR k) s.nw k 0 14 (s.fp k)
def CS.gR (s : CS) : Nat → Nat → Int
  | 0 => s.fR s.nw.toNat
  | k + 1 => F3.setR (s.gR k) s.nw 0 ((k : Int) % 16) (1 + (k : Int) % 7) (s.gl k)
def mW (s : CS) : MS := { mnew s.nw 4096 with f := s.mem, R := s.gR s.lg, pc := 1536, cwp := s.c, pil := s.pl, fl := s.fl, wim := P4.pw s.to.toNat }
theorem ld_ptw (f : Nat → Int) (a : Nat) (g : Nat → Int) (hg : ∀ i, W32 (g i)) : ∀ k i, i < k → ldB (ptB f a g k) (a + 4 * i) 4 = g i
  | 0, i, h => absurd h (Nat.not_lt_zero _)
  | k + 1, i, h => by
    show ldB (stB (ptB f a g k) (a + 4 * k) 4 (g k)) (a + 4 * i) 4 = g i
    by_cases e : i = k
    · subst e; exact ld_st (hg i)
    · rw [ld_far (by omega)]; exact ld_ptw f a g hg k i (by omega)
theorem ld_ptf (f : Nat → Int) (a : Nat) (g : Nat → Int) : ∀ k c, c + 4 ≤ a ∨ a + 4 * k ≤ c → ldB (ptB f a g k) c 4 = ldB f c 4
  | 0, _, _ => rfl
  | k + 1, c, h => by
    show ldB (stB (ptB f a g k) (a + 4 * k) 4 (g k)) c 4 = _
    rw [ld_far (by omega)]
    exact ld_ptf f a g k c (by omega)
theorem wFill_w (fill : Int) (i : Nat) : W32 (wFill fill i) := by unfold wFill W32; omega
theorem wW_w {nw : Int} (h2 : 2 ≤ nw) (h32 : nw ≤ 32) (i : Nat) : W32 (wW nw i) := by
  unfold wW
  split
  · rename_i h
    exact xw_w (wL_b h2 h32 _ (gX_mem (by rw [wL_len]; exact h)))
  · exact ⟨Int.le_refl _, by decide⟩
section
variable {s : CS} (H : s.May) (B : CSB s)
include H
theorem CS.to_b : 0 ≤ s.to ∧ s.to < s.nw := by
  have h2 := H.n2
  unfold CS.to
  split
  · exact ⟨Int.emod_nonneg _ (by omega), Int.emod_lt_of_pos _ (by omega)⟩
  · exact ⟨Int.emod_nonneg _ (by omega), Int.emod_lt_of_pos _ (by omega)⟩
theorem sTr_w : W32 (sTr s.op).word := by
  have _ := H
  exact xw_w (sTr_b (by unfold CS.op; split; exact .inr rfl; exact .inl rfl))
theorem mem_w : WMem s.nw s.mem := by
  have b1 : W32 (sBr 124).word := xw_w (sBr_b ⟨by decide, by decide⟩)
  have b2 : W32 (sBr 146).word := xw_w (sBr_b ⟨by decide, by decide⟩)
  refine ⟨?_, ?_, fun i hi => ?_⟩
  · unfold CS.mem wF wA
    rw [ld_far (by omega), ld_ptf _ _ _ _ _ (by omega), ld_far (by omega)]
    exact ld_st b1
  · unfold CS.mem wF wA
    rw [ld_far (by omega), ld_ptf _ _ _ _ _ (by omega)]
    exact ld_st b2
  · unfold CS.mem wF wA
    rw [ld_far (by omega), ld_ptf _ _ _ _ _ (by omega), ld_far (by omega), ld_far (by omega), ld_ptw _ _ _ (wW_w H.n2 H.n32) _ _ hi]
    unfold wW
    rw [if_pos hi]
theorem mem_code : ldB s.mem 1536 4 = (sTr s.op).word := by
  unfold CS.mem
  exact ld_st (sTr_w H)
/-- A frame's address may be. -/
def Fr (v : Int) : Prop := v % 4 = 0 ∧ 2048 ≤ v ∧ v + 64 ≤ 4096
omit H in
theorem fp_fr (k : Nat) : Fr (s.fp k) := by unfold Fr CS.fp; omega
omit H in
theorem setR_or (R : Nat → Int) (n a b r v : Int) (j : Nat) : F3.setR R n a b r v j = v ∨ F3.setR R n a b r v j = R j := by
  unfold F3.setR
  split
  · exact .inr rfl
  · unfold F3.upd
    split
    · exact .inl rfl
    · exact .inr rfl
theorem fR_fr : ∀ k : Nat, (k : Int) ≤ s.nw → ∀ l : Nat, l < k → Fr (s.fR k (F3.loc s.nw l 0 14))
  | 0, _, l, h => absurd h (Nat.not_lt_zero _)
  | k + 1, hk, l, h => by
    have _ := H.n2
    show Fr (F3.setR (s.fR k) s.nw k 0 14 (s.fp k) _)
    by_cases e : l = k
    · subst e
      unfold F3.setR
      rw [if_neg (by decide), F3.upd_same]
      exact fp_fr _
    · rcases setR_or (s.fR k) s.nw k 0 14 (s.fp k) (F3.loc s.nw l 0 14) with h' | h'
      · rw [h']; exact fp_fr _
      · rw [h']; exact fR_fr k (by omega) l (by omega)
omit H in
theorem gR_lo : ∀ k j, j < 512 → s.gR k j = s.fR s.nw.toNat j
  | 0, _, _ => rfl
  | k + 1, j, h => by
    show F3.setR (s.gR k) s.nw 0 ((k : Int) % 16) (1 + (k : Int) % 7) (s.gl k) j = _
    unfold F3.setR
    rw [if_neg (by omega), F3.loc_global (by omega), F3.upd_ne _ _ (by omega)]
    exact gR_lo k j h
theorem loc14 {l b : Int} (h0 : 0 ≤ l) (h1 : l < s.nw) : F3.loc s.nw l b 14 < 512 ∧ F3.loc s.nw l b 14 = F3.loc s.nw l 0 14 := by
  have := H.n32
  constructor
  · unfold F3.loc
    rw [if_neg (by decide), if_pos (by decide)]
    split <;> omega
  · unfold F3.loc
    simp only [show ¬ ((14 : Int) < 8) by decide, show (14 : Int) < 16 by decide, if_true, if_false]
theorem gR_fr {l b : Int} (h0 : 0 ≤ l) (h1 : l < s.nw) (k : Nat) : Fr (s.gR k (F3.loc s.nw l b 14)) := by
  have h2 := H.n2
  obtain ⟨e1, e2⟩ := loc14 (b := b) H h0 h1
  rw [gR_lo k _ e1, e2]
  have := fR_fr H s.nw.toNat (by omega) l.toNat (by omega)
  rwa [Int.toNat_of_nonneg h0] at this
include B
theorem rR_w : ∀ k j, W32 (s.rR k j)
  | 0, _ => (⟨Int.le_refl _, by decide⟩ : W32 0)
  | k + 1, j => by
    have _ := H.n2
    exact setR_w (rR_w k) _ _ _ _ _ (B.rg k) j
theorem fR_w : ∀ k j, W32 (s.fR k j)
  | 0, j => rR_w H B _ j
  | k + 1, j => setR_w (fR_w k) _ _ _ _ _ (by have := fp_fr (s := s) k; unfold Fr at this; unfold W32; omega) j
theorem gR_w : ∀ k j, W32 (s.gR k j)
  | 0, j => fR_w H B _ j
  | k + 1, j => setR_w (gR_w k) _ _ _ _ _ (B.gl k) j
omit B in
theorem rR_hi : ∀ k j, 512 ≤ j → s.rR k j = 0
  | 0, _, _ => rfl
  | k + 1, j, h => by
    have h2 := H.n2
    have h32 := H.n32
    show F3.setR (s.rR k) s.nw ((k : Int) / 16 % s.nw) 0 (16 + (k : Int) % 16) (s.rg k) j = 0
    have e1 := Int.emod_nonneg ((k : Int) / 16) (b := s.nw) (by omega)
    have e2 := Int.emod_lt_of_pos ((k : Int) / 16) (b := s.nw) (by omega)
    unfold F3.setR
    rw [if_neg (by omega), F3.loc_own (by omega), F3.upd_ne _ _ (by omega)]
    exact rR_hi k j h
omit B in
theorem fR_hi : ∀ k : Nat, (k : Int) ≤ s.nw → ∀ j, 512 ≤ j → s.fR k j = 0
  | 0, _, j, h => rR_hi H _ j h
  | k + 1, hk, j, h => by
    show F3.setR (s.fR k) s.nw k 0 14 (s.fp k) j = 0
    have e1 := (loc14 (b := 0) H (l := k) (by omega) (by omega)).1
    unfold F3.setR
    rw [if_neg (by decide), F3.upd_ne _ _ (by omega)]
    exact fR_hi k (by omega) j h
omit B in
theorem gR_g0 : ∀ k, s.gR k 640 = 0
  | 0 => by
    have h2 := H.n2
    exact fR_hi H _ (by omega) 640 (by decide)
  | k + 1 => by
    show F3.setR (s.gR k) s.nw 0 ((k : Int) % 16) (1 + (k : Int) % 7) (s.gl k) 640 = 0
    unfold F3.setR
    rw [if_neg (by omega), F3.loc_global (by omega), F3.upd_ne _ _ (by omega)]
    exact gR_g0 k
theorem w0_made : W0 (mW s) where
  n2 := H.n2
  n32 := H.n32
  sz := rfl
  c0 := H.c0
  c1 := H.c1
  p0 := B.pl.1
  p1 := H.pl
  f0 := B.fl.1
  f1 := H.fl
  sk := rfl
  bank := rfl
  g0 := gR_g0 H _
  RW := gR_w H B _
  mem := mem_w H
end
end Go.Proofs.YtlmaikbnjdmhcaaGreatDoor.K6
namespace Go.Proofs.YtlmaikbnjdmhcaaGreatDoor.K6
open Go.RowKit W8
set_option linter.unusedVariables false
section
variable {s : CS} (H : s.May)
include H
/-- The frame of a window. -/
def CS.fa (s : CS) (l : Int) : Nat := (s.gR s.lg (F3.loc s.nw l 16 14)).toNat
theorem fa_is {l : Int} (l0 : 0 ≤ l) (l1 : l < s.nw) : s.gR s.lg (F3.loc s.nw l 16 14) = s.fa l ∧ s.fa l % 4 = 0 ∧ 2048 ≤ s.fa l ∧ s.fa l + 64 ≤ 4096 := by
  have := gR_fr (b := 16) H l0 l1 s.lg
  unfold Fr at this
  unfold CS.fa
  omega
end
end Go.Proofs.YtlmaikbnjdmhcaaGreatDoor.K6
