/- AsmConst's arithmetic: what a machine of two windows comes to that does a constant's instructions. -/
import Derived.Test.YtlmaikbnjdmhcaaGreatDoorMachGA
import Derived.Test.YtlmaikbnjdmhcaaGreatDoorMachGI
import Derived.Test.YtlmaikbnjdmhcaaGreatDoorAsmG
namespace Go.Proofs.YtlmaikbnjdmhcaaGreatDoor.K6
open Go.RowKit
set_option linter.unusedVariables false
theorem ld_st {f : Nat → Int} {a : Nat} {v : Int} (hv : W32 v) : ldB (stB f a 4 v) a 4 = v := by
  obtain ⟨h0, h1⟩ := hv
  have e : ∀ k, k < 4 → stB f a 4 v (a + k) = v / 256 ^ (3 - k) % 256 := fun k hk => by
    unfold stB; rw [if_pos (by omega), show a + 4 - 1 - (a + k) = 3 - k by omega]
  simp only [ldB]
  rw [e 0 (by decide), e 1 (by decide), e 2 (by decide), e 3 (by decide)]
  simp only [Nat.sub_zero, show 3 - 1 = 2 from rfl, show 3 - 2 = 1 from rfl, show 3 - 3 = 0 from rfl]
  have p3 : (256 : Int) ^ 3 = 16777216 := rfl
  have p2 : (256 : Int) ^ 2 = 65536 := rfl
  have p1 : (256 : Int) ^ 1 = 256 := rfl
  have p0 : (256 : Int) ^ 0 = 1 := rfl
  rw [p3, p2, p1, p0]
  omega
theorem ld_far {f : Nat → Int} {a c : Nat} {v : Int} (h : c + 4 ≤ a ∨ a + 4 ≤ c) : ldB (stB f a 4 v) c 4 = ldB f c 4 := by
  have e : ∀ k, k < 4 → stB f a 4 v (c + k) = f (c + k) := fun k hk => by unfold stB; rw [if_neg (by omega)]
  simp only [ldB]
  rw [e 0 (by decide), e 1 (by decide), e 2 (by decide), e 3 (by decide)]
open A7 in
/-- The machine that has a constant's words. -/
def c0 (g : Nat → Int) (k : Nat) : MS := { mnew 2 64 with f := ptB (fun _ => 0) 0 g k }
/-- .. and that has done them. -/
def cF (g : Nat → Int) (k : Nat) (rd u : Int) : MS := { c0 g k with R := F3.setR (fun _ => 0) 2 0 0 rd u, pc := 4 * k }
theorem c0_first {g : Nat → Int} {k : Nat} (hg : W32 (g 0)) (hk : k = 1 ∨ k = 2) : ldB (c0 g k).f 0 4 = g 0 := by
  rcases hk with rfl | rfl
  · exact ld_st hg
  · show ldB (stB (stB (fun _ => 0) (0 + 4 * 0) 4 (g 0)) (0 + 4 * 1) 4 (g 1)) 0 4 = g 0
    rw [ld_far (by omega)]
    exact ld_st hg
theorem c0_second {g : Nat → Int} (hg : W32 (g 1)) : ldB (c0 g 2).f 4 4 = g 1 := by
  show ldB (stB (stB (fun _ => 0) (0 + 4 * 0) 4 (g 0)) (0 + 4 * 1) 4 (g 1)) 4 4 = g 1
  exact ld_st hg
/-- A step at a word that lies at the PC. -/
theorem step_word {m : MS} {x : A7.XI} (hx : A7.XB x) (hm : x.may = true) (hs : m.sk = 0) (hp : 0 ≤ m.pil) (ht : thE m.sz m.pc 4 = 0) (hw : ldB m.f m.pc.toNat 4 = x.word) :
    mstep m 0 = mExec m x.o x.d x.n (m.get x.s) (if x.b then x.n % 4294967296 else m.get x.t) ∧ I2.dO (ldB m.f m.pc.toNat 4) = x.o := by
  have e : x.word = I2.enc x.o x.d x.s x.t x.b x.n := I2.eW_yes hm
  obtain ⟨d1, d2, d3, d4, d5, d6, d7⟩ := I2.back_enc hx.o hx.d hx.s hx.t hm
  rw [hw, e]
  refine ⟨?_, d2⟩
  unfold mstep
  rw [if_neg (by simpa using hs), if_neg (by omega), if_pos ht, hw, e]
  unfold mWord
  rw [d1, d2, d3, d4, d5, d6, d7]
  rfl
theorem or_sum (u : Int) (hu : W32 u) : bits .or .u32 (u / 2048 * 2048) (u % 2048) = u := by
  rw [I2.or_add 11 2048 _ _ rfl ⟨by have := hu.1; omega, by have := hu.2; omega⟩ (by omega) ⟨by omega, by omega⟩ (by have := hu.2; omega)]
  omega
theorem setR_two (n win bank rd a b : Int) (R : Nat → Int) : F3.setR (F3.setR R n win bank rd a) n win bank rd b = F3.setR R n win bank rd b := by
  unfold F3.setR
  split
  · rfl
  · funext j; unfold F3.upd; split <;> rfl
theorem setR_zero (n win bank : Int) (R : Nat → Int) (v : Int) (h : R = fun _ => 0) (rd : Int) : F3.setR R n win bank rd 0 = R := by
  subst h
  unfold F3.setR
  split
  · rfl
  · funext j; unfold F3.upd; split <;> rfl
section
variable {rd u : Int} (hr : 0 ≤ rd ∧ rd ≤ 31) (hu : W32 u)
include hr hu
theorem word_w (i : Nat) : W32 (A7.cX rd u i).word := by
  have hx := A7.cX_b rd u i ⟨hr.1, by omega⟩ hu
  exact I2.eW_bd hx.o hx.d hx.s hx.t
theorem may_c (i : Nat) : (A7.cX rd u i).may = true := by rw [A7.cX_may rd u i ⟨hr.1, by omega⟩ hu]; exact decide_eq_true hr.2
/-- One instruction is enough. -/
theorem const_one (hk : A7.cK u = 1) : mstep (c0 (fun i => (A7.cX rd u i).word) 1) 0 = cF (fun i => (A7.cX rd u i).word) 1 rd u ∧ (I2.dO (ldB (c0 (fun i => (A7.cX rd u i).word) 1).f 0 4) = 1 ∨ I2.dO (ldB (c0 (fun i => (A7.cX rd u i).word) 1).f 0 4) = 15) := by
  have hx := A7.cX_b rd u 0 ⟨hr.1, by omega⟩ hu
  obtain ⟨S, D⟩ := step_word (m := c0 (fun i => (A7.cX rd u i).word) 1) hx (may_c hr hu 0) rfl (Int.le_refl _) (show thE ((64 : Nat) : Int) 0 4 = 0 by decide) (c0_first (word_w hr hu 0) (.inl rfl))
  change I2.dO (ldB (c0 (fun i => (A7.cX rd u i).word) 1).f 0 4) = (A7.cX rd u 0).o at D
  rw [S, D]
  generalize hg : (fun i => (A7.cX rd u i).word) = g
  have hu' := hu
  obtain ⟨hu0, hu1⟩ := hu'
  by_cases hs : A7.small u = true
  · have e : A7.cX rd u 0 = ⟨1, rd, 0, 0, true, A7.sgn u⟩ := by unfold A7.cX; rw [if_pos hs]
    rw [e]
    refine ⟨?_, .inl rfl⟩
    have hv : A7.sgn u % 4294967296 = u := by unfold A7.sgn; split <;> omega
    have hd : ((0 : Int) + u) % 4294967296 = u := by omega
    show mAlu (c0 g 1) 1 rd 0 (A7.sgn u % 4294967296) = _
    rw [hv]
    show ((c0 g 1).set rd ((0 + u) % 4294967296)).on = _
    rw [hd]
    rfl
  · have hs' : A7.small u = false := by simpa using hs
    have hz : u % 2048 = 0 := by
      unfold A7.cK at hk; rw [hs'] at hk
      by_cases h : u % 2048 = 0
      · exact h
      · rw [if_neg h] at hk; cases hk
    have e : A7.cX rd u 0 = ⟨15, rd, 0, 0, true, u / 2048⟩ := by unfold A7.cX; rw [hs']; rfl
    rw [e]
    refine ⟨?_, .inr rfl⟩
    have hd : u / 2048 % 4294967296 * 2048 % 4294967296 = u := by omega
    show ((c0 g 1).set rd (u / 2048 % 4294967296 * 2048 % 4294967296)).on = _
    rw [hd]
    rfl
/-- .. or two are. -/
theorem const_two (hk : A7.cK u = 2) : ∃ m, mstep (c0 (fun i => (A7.cX rd u i).word) 2) 0 = m ∧ mstep m 0 = cF (fun i => (A7.cX rd u i).word) 2 rd u ∧ I2.dO (ldB (c0 (fun i => (A7.cX rd u i).word) 2).f 0 4) = 15 ∧ I2.dO (ldB m.f m.pc.toNat 4) = 7 ∧ m.sk = 0 ∧ m.sv = 0 ∧ m.ol = 0 := by
  have hu' := hu
  obtain ⟨hu0, hu1⟩ := hu'
  have hs' : A7.small u = false := by
    cases h : A7.small u
    · rfl
    · unfold A7.cK at hk; rw [h] at hk; cases hk
  have e0 : A7.cX rd u 0 = ⟨15, rd, 0, 0, true, u / 2048⟩ := by unfold A7.cX; rw [hs']; rfl
  have e1 : A7.cX rd u 1 = ⟨7, rd, rd, 0, true, u % 2048⟩ := by unfold A7.cX; rw [hs']; rfl
  have hx0 := A7.cX_b rd u 0 ⟨hr.1, by omega⟩ hu
  have hx1 := A7.cX_b rd u 1 ⟨hr.1, by omega⟩ hu
  obtain ⟨S, D⟩ := step_word (m := c0 (fun i => (A7.cX rd u i).word) 2) hx0 (may_c hr hu 0) rfl (Int.le_refl _) (show thE ((64 : Nat) : Int) 0 4 = 0 by decide) (c0_first (word_w hr hu 0) (.inr rfl))
  have hd : u / 2048 % 4294967296 * 2048 % 4294967296 = u / 2048 * 2048 := by omega
  have S' : mstep (c0 (fun i => (A7.cX rd u i).word) 2) 0 = { c0 (fun i => (A7.cX rd u i).word) 2 with R := F3.setR (fun _ => 0) 2 0 0 rd (u / 2048 * 2048), pc := 4 } := by
    rw [S, e0]
    show ((c0 (fun i => (A7.cX rd u i).word) 2).set rd (u / 2048 % 4294967296 * 2048 % 4294967296)).on = _
    rw [hd]
    rfl
  refine ⟨_, S', ?_, D.trans (by rw [e0]), ?_, rfl, rfl, rfl⟩
  · obtain ⟨S2, D2⟩ := step_word (m := { c0 (fun i => (A7.cX rd u i).word) 2 with R := F3.setR (fun _ => 0) 2 0 0 rd (u / 2048 * 2048), pc := 4 }) hx1 (may_c hr hu 1) rfl (Int.le_refl _) (show thE ((64 : Nat) : Int) 4 4 = 0 by decide) (c0_second (word_w hr hu 1))
    rw [S2, e1]
    have hm : u % 2048 % 4294967296 = u % 2048 := by omega
    have hz : ¬ rd = 0 → F3.setR (fun _ => 0) 2 0 0 rd (u / 2048 * 2048) (F3.loc 2 0 0 rd) = u / 2048 * 2048 := fun h => by
      unfold F3.setR; rw [if_neg h]; unfold F3.upd; rw [if_pos rfl]
    show ((MS.set { c0 (fun i => (A7.cX rd u i).word) 2 with R := F3.setR (fun _ => 0) 2 0 0 rd (u / 2048 * 2048), pc := 4 } rd (bits .or .u32 (F3.setR (fun _ => 0) 2 0 0 rd (u / 2048 * 2048) (F3.loc 2 0 0 rd)) (u % 2048 % 4294967296)))).on = _
    rw [hm]
    have hR : F3.setR (F3.setR (fun _ => 0) 2 0 0 rd (u / 2048 * 2048)) 2 0 0 rd (bits .or .u32 (F3.setR (fun _ => 0) 2 0 0 rd (u / 2048 * 2048) (F3.loc 2 0 0 rd)) (u % 2048)) = F3.setR (fun _ => 0) 2 0 0 rd u := by
      rw [setR_two]
      by_cases h : rd = 0
      · unfold F3.setR; rw [if_pos h, if_pos h]
      · rw [hz h, or_sum u hu]
    show MS.on { c0 (fun i => (A7.cX rd u i).word) 2 with R := F3.setR (F3.setR (fun _ => 0) 2 0 0 rd (u / 2048 * 2048)) 2 0 0 rd (bits .or .u32 (F3.setR (fun _ => 0) 2 0 0 rd (u / 2048 * 2048) (F3.loc 2 0 0 rd)) (u % 2048)), pc := 4 } = _
    rw [hR]
    rfl
  · obtain ⟨S2, D2⟩ := step_word (m := { c0 (fun i => (A7.cX rd u i).word) 2 with R := F3.setR (fun _ => 0) 2 0 0 rd (u / 2048 * 2048), pc := 4 }) hx1 (may_c hr hu 1) rfl (Int.le_refl _) (show thE ((64 : Nat) : Int) 4 4 = 0 by decide) (c0_second (word_w hr hu 1))
    exact D2.trans (by rw [e1])
end
/-- What the law reads. -/
theorem cF_get (g : Nat → Int) (k : Nat) (rd u : Int) (r : Nat) (hr : 0 ≤ rd ∧ rd ≤ 31) (h : r < 32) : (cF g k rd u).R (F3.loc 2 0 0 r) = if (r : Int) = rd ∧ 0 < r then u else 0 := by
  show F3.setR (fun _ => 0) 2 0 0 rd u (F3.loc 2 0 0 r) = _
  unfold F3.setR
  by_cases h0 : rd = 0
  · rw [if_pos h0, if_neg (by omega)]
  · rw [if_neg h0]
    unfold F3.upd
    by_cases e : (r : Int) = rd
    · subst e
      rw [if_pos rfl, if_pos ⟨rfl, by omega⟩]
    · have hl : F3.loc 2 0 0 r ≠ F3.loc 2 0 0 rd := by
        unfold F3.loc
        split <;> split <;> (try split) <;> (try split) <;> (try split) <;> omega
      rw [if_neg hl, if_neg (fun h => e h.1)]
end Go.Proofs.YtlmaikbnjdmhcaaGreatDoor.K6
