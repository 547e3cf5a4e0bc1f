/- AsmConst's arithmetic: what a machine of two windows comes to that does a constant's instructions. MachTurns' arithmetic: SAVEs that do not trap, and as many RESTOREs. MachTurns: its walk. -/
import Derived.Test.YtbkhhfffgmappaaGreatDoorMachGA
import Derived.Test.YtbkhhfffgmappaaGreatDoorMachGI
import Derived.Test.YtbkhhfffgmappaaGreatDoorAsmGC
import Derived.Test.YtbkhhfffgmappaaGreatDoorMachGJ
import Derived.Test.YtbkhhfffgmappaaGreatDoorFileG
import Derived.Deep.DeepCutAuto
namespace Go.Proofs.YtbkhhfffgmappaaGreatDoor.K6
open Go.RowKit
set_option linter.unusedVariables false
theorem ld_st {f : Nat → Int} {a : Nat} {v : Int} (hv : W32 v) : ldB (stB f a 4 v) a 4 = v := by
  obtain ⟨h0, h1⟩ := hv
  have e : ∀ k, k < 4 → stB f a 4 v (a + k) = v / 256 ^ (3 - k) % 256 := fun k hk => by
    unfold stB; rw [if_pos (by omega), show a + 4 - 1 - (a + k) = 3 - k by omega]
  simp only [ldB]
  rw [e 0 (by decide), e 1 (by decide), e 2 (by decide), e 3 (by decide)]
  simp only [Nat.sub_zero, show 3 - 1 = 2 from rfl, show 3 - 2 = 1 from rfl, show 3 - 3 = 0 from rfl]
  have p3 : (256 : Int) ^ 3 = 16777216 := rfl
  have p2 : (256 : Int) ^ 2 = 65536 := rfl
  have p1 : (256 : Int) ^ 1 = 256 := rfl
  have p0 : (256 : Int) ^ 0 = 1 := rfl
  rw [p3, p2, p1, p0]
  omega
theorem ld_far {f : Nat → Int} {a c : Nat} {v : Int} (h : c + 4 ≤ a ∨ a + 4 ≤ c) : ldB (stB f a 4 v) c 4 = ldB f c 4 := by
  have e : ∀ k, k < 4 → stB f a 4 v (c + k) = f (c + k) := fun k hk => by unfold stB; rw [if_neg (by omega)]
  simp only [ldB]
  rw [e 0 (by decide), e 1 (by decide), e 2 (by decide), e 3 (by decide)]
open A7 in
/-- The machine that has a constant's words. -/
def c0 (g : Nat → Int) (k : Nat) : MS := { mnew 2 64 with f := ptB (fun _ => 0) 0 g k }
/-- .. and that has done them. -/
def cF (g : Nat → Int) (k : Nat) (rd u : Int) : MS := { c0 g k with R := F3.setR (fun _ => 0) 2 0 0 rd u, pc := 4 * k }
theorem c0_first {g : Nat → Int} {k : Nat} (hg : W32 (g 0)) (hk : k = 1 ∨ k = 2) : ldB (c0 g k).f 0 4 = g 0 := by
  rcases hk with rfl | rfl
  · exact ld_st hg
  · show ldB (stB (stB (fun _ => 0) (0 + 4 * 0) 4 (g 0)) (0 + 4 * 1) 4 (g 1)) 0 4 = g 0
    rw [ld_far (by omega)]
    exact ld_st hg
theorem c0_second {g : Nat → Int} (hg : W32 (g 1)) : ldB (c0 g 2).f 4 4 = g 1 := by
  show ldB (stB (stB (fun _ => 0) (0 + 4 * 0) 4 (g 0)) (0 + 4 * 1) 4 (g 1)) 4 4 = g 1
  exact ld_st hg
/-- A step at a word that lies at the PC. -/
theorem step_word {m : MS} {x : A7.XI} (hx : A7.XB x) (hm : x.may = true) (hs : m.sk = 0) (hp : 0 ≤ m.pil) (ht : thE m.sz m.pc 4 = 0) (hw : ldB m.f m.pc.toNat 4 = x.word) :
    mstep m 0 = mExec m x.o x.d x.n (m.get x.s) (if x.b then x.n % 4294967296 else m.get x.t) ∧ I2.dO (ldB m.f m.pc.toNat 4) = x.o := by
  have e : x.word = I2.enc x.o x.d x.s x.t x.b x.n := I2.eW_yes hm
  obtain ⟨d1, d2, d3, d4, d5, d6, d7⟩ := I2.back_enc hx.o hx.d hx.s hx.t hm
  rw [hw, e]
  refine ⟨?_, d2⟩
  unfold mstep
  rw [if_neg (by simpa using hs), if_neg (by omega), if_pos ht, hw, e]
  unfold mWord
  rw [d1, d2, d3, d4, d5, d6, d7]
  rfl
theorem or_sum (u : Int) (hu : W32 u) : bits .or .u32 (u / 2048 * 2048) (u % 2048) = u := by
  rw [I2.or_add 11 2048 _ _ rfl ⟨by have := hu.1; omega, by have := hu.2; omega⟩ (by omega) ⟨by omega, by omega⟩ (by have := hu.2; omega)]
  omega
theorem setR_two (n win bank rd a b : Int) (R : Nat → Int) : F3.setR (F3.setR R n win bank rd a) n win bank rd b = F3.setR R n win bank rd b := by
  unfold F3.setR
  split
  · rfl
  · funext j; unfold F3.upd; split <;> rfl
theorem setR_zero (n win bank : Int) (R : Nat → Int) (v : Int) (h : R = fun _ => 0) (rd : Int) : F3.setR R n win bank rd 0 = R := by
  subst h
  unfold F3.setR
  split
  · rfl
  · funext j; unfold F3.upd; split <;> rfl
section
variable {rd u : Int} (hr : 0 ≤ rd ∧ rd ≤ 31) (hu : W32 u)
include hr hu
theorem word_w (i : Nat) : W32 (A7.cX rd u i).word := by
  have hx := A7.cX_b rd u i ⟨hr.1, by omega⟩ hu
  exact I2.eW_bd hx.o hx.d hx.s hx.t
theorem may_c (i : Nat) : (A7.cX rd u i).may = true := by rw [A7.cX_may rd u i ⟨hr.1, by omega⟩ hu]; exact decide_eq_true hr.2
/-- One instruction is enough. -/
theorem const_one (hk : A7.cK u = 1) : mstep (c0 (fun i => (A7.cX rd u i).word) 1) 0 = cF (fun i => (A7.cX rd u i).word) 1 rd u ∧ (I2.dO (ldB (c0 (fun i => (A7.cX rd u i).word) 1).f 0 4) = 1 ∨ I2.dO (ldB (c0 (fun i => (A7.cX rd u i).word) 1).f 0 4) = 15) := by
  have hx := A7.cX_b rd u 0 ⟨hr.1, by omega⟩ hu
  obtain ⟨S, D⟩ := step_word (m := c0 (fun i => (A7.cX rd u i).word) 1) hx (may_c hr hu 0) rfl (Int.le_refl _) (show thE ((64 : Nat) : Int) 0 4 = 0 by decide) (c0_first (word_w hr hu 0) (.inl rfl))
  change I2.dO (ldB (c0 (fun i => (A7.cX rd u i).word) 1).f 0 4) = (A7.cX rd u 0).o at D
  rw [S, D]
  generalize hg : (fun i => (A7.cX rd u i).word) = g
  have hu' := hu
  obtain ⟨hu0, hu1⟩ := hu'
  by_cases hs : A7.small u = true
  · have e : A7.cX rd u 0 = ⟨1, rd, 0, 0, true, A7.sgn u⟩ := by unfold A7.cX; rw [if_pos hs]
    rw [e]
    refine ⟨?_, .inl rfl⟩
    have hv : A7.sgn u % 4294967296 = u := by unfold A7.sgn; split <;> omega
    have hd : ((0 : Int) + u) % 4294967296 = u := by omega
    show mAlu (c0 g 1) 1 rd 0 (A7.sgn u % 4294967296) = _
    rw [hv]
    show ((c0 g 1).set rd ((0 + u) % 4294967296)).on = _
    rw [hd]
    rfl
  · have hs' : A7.small u = false := by simpa using hs
    have hz : u % 2048 = 0 := by
      unfold A7.cK at hk; rw [hs'] at hk
      by_cases h : u % 2048 = 0
      · exact h
      · rw [if_neg h] at hk; cases hk
    have e : A7.cX rd u 0 = ⟨15, rd, 0, 0, true, u / 2048⟩ := by unfold A7.cX; rw [hs']; rfl
    rw [e]
    refine ⟨?_, .inr rfl⟩
    have hd : u / 2048 % 4294967296 * 2048 % 4294967296 = u := by omega
    show ((c0 g 1).set rd (u / 2048 % 4294967296 * 2048 % 4294967296)).on = _
    rw [hd]
    rfl
/-- .. or two are. -/
theorem const_two (hk : A7.cK u = 2) : ∃ m, mstep (c0 (fun i => (A7.cX rd u i).word) 2) 0 = m ∧ mstep m 0 = cF (fun i => (A7.cX rd u i).word) 2 rd u ∧ I2.dO (ldB (c0 (fun i => (A7.cX rd u i).word) 2).f 0 4) = 15 ∧ I2.dO (ldB m.f m.pc.toNat 4) = 7 ∧ m.sk = 0 ∧ m.sv = 0 ∧ m.ol = 0 := by
  have hu' := hu
  obtain ⟨hu0, hu1⟩ := hu'
  have hs' : A7.small u = false := by
    cases h : A7.small u
    · rfl
    · unfold A7.cK at hk; rw [h] at hk; cases hk
  have e0 : A7.cX rd u 0 = ⟨15, rd, 0, 0, true, u / 2048⟩ := by unfold A7.cX; rw [hs']; rfl
  have e1 : A7.cX rd u 1 = ⟨7, rd, rd, 0, true, u % 2048⟩ := by unfold A7.cX; rw [hs']; rfl
  have hx0 := A7.cX_b rd u 0 ⟨hr.1, by omega⟩ hu
  have hx1 := A7.cX_b rd u 1 ⟨hr.1, by omega⟩ hu
  obtain ⟨S, D⟩ := step_word (m := c0 (fun i => (A7.cX rd u i).word) 2) hx0 (may_c hr hu 0) rfl (Int.le_refl _) (show thE ((64 : Nat) : Int) 0 4 = 0 by decide) (c0_first (word_w hr hu 0) (.inr rfl))
  have hd : u / 2048 % 4294967296 * 2048 % 4294967296 = u / 2048 * 2048 := by omega
  have S' : mstep (c0 (fun i => (A7.cX rd u i).word) 2) 0 = { c0 (fun i => (A7.cX rd u i).word) 2 with R := F3.setR (fun _ => 0) 2 0 0 rd (u / 2048 * 2048), pc := 4 } := by
    rw [S, e0]
    show ((c0 (fun i => (A7.cX rd u i).word) 2).set rd (u / 2048 % 4294967296 * 2048 % 4294967296)).on = _
    rw [hd]
    rfl
  refine ⟨_, S', ?_, D.trans (by rw [e0]), ?_, rfl, rfl, rfl⟩
  · obtain ⟨S2, D2⟩ := step_word (m := { c0 (fun i => (A7.cX rd u i).word) 2 with R := F3.setR (fun _ => 0) 2 0 0 rd (u / 2048 * 2048), pc := 4 }) hx1 (may_c hr hu 1) rfl (Int.le_refl _) (show thE ((64 : Nat) : Int) 4 4 = 0 by decide) (c0_second (word_w hr hu 1))
    rw [S2, e1]
    have hm : u % 2048 % 4294967296 = u % 2048 := by omega
    have hz : ¬ rd = 0 → F3.setR (fun _ => 0) 2 0 0 rd (u / 2048 * 2048) (F3.loc 2 0 0 rd) = u / 2048 * 2048 := fun h => by
      unfold F3.setR; rw [if_neg h]; unfold F3.upd; rw [if_pos rfl]
    show ((MS.set { c0 (fun i => (A7.cX rd u i).word) 2 with R := F3.setR (fun _ => 0) 2 0 0 rd (u / 2048 * 2048), pc := 4 } rd (bits .or .u32 (F3.setR (fun _ => 0) 2 0 0 rd (u / 2048 * 2048) (F3.loc 2 0 0 rd)) (u % 2048 % 4294967296)))).on = _
    rw [hm]
    have hR : F3.setR (F3.setR (fun _ => 0) 2 0 0 rd (u / 2048 * 2048)) 2 0 0 rd (bits .or .u32 (F3.setR (fun _ => 0) 2 0 0 rd (u / 2048 * 2048) (F3.loc 2 0 0 rd)) (u % 2048)) = F3.setR (fun _ => 0) 2 0 0 rd u := by
      rw [setR_two]
      by_cases h : rd = 0
      · unfold F3.setR; rw [if_pos h, if_pos h]
      · rw [hz h, or_sum u hu]
    show MS.on { c0 (fun i => (A7.cX rd u i).word) 2 with R := F3.setR (F3.setR (fun _ => 0) 2 0 0 rd (u / 2048 * 2048)) 2 0 0 rd (bits .or .u32 (F3.setR (fun _ => 0) 2 0 0 rd (u / 2048 * 2048) (F3.loc 2 0 0 rd)) (u % 2048)), pc := 4 } = _
    rw [hR]
    rfl
  · obtain ⟨S2, D2⟩ := step_word (m := { c0 (fun i => (A7.cX rd u i).word) 2 with R := F3.setR (fun _ => 0) 2 0 0 rd (u / 2048 * 2048), pc := 4 }) hx1 (may_c hr hu 1) rfl (Int.le_refl _) (show thE ((64 : Nat) : Int) 4 4 = 0 by decide) (c0_second (word_w hr hu 1))
    exact D2.trans (by rw [e1])
end
/-- What the law reads. -/
theorem cF_get (g : Nat → Int) (k : Nat) (rd u : Int) (r : Nat) (hr : 0 ≤ rd ∧ rd ≤ 31) (h : r < 32) : (cF g k rd u).R (F3.loc 2 0 0 r) = if (r : Int) = rd ∧ 0 < r then u else 0 := by
  show F3.setR (fun _ => 0) 2 0 0 rd u (F3.loc 2 0 0 r) = _
  unfold F3.setR
  by_cases h0 : rd = 0
  · rw [if_pos h0, if_neg (by omega)]
  · rw [if_neg h0]
    unfold F3.upd
    by_cases e : (r : Int) = rd
    · subst e
      rw [if_pos rfl, if_pos ⟨rfl, by omega⟩]
    · have hl : F3.loc 2 0 0 r ≠ F3.loc 2 0 0 rd := by
        unfold F3.loc
        split <;> split <;> (try split) <;> (try split) <;> (try split) <;> omega
      rw [if_neg hl, if_neg (fun h => e h.1)]
end Go.Proofs.YtbkhhfffgmappaaGreatDoor.K6
namespace Go.Proofs.YtbkhhfffgmappaaGreatDoor.K6
open Go.RowKit
set_option linter.unusedVariables false
def iSave : A7.XI := ⟨20, 16, 8, 0, true, 3⟩
def iRest : A7.XI := ⟨21, 0, 0, 0, false, 0⟩
theorem save_b : A7.XB iSave := ⟨by decide, by decide, by decide, by decide, by decide⟩
theorem rest_b : A7.XB iRest := ⟨by decide, by decide, by decide, by decide, by decide⟩
theorem save_may : iSave.may = true := by kernel_rfl
theorem rest_may : iRest.may = true := by kernel_rfl
/-- The word at place i. -/
def tg (deep i : Nat) : Int := if i < deep then iSave.word else iRest.word
theorem tg_w (deep i : Nat) : W32 (tg deep i) := by
  unfold tg
  split
  · exact I2.eW_bd save_b.o save_b.d save_b.s save_b.t
  · exact I2.eW_bd rest_b.o rest_b.d rest_b.s rest_b.t
theorem ld_pt (f g : Nat → Int) (hg : ∀ i, W32 (g i)) : ∀ k i, i < k → ldB (ptB f 0 g k) (4 * i) 4 = g i
  | 0, i, h => absurd h (Nat.not_lt_zero _)
  | k + 1, i, h => by
    show ldB (stB (ptB f 0 g k) (0 + 4 * k) 4 (g k)) (4 * i) 4 = g i
    by_cases e : i = k
    · subst e
      have : 0 + 4 * i = 4 * i := by omega
      rw [this]
      exact ld_st (hg i)
    · rw [ld_far (by omega)]
      exact ld_pt f g hg k i (by omega)
/-- The window at place i. -/
def cw (n : Int) (deep i : Nat) : Int := if (if i ≤ deep then i else 2 * deep - i) = 0 then 0 else n - ((if i ≤ deep then i else 2 * deep - i : Nat) : Int)
structure TS (n : Int) (deep : Nat) (R1 : Nat → Int) (i : Nat) (m : MS) : Prop where
  nw : m.nw = n
  sz : m.sz = 1024
  f : m.f = ptB (fun _ => 0) 0 (tg deep) (2 * deep)
  pc : m.pc = 4 * i
  cwp : m.cwp = cw n deep i
  pil : m.pil = 0
  bank : m.bank = 0
  wim : m.wim = 2
  sk : m.sk = 0
  sv : m.sv = 0
  ol : m.ol = 0
  R : ∀ j, j < 16 → m.R j = R1 j
theorem wim_two {n : Int} (h : 3 ≤ n) : wx 2 n = some 1 := by
  have := wx_pw (x := 1) (n := n) (by omega)
  exact this
theorem back_mod {n e : Int} (h0 : 0 < e) (h1 : e < n) : (n - e + n - 1) % n = n - e - 1 := by
  have : n - e + n - 1 = n - e - 1 + n := by omega
  rw [this, Int.add_emod_right, Int.emod_eq_of_lt (by omega) (by omega)]
theorem fwd_mod {n e : Int} (h0 : 1 < e) (h1 : e < n) : (n - e + 1) % n = n - e + 1 := Int.emod_eq_of_lt (by omega) (by omega)
theorem loc_l0 (n c : Int) : F3.loc n c 0 16 = (16 * c).toNat := by
  rw [F3.loc_own (by decide)]
  congr 1
  omega
theorem ts_step {n : Int} {deep i : Nat} {R1 : Nat → Int} {m : MS} (hn : 3 ≤ n) (hn' : n ≤ 32) (hd : (deep : Int) + 2 ≤ n) (h : TS n deep R1 i m) (hi : i < 2 * deep) :
    TS n deep R1 (i + 1) (mstep m 0) ∧ (i < deep → (mstep m 0).get 16 = (m.get 8 + 3) % 4294967296) := by
  have hpc : m.pc.toNat = 4 * i := by rw [h.pc]; omega
  have ht : thE m.sz m.pc 4 = 0 := by
    rw [h.sz, h.pc]
    have := th_small (k := i) (by omega)
    have e : (((4 * i : Nat)) : Int) = 4 * (i : Int) := by omega
    rw [e] at this
    exact this
  have hw : ldB m.f m.pc.toNat 4 = tg deep i := by rw [hpc, h.f]; exact ld_pt _ _ (tg_w deep) _ _ hi
  have hwx : wx m.wim m.nw = some 1 := by rw [h.wim, h.nw]; exact wim_two hn
  have npc : (m.pc + 4) % 4294967296 = 4 * ((i + 1 : Nat) : Int) := by rw [h.pc]; omega
  by_cases hlt : i < deep
  · have hw' : ldB m.f m.pc.toNat 4 = iSave.word := by rw [hw]; unfold tg; rw [if_pos hlt]
    obtain ⟨S, _⟩ := step_word save_b save_may h.sk (by rw [h.pil]; exact Int.le_refl _) ht hw'
    have hc : (m.cwp + m.nw - 1) % m.nw = n - ((i + 1 : Nat) : Int) := by
      rw [h.cwp, h.nw]
      unfold cw
      rw [if_pos (by omega : i ≤ deep)]
      by_cases h0 : i = 0
      · subst h0
        simp only [if_true]
        rw [Int.emod_eq_of_lt (by omega) (by omega)]
        omega
      · rw [if_neg h0]
        rw [back_mod (by omega) (by omega)]
        omega
    have E : mstep m 0 = ((m.win (n - ((i + 1 : Nat) : Int))).set 16 ((m.get 8 + 3) % 4294967296)).on := by
      rw [S]
      show (if wx m.wim m.nw = some ((m.cwp + m.nw - 1) % m.nw).toNat then m.wnd 1 m.pc else ((m.win ((m.cwp + m.nw - 1) % m.nw)).set 16 ((m.get 8 + 3 % 4294967296) % 4294967296)).on) = _
      rw [hc, hwx, if_neg (by intro e; injection e with e; omega)]
      rfl
    rw [E]
    have hb := h.bank
    refine ⟨⟨h.nw, h.sz, h.f, npc, ?_, h.pil, h.bank, h.wim, h.sk, h.sv, h.ol, fun j hj => ?_⟩, fun _ => ?_⟩
    · show n - ((i + 1 : Nat) : Int) = cw n deep (i + 1)
      unfold cw
      rw [if_pos (by omega : i + 1 ≤ deep), if_neg (by omega)]
    · show F3.setR m.R m.nw (n - ((i + 1 : Nat) : Int)) m.bank 16 ((m.get 8 + 3) % 4294967296) j = R1 j
      rw [hb]
      unfold F3.setR F3.upd
      rw [if_neg (by decide), loc_l0, if_neg (by omega)]
      exact h.R j hj
    · show F3.setR m.R m.nw (n - ((i + 1 : Nat) : Int)) m.bank 16 ((m.get 8 + 3) % 4294967296) (F3.loc m.nw (n - ((i + 1 : Nat) : Int)) m.bank 16) = _
      unfold F3.setR F3.upd
      rw [if_neg (by decide), if_pos rfl]
  · have hw' : ldB m.f m.pc.toNat 4 = iRest.word := by rw [hw]; unfold tg; rw [if_neg hlt]
    obtain ⟨S, _⟩ := step_word rest_b rest_may h.sk (by rw [h.pil]; exact Int.le_refl _) ht hw'
    have hc : (m.cwp + 1) % m.nw = cw n deep (i + 1) ∧ (cw n deep (i + 1)).toNat ≠ 1 := by
      have hcw : m.cwp = n - ((2 * deep - i : Nat) : Int) := by
        rw [h.cwp]
        unfold cw
        by_cases e : i ≤ deep
        · rw [if_pos e, if_neg (by omega)]; omega
        · rw [if_neg e, if_neg (by omega)]
      have hcx : cw n deep (i + 1) = if 2 * deep - (i + 1) = 0 then 0 else n - ((2 * deep - (i + 1) : Nat) : Int) := by
        unfold cw
        rw [if_neg (by omega : ¬ i + 1 ≤ deep)]
      rw [hcx, hcw, h.nw]
      by_cases h1 : 2 * deep - (i + 1) = 0
      · rw [if_pos h1]
        have e : n - ((2 * deep - i : Nat) : Int) + 1 = n := by omega
        rw [e, Int.emod_self]
        exact ⟨rfl, by decide⟩
      · rw [if_neg h1, fwd_mod (by omega) (by omega)]
        exact ⟨by omega, by omega⟩
    have E : mstep m 0 = (m.win (cw n deep (i + 1))).on := by
      rw [S]
      show (if wx m.wim m.nw = some ((m.cwp + 1) % m.nw).toNat then m.wnd 2 m.pc else ((m.win ((m.cwp + 1) % m.nw)).set 0 ((m.get 0 + m.get 0) % 4294967296)).on) = _
      rw [hc.1, hwx, if_neg (by intro e; injection e with e; exact hc.2 e.symm)]
      rfl
    rw [E]
    exact ⟨⟨h.nw, h.sz, h.f, npc, rfl, h.pil, h.bank, h.wim, h.sk, h.sv, h.ol, h.R⟩, fun hh => absurd hh hlt⟩
end Go.Proofs.YtbkhhfffgmappaaGreatDoor.K6
namespace Go.Proofs.YtbkhhfffgmappaaGreatDoor.K6
open Go.RowKit
set_option linter.unusedVariables false
section
variable {w : World} {b fb mb g x : Nat} {cs os : Value} {G : Nat → Prop} {m : MS}
theorem set_00 (h : MachP w b fb mb g x cs os G m) (hc : m.cwp = 0) (hb : m.bank = 0) (r v : Int) (h0 : 0 ≤ r) (h1 : r < 32) (hv : W32 v) :
    Calls Tryz.prog 38 #[.pointer (some ⟨fb, 0, none⟩), .int .i64 0, .int .i64 0, .int .i64 r, .int .u32 v] w fun e w' => e = .returned (.int .i64 0) ∧ MachP w' b fb mb g x cs os G (m.set r v) ∧ w.grownBy w' (some fb) := by
  have h2 := F3.set_at fb m.nw m.cwp m.bank r v m.R w h.file h.ok.n2 h.ok.n32 (h.ok.named h0 h1)
  rw [show (Value.int IntKind.i64 m.cwp) = Value.int IntKind.i64 0 by rw [hc], show (Value.int IntKind.i64 m.bank) = Value.int IntKind.i64 0 by rw [hb]] at h2
  exact h2.mono fun e w' ⟨e1, e2, e3⟩ => ⟨e1, h.filed e2 e3 (setR_w h.ok.R _ _ _ _ _ hv), e2⟩
/-- A register of the current window. -/
theorem get_cur (h : MachP w b fb mb g x cs os G m) (c : Int) (hc : m.cwp = c) (hb : m.bank = 0) (r : Int) (h0 : 0 ≤ r) (h1 : r < 32) :
    Calls Tryz.prog 40 #[.pointer (some ⟨fb, 0, none⟩), .int .i64 c, .int .i64 0, .int .i64 r] w fun e w' => e = .returned (.tuple #[.int .u32 (m.get r), .int .i64 0]) ∧ Below w.heap.size w w' := by
  have h2 := F3.get_at fb m.nw m.cwp m.bank r m.R w h.file h.ok.n2 h.ok.n32 (h.ok.named h0 h1)
  rw [show (Value.int IntKind.i64 m.cwp) = Value.int IntKind.i64 c by rw [hc], show (Value.int IntKind.i64 m.bank) = Value.int IntKind.i64 0 by rw [hb]] at h2
  exact h2
/-- A row of the window 0's own registers. -/
def WRow (R : Nat → Int) : Obj := .cells (F3.wl R).toArray 22 (0, 0)
theorem wrow_sl {sb : Nat} {R : Nat → Int} (h : w.heap[sb]? = some (WRow R)) : Sl .u32 w (.slice (some ⟨sb, 0, none⟩) 16 16) 16 R :=
  ⟨_, _, rfl, fun _ => ⟨_, 0, rfl, fun i hi => row_cell h (by simp [F3.wl, hi])⟩⟩
theorem window_0 (h : MachP w b fb mb g x cs os G m) :
    Calls Tryz.prog 29 #[.pointer (some ⟨fb, 0, none⟩), .int .i64 0] w fun e w' => ∃ sb, e = .returned (.tuple #[.slice (some ⟨sb, 0, none⟩) 16 16, .int .i64 0]) ∧ w'.heap[sb]? = some (WRow m.R) ∧ w.heap.size ≤ sb ∧ Below w.heap.size w w' := by
  refine (F3.window_at fb m.nw 0 m.R w h.file h.ok.n2 h.ok.n32 (Int.le_refl _) (by have := h.ok.n2; omega)).mono ?_
  rintro e w' ⟨rfl, gr, hrow⟩
  refine ⟨_, rfl, ?_, Nat.le_refl _, gr⟩
  have e : (fun i => m.R ((0 : Int).toNat * 16 + i)) = m.R := by funext i; congr 1; omega
  rw [e] at hrow
  exact hrow
theorem AllM.p {a w : World} {b : Nat} {G : Nat → Prop} {m : MS} (h : AllM a w [⟨b, G, m⟩]) : ∃ fb mb g x cs os, MachP w b fb mb g x cs os G m := h.at' 0 _ rfl
end
/-- The machine, its registers set, with the first words of the program. -/
def mt (n : Int) (R : Nat → Int) (deep k : Nat) : MS := { mnew n 1024 with R := R, f := ptB (fun _ => 0) 0 (tg deep) k }
theorem mt_start (n : Int) (R : Nat → Int) (deep : Nat) : TS n deep R 0 (mt n R deep (2 * deep)) := ⟨rfl, rfl, rfl, rfl, by unfold cw; simp; rfl, rfl, rfl, rfl, rfl, rfl, rfl, fun _ _ => rfl⟩
theorem psr_cwp (c p k f : Int) (W : World) : Sem.run Tryz.prog (Instr.field 24 (.agg #[.int .u8 c, .int .u8 p, .int .u8 k, .int .u8 f]) 0) W = .ok (.int .u8 c) W := by kernel_rfl
theorem psr_bank (c p k f : Int) (W : World) : Sem.run Tryz.prog (Instr.field 24 (.agg #[.int .u8 c, .int .u8 p, .int .u8 k, .int .u8 f]) 2) W = .ok (.int .u8 k) W := by kernel_rfl
theorem stop_kind' (k v : Int) (W : World) : Sem.run Tryz.prog (Instr.field 37 (.agg #[.int .u8 k, .int .u32 v]) 0) W = .ok (.int .u8 k) W := by kernel_rfl
theorem enc_x (x : A7.XI) (hx : A7.XB x) : ∃ er, ∀ W, Calls Tryz.prog 39 #[.agg #[.int .u8 x.o, .int .u8 x.d, .int .u8 x.s, .int .u8 x.t, .bool x.b, .int .i32 x.n]] W fun e w' => e = .returned (.tuple #[.int .u32 x.word, .int .i64 er]) ∧ Below W.heap.size W w' :=
  ⟨_, fun W => (I2.renc_any x.o x.d x.s x.t x.b x.n W hx.o hx.d hx.s hx.t hx.n).mono fun e w' hh => ⟨hh.1, hh.2.bel⟩⟩
theorem cw_b {n : Int} {deep i : Nat} (hn : 3 ≤ n) (hd : (deep : Int) + 2 ≤ n) : 0 ≤ cw n deep i ∧ cw n deep i < n := by
  unfold cw
  by_cases h : i ≤ deep
  · rw [if_pos h]; split <;> omega
  · rw [if_neg h]; split <;> omega
theorem cw_end (n : Int) (deep : Nat) : cw n deep (2 * deep) = 0 := by
  unfold cw
  by_cases h : 2 * deep ≤ deep
  · rw [if_pos h, if_pos (by omega)]
  · rw [if_neg h, if_pos (by omega)]
set_option maxHeartbeats 8000000 in
set_option maxRecDepth 20000 in
theorem turns_walk (a b u : Int) (w : World) (hT : Tabs w) (ha : 0 ≤ a ∧ a < 256) (hb : 0 ≤ b ∧ b < 256) (hu : W32 u) :
    Calls Tryz.prog 7 #[.int .u8 a, .int .u8 b, .int .u32 u] w fun e w' => e = .returned (.bool true) ∧ Below w.heap.size w w' := by
  obtain ⟨ha0, ha1⟩ := ha
  obtain ⟨hb0, hb1⟩ := hb
  have HT := Lib.hid hT
  have HU := Lib.hid hu
  have hst := stop_kind' 0 0
  clear hT hu
  go_enter Tryz.func7, Tryz.ntmps7
  go_upto_region 3 with (fail)
  obtain ⟨n, hn⟩ : ∃ n : Int, n = 3 + a % 30 := ⟨_, rfl⟩
  have hn3 : 3 ≤ n := by omega
  have hn32 : n ≤ 32 := by omega
  rw [← hn]
  obtain ⟨deep, hdeep⟩ : ∃ d : Nat, (d : Int) = b % (n - 1) := ⟨(b % (n - 1)).toNat, by rw [Int.toNat_of_nonneg (Int.emod_nonneg _ (by omega))]⟩
  have hd : (deep : Int) + 2 ≤ n := by have := Int.emod_lt_of_pos b (by omega : 0 < n - 1); omega
  rw [← hdeep]
  generalize a % 30 = a30 at *
  generalize n - 1 = n1 at *
  have hd30 : deep ≤ 30 := by omega
  clear hn hdeep
  go_wp2_with fail
  refine (New_at n 1024 w (by omega) hn32 ⟨by decide, by decide, by decide⟩ HT.out).mono ?_; rintro e w1 ⟨mbk, G, rfl, ⟨fb, mb, g, x, cs, os, P1⟩, g1, hG⟩
  have P1 := Lib.hid P1
  have B1 := Lib.hid g1
  have HG := Lib.hid hG
  clear g1 hG
  go_wp2_with fail
  refine (SetWim_yes 2 P1.out (by rw [show (mnew n 1024).nw = n from rfl, wim_two hn3]; rfl)).mono ?_; rintro e w2 ⟨rfl, P2, g2⟩
  have P2 : Hid (MachP w2 mbk fb mb g x cs os G (mt n (fun _ => 0) deep 0)) := P2
  have B2 := Lib.hid (only_bel B1.out g2 (HG.out _ P1.out.gb))
  clear P1 B1 g2
  go_wp2_with fail
  go_loopw [11] (fun i wr => ∃ (r : Nat) (R : Nat → Int), 8 ≤ r ∧ r ≤ 32 ∧ i = .int .i64 r ∧ MachP wr mbk fb mb g x cs os G (mt n R deep 0) ∧ Below w.heap.size w wr) (fun i _ => 32 - (intOf i).toNat)
  case atStart => exact ⟨8, _, by decide, by decide, rfl, P2.out, B2.out⟩
  case round =>
    obtain ⟨r, R, hr8, hr32, rfl, P3, B3⟩ := hrel
    have P3 := Lib.hid P3
    have B3 := Lib.hid B3
    clear P2 B2
    by_cases hlt : r < 32
    · have hw1 : IntKind.u32.wrap (r : Int) = r := IntWalk.u32_in _ (by omega)
      have HV : Hid (W32 ((u + r) % 4294967296)) := w32_mod _
      go_wp2_with fail
      refine (File_get P3.out).mono ?_; rintro e w4 ⟨rfl, rfl⟩
      go_wp2_with fail
      refine (set_00 P3.out rfl rfl r ((u + r) % 4294967296) (by omega) (by omega) HV.out).mono ?_; rintro e w4 ⟨rfl, P4, g4⟩
      have P4 : Hid (MachP w4 mbk fb mb g x cs os G (mt n (F3.setR R n 0 0 r ((u + r) % 4294967296)) deep 0)) := P4
      have B4 := Lib.hid (only_bel B3.out g4 (HG.out _ P3.out.gf))
      clear g4 P3 B3
      go_wp2_with fail
      exact ⟨⟨r + 1, _, by omega, by omega, by push_cast; rfl, P4.out, B4.out⟩, by simp [intOf]; omega⟩
    · obtain rfl : r = 32 := by omega
      go_wp2_with fail
      refine (File_get P3.out).mono ?_; rintro e w4 ⟨rfl, rfl⟩
      go_wp2_with fail
      refine (window_0 P3.out).mono ?_; rintro e w5 ⟨sb, rfl, S5, hsb, g5⟩
      have S5 := Lib.hid S5
      have P5 : Hid (MachP w5 mbk fb mb g x cs os G (mt n R deep 0)) := P3.out.bel g5
      have B5 := Lib.hid (bel_trans B3.out g5)
      have HS : Hid (∀ i, G i → i ≠ sb) := fun i hi e => by have := P3.out.lt i hi; omega
      clear P3 B3 g5 hsb
      go_wp2_with fail
      go_loopw [14, 15] (fun at' i wr => ∃ k : Nat, k ≤ 2 * deep ∧ at' = .int .u32 (4 * (k : Int)) ∧ i = .int .i64 k ∧ MachP wr mbk fb mb g x cs os G (mt n R deep k) ∧ Below w.heap.size w wr ∧ wr.heap[sb]? = some (WRow R)) (fun _ i _ => 2 * deep - (intOf i).toNat)
      case atStart => exact ⟨0, Nat.zero_le _, rfl, rfl, P5.out, B5.out, S5.out⟩
      case round =>
        obtain ⟨k, hk, rfl, rfl, P6, B6, S6⟩ := hrel
        have P6 := Lib.hid P6
        have B6 := Lib.hid B6
        have S6 := Lib.hid S6
        clear P5 B5 S5
        by_cases hlt : k < 2 * deep
        · have hk60 : k < 60 := by omega
          have w4k : IntKind.u32.wrap (4 * (k : Int) + 4) = 4 * (k : Int) + 4 := IntWalk.u32_in _ (by omega)
          have HSt : Hid (∀ W, MachP W mbk fb mb g x cs os G (mt n R deep k) → Calls Tryz.prog 25 #[.pointer (some ⟨mb, 0, none⟩), .int .u32 (4 * (k : Int)), .int .i64 4, .int .u32 (tg deep k)] W fun e w' => e = .returned (.int .i64 0) ∧ MachP w' mbk fb mb g x cs os G (mt n R deep (k + 1)) ∧ W.grownBy w' (some g)) := fun W hW => by
            have h := stores_at (4 * k) 4 (tg deep k) hW (tg_w deep k) (th_small (by omega))
            have e : (((4 * k : Nat)) : Int) = 4 * (k : Int) := by omega
            rw [e] at h
            refine h.mono fun e w' ⟨h1, h2, h3⟩ => ⟨h1, ?_, h3⟩
            have e2 : (mt n R deep k).byt (stB (mt n R deep k).f (4 * k) 4 (tg deep k)) = mt n R deep (k + 1) := by
              show MS.mk _ _ _ _ _ _ _ _ _ _ _ _ _ _ _ _ _ _ = MS.mk _ _ _ _ _ _ _ _ _ _ _ _ _ _ _ _ _ _
              simp only [mt, mnew, ptB, Nat.zero_add]
            rw [e2] at h2
            exact h2
          obtain ⟨er1, HE1⟩ := enc_x iSave save_b
          obtain ⟨er2, HE2⟩ := enc_x iRest rest_b
          have HE1 := Lib.hid HE1
          have HE2 := Lib.hid HE2
          have hk2 : (k : Int) < 2 * (deep : Int) := by omega
          by_cases hlt2 : k < deep
          · have htg : tg deep k = iSave.word := if_pos hlt2
            rw [htg] at HSt
            have hk3 : (k : Int) < (deep : Int) := by omega
            go_wp2_with fail
            refine (HE1.out _).mono ?_; rintro e w7 ⟨rfl, g7⟩
            have gx := bel_trans ((Below.refl _ wr).alloc (Nat.le_refl _) _) g7
            have P7 := Lib.hid (P6.out.bel gx)
            have B7 := Lib.hid (bel_trans B6.out gx)
            have S7 := Lib.hid (bel_heap gx S6.out)
            generalize iSave.word = wd at *
            clear P6 B6 S6 gx g7 HE1 HE2 htg
            go_wp2_with fail
            refine (Mem_get P7.out).mono ?_; rintro e w8 ⟨rfl, rfl⟩
            go_wp2_with fail
            refine (HSt.out _ P7.out).mono ?_; rintro e w9 ⟨rfl, P9, g9⟩
            have P9 := Lib.hid P9
            have B9 := Lib.hid (only_bel B7.out g9 (HG.out _ P7.out.gg))
            have S9 := Lib.hid (only_heap g9 (fun e => HS.out _ P7.out.gg e.symm) S7.out)
            clear P7 B7 S7 g9 HSt
            go_wp2_with fail
            go_roundw
            case rel => exact ⟨k + 1, by omega, by push_cast; go_num, by go_num, P9.out, B9.out, S9.out⟩
            case measure => simp [intOf]; omega
          · have htg : tg deep k = iRest.word := if_neg hlt2
            rw [htg] at HSt
            have hk3 : (deep : Int) ≤ (k : Int) := by omega
            go_wp2_with fail
            refine (HE2.out _).mono ?_; rintro e w7 ⟨rfl, g7⟩
            have gx := bel_trans ((Below.refl _ wr).alloc (Nat.le_refl _) _) g7
            have P7 := Lib.hid (P6.out.bel gx)
            have B7 := Lib.hid (bel_trans B6.out gx)
            have S7 := Lib.hid (bel_heap gx S6.out)
            generalize iRest.word = wd at *
            clear P6 B6 S6 gx g7 HE1 HE2 htg
            go_wp2_with fail
            refine (Mem_get P7.out).mono ?_; rintro e w8 ⟨rfl, rfl⟩
            go_wp2_with fail
            refine (HSt.out _ P7.out).mono ?_; rintro e w9 ⟨rfl, P9, g9⟩
            have P9 := Lib.hid P9
            have B9 := Lib.hid (only_bel B7.out g9 (HG.out _ P7.out.gg))
            have S9 := Lib.hid (only_heap g9 (fun e => HS.out _ P7.out.gg e.symm) S7.out)
            clear P7 B7 S7 g9 HSt
            go_wp2_with fail
            go_roundw
            case rel => exact ⟨k + 1, by omega, by push_cast; go_num, by go_num, P9.out, B9.out, S9.out⟩
            case measure => simp [intOf]; omega
        · have hnl : ¬ (k : Int) < 2 * (deep : Int) := by omega
          have HD : Hid (k = 2 * deep) := by unfold Hid; omega
          have P6' : MachP wr mbk fb mb g x cs os G (mt n R deep (2 * deep)) := by have := P6.out; rw [HD.out] at this; exact this
          have A6 : Hid (AllM w wr [⟨mbk, G, mt n R deep (2 * deep)⟩]) := (AllM.none HT.out).add B6.out P6'.b HG.out
          have X6 : Hid (Spect wr [⟨mbk, G, mt n R deep (2 * deep)⟩] sb (WRow R)) := ⟨S6.out, fun j e hj hx => by
            cases j with
            | zero => simp at hj; subst hj; exact HS.out _ hx rfl
            | succ j => simp at hj⟩
          clear P6'
          generalize hwm : wr = wm at *
          clear hwm P6 B6 S6 HS HG hk hlt
          obtain ⟨D, rfl⟩ : ∃ D : Nat, D = k := ⟨k, rfl⟩
          go_wp2_with fail
          go_loopw [19] (fun i wr => ∃ (k : Nat) (m : MS) (G' : Nat → Prop), k ≤ 2 * deep ∧ i = .int .i64 k ∧ TS n deep R k m ∧ AllM w wr [⟨mbk, G', m⟩] ∧ Spect wr [⟨mbk, G', m⟩] sb (WRow R)) (fun i _ => 2 * deep - (intOf i).toNat)
          case atStart => exact ⟨0, _, _, Nat.zero_le _, rfl, mt_start n R deep, A6.out, X6.out⟩
          case round =>
            obtain ⟨k, m, G', hk, rfl, hTS, hA, hX⟩ := hrel
            have TS0 := Lib.hid hTS
            have A7' := Lib.hid hA
            have X7 := Lib.hid hX
            clear hTS hA hX A6 X6
            by_cases hlt : k < 2 * deep
            · have hk2 : (k : Int) < 2 * (deep : Int) := by omega
              obtain ⟨T1, T2⟩ := ts_step hn3 hn32 hd TS0.out hlt
              obtain ⟨m', hm'⟩ : ∃ m', mstep m 0 = m' := ⟨_, rfl⟩
              rw [hm'] at T1 T2
              have TS1 := Lib.hid T1
              have TG := Lib.hid T2
              have HM := Lib.hid hm'
              have hb0' := cw_b (i := k) hn3 hd
              have hb1' := cw_b (i := k + 1) hn3 hd
              obtain ⟨c, hc⟩ : ∃ c, c = cw n deep k := ⟨_, rfl⟩
              obtain ⟨c1, hc1⟩ : ∃ c, c = cw n deep (k + 1) := ⟨_, rfl⟩
              rw [← hc] at hb0'
              rw [← hc1] at hb1'
              have HC := Lib.hid hc
              have HC1 := Lib.hid hc1
              obtain ⟨c00, c01⟩ := hb0'
              obtain ⟨c10, c11⟩ := hb1'
              have hwc : IntKind.i64.wrap c = c := IntWalk.i64_in _ (by omega)
              have hwc1 : IntKind.i64.wrap c1 = c1 := IntWalk.i64_in _ (by omega)
              have hp0 := psr_cwp c 0 0 m.fl
              have hp1 := psr_bank c1 0 0 m'.fl
              have hp2 := psr_cwp c1 0 0 m'.fl
              obtain ⟨fb0, mb0, gg0, x0, cs0, os0, Pm⟩ := A7'.out.p
              clear T1 T2 hm' hc hc1
              by_cases hlt2 : k < deep
              · have hk3 : (k : Int) < (deep : Int) := by omega
                go_wp2_with fail
                refine (File_get Pm).mono ?_; rintro e W8 ⟨rfl, rfl⟩
                go_wp2_with fail
                refine (all_psr A7'.out (j := 0) rfl (TS0.out.cwp.trans HC.out.symm) TS0.out.pil TS0.out.bank rfl).mono ?_; rintro e w8 ⟨rfl, A8, g8⟩
                have A8 := Lib.hid A8
                have X8 := Lib.hid (X7.out.more g8)
                have P8 := Lib.hid (Pm.bel g8)
                clear Pm A7' X7 g8
                go_wp2_with fail
                refine (get_cur P8.out c (TS0.out.cwp.trans HC.out.symm) TS0.out.bank 8 (by decide) (by decide)).mono ?_; rintro e w9 ⟨rfl, g9⟩
                have A9 := Lib.hid (A8.out.more g9)
                have X9 := Lib.hid (X8.out.more g9)
                clear P8 A8 X8 g9
                generalize m.get 8 = ov at TG ⊢
                go_wp2_with fail
                refine (all_step (k := 0) (v := 0) 0 A9.out (j := 0) rfl (by decide) (by decide) (by rw [TS0.out.ol]; exact Nat.zero_le _) (fun _ _ _ => trivial) (by rw [HM.out]; exact TS1.out.sk) (by rw [HM.out]; exact TS1.out.sv)).mono ?_; rintro e w10 ⟨rfl, G1, A10, X10⟩
                rw [HM.out] at A10 X10
                have X10 : Hid (Spect w10 [⟨mbk, G1, m'⟩] sb (WRow R)) := X10 _ _ X9.out
                have A10 : Hid (AllM w w10 [⟨mbk, G1, m'⟩]) := A10
                clear A9 X9
                go_wp2_with fail
                refine (all_psr A10.out (j := 0) rfl (TS1.out.cwp.trans HC1.out.symm) TS1.out.pil TS1.out.bank rfl).mono ?_; rintro e w11 ⟨rfl, A11, g11⟩
                have A11 := Lib.hid A11
                have X11 := Lib.hid (X10.out.more g11)
                clear A10 X10 g11
                obtain ⟨fb1, mb1, gg1, x1, cs1, os1, P11⟩ := A11.out.p
                go_wp2_with fail
                refine (File_get P11).mono ?_; rintro e W12 ⟨rfl, rfl⟩
                go_wp2_with fail
                refine (all_psr A11.out (j := 0) rfl (TS1.out.cwp.trans HC1.out.symm) TS1.out.pil TS1.out.bank rfl).mono ?_; rintro e w12 ⟨rfl, A12, g12⟩
                have A12 := Lib.hid A12
                have X12 := Lib.hid (X11.out.more g12)
                have P12 := Lib.hid (P11.bel g12)
                clear P11 A11 X11 g12
                go_wp2_with fail
                refine (get_cur P12.out c1 (TS1.out.cwp.trans HC1.out.symm) TS1.out.bank 16 (by decide) (by decide)).mono ?_; rintro e w13 ⟨rfl, g13⟩
                have A13 := Lib.hid (A12.out.more g13)
                have X13 := Lib.hid (X12.out.more g13)
                clear P12 A12 X12 g13
                rw [TG.out (by assumption)]
                go_wp2_with fail
                go_roundw
                case rel => exact ⟨k + 1, m', G1, by omega, by go_num, TS1.out, A13.out, X13.out⟩
                case measure => simp [intOf]; omega
              · have hk3 : ¬ (k : Int) < (deep : Int) := by omega
                go_wp2_with fail
                refine (File_get Pm).mono ?_; rintro e W8 ⟨rfl, rfl⟩
                go_wp2_with fail
                refine (all_psr A7'.out (j := 0) rfl (TS0.out.cwp.trans HC.out.symm) TS0.out.pil TS0.out.bank rfl).mono ?_; rintro e w8 ⟨rfl, A8, g8⟩
                have A8 := Lib.hid A8
                have X8 := Lib.hid (X7.out.more g8)
                have P8 := Lib.hid (Pm.bel g8)
                clear Pm A7' X7 g8
                go_wp2_with fail
                refine (get_cur P8.out c (TS0.out.cwp.trans HC.out.symm) TS0.out.bank 8 (by decide) (by decide)).mono ?_; rintro e w9 ⟨rfl, g9⟩
                have A9 := Lib.hid (A8.out.more g9)
                have X9 := Lib.hid (X8.out.more g9)
                clear P8 A8 X8 g9
                generalize m.get 8 = ov at TG ⊢
                go_wp2_with fail
                refine (all_step (k := 0) (v := 0) 0 A9.out (j := 0) rfl (by decide) (by decide) (by rw [TS0.out.ol]; exact Nat.zero_le _) (fun _ _ _ => trivial) (by rw [HM.out]; exact TS1.out.sk) (by rw [HM.out]; exact TS1.out.sv)).mono ?_; rintro e w10 ⟨rfl, G1, A10, X10⟩
                rw [HM.out] at A10 X10
                have X10 : Hid (Spect w10 [⟨mbk, G1, m'⟩] sb (WRow R)) := X10 _ _ X9.out
                have A10 : Hid (AllM w w10 [⟨mbk, G1, m'⟩]) := A10
                clear A9 X9
                go_wp2_with fail
                refine (all_psr A10.out (j := 0) rfl (TS1.out.cwp.trans HC1.out.symm) TS1.out.pil TS1.out.bank rfl).mono ?_; rintro e w11 ⟨rfl, A11, g11⟩
                have A11 := Lib.hid A11
                have X11 := Lib.hid (X10.out.more g11)
                clear A10 X10 g11
                obtain ⟨fb1, mb1, gg1, x1, cs1, os1, P11⟩ := A11.out.p
                go_wp2_with fail
                refine (File_get P11).mono ?_; rintro e W12 ⟨rfl, rfl⟩
                go_wp2_with fail
                refine (all_psr A11.out (j := 0) rfl (TS1.out.cwp.trans HC1.out.symm) TS1.out.pil TS1.out.bank rfl).mono ?_; rintro e w12 ⟨rfl, A12, g12⟩
                have A12 := Lib.hid A12
                have X12 := Lib.hid (X11.out.more g12)
                have P12 := Lib.hid (P11.bel g12)
                clear P11 A11 X11 g12
                go_wp2_with fail
                refine (get_cur P12.out c1 (TS1.out.cwp.trans HC1.out.symm) TS1.out.bank 16 (by decide) (by decide)).mono ?_; rintro e w13 ⟨rfl, g13⟩
                have A13 := Lib.hid (A12.out.more g13)
                have X13 := Lib.hid (X12.out.more g13)
                clear P12 A12 X12 g13
                generalize m'.get 16 = lv
                go_wp2_with fail
                go_roundw
                case rel => exact ⟨k + 1, m', G1, by omega, by go_num, TS1.out, A13.out, X13.out⟩
                case measure => simp [intOf]; omega
            · obtain rfl : k = D := by have := HD.out; omega
              have TS0 : Hid (TS n deep R (2 * deep) m) := by have := TS0.out; rw [HD.out] at this; exact this
              have hpc : Hid (m.pc = 4 * (k : Int)) := by have := TS0.out.pc; rw [← HD.out] at this; exact this
              obtain ⟨fb0, mb0, gg0, x0, cs0, os0, Pm⟩ := A7'.out.p
              have hp0 := psr_cwp 0 0 0 m.fl
              go_wp2_with fail
              refine (File_get Pm).mono ?_; rintro e W8 ⟨rfl, rfl⟩
              go_wp2_with fail
              refine (window_0 Pm).mono ?_; rintro e w8 ⟨sb2, rfl, S8, _, g8⟩
              have A8 := Lib.hid (A7'.out.more g8)
              have X8 := Lib.hid (X7.out.more g8)
              have S8 := Lib.hid S8
              clear Pm A7' X7 g8
              go_wp2_with fail
              refine (all_psr A8.out (j := 0) rfl (TS0.out.cwp.trans (cw_end n deep)) TS0.out.pil TS0.out.bank rfl).mono ?_; rintro e w9 ⟨rfl, A9, g9⟩
              have A9 := Lib.hid A9
              have X9 := Lib.hid (X8.out.more g9)
              have S9 := Lib.hid (bel_heap g9 S8.out)
              clear A8 X8 S8 g9
              obtain ⟨fb1, mb1, gg1, x1, cs1, os1, P9⟩ := A9.out.p
              have HPC := PC_get P9
              rw [hpc.out] at HPC
              go_wp2_with fail
              refine HPC.mono ?_; rintro e W10 ⟨rfl, rfl⟩
              have A10 := A9
              clear HPC P9
              have HSame := Lib.hid (M5.words_same (.slice (some ⟨sb, 0, none⟩) 16 16) (.slice (some ⟨sb2, 0, none⟩) 16 16) 16 R m.R _ (by decide) (wrow_sl X9.out.1) (wrow_sl S9.out) (fun i hi => (TS0.out.R i hi).symm))
              go_wp2_with fail
              refine HSame.out.mono ?_; rintro e w11 ⟨rfl, g11⟩
              have A11 := Lib.hid (A10.out.more g11)
              clear HSame A9 A10 X9 S9 g11
              go_wp2_with fail
              refine (head_at _ A11.out.tab).mono ?_; rintro e w12 ⟨rfl, g12⟩
              have B12 := Lib.hid (bel_trans A11.out.bel g12)
              clear A11 g12
              go_wp2_with fail
              go_ret
              exact ⟨rfl, B12.out⟩
end Go.Proofs.YtbkhhfffgmappaaGreatDoor.K6
