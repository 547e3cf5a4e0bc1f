/- WindTurns' and WindBack's arithmetic (layer 8): what a machine comes to that does a handler of window traps. The handlers of window traps as wholes: what a SAVE, or a RESTORE, that traps comes to. -/
import Derived.Test.YtiobgnelhiadbaaGreatDoorXMachGC
import Derived.Test.YtiobgnelhiadbaaGreatDoorXWindG
namespace Go.Proofs.YtiobgnelhiadbaaGreatDoor.K6
open Go.RowKit W8
set_option linter.unusedVariables false
/-- The memory that made lays, as far as it is code. -/
structure WMem (nw : Int) (f : Nat → Int) : Prop where
  v1 : ldB f 272 4 = (sBr 124).word
  v2 : ldB f 288 4 = (sBr 146).word
  h : ∀ i, i < 54 → ldB f (768 + 4 * i) 4 = (gX (wL nw) i).word
theorem WMem.st {nw : Int} {f : Nat → Int} (h : WMem nw f) {a : Nat} (ha : 984 ≤ a) (v : Int) : WMem nw (stB f a 4 v) :=
  ⟨(ld_far (by omega)).trans h.v1, (ld_far (by omega)).trans h.v2, fun i hi => (ld_far (by omega)).trans (h.h i hi)⟩
theorem WMem.pt {nw : Int} {f : Nat → Int} (h : WMem nw f) {a : Nat} (ha : 984 ≤ a) (g : Nat → Int) : ∀ k, WMem nw (ptB f a g k)
  | 0 => h
  | k + 1 => (WMem.pt h ha g k).st (by omega) _
/-- Steps of a machine that do not come to a place, in the bank 0, and do not stop. -/
inductive Runs (t : Int) : Nat → MS → MS → Prop
  | last {m : MS} : (mstep m 0).sk = 0 → (mstep m 0).pc = t → (mstep m 0).bank = 0 → Runs t 1 m (mstep m 0)
  | more {m e : MS} {n : Nat} : (mstep m 0).sk = 0 → ¬ ((mstep m 0).pc = t ∧ (mstep m 0).bank = 0) → Runs t n (mstep m 0) e → Runs t (n + 1) m e
def Reach (t : Int) (m : MS) (n : Nat) (e : MS) : Prop := ∀ k e', Runs t k e e' → Runs t (k + n) m e'
theorem Reach.zero (t : Int) (m : MS) : Reach t m 0 m := fun _ _ h => h
theorem Reach.one {t : Int} {m : MS} (h : (mstep m 0).sk = 0) (hn : ¬ ((mstep m 0).pc = t ∧ (mstep m 0).bank = 0)) : Reach t m 1 (mstep m 0) := fun _ _ r => .more h hn r
theorem Reach.trans {t : Int} {m e e' : MS} {n k : Nat} (h : Reach t m n e) (h' : Reach t e k e') : Reach t m (k + n) e' := fun j x r => by
  have := h _ _ (h' j x r)
  rw [Nat.add_assoc] at this
  exact this
theorem th_w {sz : Nat} {a : Int} (h0 : 0 ≤ a) (h : a % 4 = 0) (h1 : a + 4 ≤ sz) : thE sz a 4 = 0 := by
  unfold thE; rw [if_neg (by omega), if_neg (by omega), if_neg (by omega)]
/-- A machine in a handler: registers but g1 to g3 of the bank 16 are R's, those are a, b, d. -/
structure Hd (m0 : MS) (c v pc : Int) (f R : Nat → Int) (a b d : Int) (m : MS) : Prop where
  nw : m.nw = m0.nw
  sz : m.sz = m0.sz
  sk : m.sk = 0
  ol : m.ol = m0.ol
  cl : m.cl = m0.cl
  pil : m.pil = m0.pil
  fl : m.fl = m0.fl
  cwp : m.cwp = c
  bank : m.bank = 16
  wim : m.wim = v
  pc : m.pc = pc
  f : m.f = f
  R : ∀ j, j ≠ 641 → j ≠ 642 → j ≠ 643 → m.R j = R j
  g1 : m.R 641 = a
  g2 : m.R 642 = b
  g3 : m.R 643 = d
  t1 : m.tpc 16 = m0.pc
  t2 : m.tps 16 = m0.pw
/-- What a machine has that may be in a handler. -/
structure W0 (m0 : MS) : Prop where
  n2 : 2 ≤ m0.nw
  n32 : m0.nw ≤ 32
  sz : m0.sz = 4096
  c0 : 0 ≤ m0.cwp
  c1 : m0.cwp < m0.nw
  p0 : 0 ≤ m0.pil
  p1 : m0.pil ≤ 15
  f0 : 0 ≤ m0.fl
  f1 : m0.fl ≤ 15
  sk : m0.sk = 0
  bank : m0.bank = 0
  g0 : m0.R 640 = 0
  RW : ∀ j, W32 (m0.R j)
  mem : WMem m0.nw m0.f
section
variable {m0 m : MS} {c v y : Int} {f R : Nat → Int} {a b d : Int} {i : Nat} {t : Int}
theorem Hd.get1 (h : Hd m0 c v y f R a b d m) : m.get 1 = a := by unfold MS.get; rw [h.bank, F3.loc_global (by decide)]; exact h.g1
theorem Hd.get2 (h : Hd m0 c v y f R a b d m) : m.get 2 = b := by unfold MS.get; rw [h.bank, F3.loc_global (by decide)]; exact h.g2
theorem Hd.get3 (h : Hd m0 c v y f R a b d m) : m.get 3 = d := by unfold MS.get; rw [h.bank, F3.loc_global (by decide)]; exact h.g3
theorem Hd.get0 (h : Hd m0 c v y f R a b d m) (h0 : R 640 = 0) : m.get 0 = 0 := by
  unfold MS.get; rw [h.bank, F3.loc_global (by decide)]
  show m.R 640 = 0
  rw [h.R 640 (by decide) (by decide) (by decide)]; exact h0
theorem onpc (i : Nat) (h : i < 54) : (768 + 4 * (i : Int) + 4) % 4294967296 = 768 + 4 * ((i + 1 : Nat) : Int) := by omega
theorem set_gR {m : MS} (hb : m.bank = 16) (r : Nat) (h0 : 1 ≤ r) (h1 : r < 8) (u : Int) : (m.set r u).R = F3.upd m.R (640 + r) u := by
  show F3.setR m.R m.nw m.cwp m.bank r u = _
  unfold F3.setR
  rw [if_neg (by omega), hb, F3.loc_global (by omega)]
  congr 1
theorem Hd.set1 (h : Hd m0 c v (768 + 4 * (i : Int)) f R a b d m) (hi : i < 54) (u : Int) : Hd m0 c v (768 + 4 * ((i + 1 : Nat) : Int)) f R u b d ((m.set 1 u).on) := by
  have e := set_gR h.bank 1 (by decide) (by decide) u
  refine { h with pc := ?_, R := fun j h1 h2 h3 => ?_, g1 := ?_, g2 := ?_, g3 := ?_ }
  · show (m.pc + 4) % 4294967296 = _; rw [h.pc]; exact onpc i hi
  · exact (congrFun e j).trans ((F3.upd_ne _ _ h1).trans (h.R j h1 h2 h3))
  · exact (congrFun e 641).trans (F3.upd_same _ _ _)
  · exact (congrFun e 642).trans ((F3.upd_ne _ _ (by decide)).trans h.g2)
  · exact (congrFun e 643).trans ((F3.upd_ne _ _ (by decide)).trans h.g3)
theorem Hd.set2 (h : Hd m0 c v (768 + 4 * (i : Int)) f R a b d m) (hi : i < 54) (u : Int) : Hd m0 c v (768 + 4 * ((i + 1 : Nat) : Int)) f R a u d ((m.set 2 u).on) := by
  have e := set_gR h.bank 2 (by decide) (by decide) u
  refine { h with pc := ?_, R := fun j h1 h2 h3 => ?_, g1 := ?_, g2 := ?_, g3 := ?_ }
  · show (m.pc + 4) % 4294967296 = _; rw [h.pc]; exact onpc i hi
  · exact (congrFun e j).trans ((F3.upd_ne _ _ h2).trans (h.R j h1 h2 h3))
  · exact (congrFun e 641).trans ((F3.upd_ne _ _ (by decide)).trans h.g1)
  · exact (congrFun e 642).trans (F3.upd_same _ _ _)
  · exact (congrFun e 643).trans ((F3.upd_ne _ _ (by decide)).trans h.g3)
theorem Hd.set3 (h : Hd m0 c v (768 + 4 * (i : Int)) f R a b d m) (hi : i < 54) (u : Int) : Hd m0 c v (768 + 4 * ((i + 1 : Nat) : Int)) f R a b u ((m.set 3 u).on) := by
  have e := set_gR h.bank 3 (by decide) (by decide) u
  refine { h with pc := ?_, R := fun j h1 h2 h3 => ?_, g1 := ?_, g2 := ?_, g3 := ?_ }
  · show (m.pc + 4) % 4294967296 = _; rw [h.pc]; exact onpc i hi
  · exact (congrFun e j).trans ((F3.upd_ne _ _ h3).trans (h.R j h1 h2 h3))
  · exact (congrFun e 641).trans ((F3.upd_ne _ _ (by decide)).trans h.g1)
  · exact (congrFun e 642).trans ((F3.upd_ne _ _ (by decide)).trans h.g2)
  · exact (congrFun e 643).trans (F3.upd_same _ _ _)
theorem Hd.reach (h : Hd m0 c v y f R a b d (mstep m 0)) : Reach t m 1 (mstep m 0) := .one h.sk fun hh => by have := h.bank; rw [hh.2] at this; cases this
/-- What lies at a place of the handlers is done. -/
theorem Hd.at (h : Hd m0 c v (768 + 4 * (i : Int)) f R a b d m) (H : W0 m0) (hM : WMem m0.nw f) (hi : i < 54) {x : A7.XI} (hx : gX (wL m0.nw) i = x) :
    mstep m 0 = mExec m x.o x.d x.n (m.get x.s) (if x.b then x.n % 4294967296 else m.get x.t) := by
  have hmem : x ∈ wL m0.nw := by rw [← hx]; exact gX_mem (by rw [wL_len]; exact hi)
  refine (step_word (wL_b H.n2 H.n32 x hmem) (wL_may H.n2 H.n32 x hmem) h.sk (by rw [h.pil]; exact H.p0) ?_ ?_).1
  · rw [h.sz, H.sz, h.pc]; exact th_w (by omega) (by omega) (by omega)
  · rw [h.pc, show (768 + 4 * (i : Int)).toNat = 768 + 4 * i by omega, h.f, hM.h i hi, hx]
theorem Hd.rd (h : Hd m0 c v (768 + 4 * (i : Int)) f R a b d m) (H : W0 m0) (hM : WMem m0.nw f) (hi : i < 54) (hx : gX (wL m0.nw) i = sRd) : Hd m0 c v (768 + 4 * ((i + 1 : Nat) : Int)) f R (P4.pword c m0.pil 16 m0.fl) b d (mstep m 0) := by
  rw [h.at H hM hi hx]
  have e : m.pw = P4.pword c m0.pil 16 m0.fl := by unfold MS.pw; rw [h.cwp, h.pil, h.bank, h.fl]
  show Hd m0 c v _ f R _ b d ((m.set 1 m.pw).on)
  rw [e]
  exact h.set1 hi _
theorem Hd.an (h : Hd m0 c v (768 + 4 * (i : Int)) f R a b d m) (H : W0 m0) (hM : WMem m0.nw f) (hi : i < 54) (hx : gX (wL m0.nw) i = sAn) (ha : W32 a) : Hd m0 c v (768 + 4 * ((i + 1 : Nat) : Int)) f R a (a % 32) d (mstep m 0) := by
  rw [h.at H hM hi hx]
  show Hd m0 c v _ f R a _ d ((m.set 2 (bits .and .u32 (m.get 1) 31)).on)
  rw [h.get1, I2.and_5 a ha]
  exact h.set2 hi _
theorem Hd.sb (h : Hd m0 c v (768 + 4 * (i : Int)) f R a b d m) (H : W0 m0) (hM : WMem m0.nw f) (hi : i < 54) (hx : gX (wL m0.nw) i = sSb) : Hd m0 c v (768 + 4 * ((i + 1 : Nat) : Int)) f R ((a - b) % 4294967296) b d (mstep m 0) := by
  rw [h.at H hM hi hx]
  show Hd m0 c v _ f R _ b d ((m.set 1 ((m.get 1 - m.get 2) % 4294967296)).on)
  rw [h.get1, h.get2]
  exact h.set1 hi _
theorem Hd.go (h : Hd m0 c v (768 + 4 * (i : Int)) f R a b d m) (H : W0 m0) (hM : WMem m0.nw f) (hi : i < 54) {k : Int} (hx : gX (wL m0.nw) i = sGo k) (hk : 0 ≤ k ∧ k ≤ 32) (hb : 0 ≤ b ∧ b ≤ 100) : Hd m0 c v (768 + 4 * ((i + 1 : Nat) : Int)) f R a (b + k) d (mstep m 0) := by
  rw [h.at H hM hi hx]
  show Hd m0 c v _ f R a _ d ((m.set 2 ((m.get 2 + k % 4294967296) % 4294967296)).on)
  rw [h.get2, show (b + k % 4294967296) % 4294967296 = b + k by omega]
  exact h.set2 hi _
theorem Hd.en (h : Hd m0 c v (768 + 4 * (i : Int)) f R a b d m) (H : W0 m0) (hM : WMem m0.nw f) (hi : i < 54) (hx : gX (wL m0.nw) i = sEn) (ha : a = P4.pword 0 m0.pil 16 m0.fl) (hb : 0 ≤ b ∧ b < m0.nw) : Hd m0 b v (768 + 4 * ((i + 1 : Nat) : Int)) f R a b d (mstep m 0) := by
  have n2 := H.n2
  have n32 := H.n32
  have p0 := H.p0
  have p1 := H.p1
  have f0 := H.f0
  have f1 := H.f1
  rw [h.at H hM hi hx]
  show Hd m0 b v _ f R a b d (if wst ((m.get 1 + m.get 2) % 4294967296) m.nw then (m.psr ((m.get 1 + m.get 2) % 4294967296)).on else m.stp 3 0)
  have e : (m.get 1 + m.get 2) % 4294967296 = P4.pword b m0.pil 16 m0.fl := by rw [h.get1, h.get2, ha]; unfold P4.pword; omega
  have hw : wst (P4.pword b m0.pil 16 m0.fl) m.nw = true := by
    rw [h.nw]
    unfold wst P4.pword
    exact decide_eq_true (by omega)
  rw [e, if_pos hw]
  refine { h with cwp := ?_, pil := ?_, bank := ?_, fl := ?_, pc := ?_ }
  · show P4.pword b m0.pil 16 m0.fl / 32 % 16 = m0.pil; unfold P4.pword; omega
  · show P4.pword b m0.pil 16 m0.fl / 16384 % 16 = m0.fl; unfold P4.pword; omega
  · show P4.pword b m0.pil 16 m0.fl % 32 = b; unfold P4.pword; omega
  · show P4.pword b m0.pil 16 m0.fl / 512 % 32 = 16; unfold P4.pword; omega
  · show (m.pc + 4) % 4294967296 = _; rw [h.pc]; exact onpc i hi
theorem Hd.on (h : Hd m0 c v (768 + 4 * (i : Int)) f R a b d m) (H : W0 m0) (hM : WMem m0.nw f) (hi : i < 54) (hx : gX (wL m0.nw) i = sOn) (h0 : R 640 = 0) : Hd m0 c v (768 + 4 * ((i + 1 : Nat) : Int)) f R a b 1 (mstep m 0) := by
  rw [h.at H hM hi hx]
  show Hd m0 c v _ f R a b _ ((m.set 3 ((m.get 0 + 1) % 4294967296)).on)
  rw [h.get0 h0]
  exact h.set3 hi _
theorem Hd.in (h : Hd m0 c v (768 + 4 * (i : Int)) f R a b d m) (H : W0 m0) (hM : WMem m0.nw f) (hi : i < 54) (hx : gX (wL m0.nw) i = sIn) {l : Nat} (hd : d = P4.pw l) (hl : (l : Int) < m0.nw) : Hd m0 c d (768 + 4 * ((i + 1 : Nat) : Int)) f R a b d (mstep m 0) := by
  have n32 := H.n32
  have hp := P4.pw_in (x := l) (by omega)
  rw [h.at H hM hi hx]
  show Hd m0 c d _ f R a b d (if (wx ((m.get 3 + 0) % 4294967296) m.nw).isSome then (m.inv ((m.get 3 + 0) % 4294967296)).on else m.stp 3 0)
  have e : (m.get 3 + 0) % 4294967296 = d := by rw [h.get3, hd]; omega
  rw [e, if_pos (by rw [hd, h.nw, wx_pw hl]; rfl)]
  refine { h with wim := rfl, pc := ?_ }
  show (m.pc + 4) % 4294967296 = _; rw [h.pc]; exact onpc i hi
theorem get_own {m : MS} {c : Int} (hc : m.cwp = c) (h0 : 0 ≤ c) (j : Nat) : m.get (16 + (j : Int)) = m.R ((16 * c).toNat + j) := by
  unfold MS.get
  rw [hc, F3.loc_own (by omega)]
  congr 1
  omega
/-- Sixteen words are stored. -/
theorem Hd.sts (h : Hd m0 c v (768 + 4 * ((6 : Nat) : Int)) f R a b d m) (H : W0 m0) (hM : WMem m0.nw f) (hc : 0 ≤ c ∧ c < m0.nw) {s : Nat} (hs : R (F3.loc m0.nw c 16 14) = s) (h4 : s % 4 = 0) (hlo : 984 ≤ s) (hhi : s + 64 ≤ 4096) :
    ∀ j, j ≤ 16 → ∃ m', Hd m0 c v (768 + 4 * ((6 + j : Nat) : Int)) (ptB f s (fun k => R ((16 * c).toNat + k)) j) R a b d m' ∧ Reach t m j m'
  | 0, _ => ⟨m, h, Reach.zero t m⟩
  | j + 1, hj => by
    obtain ⟨m1, h1, r1⟩ := h.sts H hM hc hs h4 hlo hhi j (by omega)
    have n32 := H.n32
    have hlt : F3.loc m0.nw c 16 14 < 512 := by unfold F3.loc; rw [if_neg (by decide), if_pos (by decide)]; split <;> omega
    have hM1 : WMem m0.nw (ptB f s (fun k => R ((16 * c).toNat + k)) j) := hM.pt hlo _ j
    have E : mstep m1 0 = (m1.byt (stB m1.f (s + 4 * j) 4 (R ((16 * c).toNat + j)))).on := by
      rw [h1.at H hM1 (by omega) (o_fr m0.nw j (by omega))]
      show mSt m1 (16 + (j : Int)) ((m1.get 14 + 4 * (j : Int) % 4294967296) % 4294967296) 4 = _
      have es : m1.get 14 = s := by
        unfold MS.get
        rw [h1.nw, h1.cwp, h1.bank, h1.R _ (by omega) (by omega) (by omega), hs]
      rw [es, show ((s : Int) + 4 * (j : Int) % 4294967296) % 4294967296 = ((s + 4 * j : Nat) : Int) by omega]
      unfold mSt
      rw [if_pos (by rw [h1.sz, H.sz]; exact th_w (by omega) (by omega) (by omega)), Int.toNat_natCast, get_own h1.cwp hc.1, h1.R _ (by omega) (by omega) (by omega)]
      rfl
    have h2 : Hd m0 c v (768 + 4 * ((6 + (j + 1) : Nat) : Int)) (ptB f s (fun k => R ((16 * c).toNat + k)) (j + 1)) R a b d (mstep m1 0) := by
      rw [E]
      refine { h1 with pc := ?_, f := ?_ }
      · show (m1.pc + 4) % 4294967296 = _; rw [h1.pc]; omega
      · show stB m1.f (s + 4 * j) 4 _ = _
        rw [h1.f]; rfl
    refine ⟨_, h2, ?_⟩
    have := r1.trans (Hd.reach (t := t) h2)
    rw [Nat.add_comm] at this
    exact this
/-- A window's own registers, as many as were loaded. -/
def ldR (R f : Nat → Int) (c : Int) (s k : Nat) : Nat → Int := fun j => if (16 * c).toNat ≤ j ∧ j < (16 * c).toNat + k then ldB f (s + 4 * (j - (16 * c).toNat)) 4 else R j
theorem ldR_zero (R f : Nat → Int) (c : Int) (s : Nat) : ldR R f c s 0 = R := by funext j; unfold ldR; rw [if_neg (by omega)]
/-- Sixteen words are loaded. -/
theorem Hd.lds (h : Hd m0 c v (768 + 4 * ((32 : Nat) : Int)) f R a b d m) (H : W0 m0) (hM : WMem m0.nw f) (hc : 0 ≤ c ∧ c < m0.nw) {s : Nat} (hs : R (F3.loc m0.nw c 16 14) = s) (h4 : s % 4 = 0) (hhi : s + 64 ≤ 4096) :
    ∀ j, j ≤ 16 → ∃ m', Hd m0 c v (768 + 4 * ((32 + j : Nat) : Int)) f (ldR R f c s j) a b d m' ∧ Reach t m j m'
  | 0, _ => ⟨m, by rw [ldR_zero]; exact h, Reach.zero t m⟩
  | j + 1, hj => by
    obtain ⟨m1, h1, r1⟩ := h.lds H hM hc hs h4 hhi j (by omega)
    have n32 := H.n32
    have n2 := H.n2
    have hlt : F3.loc m0.nw c 16 14 < 512 ∧ ¬ ((16 * c).toNat ≤ F3.loc m0.nw c 16 14 ∧ F3.loc m0.nw c 16 14 < (16 * c).toNat + j) := by unfold F3.loc; rw [if_neg (by decide), if_pos (by decide)]; split <;> omega
    have E : mstep m1 0 = (m1.set (16 + (j : Int)) (ldB f (s + 4 * j) 4)).on := by
      rw [h1.at H hM (by omega) (u_fr m0.nw j (by omega))]
      show mLd m1 (16 + (j : Int)) ((m1.get 14 + 4 * (j : Int) % 4294967296) % 4294967296) 4 = _
      have es : m1.get 14 = s := by
        unfold MS.get
        rw [h1.nw, h1.cwp, h1.bank, h1.R _ (by omega) (by omega) (by omega)]
        unfold ldR
        rw [if_neg hlt.2, hs]
      rw [es, show ((s : Int) + 4 * (j : Int) % 4294967296) % 4294967296 = ((s + 4 * j : Nat) : Int) by omega]
      unfold mLd
      rw [if_pos (by rw [h1.sz, H.sz]; exact th_w (by omega) (by omega) (by omega)), Int.toNat_natCast, h1.f]
      rfl
    have hR : ∀ k, (m1.set (16 + (j : Int)) (ldB f (s + 4 * j) 4)).R k = if k = (16 * c).toNat + j then ldB f (s + 4 * j) 4 else m1.R k := fun k => by
      show F3.setR m1.R m1.nw m1.cwp m1.bank (16 + (j : Int)) _ k = _
      unfold F3.setR
      rw [if_neg (by omega), h1.cwp, F3.loc_own (by omega), show (16 * c + (16 + (j : Int)) - 16).toNat = (16 * c).toNat + j by omega]
      rfl
    have h2 : Hd m0 c v (768 + 4 * ((32 + (j + 1) : Nat) : Int)) f (ldR R f c s (j + 1)) a b d (mstep m1 0) := by
      rw [E]
      refine { h1 with pc := ?_, R := fun k k1 k2 k3 => ?_, g1 := ?_, g2 := ?_, g3 := ?_ }
      · show (m1.pc + 4) % 4294967296 = _; rw [h1.pc]; omega
      · show (m1.set (16 + (j : Int)) (ldB f (s + 4 * j) 4)).R k = _
        rw [hR, h1.R k k1 k2 k3]
        unfold ldR
        by_cases e : k = (16 * c).toNat + j
        · rw [if_pos e, if_pos (by omega), e, Nat.add_sub_cancel_left]
        · rw [if_neg e]
          by_cases e2 : (16 * c).toNat ≤ k ∧ k < (16 * c).toNat + j
          · rw [if_pos e2, if_pos (by omega)]
          · rw [if_neg e2, if_neg (by omega)]
      · exact (hR 641).trans (by rw [if_neg (by omega)]; exact h1.g1)
      · exact (hR 642).trans (by rw [if_neg (by omega)]; exact h1.g2)
      · exact (hR 643).trans (by rw [if_neg (by omega)]; exact h1.g3)
    refine ⟨_, h2, ?_⟩
    have := r1.trans (Hd.reach (t := t) h2)
    rw [Nat.add_comm] at this
    exact this
/-- A handler is done: what it leaves. -/
structure Dn (m0 : MS) (c v pc : Int) (f R : Nat → Int) (m : MS) : Prop where
  nw : m.nw = m0.nw
  sz : m.sz = m0.sz
  sk : m.sk = 0
  ol : m.ol = m0.ol
  cl : m.cl = m0.cl
  pil : m.pil = m0.pil
  fl : m.fl = m0.fl
  cwp : m.cwp = c
  bank : m.bank = 0
  wim : m.wim = v
  pc : m.pc = pc
  f : m.f = f
  R : ∀ j, j ≠ 641 → j ≠ 642 → j ≠ 643 → m.R j = R j
theorem Hd.rt (h : Hd m0 c v (768 + 4 * (i : Int)) f R a b d m) (H : W0 m0) (hM : WMem m0.nw f) (hi : i < 54) (hx : gX (wL m0.nw) i = sRt) : Dn m0 m0.cwp v m0.pc f R (mstep m 0) := by
  have n2 := H.n2
  have n32 := H.n32
  have p0 := H.p0
  have p1 := H.p1
  have f0 := H.f0
  have f1 := H.f1
  have c0 := H.c0
  have c1 := H.c1
  rw [h.at H hM hi hx]
  show Dn m0 m0.cwp v m0.pc f R (if m.bank = 0 then m.stp 3 0 else if wst (m.tps m.bank.toNat) m.nw then (m.psr (m.tps m.bank.toNat)).jmp (m.tpc m.bank.toNat) else m.stp 3 0)
  have e : m0.pw = P4.pword m0.cwp m0.pil 0 m0.fl := by unfold MS.pw; rw [H.bank]
  have hw : wst (P4.pword m0.cwp m0.pil 0 m0.fl) m.nw = true := by
    rw [h.nw]
    unfold wst P4.pword
    exact decide_eq_true (by omega)
  rw [if_neg (by rw [h.bank]; decide), h.bank, show ((16 : Int)).toNat = 16 from rfl, h.t2, h.t1, e, if_pos hw]
  refine ⟨h.nw, h.sz, h.sk, h.ol, h.cl, ?_, ?_, ?_, ?_, h.wim, rfl, h.f, h.R⟩
  · show P4.pword m0.cwp m0.pil 0 m0.fl / 32 % 16 = m0.pil; unfold P4.pword; omega
  · show P4.pword m0.cwp m0.pil 0 m0.fl / 16384 % 16 = m0.fl; unfold P4.pword; omega
  · show P4.pword m0.cwp m0.pil 0 m0.fl % 32 = m0.cwp; unfold P4.pword; omega
  · show P4.pword m0.cwp m0.pil 0 m0.fl / 512 % 32 = 0; unfold P4.pword; omega
end
end Go.Proofs.YtiobgnelhiadbaaGreatDoor.K6
namespace Go.Proofs.YtiobgnelhiadbaaGreatDoor.K6
open Go.RowKit W8
set_option linter.unusedVariables false
section
variable {m0 m : MS} {c v y : Int} {f R : Nat → Int} {a b d : Int} {i : Nat} {t : Int}
/-- A vector's branch. -/
theorem Hd.br (h : Hd m0 c v y f R a b d m) (H : W0 m0) {k : Int} (hk : 0 ≤ k ∧ k ≤ 200) (hp : 0 ≤ y ∧ y < 2048 ∧ y % 4 = 0) (hw : ldB f y.toNat 4 = (sBr k).word) : Hd m0 c v (y + 4 * k) f R a b d (mstep m 0) := by
  have E : mstep m 0 = mExec m (sBr k).o (sBr k).d (sBr k).n (m.get (sBr k).s) (if (sBr k).b then (sBr k).n % 4294967296 else m.get (sBr k).t) :=
    (step_word (sBr_b hk) (sBr_may hk) h.sk (by rw [h.pil]; exact H.p0) (by rw [h.sz, H.sz, h.pc]; exact th_w hp.1 hp.2.2 (by omega)) (by rw [h.pc, h.f, hw])).1
  rw [E]
  show Hd m0 c v _ f R a b d (if W1.hv 0 m.fl then m.jmp ((m.pc + 4 * (k % 4294967296) % 4294967296) % 4294967296) else m.on)
  rw [if_pos (by unfold W1.hv; rw [if_pos rfl])]
  refine { h with pc := ?_ }
  show (m.pc + 4 * (k % 4294967296) % 4294967296) % 4294967296 = _
  rw [h.pc]; omega
/-- The state's word without its window. -/
theorem pword_cut (c p f : Int) (c0 : 0 ≤ c) (c1 : c < 32) (p0 : 0 ≤ p) (p1 : p ≤ 15) (f0 : 0 ≤ f) (f1 : f ≤ 15) : W32 (P4.pword c p 16 f) ∧ P4.pword c p 16 f % 32 = c ∧ (P4.pword c p 16 f - c) % 4294967296 = P4.pword 0 p 16 f := by
  unfold W32 P4.pword
  refine ⟨⟨by omega, by omega⟩, by omega, by omega⟩
end
end Go.Proofs.YtiobgnelhiadbaaGreatDoor.K6
