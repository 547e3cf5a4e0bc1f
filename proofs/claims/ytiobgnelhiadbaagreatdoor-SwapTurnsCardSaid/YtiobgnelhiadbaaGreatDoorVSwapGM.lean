/- What a yield, or an end, comes to (layer 10): the handlers' instructions, one by one. -/
import Derived.Test.YtiobgnelhiadbaaGreatDoorVSwapG
namespace Go.Proofs.YtiobgnelhiadbaaGreatDoor.S10
open Go.RowKit
open A7 (XI XB)
open W8 (sFr gX gX_mem sBr)
open K6
set_option linter.unusedVariables false
/-- The memory that made lays, as far as it is code. -/
structure ZMem (nw : Int) (f : Nat → Int) : Prop where
  y : ldB f 304 4 = (sBr 120).word
  e : ldB f 320 4 = (sBr 112).word
  h : ∀ i, i < 94 → ldB f (768 + 4 * i) 4 = (gX (zL nw) i).word
theorem ZMem.st {nw : Int} {f : Nat → Int} (h : ZMem nw f) {a : Nat} (ha : 1144 ≤ a ∨ a + 4 ≤ 304) (v : Int) : ZMem nw (stB f a 4 v) :=
  ⟨(ld_far (by omega)).trans h.y, (ld_far (by omega)).trans h.e, fun i hi => (ld_far (by omega)).trans (h.h i hi)⟩
theorem ZMem.pt {nw : Int} {f : Nat → Int} (h : ZMem nw f) {a : Nat} (ha : 1144 ≤ a) (g : Nat → Int) : ∀ k, ZMem nw (ptB f a g k)
  | 0 => h
  | k + 1 => (ZMem.pt h ha g k).st (by omega) _
/-- A machine in a handler; g: the globals 1 to 7 of the bank 16. -/
structure Zd (m0 : MS) (c v pc fl tp : Int) (f R g : Nat → Int) (cl : Nat) (m : MS) : Prop where
  nw : m.nw = m0.nw
  sz : m.sz = m0.sz
  sk : m.sk = 0
  ol : m.ol = m0.ol
  ch : cl = m0.cl → m.ch = m0.ch
  cl : m.cl = cl
  pil : m.pil = m0.pil
  fl : m.fl = fl
  cwp : m.cwp = c
  bank : m.bank = 16
  wim : m.wim = v
  pc : m.pc = pc
  f : m.f = f
  R : ∀ j, j < 641 ∨ 647 < j → m.R j = R j
  g : ∀ r, 1 ≤ r → r ≤ 7 → m.R (640 + r) = g r
  t1 : m.tpc 16 = tp
  t2 : m.tps 16 = m0.pw
/-- What a machine has that may be in a handler. -/
structure Z0 (m0 : MS) : Prop where
  n2 : 2 ≤ m0.nw
  n32 : m0.nw ≤ 32
  sz : m0.sz = 8192
  c0 : 0 ≤ m0.cwp
  c1 : m0.cwp < m0.nw
  p0 : 0 ≤ m0.pil
  p1 : m0.pil ≤ 15
  f0 : 0 ≤ m0.fl
  f1 : m0.fl ≤ 15
  sk : m0.sk = 0
  bank : m0.bank = 0
  g0 : m0.R 640 = 0
  RW : ∀ j, W32 (m0.R j)
def gv (g : Nat → Int) (s : Int) : Int := if s = 0 then 0 else g s.toNat
section
variable {m0 m : MS} {c v fl tp y : Int} {f R g : Nat → Int} {cl : Nat} {i : Nat} {t : Int}
theorem Zd.get (h : Zd m0 c v y fl tp f R g cl m) (h0 : R 640 = 0) {s : Int} (hs : 0 ≤ s ∧ s ≤ 7) : m.get s = gv g s := by
  obtain ⟨k, rfl⟩ : ∃ k : Nat, s = k := ⟨s.toNat, by omega⟩
  unfold MS.get
  rw [h.bank, F3.loc_global (by omega)]
  unfold gv
  split
  · rename_i e
    rw [show (512 + 8 * (16 : Int) + (k : Int)).toNat = 640 by omega, h.R 640 (.inl (by decide)), h0]
  · rename_i e
    rw [show (512 + 8 * (16 : Int) + (k : Int)).toNat = 640 + k by omega, h.g k (by omega) (by omega), Int.toNat_natCast]
theorem zpc (i : Nat) (h : i < 94) : (768 + 4 * (i : Int) + 4) % 4294967296 = 768 + 4 * ((i + 1 : Nat) : Int) := by omega
theorem Zd.set (h : Zd m0 c v (768 + 4 * (i : Int)) fl tp f R g cl m) (hi : i < 94) (r : Nat) (h1 : 1 ≤ r) (h7 : r ≤ 7) (u : Int) : Zd m0 c v (768 + 4 * ((i + 1 : Nat) : Int)) fl tp f R (F3.upd g r u) cl ((m.set r u).on) := by
  have e := set_gR h.bank r h1 (by omega) u
  refine { h with pc := ?_, R := fun j hj => ?_, g := fun k k1 k7 => ?_ }
  · show (m.pc + 4) % 4294967296 = _; rw [h.pc]; exact zpc i hi
  · exact (congrFun e j).trans ((F3.upd_ne _ _ (by omega)).trans (h.R j hj))
  · refine (congrFun e (640 + k)).trans ?_
    unfold F3.upd
    by_cases ek : k = r
    · rw [if_pos (by omega), if_pos ek]
    · rw [if_neg (by omega), if_neg ek, h.g k k1 k7]
theorem Zd.reach (h : Zd m0 c v y fl tp f R g cl (mstep m 0)) : K6.Reach t m 1 (mstep m 0) := .one h.sk fun hh => by have := h.bank; rw [hh.2] at this; cases this
/-- What lies at a place of the handlers is done. -/
theorem Zd.at (h : Zd m0 c v (768 + 4 * (i : Int)) fl tp f R g cl m) (H : Z0 m0) (hM : ZMem m0.nw f) (hi : i < 94) {x : XI} (hx : gX (zL m0.nw) i = x) :
    mstep m 0 = mExec m x.o x.d x.n (m.get x.s) (if x.b then x.n % 4294967296 else m.get x.t) := by
  have hmem : x ∈ zL m0.nw := by rw [← hx]; exact gX_mem (by rw [zL_len]; exact hi)
  refine (step_word (zL_b H.n2 H.n32 x hmem) (zL_may H.n2 H.n32 x hmem) h.sk (by rw [h.pil]; exact H.p0) ?_ ?_).1
  · rw [h.sz, H.sz, h.pc]; exact th_w (by omega) (by omega) (by omega)
  · rw [h.pc, show (768 + 4 * (i : Int)).toNat = 768 + 4 * i by omega, h.f, hM.h i hi, hx]
theorem Zd.alu (h : Zd m0 c v (768 + 4 * (i : Int)) fl tp f R g cl m) (H : Z0 m0) (hM : ZMem m0.nw f) (h0 : R 640 = 0) (hi : i < 94) {o s t' n : Int} {d : Nat} {b : Bool} (hx : gX (zL m0.nw) i = ⟨o, d, s, t', b, n⟩) (u : Int) (ho : 1 ≤ o ∧ o ≤ 14) (hd : 1 ≤ d ∧ d ≤ 7) (hs : 0 ≤ s ∧ s ≤ 7) (ht : 0 ≤ t' ∧ t' ≤ 7)
    (hk : W1.dok (o - 1) (if b then n % 4294967296 else gv g t') = true) (hu : W1.dv (o - 1) (gv g s) (if b then n % 4294967296 else gv g t') = u) : Zd m0 c v (768 + 4 * ((i + 1 : Nat) : Int)) fl tp f R (F3.upd g d u) cl (mstep m 0) := by
  rw [h.at H hM hi hx]
  show Zd m0 c v _ fl tp f R _ cl (mExec m o d n (m.get s) (if b then n % 4294967296 else m.get t'))
  rw [h.get h0 hs, h.get h0 ht]
  unfold mExec mAlu
  rw [if_pos ho.2, hk, if_pos rfl, hu]
  exact h.set hi d hd.1 hd.2 u
theorem Zd.ld (h : Zd m0 c v (768 + 4 * (i : Int)) fl tp f R g cl m) (H : Z0 m0) (hM : ZMem m0.nw f) (h0 : R 640 = 0) (hi : i < 94) {s n : Int} {d : Nat} (hx : gX (zL m0.nw) i = ⟨22, d, s, 0, true, n⟩) (a : Nat) (u : Int) (hd : 1 ≤ d ∧ d ≤ 7) (hs : 0 ≤ s ∧ s ≤ 7)
    (ha : (gv g s + n % 4294967296) % 4294967296 = a) (h4 : a % 4 = 0) (hb : a + 4 ≤ 8192) (hu : ldB f a 4 = u) : Zd m0 c v (768 + 4 * ((i + 1 : Nat) : Int)) fl tp f R (F3.upd g d u) cl (mstep m 0) := by
  rw [h.at H hM hi hx]
  show Zd m0 c v _ fl tp f R _ cl (mLd m d ((m.get s + n % 4294967296) % 4294967296) 4)
  rw [h.get h0 hs, ha]
  unfold mLd
  rw [if_pos (by rw [h.sz, H.sz]; exact th_w (by omega) (by omega) (by omega)), Int.toNat_natCast, h.f]
  rw [show ldB f a (4 : Int).toNat = u from hu]
  exact h.set hi d hd.1 hd.2 u
theorem out_lt {n c : Int} (n2 : 2 ≤ n) (n32 : n ≤ 32) (c0 : 0 ≤ c) (c1 : c < n) : F3.loc n c 16 14 < 512 := by unfold F3.loc; rw [if_neg (by decide), if_pos (by decide)]; split <;> omega
/-- SP is loaded. -/
theorem Zd.lo (h : Zd m0 c v (768 + 4 * (i : Int)) fl tp f R g cl m) (H : Z0 m0) (hM : ZMem m0.nw f) (h0 : R 640 = 0) (hc : 0 ≤ c ∧ c < m0.nw) (hi : i < 94) {s n : Int} (hx : gX (zL m0.nw) i = ⟨22, 14, s, 0, true, n⟩) (a : Nat) (u : Int) (hs : 0 ≤ s ∧ s ≤ 7)
    (ha : (gv g s + n % 4294967296) % 4294967296 = a) (h4 : a % 4 = 0) (hb : a + 4 ≤ 8192) (hu : ldB f a 4 = u) : Zd m0 c v (768 + 4 * ((i + 1 : Nat) : Int)) fl tp f (F3.upd R (F3.loc m0.nw c 16 14) u) g cl (mstep m 0) := by
  have hlt := out_lt H.n2 H.n32 hc.1 hc.2
  rw [h.at H hM hi hx]
  show Zd m0 c v _ fl tp f _ g cl (mLd m 14 ((m.get s + n % 4294967296) % 4294967296) 4)
  rw [h.get h0 hs, ha]
  unfold mLd
  rw [if_pos (by rw [h.sz, H.sz]; exact th_w (by omega) (by omega) (by omega)), Int.toNat_natCast, h.f]
  rw [show ldB f a (4 : Int).toNat = u from hu]
  have e : ((m.set 14 u).on).R = F3.upd m.R (F3.loc m0.nw c 16 14) u := by
    show F3.setR m.R m.nw m.cwp m.bank 14 u = _
    unfold F3.setR
    rw [if_neg (by decide), h.nw, h.cwp, h.bank]
  refine { h with pc := ?_, f := h.f, R := fun j hj => ?_, g := fun k k1 k7 => ?_ }
  · show (m.pc + 4) % 4294967296 = _; rw [h.pc]; exact zpc i hi
  · refine (congrFun e j).trans ?_
    unfold F3.upd
    split
    · rfl
    · exact h.R j hj
  · exact (congrFun e (640 + k)).trans ((F3.upd_ne _ _ (by omega)).trans (h.g k k1 k7))
theorem Zd.st (h : Zd m0 c v (768 + 4 * (i : Int)) fl tp f R g cl m) (H : Z0 m0) (hM : ZMem m0.nw f) (h0 : R 640 = 0) (hi : i < 94) {s n d : Int} (hx : gX (zL m0.nw) i = ⟨23, d, s, 0, true, n⟩) (a : Nat) (hs : 0 ≤ s ∧ s ≤ 7)
    (ha : (gv g s + n % 4294967296) % 4294967296 = a) (h4 : a % 4 = 0) (hb : a + 4 ≤ 8192) (u : Int) (hu : m.get d = u) : Zd m0 c v (768 + 4 * ((i + 1 : Nat) : Int)) fl tp (stB f a 4 u) R g cl (mstep m 0) := by
  rw [h.at H hM hi hx]
  show Zd m0 c v _ fl tp _ R g cl (mSt m d ((m.get s + n % 4294967296) % 4294967296) 4)
  rw [h.get h0 hs, ha]
  unfold mSt
  rw [if_pos (by rw [h.sz, H.sz]; exact th_w (by omega) (by omega) (by omega)), Int.toNat_natCast, hu]
  refine { h with pc := ?_, f := ?_ }
  · show (m.pc + 4) % 4294967296 = _; rw [h.pc]; exact zpc i hi
  · show stB m.f a 4 u = _; rw [h.f]
theorem Zd.sp (h : Zd m0 c v y fl tp f R g cl m) (H : Z0 m0) (hc : 0 ≤ c ∧ c < m0.nw) : m.get 14 = R (F3.loc m0.nw c 16 14) := by
  have hlt := out_lt H.n2 H.n32 hc.1 hc.2
  unfold MS.get
  rw [h.nw, h.cwp, h.bank, h.R _ (.inl (by omega))]
theorem Zd.cm (h : Zd m0 c v (768 + 4 * (i : Int)) fl tp f R g cl m) (H : Z0 m0) (hM : ZMem m0.nw f) (h0 : R 640 = 0) (hi : i < 94) {s t' n : Int} {b : Bool} (hx : gX (zL m0.nw) i = ⟨16, 0, s, t', b, n⟩) (hs : 0 ≤ s ∧ s ≤ 7) (ht : 0 ≤ t' ∧ t' ≤ 7) :
    Zd m0 c v (768 + 4 * ((i + 1 : Nat) : Int)) (W1.fl (gv g s) (if b then n % 4294967296 else gv g t')) tp f R g cl (mstep m 0) := by
  rw [h.at H hM hi hx]
  show Zd m0 c v _ _ tp f R g cl ((m.flg (W1.fl (m.get s) (if b then n % 4294967296 else m.get t'))).on)
  rw [h.get h0 hs, h.get h0 ht]
  refine { h with pc := ?_, fl := rfl }
  show (m.pc + 4) % 4294967296 = _; rw [h.pc]; exact zpc i hi
/-- A branch that is taken. -/
theorem Zd.bt (h : Zd m0 c v (768 + 4 * (i : Int)) fl tp f R g cl m) (H : Z0 m0) (hM : ZMem m0.nw f) (hi : i < 94) {d n : Int} (hx : gX (zL m0.nw) i = bI d n) (hv : W1.hv d fl = true) (k : Nat) (hk : (i : Int) + n = k) (hk2 : k < 94) (hn : -100 ≤ n ∧ n ≤ 100) :
    Zd m0 c v (768 + 4 * (k : Int)) fl tp f R g cl (mstep m 0) := by
  rw [h.at H hM hi hx]
  show Zd m0 c v _ fl tp f R g cl (if W1.hv d m.fl then m.jmp ((m.pc + 4 * (n % 4294967296) % 4294967296) % 4294967296) else m.on)
  rw [h.fl, hv, if_pos rfl]
  refine { h with pc := ?_ }
  show (m.pc + 4 * (n % 4294967296) % 4294967296) % 4294967296 = _
  rw [h.pc]; omega
/-- .. that is not. -/
theorem Zd.bn (h : Zd m0 c v (768 + 4 * (i : Int)) fl tp f R g cl m) (H : Z0 m0) (hM : ZMem m0.nw f) (hi : i < 94) {d n : Int} (hx : gX (zL m0.nw) i = bI d n) (hv : W1.hv d fl = false) :
    Zd m0 c v (768 + 4 * ((i + 1 : Nat) : Int)) fl tp f R g cl (mstep m 0) := by
  rw [h.at H hM hi hx]
  show Zd m0 c v _ fl tp f R g cl (if W1.hv d m.fl then m.jmp ((m.pc + 4 * (n % 4294967296) % 4294967296) % 4294967296) else m.on)
  rw [h.fl, hv, if_neg (by decide)]
  refine { h with pc := ?_ }
  show (m.pc + 4) % 4294967296 = _; rw [h.pc]; exact zpc i hi
theorem Zd.rd (h : Zd m0 c v (768 + 4 * (i : Int)) fl tp f R g cl m) (H : Z0 m0) (hM : ZMem m0.nw f) (hi : i < 94) (hx : gX (zL m0.nw) i = yI 26 2 0 0) : Zd m0 c v (768 + 4 * ((i + 1 : Nat) : Int)) fl tp f R (F3.upd g 2 (P4.pword c m0.pil 16 fl)) cl (mstep m 0) := by
  rw [h.at H hM hi hx]
  have e : m.pw = P4.pword c m0.pil 16 fl := by unfold MS.pw; rw [h.cwp, h.pil, h.bank, h.fl]
  show Zd m0 c v _ fl tp f R _ cl ((m.set 2 m.pw).on)
  rw [e]
  exact h.set hi 2 (by decide) (by decide) _
theorem Zd.en (h : Zd m0 c v (768 + 4 * (i : Int)) fl tp f R g cl m) (H : Z0 m0) (hM : ZMem m0.nw f) (h0 : R 640 = 0) (hi : i < 94) (hx : gX (zL m0.nw) i = yI 27 0 2 3) {fl' c' : Int} (ha : g 2 = P4.pword 0 m0.pil 16 fl') (hb : g 3 = c') (hc : 0 ≤ c' ∧ c' < m0.nw) (hf : 0 ≤ fl' ∧ fl' ≤ 15) :
    Zd m0 c' v (768 + 4 * ((i + 1 : Nat) : Int)) fl' tp f R g cl (mstep m 0) := by
  have n2 := H.n2
  have n32 := H.n32
  have p0 := H.p0
  have p1 := H.p1
  rw [h.at H hM hi hx]
  show Zd m0 c' v _ fl' tp f R g cl (if wst ((m.get 2 + m.get 3) % 4294967296) m.nw then (m.psr ((m.get 2 + m.get 3) % 4294967296)).on else m.stp 3 0)
  have e : (m.get 2 + m.get 3) % 4294967296 = P4.pword c' m0.pil 16 fl' := by
    rw [h.get h0 (by decide), h.get h0 (by decide)]
    show (g 2 + g 3) % 4294967296 = _
    rw [ha, hb]; unfold P4.pword; omega
  have hw : wst (P4.pword c' m0.pil 16 fl') m.nw = true := by
    rw [h.nw]
    unfold wst P4.pword
    exact decide_eq_true (by omega)
  rw [e, if_pos hw]
  refine { h with cwp := ?_, pil := ?_, bank := ?_, fl := ?_, pc := ?_ }
  · show P4.pword c' m0.pil 16 fl' / 32 % 16 = m0.pil; unfold P4.pword; omega
  · show P4.pword c' m0.pil 16 fl' / 16384 % 16 = fl'; unfold P4.pword; omega
  · show P4.pword c' m0.pil 16 fl' % 32 = c'; unfold P4.pword; omega
  · show P4.pword c' m0.pil 16 fl' / 512 % 32 = 16; unfold P4.pword; omega
  · show (m.pc + 4) % 4294967296 = _; rw [h.pc]; exact zpc i hi
theorem Zd.rw (h : Zd m0 c v (768 + 4 * (i : Int)) fl tp f R g cl m) (H : Z0 m0) (hM : ZMem m0.nw f) (hi : i < 94) (hx : gX (zL m0.nw) i = yI 28 1 0 0) : Zd m0 c v (768 + 4 * ((i + 1 : Nat) : Int)) fl tp f R (F3.upd g 1 v) cl (mstep m 0) := by
  rw [h.at H hM hi hx]
  show Zd m0 c v _ fl tp f R _ cl ((m.set 1 m.wim).on)
  rw [h.wim]
  exact h.set hi 1 (by decide) (by decide) _
theorem Zd.in (h : Zd m0 c v (768 + 4 * (i : Int)) fl tp f R g cl m) (H : Z0 m0) (hM : ZMem m0.nw f) (h0 : R 640 = 0) (hi : i < 94) (hx : gX (zL m0.nw) i = nI 29 0 1 0) {l : Nat} (hd : g 1 = P4.pw l) (hl : (l : Int) < m0.nw) : Zd m0 c (P4.pw l) (768 + 4 * ((i + 1 : Nat) : Int)) fl tp f R g cl (mstep m 0) := by
  have n32 := H.n32
  have hp := P4.pw_in (x := l) (by omega)
  rw [h.at H hM hi hx]
  show Zd m0 c (P4.pw l) _ fl tp f R g cl (if (wx ((m.get 1 + 0) % 4294967296) m.nw).isSome then (m.inv ((m.get 1 + 0) % 4294967296)).on else m.stp 3 0)
  have e : (m.get 1 + 0) % 4294967296 = P4.pw l := by
    rw [h.get h0 (by decide)]
    show (g 1 + 0) % 4294967296 = _
    rw [hd]; omega
  rw [e, if_pos (by rw [h.nw, wx_pw hl]; rfl)]
  refine { h with wim := rfl, pc := ?_ }
  show (m.pc + 4) % 4294967296 = _; rw [h.pc]; exact zpc i hi
theorem Zd.rtp (h : Zd m0 c v (768 + 4 * (i : Int)) fl tp f R g cl m) (H : Z0 m0) (hM : ZMem m0.nw f) (hi : i < 94) (hx : gX (zL m0.nw) i = nI 30 1 0 0) : Zd m0 c v (768 + 4 * ((i + 1 : Nat) : Int)) fl tp f R (F3.upd g 1 tp) cl (mstep m 0) := by
  rw [h.at H hM hi hx]
  show Zd m0 c v _ fl tp f R _ cl (if m.bank = 0 then m.stp 3 0 else (m.set 1 (if (0 : Int) = 1 then m.tps m.bank.toNat else m.tpc m.bank.toNat)).on)
  rw [if_neg (by rw [h.bank]; decide), if_neg (by decide), h.bank, show ((16 : Int)).toNat = 16 from rfl, h.t1]
  exact h.set hi 1 (by decide) (by decide) _
theorem Zd.ts (h : Zd m0 c v (768 + 4 * (i : Int)) fl tp f R g cl m) (H : Z0 m0) (hM : ZMem m0.nw f) (hi : i < 94) (hx : gX (zL m0.nw) i = nI 30 3 0 1) : Zd m0 c v (768 + 4 * ((i + 1 : Nat) : Int)) fl tp f R (F3.upd g 3 m0.pw) cl (mstep m 0) := by
  rw [h.at H hM hi hx]
  show Zd m0 c v _ fl tp f R _ cl (if m.bank = 0 then m.stp 3 0 else (m.set 3 (if (1 : Int) = 1 then m.tps m.bank.toNat else m.tpc m.bank.toNat)).on)
  rw [if_neg (by rw [h.bank]; decide), if_pos rfl, h.bank, show ((16 : Int)).toNat = 16 from rfl, h.t2]
  exact h.set hi 3 (by decide) (by decide) _
theorem Zd.wt (h : Zd m0 c v (768 + 4 * (i : Int)) fl tp f R g cl m) (H : Z0 m0) (hM : ZMem m0.nw f) (h0 : R 640 = 0) (hi : i < 94) (hx : gX (zL m0.nw) i = nI 31 0 1 0) : Zd m0 c v (768 + 4 * ((i + 1 : Nat) : Int)) fl (g 1) f R g cl (mstep m 0) := by
  rw [h.at H hM hi hx]
  show Zd m0 c v _ fl (g 1) f R g cl (if m.bank = 0 then m.stp 3 0 else (if (0 : Int) = 1 then m.setP m.bank.toNat (m.get 1) else m.setT m.bank.toNat (m.get 1)).on)
  rw [if_neg (by rw [h.bank]; decide), if_neg (by decide), h.bank, show ((16 : Int)).toNat = 16 from rfl, h.get h0 (by decide)]
  refine { h with pc := ?_, t1 := ?_ }
  · show (m.pc + 4) % 4294967296 = _; rw [h.pc]; exact zpc i hi
  · exact F3.upd_same m.tpc 16 _
theorem Zd.ch' (h : Zd m0 c v (768 + 4 * (i : Int)) fl tp f R g m0.cl m) (H : Z0 m0) (hM : ZMem m0.nw f) (hi : i < 94) (hx : gX (zL m0.nw) i = yI 34 7 0 0) (hc : 0 < m0.cl) : Zd m0 c v (768 + 4 * ((i + 1 : Nat) : Int)) fl tp f R (F3.upd g 7 (m0.ch 0)) (m0.cl - 1) (mstep m 0) := by
  rw [h.at H hM hi hx]
  show Zd m0 c v _ fl tp f R _ _ (if 0 < m.cl then (m.drop.set 7 (m.ch 0)).on else (m.set 7 0).on)
  rw [if_pos (by rw [h.cl]; exact hc), h.ch rfl]
  have hd : Zd m0 c v (768 + 4 * (i : Int)) fl tp f R g (m0.cl - 1) m.drop := { h with cl := by show m.cl - 1 = _; rw [h.cl], ch := fun e => absurd e (by omega) }
  exact hd.set hi 7 (by decide) (by decide) _
/-- A handler is done: what it leaves. -/
structure Zn (m0 : MS) (v pc : Int) (f R : Nat → Int) (m : MS) : Prop where
  nw : m.nw = m0.nw
  sz : m.sz = m0.sz
  sk : m.sk = 0
  ol : m.ol = m0.ol
  pil : m.pil = m0.pil
  fl : m.fl = m0.fl
  cwp : m.cwp = m0.cwp
  bank : m.bank = 0
  wim : m.wim = v
  pc : m.pc = pc
  f : m.f = f
  R : ∀ j, j < 641 ∨ 647 < j → m.R j = R j
theorem Zd.rt (h : Zd m0 c v (768 + 4 * (i : Int)) fl tp f R g cl m) (H : Z0 m0) (hM : ZMem m0.nw f) (hi : i < 94) (hx : gX (zL m0.nw) i = yI 32 0 0 0) : Zn m0 v tp f R (mstep m 0) := by
  have n2 := H.n2
  have n32 := H.n32
  have p0 := H.p0
  have p1 := H.p1
  have f0 := H.f0
  have f1 := H.f1
  have c0 := H.c0
  have c1 := H.c1
  rw [h.at H hM hi hx]
  show Zn m0 v tp f R (if m.bank = 0 then m.stp 3 0 else if wst (m.tps m.bank.toNat) m.nw then (m.psr (m.tps m.bank.toNat)).jmp (m.tpc m.bank.toNat) else m.stp 3 0)
  have e : m0.pw = P4.pword m0.cwp m0.pil 0 m0.fl := by unfold MS.pw; rw [H.bank]
  have hw : wst (P4.pword m0.cwp m0.pil 0 m0.fl) m.nw = true := by
    rw [h.nw]
    unfold wst P4.pword
    exact decide_eq_true (by omega)
  rw [if_neg (by rw [h.bank]; decide), h.bank, show ((16 : Int)).toNat = 16 from rfl, h.t2, h.t1, e, if_pos hw]
  refine ⟨h.nw, h.sz, h.sk, h.ol, ?_, ?_, ?_, ?_, h.wim, rfl, h.f, h.R⟩
  · show P4.pword m0.cwp m0.pil 0 m0.fl / 32 % 16 = m0.pil; unfold P4.pword; omega
  · show P4.pword m0.cwp m0.pil 0 m0.fl / 16384 % 16 = m0.fl; unfold P4.pword; omega
  · show P4.pword m0.cwp m0.pil 0 m0.fl % 32 = m0.cwp; unfold P4.pword; omega
  · show P4.pword m0.cwp m0.pil 0 m0.fl / 512 % 32 = 0; unfold P4.pword; omega
/-- Sixteen words are stored. -/
theorem Zd.sts (h : Zd m0 c v (768 + 4 * ((12 : Nat) : Int)) fl tp f R g cl m) (H : Z0 m0) (hM : ZMem m0.nw f) (hc : 0 ≤ c ∧ c < m0.nw) {s : Nat} (hs : R (F3.loc m0.nw c 16 14) = s) (h4 : s % 4 = 0) (hlo : 1144 ≤ s) (hhi : s + 64 ≤ 8192) :
    ∀ j, j ≤ 16 → ∃ m', Zd m0 c v (768 + 4 * ((12 + j : Nat) : Int)) fl tp (ptB f s (fun k => R ((16 * c).toNat + k)) j) R g cl m' ∧ K6.Reach t m j m'
  | 0, _ => ⟨m, h, K6.Reach.zero t m⟩
  | j + 1, hj => by
    obtain ⟨m1, h1, r1⟩ := h.sts H hM hc hs h4 hlo hhi j (by omega)
    have n32 := H.n32
    have hM1 : ZMem m0.nw (ptB f s (fun k => R ((16 * c).toNat + k)) j) := hM.pt hlo _ j
    have E : mstep m1 0 = (m1.byt (stB m1.f (s + 4 * j) 4 (R ((16 * c).toNat + j)))).on := by
      rw [h1.at H hM1 (by omega) (st_fr m0.nw j (by omega))]
      show mSt m1 (16 + (j : Int)) ((m1.get 14 + 4 * (j : Int) % 4294967296) % 4294967296) 4 = _
      rw [h1.sp H hc, hs, show ((s : Int) + 4 * (j : Int) % 4294967296) % 4294967296 = ((s + 4 * j : Nat) : Int) by omega]
      unfold mSt
      rw [if_pos (by rw [h1.sz, H.sz]; exact th_w (by omega) (by omega) (by omega)), Int.toNat_natCast, get_own h1.cwp hc.1, h1.R _ (.inl (by omega))]
      rfl
    have h2 : Zd m0 c v (768 + 4 * ((12 + (j + 1) : Nat) : Int)) fl tp (ptB f s (fun k => R ((16 * c).toNat + k)) (j + 1)) R g cl (mstep m1 0) := by
      rw [E]
      refine { h1 with pc := ?_, f := ?_ }
      · show (m1.pc + 4) % 4294967296 = _; rw [h1.pc]; omega
      · show stB m1.f (s + 4 * j) 4 _ = _
        rw [h1.f]; rfl
    refine ⟨_, h2, ?_⟩
    have := r1.trans (Zd.reach (t := t) h2)
    rw [Nat.add_comm] at this
    exact this
/-- Sixteen words are loaded. -/
theorem Zd.lds (h : Zd m0 c v (768 + 4 * ((75 : Nat) : Int)) fl tp f R g cl m) (H : Z0 m0) (hM : ZMem m0.nw f) (hc : 0 ≤ c ∧ c < m0.nw) {s : Nat} (hs : R (F3.loc m0.nw c 16 14) = s) (h4 : s % 4 = 0) (hhi : s + 64 ≤ 8192) :
    ∀ j, j ≤ 16 → ∃ m', Zd m0 c v (768 + 4 * ((75 + j : Nat) : Int)) fl tp f (ldR R f c s j) g cl m' ∧ K6.Reach t m j m'
  | 0, _ => ⟨m, by rw [ldR_zero]; exact h, K6.Reach.zero t m⟩
  | j + 1, hj => by
    obtain ⟨m1, h1, r1⟩ := h.lds H hM hc hs h4 hhi j (by omega)
    have n32 := H.n32
    have n2 := H.n2
    have hlt : F3.loc m0.nw c 16 14 < 512 ∧ ¬ ((16 * c).toNat ≤ F3.loc m0.nw c 16 14 ∧ F3.loc m0.nw c 16 14 < (16 * c).toNat + j) := by unfold F3.loc; rw [if_neg (by decide), if_pos (by decide)]; split <;> omega
    have E : mstep m1 0 = (m1.set (16 + (j : Int)) (ldB f (s + 4 * j) 4)).on := by
      rw [h1.at H hM (by omega) (ld_fr m0.nw j (by omega))]
      show mLd m1 (16 + (j : Int)) ((m1.get 14 + 4 * (j : Int) % 4294967296) % 4294967296) 4 = _
      have es : m1.get 14 = s := by
        rw [h1.sp H hc]
        unfold ldR
        rw [if_neg hlt.2, hs]
      rw [es, show ((s : Int) + 4 * (j : Int) % 4294967296) % 4294967296 = ((s + 4 * j : Nat) : Int) by omega]
      unfold mLd
      rw [if_pos (by rw [h1.sz, H.sz]; exact th_w (by omega) (by omega) (by omega)), Int.toNat_natCast, h1.f]
      rfl
    have hR : ∀ k, (m1.set (16 + (j : Int)) (ldB f (s + 4 * j) 4)).R k = if k = (16 * c).toNat + j then ldB f (s + 4 * j) 4 else m1.R k := fun k => by
      show F3.setR m1.R m1.nw m1.cwp m1.bank (16 + (j : Int)) _ k = _
      unfold F3.setR
      rw [if_neg (by omega), h1.cwp, F3.loc_own (by omega), show (16 * c + (16 + (j : Int)) - 16).toNat = (16 * c).toNat + j by omega]
      rfl
    have h2 : Zd m0 c v (768 + 4 * ((75 + (j + 1) : Nat) : Int)) fl tp f (ldR R f c s (j + 1)) g cl (mstep m1 0) := by
      rw [E]
      refine { h1 with pc := ?_, R := fun k hk => ?_, g := fun k k1 k7 => ?_ }
      · show (m1.pc + 4) % 4294967296 = _; rw [h1.pc]; omega
      · show (m1.set (16 + (j : Int)) (ldB f (s + 4 * j) 4)).R k = _
        rw [hR, h1.R k hk]
        unfold ldR
        by_cases e : k = (16 * c).toNat + j
        · rw [if_pos e, if_pos (by omega), e, Nat.add_sub_cancel_left]
        · rw [if_neg e]
          by_cases e2 : (16 * c).toNat ≤ k ∧ k < (16 * c).toNat + j
          · rw [if_pos e2, if_pos (by omega)]
          · rw [if_neg e2, if_neg (by omega)]
      · exact (hR (640 + k)).trans (by rw [if_neg (by omega)]; exact h1.g k k1 k7)
    refine ⟨_, h2, ?_⟩
    have := r1.trans (Zd.reach (t := t) h2)
    rw [Nat.add_comm] at this
    exact this
end
end Go.Proofs.YtiobgnelhiadbaaGreatDoor.S10
