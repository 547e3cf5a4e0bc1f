/- The instructions of the handlers of yield and end (layer 10), as the machine has them. What a yield, or an end, comes to (layer 10): the handlers' instructions, one by one. Conditions by flags, as comparisons (layer 1). The handlers of yield and end as wholes (layer 10). The handlers of yield and end as wholes (layer 10): behind the windows. SwapTurns, SwapBack and SwapWords (layer 10): a case as numbers, the machine that made makes, and what a TRAP of it comes to. -/
import Derived.Test.YtiobgnelhiadbaaGreatDoorXWindG
import Derived.Test.YtiobgnelhiadbaaGreatDoorXWindGM
import Derived.Test.YtiobgnelhiadbaaGreatDoorXBaseG
import Derived.Test.YtiobgnelhiadbaaGreatDoorXWindGO
namespace Go.Proofs.YtiobgnelhiadbaaGreatDoor.S10
open Go.RowKit
open A7 (XI XB)
open W8 (sFr gX gX_mem sBr frL)
set_option linter.unusedVariables false
def yI (o d s t : Int) : XI := ⟨o, d, s, t, false, 0⟩
def nI (o d s n : Int) : XI := ⟨o, d, s, 0, true, n⟩
def bI (c k : Int) : XI := ⟨17, c, 0, 0, true, k⟩
/-! The pieces of both handlers. -/
def rnL : List XI := [nI 22 4 0 128, nI 3 4 4 16]
def spL : List XI := [yI 26 2 0 0, nI 6 3 2 31, yI 2 2 2 3]
def ciL : List XI := [yI 28 1 0 0, yI 10 1 1 3, nI 16 0 1 1]
def enL : List XI := [yI 27 0 2 3]
def ahL (nw : Int) : List XI := [nI 1 3 3 1, nI 5 3 3 nw]
def cbL : List XI := [nI 30 3 0 1, nI 6 3 3 31, yI 27 0 2 3]
def paL : List XI := [nI 30 1 0 0, nI 23 1 4 64, nI 23 14 4 68]
def bcL : List XI := [nI 22 5 0 132, nI 3 5 5 16, nI 1 6 0 0, nI 1 4 0 0]
def coL : List XI := [nI 22 1 4 76, yI 1 6 6 1]
def nbL : List XI := [nI 1 4 4 16]
def cyL : List XI := [yI 16 0 4 5]
def chL : List XI := [yI 34 7 0 0, nI 6 1 7 1, nI 10 7 7 1, yI 5 7 7 6, yI 1 7 7 7, yI 1 7 7 1, yI 5 7 7 6, nI 1 4 0 0]
def poL : List XI := [nI 22 1 4 76, yI 2 7 7 1, nI 16 0 7 0]
def mrL : List XI := [nI 4 1 4 16, nI 23 1 0 128, nI 22 1 4 72, nI 23 1 0 136, nI 22 14 4 68]
def ivL : List XI := [nI 1 1 0 1, yI 9 1 1 3, nI 29 0 1 0]
def goL : List XI := [nI 22 1 4 64, nI 31 0 1 0, yI 32 0 0 0]
/-- The whole; each branch with the way that it goes. -/
def zL (nw : Int) : List XI :=
  (rnL ++ [nI 23 0 4 76] ++ [bI 0 36] ++ spL) ++ (ciL ++ [bI 1 21] ++ enL) ++ frL 23 ++ (ahL nw ++ [bI 0 (-23)]) ++ (cbL ++ rnL ++ paL ++ bcL) ++ (coL ++ nbL ++ cyL ++ [bI 5 (-4)]) ++ chL ++ (poL ++ [bI 3 3] ++ nbL ++ [bI 0 (-5)]) ++ (mrL ++ spL ++ ahL nw ++ ivL) ++ frL 22 ++ goL
theorem zL_len (nw : Int) : (zL nw).length = 94 := rfl
theorem st_fr (nw : Int) (i : Nat) (h : i < 16) : gX (zL nw) (12 + i) = sFr 23 i := by
  rcases (by omega : i = 0 ∨ i = 1 ∨ i = 2 ∨ i = 3 ∨ i = 4 ∨ i = 5 ∨ i = 6 ∨ i = 7 ∨ i = 8 ∨ i = 9 ∨ i = 10 ∨ i = 11 ∨ i = 12 ∨ i = 13 ∨ i = 14 ∨ i = 15) with rfl | rfl | rfl | rfl | rfl | rfl | rfl | rfl | rfl | rfl | rfl | rfl | rfl | rfl | rfl | rfl <;> rfl
theorem ld_fr (nw : Int) (i : Nat) (h : i < 16) : gX (zL nw) (75 + i) = sFr 22 i := by
  rcases (by omega : i = 0 ∨ i = 1 ∨ i = 2 ∨ i = 3 ∨ i = 4 ∨ i = 5 ∨ i = 6 ∨ i = 7 ∨ i = 8 ∨ i = 9 ∨ i = 10 ∨ i = 11 ∨ i = 12 ∨ i = 13 ∨ i = 14 ∨ i = 15) with rfl | rfl | rfl | rfl | rfl | rfl | rfl | rfl | rfl | rfl | rfl | rfl | rfl | rfl | rfl | rfl <;> rfl
/-- Registers from 0 to 31, an Imm of at most 200. -/
def okI (x : XI) : Bool := decide (1 ≤ x.o ∧ x.o ≤ 37 ∧ 0 ≤ x.d ∧ x.d ≤ 31 ∧ 0 ≤ x.s ∧ x.s ≤ 31 ∧ 0 ≤ x.t ∧ x.t ≤ 31 ∧ -200 ≤ x.n ∧ x.n ≤ 200)
theorem okI_b {x : XI} (h : okI x = true) : XB x := by
  have := of_decide_eq_true h
  exact ⟨by omega, by omega, by omega, by omega, by omega⟩
section
variable {nw : Int} (h2 : 2 ≤ nw) (h32 : nw ≤ 32)
include h2 h32
theorem zL_all (P : XI → Prop) (hf : ∀ o, o = 22 ∨ o = 23 → ∀ i, i < 16 → P (sFr o i)) (hr : ∀ k, 2 ≤ k ∧ k ≤ 32 → P (nI 5 3 3 k)) (h : ∀ x ∈ rnL ++ [nI 23 0 4 76, bI 0 36, bI 1 21, bI 0 (-23), nI 1 3 3 1, bI 5 (-4), bI 3 3, bI 0 (-5)] ++ spL ++ ciL ++ enL ++ cbL ++ paL ++ bcL ++ coL ++ nbL ++ cyL ++ chL ++ poL ++ mrL ++ ivL ++ goL, P x) : ∀ x ∈ zL nw, P x := by
  have e2 : ∀ x ∈ ahL nw, P x := by
    intro x hx
    simp only [ahL, List.mem_cons, List.not_mem_nil, or_false] at hx
    rcases hx with rfl | rfl
    · exact h _ (by simp)
    · exact hr _ ⟨h2, h32⟩
  have e3 : ∀ o, o = 22 ∨ o = 23 → ∀ x ∈ frL o, P x := by intro o ho x hx; simp only [frL, List.mem_map, List.mem_range] at hx; obtain ⟨i, hi, rfl⟩ := hx; exact hf o ho i hi
  intro x hx
  simp only [zL, List.mem_append] at hx
  simp only [List.mem_append] at h
  rcases hx with (((((((((hx | hx) | hx) | hx) | hx) | hx) | hx) | hx) | hx) | hx) | hx
  · rcases hx with ((hx | hx) | hx) | hx
    · exact h x (by simp [hx])
    · exact h x (by simp only [List.mem_singleton] at hx; subst hx; simp)
    · exact h x (by simp only [List.mem_singleton] at hx; subst hx; simp)
    · exact h x (by simp [hx])
  · rcases hx with (hx | hx) | hx
    · exact h x (by simp [hx])
    · exact h x (by simp only [List.mem_singleton] at hx; subst hx; simp)
    · exact h x (by simp [hx])
  · exact e3 23 (.inr rfl) x hx
  · rcases hx with hx | hx
    · exact e2 x hx
    · exact h x (by simp only [List.mem_singleton] at hx; subst hx; simp)
  · rcases hx with ((hx | hx) | hx) | hx <;> exact h x (by simp [hx])
  · rcases hx with ((hx | hx) | hx) | hx
    · exact h x (by simp [hx])
    · exact h x (by simp [hx])
    · exact h x (by simp [hx])
    · exact h x (by simp only [List.mem_singleton] at hx; subst hx; simp)
  · exact h x (by simp [hx])
  · rcases hx with ((hx | hx) | hx) | hx
    · exact h x (by simp [hx])
    · exact h x (by simp only [List.mem_singleton] at hx; subst hx; simp)
    · exact h x (by simp [hx])
    · exact h x (by simp only [List.mem_singleton] at hx; subst hx; simp)
  · rcases hx with ((hx | hx) | hx) | hx
    · exact h x (by simp [hx])
    · exact h x (by simp [hx])
    · exact e2 x hx
    · exact h x (by simp [hx])
  · exact e3 22 (.inl rfl) x hx
  · exact h x (by simp [hx])
omit h2 h32 in
theorem rm_may {k : Int} (h : 2 ≤ k ∧ k ≤ 32) : (nI 5 3 3 k).may = true := by
  show decide (I2.MayT 5 3 3 0 k) = true
  exact decide_eq_true ⟨rfl, .inl ⟨.inl (by omega), by omega, by omega, by omega, by omega⟩⟩
theorem zL_b : ∀ x ∈ zL nw, XB x := zL_all h2 h32 XB (fun _ ho _ => W8.sFr_b ho) (fun k hk => ⟨by show (0 : Int) ≤ 5 ∧ (5 : Int) ≤ 255; decide, by show (0 : Int) ≤ 3 ∧ (3 : Int) ≤ 255; decide, by show (0 : Int) ≤ 3 ∧ (3 : Int) ≤ 255; decide, by show (0 : Int) ≤ 0 ∧ (0 : Int) ≤ 255; decide, by show -2147483648 ≤ k ∧ k ≤ 2147483647; omega⟩) (fun x hx => okI_b (by
  have : ∀ x ∈ rnL ++ [nI 23 0 4 76, bI 0 36, bI 1 21, bI 0 (-23), nI 1 3 3 1, bI 5 (-4), bI 3 3, bI 0 (-5)] ++ spL ++ ciL ++ enL ++ cbL ++ paL ++ bcL ++ coL ++ nbL ++ cyL ++ chL ++ poL ++ mrL ++ ivL ++ goL, okI x = true := List.all_eq_true.1 (by kernel_rfl)
  exact this x hx))
theorem zL_may : ∀ x ∈ zL nw, x.may = true := zL_all h2 h32 (fun x => x.may = true) (fun _ ho _ => W8.sFr_may ho) (fun k hk => rm_may hk) (fun x hx => by
  have : ∀ x ∈ rnL ++ [nI 23 0 4 76, bI 0 36, bI 1 21, bI 0 (-23), nI 1 3 3 1, bI 5 (-4), bI 3 3, bI 0 (-5)] ++ spL ++ ciL ++ enL ++ cbL ++ paL ++ bcL ++ coL ++ nbL ++ cyL ++ chL ++ poL ++ mrL ++ ivL ++ goL, x.may = true := List.all_eq_true.1 (by kernel_rfl)
  exact this x hx)
end
/-- The instruction that traps. -/
def tI (k : Int) : XI := ⟨33, 0, 0, 0, true, k⟩
theorem tI_all {k : Int} (h : k = 3 ∨ k = 4) : XB (tI k) ∧ (tI k).may = true := by
  rcases h with rfl | rfl <;> exact ⟨⟨by decide, by decide, by decide, by decide, by decide⟩, by kernel_rfl⟩
end Go.Proofs.YtiobgnelhiadbaaGreatDoor.S10
namespace Go.Proofs.YtiobgnelhiadbaaGreatDoor.S10
open Go.RowKit
open A7 (XI XB)
open W8 (sFr gX gX_mem sBr)
open K6
set_option linter.unusedVariables false
/-- The memory that made lays, as far as it is code. -/
structure ZMem (nw : Int) (f : Nat → Int) : Prop where
  y : ldB f 304 4 = (sBr 120).word
  e : ldB f 320 4 = (sBr 112).word
  h : ∀ i, i < 94 → ldB f (768 + 4 * i) 4 = (gX (zL nw) i).word
theorem ZMem.st {nw : Int} {f : Nat → Int} (h : ZMem nw f) {a : Nat} (ha : 1144 ≤ a ∨ a + 4 ≤ 304) (v : Int) : ZMem nw (stB f a 4 v) :=
  ⟨(ld_far (by omega)).trans h.y, (ld_far (by omega)).trans h.e, fun i hi => (ld_far (by omega)).trans (h.h i hi)⟩
theorem ZMem.pt {nw : Int} {f : Nat → Int} (h : ZMem nw f) {a : Nat} (ha : 1144 ≤ a) (g : Nat → Int) : ∀ k, ZMem nw (ptB f a g k)
  | 0 => h
  | k + 1 => (ZMem.pt h ha g k).st (by omega) _
/-- A machine in a handler; g: the globals 1 to 7 of the bank 16. -/
structure Zd (m0 : MS) (c v pc fl tp : Int) (f R g : Nat → Int) (cl : Nat) (m : MS) : Prop where
  nw : m.nw = m0.nw
  sz : m.sz = m0.sz
  sk : m.sk = 0
  ol : m.ol = m0.ol
  ch : cl = m0.cl → m.ch = m0.ch
  cl : m.cl = cl
  pil : m.pil = m0.pil
  fl : m.fl = fl
  cwp : m.cwp = c
  bank : m.bank = 16
  wim : m.wim = v
  pc : m.pc = pc
  f : m.f = f
  R : ∀ j, j < 641 ∨ 647 < j → m.R j = R j
  g : ∀ r, 1 ≤ r → r ≤ 7 → m.R (640 + r) = g r
  t1 : m.tpc 16 = tp
  t2 : m.tps 16 = m0.pw
/-- What a machine has that may be in a handler. -/
structure Z0 (m0 : MS) : Prop where
  n2 : 2 ≤ m0.nw
  n32 : m0.nw ≤ 32
  sz : m0.sz = 8192
  c0 : 0 ≤ m0.cwp
  c1 : m0.cwp < m0.nw
  p0 : 0 ≤ m0.pil
  p1 : m0.pil ≤ 15
  f0 : 0 ≤ m0.fl
  f1 : m0.fl ≤ 15
  sk : m0.sk = 0
  bank : m0.bank = 0
  g0 : m0.R 640 = 0
  RW : ∀ j, W32 (m0.R j)
def gv (g : Nat → Int) (s : Int) : Int := if s = 0 then 0 else g s.toNat
section
variable {m0 m : MS} {c v fl tp y : Int} {f R g : Nat → Int} {cl : Nat} {i : Nat} {t : Int}
theorem Zd.get (h : Zd m0 c v y fl tp f R g cl m) (h0 : R 640 = 0) {s : Int} (hs : 0 ≤ s ∧ s ≤ 7) : m.get s = gv g s := by
  obtain ⟨k, rfl⟩ : ∃ k : Nat, s = k := ⟨s.toNat, by omega⟩
  unfold MS.get
  rw [h.bank, F3.loc_global (by omega)]
  unfold gv
  split
  · rename_i e
    rw [show (512 + 8 * (16 : Int) + (k : Int)).toNat = 640 by omega, h.R 640 (.inl (by decide)), h0]
  · rename_i e
    rw [show (512 + 8 * (16 : Int) + (k : Int)).toNat = 640 + k by omega, h.g k (by omega) (by omega), Int.toNat_natCast]
theorem zpc (i : Nat) (h : i < 94) : (768 + 4 * (i : Int) + 4) % 4294967296 = 768 + 4 * ((i + 1 : Nat) : Int) := by omega
theorem Zd.set (h : Zd m0 c v (768 + 4 * (i : Int)) fl tp f R g cl m) (hi : i < 94) (r : Nat) (h1 : 1 ≤ r) (h7 : r ≤ 7) (u : Int) : Zd m0 c v (768 + 4 * ((i + 1 : Nat) : Int)) fl tp f R (F3.upd g r u) cl ((m.set r u).on) := by
  have e := set_gR h.bank r h1 (by omega) u
  refine { h with pc := ?_, R := fun j hj => ?_, g := fun k k1 k7 => ?_ }
  · show (m.pc + 4) % 4294967296 = _; rw [h.pc]; exact zpc i hi
  · exact (congrFun e j).trans ((F3.upd_ne _ _ (by omega)).trans (h.R j hj))
  · refine (congrFun e (640 + k)).trans ?_
    unfold F3.upd
    by_cases ek : k = r
    · rw [if_pos (by omega), if_pos ek]
    · rw [if_neg (by omega), if_neg ek, h.g k k1 k7]
theorem Zd.reach (h : Zd m0 c v y fl tp f R g cl (mstep m 0)) : K6.Reach t m 1 (mstep m 0) := .one h.sk fun hh => by have := h.bank; rw [hh.2] at this; cases this
/-- What lies at a place of the handlers is done. -/
theorem Zd.at (h : Zd m0 c v (768 + 4 * (i : Int)) fl tp f R g cl m) (H : Z0 m0) (hM : ZMem m0.nw f) (hi : i < 94) {x : XI} (hx : gX (zL m0.nw) i = x) :
    mstep m 0 = mExec m x.o x.d x.n (m.get x.s) (if x.b then x.n % 4294967296 else m.get x.t) := by
  have hmem : x ∈ zL m0.nw := by rw [← hx]; exact gX_mem (by rw [zL_len]; exact hi)
  refine (step_word (zL_b H.n2 H.n32 x hmem) (zL_may H.n2 H.n32 x hmem) h.sk (by rw [h.pil]; exact H.p0) ?_ ?_).1
  · rw [h.sz, H.sz, h.pc]; exact th_w (by omega) (by omega) (by omega)
  · rw [h.pc, show (768 + 4 * (i : Int)).toNat = 768 + 4 * i by omega, h.f, hM.h i hi, hx]
theorem Zd.alu (h : Zd m0 c v (768 + 4 * (i : Int)) fl tp f R g cl m) (H : Z0 m0) (hM : ZMem m0.nw f) (h0 : R 640 = 0) (hi : i < 94) {o s t' n : Int} {d : Nat} {b : Bool} (hx : gX (zL m0.nw) i = ⟨o, d, s, t', b, n⟩) (u : Int) (ho : 1 ≤ o ∧ o ≤ 14) (hd : 1 ≤ d ∧ d ≤ 7) (hs : 0 ≤ s ∧ s ≤ 7) (ht : 0 ≤ t' ∧ t' ≤ 7)
    (hk : W1.dok (o - 1) (if b then n % 4294967296 else gv g t') = true) (hu : W1.dv (o - 1) (gv g s) (if b then n % 4294967296 else gv g t') = u) : Zd m0 c v (768 + 4 * ((i + 1 : Nat) : Int)) fl tp f R (F3.upd g d u) cl (mstep m 0) := by
  rw [h.at H hM hi hx]
  show Zd m0 c v _ fl tp f R _ cl (mExec m o d n (m.get s) (if b then n % 4294967296 else m.get t'))
  rw [h.get h0 hs, h.get h0 ht]
  unfold mExec mAlu
  rw [if_pos ho.2, hk, if_pos rfl, hu]
  exact h.set hi d hd.1 hd.2 u
theorem Zd.ld (h : Zd m0 c v (768 + 4 * (i : Int)) fl tp f R g cl m) (H : Z0 m0) (hM : ZMem m0.nw f) (h0 : R 640 = 0) (hi : i < 94) {s n : Int} {d : Nat} (hx : gX (zL m0.nw) i = ⟨22, d, s, 0, true, n⟩) (a : Nat) (u : Int) (hd : 1 ≤ d ∧ d ≤ 7) (hs : 0 ≤ s ∧ s ≤ 7)
    (ha : (gv g s + n % 4294967296) % 4294967296 = a) (h4 : a % 4 = 0) (hb : a + 4 ≤ 8192) (hu : ldB f a 4 = u) : Zd m0 c v (768 + 4 * ((i + 1 : Nat) : Int)) fl tp f R (F3.upd g d u) cl (mstep m 0) := by
  rw [h.at H hM hi hx]
  show Zd m0 c v _ fl tp f R _ cl (mLd m d ((m.get s + n % 4294967296) % 4294967296) 4)
  rw [h.get h0 hs, ha]
  unfold mLd
  rw [if_pos (by rw [h.sz, H.sz]; exact th_w (by omega) (by omega) (by omega)), Int.toNat_natCast, h.f]
  rw [show ldB f a (4 : Int).toNat = u from hu]
  exact h.set hi d hd.1 hd.2 u
theorem out_lt {n c : Int} (n2 : 2 ≤ n) (n32 : n ≤ 32) (c0 : 0 ≤ c) (c1 : c < n) : F3.loc n c 16 14 < 512 := by unfold F3.loc; rw [if_neg (by decide), if_pos (by decide)]; split <;> omega
/-- SP is loaded. -/
theorem Zd.lo (h : Zd m0 c v (768 + 4 * (i : Int)) fl tp f R g cl m) (H : Z0 m0) (hM : ZMem m0.nw f) (h0 : R 640 = 0) (hc : 0 ≤ c ∧ c < m0.nw) (hi : i < 94) {s n : Int} (hx : gX (zL m0.nw) i = ⟨22, 14, s, 0, true, n⟩) (a : Nat) (u : Int) (hs : 0 ≤ s ∧ s ≤ 7)
    (ha : (gv g s + n % 4294967296) % 4294967296 = a) (h4 : a % 4 = 0) (hb : a + 4 ≤ 8192) (hu : ldB f a 4 = u) : Zd m0 c v (768 + 4 * ((i + 1 : Nat) : Int)) fl tp f (F3.upd R (F3.loc m0.nw c 16 14) u) g cl (mstep m 0) := by
  have hlt := out_lt H.n2 H.n32 hc.1 hc.2
  rw [h.at H hM hi hx]
  show Zd m0 c v _ fl tp f _ g cl (mLd m 14 ((m.get s + n % 4294967296) % 4294967296) 4)
  rw [h.get h0 hs, ha]
  unfold mLd
  rw [if_pos (by rw [h.sz, H.sz]; exact th_w (by omega) (by omega) (by omega)), Int.toNat_natCast, h.f]
  rw [show ldB f a (4 : Int).toNat = u from hu]
  have e : ((m.set 14 u).on).R = F3.upd m.R (F3.loc m0.nw c 16 14) u := by
    show F3.setR m.R m.nw m.cwp m.bank 14 u = _
    unfold F3.setR
    rw [if_neg (by decide), h.nw, h.cwp, h.bank]
  refine { h with pc := ?_, f := h.f, R := fun j hj => ?_, g := fun k k1 k7 => ?_ }
  · show (m.pc + 4) % 4294967296 = _; rw [h.pc]; exact zpc i hi
  · refine (congrFun e j).trans ?_
    unfold F3.upd
    split
    · rfl
    · exact h.R j hj
  · exact (congrFun e (640 + k)).trans ((F3.upd_ne _ _ (by omega)).trans (h.g k k1 k7))
theorem Zd.st (h : Zd m0 c v (768 + 4 * (i : Int)) fl tp f R g cl m) (H : Z0 m0) (hM : ZMem m0.nw f) (h0 : R 640 = 0) (hi : i < 94) {s n d : Int} (hx : gX (zL m0.nw) i = ⟨23, d, s, 0, true, n⟩) (a : Nat) (hs : 0 ≤ s ∧ s ≤ 7)
    (ha : (gv g s + n % 4294967296) % 4294967296 = a) (h4 : a % 4 = 0) (hb : a + 4 ≤ 8192) (u : Int) (hu : m.get d = u) : Zd m0 c v (768 + 4 * ((i + 1 : Nat) : Int)) fl tp (stB f a 4 u) R g cl (mstep m 0) := by
  rw [h.at H hM hi hx]
  show Zd m0 c v _ fl tp _ R g cl (mSt m d ((m.get s + n % 4294967296) % 4294967296) 4)
  rw [h.get h0 hs, ha]
  unfold mSt
  rw [if_pos (by rw [h.sz, H.sz]; exact th_w (by omega) (by omega) (by omega)), Int.toNat_natCast, hu]
  refine { h with pc := ?_, f := ?_ }
  · show (m.pc + 4) % 4294967296 = _; rw [h.pc]; exact zpc i hi
  · show stB m.f a 4 u = _; rw [h.f]
theorem Zd.sp (h : Zd m0 c v y fl tp f R g cl m) (H : Z0 m0) (hc : 0 ≤ c ∧ c < m0.nw) : m.get 14 = R (F3.loc m0.nw c 16 14) := by
  have hlt := out_lt H.n2 H.n32 hc.1 hc.2
  unfold MS.get
  rw [h.nw, h.cwp, h.bank, h.R _ (.inl (by omega))]
theorem Zd.cm (h : Zd m0 c v (768 + 4 * (i : Int)) fl tp f R g cl m) (H : Z0 m0) (hM : ZMem m0.nw f) (h0 : R 640 = 0) (hi : i < 94) {s t' n : Int} {b : Bool} (hx : gX (zL m0.nw) i = ⟨16, 0, s, t', b, n⟩) (hs : 0 ≤ s ∧ s ≤ 7) (ht : 0 ≤ t' ∧ t' ≤ 7) :
    Zd m0 c v (768 + 4 * ((i + 1 : Nat) : Int)) (W1.fl (gv g s) (if b then n % 4294967296 else gv g t')) tp f R g cl (mstep m 0) := by
  rw [h.at H hM hi hx]
  show Zd m0 c v _ _ tp f R g cl ((m.flg (W1.fl (m.get s) (if b then n % 4294967296 else m.get t'))).on)
  rw [h.get h0 hs, h.get h0 ht]
  refine { h with pc := ?_, fl := rfl }
  show (m.pc + 4) % 4294967296 = _; rw [h.pc]; exact zpc i hi
/-- A branch that is taken. -/
theorem Zd.bt (h : Zd m0 c v (768 + 4 * (i : Int)) fl tp f R g cl m) (H : Z0 m0) (hM : ZMem m0.nw f) (hi : i < 94) {d n : Int} (hx : gX (zL m0.nw) i = bI d n) (hv : W1.hv d fl = true) (k : Nat) (hk : (i : Int) + n = k) (hk2 : k < 94) (hn : -100 ≤ n ∧ n ≤ 100) :
    Zd m0 c v (768 + 4 * (k : Int)) fl tp f R g cl (mstep m 0) := by
  rw [h.at H hM hi hx]
  show Zd m0 c v _ fl tp f R g cl (if W1.hv d m.fl then m.jmp ((m.pc + 4 * (n % 4294967296) % 4294967296) % 4294967296) else m.on)
  rw [h.fl, hv, if_pos rfl]
  refine { h with pc := ?_ }
  show (m.pc + 4 * (n % 4294967296) % 4294967296) % 4294967296 = _
  rw [h.pc]; omega
/-- .. that is not. -/
theorem Zd.bn (h : Zd m0 c v (768 + 4 * (i : Int)) fl tp f R g cl m) (H : Z0 m0) (hM : ZMem m0.nw f) (hi : i < 94) {d n : Int} (hx : gX (zL m0.nw) i = bI d n) (hv : W1.hv d fl = false) :
    Zd m0 c v (768 + 4 * ((i + 1 : Nat) : Int)) fl tp f R g cl (mstep m 0) := by
  rw [h.at H hM hi hx]
  show Zd m0 c v _ fl tp f R g cl (if W1.hv d m.fl then m.jmp ((m.pc + 4 * (n % 4294967296) % 4294967296) % 4294967296) else m.on)
  rw [h.fl, hv, if_neg (by decide)]
  refine { h with pc := ?_ }
  show (m.pc + 4) % 4294967296 = _; rw [h.pc]; exact zpc i hi
theorem Zd.rd (h : Zd m0 c v (768 + 4 * (i : Int)) fl tp f R g cl m) (H : Z0 m0) (hM : ZMem m0.nw f) (hi : i < 94) (hx : gX (zL m0.nw) i = yI 26 2 0 0) : Zd m0 c v (768 + 4 * ((i + 1 : Nat) : Int)) fl tp f R (F3.upd g 2 (P4.pword c m0.pil 16 fl)) cl (mstep m 0) := by
  rw [h.at H hM hi hx]
  have e : m.pw = P4.pword c m0.pil 16 fl := by unfold MS.pw; rw [h.cwp, h.pil, h.bank, h.fl]
  show Zd m0 c v _ fl tp f R _ cl ((m.set 2 m.pw).on)
  rw [e]
  exact h.set hi 2 (by decide) (by decide) _
theorem Zd.en (h : Zd m0 c v (768 + 4 * (i : Int)) fl tp f R g cl m) (H : Z0 m0) (hM : ZMem m0.nw f) (h0 : R 640 = 0) (hi : i < 94) (hx : gX (zL m0.nw) i = yI 27 0 2 3) {fl' c' : Int} (ha : g 2 = P4.pword 0 m0.pil 16 fl') (hb : g 3 = c') (hc : 0 ≤ c' ∧ c' < m0.nw) (hf : 0 ≤ fl' ∧ fl' ≤ 15) :
    Zd m0 c' v (768 + 4 * ((i + 1 : Nat) : Int)) fl' tp f R g cl (mstep m 0) := by
  have n2 := H.n2
  have n32 := H.n32
  have p0 := H.p0
  have p1 := H.p1
  rw [h.at H hM hi hx]
  show Zd m0 c' v _ fl' tp f R g cl (if wst ((m.get 2 + m.get 3) % 4294967296) m.nw then (m.psr ((m.get 2 + m.get 3) % 4294967296)).on else m.stp 3 0)
  have e : (m.get 2 + m.get 3) % 4294967296 = P4.pword c' m0.pil 16 fl' := by
    rw [h.get h0 (by decide), h.get h0 (by decide)]
    show (g 2 + g 3) % 4294967296 = _
    rw [ha, hb]; unfold P4.pword; omega
  have hw : wst (P4.pword c' m0.pil 16 fl') m.nw = true := by
    rw [h.nw]
    unfold wst P4.pword
    exact decide_eq_true (by omega)
  rw [e, if_pos hw]
  refine { h with cwp := ?_, pil := ?_, bank := ?_, fl := ?_, pc := ?_ }
  · show P4.pword c' m0.pil 16 fl' / 32 % 16 = m0.pil; unfold P4.pword; omega
  · show P4.pword c' m0.pil 16 fl' / 16384 % 16 = fl'; unfold P4.pword; omega
  · show P4.pword c' m0.pil 16 fl' % 32 = c'; unfold P4.pword; omega
  · show P4.pword c' m0.pil 16 fl' / 512 % 32 = 16; unfold P4.pword; omega
  · show (m.pc + 4) % 4294967296 = _; rw [h.pc]; exact zpc i hi
theorem Zd.rw (h : Zd m0 c v (768 + 4 * (i : Int)) fl tp f R g cl m) (H : Z0 m0) (hM : ZMem m0.nw f) (hi : i < 94) (hx : gX (zL m0.nw) i = yI 28 1 0 0) : Zd m0 c v (768 + 4 * ((i + 1 : Nat) : Int)) fl tp f R (F3.upd g 1 v) cl (mstep m 0) := by
  rw [h.at H hM hi hx]
  show Zd m0 c v _ fl tp f R _ cl ((m.set 1 m.wim).on)
  rw [h.wim]
  exact h.set hi 1 (by decide) (by decide) _
theorem Zd.in (h : Zd m0 c v (768 + 4 * (i : Int)) fl tp f R g cl m) (H : Z0 m0) (hM : ZMem m0.nw f) (h0 : R 640 = 0) (hi : i < 94) (hx : gX (zL m0.nw) i = nI 29 0 1 0) {l : Nat} (hd : g 1 = P4.pw l) (hl : (l : Int) < m0.nw) : Zd m0 c (P4.pw l) (768 + 4 * ((i + 1 : Nat) : Int)) fl tp f R g cl (mstep m 0) := by
  have n32 := H.n32
  have hp := P4.pw_in (x := l) (by omega)
  rw [h.at H hM hi hx]
  show Zd m0 c (P4.pw l) _ fl tp f R g cl (if (wx ((m.get 1 + 0) % 4294967296) m.nw).isSome then (m.inv ((m.get 1 + 0) % 4294967296)).on else m.stp 3 0)
  have e : (m.get 1 + 0) % 4294967296 = P4.pw l := by
    rw [h.get h0 (by decide)]
    show (g 1 + 0) % 4294967296 = _
    rw [hd]; omega
  rw [e, if_pos (by rw [h.nw, wx_pw hl]; rfl)]
  refine { h with wim := rfl, pc := ?_ }
  show (m.pc + 4) % 4294967296 = _; rw [h.pc]; exact zpc i hi
theorem Zd.rtp (h : Zd m0 c v (768 + 4 * (i : Int)) fl tp f R g cl m) (H : Z0 m0) (hM : ZMem m0.nw f) (hi : i < 94) (hx : gX (zL m0.nw) i = nI 30 1 0 0) : Zd m0 c v (768 + 4 * ((i + 1 : Nat) : Int)) fl tp f R (F3.upd g 1 tp) cl (mstep m 0) := by
  rw [h.at H hM hi hx]
  show Zd m0 c v _ fl tp f R _ cl (if m.bank = 0 then m.stp 3 0 else (m.set 1 (if (0 : Int) = 1 then m.tps m.bank.toNat else m.tpc m.bank.toNat)).on)
  rw [if_neg (by rw [h.bank]; decide), if_neg (by decide), h.bank, show ((16 : Int)).toNat = 16 from rfl, h.t1]
  exact h.set hi 1 (by decide) (by decide) _
theorem Zd.ts (h : Zd m0 c v (768 + 4 * (i : Int)) fl tp f R g cl m) (H : Z0 m0) (hM : ZMem m0.nw f) (hi : i < 94) (hx : gX (zL m0.nw) i = nI 30 3 0 1) : Zd m0 c v (768 + 4 * ((i + 1 : Nat) : Int)) fl tp f R (F3.upd g 3 m0.pw) cl (mstep m 0) := by
  rw [h.at H hM hi hx]
  show Zd m0 c v _ fl tp f R _ cl (if m.bank = 0 then m.stp 3 0 else (m.set 3 (if (1 : Int) = 1 then m.tps m.bank.toNat else m.tpc m.bank.toNat)).on)
  rw [if_neg (by rw [h.bank]; decide), if_pos rfl, h.bank, show ((16 : Int)).toNat = 16 from rfl, h.t2]
  exact h.set hi 3 (by decide) (by decide) _
theorem Zd.wt (h : Zd m0 c v (768 + 4 * (i : Int)) fl tp f R g cl m) (H : Z0 m0) (hM : ZMem m0.nw f) (h0 : R 640 = 0) (hi : i < 94) (hx : gX (zL m0.nw) i = nI 31 0 1 0) : Zd m0 c v (768 + 4 * ((i + 1 : Nat) : Int)) fl (g 1) f R g cl (mstep m 0) := by
  rw [h.at H hM hi hx]
  show Zd m0 c v _ fl (g 1) f R g cl (if m.bank = 0 then m.stp 3 0 else (if (0 : Int) = 1 then m.setP m.bank.toNat (m.get 1) else m.setT m.bank.toNat (m.get 1)).on)
  rw [if_neg (by rw [h.bank]; decide), if_neg (by decide), h.bank, show ((16 : Int)).toNat = 16 from rfl, h.get h0 (by decide)]
  refine { h with pc := ?_, t1 := ?_ }
  · show (m.pc + 4) % 4294967296 = _; rw [h.pc]; exact zpc i hi
  · exact F3.upd_same m.tpc 16 _
theorem Zd.ch' (h : Zd m0 c v (768 + 4 * (i : Int)) fl tp f R g m0.cl m) (H : Z0 m0) (hM : ZMem m0.nw f) (hi : i < 94) (hx : gX (zL m0.nw) i = yI 34 7 0 0) (hc : 0 < m0.cl) : Zd m0 c v (768 + 4 * ((i + 1 : Nat) : Int)) fl tp f R (F3.upd g 7 (m0.ch 0)) (m0.cl - 1) (mstep m 0) := by
  rw [h.at H hM hi hx]
  show Zd m0 c v _ fl tp f R _ _ (if 0 < m.cl then (m.drop.set 7 (m.ch 0)).on else (m.set 7 0).on)
  rw [if_pos (by rw [h.cl]; exact hc), h.ch rfl]
  have hd : Zd m0 c v (768 + 4 * (i : Int)) fl tp f R g (m0.cl - 1) m.drop := { h with cl := by show m.cl - 1 = _; rw [h.cl], ch := fun e => absurd e (by omega) }
  exact hd.set hi 7 (by decide) (by decide) _
/-- A handler is done: what it leaves. -/
structure Zn (m0 : MS) (v pc : Int) (f R : Nat → Int) (m : MS) : Prop where
  nw : m.nw = m0.nw
  sz : m.sz = m0.sz
  sk : m.sk = 0
  ol : m.ol = m0.ol
  pil : m.pil = m0.pil
  fl : m.fl = m0.fl
  cwp : m.cwp = m0.cwp
  bank : m.bank = 0
  wim : m.wim = v
  pc : m.pc = pc
  f : m.f = f
  R : ∀ j, j < 641 ∨ 647 < j → m.R j = R j
theorem Zd.rt (h : Zd m0 c v (768 + 4 * (i : Int)) fl tp f R g cl m) (H : Z0 m0) (hM : ZMem m0.nw f) (hi : i < 94) (hx : gX (zL m0.nw) i = yI 32 0 0 0) : Zn m0 v tp f R (mstep m 0) := by
  have n2 := H.n2
  have n32 := H.n32
  have p0 := H.p0
  have p1 := H.p1
  have f0 := H.f0
  have f1 := H.f1
  have c0 := H.c0
  have c1 := H.c1
  rw [h.at H hM hi hx]
  show Zn m0 v tp f R (if m.bank = 0 then m.stp 3 0 else if wst (m.tps m.bank.toNat) m.nw then (m.psr (m.tps m.bank.toNat)).jmp (m.tpc m.bank.toNat) else m.stp 3 0)
  have e : m0.pw = P4.pword m0.cwp m0.pil 0 m0.fl := by unfold MS.pw; rw [H.bank]
  have hw : wst (P4.pword m0.cwp m0.pil 0 m0.fl) m.nw = true := by
    rw [h.nw]
    unfold wst P4.pword
    exact decide_eq_true (by omega)
  rw [if_neg (by rw [h.bank]; decide), h.bank, show ((16 : Int)).toNat = 16 from rfl, h.t2, h.t1, e, if_pos hw]
  refine ⟨h.nw, h.sz, h.sk, h.ol, ?_, ?_, ?_, ?_, h.wim, rfl, h.f, h.R⟩
  · show P4.pword m0.cwp m0.pil 0 m0.fl / 32 % 16 = m0.pil; unfold P4.pword; omega
  · show P4.pword m0.cwp m0.pil 0 m0.fl / 16384 % 16 = m0.fl; unfold P4.pword; omega
  · show P4.pword m0.cwp m0.pil 0 m0.fl % 32 = m0.cwp; unfold P4.pword; omega
  · show P4.pword m0.cwp m0.pil 0 m0.fl / 512 % 32 = 0; unfold P4.pword; omega
/-- Sixteen words are stored. -/
theorem Zd.sts (h : Zd m0 c v (768 + 4 * ((12 : Nat) : Int)) fl tp f R g cl m) (H : Z0 m0) (hM : ZMem m0.nw f) (hc : 0 ≤ c ∧ c < m0.nw) {s : Nat} (hs : R (F3.loc m0.nw c 16 14) = s) (h4 : s % 4 = 0) (hlo : 1144 ≤ s) (hhi : s + 64 ≤ 8192) :
    ∀ j, j ≤ 16 → ∃ m', Zd m0 c v (768 + 4 * ((12 + j : Nat) : Int)) fl tp (ptB f s (fun k => R ((16 * c).toNat + k)) j) R g cl m' ∧ K6.Reach t m j m'
  | 0, _ => ⟨m, h, K6.Reach.zero t m⟩
  | j + 1, hj => by
    obtain ⟨m1, h1, r1⟩ := h.sts H hM hc hs h4 hlo hhi j (by omega)
    have n32 := H.n32
    have hM1 : ZMem m0.nw (ptB f s (fun k => R ((16 * c).toNat + k)) j) := hM.pt hlo _ j
    have E : mstep m1 0 = (m1.byt (stB m1.f (s + 4 * j) 4 (R ((16 * c).toNat + j)))).on := by
      rw [h1.at H hM1 (by omega) (st_fr m0.nw j (by omega))]
      show mSt m1 (16 + (j : Int)) ((m1.get 14 + 4 * (j : Int) % 4294967296) % 4294967296) 4 = _
      rw [h1.sp H hc, hs, show ((s : Int) + 4 * (j : Int) % 4294967296) % 4294967296 = ((s + 4 * j : Nat) : Int) by omega]
      unfold mSt
      rw [if_pos (by rw [h1.sz, H.sz]; exact th_w (by omega) (by omega) (by omega)), Int.toNat_natCast, get_own h1.cwp hc.1, h1.R _ (.inl (by omega))]
      rfl
    have h2 : Zd m0 c v (768 + 4 * ((12 + (j + 1) : Nat) : Int)) fl tp (ptB f s (fun k => R ((16 * c).toNat + k)) (j + 1)) R g cl (mstep m1 0) := by
      rw [E]
      refine { h1 with pc := ?_, f := ?_ }
      · show (m1.pc + 4) % 4294967296 = _; rw [h1.pc]; omega
      · show stB m1.f (s + 4 * j) 4 _ = _
        rw [h1.f]; rfl
    refine ⟨_, h2, ?_⟩
    have := r1.trans (Zd.reach (t := t) h2)
    rw [Nat.add_comm] at this
    exact this
/-- Sixteen words are loaded. -/
theorem Zd.lds (h : Zd m0 c v (768 + 4 * ((75 : Nat) : Int)) fl tp f R g cl m) (H : Z0 m0) (hM : ZMem m0.nw f) (hc : 0 ≤ c ∧ c < m0.nw) {s : Nat} (hs : R (F3.loc m0.nw c 16 14) = s) (h4 : s % 4 = 0) (hhi : s + 64 ≤ 8192) :
    ∀ j, j ≤ 16 → ∃ m', Zd m0 c v (768 + 4 * ((75 + j : Nat) : Int)) fl tp f (ldR R f c s j) g cl m' ∧ K6.Reach t m j m'
  | 0, _ => ⟨m, by rw [ldR_zero]; exact h, K6.Reach.zero t m⟩
  | j + 1, hj => by
    obtain ⟨m1, h1, r1⟩ := h.lds H hM hc hs h4 hhi j (by omega)
    have n32 := H.n32
    have n2 := H.n2
    have hlt : F3.loc m0.nw c 16 14 < 512 ∧ ¬ ((16 * c).toNat ≤ F3.loc m0.nw c 16 14 ∧ F3.loc m0.nw c 16 14 < (16 * c).toNat + j) := by unfold F3.loc; rw [if_neg (by decide), if_pos (by decide)]; split <;> omega
    have E : mstep m1 0 = (m1.set (16 + (j : Int)) (ldB f (s + 4 * j) 4)).on := by
      rw [h1.at H hM (by omega) (ld_fr m0.nw j (by omega))]
      show mLd m1 (16 + (j : Int)) ((m1.get 14 + 4 * (j : Int) % 4294967296) % 4294967296) 4 = _
      have es : m1.get 14 = s := by
        rw [h1.sp H hc]
        unfold ldR
        rw [if_neg hlt.2, hs]
      rw [es, show ((s : Int) + 4 * (j : Int) % 4294967296) % 4294967296 = ((s + 4 * j : Nat) : Int) by omega]
      unfold mLd
      rw [if_pos (by rw [h1.sz, H.sz]; exact th_w (by omega) (by omega) (by omega)), Int.toNat_natCast, h1.f]
      rfl
    have hR : ∀ k, (m1.set (16 + (j : Int)) (ldB f (s + 4 * j) 4)).R k = if k = (16 * c).toNat + j then ldB f (s + 4 * j) 4 else m1.R k := fun k => by
      show F3.setR m1.R m1.nw m1.cwp m1.bank (16 + (j : Int)) _ k = _
      unfold F3.setR
      rw [if_neg (by omega), h1.cwp, F3.loc_own (by omega), show (16 * c + (16 + (j : Int)) - 16).toNat = (16 * c).toNat + j by omega]
      rfl
    have h2 : Zd m0 c v (768 + 4 * ((75 + (j + 1) : Nat) : Int)) fl tp f (ldR R f c s (j + 1)) g cl (mstep m1 0) := by
      rw [E]
      refine { h1 with pc := ?_, R := fun k hk => ?_, g := fun k k1 k7 => ?_ }
      · show (m1.pc + 4) % 4294967296 = _; rw [h1.pc]; omega
      · show (m1.set (16 + (j : Int)) (ldB f (s + 4 * j) 4)).R k = _
        rw [hR, h1.R k hk]
        unfold ldR
        by_cases e : k = (16 * c).toNat + j
        · rw [if_pos e, if_pos (by omega), e, Nat.add_sub_cancel_left]
        · rw [if_neg e]
          by_cases e2 : (16 * c).toNat ≤ k ∧ k < (16 * c).toNat + j
          · rw [if_pos e2, if_pos (by omega)]
          · rw [if_neg e2, if_neg (by omega)]
      · exact (hR (640 + k)).trans (by rw [if_neg (by omega)]; exact h1.g k k1 k7)
    refine ⟨_, h2, ?_⟩
    have := r1.trans (Zd.reach (t := t) h2)
    rw [Nat.add_comm] at this
    exact this
end
end Go.Proofs.YtiobgnelhiadbaaGreatDoor.S10
namespace Go.Proofs.YtiobgnelhiadbaaGreatDoor.W1
open Go.RowKit
set_option linter.unusedVariables false
theorem fbits (p q r s : Bool) : fbit (8 * tr p + 4 * tr q + 2 * tr r + tr s) 8 = p ∧ fbit (8 * tr p + 4 * tr q + 2 * tr r + tr s) 4 = q ∧ fbit (8 * tr p + 4 * tr q + 2 * tr r + tr s) 2 = r ∧ fbit (8 * tr p + 4 * tr q + 2 * tr r + tr s) 1 = s := by
  cases p <;> cases q <;> cases r <;> cases s <;> decide
theorem less_is (a b : Int) (ha : 0 ≤ a ∧ a < 4294967296) (hb : 0 ≤ b ∧ b < 4294967296) :
    (decide (wrap32 ((a - b) % 4294967296) < 0) != (wrap32 a - wrap32 b != wrap32 ((a - b) % 4294967296))) = decide (wrap32 a < wrap32 b) := by
  have e : ∀ x y z : Int, (-2147483648 ≤ x ∧ x ≤ 2147483647) → (-2147483648 ≤ y ∧ y ≤ 2147483647) → (-2147483648 ≤ z ∧ z ≤ 2147483647) → (x - y = z ∨ x - y = z + 4294967296 ∨ x - y = z - 4294967296) → (decide (z < 0) != (x - y != z)) = decide (x < y) := by
    intro x y z hx hy hz h
    rcases h with h | h | h
    · by_cases h1 : z < 0
      · have : x < y := by omega
        simp [h, h1, this]
      · have : ¬ x < y := by omega
        simp [h, h1, this]
    · have n1 : ¬ x - y = z := by omega
      have n2 : z < 0 := by omega
      have n3 : ¬ x < y := by omega
      simp [n1, n2, n3]
    · have n1 : ¬ x - y = z := by omega
      have n2 : ¬ z < 0 := by omega
      have n3 : x < y := by omega
      simp [n1, n2, n3]
  refine e _ _ _ (wrap32_bd a) (wrap32_bd b) (wrap32_bd _) ?_
  unfold wrap32
  omega
theorem same_is (a b : Int) (ha : 0 ≤ a ∧ a < 4294967296) (hb : 0 ≤ b ∧ b < 4294967296) : ((a - b) % 4294967296 == 0) = (a == b) := by
  rw [Bool.eq_iff_iff]; simp; omega
theorem conds_are (a b : Int) (ha : 0 ≤ a ∧ a < 4294967296) (hb : 0 ≤ b ∧ b < 4294967296) :
    hv 3 (fl a b) = decide (wrap32 a < wrap32 b) ∧ hv 4 (fl a b) = !decide (wrap32 a < wrap32 b) ∧ hv 5 (fl a b) = decide (a < b) ∧ hv 6 (fl a b) = !decide (a < b) ∧ hv 1 (fl a b) = (a == b) ∧ hv 2 (fl a b) = !(a == b) ∧ hv 0 (fl a b) = true := by
  have h := fbits (decide (wrap32 ((a - b) % 4294967296) < 0)) ((a - b) % 4294967296 == 0) (wrap32 a - wrap32 b != wrap32 ((a - b) % 4294967296)) (decide (a < b))
  obtain ⟨h8, h4, h2, h1⟩ := h
  have k8 : fbit (fl a b) 8 = decide (wrap32 ((a - b) % 4294967296) < 0) := h8
  have k4 : fbit (fl a b) 4 = ((a - b) % 4294967296 == 0) := h4
  have k2 : fbit (fl a b) 2 = (wrap32 a - wrap32 b != wrap32 ((a - b) % 4294967296)) := h2
  have k1 : fbit (fl a b) 1 = decide (a < b) := h1
  have l3 : hv 3 (fl a b) = (fbit (fl a b) 8 != fbit (fl a b) 2) := rfl
  have l4 : hv 4 (fl a b) = (fbit (fl a b) 8 == fbit (fl a b) 2) := rfl
  have l5 : hv 5 (fl a b) = fbit (fl a b) 1 := rfl
  have l6 : hv 6 (fl a b) = !fbit (fl a b) 1 := rfl
  have l1 : hv 1 (fl a b) = fbit (fl a b) 4 := rfl
  have l2 : hv 2 (fl a b) = !fbit (fl a b) 4 := rfl
  have hl := less_is a b ha hb
  refine ⟨?_, ?_, ?_, ?_, ?_, ?_, rfl⟩
  · rw [l3, k8, k2, hl]
  · rw [l4, k8, k2, ← hl]
    cases decide (wrap32 ((a - b) % 4294967296) < 0) <;> cases (wrap32 a - wrap32 b != wrap32 ((a - b) % 4294967296)) <;> rfl
  · rw [l5, k1]
  · rw [l6, k1]
  · rw [l1, k4, same_is a b ha hb]
  · rw [l2, k4, same_is a b ha hb]
end Go.Proofs.YtiobgnelhiadbaaGreatDoor.W1
namespace Go.Proofs.YtiobgnelhiadbaaGreatDoor.S10
open Go.RowKit
open A7 (XI XB)
open W8 (sFr gX gX_mem sBr)
open K6
set_option linter.unusedVariables false
section
variable {m0 m : MS} {c v fl tp y : Int} {f R g : Nat → Int} {cl : Nat} {i : Nat} {t : Int}
/-- Into a handler. -/
theorem trap_zd (H : Z0 m0) (k : Int) (hk : 0 ≤ k ∧ k < 256) (p : Int) : Zd m0 m0.cwp m0.wim (256 + 16 * k) m0.fl p m0.f m0.R (fun r => m0.R (640 + r)) m0.cl (m0.wnd k p) := by
  unfold MS.wnd
  rw [if_pos H.bank]
  exact ⟨rfl, rfl, H.sk, rfl, fun _ => rfl, rfl, rfl, rfl, rfl, rfl, rfl, rfl, rfl, fun _ _ => rfl, fun _ _ _ => rfl, (F3.upd_same m0.tpc 16 p :), (F3.upd_same m0.tps 16 m0.pw :)⟩
theorem Zd.br (h : Zd m0 c v y fl tp f R g cl m) (H : Z0 m0) {k : Int} (hk : 0 ≤ k ∧ k ≤ 200) (hp : 0 ≤ y ∧ y < 2048 ∧ y % 4 = 0) (hw : ldB f y.toNat 4 = (sBr k).word) : Zd m0 c v (y + 4 * k) fl tp f R g cl (mstep m 0) := by
  have E : mstep m 0 = mExec m (sBr k).o (sBr k).d (sBr k).n (m.get (sBr k).s) (if (sBr k).b then (sBr k).n % 4294967296 else m.get (sBr k).t) :=
    (step_word (W8.sBr_b hk) (W8.sBr_may hk) h.sk (by rw [h.pil]; exact H.p0) (by rw [h.sz, H.sz, h.pc]; exact th_w hp.1 hp.2.2 (by omega)) (by rw [h.pc, h.f, hw])).1
  rw [E]
  show Zd m0 c v _ fl tp f R g cl (if W1.hv 0 m.fl then m.jmp ((m.pc + 4 * (k % 4294967296) % 4294967296) % 4294967296) else m.on)
  rw [if_pos (by unfold W1.hv; rw [if_pos rfl])]
  refine { h with pc := ?_ }
  show (m.pc + 4 * (k % 4294967296) % 4294967296) % 4294967296 = _
  rw [h.pc]; omega
/-- A TRAP 3, or 4: two steps. -/
theorem into (H : Z0 m0) (hM : ZMem m0.nw m0.f) (hpc : m0.pc = 1536) {k : Int} (hk : k = 3 ∨ k = 4) (hw : ldB m0.f 1536 4 = (tI k).word) :
    Zd m0 m0.cwp m0.wim (768 + 4 * (((if k = 3 then 4 else 0) : Nat) : Int)) m0.fl 1540 m0.f m0.R (fun r => m0.R (640 + r)) m0.cl (mstep (mstep m0 0) 0) ∧ K6.Reach t m0 2 (mstep (mstep m0 0) 0) := by
  have E0 : mstep m0 0 = m0.wnd k 1540 := by
    rw [(step_word (tI_all hk).1 (tI_all hk).2 H.sk H.p0 (by rw [H.sz, hpc]; exact th_w (by omega) (by omega) (by omega)) (by rw [hpc]; exact hw)).1]
    show m0.wnd (k % 256) ((m0.pc + 4) % 4294967296) = _
    rw [hpc, show k % 256 = k by omega]; rfl
  have s0 := trap_zd H k (by omega) 1540
  rw [← E0] at s0
  rcases hk with rfl | rfl
  · have s1 := s0.br H (k := 120) (by decide) (by decide) hM.y
    exact ⟨s1, (Zd.reach s0).trans (Zd.reach s1)⟩
  · have s1 := s0.br H (k := 112) (by decide) (by decide) hM.e
    exact ⟨s1, (Zd.reach s0).trans (Zd.reach s1)⟩
theorem cond_eq (a b : Int) (ha : W32 a) (hb : W32 b) : W1.hv 1 (W1.fl a b) = (a == b) := (W1.conds_are a b ha hb).2.2.2.2.1
theorem cond_lt (a b : Int) (ha : W32 a) (hb : W32 b) : W1.hv 3 (W1.fl a b) = decide (wrap32 a < wrap32 b) := (W1.conds_are a b ha hb).1
theorem cond_ltu (a b : Int) (ha : W32 a) (hb : W32 b) : W1.hv 5 (W1.fl a b) = decide (a < b) := (W1.conds_are a b ha hb).2.2.1
/-- A power of two, shifted right: it is 1 at its own place alone. -/
theorem pw_one (a b : Nat) : (P4.pw a / ((2 : Int) ^ b) == 1) = (a == b) := by
  rw [Bool.eq_iff_iff]
  simp only [beq_iff_eq]
  unfold P4.pw
  have e : ((2 ^ a : Nat) : Int) / (2 : Int) ^ b = ((2 ^ a / 2 ^ b : Nat) : Int) := by
    rw [Int.natCast_ediv]; congr 1
  rw [e]
  constructor
  · intro h
    have h : 2 ^ a / 2 ^ b = 1 := by exact_mod_cast h
    rcases Nat.lt_or_ge a b with hl | hl
    · rw [Nat.div_eq_of_lt (Nat.pow_lt_pow_right (by decide) hl)] at h; cases h
    · rw [Nat.pow_div hl (by decide)] at h
      have : a - b = 0 := by
        rcases Nat.eq_zero_or_pos (a - b) with h0 | h0
        · exact h0
        · have := Nat.one_lt_two_pow (n := a - b) (by omega); omega
      omega
  · rintro rfl
    rw [Nat.div_self (Nat.two_pow_pos a)]; rfl
/-- What windows, stored one after the other, make of the memory; the first is x. -/
def stS (R : Nat → Int) (n x : Int) : (Nat → Int) → Nat → Nat → Int
  | f, 0 => f
  | f, j + 1 => ptB (stS R n x f j) (R (F3.loc n ((x + j) % n) 16 14)).toNat (fun k => R ((16 * ((x + j) % n)).toNat + k)) 16
theorem ZMem.sts {nw : Int} (h : ZMem nw f) (x : Int) : ∀ k, (∀ j : Nat, j < k → 1144 ≤ R (F3.loc nw ((x + j) % nw) 16 14)) → ZMem nw (stS R nw x f k)
  | 0, _ => h
  | k + 1, hs => (ZMem.sts h x k fun j hj => hs j (by omega)).pt (by have := hs k (by omega); omega) _ _
/-- The words of split. -/
theorem pword_cut (c p f : Int) (c0 : 0 ≤ c) (c1 : c < 32) (p0 : 0 ≤ p) (p1 : p ≤ 15) (f0 : 0 ≤ f) (f1 : f ≤ 15) (b : Int) (b0 : 0 ≤ b) (b1 : b ≤ 16) : W32 (P4.pword c p b f) ∧ P4.pword c p b f % 32 = c ∧ (P4.pword c p b f - c) % 4294967296 = P4.pword 0 p b f := by
  unfold W32 P4.pword
  refine ⟨⟨by omega, by omega⟩, by omega, by omega⟩
/-- The windows are stored, one after the other: at the store's place. -/
theorem loop_st (H : Z0 m0) (hM : ZMem m0.nw f) (h0 : R 640 = 0) {iv : Nat} (hiv : (iv : Int) < m0.nw) {x : Int} (hx : 0 ≤ x ∧ x < m0.nw) (h : Zd m0 c (P4.pw iv) (768 + 4 * ((7 : Nat) : Int)) fl tp f R g cl m) (hc : 0 ≤ c ∧ c < m0.nw) (g2 : g 2 = P4.pword 0 m0.pil 16 m0.fl) (g3 : g 3 = x) :
    ∀ k : Nat, (∀ j : Nat, j < k → (x + j) % m0.nw ≠ iv ∧ 1144 ≤ R (F3.loc m0.nw ((x + j) % m0.nw) 16 14) ∧ R (F3.loc m0.nw ((x + j) % m0.nw) 16 14) % 4 = 0 ∧ R (F3.loc m0.nw ((x + j) % m0.nw) 16 14) + 64 ≤ 8192) →
      ∃ m' c' fl' g', Zd m0 c' (P4.pw iv) (768 + 4 * ((7 : Nat) : Int)) fl' tp (stS R m0.nw x f k) R g' cl m' ∧ (0 ≤ c' ∧ c' < m0.nw) ∧ g' 2 = P4.pword 0 m0.pil 16 m0.fl ∧ g' 3 = (x + k) % m0.nw ∧ K6.Reach t m (24 * k) m'
  | 0, _ => ⟨m, c, fl, g, h, hc, g2, by rw [g3, show x + ((0 : Nat) : Int) = x by omega]; exact (Int.emod_eq_of_lt hx.1 hx.2).symm, K6.Reach.zero t m⟩
  | k + 1, hs => by
    obtain ⟨m1, c1, fl1, g1, s1, hc1, e2, e3, r1⟩ := loop_st H hM h0 hiv hx h hc g2 g3 k fun j hj => hs j (by omega)
    obtain ⟨hne, hlo, h4, hhi⟩ := hs k (by omega)
    have n2 := H.n2
    have n32 := H.n32
    have z0 : 0 ≤ (x + k) % m0.nw := Int.emod_nonneg _ (by omega)
    have z1 : (x + k) % m0.nw < m0.nw := Int.emod_lt_of_pos _ (by omega)
    have hM1 : ZMem m0.nw (stS R m0.nw x f k) := hM.sts x k fun j hj => (hs j (by omega)).2.1
    obtain ⟨xn, hxn⟩ : ∃ xn : Nat, (x + k) % m0.nw = xn := ⟨((x + k) % m0.nw).toNat, by omega⟩
    have hp := P4.pw_in (x := iv) (by omega)
    -- is it the invalid one?
    have s2 := s1.rw H hM1 (by decide) rfl
    have s3 := s2.alu H hM1 h0 (by decide) (d := 1) rfl (P4.pw iv / 2 ^ xn) (by decide) (by decide) (by decide) (by decide) rfl (by
      show P4.pw iv / 2 ^ (g1 3 % 32).toNat = _
      rw [e3, hxn, show ((xn : Int) % 32).toNat = xn by omega])
    have s4 := s3.cm H hM1 h0 (by decide) rfl (by decide) (by decide)
    have hq : W32 (P4.pw iv / 2 ^ xn) := by
      have h1 : 0 ≤ P4.pw iv / 2 ^ xn := Int.ediv_nonneg (by omega) (Int.pow_nonneg (by decide))
      have h2 : P4.pw iv / 2 ^ xn ≤ P4.pw iv := Int.ediv_le_self _ (by omega)
      exact ⟨h1, by omega⟩
    have s5 := s4.bn H hM1 (by decide) (d := 1) (n := 21) rfl (by
      show W1.hv 1 (W1.fl (P4.pw iv / 2 ^ xn) 1) = false
      rw [cond_eq _ _ hq ⟨by decide, by decide⟩, pw_one]
      have : iv ≠ xn := by omega
      simpa using this)
    have s6 := s5.en H hM1 h0 (by decide) rfl (fl' := m0.fl) (c' := (x + k) % m0.nw) e2 e3 ⟨z0, z1⟩ ⟨H.f0, H.f1⟩
    obtain ⟨sn, hsn⟩ : ∃ sn : Nat, R (F3.loc m0.nw ((x + k) % m0.nw) 16 14) = sn := ⟨(R (F3.loc m0.nw ((x + k) % m0.nw) 16 14)).toNat, by omega⟩
    obtain ⟨m7, s7, r7⟩ := Zd.sts (t := t) s6 H hM1 ⟨z0, z1⟩ hsn (by omega) (by omega) (by omega) 16 (by decide)
    have eS : ptB (stS R m0.nw x f k) sn (fun k_1 => R ((16 * ((x + k) % m0.nw)).toNat + k_1)) 16 = stS R m0.nw x f (k + 1) := by
      show _ = ptB _ (R (F3.loc m0.nw ((x + k) % m0.nw) 16 14)).toNat _ 16
      rw [hsn]; rfl
    rw [eS] at s7
    have hM7 : ZMem m0.nw (stS R m0.nw x f (k + 1)) := hM.sts x (k + 1) fun j hj => (hs j hj).2.1
    have s8 := s7.alu H hM7 h0 (i := 28) (by decide) (d := 3) rfl ((x + k) % m0.nw + 1) (by decide) (by decide) (by decide) (by decide) rfl (by
      show (g1 3 + 1 % 4294967296) % 4294967296 = _
      rw [e3]; omega)
    have s9 := s8.alu H hM7 h0 (by decide) (d := 3) (n := m0.nw) (b := true) rfl ((x + (k + 1 : Nat)) % m0.nw) (by decide) (by decide) (by decide) (by decide) (by
      show W1.dok (5 - 1) (m0.nw % 4294967296) = true
      have en : m0.nw % 4294967296 = m0.nw := by omega
      have : (m0.nw == 0) = false := by simpa using (by omega : m0.nw ≠ 0)
      rw [en]; unfold W1.dok; rw [this]; rfl) (by
      show W1.dv 4 ((x + k) % m0.nw + 1) (m0.nw % 4294967296) = _
      have en : m0.nw % 4294967296 = m0.nw := by omega
      rw [en, W1.dv_4 _ _ (by omega)]
      have w1 : wrap32 ((x + k) % m0.nw + 1) = (x + k) % m0.nw + 1 := by unfold wrap32; omega
      have w2 : wrap32 m0.nw = m0.nw := by unfold wrap32; omega
      rw [w1, w2, Int.tmod_eq_emod_of_nonneg (by omega)]
      have ee : ((x + k) % m0.nw + 1) % m0.nw = (x + (k + 1 : Nat)) % m0.nw := by rw [Int.emod_add_emod]; congr 1; omega
      rw [ee]
      have q1 := Int.emod_nonneg (x + (k + 1 : Nat)) (b := m0.nw) (by omega)
      have q2 := Int.emod_lt_of_pos (x + (k + 1 : Nat)) (b := m0.nw) (by omega)
      omega)
    have s10 := s9.bt H hM7 (by decide) (d := 0) (n := -23) rfl (by unfold W1.hv; rw [if_pos rfl]) 7 (by decide) (by decide) (by decide)
    refine ⟨_, _, _, _, s10, ⟨z0, z1⟩, e2, rfl, ?_⟩
    have R2 := r1.trans (Zd.reach (t := t) s2)
    have R3 := R2.trans (Zd.reach (t := t) s3)
    have R4 := R3.trans (Zd.reach (t := t) s4)
    have R5 := R4.trans (Zd.reach (t := t) s5)
    have R6 := R5.trans (Zd.reach (t := t) s6)
    have R7 := R6.trans r7
    have R8 := R7.trans (Zd.reach (t := t) s8)
    have R9 := R8.trans (Zd.reach (t := t) s9)
    have R10 := R9.trans (Zd.reach (t := t) s10)
    rw [show 24 * (k + 1) = 1 + (1 + (1 + (16 + (1 + (1 + (1 + (1 + (1 + 24 * k)))))))) by omega]
    exact R10
end
end Go.Proofs.YtiobgnelhiadbaaGreatDoor.S10
namespace Go.Proofs.YtiobgnelhiadbaaGreatDoor.S10
open Go.RowKit
open A7 (XI XB)
open W8 (sFr gX gX_mem sBr)
open K6
set_option linter.unusedVariables false
section
variable {m0 m : MS} {c v fl tp y : Int} {f R g : Nat → Int} {cl : Nat} {i : Nat} {t : Int}
/-- The windows are stored: what the thread stores of itself. -/
theorem yield_mid (H : Z0 m0) (hM : ZMem m0.nw f) (h0 : R 640 = 0) {iv : Nat} (hiv : (iv : Int) < m0.nw) (h : Zd m0 c (P4.pw iv) (768 + 4 * ((7 : Nat) : Int)) fl tp f R g cl m) (g2 : g 2 = P4.pword 0 m0.pil 16 m0.fl) (g3 : g 3 = iv) {r : Nat} (hr : r < 4) (hcur : ldB f 128 4 = r) :
    ∃ m' g', Zd m0 m0.cwp (P4.pw iv) (768 + 4 * ((39 : Nat) : Int)) m0.fl tp (stB (stB f (64 + 16 * r) 4 tp) (68 + 16 * r) 4 (R (F3.loc m0.nw m0.cwp 16 14))) R g' cl m' ∧ K6.Reach t m 12 m' := by
  have n2 := H.n2
  have n32 := H.n32
  have c0 := H.c0
  have c1 := H.c1
  have hp := P4.pw_in (x := iv) (by omega)
  have s2 := h.rw H hM (by decide) rfl
  have s3 := s2.alu H hM h0 (by decide) (d := 1) rfl (P4.pw iv / 2 ^ iv) (by decide) (by decide) (by decide) (by decide) rfl (by
    show P4.pw iv / 2 ^ (g 3 % 32).toNat = _
    rw [g3, show ((iv : Int) % 32).toNat = iv by omega])
  have s4 := s3.cm H hM h0 (by decide) rfl (by decide) (by decide)
  have hq : W32 (P4.pw iv / 2 ^ iv) := by
    have h1 : 0 ≤ P4.pw iv / 2 ^ iv := Int.ediv_nonneg (by omega) (Int.pow_nonneg (by decide))
    have h2 : P4.pw iv / 2 ^ iv ≤ P4.pw iv := Int.ediv_le_self _ (by omega)
    exact ⟨h1, by omega⟩
  have s5 := s4.bt H hM (by decide) (d := 1) (n := 21) rfl (by
    show W1.hv 1 (W1.fl (P4.pw iv / 2 ^ iv) 1) = true
    rw [cond_eq _ _ hq ⟨by decide, by decide⟩, pw_one]
    simp) 31 (by decide) (by decide) (by decide)
  have s6 := s5.ts H hM (by decide) rfl
  have ew : m0.pw = P4.pword m0.cwp m0.pil 0 m0.fl := by unfold MS.pw; rw [H.bank]
  obtain ⟨w1, w2, _⟩ := pword_cut m0.cwp m0.pil m0.fl c0 (by omega) H.p0 H.p1 H.f0 H.f1 0 (by decide) (by decide)
  have s7 := s6.alu H hM h0 (by decide) (d := 3) rfl m0.cwp (by decide) (by decide) (by decide) (by decide) rfl (by
    show bits .and .u32 m0.pw 31 = _
    rw [ew, I2.and_5 _ w1, w2])
  have s8 := s7.en H hM h0 (by decide) rfl (fl' := m0.fl) (c' := m0.cwp) g2 rfl ⟨c0, c1⟩ ⟨H.f0, H.f1⟩
  have s9 := s8.ld H hM h0 (by decide) (d := 4) rfl 128 r (by decide) (by decide) (by show ((0 : Int) + 128 % 4294967296) % 4294967296 = _; decide) (by decide) (by decide) hcur
  have s10 := s9.alu H hM h0 (by decide) (d := 4) rfl (16 * (r : Int)) (by decide) (by decide) (by decide) (by decide) rfl (by
    show (r : Int) * (16 % 4294967296) % 4294967296 = _
    omega)
  have s11 := s10.rtp H hM (by decide) rfl
  have s12 := s11.st H hM h0 (by decide) (d := 1) rfl (64 + 16 * r) (by decide) (by
    show (16 * (r : Int) + 64 % 4294967296) % 4294967296 = _
    omega) (by omega) (by omega) tp (s11.get h0 (by decide))
  have hM2 := hM.st (a := 64 + 16 * r) (.inr (by omega)) tp
  have s13 := s12.st H hM2 h0 (by decide) (d := 14) rfl (68 + 16 * r) (by decide) (by
    show (16 * (r : Int) + 68 % 4294967296) % 4294967296 = _
    omega) (by omega) (by omega) _ (s12.sp H ⟨c0, c1⟩)
  refine ⟨_, _, s13, ?_⟩
  have R3 := (Zd.reach (t := t) s2).trans (Zd.reach (t := t) s3)
  have R4 := R3.trans (Zd.reach (t := t) s4)
  have R5 := R4.trans (Zd.reach (t := t) s5)
  have R6 := R5.trans (Zd.reach (t := t) s6)
  have R7 := R6.trans (Zd.reach (t := t) s7)
  have R8 := R7.trans (Zd.reach (t := t) s8)
  have R9 := R8.trans (Zd.reach (t := t) s9)
  have R10 := R9.trans (Zd.reach (t := t) s10)
  have R11 := R10.trans (Zd.reach (t := t) s11)
  have R12 := R11.trans (Zd.reach (t := t) s12)
  exact R12.trans (Zd.reach (t := t) s13)
/-- The thread that ends is not alive any more. -/
theorem end_mid (H : Z0 m0) (hM : ZMem m0.nw f) (h0 : R 640 = 0) (h : Zd m0 c v (768 + 4 * ((0 : Nat) : Int)) fl tp f R g cl m) {r : Nat} (hr : r < 4) (hcur : ldB f 128 4 = r) :
    ∃ m' g', Zd m0 c v (768 + 4 * ((39 : Nat) : Int)) fl tp (stB f (76 + 16 * r) 4 0) R g' cl m' ∧ K6.Reach t m 4 m' := by
  have s1 := h.ld H hM h0 (by decide) (d := 4) rfl 128 r (by decide) (by decide) (by show ((0 : Int) + 128 % 4294967296) % 4294967296 = _; decide) (by decide) (by decide) hcur
  have s2 := s1.alu H hM h0 (by decide) (d := 4) rfl (16 * (r : Int)) (by decide) (by decide) (by decide) (by decide) rfl (by
    show (r : Int) * (16 % 4294967296) % 4294967296 = _
    omega)
  have s3 := s2.st H hM h0 (by decide) (d := 0) rfl (76 + 16 * r) (by decide) (by
    show (16 * (r : Int) + 76 % 4294967296) % 4294967296 = _
    omega) (by omega) (by omega) 0 (s2.get h0 (by decide))
  have s4 := s3.bt H (hM.st (.inr (by omega)) 0) (by decide) (d := 0) (n := 36) rfl (by unfold W1.hv; rw [if_pos rfl]) 39 (by decide) (by decide) (by decide)
  exact ⟨_, _, s4, (((Zd.reach (t := t) s1).trans (Zd.reach (t := t) s2)).trans (Zd.reach (t := t) s3)).trans (Zd.reach (t := t) s4)⟩
/-- How many of the first threads are alive. -/
def cntA (al : Nat → Int) : Nat → Int
  | 0 => 0
  | k + 1 => cntA al k + al k
theorem cntA_b {al : Nat → Int} : ∀ k, (∀ j, j < k → al j = 0 ∨ al j = 1) → 0 ≤ cntA al k ∧ cntA al k ≤ k
  | 0, _ => ⟨Int.le_refl _, Int.le_refl _⟩
  | k + 1, h => by
    have h1 := cntA_b k fun j hj => h j (by omega)
    have h2 := h k (by omega)
    show 0 ≤ cntA al k + al k ∧ cntA al k + al k ≤ _
    push_cast
    omega
theorem cntA_up {al : Nat → Int} {n : Nat} (h : ∀ j, j < n → al j = 0 ∨ al j = 1) : ∀ d k, k + d ≤ n → cntA al k ≤ cntA al (k + d)
  | 0, _, _ => Int.le_refl _
  | d + 1, k, hk => by
    have h1 := cntA_up h d k (by omega)
    have h2 := h (k + d) (by omega)
    show _ ≤ cntA al (k + d) + al (k + d)
    omega
/-- The threads that are alive are counted: at the counting's place. -/
theorem loop_ct (H : Z0 m0) (hM : ZMem m0.nw f) (h0 : R 640 = 0) (h : Zd m0 c v (768 + 4 * ((43 : Nat) : Int)) fl tp f R g cl m) {n : Nat} (hn : 1 ≤ n ∧ n ≤ 4) (g4 : g 4 = 0) (g5 : g 5 = 16 * (n : Int)) (g6 : g 6 = 0) {al : Nat → Int} (hal : ∀ j, j < n → ldB f (76 + 16 * j) 4 = al j ∧ (al j = 0 ∨ al j = 1)) :
    ∀ k : Nat, k < n → ∃ m' fl' g', Zd m0 c v (768 + 4 * ((43 : Nat) : Int)) fl' tp f R g' cl m' ∧ g' 4 = 16 * (k : Int) ∧ g' 5 = 16 * (n : Int) ∧ g' 6 = cntA al k ∧ K6.Reach t m (5 * k) m'
  | 0, _ => ⟨m, fl, g, h, g4, g5, g6, K6.Reach.zero t m⟩
  | k + 1, hk => by
    obtain ⟨m1, fl1, g1, s1, e4, e5, e6, r1⟩ := loop_ct H hM h0 h hn g4 g5 g6 hal k (by omega)
    have hb := cntA_b (al := al) k fun j hj => (hal j (by omega)).2
    obtain ⟨hl, hv⟩ := hal k (by omega)
    have s2 := s1.ld H hM h0 (by decide) (d := 1) rfl (76 + 16 * k) (al k) (by decide) (by decide) (by
      show (g1 4 + 76 % 4294967296) % 4294967296 = _
      rw [e4]; push_cast; omega) (by omega) (by omega) hl
    have s3 := s2.alu H hM h0 (by decide) (d := 6) rfl (cntA al (k + 1)) (by decide) (by decide) (by decide) (by decide) rfl (by
      show (g1 6 + al k) % 4294967296 = cntA al k + al k
      rw [e6]; omega)
    have s4 := s3.alu H hM h0 (by decide) (d := 4) rfl (16 * ((k + 1 : Nat) : Int)) (by decide) (by decide) (by decide) (by decide) rfl (by
      show (g1 4 + 16 % 4294967296) % 4294967296 = _
      rw [e4]; push_cast; omega)
    have s5 := s4.cm H hM h0 (by decide) rfl (by decide) (by decide)
    have s6 := s5.bt H hM (by decide) (d := 5) (n := -4) rfl (by
      show W1.hv 5 (W1.fl (16 * ((k + 1 : Nat) : Int)) (g1 5)) = true
      rw [e5, cond_ltu _ _ ⟨by omega, by omega⟩ ⟨by omega, by omega⟩]
      exact decide_eq_true (by omega)) 43 (by decide) (by decide) (by decide)
    refine ⟨_, _, _, s6, rfl, e5, rfl, ?_⟩
    have R3 := (r1.trans (Zd.reach (t := t) s2)).trans (Zd.reach (t := t) s3)
    have R6 := ((R3.trans (Zd.reach (t := t) s4)).trans (Zd.reach (t := t) s5)).trans (Zd.reach (t := t) s6)
    rw [show 5 * (k + 1) = 1 + (1 + (1 + (1 + (1 + 5 * k)))) by omega]
    exact R6
/-- .. and the choice is taken. -/
theorem choose (H : Z0 m0) (hM : ZMem m0.nw f) (h0 : R 640 = 0) (h : Zd m0 c v (768 + 4 * ((39 : Nat) : Int)) fl tp f R g m0.cl m) (hcl : 0 < m0.cl) (hu : W32 (m0.ch 0)) {n : Nat} (hn : 1 ≤ n ∧ n ≤ 4) (hth : ldB f 132 4 = n) {al : Nat → Int} (hal : ∀ j, j < n → ldB f (76 + 16 * j) 4 = al j ∧ (al j = 0 ∨ al j = 1)) (hpos : 0 < cntA al n) :
    ∃ m' fl' g', Zd m0 c v (768 + 4 * ((56 : Nat) : Int)) fl' tp f R g' (m0.cl - 1) m' ∧ g' 4 = 0 ∧ g' 7 = m0.ch 0 % cntA al n ∧ K6.Reach t m (5 * n + 12) m' := by
  have s1 := h.ld H hM h0 (by decide) (d := 5) rfl 132 n (by decide) (by decide) (by show ((0 : Int) + 132 % 4294967296) % 4294967296 = _; decide) (by decide) (by decide) hth
  have s2 := s1.alu H hM h0 (by decide) (d := 5) rfl (16 * (n : Int)) (by decide) (by decide) (by decide) (by decide) rfl (by
    show (n : Int) * (16 % 4294967296) % 4294967296 = _
    omega)
  have s3 := s2.alu H hM h0 (by decide) (d := 6) rfl 0 (by decide) (by decide) (by decide) (by decide) rfl rfl
  have s4 := s3.alu H hM h0 (by decide) (d := 4) rfl 0 (by decide) (by decide) (by decide) (by decide) rfl rfl
  have R4 := (((Zd.reach (t := t) s1).trans (Zd.reach (t := t) s2)).trans (Zd.reach (t := t) s3)).trans (Zd.reach (t := t) s4)
  obtain ⟨m5, fl5, g5, s5, e4, e5, e6, r5⟩ := loop_ct (t := t) H hM h0 s4 hn rfl rfl rfl hal (n - 1) (by omega)
  have hb := cntA_b (al := al) (n - 1) fun j hj => (hal j (by omega)).2
  have hb2 := cntA_b (al := al) n fun j hj => (hal j (by omega)).2
  obtain ⟨hl, hv⟩ := hal (n - 1) (by omega)
  have hnn : cntA al n = cntA al (n - 1) + al (n - 1) := by
    obtain ⟨k, rfl⟩ : ∃ k, n = k + 1 := ⟨n - 1, by omega⟩
    rfl
  have s6 := s5.ld H hM h0 (by decide) (d := 1) rfl (76 + 16 * (n - 1)) (al (n - 1)) (by decide) (by decide) (by
    show (g5 4 + 76 % 4294967296) % 4294967296 = _
    rw [e4]; omega) (by omega) (by omega) hl
  have s7 := s6.alu H hM h0 (by decide) (d := 6) rfl (cntA al n) (by decide) (by decide) (by decide) (by decide) rfl (by
    show (g5 6 + al (n - 1)) % 4294967296 = _
    rw [e6]; omega)
  have s8 := s7.alu H hM h0 (by decide) (d := 4) rfl (16 * (n : Int)) (by decide) (by decide) (by decide) (by decide) rfl (by
    show (g5 4 + 16 % 4294967296) % 4294967296 = _
    rw [e4]; omega)
  have s9 := s8.cm H hM h0 (by decide) rfl (by decide) (by decide)
  have s10 := s9.bn H hM (by decide) (d := 5) (n := -4) rfl (by
    show W1.hv 5 (W1.fl (16 * (n : Int)) (g5 5)) = false
    rw [e5, cond_ltu _ _ ⟨by omega, by omega⟩ ⟨by omega, by omega⟩]
    exact decide_eq_false (by omega))
  have R10 := (((((R4.trans r5).trans (Zd.reach (t := t) s6)).trans (Zd.reach (t := t) s7)).trans (Zd.reach (t := t) s8)).trans (Zd.reach (t := t) s9)).trans (Zd.reach (t := t) s10)
  obtain ⟨u, hue⟩ : ∃ u, u = m0.ch 0 := ⟨_, rfl⟩
  obtain ⟨k, hk⟩ : ∃ k, k = cntA al n := ⟨_, rfl⟩
  rw [← hk] at hpos hb2 s10
  have s11 := s10.ch' H hM (by decide) rfl hcl
  rw [← hue] at s11 hu ⊢
  obtain ⟨u0, u1⟩ := hu
  have s12 := s11.alu H hM h0 (by decide) (d := 1) rfl (u % 2) (by decide) (by decide) (by decide) (by decide) rfl (by
    show bits .and .u32 u 1 = _
    exact I2.and_1 u ⟨u0, u1⟩)
  have s13 := s12.alu H hM h0 (by decide) (d := 7) rfl (u / 2) (by decide) (by decide) (by decide) (by decide) rfl (by
    show u / 2 ^ ((1 : Int) % 32).toNat = _
    rfl)
  have kd : ∀ {b : Int}, b = k → W1.dok (5 - 1) b = true := fun e => by
    have : (k == 0) = false := by simpa using (by omega : k ≠ 0)
    rw [e]; unfold W1.dok; rw [this]; rfl
  have rem : ∀ a : Int, 0 ≤ a → a < 2147483648 → W1.dv 4 a k = a % k := fun a a0 a1 => by
    rw [W1.dv_4 _ _ (by omega)]
    have w1 : wrap32 a = a := by unfold wrap32; omega
    have w2 : wrap32 k = k := by unfold wrap32; omega
    have e1 := Int.emod_nonneg a (b := k) (by omega)
    have e2 := Int.emod_lt_of_pos a (b := k) (by omega)
    rw [w1, w2, Int.tmod_eq_emod_of_nonneg a0]
    omega
  have s14 := s13.alu H hM h0 (by decide) (d := 7) rfl (u / 2 % k) (by decide) (by decide) (by decide) (by decide) (kd rfl) (by
    show W1.dv 4 (u / 2) k = _
    exact rem _ (by omega) (by omega))
  have e1 := Int.emod_nonneg (u / 2) (b := k) (by omega)
  have e2 := Int.emod_lt_of_pos (u / 2) (b := k) (by omega)
  have s15 := s14.alu H hM h0 (by decide) (d := 7) rfl (2 * (u / 2 % k)) (by decide) (by decide) (by decide) (by decide) rfl (by
    show (u / 2 % k + u / 2 % k) % 4294967296 = _
    omega)
  have s16 := s15.alu H hM h0 (by decide) (d := 7) rfl (2 * (u / 2 % k) + u % 2) (by decide) (by decide) (by decide) (by decide) rfl (by
    show (2 * (u / 2 % k) + u % 2) % 4294967296 = _
    omega)
  have s17 := s16.alu H hM h0 (by decide) (d := 7) rfl (u % k) (by decide) (by decide) (by decide) (by decide) (kd rfl) (by
    show W1.dv 4 (2 * (u / 2 % k) + u % 2) k = _
    rw [rem _ (by omega) (by omega)]
    have : u = 2 * (u / 2) + u % 2 := by omega
    conv => rhs; rw [this]
    rw [Int.add_emod, Int.mul_emod, Int.emod_emod_of_dvd _ (Int.dvd_refl k), ← Int.mul_emod, ← Int.add_emod])
  have s18 := s17.alu H hM h0 (by decide) (d := 4) rfl 0 (by decide) (by decide) (by decide) (by decide) rfl rfl
  refine ⟨_, _, _, s18, rfl, by rw [← hk]; rfl, ?_⟩
  have R14 := (((R10.trans (Zd.reach (t := t) s11)).trans (Zd.reach (t := t) s12)).trans (Zd.reach (t := t) s13)).trans (Zd.reach (t := t) s14)
  have R18 := (((R14.trans (Zd.reach (t := t) s15)).trans (Zd.reach (t := t) s16)).trans (Zd.reach (t := t) s17)).trans (Zd.reach (t := t) s18)
  rw [show 5 * n + 12 = 1 + (1 + (1 + (1 + (1 + (1 + (1 + (1 + (1 + (1 + (1 + (1 + (1 + (5 * (n - 1) + (1 + (1 + (1 + 1)))))))))))))))) by omega]
  exact R18
/-- The threads before the chosen one are passed over. -/
theorem loop_fi (H : Z0 m0) (hM : ZMem m0.nw f) (h0 : R 640 = 0) (h : Zd m0 c v (768 + 4 * ((56 : Nat) : Int)) fl tp f R g cl m) {n T : Nat} (hn : T < n ∧ n ≤ 4) {al : Nat → Int} (hal : ∀ j, j < n → ldB f (76 + 16 * j) 4 = al j ∧ (al j = 0 ∨ al j = 1)) (g4 : g 4 = 0) (g7 : g 7 = cntA al T) :
    ∀ k : Nat, k ≤ T → ∃ m' fl' g', Zd m0 c v (768 + 4 * ((56 : Nat) : Int)) fl' tp f R g' cl m' ∧ g' 4 = 16 * (k : Int) ∧ g' 7 = cntA al T - cntA al k ∧ K6.Reach t m (6 * k) m'
  | 0, _ => ⟨m, fl, g, h, g4, by rw [g7]; show _ = _ - (0 : Int); omega, K6.Reach.zero t m⟩
  | k + 1, hk => by
    obtain ⟨m1, fl1, g1, s1, e4, e7, r1⟩ := loop_fi H hM h0 h hn hal g4 g7 k (by omega)
    have hbT := cntA_b (al := al) T fun j hj => (hal j (by omega)).2
    have hb := cntA_b (al := al) k fun j hj => (hal j (by omega)).2
    have hup := cntA_up (al := al) (n := n) (fun j hj => (hal j hj).2) (T - (k + 1)) (k + 1) (by omega)
    rw [show k + 1 + (T - (k + 1)) = T by omega] at hup
    have hk1 : cntA al (k + 1) = cntA al k + al k := rfl
    obtain ⟨hl, hv⟩ := hal k (by omega)
    have s2 := s1.ld H hM h0 (by decide) (d := 1) rfl (76 + 16 * k) (al k) (by decide) (by decide) (by
      show (g1 4 + 76 % 4294967296) % 4294967296 = _
      rw [e4]; push_cast; omega) (by omega) (by omega) hl
    have s3 := s2.alu H hM h0 (by decide) (d := 7) rfl (cntA al T - cntA al (k + 1)) (by decide) (by decide) (by decide) (by decide) rfl (by
      show (g1 7 - al k) % 4294967296 = _
      rw [e7]; omega)
    have s4 := s3.cm H hM h0 (by decide) rfl (by decide) (by decide)
    have s5 := s4.bn H hM (by decide) (d := 3) (n := 3) rfl (by
      show W1.hv 3 (W1.fl (cntA al T - cntA al (k + 1)) 0) = false
      rw [cond_lt _ _ ⟨by omega, by omega⟩ ⟨by omega, by omega⟩]
      have w1 : wrap32 (cntA al T - cntA al (k + 1)) = cntA al T - cntA al (k + 1) := by unfold wrap32; omega
      have w2 : wrap32 0 = 0 := by unfold wrap32; omega
      rw [w1, w2]
      exact decide_eq_false (by omega))
    have s6 := s5.alu H hM h0 (by decide) (d := 4) rfl (16 * ((k + 1 : Nat) : Int)) (by decide) (by decide) (by decide) (by decide) rfl (by
      show (g1 4 + 16 % 4294967296) % 4294967296 = _
      rw [e4]; push_cast; omega)
    have s7 := s6.bt H hM (by decide) (d := 0) (n := -5) rfl (by unfold W1.hv; rw [if_pos rfl]) 56 (by decide) (by decide) (by decide)
    refine ⟨_, _, _, s7, rfl, rfl, ?_⟩
    have R4 := ((r1.trans (Zd.reach (t := t) s2)).trans (Zd.reach (t := t) s3)).trans (Zd.reach (t := t) s4)
    have R7 := ((R4.trans (Zd.reach (t := t) s5)).trans (Zd.reach (t := t) s6)).trans (Zd.reach (t := t) s7)
    rw [show 6 * (k + 1) = 1 + (1 + (1 + (1 + (1 + (1 + 6 * k))))) by omega]
    exact R7
/-- What the chosen thread T makes of memory, registers. -/
def nxF (f : Nat → Int) (T : Nat) : Nat → Int := stB (stB f 128 4 T) 136 4 (ldB f (72 + 16 * T) 4)
def nxR (n c : Int) (f R : Nat → Int) (T : Nat) : Nat → Int := ldR (F3.upd R (F3.loc n c 16 14) (ldB f (68 + 16 * T) 4)) (nxF f T) c (ldB f (68 + 16 * T) 4).toNat 16
theorem nxF_far {f : Nat → Int} {T a : Nat} (h : a + 4 ≤ 128 ∨ 140 ≤ a) : ldB (nxF f T) a 4 = ldB f a 4 := (ld_far (by omega)).trans (ld_far (by omega))
theorem zd_pack {u pc : Int} (h : Zd m0 c v pc fl tp f R g cl m) (e : g 4 = u) : ∃ fl' g', Zd m0 c v pc fl' tp f R g' cl m ∧ g' 4 = u := ⟨_, _, h, e⟩
/-- The chosen thread is found. -/
theorem found (H : Z0 m0) (hM : ZMem m0.nw f) (h0 : R 640 = 0) (h : Zd m0 c v (768 + 4 * ((39 : Nat) : Int)) fl tp f R g m0.cl m) (hcl : 0 < m0.cl) (hu : W32 (m0.ch 0)) {n T : Nat} (hn : T < n ∧ n ≤ 4) (hth : ldB f 132 4 = n) {al : Nat → Int} (hal : ∀ j, j < n → ldB f (76 + 16 * j) 4 = al j ∧ (al j = 0 ∨ al j = 1)) (hT : al T = 1) (hx : cntA al T = m0.ch 0 % cntA al n) (hpos : 0 < cntA al n) :
    ∃ m' fl' g', Zd m0 c v (768 + 4 * ((62 : Nat) : Int)) fl' tp f R g' (m0.cl - 1) m' ∧ (0 ≤ fl' ∧ fl' ≤ 15) ∧ g' 4 = 16 * (T : Int) ∧ K6.Reach t m (5 * n + 6 * T + 16) m' := by
  obtain ⟨m1, fl1, g1, s1, e4, e7, r1⟩ := choose (t := t) H hM h0 h hcl hu ⟨by omega, hn.2⟩ hth hal hpos
  obtain ⟨m2, fl2, g2, s2, q4, q7, r2⟩ := loop_fi (t := t) H hM h0 s1 hn hal e4 (e7.trans hx.symm) T (Nat.le_refl _)
  rw [Int.sub_self] at q7
  obtain ⟨hl, _⟩ := hal T hn.1
  rw [hT] at hl
  have s3 := s2.ld H hM h0 (by decide) (d := 1) rfl (76 + 16 * T) 1 (by decide) (by decide) (by
    show (g2 4 + 76 % 4294967296) % 4294967296 = _
    rw [q4]; push_cast; omega) (by omega) (by omega) hl
  have s4 := s3.alu H hM h0 (by decide) (d := 7) rfl 4294967295 (by decide) (by decide) (by decide) (by decide) rfl (by
    show (g2 7 - 1) % 4294967296 = _
    rw [q7]; decide)
  have s5 := s4.cm H hM h0 (by decide) rfl (by decide) (by decide)
  have s6 := s5.bt H hM (by decide) (d := 3) (n := 3) rfl (by
    show W1.hv 3 (W1.fl 4294967295 0) = true
    rw [cond_lt _ _ ⟨by decide, by decide⟩ ⟨by decide, by decide⟩]
    exact decide_eq_true (by unfold wrap32; omega)) 62 (by decide) (by decide) (by decide)
  have R6 := (((((r1.trans r2).trans (Zd.reach (t := t) s3)).trans (Zd.reach (t := t) s4)).trans (Zd.reach (t := t) s5)).trans (Zd.reach (t := t) s6))
  rw [show 1 + (1 + (1 + (1 + (6 * T + (5 * n + 12))))) = 5 * n + 6 * T + 16 by omega] at R6
  exact ⟨_, _, _, s6, W1.fl_bd _ _, q4, R6⟩
/-- It goes on. -/
theorem goes2 (H : Z0 m0) (hM : ZMem m0.nw f) (h0 : R 640 = 0) (s6 : Zd m0 m0.cwp v (768 + 4 * ((62 : Nat) : Int)) fl tp f R g cl m) (hfl : 0 ≤ fl ∧ fl ≤ 15) {T : Nat} (hT : T < 4) (q4 : g 4 = 16 * (T : Int))
    (h4 : ldB f (68 + 16 * T) 4 % 4 = 0) (hlo : 0 ≤ ldB f (68 + 16 * T) 4) (hhi : ldB f (68 + 16 * T) 4 + 64 ≤ 8192) (ht : t = ldB f (64 + 16 * T) 4) :
    ∃ e k, Zn m0 (P4.pw ((m0.cwp + 1) % m0.nw).toNat) t (nxF f T) (nxR m0.nw m0.cwp f R T) e ∧ Runs t k m e ∧ k ≤ 32 := by
  have n2 := H.n2
  have n32 := H.n32
  have c0 := H.c0
  have c1 := H.c1
  have s7 := s6.alu H hM h0 (by decide) (d := 1) rfl T (by decide) (by decide) (by decide) (by decide) rfl (by
    show W1.dv 3 (g 4) 16 = _
    rw [q4, W1.dv_3 _ _ (by decide)]
    have w1 : wrap32 (16 * (T : Int)) = 16 * (T : Int) := by unfold wrap32; omega
    have w2 : wrap32 16 = 16 := by unfold wrap32; omega
    rw [w1, w2, Int.tdiv_eq_ediv_of_nonneg (by omega)]
    omega)
  have s8 := s7.st H hM h0 (by decide) (d := 1) rfl 128 (by decide) (by show ((0 : Int) + 128 % 4294967296) % 4294967296 = _; decide) (by decide) (by decide) T (s7.get h0 (by decide))
  have hM8 := hM.st (a := 128) (.inr (by decide)) T
  have s9 := s8.ld H hM8 h0 (by decide) (d := 1) rfl (72 + 16 * T) (ldB f (72 + 16 * T) 4) (by decide) (by decide) (by
    show (g 4 + 72 % 4294967296) % 4294967296 = _
    rw [q4]; push_cast; omega) (by omega) (by omega) (ld_far (by omega))
  have s10 := s9.st H hM8 h0 (by decide) (d := 1) rfl 136 (by decide) (by show ((0 : Int) + 136 % 4294967296) % 4294967296 = _; decide) (by decide) (by decide) _ (s9.get h0 (by decide))
  have hM10 : ZMem m0.nw (nxF f T) := hM8.st (a := 136) (.inr (by decide)) _
  have s10 : Zd m0 m0.cwp v _ _ tp (nxF f T) R _ _ _ := s10
  have s11 := s10.lo H hM10 h0 ⟨c0, c1⟩ (by decide) rfl (68 + 16 * T) (ldB f (68 + 16 * T) 4) (by decide) (by
    show (g 4 + 68 % 4294967296) % 4294967296 = _
    rw [q4]; push_cast; omega) (by omega) (by omega) (nxF_far (by omega))
  have R11 := ((((Zd.reach (t := t) s7).trans (Zd.reach (t := t) s8)).trans (Zd.reach (t := t) s9)).trans (Zd.reach (t := t) s10)).trans (Zd.reach (t := t) s11)
  obtain ⟨g9, e9, s11⟩ : ∃ g', g' 4 = 16 * (T : Int) ∧ Zd m0 m0.cwp v (768 + 4 * ((67 : Nat) : Int)) fl tp (nxF f T) _ g' cl _ := ⟨_, q4, s11⟩
  have hlt := out_lt n2 n32 c0 c1
  have h1 : F3.upd R (F3.loc m0.nw m0.cwp 16 14) (ldB f (68 + 16 * T) 4) 640 = 0 := (F3.upd_ne _ _ (by omega)).trans h0
  have s12 := s11.rd H hM10 (by decide) rfl
  obtain ⟨w1, w2, _⟩ := pword_cut m0.cwp m0.pil _ c0 (by omega) H.p0 H.p1 hfl.1 hfl.2 16 (by decide) (by decide)
  have s13 := s12.alu H hM10 h1 (by decide) (d := 3) rfl m0.cwp (by decide) (by decide) (by decide) (by decide) rfl (by
    show bits .and .u32 (P4.pword m0.cwp m0.pil 16 fl) 31 = _
    rw [I2.and_5 _ w1, w2])
  have s14 := s13.alu H hM10 h1 (by decide) (d := 2) rfl _ (by decide) (by decide) (by decide) (by decide) rfl rfl
  have s15 := s14.alu H hM10 h1 (by decide) (d := 3) rfl (m0.cwp + 1) (by decide) (by decide) (by decide) (by decide) rfl (by
    show (m0.cwp + 1 % 4294967296) % 4294967296 = _
    omega)
  have z0 : 0 ≤ (m0.cwp + 1) % m0.nw := Int.emod_nonneg _ (by omega)
  have z1 : (m0.cwp + 1) % m0.nw < m0.nw := Int.emod_lt_of_pos _ (by omega)
  have s16 := s15.alu H hM10 h1 (by decide) (d := 3) (n := m0.nw) (b := true) rfl ((m0.cwp + 1) % m0.nw) (by decide) (by decide) (by decide) (by decide) (by
    show W1.dok (5 - 1) (m0.nw % 4294967296) = true
    have en : m0.nw % 4294967296 = m0.nw := by omega
    have : (m0.nw == 0) = false := by simpa using (by omega : m0.nw ≠ 0)
    rw [en]; unfold W1.dok; rw [this]; rfl) (by
    show W1.dv 4 (m0.cwp + 1) (m0.nw % 4294967296) = _
    have en : m0.nw % 4294967296 = m0.nw := by omega
    rw [en, W1.dv_4 _ _ (by omega)]
    have w1 : wrap32 (m0.cwp + 1) = m0.cwp + 1 := by unfold wrap32; omega
    have w2 : wrap32 m0.nw = m0.nw := by unfold wrap32; omega
    rw [w1, w2, Int.tmod_eq_emod_of_nonneg (by omega)]
    omega)
  have s17 := s16.alu H hM10 h1 (by decide) (d := 1) rfl 1 (by decide) (by decide) (by decide) (by decide) rfl rfl
  obtain ⟨xn, hxn⟩ : ∃ xn : Nat, (m0.cwp + 1) % m0.nw = xn := ⟨((m0.cwp + 1) % m0.nw).toNat, by omega⟩
  rw [hxn] at s17 z1
  have s18 := s17.alu H hM10 h1 (by decide) (d := 1) rfl (P4.pw xn) (by decide) (by decide) (by decide) (by decide) rfl (by
    show 1 * 2 ^ ((xn : Int) % 32).toNat % 4294967296 = _
    rw [show ((xn : Int) % 32).toNat = xn by omega, Int.one_mul, P4.pw_mod (by omega)])
  have s19 := s18.in H hM10 h1 (by decide) rfl (l := xn) rfl z1
  have R19 := (((((((R11.trans (Zd.reach (t := t) s12)).trans (Zd.reach (t := t) s13)).trans (Zd.reach (t := t) s14)).trans (Zd.reach (t := t) s15)).trans (Zd.reach (t := t) s16)).trans (Zd.reach (t := t) s17)).trans (Zd.reach (t := t) s18)).trans (Zd.reach (t := t) s19)
  obtain ⟨sn, hsn⟩ : ∃ sn : Nat, ldB f (68 + 16 * T) 4 = sn := ⟨(ldB f (68 + 16 * T) 4).toNat, by omega⟩
  obtain ⟨m20, s20, r20⟩ := Zd.lds (t := t) s19 H hM10 ⟨c0, c1⟩ (s := sn) ((F3.upd_same _ _ _).trans hsn) (by omega) (by omega) 16 (by decide)
  obtain ⟨fl3, g3, s20, q3⟩ := zd_pack (u := 16 * (T : Int)) s20 e9
  have s20 : Zd m0 m0.cwp (P4.pw xn) (768 + 4 * ((91 : Nat) : Int)) fl3 tp (nxF f T) (nxR m0.nw m0.cwp f R T) g3 cl m20 := by
    unfold nxR
    rw [hsn]
    rw [hsn] at s20
    exact s20
  have h2 : nxR m0.nw m0.cwp f R T 640 = 0 := by
    unfold nxR ldR
    rw [if_neg (by omega)]
    exact h1
  have s21 := s20.ld H hM10 h2 (by decide) (d := 1) rfl (64 + 16 * T) t (by decide) (by decide) (by
    show (g3 4 + 64 % 4294967296) % 4294967296 = _
    rw [q3]; push_cast; omega) (by omega) (by omega) ((nxF_far (by omega)).trans ht.symm)
  have s22 := s21.wt H hM10 h2 (by decide) rfl
  have s22 : Zd m0 m0.cwp (P4.pw xn) (768 + 4 * ((93 : Nat) : Int)) _ t (nxF f T) (nxR m0.nw m0.cwp f R T) _ cl _ := s22
  have s23 := s22.rt H hM10 (by decide) rfl
  have R22 := ((R19.trans r20).trans (Zd.reach (t := t) s21)).trans (Zd.reach (t := t) s22)
  rw [show ((m0.cwp + 1) % m0.nw).toNat = xn by omega]
  exact ⟨_, _, s23, R22 1 _ (.last s23.sk s23.pc s23.bank), by omega⟩
/-- Another thread goes on. -/
theorem goes (H : Z0 m0) (hM : ZMem m0.nw f) (h0 : R 640 = 0) (h : Zd m0 m0.cwp v (768 + 4 * ((39 : Nat) : Int)) fl tp f R g m0.cl m) (hcl : 0 < m0.cl) (hu : W32 (m0.ch 0)) {n T : Nat} (hn : T < n ∧ n ≤ 4) (hth : ldB f 132 4 = n) {al : Nat → Int} (hal : ∀ j, j < n → ldB f (76 + 16 * j) 4 = al j ∧ (al j = 0 ∨ al j = 1)) (hT : al T = 1) (hx : cntA al T = m0.ch 0 % cntA al n) (hpos : 0 < cntA al n)
    (h4 : ldB f (68 + 16 * T) 4 % 4 = 0) (hlo : 0 ≤ ldB f (68 + 16 * T) 4) (hhi : ldB f (68 + 16 * T) 4 + 64 ≤ 8192) :
    ∃ e k, Zn m0 (P4.pw ((m0.cwp + 1) % m0.nw).toNat) (ldB f (64 + 16 * T) 4) (nxF f T) (nxR m0.nw m0.cwp f R T) e ∧ Runs (ldB f (64 + 16 * T) 4) k m e ∧ k ≤ 86 := by
  obtain ⟨m1, fl1, g1, s1, hf, e4, r1⟩ := found (t := ldB f (64 + 16 * T) 4) H hM h0 h hcl hu hn hth hal hT hx hpos
  obtain ⟨e, k, Z, r, hk⟩ := goes2 H hM h0 s1 hf (by omega) e4 h4 hlo hhi rfl
  exact ⟨e, _, Z, r1 _ _ r, by omega⟩
end
end Go.Proofs.YtiobgnelhiadbaaGreatDoor.S10
namespace Go.Proofs.YtiobgnelhiadbaaGreatDoor.S10
open Go.RowKit
open A7 (XI XB)
open W8 (sFr gX gX_mem sBr)
open K6
set_option linter.unusedVariables false
/-- A case, as numbers. -/
structure TC where
  nw : Int
  c : Int
  iv : Int
  lr : Nat
  rg : Nat → Int
  lf : Nat
  fr : Nat → Int
  th : Int
  ru : Int
  al : Nat → Bool
  sk : Nat → Int
  ch : Int
  fl : Int
  pl : Int
  fill : Int
  en : Bool
structure TCB (s : TC) : Prop where
  rg : ∀ i, W32 (s.rg i)
  fr : ∀ i, 0 ≤ s.fr i ∧ s.fr i < 65536
  sk : ∀ i, 0 ≤ s.sk i ∧ s.sk i < 65536
  ch : W32 s.ch
  fl : 0 ≤ s.fl ∧ s.fl < 256
  pl : 0 ≤ s.pl ∧ s.pl < 256
  fill : W32 s.fill
structure TC.May (s : TC) : Prop where
  n2 : 2 ≤ s.nw
  n32 : s.nw ≤ 32
  c0 : 0 ≤ s.c
  c1 : s.c < s.nw
  i0 : 0 ≤ s.iv
  i1 : s.iv < s.nw
  ic : s.iv ≠ s.c
  t1 : 1 ≤ s.th
  t4 : s.th ≤ 4
  r0 : 0 ≤ s.ru
  r1 : s.ru < s.th
  pl : s.pl ≤ 15
  fl : s.fl ≤ 15
  lr : s.lr ≤ 512
  lf : s.lf ≤ 64
/-! The memory. -/
def zW (nw : Int) (i : Nat) : Int := if i < 94 then (gX (zL nw) i).word else 0
def zFill (fill : Int) (i : Nat) : Int := (fill + 4 * (i : Int) * 2654435761 % 4294967296) % 4294967296
def frm (n : Int) : Int := 2048 + n % 1520 * 4
def TC.kd (s : TC) : Int := if s.en then 4 else 3
def TC.ai (s : TC) (t : Nat) : Int := if s.al t then 1 else 0
def zA (nw fill : Int) : Nat → Int := stB (stB (ptB (ptB (fun _ => 0) 0 (zFill fill) 2048) 768 (zW nw) 94) 304 4 (sBr 120).word) 320 4 (sBr 112).word
def TC.fB (s : TC) : Nat → Int := stB (stB (stB (zA s.nw s.fill) 1536 4 (tI s.kd).word) 128 4 s.ru) 132 4 s.th
def TC.blk (s : TC) (t : Nat) (i : Nat) : Int := if i = 0 then 1700 + 4 * (t : Int) else if i = 1 then frm (s.sk t) else if i = 2 then 5000 + (t : Int) else s.ai t
def TC.fT (s : TC) : Nat → Nat → Int
  | 0 => s.fB
  | t + 1 => ptB (s.fT t) (64 + 16 * t) (s.blk t) 4
def TC.mem (s : TC) : Nat → Int := s.fT 4
/-! The registers. -/
def TC.rR (s : TC) : Nat → Nat → Int
  | 0 => fun _ => 0
  | k + 1 => F3.setR (s.rR k) s.nw ((k : Int) / 16 % s.nw) 0 (16 + (k : Int) % 16) (s.rg k)
def TC.fv (s : TC) (k : Nat) : Int := if k < s.lf then s.fr k else (k : Int) * 16 % 65536
def TC.fp (s : TC) (k : Nat) : Int := frm (s.fv k)
def TC.fR (s : TC) : Nat → Nat → Int
  | 0 => s.rR s.lr
  | k + 1 => F3.setR (s.fR k) s.nw k 0 14 (s.fp k)
def TC.R (s : TC) : Nat → Int := s.fR s.nw.toNat
def mZ (s : TC) : MS := { mnew s.nw 8192 with f := s.mem, R := s.R, pc := 1536, cwp := s.c, pil := s.pl, fl := s.fl, wim := P4.pw s.iv.toNat, cl := 1, ch := fun _ => s.ch }
theorem zFill_w (fill : Int) (i : Nat) : W32 (zFill fill i) := by unfold zFill W32; omega
theorem zW_w {nw : Int} (h2 : 2 ≤ nw) (h32 : nw ≤ 32) (i : Nat) : W32 (zW nw i) := by
  unfold zW
  split
  · rename_i h
    exact W8.xw_w (zL_b h2 h32 _ (gX_mem (by rw [zL_len]; exact h)))
  · exact ⟨Int.le_refl _, by decide⟩
/-- A frame's address may be. -/
def Fz (v : Int) : Prop := v % 4 = 0 ∧ 2048 ≤ v ∧ v + 64 ≤ 8192
theorem frm_fz {n : Int} : Fz (frm n) := by unfold Fz frm; omega
theorem Fz.w {v : Int} (h : Fz v) : W32 v := by unfold Fz at h; unfold W32; omega
theorem setR_orZ (R : Nat → Int) (n a b r v : Int) (j : Nat) : F3.setR R n a b r v j = v ∨ F3.setR R n a b r v j = R j := by
  unfold F3.setR
  split
  · exact .inr rfl
  · unfold F3.upd
    split
    · exact .inl rfl
    · exact .inr rfl
theorem d_num {n c iv : Int} (h2 : 2 ≤ n) (c0 : 0 ≤ c) (c1 : c < n) (i0 : 0 ≤ iv) (i1 : iv < n) (ic : iv ≠ c) : ((((iv - c) % n).toNat : Nat) : Int) < n ∧ 1 ≤ ((iv - c) % n).toNat ∧ (c + (((iv - c) % n).toNat : Nat)) % n = iv ∧ ∀ j : Nat, j < ((iv - c) % n).toNat → (c + j) % n ≠ iv := by
  have cs : (c ≤ iv ∧ (iv - c) % n = iv - c) ∨ (iv < c ∧ (iv - c) % n = iv - c + n) := by
    by_cases h : c ≤ iv
    · exact .inl ⟨h, Int.emod_eq_of_lt (by omega) (by omega)⟩
    · refine .inr ⟨by omega, ?_⟩
      rw [← Int.add_emod_right]
      exact Int.emod_eq_of_lt (by omega) (by omega)
  have red : ∀ x : Int, 0 ≤ x → x < 2 * n → x % n = if x < n then x else x - n := fun x h0 h1 => by
    split
    · exact Int.emod_eq_of_lt h0 (by assumption)
    · rw [← Int.sub_emod_right]; exact Int.emod_eq_of_lt (by omega) (by omega)
  rcases cs with ⟨e0, e⟩ | ⟨e0, e⟩
  · rw [e]
    refine ⟨by omega, by omega, ?_, fun j hj => ?_⟩
    · rw [red _ (by omega) (by omega)]; split <;> omega
    · rw [red _ (by omega) (by omega)]; split <;> omega
  · rw [e]
    refine ⟨by omega, by omega, ?_, fun j hj => ?_⟩
    · rw [red _ (by omega) (by omega)]; split <;> omega
    · rw [red _ (by omega) (by omega)]; split <;> omega
section
variable {s : TC} (H : s.May)
include H
theorem kd_is : s.kd = 3 ∨ s.kd = 4 := by
  have _ := H
  unfold TC.kd; split; exact .inr rfl; exact .inl rfl
theorem ru_w : W32 s.ru := by have := H.r0; have := H.r1; have := H.t4; unfold W32; omega
theorem th_ww : W32 s.th := by have := H.t1; have := H.t4; unfold W32; omega
theorem blk_w (t : Nat) (ht : t < 4) (i : Nat) : W32 (s.blk t i) := by
  have _ := H
  unfold TC.blk
  split
  · unfold W32; omega
  · split
    · exact frm_fz.w
    · split
      · unfold W32; omega
      · unfold TC.ai W32; split <;> omega
/-- What lies elsewhere. -/
theorem fT_far : ∀ k a, (a + 4 ≤ 64 ∨ 64 + 16 * k ≤ a) → ldB (s.fT k) a 4 = ldB s.fB a 4
  | 0, _, _ => rfl
  | k + 1, a, h => by
    have _ := H.n2
    show ldB (ptB (s.fT k) (64 + 16 * k) (s.blk k) 4) a 4 = _
    rw [ld_ptf _ _ _ _ _ (by omega)]
    exact fT_far k a (by omega)
theorem fT_at : ∀ k, k ≤ 4 → ∀ t i, t < k → i < 4 → ldB (s.fT k) (64 + 16 * t + 4 * i) 4 = s.blk t i
  | 0, _, _, _, h, _ => absurd h (Nat.not_lt_zero _)
  | k + 1, hk, t, i, ht, hi => by
    show ldB (ptB (s.fT k) (64 + 16 * k) (s.blk k) 4) _ 4 = _
    by_cases e : t = k
    · subst e; exact ld_ptw _ _ _ (blk_w H t (by omega)) 4 i hi
    · rw [ld_ptf _ _ _ _ _ (by omega)]
      exact fT_at k (by omega) t i (by omega) hi
theorem mem_far {a : Nat} (h : a + 4 ≤ 64 ∨ 128 ≤ a) : ldB s.mem a 4 = ldB s.fB a 4 := fT_far H 4 a (by omega)
theorem mem_blk {t i : Nat} (ht : t < 4) (hi : i < 4) : ldB s.mem (64 + 16 * t + 4 * i) 4 = s.blk t i := fT_at H 4 (Nat.le_refl _) t i ht hi
theorem mem_pc {t : Nat} (ht : t < 4) : ldB s.mem (64 + 16 * t) 4 = 1700 + 4 * (t : Int) := mem_blk H (i := 0) ht (by decide)
theorem mem_sp {t : Nat} (ht : t < 4) : ldB s.mem (68 + 16 * t) 4 = frm (s.sk t) := by
  have := mem_blk H (i := 1) ht (by decide)
  rw [show 64 + 16 * t + 4 * 1 = 68 + 16 * t by omega] at this; exact this
theorem mem_al {t : Nat} (ht : t < 4) : ldB s.mem (76 + 16 * t) 4 = s.ai t := by
  have := mem_blk H (i := 3) ht (by decide)
  rw [show 64 + 16 * t + 4 * 3 = 76 + 16 * t by omega] at this; exact this
theorem mem_ru : ldB s.mem 128 4 = s.ru := by
  rw [mem_far H (by omega)]
  unfold TC.fB
  rw [ld_far (by omega)]
  exact ld_st (ru_w H)
theorem mem_th : ldB s.mem 132 4 = s.th := by
  rw [mem_far H (by omega)]
  exact ld_st (th_ww H)
theorem mem_tr : ldB s.mem 1536 4 = (tI s.kd).word := by
  rw [mem_far H (by omega)]
  unfold TC.fB
  rw [ld_far (by omega), ld_far (by omega)]
  exact ld_st (W8.xw_w (tI_all (kd_is H)).1)
theorem mem_z : ZMem s.nw s.mem := by
  have b1 : W32 (sBr 120).word := W8.xw_w (W8.sBr_b ⟨by decide, by decide⟩)
  have b2 : W32 (sBr 112).word := W8.xw_w (W8.sBr_b ⟨by decide, by decide⟩)
  refine ⟨?_, ?_, fun i hi => ?_⟩
  · rw [mem_far H (by omega)]
    unfold TC.fB zA
    rw [ld_far (by omega), ld_far (by omega), ld_far (by omega), ld_far (by omega)]
    exact ld_st b1
  · rw [mem_far H (by omega)]
    unfold TC.fB zA
    rw [ld_far (by omega), ld_far (by omega), ld_far (by omega)]
    exact ld_st b2
  · rw [mem_far H (by omega)]
    unfold TC.fB zA
    rw [ld_far (by omega), ld_far (by omega), ld_far (by omega), ld_far (by omega), ld_far (by omega), ld_ptw _ _ _ (zW_w H.n2 H.n32) _ _ hi]
    unfold zW
    rw [if_pos hi]
/-! The registers. -/
theorem loc14z {l b : Int} (h0 : 0 ≤ l) (h1 : l < s.nw) : F3.loc s.nw l b 14 < 512 ∧ F3.loc s.nw l b 14 = F3.loc s.nw l 0 14 := by
  have := H.n32
  constructor
  · unfold F3.loc
    rw [if_neg (by decide), if_pos (by decide)]
    split <;> omega
  · unfold F3.loc
    simp only [show ¬ ((14 : Int) < 8) by decide, show (14 : Int) < 16 by decide, if_true, if_false]
theorem zfR_fr : ∀ k : Nat, (k : Int) ≤ s.nw → ∀ l : Nat, l < k → Fz (s.fR k (F3.loc s.nw l 0 14))
  | 0, _, l, h => absurd h (Nat.not_lt_zero _)
  | k + 1, hk, l, h => by
    have _ := H.n2
    show Fz (F3.setR (s.fR k) s.nw k 0 14 (s.fp k) _)
    by_cases e : l = k
    · subst e
      unfold F3.setR
      rw [if_neg (by decide), F3.upd_same]
      exact frm_fz
    · rcases setR_orZ (s.fR k) s.nw k 0 14 (s.fp k) (F3.loc s.nw l 0 14) with h' | h'
      · rw [h']; exact frm_fz
      · rw [h']; exact zfR_fr k (by omega) l (by omega)
theorem R_fz {l b : Int} (h0 : 0 ≤ l) (h1 : l < s.nw) : Fz (s.R (F3.loc s.nw l b 14)) := by
  have h2 := H.n2
  obtain ⟨e1, e2⟩ := loc14z (b := b) H h0 h1
  rw [e2]
  have := zfR_fr H s.nw.toNat (by omega) l.toNat (by omega)
  rwa [Int.toNat_of_nonneg h0] at this
theorem zrR_hi : ∀ k j, 512 ≤ j → s.rR k j = 0
  | 0, _, _ => rfl
  | k + 1, j, h => by
    have h2 := H.n2
    have h32 := H.n32
    show F3.setR (s.rR k) s.nw ((k : Int) / 16 % s.nw) 0 (16 + (k : Int) % 16) (s.rg k) j = 0
    have e1 := Int.emod_nonneg ((k : Int) / 16) (b := s.nw) (by omega)
    have e2 := Int.emod_lt_of_pos ((k : Int) / 16) (b := s.nw) (by omega)
    unfold F3.setR
    rw [if_neg (by omega), F3.loc_own (by omega), F3.upd_ne _ _ (by omega)]
    exact zrR_hi k j h
theorem zfR_hi : ∀ k : Nat, (k : Int) ≤ s.nw → ∀ j, 512 ≤ j → s.fR k j = 0
  | 0, _, j, h => zrR_hi H _ j h
  | k + 1, hk, j, h => by
    show F3.setR (s.fR k) s.nw k 0 14 (s.fp k) j = 0
    have e1 := (loc14z (b := 0) H (l := k) (by omega) (by omega)).1
    unfold F3.setR
    rw [if_neg (by decide), F3.upd_ne _ _ (by omega)]
    exact zfR_hi k (by omega) j h
theorem R_hi {j : Nat} (h : 512 ≤ j) : s.R j = 0 := by have h2 := H.n2; exact zfR_hi H _ (by omega) j h
variable (B : TCB s)
include B
theorem zrR_w : ∀ k j, W32 (s.rR k j)
  | 0, _ => (⟨Int.le_refl _, by decide⟩ : W32 0)
  | k + 1, j => by
    have _ := H.n2
    exact setR_w (zrR_w k) _ _ _ _ _ (B.rg k) j
theorem zfR_w : ∀ k j, W32 (s.fR k j)
  | 0, j => zrR_w H B _ j
  | k + 1, j => setR_w (zfR_w k) _ _ _ _ _ frm_fz.w j
theorem z0_made : Z0 (mZ s) where
  n2 := H.n2
  n32 := H.n32
  sz := rfl
  c0 := H.c0
  c1 := H.c1
  p0 := B.pl.1
  p1 := H.pl
  f0 := B.fl.1
  f1 := H.fl
  sk := rfl
  bank := rfl
  g0 := R_hi H (by decide)
  RW := zfR_w H B _
/-! What the TRAP comes to. -/
/-- How many windows are stored. -/
def TC.d (s : TC) : Nat := ((s.iv - s.c) % s.nw).toNat
/-- Who is alive behind. -/
def TC.la (s : TC) (t : Nat) : Int := if s.en = true ∧ (t : Int) = s.ru then 0 else s.ai t
omit H B in
theorem la_01 (t : Nat) : s.la t = 0 ∨ s.la t = 1 := by
  unfold TC.la TC.ai
  split
  · exact .inl rfl
  · split
    · exact .inr rfl
    · exact .inl rfl
/-- The memory behind the first half. -/
def TC.fH (s : TC) : Nat → Int :=
  if s.en then stB s.mem (76 + 16 * s.ru.toNat) 4 0
  else stB (stB (stS s.R s.nw s.c s.mem s.d) (64 + 16 * s.ru.toNat) 4 1540) (68 + 16 * s.ru.toNat) 4 (s.R (F3.loc s.nw s.c 16 14))
theorem d_is : (s.d : Int) < s.nw ∧ 1 ≤ s.d ∧ (s.c + s.d) % s.nw = s.iv ∧ ∀ j : Nat, j < s.d → (s.c + j) % s.nw ≠ s.iv := by
  have _ := B
  exact d_num H.n2 H.c0 H.c1 H.i0 H.i1 H.ic
theorem ru_is : (s.ru.toNat : Int) = s.ru ∧ s.ru.toNat < 4 := by
  have _ := B
  have := H.r0
  have := H.r1
  have := H.t4
  omega
theorem frames_ok (j : Nat) : 1144 ≤ s.R (F3.loc s.nw ((s.c + j) % s.nw) 16 14) ∧ s.R (F3.loc s.nw ((s.c + j) % s.nw) 16 14) % 4 = 0 ∧ s.R (F3.loc s.nw ((s.c + j) % s.nw) 16 14) + 64 ≤ 8192 := by
  have _ := B
  have h2 := H.n2
  have := R_fz H (b := 16) (l := (s.c + j) % s.nw) (Int.emod_nonneg _ (by omega)) (Int.emod_lt_of_pos _ (by omega))
  unfold Fz at this
  omega
/-- What frames that are stored leave: all below 2048. -/
theorem stS_far (f : Nat → Int) {a : Nat} (ha : a + 4 ≤ 2048) : ∀ k, ldB (stS s.R s.nw s.c f k) a 4 = ldB f a 4
  | 0 => by have _ := B; rfl
  | k + 1 => by
    show ldB (ptB (stS s.R s.nw s.c f k) _ _ 16) a 4 = _
    have h2 := H.n2
    have := R_fz H (b := 16) (l := (s.c + k) % s.nw) (Int.emod_nonneg _ (by omega)) (Int.emod_lt_of_pos _ (by omega))
    unfold Fz at this
    rw [ld_ptf _ _ _ _ _ (by omega)]
    exact stS_far f ha k
theorem fH_far {a : Nat} (ha : a + 4 ≤ 2048) (hb : a + 4 ≤ 64 + 16 * s.ru.toNat ∨ 80 + 16 * s.ru.toNat ≤ a) : ldB s.fH a 4 = ldB s.mem a 4 := by
  unfold TC.fH
  split
  · exact ld_far (by omega)
  · rw [ld_far (by omega), ld_far (by omega)]; exact stS_far H B _ ha _
theorem fH_z : ZMem s.nw s.fH := by
  obtain ⟨r0, r4⟩ := ru_is H B
  unfold TC.fH
  split
  · exact (mem_z H).st (by omega) _
  · exact (((mem_z H).sts s.c s.d fun j _ => (frames_ok H B j).1).st (by omega) _).st (by omega) _
theorem fH_th : ldB s.fH 132 4 = s.th := by
  obtain ⟨r0, r4⟩ := ru_is H B
  rw [fH_far H B (by omega) (by omega)]; exact mem_th H
theorem fH_al {t : Nat} (ht : t < 4) : ldB s.fH (76 + 16 * t) 4 = s.la t := by
  obtain ⟨r0, r4⟩ := ru_is H B
  by_cases e : t = s.ru.toNat
  · subst e
    unfold TC.fH TC.la
    by_cases he : s.en = true
    · rw [if_pos he, if_pos ⟨he, r0⟩]
      exact ld_st ⟨Int.le_refl _, by decide⟩
    · rw [if_neg he, if_neg (fun h => he h.1), ld_far (by omega), ld_far (by omega), stS_far H B _ (by omega)]
      exact mem_al H ht
  · rw [fH_far H B (by omega) (by omega), mem_al H ht]
    unfold TC.la
    rw [if_neg (fun h => e (by omega))]
theorem fH_sp {t : Nat} (ht : t < 4) : Fz (ldB s.fH (68 + 16 * t) 4) := by
  obtain ⟨r0, r4⟩ := ru_is H B
  by_cases e : t = s.ru.toNat
  · subst e
    unfold TC.fH
    split
    · rw [ld_far (by omega), mem_sp H r4]; exact frm_fz
    · have := R_fz H (b := 16) H.c0 H.c1
      rw [ld_st this.w]; exact this
  · rw [fH_far H B (by omega) (by omega), mem_sp H ht]; exact frm_fz
/-- The first half. -/
theorem half (t : Int) : ∃ m g k, Zd (mZ s) s.c (mZ s).wim (768 + 4 * ((39 : Nat) : Int)) s.fl 1540 s.fH s.R g 1 m ∧ K6.Reach t (mZ s) k m ∧ k ≤ 24 * (s.d : Int) + 17 := by
  have Z := z0_made H B
  have hM := mem_z H
  obtain ⟨r0, r4⟩ := ru_is H B
  have g0 : s.R 640 = 0 := R_hi H (by decide)
  obtain ⟨d1, d2, d3, d4⟩ := d_is H B
  obtain ⟨s0, q0⟩ := into (t := t) Z hM rfl (kd_is H) (mem_tr H)
  by_cases he : s.en = true
  · have hk : s.kd = 4 := by unfold TC.kd; rw [if_pos he]
    rw [hk] at s0
    obtain ⟨m', g', s1, q1⟩ := end_mid (t := t) Z hM g0 s0 r4 (by rw [r0]; exact mem_ru H)
    have ef : s.fH = stB s.mem (76 + 16 * s.ru.toNat) 4 0 := by unfold TC.fH; rw [if_pos he]
    exact ⟨m', g', 4 + 2, by rw [ef]; exact s1, q0.trans q1, by omega⟩
  · have hk : s.kd = 3 := by unfold TC.kd; rw [if_neg he]
    rw [hk] at s0
    have s0 : Zd (mZ s) s.c (P4.pw s.iv.toNat) (768 + 4 * ((4 : Nat) : Int)) s.fl 1540 s.mem s.R (fun r => s.R (640 + r)) 1 _ := s0
    obtain ⟨p1, p2, p3⟩ := pword_cut s.c s.pl s.fl H.c0 (by have := H.c1; have := H.n32; omega) B.pl.1 H.pl B.fl.1 H.fl 16 (by decide) (by decide)
    have s1 := s0.rd Z hM (by decide) rfl
    have s2 := s1.alu Z hM g0 (by decide) (d := 3) rfl s.c (by decide) (by decide) (by decide) (by decide) rfl (by
      show bits .and .u32 (P4.pword s.c s.pl 16 s.fl) 31 = s.c
      rw [I2.and_5 _ p1, p2])
    have s3 := s2.alu Z hM g0 (by decide) (d := 2) rfl (P4.pword 0 s.pl 16 s.fl) (by decide) (by decide) (by decide) (by decide) rfl (by
      show (P4.pword s.c s.pl 16 s.fl - s.c) % 4294967296 = _
      exact p3)
    have r1 := (Zd.reach (t := t) s3)
    obtain ⟨m4, c4, fl4, g4, s4, hc4, e2, e3, q4⟩ := loop_st (t := t) Z hM g0 (iv := s.iv.toNat) (by have := H.i0; have := H.i1; show ((s.iv.toNat : Nat) : Int) < s.nw; omega) (x := s.c) ⟨H.c0, H.c1⟩ s3 ⟨H.c0, H.c1⟩ rfl rfl s.d fun j hj => ⟨by have h0 := H.i0; rw [show ((s.iv.toNat : Nat) : Int) = s.iv by omega]; exact d4 j hj, frames_ok H B j⟩
    have hM4 : ZMem s.nw (stS s.R s.nw s.c s.mem s.d) := hM.sts s.c s.d fun j _ => (frames_ok H B j).1
    obtain ⟨m5, g5, s5, q5⟩ := yield_mid (t := t) Z hM4 g0 (iv := s.iv.toNat) (by have := H.i0; have := H.i1; show ((s.iv.toNat : Nat) : Int) < s.nw; omega) s4 e2 (by rw [e3]; have := H.i0; rw [show ((s.iv.toNat : Nat) : Int) = s.iv by omega]; exact d3) r4 (by rw [stS_far H B _ (by omega), r0]; exact mem_ru H)
    have ef : s.fH = stB (stB (stS s.R s.nw s.c s.mem s.d) (64 + 16 * s.ru.toNat) 4 1540) (68 + 16 * s.ru.toNat) 4 (s.R (F3.loc s.nw s.c 16 14)) := by unfold TC.fH; rw [if_neg he]
    refine ⟨m5, g5, 12 + (24 * s.d + (1 + (1 + (1 + 2)))), by rw [ef]; exact s5, (((((q0.trans (Zd.reach (t := t) s1)).trans (Zd.reach (t := t) s2)).trans r1).trans q4).trans q5), ?_⟩
    push_cast
    omega
/-- The whole: thread T goes on, the one that the choice names. -/
theorem whole {T : Nat} (hT : (T : Int) < s.th) (h1 : s.la T = 1) (hx : cntA s.la T = s.ch % cntA s.la s.th.toNat) (hpos : 0 < cntA s.la s.th.toNat) :
    ∃ e k, Zn (mZ s) (P4.pw ((s.c + 1) % s.nw).toNat) (ldB s.fH (64 + 16 * T) 4) (nxF s.fH T) (nxR s.nw s.c s.fH s.R T) e ∧ Runs (ldB s.fH (64 + 16 * T) 4) k (mZ s) e ∧ (k : Int) ≤ 24 * (s.d : Int) + 103 := by
  have Z := z0_made H B
  have t4 := H.t4
  have t1 := H.t1
  have hz := fH_z H B
  obtain ⟨m, g, k, s1, q1, hk⟩ := half H B (ldB s.fH (64 + 16 * T) 4)
  have f := fH_sp H B (t := T) (by omega)
  unfold Fz at f
  obtain ⟨e, k2, z, q2, hk2⟩ := goes (m0 := mZ s) Z hz (R_hi H (by decide)) s1 (Nat.zero_lt_one) B.ch (n := s.th.toNat) (T := T) ⟨by omega, by omega⟩ (by rw [fH_th H B]; omega) (al := s.la) (fun j hj => ⟨fH_al H B (by omega), la_01 j⟩) h1 hx hpos f.1 (by omega) f.2.2
  exact ⟨e, k2 + k, z, q1 _ _ q2, by push_cast; omega⟩
end
end Go.Proofs.YtiobgnelhiadbaaGreatDoor.S10
