/- The instructions of the handlers of window traps (layer 8), as the document has them. AsmConst's arithmetic: what a machine of two windows comes to that does a constant's instructions. WindTurns' and WindBack's arithmetic (layer 8): what a machine comes to that does a handler of window traps. The handlers of window traps as wholes: what a SAVE, or a RESTORE, that traps comes to. The instructions of the handlers of yield and end (layer 10), as the machine has them. -/
import Derived.Test.YtiobgnelhiadbaaGreatDoorVAsmG
import Derived.Test.YtiobgnelhiadbaaGreatDoorVMachGA
import Derived.Test.YtiobgnelhiadbaaGreatDoorVMachGI
namespace Go.Proofs.YtiobgnelhiadbaaGreatDoor.W8
open Go.RowKit
open A7 (XI XB)
set_option linter.unusedVariables false
def sRd : XI := ⟨26, 1, 0, 0, false, 0⟩
def sAn : XI := ⟨6, 2, 1, 0, true, 31⟩
def sSb : XI := ⟨2, 1, 1, 2, false, 0⟩
def sGo (k : Int) : XI := ⟨1, 2, 2, 0, true, k⟩
def sRm (k : Int) : XI := ⟨5, 2, 2, 0, true, k⟩
def sEn : XI := ⟨27, 0, 1, 2, false, 0⟩
def sFr (o : Int) (i : Nat) : XI := ⟨o, 16 + (i : Int), 14, 0, true, 4 * (i : Int)⟩
def sOn : XI := ⟨1, 3, 0, 0, true, 1⟩
def sSh : XI := ⟨9, 3, 3, 2, false, 0⟩
def sIn : XI := ⟨29, 0, 3, 0, true, 0⟩
def sRt : XI := ⟨32, 0, 0, 0, false, 0⟩
/-- The vectors' branches; the instruction that traps. -/
def sBr (k : Int) : XI := ⟨17, 0, 0, 0, true, k⟩
def spL : List XI := [sRd, sAn, sSb]
def ahL (k nw : Int) : List XI := [sGo k, sRm nw]
def frL (o : Int) : List XI := (List.range 16).map (sFr o)
def inL : List XI := [sOn, sSh, sIn]
def oL (nw : Int) : List XI := spL ++ (ahL (nw - 2) nw ++ ([sEn] ++ (frL 23 ++ (inL ++ [sRt]))))
def uL (nw : Int) : List XI := spL ++ (ahL 1 nw ++ ([sEn] ++ (frL 22 ++ (ahL 1 nw ++ (inL ++ [sRt])))))
def wL (nw : Int) : List XI := oL nw ++ uL nw
def gX (L : List XI) (i : Nat) : XI := L.getD i sRt
theorem gX_mem {L : List XI} {i : Nat} (h : i < L.length) : gX L i ∈ L := by
  unfold gX
  rw [List.getD_eq_getElem?_getD, List.getElem?_eq_getElem h]
  exact List.getElem_mem h
theorem sBr_b {k : Int} (h : 0 ≤ k ∧ k ≤ 200) : XB (sBr k) := ⟨by show (0 : Int) ≤ 17 ∧ (17 : Int) ≤ 255; decide, by show (0 : Int) ≤ 0 ∧ (0 : Int) ≤ 255; decide, by show (0 : Int) ≤ 0 ∧ (0 : Int) ≤ 255; decide, by show (0 : Int) ≤ 0 ∧ (0 : Int) ≤ 255; decide, by show -2147483648 ≤ k ∧ k ≤ 2147483647; omega⟩
theorem sFr_b {o : Int} (ho : o = 22 ∨ o = 23) {i : Nat} (h : i < 16) : XB (sFr o i) := ⟨by show 0 ≤ o ∧ o ≤ 255; omega, by show 0 ≤ 16 + (i : Int) ∧ 16 + (i : Int) ≤ 255; omega, by show (0 : Int) ≤ 14 ∧ (14 : Int) ≤ 255; decide, by show (0 : Int) ≤ 0 ∧ (0 : Int) ≤ 255; decide, by show -2147483648 ≤ 4 * (i : Int) ∧ 4 * (i : Int) ≤ 2147483647; omega⟩
theorem sBr_may {k : Int} (h : 0 ≤ k ∧ k ≤ 200) : (sBr k).may = true := by
  show decide (I2.MayT 17 0 0 0 k) = true
  exact decide_eq_true ⟨rfl, .inr (.inr (.inr (.inl ⟨rfl, by omega, rfl, by omega, by omega⟩)))⟩
theorem sFr_may {o : Int} (ho : o = 22 ∨ o = 23) {i : Nat} (h : i < 16) : (sFr o i).may = true := by
  show decide (I2.MayT o (16 + (i : Int)) 14 0 (4 * (i : Int))) = true
  exact decide_eq_true ⟨rfl, .inl ⟨.inr (by omega), by omega, by omega, by omega, by omega⟩⟩
section
variable {nw : Int} (h2 : 2 ≤ nw) (h32 : nw ≤ 32)
include h2 h32
end
theorem xw_w {x : XI} (h : XB x) : 0 ≤ x.word ∧ x.word < 4294967296 := I2.eW_bd h.o h.d h.s h.t
end Go.Proofs.YtiobgnelhiadbaaGreatDoor.W8
namespace Go.Proofs.YtiobgnelhiadbaaGreatDoor.K6
open Go.RowKit
set_option linter.unusedVariables false
theorem ld_st {f : Nat → Int} {a : Nat} {v : Int} (hv : W32 v) : ldB (stB f a 4 v) a 4 = v := by
  obtain ⟨h0, h1⟩ := hv
  have e : ∀ k, k < 4 → stB f a 4 v (a + k) = v / 256 ^ (3 - k) % 256 := fun k hk => by
    unfold stB; rw [if_pos (by omega), show a + 4 - 1 - (a + k) = 3 - k by omega]
  simp only [ldB]
  rw [e 0 (by decide), e 1 (by decide), e 2 (by decide), e 3 (by decide)]
  simp only [Nat.sub_zero, show 3 - 1 = 2 from rfl, show 3 - 2 = 1 from rfl, show 3 - 3 = 0 from rfl]
  have p3 : (256 : Int) ^ 3 = 16777216 := rfl
  have p2 : (256 : Int) ^ 2 = 65536 := rfl
  have p1 : (256 : Int) ^ 1 = 256 := rfl
  have p0 : (256 : Int) ^ 0 = 1 := rfl
  rw [p3, p2, p1, p0]
  omega
theorem ld_far {f : Nat → Int} {a c : Nat} {v : Int} (h : c + 4 ≤ a ∨ a + 4 ≤ c) : ldB (stB f a 4 v) c 4 = ldB f c 4 := by
  have e : ∀ k, k < 4 → stB f a 4 v (c + k) = f (c + k) := fun k hk => by unfold stB; rw [if_neg (by omega)]
  simp only [ldB]
  rw [e 0 (by decide), e 1 (by decide), e 2 (by decide), e 3 (by decide)]
open A7 in
/-- The machine that has a constant's words. -/
def c0 (g : Nat → Int) (k : Nat) : MS := { mnew 2 64 with f := ptB (fun _ => 0) 0 g k }
/-- A step at a word that lies at the PC. -/
theorem step_word {m : MS} {x : A7.XI} (hx : A7.XB x) (hm : x.may = true) (hs : m.sk = 0) (hp : 0 ≤ m.pil) (ht : thE m.sz m.pc 4 = 0) (hw : ldB m.f m.pc.toNat 4 = x.word) :
    mstep m 0 = mExec m x.o x.d x.n (m.get x.s) (if x.b then x.n % 4294967296 else m.get x.t) ∧ I2.dO (ldB m.f m.pc.toNat 4) = x.o := by
  have e : x.word = I2.enc x.o x.d x.s x.t x.b x.n := I2.eW_yes hm
  obtain ⟨d1, d2, d3, d4, d5, d6, d7⟩ := I2.back_enc hx.o hx.d hx.s hx.t hm
  rw [hw, e]
  refine ⟨?_, d2⟩
  unfold mstep
  rw [if_neg (by simpa using hs), if_neg (by omega), if_pos ht, hw, e]
  unfold mWord
  rw [d1, d2, d3, d4, d5, d6, d7]
  rfl
section
variable {rd u : Int} (hr : 0 ≤ rd ∧ rd ≤ 31) (hu : W32 u)
include hr hu
end
end Go.Proofs.YtiobgnelhiadbaaGreatDoor.K6
namespace Go.Proofs.YtiobgnelhiadbaaGreatDoor.K6
open Go.RowKit W8
set_option linter.unusedVariables false
/-- The memory that made lays, as far as it is code. -/
structure WMem (nw : Int) (f : Nat → Int) : Prop where
  v1 : ldB f 272 4 = (sBr 124).word
  v2 : ldB f 288 4 = (sBr 146).word
  h : ∀ i, i < 54 → ldB f (768 + 4 * i) 4 = (gX (wL nw) i).word
/-- Steps of a machine that do not come to a place, in the bank 0, and do not stop. -/
inductive Runs (t : Int) : Nat → MS → MS → Prop
  | last {m : MS} : (mstep m 0).sk = 0 → (mstep m 0).pc = t → (mstep m 0).bank = 0 → Runs t 1 m (mstep m 0)
  | more {m e : MS} {n : Nat} : (mstep m 0).sk = 0 → ¬ ((mstep m 0).pc = t ∧ (mstep m 0).bank = 0) → Runs t n (mstep m 0) e → Runs t (n + 1) m e
def Reach (t : Int) (m : MS) (n : Nat) (e : MS) : Prop := ∀ k e', Runs t k e e' → Runs t (k + n) m e'
theorem Reach.zero (t : Int) (m : MS) : Reach t m 0 m := fun _ _ h => h
theorem Reach.one {t : Int} {m : MS} (h : (mstep m 0).sk = 0) (hn : ¬ ((mstep m 0).pc = t ∧ (mstep m 0).bank = 0)) : Reach t m 1 (mstep m 0) := fun _ _ r => .more h hn r
theorem Reach.trans {t : Int} {m e e' : MS} {n k : Nat} (h : Reach t m n e) (h' : Reach t e k e') : Reach t m (k + n) e' := fun j x r => by
  have := h _ _ (h' j x r)
  rw [Nat.add_assoc] at this
  exact this
theorem th_w {sz : Nat} {a : Int} (h0 : 0 ≤ a) (h : a % 4 = 0) (h1 : a + 4 ≤ sz) : thE sz a 4 = 0 := by
  unfold thE; rw [if_neg (by omega), if_neg (by omega), if_neg (by omega)]
/-- What a machine has that may be in a handler. -/
structure W0 (m0 : MS) : Prop where
  n2 : 2 ≤ m0.nw
  n32 : m0.nw ≤ 32
  sz : m0.sz = 4096
  c0 : 0 ≤ m0.cwp
  c1 : m0.cwp < m0.nw
  p0 : 0 ≤ m0.pil
  p1 : m0.pil ≤ 15
  f0 : 0 ≤ m0.fl
  f1 : m0.fl ≤ 15
  sk : m0.sk = 0
  bank : m0.bank = 0
  g0 : m0.R 640 = 0
  RW : ∀ j, W32 (m0.R j)
  mem : WMem m0.nw m0.f
section
variable {m0 m : MS} {c v y : Int} {f R : Nat → Int} {a b d : Int} {i : Nat} {t : Int}
theorem set_gR {m : MS} (hb : m.bank = 16) (r : Nat) (h0 : 1 ≤ r) (h1 : r < 8) (u : Int) : (m.set r u).R = F3.upd m.R (640 + r) u := by
  show F3.setR m.R m.nw m.cwp m.bank r u = _
  unfold F3.setR
  rw [if_neg (by omega), hb, F3.loc_global (by omega)]
  congr 1
theorem get_own {m : MS} {c : Int} (hc : m.cwp = c) (h0 : 0 ≤ c) (j : Nat) : m.get (16 + (j : Int)) = m.R ((16 * c).toNat + j) := by
  unfold MS.get
  rw [hc, F3.loc_own (by omega)]
  congr 1
  omega
/-- A window's own registers, as many as were loaded. -/
def ldR (R f : Nat → Int) (c : Int) (s k : Nat) : Nat → Int := fun j => if (16 * c).toNat ≤ j ∧ j < (16 * c).toNat + k then ldB f (s + 4 * (j - (16 * c).toNat)) 4 else R j
theorem ldR_zero (R f : Nat → Int) (c : Int) (s : Nat) : ldR R f c s 0 = R := by funext j; unfold ldR; rw [if_neg (by omega)]
end
end Go.Proofs.YtiobgnelhiadbaaGreatDoor.K6
namespace Go.Proofs.YtiobgnelhiadbaaGreatDoor.K6
open Go.RowKit W8
set_option linter.unusedVariables false
section
variable {m0 m : MS} {c v y : Int} {f R : Nat → Int} {a b d : Int} {i : Nat} {t : Int}
end
end Go.Proofs.YtiobgnelhiadbaaGreatDoor.K6
namespace Go.Proofs.YtiobgnelhiadbaaGreatDoor.S10
open Go.RowKit
open A7 (XI XB)
open W8 (sFr gX gX_mem sBr frL)
set_option linter.unusedVariables false
def yI (o d s t : Int) : XI := ⟨o, d, s, t, false, 0⟩
def nI (o d s n : Int) : XI := ⟨o, d, s, 0, true, n⟩
def bI (c k : Int) : XI := ⟨17, c, 0, 0, true, k⟩
/-! The pieces of both handlers. -/
def rnL : List XI := [nI 22 4 0 128, nI 3 4 4 16]
def spL : List XI := [yI 26 2 0 0, nI 6 3 2 31, yI 2 2 2 3]
def ciL : List XI := [yI 28 1 0 0, yI 10 1 1 3, nI 16 0 1 1]
def enL : List XI := [yI 27 0 2 3]
def ahL (nw : Int) : List XI := [nI 1 3 3 1, nI 5 3 3 nw]
def cbL : List XI := [nI 30 3 0 1, nI 6 3 3 31, yI 27 0 2 3]
def paL : List XI := [nI 30 1 0 0, nI 23 1 4 64, nI 23 14 4 68]
def bcL : List XI := [nI 22 5 0 132, nI 3 5 5 16, nI 1 6 0 0, nI 1 4 0 0]
def coL : List XI := [nI 22 1 4 76, yI 1 6 6 1]
def nbL : List XI := [nI 1 4 4 16]
def cyL : List XI := [yI 16 0 4 5]
def chL : List XI := [yI 34 7 0 0, nI 6 1 7 1, nI 10 7 7 1, yI 5 7 7 6, yI 1 7 7 7, yI 1 7 7 1, yI 5 7 7 6, nI 1 4 0 0]
def poL : List XI := [nI 22 1 4 76, yI 2 7 7 1, nI 16 0 7 0]
def mrL : List XI := [nI 4 1 4 16, nI 23 1 0 128, nI 22 1 4 72, nI 23 1 0 136, nI 22 14 4 68]
def ivL : List XI := [nI 1 1 0 1, yI 9 1 1 3, nI 29 0 1 0]
def goL : List XI := [nI 22 1 4 64, nI 31 0 1 0, yI 32 0 0 0]
/-- The whole; each branch with the way that it goes. -/
def zL (nw : Int) : List XI :=
  (rnL ++ [nI 23 0 4 76] ++ [bI 0 36] ++ spL) ++ (ciL ++ [bI 1 21] ++ enL) ++ frL 23 ++ (ahL nw ++ [bI 0 (-23)]) ++ (cbL ++ rnL ++ paL ++ bcL) ++ (coL ++ nbL ++ cyL ++ [bI 5 (-4)]) ++ chL ++ (poL ++ [bI 3 3] ++ nbL ++ [bI 0 (-5)]) ++ (mrL ++ spL ++ ahL nw ++ ivL) ++ frL 22 ++ goL
theorem zL_len (nw : Int) : (zL nw).length = 94 := rfl
theorem st_fr (nw : Int) (i : Nat) (h : i < 16) : gX (zL nw) (12 + i) = sFr 23 i := by
  rcases (by omega : i = 0 ∨ i = 1 ∨ i = 2 ∨ i = 3 ∨ i = 4 ∨ i = 5 ∨ i = 6 ∨ i = 7 ∨ i = 8 ∨ i = 9 ∨ i = 10 ∨ i = 11 ∨ i = 12 ∨ i = 13 ∨ i = 14 ∨ i = 15) with rfl | rfl | rfl | rfl | rfl | rfl | rfl | rfl | rfl | rfl | rfl | rfl | rfl | rfl | rfl | rfl <;> rfl
theorem ld_fr (nw : Int) (i : Nat) (h : i < 16) : gX (zL nw) (75 + i) = sFr 22 i := by
  rcases (by omega : i = 0 ∨ i = 1 ∨ i = 2 ∨ i = 3 ∨ i = 4 ∨ i = 5 ∨ i = 6 ∨ i = 7 ∨ i = 8 ∨ i = 9 ∨ i = 10 ∨ i = 11 ∨ i = 12 ∨ i = 13 ∨ i = 14 ∨ i = 15) with rfl | rfl | rfl | rfl | rfl | rfl | rfl | rfl | rfl | rfl | rfl | rfl | rfl | rfl | rfl | rfl <;> rfl
/-- Registers from 0 to 31, an Imm of at most 200. -/
def okI (x : XI) : Bool := decide (1 ≤ x.o ∧ x.o ≤ 37 ∧ 0 ≤ x.d ∧ x.d ≤ 31 ∧ 0 ≤ x.s ∧ x.s ≤ 31 ∧ 0 ≤ x.t ∧ x.t ≤ 31 ∧ -200 ≤ x.n ∧ x.n ≤ 200)
theorem okI_b {x : XI} (h : okI x = true) : XB x := by
  have := of_decide_eq_true h
  exact ⟨by omega, by omega, by omega, by omega, by omega⟩
section
variable {nw : Int} (h2 : 2 ≤ nw) (h32 : nw ≤ 32)
include h2 h32
theorem zL_all (P : XI → Prop) (hf : ∀ o, o = 22 ∨ o = 23 → ∀ i, i < 16 → P (sFr o i)) (hr : ∀ k, 2 ≤ k ∧ k ≤ 32 → P (nI 5 3 3 k)) (h : ∀ x ∈ rnL ++ [nI 23 0 4 76, bI 0 36, bI 1 21, bI 0 (-23), nI 1 3 3 1, bI 5 (-4), bI 3 3, bI 0 (-5)] ++ spL ++ ciL ++ enL ++ cbL ++ paL ++ bcL ++ coL ++ nbL ++ cyL ++ chL ++ poL ++ mrL ++ ivL ++ goL, P x) : ∀ x ∈ zL nw, P x := by
  have e2 : ∀ x ∈ ahL nw, P x := by
    intro x hx
    simp only [ahL, List.mem_cons, List.not_mem_nil, or_false] at hx
    rcases hx with rfl | rfl
    · exact h _ (by simp)
    · exact hr _ ⟨h2, h32⟩
  have e3 : ∀ o, o = 22 ∨ o = 23 → ∀ x ∈ frL o, P x := by intro o ho x hx; simp only [frL, List.mem_map, List.mem_range] at hx; obtain ⟨i, hi, rfl⟩ := hx; exact hf o ho i hi
  intro x hx
  simp only [zL, List.mem_append] at hx
  simp only [List.mem_append] at h
  rcases hx with (((((((((hx | hx) | hx) | hx) | hx) | hx) | hx) | hx) | hx) | hx) | hx
  · rcases hx with ((hx | hx) | hx) | hx
    · exact h x (by simp [hx])
    · exact h x (by simp only [List.mem_singleton] at hx; subst hx; simp)
    · exact h x (by simp only [List.mem_singleton] at hx; subst hx; simp)
    · exact h x (by simp [hx])
  · rcases hx with (hx | hx) | hx
    · exact h x (by simp [hx])
    · exact h x (by simp only [List.mem_singleton] at hx; subst hx; simp)
    · exact h x (by simp [hx])
  · exact e3 23 (.inr rfl) x hx
  · rcases hx with hx | hx
    · exact e2 x hx
    · exact h x (by simp only [List.mem_singleton] at hx; subst hx; simp)
  · rcases hx with ((hx | hx) | hx) | hx <;> exact h x (by simp [hx])
  · rcases hx with ((hx | hx) | hx) | hx
    · exact h x (by simp [hx])
    · exact h x (by simp [hx])
    · exact h x (by simp [hx])
    · exact h x (by simp only [List.mem_singleton] at hx; subst hx; simp)
  · exact h x (by simp [hx])
  · rcases hx with ((hx | hx) | hx) | hx
    · exact h x (by simp [hx])
    · exact h x (by simp only [List.mem_singleton] at hx; subst hx; simp)
    · exact h x (by simp [hx])
    · exact h x (by simp only [List.mem_singleton] at hx; subst hx; simp)
  · rcases hx with ((hx | hx) | hx) | hx
    · exact h x (by simp [hx])
    · exact h x (by simp [hx])
    · exact e2 x hx
    · exact h x (by simp [hx])
  · exact e3 22 (.inl rfl) x hx
  · exact h x (by simp [hx])
omit h2 h32 in
theorem rm_may {k : Int} (h : 2 ≤ k ∧ k ≤ 32) : (nI 5 3 3 k).may = true := by
  show decide (I2.MayT 5 3 3 0 k) = true
  exact decide_eq_true ⟨rfl, .inl ⟨.inl (by omega), by omega, by omega, by omega, by omega⟩⟩
theorem zL_b : ∀ x ∈ zL nw, XB x := zL_all h2 h32 XB (fun _ ho _ => W8.sFr_b ho) (fun k hk => ⟨by show (0 : Int) ≤ 5 ∧ (5 : Int) ≤ 255; decide, by show (0 : Int) ≤ 3 ∧ (3 : Int) ≤ 255; decide, by show (0 : Int) ≤ 3 ∧ (3 : Int) ≤ 255; decide, by show (0 : Int) ≤ 0 ∧ (0 : Int) ≤ 255; decide, by show -2147483648 ≤ k ∧ k ≤ 2147483647; omega⟩) (fun x hx => okI_b (by
  have : ∀ x ∈ rnL ++ [nI 23 0 4 76, bI 0 36, bI 1 21, bI 0 (-23), nI 1 3 3 1, bI 5 (-4), bI 3 3, bI 0 (-5)] ++ spL ++ ciL ++ enL ++ cbL ++ paL ++ bcL ++ coL ++ nbL ++ cyL ++ chL ++ poL ++ mrL ++ ivL ++ goL, okI x = true := List.all_eq_true.1 (by kernel_rfl)
  exact this x hx))
theorem zL_may : ∀ x ∈ zL nw, x.may = true := zL_all h2 h32 (fun x => x.may = true) (fun _ ho _ => W8.sFr_may ho) (fun k hk => rm_may hk) (fun x hx => by
  have : ∀ x ∈ rnL ++ [nI 23 0 4 76, bI 0 36, bI 1 21, bI 0 (-23), nI 1 3 3 1, bI 5 (-4), bI 3 3, bI 0 (-5)] ++ spL ++ ciL ++ enL ++ cbL ++ paL ++ bcL ++ coL ++ nbL ++ cyL ++ chL ++ poL ++ mrL ++ ivL ++ goL, x.may = true := List.all_eq_true.1 (by kernel_rfl)
  exact this x hx)
end
/-- The instruction that traps. -/
def tI (k : Int) : XI := ⟨33, 0, 0, 0, true, k⟩
theorem tI_all {k : Int} (h : k = 3 ∨ k = 4) : XB (tI k) ∧ (tI k).may = true := by
  rcases h with rfl | rfl <;> exact ⟨⟨by decide, by decide, by decide, by decide, by decide⟩, by kernel_rfl⟩
end Go.Proofs.YtiobgnelhiadbaaGreatDoor.S10
