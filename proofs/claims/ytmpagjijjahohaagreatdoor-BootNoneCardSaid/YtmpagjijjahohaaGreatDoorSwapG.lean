/- The instructions of the handlers of yield and end (layer 10), as the machine has them. -/
import Derived.Test.YtmpagjijjahohaaGreatDoorWindG
namespace Go.Proofs.YtmpagjijjahohaaGreatDoor.S10
open Go.RowKit
open A7 (XI XB)
open W8 (sFr gX gX_mem sBr frL)
set_option linter.unusedVariables false
def yI (o d s t : Int) : XI := ⟨o, d, s, t, false, 0⟩
def nI (o d s n : Int) : XI := ⟨o, d, s, 0, true, n⟩
def bI (c k : Int) : XI := ⟨17, c, 0, 0, true, k⟩
/-! The pieces of both handlers. -/
def rnL : List XI := [nI 22 4 0 128, nI 3 4 4 16]
def spL : List XI := [yI 26 2 0 0, nI 6 3 2 31, yI 2 2 2 3]
def ciL : List XI := [yI 28 1 0 0, yI 10 1 1 3, nI 16 0 1 1]
def enL : List XI := [yI 27 0 2 3]
def ahL (nw : Int) : List XI := [nI 1 3 3 1, nI 5 3 3 nw]
def cbL : List XI := [nI 30 3 0 1, nI 6 3 3 31, yI 27 0 2 3]
def paL : List XI := [nI 30 1 0 0, nI 23 1 4 64, nI 23 14 4 68]
def bcL : List XI := [nI 22 5 0 132, nI 3 5 5 16, nI 1 6 0 0, nI 1 4 0 0]
def coL : List XI := [nI 22 1 4 76, yI 1 6 6 1]
def nbL : List XI := [nI 1 4 4 16]
def cyL : List XI := [yI 16 0 4 5]
def chL : List XI := [yI 34 7 0 0, nI 6 1 7 1, nI 10 7 7 1, yI 5 7 7 6, yI 1 7 7 7, yI 1 7 7 1, yI 5 7 7 6, nI 1 4 0 0]
def poL : List XI := [nI 22 1 4 76, yI 2 7 7 1, nI 16 0 7 0]
def mrL : List XI := [nI 4 1 4 16, nI 23 1 0 128, nI 22 1 4 72, nI 23 1 0 136, nI 22 14 4 68]
def ivL : List XI := [nI 1 1 0 1, yI 9 1 1 3, nI 29 0 1 0]
def goL : List XI := [nI 22 1 4 64, nI 31 0 1 0, yI 32 0 0 0]
/-- The whole; each branch with the way that it goes. -/
def zL (nw : Int) : List XI :=
  (rnL ++ [nI 23 0 4 76] ++ [bI 0 36] ++ spL) ++ (ciL ++ [bI 1 21] ++ enL) ++ frL 23 ++ (ahL nw ++ [bI 0 (-23)]) ++ (cbL ++ rnL ++ paL ++ bcL) ++ (coL ++ nbL ++ cyL ++ [bI 5 (-4)]) ++ chL ++ (poL ++ [bI 3 3] ++ nbL ++ [bI 0 (-5)]) ++ (mrL ++ spL ++ ahL nw ++ ivL) ++ frL 22 ++ goL
theorem zL_len (nw : Int) : (zL nw).length = 94 := rfl
theorem st_fr (nw : Int) (i : Nat) (h : i < 16) : gX (zL nw) (12 + i) = sFr 23 i := by
  rcases (by omega : i = 0 ∨ i = 1 ∨ i = 2 ∨ i = 3 ∨ i = 4 ∨ i = 5 ∨ i = 6 ∨ i = 7 ∨ i = 8 ∨ i = 9 ∨ i = 10 ∨ i = 11 ∨ i = 12 ∨ i = 13 ∨ i = 14 ∨ i = 15) with rfl | rfl | rfl | rfl | rfl | rfl | rfl | rfl | rfl | rfl | rfl | rfl | rfl | rfl | rfl | rfl <;> rfl
theorem ld_fr (nw : Int) (i : Nat) (h : i < 16) : gX (zL nw) (75 + i) = sFr 22 i := by
  rcases (by omega : i = 0 ∨ i = 1 ∨ i = 2 ∨ i = 3 ∨ i = 4 ∨ i = 5 ∨ i = 6 ∨ i = 7 ∨ i = 8 ∨ i = 9 ∨ i = 10 ∨ i = 11 ∨ i = 12 ∨ i = 13 ∨ i = 14 ∨ i = 15) with rfl | rfl | rfl | rfl | rfl | rfl | rfl | rfl | rfl | rfl | rfl | rfl | rfl | rfl | rfl | rfl <;> rfl
/-- Registers from 0 to 31, an Imm of at most 200. -/
def okI (x : XI) : Bool := decide (1 ≤ x.o ∧ x.o ≤ 37 ∧ 0 ≤ x.d ∧ x.d ≤ 31 ∧ 0 ≤ x.s ∧ x.s ≤ 31 ∧ 0 ≤ x.t ∧ x.t ≤ 31 ∧ -200 ≤ x.n ∧ x.n ≤ 200)
theorem okI_b {x : XI} (h : okI x = true) : XB x := by
  have := of_decide_eq_true h
  exact ⟨by omega, by omega, by omega, by omega, by omega⟩
section
variable {nw : Int} (h2 : 2 ≤ nw) (h32 : nw ≤ 32)
include h2 h32
theorem zL_all (P : XI → Prop) (hf : ∀ o, o = 22 ∨ o = 23 → ∀ i, i < 16 → P (sFr o i)) (hr : ∀ k, 2 ≤ k ∧ k ≤ 32 → P (nI 5 3 3 k)) (h : ∀ x ∈ rnL ++ [nI 23 0 4 76, bI 0 36, bI 1 21, bI 0 (-23), nI 1 3 3 1, bI 5 (-4), bI 3 3, bI 0 (-5)] ++ spL ++ ciL ++ enL ++ cbL ++ paL ++ bcL ++ coL ++ nbL ++ cyL ++ chL ++ poL ++ mrL ++ ivL ++ goL, P x) : ∀ x ∈ zL nw, P x := by
  have e2 : ∀ x ∈ ahL nw, P x := by
    intro x hx
    simp only [ahL, List.mem_cons, List.not_mem_nil, or_false] at hx
    rcases hx with rfl | rfl
    · exact h _ (by simp)
    · exact hr _ ⟨h2, h32⟩
  have e3 : ∀ o, o = 22 ∨ o = 23 → ∀ x ∈ frL o, P x := by intro o ho x hx; simp only [frL, List.mem_map, List.mem_range] at hx; obtain ⟨i, hi, rfl⟩ := hx; exact hf o ho i hi
  intro x hx
  simp only [zL, List.mem_append] at hx
  simp only [List.mem_append] at h
  rcases hx with (((((((((hx | hx) | hx) | hx) | hx) | hx) | hx) | hx) | hx) | hx) | hx
  · rcases hx with ((hx | hx) | hx) | hx
    · exact h x (by simp [hx])
    · exact h x (by simp only [List.mem_singleton] at hx; subst hx; simp)
    · exact h x (by simp only [List.mem_singleton] at hx; subst hx; simp)
    · exact h x (by simp [hx])
  · rcases hx with (hx | hx) | hx
    · exact h x (by simp [hx])
    · exact h x (by simp only [List.mem_singleton] at hx; subst hx; simp)
    · exact h x (by simp [hx])
  · exact e3 23 (.inr rfl) x hx
  · rcases hx with hx | hx
    · exact e2 x hx
    · exact h x (by simp only [List.mem_singleton] at hx; subst hx; simp)
  · rcases hx with ((hx | hx) | hx) | hx <;> exact h x (by simp [hx])
  · rcases hx with ((hx | hx) | hx) | hx
    · exact h x (by simp [hx])
    · exact h x (by simp [hx])
    · exact h x (by simp [hx])
    · exact h x (by simp only [List.mem_singleton] at hx; subst hx; simp)
  · exact h x (by simp [hx])
  · rcases hx with ((hx | hx) | hx) | hx
    · exact h x (by simp [hx])
    · exact h x (by simp only [List.mem_singleton] at hx; subst hx; simp)
    · exact h x (by simp [hx])
    · exact h x (by simp only [List.mem_singleton] at hx; subst hx; simp)
  · rcases hx with ((hx | hx) | hx) | hx
    · exact h x (by simp [hx])
    · exact h x (by simp [hx])
    · exact e2 x hx
    · exact h x (by simp [hx])
  · exact e3 22 (.inl rfl) x hx
  · exact h x (by simp [hx])
omit h2 h32 in
theorem rm_may {k : Int} (h : 2 ≤ k ∧ k ≤ 32) : (nI 5 3 3 k).may = true := by
  show decide (I2.MayT 5 3 3 0 k) = true
  exact decide_eq_true ⟨rfl, .inl ⟨.inl (by omega), by omega, by omega, by omega, by omega⟩⟩
theorem zL_b : ∀ x ∈ zL nw, XB x := zL_all h2 h32 XB (fun _ ho _ => W8.sFr_b ho) (fun k hk => ⟨by show (0 : Int) ≤ 5 ∧ (5 : Int) ≤ 255; decide, by show (0 : Int) ≤ 3 ∧ (3 : Int) ≤ 255; decide, by show (0 : Int) ≤ 3 ∧ (3 : Int) ≤ 255; decide, by show (0 : Int) ≤ 0 ∧ (0 : Int) ≤ 255; decide, by show -2147483648 ≤ k ∧ k ≤ 2147483647; omega⟩) (fun x hx => okI_b (by
  have : ∀ x ∈ rnL ++ [nI 23 0 4 76, bI 0 36, bI 1 21, bI 0 (-23), nI 1 3 3 1, bI 5 (-4), bI 3 3, bI 0 (-5)] ++ spL ++ ciL ++ enL ++ cbL ++ paL ++ bcL ++ coL ++ nbL ++ cyL ++ chL ++ poL ++ mrL ++ ivL ++ goL, okI x = true := List.all_eq_true.1 (by kernel_rfl)
  exact this x hx))
theorem zL_may : ∀ x ∈ zL nw, x.may = true := zL_all h2 h32 (fun x => x.may = true) (fun _ ho _ => W8.sFr_may ho) (fun k hk => rm_may hk) (fun x hx => by
  have : ∀ x ∈ rnL ++ [nI 23 0 4 76, bI 0 36, bI 1 21, bI 0 (-23), nI 1 3 3 1, bI 5 (-4), bI 3 3, bI 0 (-5)] ++ spL ++ ciL ++ enL ++ cbL ++ paL ++ bcL ++ coL ++ nbL ++ cyL ++ chL ++ poL ++ mrL ++ ivL ++ goL, x.may = true := List.all_eq_true.1 (by kernel_rfl)
  exact this x hx)
end
theorem sBr_all {k : Int} (h : 0 ≤ k ∧ k ≤ 200) : XB (sBr k) ∧ (sBr k).may = true := ⟨W8.sBr_b h, W8.sBr_may h⟩
/-- The instruction that traps. -/
def tI (k : Int) : XI := ⟨33, 0, 0, 0, true, k⟩
theorem tI_all {k : Int} (h : k = 3 ∨ k = 4) : XB (tI k) ∧ (tI k).may = true := by
  rcases h with rfl | rfl <;> exact ⟨⟨by decide, by decide, by decide, by decide, by decide⟩, by kernel_rfl⟩
end Go.Proofs.YtmpagjijjahohaaGreatDoor.S10
