/- The instructions of the handlers of window traps (layer 8), as the document has them. -/
import Derived.Test.YtmpagjijjahohaaGreatDoorAsmG
namespace Go.Proofs.YtmpagjijjahohaaGreatDoor.W8
open Go.RowKit
open A7 (XI XB)
set_option linter.unusedVariables false
def sRd : XI := ⟨26, 1, 0, 0, false, 0⟩
def sAn : XI := ⟨6, 2, 1, 0, true, 31⟩
def sSb : XI := ⟨2, 1, 1, 2, false, 0⟩
def sGo (k : Int) : XI := ⟨1, 2, 2, 0, true, k⟩
def sRm (k : Int) : XI := ⟨5, 2, 2, 0, true, k⟩
def sEn : XI := ⟨27, 0, 1, 2, false, 0⟩
def sFr (o : Int) (i : Nat) : XI := ⟨o, 16 + (i : Int), 14, 0, true, 4 * (i : Int)⟩
def sOn : XI := ⟨1, 3, 0, 0, true, 1⟩
def sSh : XI := ⟨9, 3, 3, 2, false, 0⟩
def sIn : XI := ⟨29, 0, 3, 0, true, 0⟩
def sRt : XI := ⟨32, 0, 0, 0, false, 0⟩
/-- The vectors' branches; the instruction that traps. -/
def sBr (k : Int) : XI := ⟨17, 0, 0, 0, true, k⟩
def sTr (o : Int) : XI := ⟨o, 0, 0, 0, false, 0⟩
def spL : List XI := [sRd, sAn, sSb]
def ahL (k nw : Int) : List XI := [sGo k, sRm nw]
def frL (o : Int) : List XI := (List.range 16).map (sFr o)
def inL : List XI := [sOn, sSh, sIn]
def oL (nw : Int) : List XI := spL ++ (ahL (nw - 2) nw ++ ([sEn] ++ (frL 23 ++ (inL ++ [sRt]))))
def uL (nw : Int) : List XI := spL ++ (ahL 1 nw ++ ([sEn] ++ (frL 22 ++ (ahL 1 nw ++ (inL ++ [sRt])))))
def wL (nw : Int) : List XI := oL nw ++ uL nw
def gX (L : List XI) (i : Nat) : XI := L.getD i sRt
theorem oL_len (nw : Int) : (oL nw).length = 26 := rfl
theorem uL_len (nw : Int) : (uL nw).length = 28 := rfl
theorem wL_len (nw : Int) : (wL nw).length = 54 := rfl
theorem gX_mem {L : List XI} {i : Nat} (h : i < L.length) : gX L i ∈ L := by
  unfold gX
  rw [List.getD_eq_getElem?_getD, List.getElem?_eq_getElem h]
  exact List.getElem_mem h
theorem gX_lo (nw : Int) (i : Nat) (h : i < 26) : gX (wL nw) i = gX (oL nw) i := by
  unfold gX wL
  rw [List.getD_eq_getElem?_getD, List.getD_eq_getElem?_getD, List.getElem?_append_left (by rw [oL_len]; exact h)]
theorem gX_hi (nw : Int) (i : Nat) : gX (wL nw) (26 + i) = gX (uL nw) i := by
  unfold gX wL
  rw [List.getD_eq_getElem?_getD, List.getD_eq_getElem?_getD, List.getElem?_append_right (by rw [oL_len]; omega), oL_len, Nat.add_sub_cancel_left]
theorem frL_get (o : Int) (i : Nat) (h : i < 16) : (frL o)[i]? = some (sFr o i) := by
  unfold frL
  rw [List.getElem?_map, List.getElem?_range h]
  rfl
theorem o_fr (nw : Int) (i : Nat) (h : i < 16) : gX (wL nw) (6 + i) = sFr 23 i := by
  rcases (by omega : i = 0 ∨ i = 1 ∨ i = 2 ∨ i = 3 ∨ i = 4 ∨ i = 5 ∨ i = 6 ∨ i = 7 ∨ i = 8 ∨ i = 9 ∨ i = 10 ∨ i = 11 ∨ i = 12 ∨ i = 13 ∨ i = 14 ∨ i = 15) with rfl | rfl | rfl | rfl | rfl | rfl | rfl | rfl | rfl | rfl | rfl | rfl | rfl | rfl | rfl | rfl <;> rfl
theorem u_fr (nw : Int) (i : Nat) (h : i < 16) : gX (wL nw) (32 + i) = sFr 22 i := by
  rcases (by omega : i = 0 ∨ i = 1 ∨ i = 2 ∨ i = 3 ∨ i = 4 ∨ i = 5 ∨ i = 6 ∨ i = 7 ∨ i = 8 ∨ i = 9 ∨ i = 10 ∨ i = 11 ∨ i = 12 ∨ i = 13 ∨ i = 14 ∨ i = 15) with rfl | rfl | rfl | rfl | rfl | rfl | rfl | rfl | rfl | rfl | rfl | rfl | rfl | rfl | rfl | rfl <;> rfl
theorem sRd_b : XB sRd := ⟨by decide, by decide, by decide, by decide, by decide⟩
theorem sAn_b : XB sAn := ⟨by decide, by decide, by decide, by decide, by decide⟩
theorem sSb_b : XB sSb := ⟨by decide, by decide, by decide, by decide, by decide⟩
theorem sEn_b : XB sEn := ⟨by decide, by decide, by decide, by decide, by decide⟩
theorem sOn_b : XB sOn := ⟨by decide, by decide, by decide, by decide, by decide⟩
theorem sSh_b : XB sSh := ⟨by decide, by decide, by decide, by decide, by decide⟩
theorem sIn_b : XB sIn := ⟨by decide, by decide, by decide, by decide, by decide⟩
theorem sRt_b : XB sRt := ⟨by decide, by decide, by decide, by decide, by decide⟩
theorem sRd_may : sRd.may = true := by kernel_rfl
theorem sAn_may : sAn.may = true := by kernel_rfl
theorem sSb_may : sSb.may = true := by kernel_rfl
theorem sEn_may : sEn.may = true := by kernel_rfl
theorem sOn_may : sOn.may = true := by kernel_rfl
theorem sSh_may : sSh.may = true := by kernel_rfl
theorem sIn_may : sIn.may = true := by kernel_rfl
theorem sRt_may : sRt.may = true := by kernel_rfl
theorem sGo_b {k : Int} (h : 0 ≤ k ∧ k ≤ 32) : XB (sGo k) := ⟨by show (0 : Int) ≤ 1 ∧ (1 : Int) ≤ 255; decide, by show (0 : Int) ≤ 2 ∧ (2 : Int) ≤ 255; decide, by show (0 : Int) ≤ 2 ∧ (2 : Int) ≤ 255; decide, by show (0 : Int) ≤ 0 ∧ (0 : Int) ≤ 255; decide, by show -2147483648 ≤ k ∧ k ≤ 2147483647; omega⟩
theorem sRm_b {k : Int} (h : 0 ≤ k ∧ k ≤ 32) : XB (sRm k) := ⟨by show (0 : Int) ≤ 5 ∧ (5 : Int) ≤ 255; decide, by show (0 : Int) ≤ 2 ∧ (2 : Int) ≤ 255; decide, by show (0 : Int) ≤ 2 ∧ (2 : Int) ≤ 255; decide, by show (0 : Int) ≤ 0 ∧ (0 : Int) ≤ 255; decide, by show -2147483648 ≤ k ∧ k ≤ 2147483647; omega⟩
theorem sBr_b {k : Int} (h : 0 ≤ k ∧ k ≤ 200) : XB (sBr k) := ⟨by show (0 : Int) ≤ 17 ∧ (17 : Int) ≤ 255; decide, by show (0 : Int) ≤ 0 ∧ (0 : Int) ≤ 255; decide, by show (0 : Int) ≤ 0 ∧ (0 : Int) ≤ 255; decide, by show (0 : Int) ≤ 0 ∧ (0 : Int) ≤ 255; decide, by show -2147483648 ≤ k ∧ k ≤ 2147483647; omega⟩
theorem sTr_b {o : Int} (h : o = 20 ∨ o = 21) : XB (sTr o) := by rcases h with rfl | rfl <;> exact ⟨by decide, by decide, by decide, by decide, by decide⟩
theorem sTr_may {o : Int} (h : o = 20 ∨ o = 21) : (sTr o).may = true := by rcases h with rfl | rfl <;> kernel_rfl
theorem sFr_b {o : Int} (ho : o = 22 ∨ o = 23) {i : Nat} (h : i < 16) : XB (sFr o i) := ⟨by show 0 ≤ o ∧ o ≤ 255; omega, by show 0 ≤ 16 + (i : Int) ∧ 16 + (i : Int) ≤ 255; omega, by show (0 : Int) ≤ 14 ∧ (14 : Int) ≤ 255; decide, by show (0 : Int) ≤ 0 ∧ (0 : Int) ≤ 255; decide, by show -2147483648 ≤ 4 * (i : Int) ∧ 4 * (i : Int) ≤ 2147483647; omega⟩
theorem sGo_may {k : Int} (h : 0 ≤ k ∧ k ≤ 32) : (sGo k).may = true := by
  show decide (I2.MayT 1 2 2 0 k) = true
  exact decide_eq_true ⟨rfl, .inl ⟨.inl (by omega), by omega, by omega, by omega, by omega⟩⟩
theorem sRm_may {k : Int} (h : 0 ≤ k ∧ k ≤ 32) : (sRm k).may = true := by
  show decide (I2.MayT 5 2 2 0 k) = true
  exact decide_eq_true ⟨rfl, .inl ⟨.inl (by omega), by omega, by omega, by omega, by omega⟩⟩
theorem sBr_may {k : Int} (h : 0 ≤ k ∧ k ≤ 200) : (sBr k).may = true := by
  show decide (I2.MayT 17 0 0 0 k) = true
  exact decide_eq_true ⟨rfl, .inr (.inr (.inr (.inl ⟨rfl, by omega, rfl, by omega, by omega⟩)))⟩
theorem sFr_may {o : Int} (ho : o = 22 ∨ o = 23) {i : Nat} (h : i < 16) : (sFr o i).may = true := by
  show decide (I2.MayT o (16 + (i : Int)) 14 0 (4 * (i : Int))) = true
  exact decide_eq_true ⟨rfl, .inl ⟨.inr (by omega), by omega, by omega, by omega, by omega⟩⟩
section
variable {nw : Int} (h2 : 2 ≤ nw) (h32 : nw ≤ 32)
include h2 h32
theorem wL_all (P : XI → Prop) (a1 : P sRd) (a2 : P sAn) (a3 : P sSb) (a4 : ∀ k, 0 ≤ k ∧ k ≤ 32 → P (sGo k)) (a5 : ∀ k, 0 ≤ k ∧ k ≤ 32 → P (sRm k)) (a6 : P sEn) (a7 : ∀ o, o = 22 ∨ o = 23 → ∀ i, i < 16 → P (sFr o i)) (a8 : P sOn) (a9 : P sSh) (a10 : P sIn) (a11 : P sRt) : ∀ x ∈ wL nw, P x := by
  have e1 : ∀ x ∈ spL, P x := by intro x hx; simp only [spL, List.mem_cons, List.not_mem_nil, or_false] at hx; rcases hx with rfl | rfl | rfl <;> assumption
  have e2 : ∀ k, 0 ≤ k ∧ k ≤ 32 → ∀ x ∈ ahL k nw, P x := by intro k hk x hx; simp only [ahL, List.mem_cons, List.not_mem_nil, or_false] at hx; rcases hx with rfl | rfl; exact a4 _ hk; exact a5 _ ⟨by omega, h32⟩
  have e3 : ∀ o, o = 22 ∨ o = 23 → ∀ x ∈ frL o, P x := by intro o ho x hx; simp only [frL, List.mem_map, List.mem_range] at hx; obtain ⟨i, hi, rfl⟩ := hx; exact a7 o ho i hi
  have e4 : ∀ x ∈ inL, P x := by intro x hx; simp only [inL, List.mem_cons, List.not_mem_nil, or_false] at hx; rcases hx with rfl | rfl | rfl <;> assumption
  intro x hx
  simp only [wL, oL, uL, List.mem_append, List.mem_singleton] at hx
  rcases hx with (h | h | h | h | h | h) | (h | h | h | h | h | h | h)
  · exact e1 x h
  · exact e2 _ ⟨by omega, by omega⟩ x h
  · rw [h]; exact a6
  · exact e3 23 (.inr rfl) x h
  · exact e4 x h
  · rw [h]; exact a11
  · exact e1 x h
  · exact e2 _ ⟨by omega, by omega⟩ x h
  · rw [h]; exact a6
  · exact e3 22 (.inl rfl) x h
  · exact e2 _ ⟨by omega, by omega⟩ x h
  · exact e4 x h
  · rw [h]; exact a11
theorem wL_b : ∀ x ∈ wL nw, XB x := wL_all h2 h32 XB sRd_b sAn_b sSb_b (fun _ => sGo_b) (fun _ => sRm_b) sEn_b (fun _ ho _ => sFr_b ho) sOn_b sSh_b sIn_b sRt_b
theorem wL_may : ∀ x ∈ wL nw, x.may = true := wL_all h2 h32 (fun x => x.may = true) sRd_may sAn_may sSb_may (fun _ => sGo_may) (fun _ => sRm_may) sEn_may (fun _ ho _ => sFr_may ho) sOn_may sSh_may sIn_may sRt_may
end
theorem xw_w {x : XI} (h : XB x) : 0 ≤ x.word ∧ x.word < 4294967296 := I2.eW_bd h.o h.d h.s h.t
end Go.Proofs.YtmpagjijjahohaaGreatDoor.W8
