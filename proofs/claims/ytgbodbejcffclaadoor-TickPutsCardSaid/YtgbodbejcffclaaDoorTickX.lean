/- The instructions of the handlers of interrupts (layer 9), as the document has them. -/
import Derived.Test.YtgbodbejcffclaaDoorAsmPut
namespace Go.Proofs.YtgbodbejcffclaaDoor.T9
open Go.RowKit
set_option linter.unusedVariables false
/-! The four instructions of a level's handler, the vector's, and the program's. -/
def tLd (k : Int) : A7.XI := ⟨22, 1, 0, 0, true, 4 * k⟩
def tAd : A7.XI := ⟨1, 1, 1, 0, true, 1⟩
def tSt (k : Int) : A7.XI := ⟨23, 1, 0, 0, true, 4 * k⟩
def tRt : A7.XI := ⟨32, 0, 0, 0, false, 0⟩
def tBr : A7.XI := ⟨17, 0, 0, 0, true, 60⟩
def tGo : A7.XI := ⟨1, 8, 8, 0, true, 1⟩
theorem tLd_b {k : Int} (h : 1 ≤ k ∧ k ≤ 15) : A7.XB (tLd k) := ⟨⟨by show (0 : Int) ≤ 22; decide, by show (22 : Int) ≤ 255; decide⟩, ⟨by show (0 : Int) ≤ 1; decide, by show (1 : Int) ≤ 255; decide⟩, ⟨by show (0 : Int) ≤ 0; decide, by show (0 : Int) ≤ 255; decide⟩, ⟨by show (0 : Int) ≤ 0; decide, by show (0 : Int) ≤ 255; decide⟩, by show -2147483648 ≤ 4 * k; omega, by show 4 * k ≤ 2147483647; omega⟩
theorem tSt_b {k : Int} (h : 1 ≤ k ∧ k ≤ 15) : A7.XB (tSt k) := ⟨⟨by show (0 : Int) ≤ 23; decide, by show (23 : Int) ≤ 255; decide⟩, ⟨by show (0 : Int) ≤ 1; decide, by show (1 : Int) ≤ 255; decide⟩, ⟨by show (0 : Int) ≤ 0; decide, by show (0 : Int) ≤ 255; decide⟩, ⟨by show (0 : Int) ≤ 0; decide, by show (0 : Int) ≤ 255; decide⟩, by show -2147483648 ≤ 4 * k; omega, by show 4 * k ≤ 2147483647; omega⟩
theorem tAd_b : A7.XB tAd := ⟨by decide, by decide, by decide, by decide, by decide⟩
theorem tRt_b : A7.XB tRt := ⟨by decide, by decide, by decide, by decide, by decide⟩
theorem tBr_b : A7.XB tBr := ⟨by decide, by decide, by decide, by decide, by decide⟩
theorem tGo_b : A7.XB tGo := ⟨by decide, by decide, by decide, by decide, by decide⟩
theorem tLd_may {k : Int} (h : 1 ≤ k ∧ k ≤ 15) : (tLd k).may = true := by
  rcases (by omega : k = 1 ∨ k = 2 ∨ k = 3 ∨ k = 4 ∨ k = 5 ∨ k = 6 ∨ k = 7 ∨ k = 8 ∨ k = 9 ∨ k = 10 ∨ k = 11 ∨ k = 12 ∨ k = 13 ∨ k = 14 ∨ k = 15) with rfl | rfl | rfl | rfl | rfl | rfl | rfl | rfl | rfl | rfl | rfl | rfl | rfl | rfl | rfl <;> kernel_rfl
theorem tSt_may {k : Int} (h : 1 ≤ k ∧ k ≤ 15) : (tSt k).may = true := by
  rcases (by omega : k = 1 ∨ k = 2 ∨ k = 3 ∨ k = 4 ∨ k = 5 ∨ k = 6 ∨ k = 7 ∨ k = 8 ∨ k = 9 ∨ k = 10 ∨ k = 11 ∨ k = 12 ∨ k = 13 ∨ k = 14 ∨ k = 15) with rfl | rfl | rfl | rfl | rfl | rfl | rfl | rfl | rfl | rfl | rfl | rfl | rfl | rfl | rfl <;> kernel_rfl
theorem tAd_may : tAd.may = true := by kernel_rfl
theorem tRt_may : tRt.may = true := by kernel_rfl
theorem tBr_may : tBr.may = true := by kernel_rfl
theorem tGo_may : tGo.may = true := by kernel_rfl
def tX (k : Int) (j : Nat) : A7.XI := if j = 0 then tLd k else if j = 1 then tAd else if j = 2 then tSt k else tRt
def tW (i : Nat) : Int := (tX ((i / 4 + 1 : Nat) : Int) (i % 4)).word
theorem tX_b {k : Int} (h : 1 ≤ k ∧ k ≤ 15) (j : Nat) : A7.XB (tX k j) := by
  unfold tX
  split; · exact tLd_b h
  split; · exact tAd_b
  split; · exact tSt_b h
  exact tRt_b
theorem tX_may {k : Int} (h : 1 ≤ k ∧ k ≤ 15) (j : Nat) : (tX k j).may = true := by
  unfold tX
  split; · exact tLd_may h
  split; · exact tAd_may
  split; · exact tSt_may h
  exact tRt_may
theorem xw_w {x : A7.XI} (h : A7.XB x) : 0 ≤ x.word ∧ x.word < 4294967296 := I2.eW_bd h.o h.d h.s h.t
end Go.Proofs.YtgbodbejcffclaaDoor.T9
