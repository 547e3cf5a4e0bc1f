/- The block in which a file lies; worlds of which the old blocks have not turned, or only one has. -/
import Derived.Test.YtoecanjhkbeemaaGreatDoorBel
import Derived.Test.YtoecanjhkbeemaaGreatDoorFileMath
import Derived.Below
import Derived.Laws.AppendOwn
import Derived.Laws.Rows
import Derived.Great.BuildSlice
import Derived.Great.Walk
import Derived.Deep.WholeRow
import Derived.Lib.Hide
import Derived.WalkSpells
import Derived.WalkLawsBesides
import Derived.Handy
namespace Go.Proofs.YtoecanjhkbeemaaGreatDoor.F3
open Go.RowKit
set_option linter.unusedVariables false

/-! A file's block. -/
def wcells (m : Nat) (n : Int) (R : Nat → Int) : Array Value := (Value.int .i64 n :: (List.range m).map fun j => Value.int .u32 (R j)).toArray
theorem wcells_size (m : Nat) (n : Int) (R : Nat → Int) : (wcells m n R).size = m + 1 := by simp [wcells]
theorem wcells_nw (m : Nat) (n : Int) (R : Nat → Int) : (wcells m n R)[0]? = some (.int .i64 n) := by simp [wcells]
theorem wcells_reg (m : Nat) (n : Int) (R : Nat → Int) {j : Nat} (h : j < m) : (wcells m n R)[1 + j]? = some (.int .u32 (R j)) := by
  rw [Nat.add_comm]; simp [wcells, h]
theorem wcells_set (m : Nat) (n : Int) (R : Nat → Int) {j : Nat} (h : j < m) (v : Int) : (wcells m n R).setIfInBounds (1 + j) (.int .u32 v) = wcells m n (upd R j v) := by
  rw [Nat.add_comm]
  apply Array.ext
  · simp [wcells]
  · intro i h1 h2
    have hi : i < m + 1 := by simpa [wcells] using h2
    cases i with
    | zero => simp [wcells]
    | succ i =>
      by_cases e : i = j
      · subst e; simp [wcells, upd]
      · have e' : j ≠ i := fun h => e h.symm
        simp [wcells, upd, e, e']
theorem wcells_one (m : Nat) (n : Int) (R : Nat → Int) : (wcells m n R).all (·.oneCell') = true := by
  rw [Array.all_eq_true_iff_forall_mem]
  intro v hv
  simp [wcells] at hv
  rcases hv with rfl | ⟨j, _, rfl⟩ <;> rfl
def fcells (n : Int) (R : Nat → Int) : Array Value := wcells 648 n R
theorem fcells_size (n : Int) (R : Nat → Int) : (fcells n R).size = 649 := wcells_size 648 n R
theorem fcells_nw (n : Int) (R : Nat → Int) : (fcells n R)[0]? = some (.int .i64 n) := wcells_nw 648 n R
theorem fcells_reg (n : Int) (R : Nat → Int) {j : Nat} (h : j < 648) : (fcells n R)[1 + j]? = some (.int .u32 (R j)) := wcells_reg 648 n R h
theorem fcells_set (n : Int) (R : Nat → Int) {j : Nat} (h : j < 648) (v : Int) : (fcells n R).setIfInBounds (1 + j) (.int .u32 v) = fcells n (upd R j v) := wcells_set 648 n R h v
theorem fcells_one (n : Int) (R : Nat → Int) : (fcells n R).all (·.oneCell') = true := wcells_one 648 n R
theorem fcells_info (n : Int) (R : Nat → Int) : (Tryz.prog.info? 141).map (·.size) = some (fcells n R).size := by rw [fcells_size]; kernel_rfl
theorem fcells_zero : Tryz.prog.built 141 [] = some (fcells 0 fun _ => 0) := by kernel_rfl
theorem fcells_new (n : Int) : Tryz.prog.built 141 [(0, .int .i64 n)] = some (fcells n fun _ => 0) := by kernel_rfl
/-- A file of n windows, which holds the words R, lies in block b. -/
def FileAt (w : World) (b : Nat) (n : Int) (R : Nat → Int) : Prop := w.heap[b]? = some (.cells (fcells n R) 141 (0, 0))
theorem FileAt.nw {w : World} {b : Nat} {n : Int} {R : Nat → Int} (h : FileAt w b n R) : w.cell? ⟨b, 0, none⟩ = some (.int .i64 n) := (cell_of_row _ _ _ _ _ _ h).trans (fcells_nw n R)
theorem FileAt.reg {w : World} {b : Nat} {n : Int} {R : Nat → Int} (h : FileAt w b n R) {j : Nat} (hj : j < 648) : w.cell? ⟨b, 1 + j, none⟩ = some (.int .u32 (R j)) := (cell_of_row _ _ _ _ _ _ h).trans (fcells_reg n R hj)
theorem FileAt.frozen {w : World} {b : Nat} {n : Int} {R : Nat → Int} (h : FileAt w b n R) (j : Nat) : w.frozen? ⟨b, j, none⟩ = false := frozen_of_row _ _ _ _ _ h
theorem FileAt.lt {w : World} {b : Nat} {n : Int} {R : Nat → Int} (h : FileAt w b n R) : b < w.heap.size := block_lt_of_cell (a := ⟨b, 0, none⟩) h.nw
theorem FileAt.bel {w w' : World} {b : Nat} {n : Int} {R : Nat → Int} (h : FileAt w b n R) (g : Below w.heap.size w w') : FileAt w' b n R := bel_heap g h
theorem FileAt.only {w w' : World} {b x : Nat} {n : Int} {R : Nat → Int} (h : FileAt w b n R) (g : w.grownBy w' (some x)) (hx : b ≠ x) : FileAt w' b n R := only_heap g hx h
theorem FileAt.set {w : World} {b : Nat} {n : Int} {R : Nat → Int} (h : FileAt w b n R) {j : Nat} (hj : j < 648) (v : Int) : FileAt (w.setCell ⟨b, 1 + j, none⟩ (.int .u32 v)) b n (upd R j v) := by
  have := heap_setCell_same w b (1 + j) _ _ (.int .u32 v) h
  rw [fcells_set n R hj v] at this
  exact this
/-- No file: nil, or one that no call made. -/
def NoFile (w : World) (p : Option Addr) : Prop := p = none ∨ ∃ b, p = some ⟨b, 0, none⟩ ∧ w.cell? ⟨b, 0, none⟩ = some (.int .i64 0)
theorem NoFile.bel {w w' : World} {p : Option Addr} (h : NoFile w p) (g : Below w.heap.size w w') : NoFile w' p := by
  rcases h with h | ⟨b, h, hc⟩
  · exact .inl h
  · exact .inr ⟨b, h, bel_cell g hc⟩
end Go.Proofs.YtoecanjhkbeemaaGreatDoor.F3
