/- The block in which a file lies; worlds of which the old blocks have not turned, or only one has. -/
import Derived.Test.YthhkecdcgalcbaaRows
import Derived.Test.YthhkecdcgalcbaaFileMath
import Derived.Below
import Derived.Laws.AppendOwn
import Derived.Laws.Rows
import Derived.Great.BuildSlice
import Derived.Great.Walk
import Derived.Deep.WholeRow
import Derived.Lib.Hide
import Derived.WalkSpells
import Derived.WalkLawsBesides
import Derived.Handy
namespace Go.Proofs.Ythhkecdcgalcbaa
open Go.RowKit
set_option linter.unusedVariables false

/-! What was there has not turned. -/
theorem bel_trans {a b c : World} (h : Below a.heap.size a b) (k : Below b.heap.size b c) : Below a.heap.size a c := h.trans (k.mono h.size)
theorem bel_heap {w w' : World} (h : Below w.heap.size w w') {b : Nat} {o : Obj} (hb : w.heap[b]? = some o) : w'.heap[b]? = some o := by
  have hlt : b < w.heap.size := by
    rcases Nat.lt_or_ge b w.heap.size with hh | hh
    · exact hh
    · rw [Array.getElem?_eq_none hh] at hb; cases hb
  rw [h.block b hlt]; exact hb
theorem bel_cell {w w' : World} (h : Below w.heap.size w w') {b j : Nat} {v : Value} (hc : w.cell? ⟨b, j, none⟩ = some v) : w'.cell? ⟨b, j, none⟩ = some v :=
  (h.cell (p := ⟨b, j, none⟩) (block_lt_of_cell hc)).trans hc
theorem bel_frozen {w w' : World} (h : Below w.heap.size w w') {b j k : Nat} {v : Value} (hc : w.cell? ⟨b, k, none⟩ = some v) (hf : w.frozen? ⟨b, j, none⟩ = false) : w'.frozen? ⟨b, j, none⟩ = false :=
  (h.frozen (p := ⟨b, j, none⟩) (block_lt_of_cell (a := ⟨b, k, none⟩) hc)).trans hf
theorem bel_row {w : World} {A : Array Value} {t : TypeId} : ∀ {w' : World}, Below (w.alloc (.cells A t)).heap.size (w.alloc (.cells A t)) w' → w'.heap[w.heap.size]? = some (.cells A t (0, 0)) := fun h => bel_heap h (heap_alloc_last _ _)
/-- One old block may have turned. -/
theorem only_bel {a w w' : World} {b : Nat} (h : Below a.heap.size a w) (k : w.grownBy w' (some b)) (hb : a.heap.size ≤ b) : Below a.heap.size a w' :=
  h.grown k h.size (fun k e => by cases e; exact hb)
theorem bel_only {w w' : World} (h : Below w.heap.size w w') (b : Nat) : w.grownBy w' (some b) := ⟨h.os, h.tape, h.output, h.size, fun i hi _ => h.block i hi⟩
theorem only_trans {b : Nat} {u v w : World} (h : u.grownBy v (some b)) (k : v.grownBy w (some b)) : u.grownBy w (some b) :=
  ⟨k.os.trans h.os, k.tape.trans h.tape, k.output.trans h.output, Nat.le_trans h.size k.size, fun i hi hn => (k.block i (Nat.lt_of_lt_of_le hi h.size) hn).trans (h.block i hi hn)⟩
theorem only_cell {u w : World} {b : Nat} (h : u.grownBy w (some b)) (o : Nat) (v : Value) : u.grownBy (w.setCell ⟨b, o, none⟩ v) (some b) :=
  only_trans h ⟨rfl, rfl, rfl, by simp [World.setCell], fun i _ hn => Below.heap_setCell _ _ _ _ (fun e => hn (by rw [e]))⟩
theorem only_heap {w w' : World} {b x : Nat} (h : w.grownBy w' (some b)) (hx : x ≠ b) {o : Obj} (hb : w.heap[x]? = some o) : w'.heap[x]? = some o := by
  have hlt : x < w.heap.size := by
    rcases Nat.lt_or_ge x w.heap.size with hh | hh
    · exact hh
    · rw [Array.getElem?_eq_none hh] at hb; cases hb
  rw [h.block x hlt (fun e => hx (by cases e; rfl))]; exact hb
theorem only_row {w w' : World} {b g : Nat} {A : Array Value} (h : w.grownBy w' (some b)) (hg : b = g) : w.grownBy (w'.setRow g A) (some b) := by
  subst hg
  exact only_trans h ⟨rfl, rfl, rfl, by simp, fun i _ hn => setRow_other w' b i A (fun e => hn (by rw [e]))⟩

/-! A file's block. -/
def wcells (m : Nat) (n : Int) (R : Nat → Int) : Array Value := (Value.int .i64 n :: (List.range m).map fun j => Value.int .u32 (R j)).toArray
theorem wcells_size (m : Nat) (n : Int) (R : Nat → Int) : (wcells m n R).size = m + 1 := by simp [wcells]
theorem wcells_nw (m : Nat) (n : Int) (R : Nat → Int) : (wcells m n R)[0]? = some (.int .i64 n) := by simp [wcells]
theorem wcells_reg (m : Nat) (n : Int) (R : Nat → Int) {j : Nat} (h : j < m) : (wcells m n R)[1 + j]? = some (.int .u32 (R j)) := by
  rw [Nat.add_comm]; simp [wcells, h]
theorem wcells_set (m : Nat) (n : Int) (R : Nat → Int) {j : Nat} (h : j < m) (v : Int) : (wcells m n R).setIfInBounds (1 + j) (.int .u32 v) = wcells m n (upd R j v) := by
  rw [Nat.add_comm]
  apply Array.ext
  · simp [wcells]
  · intro i h1 h2
    have hi : i < m + 1 := by simpa [wcells] using h2
    cases i with
    | zero => simp [wcells]
    | succ i =>
      by_cases e : i = j
      · subst e; simp [wcells, upd]
      · have e' : j ≠ i := fun h => e h.symm
        simp [wcells, upd, e, e']
theorem wcells_one (m : Nat) (n : Int) (R : Nat → Int) : (wcells m n R).all (·.oneCell') = true := by
  rw [Array.all_eq_true_iff_forall_mem]
  intro v hv
  simp [wcells] at hv
  rcases hv with rfl | ⟨j, _, rfl⟩ <;> rfl
def fcells (n : Int) (R : Nat → Int) : Array Value := wcells 648 n R
theorem fcells_size (n : Int) (R : Nat → Int) : (fcells n R).size = 649 := wcells_size 648 n R
theorem fcells_nw (n : Int) (R : Nat → Int) : (fcells n R)[0]? = some (.int .i64 n) := wcells_nw 648 n R
theorem fcells_reg (n : Int) (R : Nat → Int) {j : Nat} (h : j < 648) : (fcells n R)[1 + j]? = some (.int .u32 (R j)) := wcells_reg 648 n R h
theorem fcells_set (n : Int) (R : Nat → Int) {j : Nat} (h : j < 648) (v : Int) : (fcells n R).setIfInBounds (1 + j) (.int .u32 v) = fcells n (upd R j v) := wcells_set 648 n R h v
theorem fcells_one (n : Int) (R : Nat → Int) : (fcells n R).all (·.oneCell') = true := wcells_one 648 n R
theorem fcells_info (n : Int) (R : Nat → Int) : (Try.prog.info? 57).map (·.size) = some (fcells n R).size := by rw [fcells_size]; kernel_rfl
theorem fcells_zero : Try.prog.built 57 [] = some (fcells 0 fun _ => 0) := by kernel_rfl
theorem fcells_new (n : Int) : Try.prog.built 57 [(0, .int .i64 n)] = some (fcells n fun _ => 0) := by kernel_rfl
/-- A file of n windows, which holds the words R, lies in block b. -/
def FileAt (w : World) (b : Nat) (n : Int) (R : Nat → Int) : Prop := w.heap[b]? = some (.cells (fcells n R) 57 (0, 0))
theorem FileAt.nw {w : World} {b : Nat} {n : Int} {R : Nat → Int} (h : FileAt w b n R) : w.cell? ⟨b, 0, none⟩ = some (.int .i64 n) := (cell_of_row _ _ _ _ _ _ h).trans (fcells_nw n R)
theorem FileAt.reg {w : World} {b : Nat} {n : Int} {R : Nat → Int} (h : FileAt w b n R) {j : Nat} (hj : j < 648) : w.cell? ⟨b, 1 + j, none⟩ = some (.int .u32 (R j)) := (cell_of_row _ _ _ _ _ _ h).trans (fcells_reg n R hj)
theorem FileAt.frozen {w : World} {b : Nat} {n : Int} {R : Nat → Int} (h : FileAt w b n R) (j : Nat) : w.frozen? ⟨b, j, none⟩ = false := frozen_of_row _ _ _ _ _ h
theorem FileAt.lt {w : World} {b : Nat} {n : Int} {R : Nat → Int} (h : FileAt w b n R) : b < w.heap.size := block_lt_of_cell (a := ⟨b, 0, none⟩) h.nw
theorem FileAt.bel {w w' : World} {b : Nat} {n : Int} {R : Nat → Int} (h : FileAt w b n R) (g : Below w.heap.size w w') : FileAt w' b n R := bel_heap g h
theorem FileAt.only {w w' : World} {b x : Nat} {n : Int} {R : Nat → Int} (h : FileAt w b n R) (g : w.grownBy w' (some x)) (hx : b ≠ x) : FileAt w' b n R := only_heap g hx h
theorem FileAt.set {w : World} {b : Nat} {n : Int} {R : Nat → Int} (h : FileAt w b n R) {j : Nat} (hj : j < 648) (v : Int) : FileAt (w.setCell ⟨b, 1 + j, none⟩ (.int .u32 v)) b n (upd R j v) := by
  have := heap_setCell_same w b (1 + j) _ _ (.int .u32 v) h
  rw [fcells_set n R hj v] at this
  exact this
/-- No file: nil, or one that no call made. -/
def NoFile (w : World) (p : Option Addr) : Prop := p = none ∨ ∃ b, p = some ⟨b, 0, none⟩ ∧ w.cell? ⟨b, 0, none⟩ = some (.int .i64 0)
theorem NoFile.bel {w w' : World} {p : Option Addr} (h : NoFile w p) (g : Below w.heap.size w w') : NoFile w' p := by
  rcases h with h | ⟨b, h, hc⟩
  · exact .inl h
  · exact .inr ⟨b, h, bel_cell g hc⟩
end Go.Proofs.Ythhkecdcgalcbaa
