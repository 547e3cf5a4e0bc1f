/- Worlds of which the old blocks have not turned, or only one has: facts of no one program. -/
import Derived.Test.YthhbhfpdabiclaaGreatDoorRows
import Derived.Below
import Derived.Laws.AppendOwn
import Derived.Laws.Rows
import Derived.Great.Walk
import Derived.Deep.WholeRow
import Derived.Lib.Hide
import Derived.WalkSpells
import Derived.WalkLawsBesides
import Derived.Handy
import Derived.OwnWalk
import Derived.IntWalk
namespace Go.Proofs.YthhbhfpdabiclaaGreatDoor
open Go.RowKit
set_option linter.unusedVariables false
/-! What was there has not turned. -/
theorem bel_trans {a b c : World} (h : Below a.heap.size a b) (k : Below b.heap.size b c) : Below a.heap.size a c := h.trans (k.mono h.size)
theorem bel_heap {w w' : World} (h : Below w.heap.size w w') {b : Nat} {o : Obj} (hb : w.heap[b]? = some o) : w'.heap[b]? = some o := by
  have hlt : b < w.heap.size := by
    rcases Nat.lt_or_ge b w.heap.size with hh | hh
    · exact hh
    · rw [Array.getElem?_eq_none hh] at hb; cases hb
  rw [h.block b hlt]; exact hb
theorem bel_cell {w w' : World} (h : Below w.heap.size w w') {b j : Nat} {v : Value} (hc : w.cell? ⟨b, j, none⟩ = some v) : w'.cell? ⟨b, j, none⟩ = some v :=
  (h.cell (p := ⟨b, j, none⟩) (block_lt_of_cell hc)).trans hc
theorem bel_frozen {w w' : World} (h : Below w.heap.size w w') {b j k : Nat} {v : Value} (hc : w.cell? ⟨b, k, none⟩ = some v) (hf : w.frozen? ⟨b, j, none⟩ = false) : w'.frozen? ⟨b, j, none⟩ = false :=
  (h.frozen (p := ⟨b, j, none⟩) (block_lt_of_cell (a := ⟨b, k, none⟩) hc)).trans hf
theorem bel_row {w : World} {A : Array Value} {t : TypeId} : ∀ {w' : World}, Below (w.alloc (.cells A t)).heap.size (w.alloc (.cells A t)) w' → w'.heap[w.heap.size]? = some (.cells A t (0, 0)) := fun h => bel_heap h (heap_alloc_last _ _)
/-- One old block may have turned. -/
theorem only_bel {a w w' : World} {b : Nat} (h : Below a.heap.size a w) (k : w.grownBy w' (some b)) (hb : a.heap.size ≤ b) : Below a.heap.size a w' :=
  h.grown k h.size (fun k e => by cases e; exact hb)
theorem bel_only {w w' : World} (h : Below w.heap.size w w') (b : Nat) : w.grownBy w' (some b) := ⟨h.os, h.tape, h.output, h.size, fun i hi _ => h.block i hi⟩
theorem only_trans {b : Nat} {u v w : World} (h : u.grownBy v (some b)) (k : v.grownBy w (some b)) : u.grownBy w (some b) :=
  ⟨k.os.trans h.os, k.tape.trans h.tape, k.output.trans h.output, Nat.le_trans h.size k.size, fun i hi hn => (k.block i (Nat.lt_of_lt_of_le hi h.size) hn).trans (h.block i hi hn)⟩
theorem only_cell {u w : World} {b : Nat} (h : u.grownBy w (some b)) (o : Nat) (v : Value) : u.grownBy (w.setCell ⟨b, o, none⟩ v) (some b) :=
  only_trans h ⟨rfl, rfl, rfl, by simp [World.setCell], fun i _ hn => Below.heap_setCell _ _ _ _ (fun e => hn (by rw [e]))⟩
theorem only_heap {w w' : World} {b x : Nat} (h : w.grownBy w' (some b)) (hx : x ≠ b) {o : Obj} (hb : w.heap[x]? = some o) : w'.heap[x]? = some o := by
  have hlt : x < w.heap.size := by
    rcases Nat.lt_or_ge x w.heap.size with hh | hh
    · exact hh
    · rw [Array.getElem?_eq_none hh] at hb; cases hb
  rw [h.block x hlt (fun e => hx (by cases e; rfl))]; exact hb
theorem only_row {w w' : World} {b g : Nat} {A : Array Value} (h : w.grownBy w' (some b)) (hg : b = g) : w.grownBy (w'.setRow g A) (some b) := by
  subst hg
  exact only_trans h ⟨rfl, rfl, rfl, by simp, fun i _ hn => setRow_other w' b i A (fun e => hn (by rw [e]))⟩

theorem bel_drewN {B : Nat} {a w : World} (h : Below B a w) (n : Nat) : Below B a (w.drewN n) := ⟨h.os, h.tape, h.output, h.size, h.block⟩
theorem add_at (b o j : Nat) : (⟨b, o, none⟩ : Addr).add j = ⟨b, o + j, none⟩ := by unfold Addr.add; split <;> simp_all
theorem one_new (w : World) (x : Value) (t : TypeId) : ∀ j u, [x][j]? = some u → (w.alloc (.cells #[x] t)).cell? ((⟨w.heap.size, 0, none⟩ : Addr).add j) = some u := by
  intro j u h
  cases j with
  | zero => rw [add_at, cell_of_row _ _ _ _ _ _ (heap_alloc_last _ _)]; simpa using h
  | succ j => simp at h
theorem only_none {w w' : World} {s : Value} {B : Nat} {a : World} (h : Below B a w) (k : w.grownBy w' s.ownBlock) (hB : B ≤ w.heap.size) (hs : ∀ j, s.ownBlock = some j → B ≤ j) : Below B a w' := h.grown k hB hs
theorem cell_other {w : World} {b c i j : Nat} {v : Value} (h : b ≠ c) : (w.setCell ⟨c, j, none⟩ v).cell? ⟨b, i, none⟩ = w.cell? ⟨b, i, none⟩ := World.cell?_setCell_other _ _ _ _ (fun e => h (by injection e with e1; exact e1.symm))
theorem cell_off {w : World} {b c i j : Nat} {v : Value} (h : i ≠ j) : (w.setCell ⟨c, j, none⟩ v).cell? ⟨b, i, none⟩ = w.cell? ⟨b, i, none⟩ := World.cell?_setCell_other _ _ _ _ (fun e => h (by injection e with _ e2; exact e2.symm))
/-! A block that is new, and stays. -/
theorem row_born {w : World} {A : Array Value} {t : TypeId} {b : Nat} (h : w.heap.size = b) : (w.alloc (.cells A t)).heap[b]? = some (.cells A t (0, 0)) := h ▸ heap_alloc_last _ _
theorem row_alloc {w : World} {o o' : Obj} {b : Nat} (h : w.heap[b]? = some o) : (w.alloc o').heap[b]? = some o := bel_heap ((Below.refl _ _).alloc (Nat.le_refl _) _) h
theorem row_cell {w : World} {A : Array Value} {t : TypeId} {b j : Nat} {v : Value} (h : w.heap[b]? = some (.cells A t (0, 0))) (hv : A[j]? = some v) : w.cell? ⟨b, j, none⟩ = some v := (cell_of_row _ _ _ _ _ _ h).trans hv
theorem row_frozen {w : World} {A : Array Value} {t : TypeId} {b j : Nat} (h : w.heap[b]? = some (.cells A t (0, 0))) : w.frozen? ⟨b, j, none⟩ = false := frozen_of_row _ _ _ _ _ h
end Go.Proofs.YthhbhfpdabiclaaGreatDoor
