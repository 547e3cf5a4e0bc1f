/- A block of four cells (a state): read, and written whole. -/
import Derived.Test.YtoecanjhkbeemaaGreatDoorBel
namespace Go.Proofs.YtoecanjhkbeemaaGreatDoor
open Go.RowKit
/-- Four cells of a block, all written. -/
theorem put4_row {W : World} {z : Nat} {x0 x1 x2 x3 y0 y1 y2 y3 : Value} {t : TypeId} (h : W.heap[z]? = some (.cells #[x0, x1, x2, x3] t (0, 0))) :
    ((((W.setCell ⟨z, 0, none⟩ y0).setCell ⟨z, 1, none⟩ y1).setCell ⟨z, 2, none⟩ y2).setCell ⟨z, 3, none⟩ y3).heap[z]? = some (.cells #[y0, y1, y2, y3] t (0, 0)) := by
  simp [World.setCell, Array.getElem?_modify, h]
theorem put4_bel {a W : World} {z : Nat} {y0 y1 y2 y3 : Value} (h : Below a.heap.size a W) (hz : a.heap.size ≤ z) : Below a.heap.size a ((((W.setCell ⟨z, 0, none⟩ y0).setCell ⟨z, 1, none⟩ y1).setCell ⟨z, 2, none⟩ y2).setCell ⟨z, 3, none⟩ y3) :=
  (((h.setCell (p := ⟨z, 0, none⟩) hz _).setCell (p := ⟨z, 1, none⟩) hz _).setCell (p := ⟨z, 2, none⟩) hz _).setCell (p := ⟨z, 3, none⟩) hz _
theorem row_put4 {W : World} {z b : Nat} {y0 y1 y2 y3 : Value} {o : Obj} (h : W.heap[b]? = some o) (hz : b ≠ z) : ((((W.setCell ⟨z, 0, none⟩ y0).setCell ⟨z, 1, none⟩ y1).setCell ⟨z, 2, none⟩ y2).setCell ⟨z, 3, none⟩ y3).heap[b]? = some o := by
  rw [Below.heap_setCell _ _ _ _ hz, Below.heap_setCell _ _ _ _ hz, Below.heap_setCell _ _ _ _ hz, Below.heap_setCell _ _ _ _ hz]; exact h
/-- What a block of four cells gives the walk. -/
theorem four_at {W : World} {z : Nat} {x0 x1 x2 x3 : Value} {t : TypeId} (h : W.heap[z]? = some (.cells #[x0, x1, x2, x3] t (0, 0))) :
    (W.cell? ⟨z, 0, none⟩ = some x0 ∧ W.cell? ⟨z, 1, none⟩ = some x1 ∧ W.cell? ⟨z, 2, none⟩ = some x2 ∧ W.cell? ⟨z, 3, none⟩ = some x3) ∧
    (W.frozen? ⟨z, 0, none⟩ = false ∧ W.frozen? ⟨z, 1, none⟩ = false ∧ W.frozen? ⟨z, 2, none⟩ = false ∧ W.frozen? ⟨z, 3, none⟩ = false) :=
  ⟨⟨row_cell h rfl, row_cell h rfl, row_cell h rfl, row_cell h rfl⟩, row_frozen h, row_frozen h, row_frozen h, row_frozen h⟩
end Go.Proofs.YtoecanjhkbeemaaGreatDoor
