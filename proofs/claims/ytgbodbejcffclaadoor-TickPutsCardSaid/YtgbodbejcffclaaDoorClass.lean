/- A region that draws its order, walked once in the order of the text, in a class of worlds of the prover's own choice ('F p', p of any type): what it loads is said for every p, and a callee may leave any world of the class, one with new blocks among them. -/
import Derived.Test.YtgbodbejcffclaaDoorGrown
import Derived.Deep.QuietTactic
import Derived.BigQuiet
import Derived.Deep.WholeRow
namespace Go.Proofs.YtgbodbejcffclaaDoor
open Go.RowKit
theorem wp_region_class {J : Type} (F : J → World) {P : Program} {id : Nat} {Q : Exit → Act → World → Prop} {a : Act} {w : World} {l : List Oper} (hm : P.follows .mixedOrders = true) (hB : Region.lexB .any l.toArray = true)
    (hw : ∃ p, w.drew = F p) (h : wpQuiet P l.toArray (fun w' => ∃ p, w' = F p) (fun a' => ∀ w', (∃ p, w' = F p) → Q .normal a' w') l a) : (Code.region id l.toArray true).wp P Q a w :=
  wp_region_quiet (C := fun w' => ∃ p, w' = F p) hm hB hw (by simpa using h)
theorem cell_new (w : World) (A : Array Value) (t : TypeId) (j : Nat) : (w.alloc (.cells A t)).cell? ⟨w.heap.size, j, none⟩ = A[j]? := cell_of_row _ _ _ _ _ _ (heap_alloc_last _ _)
theorem size_new (w : World) (A : Array Value) (t : TypeId) : (w.alloc (.cells A t)).heap.size = w.heap.size + 1 := by simp
theorem cell_new_grown {w W : World} {A : Array Value} {t : TypeId} (g : Grown (w.alloc (.cells A t)) W) {j : Nat} {v : Value} (h : A[j]? = some v) : W.cell? ⟨w.heap.size, j, none⟩ = some v := grown_cell g ((cell_new w A t j).trans h)
end Go.Proofs.YtgbodbejcffclaaDoor
