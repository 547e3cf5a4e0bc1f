/- boot (layer 11): a kit's box, and New. -/
import Derived.Test.YtmpagjijjahohaaGreatDoorBootGG
import Derived.Great.BuildSlice
import Derived.Great.Ranges
namespace Go.Proofs.YtmpagjijjahohaaGreatDoor.B11
open Go.RowKit
set_option linter.unusedVariables false
/-- A kit's cells: itself; of each runtime whether it was built, the lock's two words, its words, its start, its error; how many were made. -/
def krow (c : Nat → Value) : Array Value := ((List.range 188).map c).toArray
theorem krow_get (c : Nat → Value) {j : Nat} (h : j < 188) : (krow c)[j]? = some (c j) := by simp [krow, h]
def updK (c : Nat → Value) (j : Nat) (v : Value) : Nat → Value := fun i => if i = j then v else c i
theorem krow_set (c : Nat → Value) (j : Nat) (v : Value) : (krow c).setIfInBounds j v = krow (updK c j v) := by
  apply Array.ext
  · simp [krow]
  · intro i h1 h2
    simp only [krow, updK, List.getElem_toArray, List.getElem_map, List.getElem_range]
    by_cases e : j = i
    · subst e; simp
    · have e' : ¬ i = j := fun h => e h.symm
      simp [e, e']
/-- In world w the block b holds these 188 cells. -/
def KBox (w : World) (b : Nat) (c : Nat → Value) : Prop := w.heap[b]? = some (.cells (krow c) 79 (0, 0))
theorem KBox.cell {w : World} {b : Nat} {c : Nat → Value} (h : KBox w b c) {j : Nat} (hj : j < 188) : w.cell? ⟨b, j, none⟩ = some (c j) := row_cell h (krow_get c hj)
theorem KBox.frozen {w : World} {b : Nat} {c : Nat → Value} (h : KBox w b c) (j : Nat) : w.frozen? ⟨b, j, none⟩ = false := row_frozen h
theorem KBox.bel {w w' : World} {b : Nat} {c : Nat → Value} (h : KBox w b c) (k : Below w.heap.size w w') : KBox w' b c := bel_heap k h
theorem KBox.set {w : World} {b : Nat} {c : Nat → Value} (h : KBox w b c) (j : Nat) (v : Value) : KBox (w.setCell ⟨b, j, none⟩ v) b (updK c j v) := by
  have := heap_setCell_same w b j _ _ v h
  rw [krow_set] at this
  exact this
theorem KBox.congr {w : World} {b : Nat} {c c' : Nat → Value} (h : KBox w b c) (e : ∀ j, j < 188 → c j = c' j) : KBox w b c' := by
  unfold KBox at h ⊢
  rw [h]
  have : krow c = krow c' := by
    unfold krow
    congr 1
    exact List.map_congr_left fun j hj => e j (by simpa using hj)
  rw [this]
/-- A runtime's cells: S i: its words, if it is built. -/
def kC (p : Value) (S : Nat → Option Value) (n : Int) (j : Nat) : Value :=
  if j = 0 then p else if j = 187 then .int .i64 n
  else if (j - 1) % 6 = 0 then .int .u32 (if (S ((j - 1) / 6)).isSome then 1 else 0) else if (j - 1) % 6 = 1 then .int .i32 0 else if (j - 1) % 6 = 2 then .int .u32 0
  else if (j - 1) % 6 = 3 then (S ((j - 1) / 6)).getD (.slice none 0 0) else if (j - 1) % 6 = 4 then .int .u32 (if (S ((j - 1) / 6)).isSome then 1600 else 0) else .int .i64 0
set_option maxRecDepth 100000 in
theorem kit_zero : Tryz.prog.built 79 [] = some (krow (kC (.pointer none) (fun _ => none) 0)) := by kernel_rfl
/-- A kit, and what of it is built: each built one's words lie in blocks of their own. -/
structure KitAt (w : World) (b : Nat) (S : Nat → Option Value) (n : Int) : Prop where
  box : KBox w b (kC (.pointer (some ⟨b, 0, none⟩)) S n)
  words : ∀ i v, S i = some v → w.ownsRow 0 32 1 v 405 (bsL .u32 (bF ((i : Int) + 2)) 405)
  n0 : 0 ≤ n
  n1 : n ≤ 100
theorem KitAt.bel {w w' : World} {b : Nat} {S : Nat → Option Value} {n : Int} (h : KitAt w b S n) (k : Below w.heap.size w w') : KitAt w' b S n :=
  ⟨h.box.bel k, fun i v hv => A7.own_same (h.words i v hv) fun j hj => k.block j ((h.words i v hv).lt j hj).2, h.n0, h.n1⟩
set_option maxRecDepth 100000 in
set_option maxHeartbeats 4000000 in
theorem new_at (w : World) : Calls Tryz.prog 8 #[] w fun e w' => e = .returned (.pointer (some ⟨w.heap.size, 0, none⟩)) ∧ KitAt w' w.heap.size (fun _ => none) 0 ∧ Below w.heap.size w w' := by
  have hX : Hid (KBox (w.alloc (.cells (krow (kC (.pointer none) (fun _ => none) 0)) 79)) w.heap.size (kC (.pointer none) (fun _ => none) 0)) := heap_alloc_last _ _
  have gX : Hid (Below w.heap.size w (w.alloc (.cells (krow (kC (.pointer none) (fun _ => none) 0)) 79))) := (Below.refl _ _).alloc (Nat.le_refl _) _
  go_enter Tryz.func8, Tryz.ntmps8
  go_upto_region 2 with (first
    | (refine Great.wpList_boxTo rfl 79 (.tmp 2) rfl (some 3) rfl w.heap.size rfl (krow (kC (.pointer none) (fun _ => none) 0)) rfl ?_)
    | (refine wpList_buildTo rfl 79 #[] rfl (some 2) rfl (krow (kC (.pointer none) (fun _ => none) 0)) (by simpa [go_sem] using kit_zero) ?_))
  generalize w.alloc (.cells (krow (kC (.pointer none) (fun _ => none) 0)) 79) = V at hX gX ⊢
  generalize hb : w.heap.size = b at hX gX ⊢
  have c0 : V.cell? ⟨b, 0, none⟩ = some (.pointer none) := hX.out.cell (by decide)
  have f0 : V.frozen? ⟨b, 0, none⟩ = false := hX.out.frozen 0
  go_wp2_with fail
  go_ret
  subst hb
  refine ⟨rfl, ⟨(hX.out.set 0 _).congr fun j hj => ?_, fun i v hv => (by cases hv), by decide, by decide⟩, gX.out.setCell (p := ⟨w.heap.size, 0, none⟩) (Nat.le_refl _) _⟩
  unfold updK kC
  by_cases e : j = 0
  · rw [if_pos e, if_pos e]
  · rw [if_neg e, if_neg e, if_neg e]
theorem count_is {w : World} {b : Nat} {S : Nat → Option Value} {n : Int} (h : KitAt w b S n) : Calls Tryz.prog 12 #[.pointer (some ⟨b, 0, none⟩)] w fun e w' => e = .returned (.int .i64 n) ∧ w = w' := by
  have c0 : Hid (w.cell? ⟨b, 0, none⟩ = some (.pointer (some ⟨b, 0, none⟩))) := h.box.cell (j := 0) (by decide)
  have c1 : Hid (w.cell? ⟨b, 187, none⟩ = some (.int .i64 n)) := h.box.cell (j := 187) (by decide)
  have hw : IntKind.i64.wrap n = n := IntWalk.i64_in _ (by have := h.n0; have := h.n1; omega)
  clear h
  go_enter Tryz.func12, Tryz.ntmps12
  go_wp2_with fail
  refine (isObject_yes _ _ c0.out).mono ?_; rintro e w1 ⟨rfl, rfl⟩
  go_wp2_with fail
  refine (count_at b 187 n _ c1.out).mono ?_; rintro e w1 ⟨rfl, rfl⟩
  go_wp2_with fail
  go_ret
  exact ⟨rfl, rfl⟩
end Go.Proofs.YtmpagjijjahohaaGreatDoor.B11
