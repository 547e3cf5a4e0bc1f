/- Package wind as it has landed: the parts of the handlers, as slices of instructions; the iterator over a window's registers; a slice of slices put together. -/
import Derived.RangeFuncNested
import Derived.RangeFuncBound
import Derived.RangeFuncCalls
import Derived.RangeFuncLeaves
import Derived.Shelf.Abstract
import Derived.Shelf.RegionOpen
import Derived.WalkKit
import Derived.OwnWalkIn
import Derived.TacticsInMore
import Derived.LoopNIn
import Derived.LoopIn
import Derived.RangeFuncBox
import Derived.Lib.AppendZerosOnto
import Derived.Test.YtmpagjijjahohaaGreatDoorAsmG
import Derived.Test.YtmpagjijjahohaaGreatDoorWindG
namespace Go.Proofs.YtmpagjijjahohaaGreatDoor.W8
open Go.RowKit Go.Shelf
open A7 (XI XB)
set_option linter.unusedVariables false
attribute [local go_sem] Oper.semAt_some
/-- The cells of instructions. -/
def rowsOf (L : List XI) : List Value := L.flatMap XI.row
theorem rowsOf_len : ∀ L : List XI, (rowsOf L).length = L.length * 6
  | [] => rfl
  | x :: L => by
    have := rowsOf_len L
    simp only [rowsOf, List.flatMap_cons, List.length_append, List.length_cons] at this ⊢
    rw [this]
    show 6 + L.length * 6 = _
    omega
theorem rowsOf_append (L M : List XI) : rowsOf (L ++ M) = rowsOf L ++ rowsOf M := by simp [rowsOf]
theorem rowsOf_one (x : XI) : rowsOf [x] = x.row := by simp [rowsOf]
theorem rowsOf_cell : ∀ (L : List XI) (i k : Nat), k < 6 → i < L.length → (rowsOf L)[i * 6 + k]? = (gX L i).row[k]?
  | [], _, _, _, h => absurd h (Nat.not_lt_zero _)
  | x :: L, 0, k, hk, _ => by
    have e : rowsOf (x :: L) = x.row ++ rowsOf L := by simp [rowsOf]
    have hl : x.row.length = 6 := rfl
    rw [e, List.getElem?_append_left (by rw [hl]; omega), Nat.zero_mul, Nat.zero_add]
    rfl
  | x :: L, i + 1, k, hk, hi => by
    have e : rowsOf (x :: L) = x.row ++ rowsOf L := by simp [rowsOf]
    have hl : x.row.length = 6 := rfl
    rw [e, List.getElem?_append_right (by rw [hl]; omega), hl, show (i + 1) * 6 + k - 6 = i * 6 + k by omega, rowsOf_cell L i k hk (by simpa using hi)]
    rfl
theorem rowsOf_cells {L : List XI} : ∀ u ∈ rowsOf L, u.oneCell' = true := by
  intro u hu
  simp only [rowsOf, List.mem_flatMap] at hu
  obtain ⟨x, _, hx⟩ := hu
  simp only [XI.row, List.mem_cons, List.not_mem_nil, or_false] at hx
  rcases hx with rfl | rfl | rfl | rfl | rfl | rfl <;> rfl
/-- A part of a handler lies in world w. -/
def PartAt (w : World) (B : Nat) (v : Value) (L : List XI) : Prop := ∃ g c, v = .slice (some ⟨g, 0, none⟩) L.length c ∧ B ≤ g ∧ g < w.heap.size ∧ ∀ j u, (rowsOf L)[j]? = some u → w.cell? ⟨g, j, none⟩ = some u
theorem PartAt.bel {w w' : World} {B : Nat} {v : Value} {L : List XI} (h : PartAt w B v L) (k : Below w.heap.size w w') : PartAt w' B v L := by
  obtain ⟨g, c, rfl, hB, hg, hc⟩ := h
  exact ⟨g, c, rfl, hB, Nat.lt_of_lt_of_le hg k.size, fun j u hu => bel_cell k (hc j u hu)⟩
theorem PartAt.low {w : World} {B B' : Nat} {v : Value} {L : List XI} (h : PartAt w B v L) (hb : B' ≤ B) : PartAt w B' v L := by
  obtain ⟨g, c, rfl, hB, hg, hc⟩ := h
  exact ⟨g, c, rfl, Nat.le_trans hb hB, hg, hc⟩
theorem part_new (w : World) (L : List XI) (n : Nat) (hn : L.length = n) : PartAt (w.alloc (.cells (rowsOf L).toArray 106)) w.heap.size (.slice (some ⟨w.heap.size, 0, none⟩) n n) L :=
  ⟨_, _, by rw [hn], Nat.le_refl _, by simp, fun j u hu => row_cell (heap_alloc_last _ _) (by simpa using hu)⟩
theorem part_own {w : World} {B : Nat} {v : Value} {L : List XI} {n : Nat} (h : w.ownsRow B 106 6 v n (rowsOf L)) (hl : L.length = n) (hn : 0 < n) : PartAt w B v L := by
  obtain ⟨_, ⟨_, h0⟩ | ⟨g, cap, cur, rfl, hB, hg, h1, h2, h3, h4⟩⟩ := h
  · omega
  · refine ⟨g, cap, by rw [hl], hB, A7.heap_lt hg, fun j u hu => row_cell hg ?_⟩
    rw [← h4] at hu
    rw [List.getElem?_take] at hu
    split at hu
    · simpa using hu
    · cases hu
/-- .. as what Put takes. -/
theorem PartAt.ins {w : World} {B : Nat} {v : Value} {L : List XI} (h : PartAt w B v L) {H : Nat → Prop} (hH : ∀ i, H i → i < B) : A7.Ins w H v L.length (gX L) := by
  obtain ⟨g, c, rfl, hB, hg, hc⟩ := h
  refine ⟨_, c, rfl, fun _ => ⟨g, 0, rfl, fun e => absurd (hH g e) (Nat.not_lt.2 hB), fun i hi => ?_⟩⟩
  have hk : ∀ k, k < 6 → ∀ u, (gX L i).row[k]? = some u → w.cell? ⟨g, 0 + i * 6 + k, none⟩ = some u := fun k hk u hu => by
    rw [Nat.zero_add]
    exact hc _ _ ((rowsOf_cell L i k hk hi).trans hu)
  exact ⟨hk 0 (by decide) _ rfl, hk 1 (by decide) _ rfl, hk 2 (by decide) _ rfl, hk 3 (by decide) _ rfl, hk 4 (by decide) _ rfl, hk 5 (by decide) _ rfl⟩
theorem inst_under : Tryz.prog.underlying 285 = some (.slice 106) := Tryz.underlying285
def instZ : Value := .agg #[.int .u8 0, .int .u8 0, .int .u8 0, .int .u8 0, .bool false, .int .i32 0]
theorem inst_info : (Tryz.prog.info? 106).map (fun i => (i.zero, i.size, i.bytes)) = some (some instZ, 6, 12) := by kernel_rfl
theorem inst_parts : ∃ i, Tryz.prog.info? 106 = some i ∧ i.zero = some instZ ∧ i.size = 6 ∧ i.bytes = 12 := by
  have h := inst_info
  cases hi : Tryz.prog.info? 106 with
  | none => rw [hi] at h; cases h
  | some i =>
    rw [hi] at h
    simp only [Option.map_some, Option.some.injEq, Prod.mk.injEq] at h
    exact ⟨i, rfl, h.1, h.2.1, h.2.2⟩
/-! The parts that are written out. -/
theorem split_at (w : World) : Calls Tryz.prog 232 #[] w fun e w' => ∃ v, e = .returned v ∧ PartAt w' w.heap.size v spL ∧ Below w.heap.size w w' := by
  have P := Lib.hid (part_new w spL 3 rfl)
  go_enter Tryz.func232, Tryz.ntmps232
  go_wp2
  go_ret
  exact ⟨_, rfl, P.out, (Below.refl _ _).alloc (Nat.le_refl _) _⟩
theorem ahead_at (k nw : Int) (w : World) (hk : 0 ≤ k ∧ k ≤ 32) (hn : 0 ≤ nw ∧ nw ≤ 32) : Calls Tryz.prog 233 #[.int .i64 k, .int .i64 nw] w fun e w' => ∃ v, e = .returned v ∧ PartAt w' w.heap.size v (ahL k nw) ∧ Below w.heap.size w w' := by
  obtain ⟨k0, k1⟩ := hk
  obtain ⟨n0, n1⟩ := hn
  have P := Lib.hid (part_new w (ahL k nw) 2 rfl)
  go_enter Tryz.func233, Tryz.ntmps233
  go_wp2
  go_ret
  exact ⟨_, rfl, P.out, (Below.refl _ _).alloc (Nat.le_refl _) _⟩
theorem enter_at (w : World) : Calls Tryz.prog 234 #[] w fun e w' => ∃ v, e = .returned v ∧ PartAt w' w.heap.size v [sEn] ∧ Below w.heap.size w w' := by
  have P := Lib.hid (part_new w [sEn] 1 rfl)
  go_enter Tryz.func234, Tryz.ntmps234
  go_wp2
  go_ret
  exact ⟨_, rfl, P.out, (Below.refl _ _).alloc (Nat.le_refl _) _⟩
theorem invalidate_at (w : World) : Calls Tryz.prog 236 #[] w fun e w' => ∃ v, e = .returned v ∧ PartAt w' w.heap.size v inL ∧ Below w.heap.size w w' := by
  have P := Lib.hid (part_new w inL 3 rfl)
  go_enter Tryz.func236, Tryz.ntmps236
  go_wp2
  go_ret
  exact ⟨_, rfl, P.out, (Below.refl _ _).alloc (Nat.le_refl _) _⟩
theorem leave_at (w : World) : Calls Tryz.prog 237 #[] w fun e w' => ∃ v, e = .returned v ∧ PartAt w' w.heap.size v [sRt] ∧ Below w.heap.size w w' := by
  have P := Lib.hid (part_new w [sRt] 1 rfl)
  go_enter Tryz.func237, Tryz.ntmps237
  go_wp2
  go_ret
  exact ⟨_, rfl, P.out, (Below.refl _ _).alloc (Nat.le_refl _) _⟩
/-! The iterator. -/
def encW (x : Nat) : Array Value := #[.int .u8 (16 + (x : Int)), .int .i32 (4 * (x : Int))]
theorem places_in (F : Fence) (n : Nat) (h5 : F.fn 285) (hro : F.round = none) (w : World) :
    CallsIn F n Tryz.prog 285 #[] w fun e w' => e = .returned (.func (.func 357) #[] #[]) ∧ w' = w := by
  refine callsIn_of_wp Tryz.func285 rfl h5 ?_ hro
  simp only [Tryz.ntmps285, List.size_toArray, List.length_nil, Nat.reduceSub, Array.replicate_succ, Array.replicate_zero, List.push_toArray, List.append_toArray, List.nil_append]
  gi_wp2
  go_ret
  exact ⟨rfl, rfl⟩
set_option maxRecDepth 100000 in
set_option maxHeartbeats 2000000 in
theorem places_stops (F : Fence) (n : Nat) (h6 : F.fn 357) (hro : F.round = none) (hn : 1 ≤ n) (w : World) :
    SeqStopsK F n Tryz.prog 357 #[] encW (fun _ _ => True) (fun xs => xs = List.range 16) (fun _ => True) 16 w := fun l J Jx W hW _ _ hY h0 => by
  refine callsIn_of_wp Tryz.func357 rfl h6 ?_ hro
  simp only [Tryz.ntmps357, List.size_toArray, List.length_cons, List.length_nil, Nat.reduceAdd, Nat.reduceSub, Array.replicate_succ, Array.replicate_zero, List.push_toArray, List.append_toArray, List.nil_append, List.cons_append]
  gi_wp2
  gi_loopw [2, 3] (fun r o wr => ∃ k : Nat, k ≤ 16 ∧ r = .int .u8 (16 + (k : Int)) ∧ o = .int .i32 (4 * (k : Int)) ∧ J (List.range k) wr) (fun _ o _ => 64 - (intOf o).toNat)
  case atStart => exact ⟨0, Nat.zero_le _, rfl, rfl, h0⟩
  case round =>
    obtain ⟨k, hk, rfl, rfl, hJs⟩ := hrel
    by_cases hlt : k < 16
    · have hlt' : 4 * (k : Int) < 64 := by omega
      obtain ⟨fn, tmps, assign, body, hy, hR⟩ := hY (List.range k) k wr hJs (by rw [List.length_range]; exact hlt)
      simp only [encW] at hy
      gi_wp2
      refine hR.mono ?_
      rintro e W3 (⟨rfl, hJ3, _⟩ | ⟨rfl, hJx3⟩)
      · gi_wp2
        go_roundw
        case rel => exact ⟨k + 1, by omega, by go_num, by go_num, by rw [List.range_succ]; exact hJ3⟩
        case measure => simp [intOf]; omega
      · gi_wp2
        refine bodyPost_ret (results_none rfl _ _ _) rfl ?_
        exact ⟨⟨_, rfl⟩, .inr ⟨_, trivial, hJx3⟩⟩
    · obtain rfl : k = 16 := by omega
      gi_wp2
      go_end0
      exact ⟨⟨_, rfl⟩, .inl ⟨_, rfl, hJs⟩⟩
end Go.Proofs.YtmpagjijjahohaaGreatDoor.W8
