/- Package wind as it has landed: the parts of the handlers, as slices of instructions; the iterator over a window's registers; a slice of slices put together. Package wind as it has landed: a frame's instructions, by the iterator. Package wind as it has landed: slices put together (slices.Grow, slices.Concat), put. Package wind as it has landed: what is put; the mark ahead of a handler; Over and Under. -/
import Derived.RangeFuncNested
import Derived.RangeFuncBound
import Derived.RangeFuncCalls
import Derived.RangeFuncLeaves
import Derived.Shelf.Abstract
import Derived.Shelf.RegionOpen
import Derived.WalkKit
import Derived.OwnWalkIn
import Derived.TacticsInMore
import Derived.LoopNIn
import Derived.LoopIn
import Derived.RangeFuncBox
import Derived.Lib.AppendZerosOnto
import Derived.Test.YtiobgnelhiadbaaGreatDoorXAsmG
import Derived.Test.YtiobgnelhiadbaaGreatDoorXWindG
import Derived.Lib.Walk
import Derived.Maps.AppendAt
import Derived.Test.YtiobgnelhiadbaaGreatDoorXPsrG
namespace Go.Proofs.YtiobgnelhiadbaaGreatDoor.W8
open Go.RowKit Go.Shelf
open A7 (XI XB)
set_option linter.unusedVariables false
attribute [local go_sem] Oper.semAt_some
/-- The cells of instructions. -/
def rowsOf (L : List XI) : List Value := L.flatMap XI.row
theorem rowsOf_len : ∀ L : List XI, (rowsOf L).length = L.length * 6
  | [] => rfl
  | x :: L => by
    have := rowsOf_len L
    simp only [rowsOf, List.flatMap_cons, List.length_append, List.length_cons] at this ⊢
    rw [this]
    show 6 + L.length * 6 = _
    omega
theorem rowsOf_append (L M : List XI) : rowsOf (L ++ M) = rowsOf L ++ rowsOf M := by simp [rowsOf]
theorem rowsOf_one (x : XI) : rowsOf [x] = x.row := by simp [rowsOf]
theorem rowsOf_cell : ∀ (L : List XI) (i k : Nat), k < 6 → i < L.length → (rowsOf L)[i * 6 + k]? = (gX L i).row[k]?
  | [], _, _, _, h => absurd h (Nat.not_lt_zero _)
  | x :: L, 0, k, hk, _ => by
    have e : rowsOf (x :: L) = x.row ++ rowsOf L := by simp [rowsOf]
    have hl : x.row.length = 6 := rfl
    rw [e, List.getElem?_append_left (by rw [hl]; omega), Nat.zero_mul, Nat.zero_add]
    rfl
  | x :: L, i + 1, k, hk, hi => by
    have e : rowsOf (x :: L) = x.row ++ rowsOf L := by simp [rowsOf]
    have hl : x.row.length = 6 := rfl
    rw [e, List.getElem?_append_right (by rw [hl]; omega), hl, show (i + 1) * 6 + k - 6 = i * 6 + k by omega, rowsOf_cell L i k hk (by simpa using hi)]
    rfl
theorem rowsOf_cells {L : List XI} : ∀ u ∈ rowsOf L, u.oneCell' = true := by
  intro u hu
  simp only [rowsOf, List.mem_flatMap] at hu
  obtain ⟨x, _, hx⟩ := hu
  simp only [XI.row, List.mem_cons, List.not_mem_nil, or_false] at hx
  rcases hx with rfl | rfl | rfl | rfl | rfl | rfl <;> rfl
/-- A part of a handler lies in world w. -/
def PartAt (w : World) (B : Nat) (v : Value) (L : List XI) : Prop := ∃ g c, v = .slice (some ⟨g, 0, none⟩) L.length c ∧ B ≤ g ∧ g < w.heap.size ∧ ∀ j u, (rowsOf L)[j]? = some u → w.cell? ⟨g, j, none⟩ = some u
theorem PartAt.bel {w w' : World} {B : Nat} {v : Value} {L : List XI} (h : PartAt w B v L) (k : Below w.heap.size w w') : PartAt w' B v L := by
  obtain ⟨g, c, rfl, hB, hg, hc⟩ := h
  exact ⟨g, c, rfl, hB, Nat.lt_of_lt_of_le hg k.size, fun j u hu => bel_cell k (hc j u hu)⟩
theorem PartAt.low {w : World} {B B' : Nat} {v : Value} {L : List XI} (h : PartAt w B v L) (hb : B' ≤ B) : PartAt w B' v L := by
  obtain ⟨g, c, rfl, hB, hg, hc⟩ := h
  exact ⟨g, c, rfl, Nat.le_trans hb hB, hg, hc⟩
theorem part_new (w : World) (L : List XI) (n : Nat) (hn : L.length = n) : PartAt (w.alloc (.cells (rowsOf L).toArray 88)) w.heap.size (.slice (some ⟨w.heap.size, 0, none⟩) n n) L :=
  ⟨_, _, by rw [hn], Nat.le_refl _, by simp, fun j u hu => row_cell (heap_alloc_last _ _) (by simpa using hu)⟩
theorem part_own {w : World} {B : Nat} {v : Value} {L : List XI} {n : Nat} (h : w.ownsRow B 88 6 v n (rowsOf L)) (hl : L.length = n) (hn : 0 < n) : PartAt w B v L := by
  obtain ⟨_, ⟨_, h0⟩ | ⟨g, cap, cur, rfl, hB, hg, h1, h2, h3, h4⟩⟩ := h
  · omega
  · refine ⟨g, cap, by rw [hl], hB, A7.heap_lt hg, fun j u hu => row_cell hg ?_⟩
    rw [← h4] at hu
    rw [List.getElem?_take] at hu
    split at hu
    · simpa using hu
    · cases hu
/-- .. as what Put takes. -/
theorem PartAt.ins {w : World} {B : Nat} {v : Value} {L : List XI} (h : PartAt w B v L) {H : Nat → Prop} (hH : ∀ i, H i → i < B) : A7.Ins w H v L.length (gX L) := by
  obtain ⟨g, c, rfl, hB, hg, hc⟩ := h
  refine ⟨_, c, rfl, fun _ => ⟨g, 0, rfl, fun e => absurd (hH g e) (Nat.not_lt.2 hB), fun i hi => ?_⟩⟩
  have hk : ∀ k, k < 6 → ∀ u, (gX L i).row[k]? = some u → w.cell? ⟨g, 0 + i * 6 + k, none⟩ = some u := fun k hk u hu => by
    rw [Nat.zero_add]
    exact hc _ _ ((rowsOf_cell L i k hk hi).trans hu)
  exact ⟨hk 0 (by decide) _ rfl, hk 1 (by decide) _ rfl, hk 2 (by decide) _ rfl, hk 3 (by decide) _ rfl, hk 4 (by decide) _ rfl, hk 5 (by decide) _ rfl⟩
theorem inst_under : Tryz.prog.underlying 113 = some (.slice 88) := Tryz.underlying113
def instZ : Value := .agg #[.int .u8 0, .int .u8 0, .int .u8 0, .int .u8 0, .bool false, .int .i32 0]
theorem inst_info : (Tryz.prog.info? 88).map (fun i => (i.zero, i.size, i.bytes)) = some (some instZ, 6, 12) := by kernel_rfl
theorem inst_parts : ∃ i, Tryz.prog.info? 88 = some i ∧ i.zero = some instZ ∧ i.size = 6 ∧ i.bytes = 12 := by
  have h := inst_info
  cases hi : Tryz.prog.info? 88 with
  | none => rw [hi] at h; cases h
  | some i =>
    rw [hi] at h
    simp only [Option.map_some, Option.some.injEq, Prod.mk.injEq] at h
    exact ⟨i, rfl, h.1, h.2.1, h.2.2⟩
/-! The parts that are written out. -/
theorem split_at (w : World) : Calls Tryz.prog 310 #[] w fun e w' => ∃ v, e = .returned v ∧ PartAt w' w.heap.size v spL ∧ Below w.heap.size w w' := by
  have P := Lib.hid (part_new w spL 3 rfl)
  go_enter Tryz.func310, Tryz.ntmps310
  go_wp2
  go_ret
  exact ⟨_, rfl, P.out, (Below.refl _ _).alloc (Nat.le_refl _) _⟩
theorem ahead_at (k nw : Int) (w : World) (hk : 0 ≤ k ∧ k ≤ 32) (hn : 0 ≤ nw ∧ nw ≤ 32) : Calls Tryz.prog 311 #[.int .i64 k, .int .i64 nw] w fun e w' => ∃ v, e = .returned v ∧ PartAt w' w.heap.size v (ahL k nw) ∧ Below w.heap.size w w' := by
  obtain ⟨k0, k1⟩ := hk
  obtain ⟨n0, n1⟩ := hn
  have P := Lib.hid (part_new w (ahL k nw) 2 rfl)
  go_enter Tryz.func311, Tryz.ntmps311
  go_wp2
  go_ret
  exact ⟨_, rfl, P.out, (Below.refl _ _).alloc (Nat.le_refl _) _⟩
theorem enter_at (w : World) : Calls Tryz.prog 312 #[] w fun e w' => ∃ v, e = .returned v ∧ PartAt w' w.heap.size v [sEn] ∧ Below w.heap.size w w' := by
  have P := Lib.hid (part_new w [sEn] 1 rfl)
  go_enter Tryz.func312, Tryz.ntmps312
  go_wp2
  go_ret
  exact ⟨_, rfl, P.out, (Below.refl _ _).alloc (Nat.le_refl _) _⟩
theorem invalidate_at (w : World) : Calls Tryz.prog 313 #[] w fun e w' => ∃ v, e = .returned v ∧ PartAt w' w.heap.size v inL ∧ Below w.heap.size w w' := by
  have P := Lib.hid (part_new w inL 3 rfl)
  go_enter Tryz.func313, Tryz.ntmps313
  go_wp2
  go_ret
  exact ⟨_, rfl, P.out, (Below.refl _ _).alloc (Nat.le_refl _) _⟩
/-! The iterator. -/
def encW (x : Nat) : Array Value := #[.int .u8 (16 + (x : Int)), .int .i32 (4 * (x : Int))]
theorem places_in (F : Fence) (n : Nat) (h5 : F.fn 282) (hro : F.round = none) (w : World) :
    CallsIn F n Tryz.prog 282 #[] w fun e w' => e = .returned (.func (.func 302) #[] #[]) ∧ w' = w := by
  refine callsIn_of_wp Tryz.func282 rfl h5 ?_ hro
  simp only [Tryz.ntmps282, List.size_toArray, List.length_nil, Nat.reduceSub, Array.replicate_succ, Array.replicate_zero, List.push_toArray, List.append_toArray, List.nil_append]
  gi_wp2
  go_ret
  exact ⟨rfl, rfl⟩
set_option maxRecDepth 100000 in
set_option maxHeartbeats 2000000 in
theorem places_stops (F : Fence) (n : Nat) (h6 : F.fn 302) (hro : F.round = none) (hn : 1 ≤ n) (w : World) :
    SeqStopsK F n Tryz.prog 302 #[] encW (fun _ _ => True) (fun xs => xs = List.range 16) (fun _ => True) 16 w := fun l J Jx W hW _ _ hY h0 => by
  refine callsIn_of_wp Tryz.func302 rfl h6 ?_ hro
  simp only [Tryz.ntmps302, List.size_toArray, List.length_cons, List.length_nil, Nat.reduceAdd, Nat.reduceSub, Array.replicate_succ, Array.replicate_zero, List.push_toArray, List.append_toArray, List.nil_append, List.cons_append]
  gi_wp2
  gi_loopw [2, 3] (fun r o wr => ∃ k : Nat, k ≤ 16 ∧ r = .int .u8 (16 + (k : Int)) ∧ o = .int .i32 (4 * (k : Int)) ∧ J (List.range k) wr) (fun _ o _ => 64 - (intOf o).toNat)
  case atStart => exact ⟨0, Nat.zero_le _, rfl, rfl, h0⟩
  case round =>
    obtain ⟨k, hk, rfl, rfl, hJs⟩ := hrel
    by_cases hlt : k < 16
    · have hlt' : 4 * (k : Int) < 64 := by omega
      obtain ⟨fn, tmps, assign, body, hy, hR⟩ := hY (List.range k) k wr hJs (by rw [List.length_range]; exact hlt)
      simp only [encW] at hy
      gi_wp2
      refine hR.mono ?_
      rintro e W3 (⟨rfl, hJ3, _⟩ | ⟨rfl, hJx3⟩)
      · gi_wp2
        go_roundw
        case rel => exact ⟨k + 1, by omega, by go_num, by go_num, by rw [List.range_succ]; exact hJ3⟩
        case measure => simp [intOf]; omega
      · gi_wp2
        refine bodyPost_ret (results_none rfl _ _ _) rfl ?_
        exact ⟨⟨_, rfl⟩, .inr ⟨_, trivial, hJx3⟩⟩
    · obtain rfl : k = 16 := by omega
      gi_wp2
      go_end0
      exact ⟨⟨_, rfl⟩, .inl ⟨_, rfl, hJs⟩⟩
end Go.Proofs.YtiobgnelhiadbaaGreatDoor.W8
namespace Go.Proofs.YtiobgnelhiadbaaGreatDoor.W8
open Go.RowKit Go.Shelf
open A7 (XI XB)
set_option linter.unusedVariables false
attribute [local go_sem] Oper.semAt_some
theorem fr_cells (W : World) (x : XI) : ∀ j u, x.row[j]? = some u → (W.alloc (.cells x.row.toArray 88)).cell? ((⟨W.heap.size, 0, none⟩ : Addr).add j) = some u := fun j u hu => by
  rw [add_off, Nat.zero_add]
  exact row_cell (heap_alloc_last _ _) (by simpa using hu)
set_option maxRecDepth 100000 in
set_option maxHeartbeats 2000000 in
theorem frame_in (F : Fence) (n : Nat) (h4 : F.fn 252) (h5 : F.fn 282) (h6 : F.fn 302) (hro : F.round = none) (hn : 3 ≤ n) (o : Int) (w : World) :
    CallsIn F n Tryz.prog 252 #[.int .u8 o] w fun e w' => ∃ v, e = .returned v ∧ w'.ownsRow w.heap.size 88 6 v 16 (rowsOf (frL o)) ∧ Below w.heap.size w w' := by
  have h1 : 1 ≤ n := by omega
  obtain ⟨i0, hi, hz0, hz1, hz2⟩ := inst_parts
  refine callsIn_of_wp_marks Tryz.func252 rfl h4 ?_ hro
  simp only [Tryz.ntmps252, List.size_toArray, List.length_cons, List.length_nil, Nat.reduceAdd, Nat.reduceSub, Array.replicate_succ, Array.replicate_zero, List.push_toArray, List.append_toArray, List.nil_append, List.cons_append]
  gi_wp2_with (gi_at_call 282; refine (places_in F (n - 1) h5 hro _).mono ?_; rintro e w' ⟨rfl, hw'⟩)
  subst hw'
  have b0 : Boxed ((w.alloc (.cells #[.int .u8 o] 5)).alloc (.cells #[.slice none 0 0] 113)) w.heap.size 5 (.int .u8 o) := (Boxed.new _ _ _).alloc _
  have b1 : Boxed ((w.alloc (.cells #[.int .u8 o] 5)).alloc (.cells #[.slice none 0 0] 113)) (w.heap.size + 1) 113 (.slice none 0 0) := by
    have := Boxed.new (w.alloc (.cells #[.int .u8 o] 5)) 113 (.slice none 0 0)
    rwa [World.size_alloc] at this
  have bl : Below w.heap.size w ((w.alloc (.cells #[.int .u8 o] 5)).alloc (.cells #[.slice none 0 0] 113)) := ((Below.refl _ _).alloc (Nat.le_refl _) _).alloc (by simp) _
  refine wpIn_rangeFunc_ownF hro h1 (gf := 302) (lb := #[]) rfl h6 (enters_of Tryz.func302 (by kernel_rfl) rfl)
    (places_stops F (n - 1) h6 hro (by omega) _) (by intros; trivial) (by intros; trivial) (Below.refl _ _) (fun _ => rfl)
    (fun pre W => ((∃ v, Boxed W (w.heap.size + 1) 113 v ∧ W.ownsRow w.heap.size 88 6 v pre.length (rowsOf (pre.map (sFr o))) ∧ True) ∧ Boxed W w.heap.size 5 (.int .u8 o)) ∧ Below w.heap.size w W)
    (fun _ _ _ => False)
    (OwnFrom.and (Own.from (fun s A B row hs hg hr => ⟨holdsRow_own w.heap.size (w.heap.size + 1) 113 88 6 (fun pre : List Nat => pre.length) (fun pre : List Nat => rowsOf (pre.map (sFr o))) (fun _ _ => True) s A B row hs.1 hg hr, hs.2.kept hg (fun e' => by
      obtain ⟨ob, ho, hc⟩ := hr w.heap.size e'.symm
      rw [show A.heap[w.heap.size]? = _ from hs.2] at ho; cases ho; cases hc)⟩) _) (ownFrom_below (Nat.le_refl _) (by simp only [World.size_alloc]; omega)))
    (fun _ _ _ _ _ hs _ _ => hs)
    ⟨⟨⟨_, b1, World.ownsRow_nil _ _ _ _, trivial⟩, b0⟩, bl⟩
    (fun x => { tmps := #[.int .u8 o, .pointer (some ⟨w.heap.size, 0, none⟩), .slice none 0 0, .pointer (some ⟨w.heap.size + 1, 0, none⟩), .int .u8 (16 + (x : Int)), .int .i32 (4 * (x : Int)), .func (.func 302) #[] #[], .int .u8 (16 + (x : Int)), .int .i32 (4 * (x : Int)), undef, undef, undef, undef, undef, undef, undef, undef], defers := [] }) ?assign ?body ?done ?stop
  case assign =>
    intro l x W K hK
    simp only [encW]
    gi_wp2
    exact hK
  case body =>
    clear b0 b1 bl
    rintro l pre x W ⟨⟨⟨v, hv, hrow, _⟩, ho⟩, hB⟩ hlt
    have hc := hv.cell
    have hoc := ho.cell
    have HL : Hid (rowsOf (pre.map (sFr o)) ++ (sFr o x).row = rowsOf ((pre ++ [x]).map (sFr o)) ∧ (pre ++ [x]).length = pre.length + 1) := ⟨by rw [List.map_append, rowsOf_append]; rfl, by simp⟩
    have HB : Hid (w.heap.size ≤ W.heap.size) := hB.size
    gi_wp2_with (gi_at_builtin; refine wpListIn_append_own _ rfl _ _ 113 rfl w.heap.size 88 i0 instZ 6 12 inst_under hi hz0 hz1 hz2 rfl (by decide) _ _ _ rfl (hrow.alloc _) ⟨W.heap.size, 0, none⟩ 1 1 (sFr o x).row rfl rfl (fr_cells W (sFr o x)) (by intro u hu; exact rowsOf_cells (L := [sFr o x]) u (by rw [rowsOf_one]; exact hu)) (by have : pre.length < 16 := hlt; unfold maxLen; omega) (by have : pre.length < 16 := hlt; omega) (by have := HB.out; simp; omega) ?_; intro v' w1 hown' hgrow _; obtain ⟨g', cap', rfl⟩ := ownsRow_succ hown'; obtain ⟨hv1, hv2, hr2, hk2, hb2⟩ := hv.appended (by decide) hrow HB.out (by omega) hown' hgrow; have hc1 := hv1.cell; have hf1 := hv1.frozen; have ho2 := ((ho.alloc (.cells (sFr o x).row.toArray 88)).kept hgrow (ho.not_row (by decide) hrow)).kept (grownBy_setCell' w1 (w.heap.size + 1) (.slice (some ⟨g', 0, none⟩) (pre.length + 1) cap')) (by simp))
    rw [HL.out.1] at hr2
    exact ⟨hk2, trivial, ⟨⟨_, hv2, (by rw [HL.out.2]; exact hr2), trivial⟩, ho2⟩, hB.trans hb2⟩
  case done =>
    rintro D ys W hD rfl ⟨⟨⟨v, hv, hrow, _⟩, ho⟩, hB⟩ hK
    have hc := hv.cell
    obtain ⟨g', cap', rfl⟩ := ownsRow_succ (k := 15) hrow
    gi_wp2
    refine ⟨by simp, .inl ⟨_, _, rfl, run_takeDeferred hK, ?_⟩⟩
    exact ⟨_, results_tmp rfl _ _ _, _, rfl, ownsRow_putObj hrow _ hK rfl, hB.trans (belowK_b (w := w) (Nat.le_refl _) W D _ _ (by simp at hD; omega) hK rfl rfl)⟩
  case stop =>
    rintro D c pre W _ _ h _
    exact h.elim
theorem frame_at (o : Int) (w : World) : Calls Tryz.prog 252 #[.int .u8 o] w fun e w' => ∃ v, e = .returned v ∧ PartAt w' w.heap.size v (frL o) ∧ Below w.heap.size w w' :=
  (callsIn_wide.1 (frame_in Fence.wide 3 trivial trivial trivial rfl (Nat.le_refl _) o w)).mono fun e w' ⟨v, h1, h2, h3⟩ => ⟨v, h1, part_own h2 rfl (by decide), h3⟩
end Go.Proofs.YtiobgnelhiadbaaGreatDoor.W8
namespace Go.Proofs.YtiobgnelhiadbaaGreatDoor.W8
open Go.RowKit
open A7 (XI XB)
set_option linter.unusedVariables false
theorem zeros_len (z : Array Value) (k : Nat) : (Builtin.zeroCells z k).size = k * z.size := by
  unfold Builtin.zeroCells
  induction k with
  | zero => simp
  | succ k ih => simp_all [Nat.succ_mul]
set_option maxRecDepth 100000 in
set_option maxHeartbeats 4000000 in
/-- slices.Grow of no slice. -/
theorem Grow_at (n : Nat) (w : World) (h0 : 0 < n) (h1 : n ≤ 1000) : Calls Tryz.prog 280 #[.slice none 0 0, .int .i64 n] w fun e w' => ∃ v, e = .returned v ∧ w'.ownsRow w.heap.size 88 6 v 0 [] ∧ Below w.heap.size w w' := by
  obtain ⟨i0, hi, hz0, hz1, hz2⟩ := inst_parts
  have hold : (Builtin.firstCells i0.size 0 (.slice none 0 0)).run Tryz.prog w.drew = .ok ([] : List Value).toArray w.drew := run_firstCells_none w.drew i0.size 0 0 0
  have hrz : ∀ ty, (Builtin.append_ #[113, 3] ty #[.slice none 0 0, .int .i64 (n : Int)]).run Tryz.prog w =
      .ok (.slice (some ⟨w.heap.size, 0, none⟩) n (grownCap w n 0 88)) (w.drew.alloc (.cells (Builtin.zeroCells instZ.cells n ++ Builtin.zeroCells instZ.cells (grownCap w n 0 88 - n)) 88)) := fun ty => by
    have h := Lib.run_append_grow_zeros (P := Tryz.prog) w 113 3 ty 88 i0 instZ .i64 .i64 inst_under Tryz.underlying3 hi hz0 none 0 0 [] hold n h0 (by rw [hz1]; decide) (by omega) (by omega) (by rw [hz2]; omega)
      (by rw [Nat.zero_add]; exact growslice_fits (by omega) (by rw [hz2]; omega))
    simpa using h
  have hg1 := grownCap_ge w n 0 88
  have hg2 := grownCap_le_maxLen w n 0 88 (by unfold maxLen; omega)
  generalize grownCap w n 0 88 = G at *
  have hG63 : G ≤ 9223372036854775807 := by unfold maxLen at hg2; omega
  have hn : ¬ ((n : Int) < 0) := by omega
  have hp : (n : Int) > 0 := by omega
  have hsz : (Builtin.zeroCells instZ.cells n ++ Builtin.zeroCells instZ.cells (G - n)).size = G * 6 := by
    rw [Array.size_append, zeros_len, zeros_len]
    show n * 6 + (G - n) * 6 = G * 6
    omega
  have O : Hid ((w.drew.alloc (.cells (Builtin.zeroCells instZ.cells n ++ Builtin.zeroCells instZ.cells (G - n)) 88)).ownsRow w.heap.size 88 6 (.slice (some ⟨w.heap.size, 0, none⟩) 0 G) 0 []) :=
    ⟨rfl, .inr ⟨w.heap.size, G, _, rfl, Nat.le_refl _, heap_alloc_last _ _, Nat.zero_le _, hg2, hsz, by simp⟩⟩
  have B : Hid (Below w.heap.size w (w.drew.alloc (.cells (Builtin.zeroCells instZ.cells n ++ Builtin.zeroCells instZ.cells (G - n)) 88))) := (Below.refl _ _).drew.alloc (Nat.le_refl _) _
  generalize (w.drew.alloc (.cells (Builtin.zeroCells instZ.cells n ++ Builtin.zeroCells instZ.cells (G - n)) 88)) = W at *
  clear hold hsz hg2 hi hz0 hz1 hz2
  go_enter Tryz.func280, Tryz.ntmps280
  go_wp2_with (at_builtin; refine Lib.wpList_append_run _ rfl _ _ _ _ rfl _ _ rfl rfl _ _ (hrz _) ?_)
  go_ret
  exact ⟨_, rfl, O.out, B.out⟩
/-- The first parts, one behind the other. -/
def catL (L : Nat → List XI) : Nat → List XI
  | 0 => []
  | k + 1 => catL L k ++ L k
theorem cat_le (L : Nat → List XI) (h : ∀ i, (L i).length ≤ 16) : ∀ k, (catL L k).length ≤ 16 * k
  | 0 => Nat.le_refl _
  | k + 1 => by have := cat_le L h k; have := h k; simp only [catL, List.length_append]; omega
/-- Parts in a slice of slices. -/
structure PartsAt (w : World) (B : Nat) (t : Value) (k : Nat) (V : Nat → Value) (L : Nat → List XI) : Prop where
  at_ : ∃ x c, t = .slice (some ⟨x, 0, none⟩) k c ∧ B ≤ x ∧ ∀ i, i < k → w.cell? ⟨x, i, none⟩ = some (V i)
  part : ∀ i, i < k → PartAt w B (V i) (L i)
theorem PartsAt.bel {w w' : World} {B : Nat} {t : Value} {k : Nat} {V : Nat → Value} {L : Nat → List XI} (h : PartsAt w B t k V L) (g : Below w.heap.size w w') : PartsAt w' B t k V L := by
  obtain ⟨x, c, rfl, hB, hc⟩ := h.at_
  exact ⟨⟨x, c, rfl, hB, fun i hi => bel_cell g (hc i hi)⟩, fun i hi => (h.part i hi).bel g⟩
set_option maxRecDepth 100000 in
set_option maxHeartbeats 4000000 in
theorem Concat_at {w : World} {B : Nat} {t : Value} {k : Nat} {V : Nat → Value} {L : Nat → List XI} (h : PartsAt w B t k V L) (hk : 0 < k) (hk2 : k ≤ 10) (hL : ∀ i, (L i).length ≤ 16) (hp : 0 < (catL L k).length) :
    Calls Tryz.prog 244 #[t] w fun e w' => ∃ v, e = .returned v ∧ PartAt w' w.heap.size v (catL L k) ∧ Below w.heap.size w w' := by
  obtain ⟨i0, hi, hz0, hz1, hz2⟩ := inst_parts
  obtain ⟨x, c, rfl, _, hcs⟩ := h.at_
  have HP := Lib.hid h
  have HC := Lib.hid hcs
  have HL := Lib.hid (cat_le L hL)
  have HL1 := Lib.hid hL
  have HK := Lib.hid hp
  have HI := Lib.hid hi
  have HZ := Lib.hid (And.intro hz0 (And.intro hz1 hz2))
  clear h hcs hL hp hi hz0 hz1 hz2
  go_enter Tryz.func244, Tryz.ntmps244
  go_wp2_with fail
  go_loopw [3, 11] (fun s i wr => ∃ j : Nat, j ≤ k ∧ s = .int .i64 ((catL L j).length : Int) ∧ i = .int .i64 j ∧ w = wr) (fun _ i _ => k - (intOf i).toNat)
  case atStart => exact ⟨0, Nat.zero_le _, rfl, rfl, rfl⟩
  case round =>
    obtain ⟨j, hj, rfl, rfl, rfl⟩ := hrel
    by_cases hlt : j < k
    · have hc := HC.out j hlt
      obtain ⟨g, pc, hv, _, _, _⟩ := HP.out.part j hlt
      rw [hv] at hc
      have hl := HL.out j
      have hl1 := HL1.out j
      have HE : Hid (((catL L j).length : Int) + ((L j).length : Int) = ((catL L (j + 1)).length : Int)) := by
        rw [show catL L (j + 1) = catL L j ++ L j from rfl, List.length_append]
        unfold Hid
        omega
      generalize (catL L j).length = a at *
      generalize (L j).length = d at *
      have w1 : IntKind.i64.wrap ((a : Int) + (d : Int)) = (a : Int) + (d : Int) := IntWalk.i64_in _ (by omega)
      have n1 : ¬ ((a : Int) + (d : Int) < 0) := by omega
      go_wp2_with fail
      go_roundw
      case rel => exact ⟨j + 1, by omega, by rw [HE.out], by go_num, by first | rfl | trivial⟩
      case measure => simp [intOf]; omega
    · obtain rfl : j = k := by omega
      have hlk := HL.out j
      have hp := HK.out
      obtain ⟨n, hn⟩ : ∃ n, n = (catL L j).length := ⟨_, rfl⟩
      have HN := Lib.hid hn
      rw [← hn] at hlk hp ⊢
      clear hn
      have C := Lib.hid (Grow_at n w hp (by omega))
      go_wp2_with fail
      refine C.out.mono ?_; rintro e w2 ⟨v, rfl, O2, g2⟩
      have O2 := Lib.hid O2
      have G2 := Lib.hid g2
      clear C g2
      go_wp2_with fail
      go_loopw [6, 27] (fun s i wr => ∃ i' : Nat, i' ≤ j ∧ i = .int .i64 i' ∧ wr.ownsRow w.heap.size 88 6 s (catL L i').length (rowsOf (catL L i')) ∧ Below w.heap.size w wr) (fun _ i _ => j - (intOf i).toNat)
      case atStart => exact ⟨0, Nat.zero_le _, rfl, O2.out, G2.out⟩
      case round =>
        obtain ⟨i', hi', rfl, O3, g3⟩ := hrel
        have O3 := Lib.hid O3
        have G3 := Lib.hid g3
        clear O2 G2 g3
        by_cases hlt2 : i' < j
        · have hc := bel_cell G3.out (HC.out i' hlt2)
          obtain ⟨g, pc, hv, _, hgl, hgc⟩ := HP.out.part i' hlt2
          rw [hv] at hc
          have HG : Hid (∀ q u, (rowsOf (L i'))[q]? = some u → wr.cell? ((⟨g, 0, none⟩ : Addr).add q) = some u) := fun q u hu => by
            rw [add_off, Nat.zero_add]
            exact bel_cell G3.out (hgc q u hu)
          have hl := HL.out i'
          have hl1 := HL1.out i'
          have HE : Hid (rowsOf (catL L i') ++ rowsOf (L i') = rowsOf (catL L (i' + 1)) ∧ (catL L i').length + (L i').length = (catL L (i' + 1)).length) := ⟨by rw [← rowsOf_append]; rfl, by simp [catL]⟩
          have HR := Lib.hid (rowsOf_len (L i'))
          have HS := Lib.hid (fun u (hu : u ∈ rowsOf (L i')) => rowsOf_cells u hu)
          have HB : Hid (w.heap.size ≤ wr.heap.size) := G3.out.size
          clear hgc hv
          generalize hd : (L i').length = d at *
          clear hd
          go_wp2_with (at_builtin; (refine wpList_append_own_at _ rfl _ _ 113 rfl w.heap.size 88 i0 instZ 6 12 inst_under HI.out HZ.out.1 HZ.out.2.1 HZ.out.2.2 rfl (by decide) _ _ _ rfl O3.out ⟨g, 0, none⟩ d _ (rowsOf (L i')) rfl HR.out HG.out HS.out (by unfold maxLen; omega) (by omega) HB.out ?_; intro v' w3 hown hgrow _ _; have O4 := Lib.hid hown; have G4 := Lib.hid hgrow; clear hown hgrow))
          go_roundw
          case rel =>
            have o4 := O4.out
            rw [HE.out.1, HE.out.2] at o4
            refine ⟨i' + 1, by omega, by go_num, o4, G3.out.grown G4.out HB.out fun q e => (World.ownsRow.lt O3.out q e).1⟩
          case measure => simp [intOf]; omega
        · obtain rfl : i' = j := by omega
          have PA := Lib.hid (part_own O3.out rfl HK.out)
          obtain ⟨vp, vc, rfl, _⟩ := id PA.out
          clear O3
          go_wp2_with fail
          go_ret
          exact ⟨_, rfl, PA.out, G3.out⟩
end Go.Proofs.YtiobgnelhiadbaaGreatDoor.W8
namespace Go.Proofs.YtiobgnelhiadbaaGreatDoor.W8
open Go.RowKit
open A7 (XI XB AS AsmB Left Has NoAsm Ins)
set_option linter.unusedVariables false
section
variable {w0 w w' : World} {b : Nat} {G G0 K : Nat → Prop} {q : AS}
theorem put_at {B k : Nat} {t : Value} {V : Nat → Value} {L : Nat → List XI} (h : Has w0 w b G0 q) (P : PartsAt w B t k V L) (hk : 0 < k) (hk2 : k ≤ 10) (hL : ∀ i, (L i).length ≤ 16) (hp : 0 < (catL L k).length) (hb : ∀ x ∈ catL L k, XB x) (hm : ∀ x ∈ catL L k, x.may = true) (hn : q.n + (catL L k).length ≤ 100000) :
    Calls Tryz.prog 251 #[.pointer (some ⟨b, 0, none⟩), t] w fun e w' => e = .returned (.int .i64 0) ∧ Has w0 w' b G0 (q.adds (fun i => (gX (catL L k) i).word) (catL L k).length) := by
  obtain ⟨G, K, A, lo, T⟩ := h
  have C := Lib.hid (Concat_at P hk hk2 hL hp)
  have AA := Lib.hid A
  have LO := Lib.hid lo
  have TT := Lib.hid T
  have HP : Hid (∀ W v, Below w.heap.size w W → PartAt W w.heap.size v (catL L k) → Calls Tryz.prog 37 #[.pointer (some ⟨b, 0, none⟩), v] W fun e w' => e = .returned (.int .i64 0) ∧ Has w0 w' b G0 (q.adds (fun i => (gX (catL L k) i).word) (catL L k).length)) := fun W v g hv => by
    have TW : A7.Turns G0 w0 W := TT.out.trans (G' := fun _ => False) (A7.Turns.of_bel g) (fun _ e => e.elim)
    refine (A7.Put_yes (AA.out.bel g) (hv.ins AA.out.lt) (fun i hi => hb _ (gX_mem hi)) hn (fun i hi => hm _ (gX_mem hi))).mono ?_
    rintro e w' ⟨rfl, G', A', T', lo'⟩
    exact ⟨rfl, G', _, A', fun i hi => (lo' i hi).elim (LO.out i) fun e => .inr (Nat.le_trans TW.size e), TW.trans T' LO.out⟩
  clear A lo T P hk hk2 hL hp hb hm hn AA LO TT
  go_enter Tryz.func251, Tryz.ntmps251
  go_wp2_with fail
  refine C.out.mono ?_; rintro e w1 ⟨v, rfl, hv, g1⟩
  have D := Lib.hid (HP.out w1 v g1 hv)
  clear hv g1 C HP
  go_wp2_with fail
  refine D.out.mono ?_; rintro e w2 ⟨rfl, H2⟩
  have H2 := Lib.hid H2
  clear D
  go_wp2_with fail
  go_ret
  exact ⟨rfl, H2.out⟩
/-- Parts in a slice that has just been laid. -/
theorem parts_new {W : World} {B : Nat} {V : Nat → Value} {L : Nat → List XI} (n : Nat) (xs : Array Value) (ty : TypeId) (hV : ∀ i, i < n → xs[i]? = some (V i)) (hP : ∀ i, i < n → PartAt W B (V i) (L i)) (hB : B ≤ W.heap.size) :
    PartsAt (W.alloc (.cells xs ty)) B (.slice (some ⟨W.heap.size, 0, none⟩) n n) n V L :=
  ⟨⟨_, _, rfl, hB, fun i hi => row_cell (heap_alloc_last _ _) (hV i hi)⟩, fun i hi => (hP i hi).bel ((Below.refl _ _).alloc (Nat.le_refl _) _)⟩
end
end Go.Proofs.YtiobgnelhiadbaaGreatDoor.W8
