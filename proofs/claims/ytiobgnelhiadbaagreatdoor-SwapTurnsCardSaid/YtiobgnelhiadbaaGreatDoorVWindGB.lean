/- Package wind as it has landed: the parts of the handlers, as slices of instructions; the iterator over a window's registers; a slice of slices put together. Package wind as it has landed: a frame's instructions, by the iterator. -/
import Derived.RangeFuncNested
import Derived.RangeFuncBound
import Derived.RangeFuncCalls
import Derived.RangeFuncLeaves
import Derived.Shelf.Abstract
import Derived.Shelf.RegionOpen
import Derived.WalkKit
import Derived.OwnWalkIn
import Derived.TacticsInMore
import Derived.LoopNIn
import Derived.LoopIn
import Derived.RangeFuncBox
import Derived.Lib.AppendZerosOnto
import Derived.Test.YtiobgnelhiadbaaGreatDoorVAsmG
import Derived.Test.YtiobgnelhiadbaaGreatDoorVSwapG
namespace Go.Proofs.YtiobgnelhiadbaaGreatDoor.W8
open Go.RowKit Go.Shelf
open A7 (XI XB)
set_option linter.unusedVariables false
attribute [local go_sem] Oper.semAt_some
/-- The cells of instructions. -/
def rowsOf (L : List XI) : List Value := L.flatMap XI.row
theorem rowsOf_len : ∀ L : List XI, (rowsOf L).length = L.length * 6
  | [] => rfl
  | x :: L => by
    have := rowsOf_len L
    simp only [rowsOf, List.flatMap_cons, List.length_append, List.length_cons] at this ⊢
    rw [this]
    show 6 + L.length * 6 = _
    omega
theorem rowsOf_append (L M : List XI) : rowsOf (L ++ M) = rowsOf L ++ rowsOf M := by simp [rowsOf]
theorem rowsOf_one (x : XI) : rowsOf [x] = x.row := by simp [rowsOf]
theorem rowsOf_cell : ∀ (L : List XI) (i k : Nat), k < 6 → i < L.length → (rowsOf L)[i * 6 + k]? = (gX L i).row[k]?
  | [], _, _, _, h => absurd h (Nat.not_lt_zero _)
  | x :: L, 0, k, hk, _ => by
    have e : rowsOf (x :: L) = x.row ++ rowsOf L := by simp [rowsOf]
    have hl : x.row.length = 6 := rfl
    rw [e, List.getElem?_append_left (by rw [hl]; omega), Nat.zero_mul, Nat.zero_add]
    rfl
  | x :: L, i + 1, k, hk, hi => by
    have e : rowsOf (x :: L) = x.row ++ rowsOf L := by simp [rowsOf]
    have hl : x.row.length = 6 := rfl
    rw [e, List.getElem?_append_right (by rw [hl]; omega), hl, show (i + 1) * 6 + k - 6 = i * 6 + k by omega, rowsOf_cell L i k hk (by simpa using hi)]
    rfl
theorem rowsOf_cells {L : List XI} : ∀ u ∈ rowsOf L, u.oneCell' = true := by
  intro u hu
  simp only [rowsOf, List.mem_flatMap] at hu
  obtain ⟨x, _, hx⟩ := hu
  simp only [XI.row, List.mem_cons, List.not_mem_nil, or_false] at hx
  rcases hx with rfl | rfl | rfl | rfl | rfl | rfl <;> rfl
/-- A part of a handler lies in world w. -/
def PartAt (w : World) (B : Nat) (v : Value) (L : List XI) : Prop := ∃ g c, v = .slice (some ⟨g, 0, none⟩) L.length c ∧ B ≤ g ∧ g < w.heap.size ∧ ∀ j u, (rowsOf L)[j]? = some u → w.cell? ⟨g, j, none⟩ = some u
theorem PartAt.bel {w w' : World} {B : Nat} {v : Value} {L : List XI} (h : PartAt w B v L) (k : Below w.heap.size w w') : PartAt w' B v L := by
  obtain ⟨g, c, rfl, hB, hg, hc⟩ := h
  exact ⟨g, c, rfl, hB, Nat.lt_of_lt_of_le hg k.size, fun j u hu => bel_cell k (hc j u hu)⟩
theorem PartAt.low {w : World} {B B' : Nat} {v : Value} {L : List XI} (h : PartAt w B v L) (hb : B' ≤ B) : PartAt w B' v L := by
  obtain ⟨g, c, rfl, hB, hg, hc⟩ := h
  exact ⟨g, c, rfl, Nat.le_trans hb hB, hg, hc⟩
theorem part_new (w : World) (L : List XI) (n : Nat) (hn : L.length = n) : PartAt (w.alloc (.cells (rowsOf L).toArray 88)) w.heap.size (.slice (some ⟨w.heap.size, 0, none⟩) n n) L :=
  ⟨_, _, by rw [hn], Nat.le_refl _, by simp, fun j u hu => row_cell (heap_alloc_last _ _) (by simpa using hu)⟩
theorem part_own {w : World} {B : Nat} {v : Value} {L : List XI} {n : Nat} (h : w.ownsRow B 88 6 v n (rowsOf L)) (hl : L.length = n) (hn : 0 < n) : PartAt w B v L := by
  obtain ⟨_, ⟨_, h0⟩ | ⟨g, cap, cur, rfl, hB, hg, h1, h2, h3, h4⟩⟩ := h
  · omega
  · refine ⟨g, cap, by rw [hl], hB, A7.heap_lt hg, fun j u hu => row_cell hg ?_⟩
    rw [← h4] at hu
    rw [List.getElem?_take] at hu
    split at hu
    · simpa using hu
    · cases hu
/-- .. as what Put takes. -/
theorem PartAt.ins {w : World} {B : Nat} {v : Value} {L : List XI} (h : PartAt w B v L) {H : Nat → Prop} (hH : ∀ i, H i → i < B) : A7.Ins w H v L.length (gX L) := by
  obtain ⟨g, c, rfl, hB, hg, hc⟩ := h
  refine ⟨_, c, rfl, fun _ => ⟨g, 0, rfl, fun e => absurd (hH g e) (Nat.not_lt.2 hB), fun i hi => ?_⟩⟩
  have hk : ∀ k, k < 6 → ∀ u, (gX L i).row[k]? = some u → w.cell? ⟨g, 0 + i * 6 + k, none⟩ = some u := fun k hk u hu => by
    rw [Nat.zero_add]
    exact hc _ _ ((rowsOf_cell L i k hk hi).trans hu)
  exact ⟨hk 0 (by decide) _ rfl, hk 1 (by decide) _ rfl, hk 2 (by decide) _ rfl, hk 3 (by decide) _ rfl, hk 4 (by decide) _ rfl, hk 5 (by decide) _ rfl⟩
theorem inst_under : Tryz.prog.underlying 113 = some (.slice 88) := Tryz.underlying113
def instZ : Value := .agg #[.int .u8 0, .int .u8 0, .int .u8 0, .int .u8 0, .bool false, .int .i32 0]
theorem inst_info : (Tryz.prog.info? 88).map (fun i => (i.zero, i.size, i.bytes)) = some (some instZ, 6, 12) := by kernel_rfl
theorem inst_parts : ∃ i, Tryz.prog.info? 88 = some i ∧ i.zero = some instZ ∧ i.size = 6 ∧ i.bytes = 12 := by
  have h := inst_info
  cases hi : Tryz.prog.info? 88 with
  | none => rw [hi] at h; cases h
  | some i =>
    rw [hi] at h
    simp only [Option.map_some, Option.some.injEq, Prod.mk.injEq] at h
    exact ⟨i, rfl, h.1, h.2.1, h.2.2⟩
/-! The parts that are written out. -/
/-! The iterator. -/
def encW (x : Nat) : Array Value := #[.int .u8 (16 + (x : Int)), .int .i32 (4 * (x : Int))]
theorem places_in (F : Fence) (n : Nat) (h5 : F.fn 282) (hro : F.round = none) (w : World) :
    CallsIn F n Tryz.prog 282 #[] w fun e w' => e = .returned (.func (.func 302) #[] #[]) ∧ w' = w := by
  refine callsIn_of_wp Tryz.func282 rfl h5 ?_ hro
  simp only [Tryz.ntmps282, List.size_toArray, List.length_nil, Nat.reduceSub, Array.replicate_succ, Array.replicate_zero, List.push_toArray, List.append_toArray, List.nil_append]
  gi_wp2
  go_ret
  exact ⟨rfl, rfl⟩
set_option maxRecDepth 100000 in
set_option maxHeartbeats 2000000 in
theorem places_stops (F : Fence) (n : Nat) (h6 : F.fn 302) (hro : F.round = none) (hn : 1 ≤ n) (w : World) :
    SeqStopsK F n Tryz.prog 302 #[] encW (fun _ _ => True) (fun xs => xs = List.range 16) (fun _ => True) 16 w := fun l J Jx W hW _ _ hY h0 => by
  refine callsIn_of_wp Tryz.func302 rfl h6 ?_ hro
  simp only [Tryz.ntmps302, List.size_toArray, List.length_cons, List.length_nil, Nat.reduceAdd, Nat.reduceSub, Array.replicate_succ, Array.replicate_zero, List.push_toArray, List.append_toArray, List.nil_append, List.cons_append]
  gi_wp2
  gi_loopw [2, 3] (fun r o wr => ∃ k : Nat, k ≤ 16 ∧ r = .int .u8 (16 + (k : Int)) ∧ o = .int .i32 (4 * (k : Int)) ∧ J (List.range k) wr) (fun _ o _ => 64 - (intOf o).toNat)
  case atStart => exact ⟨0, Nat.zero_le _, rfl, rfl, h0⟩
  case round =>
    obtain ⟨k, hk, rfl, rfl, hJs⟩ := hrel
    by_cases hlt : k < 16
    · have hlt' : 4 * (k : Int) < 64 := by omega
      obtain ⟨fn, tmps, assign, body, hy, hR⟩ := hY (List.range k) k wr hJs (by rw [List.length_range]; exact hlt)
      simp only [encW] at hy
      gi_wp2
      refine hR.mono ?_
      rintro e W3 (⟨rfl, hJ3, _⟩ | ⟨rfl, hJx3⟩)
      · gi_wp2
        go_roundw
        case rel => exact ⟨k + 1, by omega, by go_num, by go_num, by rw [List.range_succ]; exact hJ3⟩
        case measure => simp [intOf]; omega
      · gi_wp2
        refine bodyPost_ret (results_none rfl _ _ _) rfl ?_
        exact ⟨⟨_, rfl⟩, .inr ⟨_, trivial, hJx3⟩⟩
    · obtain rfl : k = 16 := by omega
      gi_wp2
      go_end0
      exact ⟨⟨_, rfl⟩, .inl ⟨_, rfl, hJs⟩⟩
end Go.Proofs.YtiobgnelhiadbaaGreatDoor.W8
namespace Go.Proofs.YtiobgnelhiadbaaGreatDoor.W8
open Go.RowKit Go.Shelf
open A7 (XI XB)
set_option linter.unusedVariables false
attribute [local go_sem] Oper.semAt_some
theorem fr_cells (W : World) (x : XI) : ∀ j u, x.row[j]? = some u → (W.alloc (.cells x.row.toArray 88)).cell? ((⟨W.heap.size, 0, none⟩ : Addr).add j) = some u := fun j u hu => by
  rw [add_off, Nat.zero_add]
  exact row_cell (heap_alloc_last _ _) (by simpa using hu)
set_option maxRecDepth 100000 in
set_option maxHeartbeats 2000000 in
theorem frame_in (F : Fence) (n : Nat) (h4 : F.fn 252) (h5 : F.fn 282) (h6 : F.fn 302) (hro : F.round = none) (hn : 3 ≤ n) (o : Int) (w : World) :
    CallsIn F n Tryz.prog 252 #[.int .u8 o] w fun e w' => ∃ v, e = .returned v ∧ w'.ownsRow w.heap.size 88 6 v 16 (rowsOf (frL o)) ∧ Below w.heap.size w w' := by
  have h1 : 1 ≤ n := by omega
  obtain ⟨i0, hi, hz0, hz1, hz2⟩ := inst_parts
  refine callsIn_of_wp_marks Tryz.func252 rfl h4 ?_ hro
  simp only [Tryz.ntmps252, List.size_toArray, List.length_cons, List.length_nil, Nat.reduceAdd, Nat.reduceSub, Array.replicate_succ, Array.replicate_zero, List.push_toArray, List.append_toArray, List.nil_append, List.cons_append]
  gi_wp2_with (gi_at_call 282; refine (places_in F (n - 1) h5 hro _).mono ?_; rintro e w' ⟨rfl, hw'⟩)
  subst hw'
  have b0 : Boxed ((w.alloc (.cells #[.int .u8 o] 5)).alloc (.cells #[.slice none 0 0] 113)) w.heap.size 5 (.int .u8 o) := (Boxed.new _ _ _).alloc _
  have b1 : Boxed ((w.alloc (.cells #[.int .u8 o] 5)).alloc (.cells #[.slice none 0 0] 113)) (w.heap.size + 1) 113 (.slice none 0 0) := by
    have := Boxed.new (w.alloc (.cells #[.int .u8 o] 5)) 113 (.slice none 0 0)
    rwa [World.size_alloc] at this
  have bl : Below w.heap.size w ((w.alloc (.cells #[.int .u8 o] 5)).alloc (.cells #[.slice none 0 0] 113)) := ((Below.refl _ _).alloc (Nat.le_refl _) _).alloc (by simp) _
  refine wpIn_rangeFunc_ownF hro h1 (gf := 302) (lb := #[]) rfl h6 (enters_of Tryz.func302 (by kernel_rfl) rfl)
    (places_stops F (n - 1) h6 hro (by omega) _) (by intros; trivial) (by intros; trivial) (Below.refl _ _) (fun _ => rfl)
    (fun pre W => ((∃ v, Boxed W (w.heap.size + 1) 113 v ∧ W.ownsRow w.heap.size 88 6 v pre.length (rowsOf (pre.map (sFr o))) ∧ True) ∧ Boxed W w.heap.size 5 (.int .u8 o)) ∧ Below w.heap.size w W)
    (fun _ _ _ => False)
    (OwnFrom.and (Own.from (fun s A B row hs hg hr => ⟨holdsRow_own w.heap.size (w.heap.size + 1) 113 88 6 (fun pre : List Nat => pre.length) (fun pre : List Nat => rowsOf (pre.map (sFr o))) (fun _ _ => True) s A B row hs.1 hg hr, hs.2.kept hg (fun e' => by
      obtain ⟨ob, ho, hc⟩ := hr w.heap.size e'.symm
      rw [show A.heap[w.heap.size]? = _ from hs.2] at ho; cases ho; cases hc)⟩) _) (ownFrom_below (Nat.le_refl _) (by simp only [World.size_alloc]; omega)))
    (fun _ _ _ _ _ hs _ _ => hs)
    ⟨⟨⟨_, b1, World.ownsRow_nil _ _ _ _, trivial⟩, b0⟩, bl⟩
    (fun x => { tmps := #[.int .u8 o, .pointer (some ⟨w.heap.size, 0, none⟩), .slice none 0 0, .pointer (some ⟨w.heap.size + 1, 0, none⟩), .int .u8 (16 + (x : Int)), .int .i32 (4 * (x : Int)), .func (.func 302) #[] #[], .int .u8 (16 + (x : Int)), .int .i32 (4 * (x : Int)), undef, undef, undef, undef, undef, undef, undef, undef], defers := [] }) ?assign ?body ?done ?stop
  case assign =>
    intro l x W K hK
    simp only [encW]
    gi_wp2
    exact hK
  case body =>
    clear b0 b1 bl
    rintro l pre x W ⟨⟨⟨v, hv, hrow, _⟩, ho⟩, hB⟩ hlt
    have hc := hv.cell
    have hoc := ho.cell
    have HL : Hid (rowsOf (pre.map (sFr o)) ++ (sFr o x).row = rowsOf ((pre ++ [x]).map (sFr o)) ∧ (pre ++ [x]).length = pre.length + 1) := ⟨by rw [List.map_append, rowsOf_append]; rfl, by simp⟩
    have HB : Hid (w.heap.size ≤ W.heap.size) := hB.size
    gi_wp2_with (gi_at_builtin; refine wpListIn_append_own _ rfl _ _ 113 rfl w.heap.size 88 i0 instZ 6 12 inst_under hi hz0 hz1 hz2 rfl (by decide) _ _ _ rfl (hrow.alloc _) ⟨W.heap.size, 0, none⟩ 1 1 (sFr o x).row rfl rfl (fr_cells W (sFr o x)) (by intro u hu; exact rowsOf_cells (L := [sFr o x]) u (by rw [rowsOf_one]; exact hu)) (by have : pre.length < 16 := hlt; unfold maxLen; omega) (by have : pre.length < 16 := hlt; omega) (by have := HB.out; simp; omega) ?_; intro v' w1 hown' hgrow _; obtain ⟨g', cap', rfl⟩ := ownsRow_succ hown'; obtain ⟨hv1, hv2, hr2, hk2, hb2⟩ := hv.appended (by decide) hrow HB.out (by omega) hown' hgrow; have hc1 := hv1.cell; have hf1 := hv1.frozen; have ho2 := ((ho.alloc (.cells (sFr o x).row.toArray 88)).kept hgrow (ho.not_row (by decide) hrow)).kept (grownBy_setCell' w1 (w.heap.size + 1) (.slice (some ⟨g', 0, none⟩) (pre.length + 1) cap')) (by simp))
    rw [HL.out.1] at hr2
    exact ⟨hk2, trivial, ⟨⟨_, hv2, (by rw [HL.out.2]; exact hr2), trivial⟩, ho2⟩, hB.trans hb2⟩
  case done =>
    rintro D ys W hD rfl ⟨⟨⟨v, hv, hrow, _⟩, ho⟩, hB⟩ hK
    have hc := hv.cell
    obtain ⟨g', cap', rfl⟩ := ownsRow_succ (k := 15) hrow
    gi_wp2
    refine ⟨by simp, .inl ⟨_, _, rfl, run_takeDeferred hK, ?_⟩⟩
    exact ⟨_, results_tmp rfl _ _ _, _, rfl, ownsRow_putObj hrow _ hK rfl, hB.trans (belowK_b (w := w) (Nat.le_refl _) W D _ _ (by simp at hD; omega) hK rfl rfl)⟩
  case stop =>
    rintro D c pre W _ _ h _
    exact h.elim
theorem frame_at (o : Int) (w : World) : Calls Tryz.prog 252 #[.int .u8 o] w fun e w' => ∃ v, e = .returned v ∧ PartAt w' w.heap.size v (frL o) ∧ Below w.heap.size w w' :=
  (callsIn_wide.1 (frame_in Fence.wide 3 trivial trivial trivial rfl (Nat.le_refl _) o w)).mono fun e w' ⟨v, h1, h2, h3⟩ => ⟨v, h1, part_own h2 rfl (by decide), h3⟩
end Go.Proofs.YtiobgnelhiadbaaGreatDoor.W8
