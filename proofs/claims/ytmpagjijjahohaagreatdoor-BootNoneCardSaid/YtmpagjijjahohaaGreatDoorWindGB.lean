/- Package wind as it has landed: a frame's instructions, by the iterator. -/
import Derived.Test.YtmpagjijjahohaaGreatDoorWindGA
namespace Go.Proofs.YtmpagjijjahohaaGreatDoor.W8
open Go.RowKit Go.Shelf
open A7 (XI XB)
set_option linter.unusedVariables false
attribute [local go_sem] Oper.semAt_some
theorem fr_cells (W : World) (x : XI) : ∀ j u, x.row[j]? = some u → (W.alloc (.cells x.row.toArray 106)).cell? ((⟨W.heap.size, 0, none⟩ : Addr).add j) = some u := fun j u hu => by
  rw [add_off, Nat.zero_add]
  exact row_cell (heap_alloc_last _ _) (by simpa using hu)
set_option maxRecDepth 100000 in
set_option maxHeartbeats 2000000 in
theorem frame_in (F : Fence) (n : Nat) (h4 : F.fn 235) (h5 : F.fn 285) (h6 : F.fn 357) (hro : F.round = none) (hn : 3 ≤ n) (o : Int) (w : World) :
    CallsIn F n Tryz.prog 235 #[.int .u8 o] w fun e w' => ∃ v, e = .returned v ∧ w'.ownsRow w.heap.size 106 6 v 16 (rowsOf (frL o)) ∧ Below w.heap.size w w' := by
  have h1 : 1 ≤ n := by omega
  obtain ⟨i0, hi, hz0, hz1, hz2⟩ := inst_parts
  refine callsIn_of_wp_marks Tryz.func235 rfl h4 ?_ hro
  simp only [Tryz.ntmps235, List.size_toArray, List.length_cons, List.length_nil, Nat.reduceAdd, Nat.reduceSub, Array.replicate_succ, Array.replicate_zero, List.push_toArray, List.append_toArray, List.nil_append, List.cons_append]
  gi_wp2_with (gi_at_call 285; refine (places_in F (n - 1) h5 hro _).mono ?_; rintro e w' ⟨rfl, hw'⟩)
  subst hw'
  have b0 : Boxed ((w.alloc (.cells #[.int .u8 o] 5)).alloc (.cells #[.slice none 0 0] 285)) w.heap.size 5 (.int .u8 o) := (Boxed.new _ _ _).alloc _
  have b1 : Boxed ((w.alloc (.cells #[.int .u8 o] 5)).alloc (.cells #[.slice none 0 0] 285)) (w.heap.size + 1) 285 (.slice none 0 0) := by
    have := Boxed.new (w.alloc (.cells #[.int .u8 o] 5)) 285 (.slice none 0 0)
    rwa [World.size_alloc] at this
  have bl : Below w.heap.size w ((w.alloc (.cells #[.int .u8 o] 5)).alloc (.cells #[.slice none 0 0] 285)) := ((Below.refl _ _).alloc (Nat.le_refl _) _).alloc (by simp) _
  refine wpIn_rangeFunc_ownF hro h1 (gf := 357) (lb := #[]) rfl h6 (enters_of Tryz.func357 (by kernel_rfl) rfl)
    (places_stops F (n - 1) h6 hro (by omega) _) (by intros; trivial) (by intros; trivial) (Below.refl _ _) (fun _ => rfl)
    (fun pre W => ((∃ v, Boxed W (w.heap.size + 1) 285 v ∧ W.ownsRow w.heap.size 106 6 v pre.length (rowsOf (pre.map (sFr o))) ∧ True) ∧ Boxed W w.heap.size 5 (.int .u8 o)) ∧ Below w.heap.size w W)
    (fun _ _ _ => False)
    (OwnFrom.and (Own.from (fun s A B row hs hg hr => ⟨holdsRow_own w.heap.size (w.heap.size + 1) 285 106 6 (fun pre : List Nat => pre.length) (fun pre : List Nat => rowsOf (pre.map (sFr o))) (fun _ _ => True) s A B row hs.1 hg hr, hs.2.kept hg (fun e' => by
      obtain ⟨ob, ho, hc⟩ := hr w.heap.size e'.symm
      rw [show A.heap[w.heap.size]? = _ from hs.2] at ho; cases ho; cases hc)⟩) _) (ownFrom_below (Nat.le_refl _) (by simp only [World.size_alloc]; omega)))
    (fun _ _ _ _ _ hs _ _ => hs)
    ⟨⟨⟨_, b1, World.ownsRow_nil _ _ _ _, trivial⟩, b0⟩, bl⟩
    (fun x => { tmps := #[.int .u8 o, .pointer (some ⟨w.heap.size, 0, none⟩), .slice none 0 0, .pointer (some ⟨w.heap.size + 1, 0, none⟩), .int .u8 (16 + (x : Int)), .int .i32 (4 * (x : Int)), .func (.func 357) #[] #[], .int .u8 (16 + (x : Int)), .int .i32 (4 * (x : Int)), undef, undef, undef, undef, undef, undef, undef, undef], defers := [] }) ?assign ?body ?done ?stop
  case assign =>
    intro l x W K hK
    simp only [encW]
    gi_wp2
    exact hK
  case body =>
    clear b0 b1 bl
    rintro l pre x W ⟨⟨⟨v, hv, hrow, _⟩, ho⟩, hB⟩ hlt
    have hc := hv.cell
    have hoc := ho.cell
    have HL : Hid (rowsOf (pre.map (sFr o)) ++ (sFr o x).row = rowsOf ((pre ++ [x]).map (sFr o)) ∧ (pre ++ [x]).length = pre.length + 1) := ⟨by rw [List.map_append, rowsOf_append]; rfl, by simp⟩
    have HB : Hid (w.heap.size ≤ W.heap.size) := hB.size
    gi_wp2_with (gi_at_builtin; refine wpListIn_append_own _ rfl _ _ 285 rfl w.heap.size 106 i0 instZ 6 12 inst_under hi hz0 hz1 hz2 rfl (by decide) _ _ _ rfl (hrow.alloc _) ⟨W.heap.size, 0, none⟩ 1 1 (sFr o x).row rfl rfl (fr_cells W (sFr o x)) (by intro u hu; exact rowsOf_cells (L := [sFr o x]) u (by rw [rowsOf_one]; exact hu)) (by have : pre.length < 16 := hlt; unfold maxLen; omega) (by have : pre.length < 16 := hlt; omega) (by have := HB.out; simp; omega) ?_; intro v' w1 hown' hgrow _; obtain ⟨g', cap', rfl⟩ := ownsRow_succ hown'; obtain ⟨hv1, hv2, hr2, hk2, hb2⟩ := hv.appended (by decide) hrow HB.out (by omega) hown' hgrow; have hc1 := hv1.cell; have hf1 := hv1.frozen; have ho2 := ((ho.alloc (.cells (sFr o x).row.toArray 106)).kept hgrow (ho.not_row (by decide) hrow)).kept (grownBy_setCell' w1 (w.heap.size + 1) (.slice (some ⟨g', 0, none⟩) (pre.length + 1) cap')) (by simp))
    rw [HL.out.1] at hr2
    exact ⟨hk2, trivial, ⟨⟨_, hv2, (by rw [HL.out.2]; exact hr2), trivial⟩, ho2⟩, hB.trans hb2⟩
  case done =>
    rintro D ys W hD rfl ⟨⟨⟨v, hv, hrow, _⟩, ho⟩, hB⟩ hK
    have hc := hv.cell
    obtain ⟨g', cap', rfl⟩ := ownsRow_succ (k := 15) hrow
    gi_wp2
    refine ⟨by simp, .inl ⟨_, _, rfl, run_takeDeferred hK, ?_⟩⟩
    exact ⟨_, results_tmp rfl _ _ _, _, rfl, ownsRow_putObj hrow _ hK rfl, hB.trans (belowK_b (w := w) (Nat.le_refl _) W D _ _ (by simp at hD; omega) hK rfl rfl)⟩
  case stop =>
    rintro D c pre W _ _ h _
    exact h.elim
theorem frame_at (o : Int) (w : World) : Calls Tryz.prog 235 #[.int .u8 o] w fun e w' => ∃ v, e = .returned v ∧ PartAt w' w.heap.size v (frL o) ∧ Below w.heap.size w w' :=
  (callsIn_wide.1 (frame_in Fence.wide 3 trivial trivial trivial rfl (Nat.le_refl _) o w)).mono fun e w' ⟨v, h1, h2, h3⟩ => ⟨v, h1, part_own h2 rfl (by decide), h3⟩
end Go.Proofs.YtmpagjijjahohaaGreatDoor.W8
