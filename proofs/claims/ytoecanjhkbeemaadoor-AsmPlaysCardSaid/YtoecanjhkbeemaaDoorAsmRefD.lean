/- The document's lists (layer 7): Jump. -/
import Derived.Test.YtoecanjhkbeemaaDoorAsmRefC
import Derived.Deep.RegionHeld3
import Derived.Deep.RegionLaw
namespace Go.Proofs.YtoecanjhkbeemaaDoor.A7
open Go.RowKit Go.Maps
set_option linter.unusedVariables false
/-- Behind a list of its own a list is laid: one step of a region that draws its order. -/
theorem step_its {ops : Array Oper} {o : Oper} {a : Act} {w : World} {K : Act → World → Prop} {Q : Exit → Act → World → Prop} {E : Prop} (hg : o.guard = none) (s x : Operand)
    (hop : o.op = Op.call { callee := Callee.builtin Builtin.append, args := #[s, x], argTypes := #[27, 27] })
    (B C : Nat) (v1 vx : Value) (l1 l2 : List It) (hs : a.eval s = v1) (h1 : w.ownsRow B 79 8 v1 l1.length (itCells l1)) (hx : a.eval x = vx) (h2 : w.ownsRow C 79 8 vx l2.length (itCells l2)) (hl : l1.length + l2.length ≤ 300000) (hB : B ≤ w.heap.size)
    (hK : ∀ v' w', w'.ownsRow B 79 8 v' (l1 ++ l2).length (itCells (l1 ++ l2)) → Below B w w' → (∀ k o, v1.ownBlock ≠ some k → w.heap[k]? = some o → w'.heap[k]? = some o) → K (a.put o.dst v') w') :
    if Region.wanted o (yielded ops a.tmps) = true then Oper.wp Tryd.prog o a w K Q else E := by
  obtain ⟨i0, hi, hz0, hz1, hz2⟩ := info_parts item_parts
  have hw : Region.wanted o (yielded ops a.tmps) = true := by simp [Region.wanted, hg]
  rw [if_pos hw]
  have e1 : (l1 ++ l2).length = l1.length + l2.length := List.length_append
  have e2 : itCells (l1 ++ l2) = itCells l1 ++ itCells l2 := by unfold itCells; rw [List.flatMap_append]
  rw [e1, e2] at hK
  rcases ownK_of h2 with ⟨rfl, h0⟩ | ⟨g, c, rfl⟩
  · obtain rfl : l2 = [] := List.eq_nil_of_length_eq_zero h0
    have hrun := run_append_owned_none (P := Tryd.prog) (w := w) B 27 o.type 79 i0 8 item_under hi v1 l1.length (itCells l1) h1
    unfold Oper.wp
    simp [execOp, hop, resolve, invoke, builtin, hs, hx, hrun, Result.andThen]
    exact hK _ _ (by simpa [itCells] using h1) (Below.refl _ _) (fun _ _ _ h => h)
  · refine wp_append_own_wide w s x 27 hop B 79 i0 _ 8 32 item_under hi hz0 hz1 hz2 rfl (by decide) v1 l1.length (itCells l1) hs h1 ⟨g, 0, none⟩ l2.length c (itCells l2) hx (itCells_len l2) ?_ (cells8_one l2) (by unfold maxLen; omega) (by omega) hB ?_
    · intro j u hu
      rw [add_at]
      exact ownK_cell h2 j u hu
    · intro v' w' ho hgrow _
      refine hK v' w' ho ((Below.refl B w).grown hgrow hB (fun k hk => (h1.lt k hk).1)) (fun k o hk ho => ?_)
      have hlt : k < w.heap.size := by
        rcases Nat.lt_or_ge k w.heap.size with hh | hh
        · exact hh
        · rw [Array.getElem?_eq_none hh] at ho; cases ho
      rw [hgrow.block k hlt (fun e => hk e.symm)]
      exact ho
theorem own_empty8 {w : World} {B g : Nat} (h : w.heap[g]? = some (.cells #[] 79 (0, 0))) (hB : B ≤ g) : w.ownsRow B 79 8 (.slice (some ⟨g, 0, none⟩) 0 0) ([] : List It).length (itCells []) :=
  ⟨rfl, .inr ⟨g, 0, #[], rfl, hB, h, Nat.le_refl _, Nat.zero_le _, rfl, rfl⟩⟩
theorem own_item {w : World} {g : Nat} (t : It) (h : w.heap[g]? = some (.cells t.row.toArray 79 (0, 0))) : w.ownsRow 0 79 8 (.slice (some ⟨g, 0, none⟩) 1 1) [t].length (itCells [t]) :=
  ⟨rfl, .inr ⟨g, 1, t.row.toArray, rfl, Nat.zero_le _, h, Nat.le_refl _, by decide, rfl, by simp [itCells]; rfl⟩⟩
/-- What stays while the document's Jump lays its list: the boxes in the blocks z and q; the result's box, behind z, may be written. -/
structure SJ (z q : Nat) (lv mv : Value) (x : XI) (V w : World) : Prop where
  v : V.cell? ⟨z, 0, none⟩ = some lv ∧ V.cell? ⟨z, 1, none⟩ = some mv ∧ V.cell? ⟨q, 0, none⟩ = some (.int .u8 x.o) ∧ V.cell? ⟨q, 1, none⟩ = some (.int .u8 x.d) ∧ V.cell? ⟨q, 2, none⟩ = some (.int .u8 x.s) ∧ V.cell? ⟨q, 3, none⟩ = some (.int .u8 x.t) ∧ V.cell? ⟨q, 4, none⟩ = some (.bool x.b) ∧ V.cell? ⟨q, 5, none⟩ = some (.int .i32 x.n)
  d0 : (w.cell? ⟨z + 1, 0, none⟩).isSome = true
  d1 : (w.cell? ⟨z + 1, 1, none⟩).isSome = true
  f0 : w.frozen? ⟨z + 1, 0, none⟩ = false
  f1 : w.frozen? ⟨z + 1, 1, none⟩ = false
  lt : z + 1 < V.heap.size ∧ q ≠ z + 1
  only : V.grownBy w (some (z + 1))
section
variable {z q : Nat} {lv mv : Value} {x : XI} {V w w' : World}
theorem only_cell' (h : V.grownBy w (some z)) {b j : Nat} (hb : b ≠ z) {u : Value} (hc : V.cell? ⟨b, j, none⟩ = some u) : w.cell? ⟨b, j, none⟩ = some u := by
  have := block_lt_of_cell hc
  exact (World.cell?_of_block (a := ⟨b, j, none⟩) (h.block b this fun e => hb (by simpa using e))).trans hc
theorem SJ.all (h : SJ z q lv mv x V w) : w.cell? ⟨z, 0, none⟩ = some lv ∧ w.cell? ⟨z, 1, none⟩ = some mv ∧ w.cell? ⟨q, 0, none⟩ = some (.int .u8 x.o) ∧ w.cell? ⟨q, 1, none⟩ = some (.int .u8 x.d) ∧ w.cell? ⟨q, 2, none⟩ = some (.int .u8 x.s) ∧ w.cell? ⟨q, 3, none⟩ = some (.int .u8 x.t) ∧ w.cell? ⟨q, 4, none⟩ = some (.bool x.b) ∧ w.cell? ⟨q, 5, none⟩ = some (.int .i32 x.n) ∧ SJ z q lv mv x V w := by
  obtain ⟨a0, a1, a2, a3, a4, a5, a6, a7⟩ := h.v
  have hz : z ≠ z + 1 := by omega
  exact ⟨only_cell' h.only hz a0, only_cell' h.only hz a1, only_cell' h.only h.lt.2 a2, only_cell' h.only h.lt.2 a3, only_cell' h.only h.lt.2 a4, only_cell' h.only h.lt.2 a5, only_cell' h.only h.lt.2 a6, only_cell' h.only h.lt.2 a7, h⟩
theorem SJ.more (h : SJ z q lv mv x V w) (g : Below V.heap.size w w') : SJ z q lv mv x V w' :=
  ⟨h.v, by rw [g.cell (p := ⟨z + 1, 0, none⟩) h.lt.1]; exact h.d0, by rw [g.cell (p := ⟨z + 1, 1, none⟩) h.lt.1]; exact h.d1, (g.frozen (p := ⟨z + 1, 0, none⟩) h.lt.1).trans h.f0, (g.frozen (p := ⟨z + 1, 1, none⟩) h.lt.1).trans h.f1, h.lt,
    ⟨g.os.trans h.only.os, g.tape.trans h.only.tape, g.output.trans h.only.output, Nat.le_trans h.only.size g.size, fun i hi hn => (g.block i hi).trans (h.only.block i hi hn)⟩⟩
theorem SJ.size (h : SJ z q lv mv x V w) : V.heap.size ≤ w.heap.size := h.only.size
theorem SJ.cells (h : SJ z q lv mv x V w) : ∃ u0 u1, w.cell? ⟨z + 1, 0, none⟩ = some u0 ∧ w.cell? ⟨z + 1, 1, none⟩ = some u1 ∧ w.frozen? ⟨z + 1, 0, none⟩ = false ∧ w.frozen? ⟨z + 1, 1, none⟩ = false := by
  obtain ⟨u0, h0⟩ := Option.isSome_iff_exists.1 h.d0
  obtain ⟨u1, h1⟩ := Option.isSome_iff_exists.1 h.d1
  exact ⟨u0, u1, h0, h1, h.f0, h.f1⟩
theorem SJ.list {l : List It} {B : Nat} (h : SJ z q lv mv x V w) (hL : V.ownsRow B 79 8 lv l.length (itCells l)) (hne : lv.ownBlock ≠ some (z + 1)) : w.ownsRow B 79 8 lv l.length (itCells l) := World.ownsRow.kept hL h.only (.inr hne)
theorem SJ.cell (h : SJ z q lv mv x V w) (o : Nat) (u : Value) : SJ z q lv mv x V (w.setCell ⟨z + 1, o, none⟩ u) := by
  have some' : ∀ j, (w.cell? ⟨z + 1, j, none⟩).isSome = true → ((w.setCell ⟨z + 1, o, none⟩ u).cell? ⟨z + 1, j, none⟩).isSome = true := fun j hj => by
    obtain ⟨x, hx⟩ := Option.isSome_iff_exists.1 hj
    by_cases e : o = j
    · subst e; rw [World.cell?_setCell_same _ _ _ hx]; rfl
    · rw [World.cell?_setCell_other _ _ _ _ (fun e' => e (by cases e'; rfl)), hx]; rfl
  exact ⟨h.v, some' 0 h.d0, some' 1 h.d1, (World.frozen?_setCell _ _ _ _).trans h.f0, (World.frozen?_setCell _ _ _ _).trans h.f1, h.lt, only_cell h.only o u⟩
end
/-- What the document's lists end in: their forms. -/
theorem RL.forms {w : World} {lv mv : Value} {l : List It} {ms : List (ByteArray × Nat)} (h : RL w lv mv l ms) : (∃ p c, lv = .slice p l.length c) ∧ ∃ p c, mv = .slice p ms.length c := by
  refine ⟨?_, ?_⟩
  · rcases ownK_of h.row with ⟨rfl, h0⟩ | ⟨g, c, rfl⟩
    · exact ⟨_, _, by rw [h0]⟩
    · exact ⟨_, _, rfl⟩
  · rcases ownK_of h.marks with ⟨rfl, h0⟩ | ⟨g, c, rfl⟩
    · exact ⟨_, _, by rw [h0]⟩
    · exact ⟨_, _, rfl⟩
set_option maxHeartbeats 2000000 in
theorem refJump_bad {w : World} {lv mv : Value} {l : List It} {ms : List (ByteArray × Nat)} (o c : Int) (s : ByteArray) (h : RL w lv mv l ms) (hc : 6 < c ∧ c ≤ 255) :
    Calls Tryd.prog 27 #[.agg #[lv, mv], .int .u8 o, .int .u8 c, .string s] w fun e w' => e = .returned (.tuple #[.agg #[lv, mv], .int .i64 2]) ∧ Below w.heap.size w w' := by
  obtain ⟨⟨lp', lc', rfl⟩, mp', mc, rfl⟩ := h.forms
  have V0 : Below w.heap.size w ((w.alloc (.cells #[.slice lp' l.length lc', .slice mp' ms.length mc] 30)).alloc (.cells #[.slice none 0 0, .slice none 0 0] 30)) := ((Below.refl _ _).alloc (Nat.le_refl _) _).alloc (by simp) _
  have HB := Lib.hid (two_boxes w #[.slice lp' l.length lc', .slice mp' ms.length mc] #[.slice none 0 0, .slice none 0 0] 30 30)
  have HZ : Hid (((w.alloc (.cells #[.slice lp' l.length lc', .slice mp' ms.length mc] 30)).alloc (.cells #[.slice none 0 0, .slice none 0 0] 30)).heap.size = w.heap.size + 2) := by simp [Hid]
  obtain ⟨hc, hc'⟩ := hc
  clear h
  go_enter Tryd.func27, Tryd.ntmps27
  go_upto_region 1 with (fail)
  generalize (w.alloc (.cells #[.slice lp' l.length lc', .slice mp' ms.length mc] 30)).alloc (.cells #[.slice none 0 0, .slice none 0 0] 30) = V at HB V0 HZ ⊢
  have b0 : V.cell? ⟨w.heap.size, 0, none⟩ = some (.slice lp' l.length lc') := HB.out.1 0 _ rfl
  have b1 : V.cell? ⟨w.heap.size, 1, none⟩ = some (.slice mp' ms.length mc) := HB.out.1 1 _ rfl
  have d0 : V.cell? ⟨w.heap.size + 1, 0, none⟩ = some (.slice none 0 0) := HB.out.2.1 0 _ rfl
  have d1 : V.cell? ⟨w.heap.size + 1, 1, none⟩ = some (.slice none 0 0) := HB.out.2.1 1 _ rfl
  have f0 : V.frozen? ⟨w.heap.size + 1, 0, none⟩ = false := HB.out.2.2.2 0
  have f1 : V.frozen? ⟨w.heap.size + 1, 1, none⟩ = false := HB.out.2.2.2 1
  have lz : w.heap.size < V.heap.size := by have := HZ.out; unfold Hid at this; omega
  have lz1 : w.heap.size + 1 < V.heap.size := by have := HZ.out; unfold Hid at this; omega
  have G2 := Lib.hid V0
  clear V0 HB HZ
  go_wp2_with fail
  refine bodyPost_ret (v := .tuple #[.agg #[.slice lp' l.length lc', .slice mp' ms.length mc], .int .i64 2]) ?_ rfl ⟨rfl, ?_⟩
  · simp [results, Tryd.results27, go_sem, d0, d1]
  · exact (G2.out.setCell (p := ⟨w.heap.size + 1, 0, none⟩) (Nat.le_succ _) _).setCell (p := ⟨w.heap.size + 1, 1, none⟩) (Nat.le_succ _) _
theorem form_snoc {w : World} {B : Nat} {v : Value} {l : List It} {t : It} (h : w.ownsRow B 79 8 v ([] ++ l ++ [t]).length (itCells ([] ++ l ++ [t]))) : ∃ g c, v = .slice (some ⟨g, 0, none⟩) (l.length + 1) c := by
  rcases ownK_of h with ⟨_, h0⟩ | ⟨g, c, e⟩
  · simp at h0
  · exact ⟨g, c, by rw [e]; simp⟩
set_option maxHeartbeats 4000000 in
theorem refJump_yes {w : World} {lv mv : Value} {l : List It} {ms : List (ByteArray × Nat)} (o c : Int) (s : ByteArray) (h : RL w lv mv l ms) (ho : 0 ≤ o ∧ o ≤ 255) (hc : 0 ≤ c ∧ c ≤ 6) (hn : l.length < 100000) :
    Calls Tryd.prog 27 #[.agg #[lv, mv], .int .u8 o, .int .u8 c, .string s] w fun e w' => ∃ lv', e = .returned (.tuple #[.agg #[lv', mv], .int .i64 0]) ∧ RL w' lv' mv (l ++ [⟨⟨o, c, 0, 0, true, 0⟩, true, s⟩]) ms ∧ (∀ j, lv'.ownBlock = some j → w.heap.size ≤ j) ∧ Below w.heap.size w w' := by
  obtain ⟨⟨lp', lc', rfl⟩, mp', mc, rfl⟩ := h.forms
  have V0 : Below w.heap.size w ((w.alloc (.cells #[.slice lp' l.length lc', .slice mp' ms.length mc] 30)).alloc (.cells #[.slice none 0 0, .slice none 0 0] 30)) := ((Below.refl _ _).alloc (Nat.le_refl _) _).alloc (by simp) _
  have HB := Lib.hid (two_boxes w #[.slice lp' l.length lc', .slice mp' ms.length mc] #[.slice none 0 0, .slice none 0 0] 30 30)
  have HZ : Hid (((w.alloc (.cells #[.slice lp' l.length lc', .slice mp' ms.length mc] 30)).alloc (.cells #[.slice none 0 0, .slice none 0 0] 30)).heap.size = w.heap.size + 2) := by simp [Hid]
  obtain ⟨hc, hc'⟩ := hc
  have H := Lib.hid h
  have HN := Lib.hid hn
  clear h hn
  go_enter Tryd.func27, Tryd.ntmps27
  go_upto_region 1 with (fail)
  generalize (w.alloc (.cells #[.slice lp' l.length lc', .slice mp' ms.length mc] 30)).alloc (.cells #[.slice none 0 0, .slice none 0 0] 30) = U at HB V0 HZ ⊢
  go_upto_region 4 with (fail)
  have U1 := HZ.out
  have A1 := (Below.refl U.heap.size U).alloc (Nat.le_refl _) (.cells #[.int .u8 o, .int .u8 c, .int .u8 0, .int .u8 0, .bool true, .int .i32 0] 49)
  have hq : (U.alloc (.cells #[.int .u8 o, .int .u8 c, .int .u8 0, .int .u8 0, .bool true, .int .i32 0] 49)).heap[U.heap.size]? = some (.cells #[.int .u8 o, .int .u8 c, .int .u8 0, .int .u8 0, .bool true, .int .i32 0] 49 (0, 0)) := heap_alloc_last _ _
  have S0 : Hid (SJ w.heap.size U.heap.size (.slice lp' l.length lc') (.slice mp' ms.length mc) ⟨o, c, 0, 0, true, 0⟩ (U.alloc (.cells #[.int .u8 o, .int .u8 c, .int .u8 0, .int .u8 0, .bool true, .int .i32 0] 49)) (U.alloc (.cells #[.int .u8 o, .int .u8 c, .int .u8 0, .int .u8 0, .bool true, .int .i32 0] 49))) :=
    ⟨⟨bel_cell A1 (HB.out.1 0 _ rfl), bel_cell A1 (HB.out.1 1 _ rfl), row_cell hq rfl, row_cell hq rfl, row_cell hq rfl, row_cell hq rfl, row_cell hq rfl, row_cell hq rfl⟩, by rw [bel_cell A1 (HB.out.2.1 0 _ rfl)]; rfl, by rw [bel_cell A1 (HB.out.2.1 1 _ rfl)]; rfl, bel_frozen A1 (HB.out.2.1 0 _ rfl) (HB.out.2.2.2 0), bel_frozen A1 (HB.out.2.1 0 _ rfl) (HB.out.2.2.2 1), ⟨by simp; omega, by omega⟩, ⟨rfl, rfl, rfl, Nat.le_refl _, fun _ _ _ => rfl⟩⟩
  have G2 := Lib.hid (bel_trans V0 A1)
  have L2 := Lib.hid (H.out.row)
  generalize U.alloc (.cells #[.int .u8 o, .int .u8 c, .int .u8 0, .int .u8 0, .bool true, .int .i32 0] 49) = V at S0 G2 ⊢
  generalize U.heap.size = q at S0 ⊢
  clear A1 hq U1 HB V0 HZ U
  have L3 := Lib.hid (own_belK L2.out G2.out)
  have hne : (Value.slice lp' l.length lc').ownBlock ≠ some (w.heap.size + 1) := fun e => by have := (L2.out.lt _ e).2; omega
  clear L2
  go_region_held3 (fun w' => w'.cell? ⟨w.heap.size, 0, none⟩ = some (.slice lp' l.length lc') ∧ w'.cell? ⟨w.heap.size, 1, none⟩ = some (.slice mp' ms.length mc) ∧ w'.cell? ⟨q, 0, none⟩ = some (.int .u8 o) ∧ w'.cell? ⟨q, 1, none⟩ = some (.int .u8 c) ∧ w'.cell? ⟨q, 2, none⟩ = some (.int .u8 0) ∧ w'.cell? ⟨q, 3, none⟩ = some (.int .u8 0) ∧ w'.cell? ⟨q, 4, none⟩ = some (.bool true) ∧ w'.cell? ⟨q, 5, none⟩ = some (.int .i32 0) ∧ SJ w.heap.size q (.slice lp' l.length lc') (.slice mp' ms.length mc) ⟨o, c, 0, 0, true, 0⟩ V w')
    (first
      | exact (S0.out.more (Below.refl _ _).drew).all
      | (go_split_ands; exact (SJ.more (by assumption) (Below.alloc (Below.refl _ _) (SJ.size (by assumption)) _)).all)
      | (go_split_ands; exact (SJ.more (by assumption) hbL).all)
      | (go_split_ands; exact (SJ.cell (SJ.cell (by assumption) _ _) _ _).all))
    (first
      | (go_split_ands; refine step_its rfl _ _ rfl V.heap.size 0 (.slice (some ⟨_, 0, none⟩) 0 0) (.slice lp' l.length lc') [] l rfl (by first | exact own_empty8 (heap_alloc_last _ _) (by simp) | exact own_empty8 (heap_alloc2_old _ _ _) (by simp) | exact own_empty8 (heap_alloc2_new _ _ _) (by simp)) rfl (SJ.list (by assumption) L3.out hne) (by have := HN.out; simp; omega) (SJ.size (by assumption)) ?_; intro v1 w3 ho1 hbL hkeep)
      | (go_split_ands; refine step_its rfl _ _ rfl V.heap.size 0 _ _ ([] ++ l) [⟨⟨o, c, 0, 0, true, 0⟩, true, s⟩] rfl (by first | exact ho1 | exact ho1.alloc _) rfl (by first | exact own_item _ (heap_alloc_last _ _) | exact own_item _ (hkeep _ _ (by simp [Value.ownBlock]) (heap_alloc2_old _ _ _)) | exact own_item _ (hkeep _ _ (by simp [Value.ownBlock]) (heap_alloc2_new _ _ _))) (by have := HN.out; simp; omega) (SJ.size (by assumption)) ?_; intro v2 w4 ho2 hbL hkeep; obtain ⟨g2, k2, hv2⟩ := form_snoc ho2; subst hv2; obtain ⟨u0, u1, x0, x1, y0, y1⟩ := (SJ.more (by assumption) hbL).cells))
  all_goals
    rename_i hH
    have hS := hH.2.2.2.2.2.2.2.2
    clear hH
    have F := Lib.hid (only_bel G2.out hS.only (Nat.le_succ _))
    have L := Lib.hid (ownsRow_setCell_below (a := ⟨w.heap.size + 1, 1, none⟩) (ownsRow_setCell_below (a := ⟨w.heap.size + 1, 0, none⟩) ho2 hS.lt.1 (.slice (some ⟨g2, 0, none⟩) (l.length + 1) k2)) hS.lt.1 (.slice mp' ms.length mc))
    clear hS ho1 ho2 hbL
    go_wp2
    refine bodyPost_ret (v := .tuple #[.agg #[.slice (some ⟨g2, 0, none⟩) (l.length + 1) k2, .slice mp' ms.length mc], .int .i64 0]) ?_ rfl ⟨_, rfl, ⟨own_base L.out, (H.out.bel F.out).marks, by have := HN.out; simp; omega, H.out.mn⟩, fun j hj => Nat.le_trans G2.out.size (L.out.lt j hj).1, F.out⟩
    simp [results, Tryd.results27, go_sem, x0, x1]
end Go.Proofs.YtoecanjhkbeemaaDoor.A7
