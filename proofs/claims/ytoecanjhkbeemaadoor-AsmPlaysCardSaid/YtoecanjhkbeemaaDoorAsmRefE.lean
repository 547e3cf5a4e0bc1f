/- The document's lists (layer 7): Mark. -/
import Derived.Test.YtoecanjhkbeemaaDoorAsmRefD
namespace Go.Proofs.YtoecanjhkbeemaaDoor.A7
open Go.RowKit Go.Maps
set_option linter.unusedVariables false
theorem label_under : Tryd.prog.underlying 28 = some (.slice 81) := by kernel_rfl
theorem label_parts : (Tryd.prog.info? 81).map (fun i => (i.zero, i.size, i.bytes)) = some (some (.agg #[.string ByteArray.empty, .int .i64 0]), 2, 24) := by kernel_rfl
theorem cells2_one (l : List (ByteArray × Nat)) : ∀ v ∈ mkCells l, v.oneCell' = true := by
  intro v hv
  unfold mkCells at hv
  rw [List.mem_flatMap] at hv
  obtain ⟨t, _, ht⟩ := hv
  simp at ht
  rcases ht with rfl | rfl <;> rfl
theorem own_empty2 {w : World} {B g : Nat} (h : w.heap[g]? = some (.cells #[] 81 (0, 0))) (hB : B ≤ g) : w.ownsRow B 81 2 (.slice (some ⟨g, 0, none⟩) 0 0) ([] : List (ByteArray × Nat)).length (mkCells []) :=
  ⟨rfl, .inr ⟨g, 0, #[], rfl, hB, h, Nat.le_refl _, Nat.zero_le _, rfl, rfl⟩⟩
theorem own_label {w : World} {g : Nat} (s : ByteArray) (n : Nat) (h : w.heap[g]? = some (.cells #[.string s, .int .i64 n] 81 (0, 0))) : w.ownsRow 0 81 2 (.slice (some ⟨g, 0, none⟩) 1 1) [(s, n)].length (mkCells [(s, n)]) :=
  ⟨rfl, .inr ⟨g, 1, #[.string s, .int .i64 n], rfl, Nat.zero_le _, h, Nat.le_refl _, by decide, rfl, rfl⟩⟩
/-- Behind a list of its own a list is laid: one step of a region that draws its order. -/
theorem step_mks {ops : Array Oper} {o : Oper} {a : Act} {w : World} {K : Act → World → Prop} {Q : Exit → Act → World → Prop} {E : Prop} (hg : o.guard = none) (s x : Operand)
    (hop : o.op = Op.call { callee := Callee.builtin Builtin.append, args := #[s, x], argTypes := #[28, 28] })
    (B C : Nat) (v1 vx : Value) (l1 l2 : List (ByteArray × Nat)) (hs : a.eval s = v1) (h1 : w.ownsRow B 81 2 v1 l1.length (mkCells l1)) (hx : a.eval x = vx) (h2 : w.ownsRow C 81 2 vx l2.length (mkCells l2)) (hl : l1.length + l2.length ≤ 300000) (hB : B ≤ w.heap.size)
    (hK : ∀ v' w', w'.ownsRow B 81 2 v' (l1 ++ l2).length (mkCells (l1 ++ l2)) → Below B w w' → (∀ k o, v1.ownBlock ≠ some k → w.heap[k]? = some o → w'.heap[k]? = some o) → K (a.put o.dst v') w') :
    if Region.wanted o (yielded ops a.tmps) = true then Oper.wp Tryd.prog o a w K Q else E := by
  obtain ⟨i0, hi, hz0, hz1, hz2⟩ := info_parts label_parts
  have hw : Region.wanted o (yielded ops a.tmps) = true := by simp [Region.wanted, hg]
  rw [if_pos hw]
  have e1 : (l1 ++ l2).length = l1.length + l2.length := List.length_append
  have e2 : mkCells (l1 ++ l2) = mkCells l1 ++ mkCells l2 := by unfold mkCells; rw [List.flatMap_append]
  rw [e1, e2] at hK
  rcases ownK_of h2 with ⟨rfl, h0⟩ | ⟨g, c, rfl⟩
  · obtain rfl : l2 = [] := List.eq_nil_of_length_eq_zero h0
    have hrun := run_append_owned_none (P := Tryd.prog) (w := w) B 28 o.type 81 i0 2 label_under hi v1 l1.length (mkCells l1) h1
    unfold Oper.wp
    simp [execOp, hop, resolve, invoke, builtin, hs, hx, hrun, Result.andThen]
    exact hK _ _ (by simpa [mkCells] using h1) (Below.refl _ _) (fun _ _ _ h => h)
  · refine wp_append_own_wide w s x 28 hop B 81 i0 _ 2 24 label_under hi hz0 hz1 hz2 rfl (by decide) v1 l1.length (mkCells l1) hs h1 ⟨g, 0, none⟩ l2.length c (mkCells l2) hx (mkCells_len l2) ?_ (cells2_one l2) (by unfold maxLen; omega) (by omega) hB ?_
    · intro j u hu
      rw [add_at]
      exact ownK_cell h2 j u hu
    · intro v' w' ho hgrow _
      refine hK v' w' ho ((Below.refl B w).grown hgrow hB (fun k hk => (h1.lt k hk).1)) (fun k o hk ho => ?_)
      have hlt : k < w.heap.size := by
        rcases Nat.lt_or_ge k w.heap.size with hh | hh
        · exact hh
        · rw [Array.getElem?_eq_none hh] at ho; cases ho
      rw [hgrow.block k hlt (fun e => hk e.symm)]
      exact ho
/-- What stays while the document's Mark lays its list: the box in the block z; the result's box, behind z, may be written. -/
structure SK (z : Nat) (lv mv : Value) (V w : World) : Prop where
  v : V.cell? ⟨z, 0, none⟩ = some lv ∧ V.cell? ⟨z, 1, none⟩ = some mv
  d0 : (w.cell? ⟨z + 1, 0, none⟩).isSome = true
  d1 : (w.cell? ⟨z + 1, 1, none⟩).isSome = true
  f0 : w.frozen? ⟨z + 1, 0, none⟩ = false
  f1 : w.frozen? ⟨z + 1, 1, none⟩ = false
  lt : z + 1 < V.heap.size
  only : V.grownBy w (some (z + 1))
section
variable {z : Nat} {lv mv : Value} {V w w' : World}
theorem SK.all (h : SK z lv mv V w) : w.cell? ⟨z, 0, none⟩ = some lv ∧ w.cell? ⟨z, 1, none⟩ = some mv ∧ SK z lv mv V w := by
  obtain ⟨a0, a1⟩ := h.v
  have hz : z ≠ z + 1 := by omega
  exact ⟨only_cell' h.only hz a0, only_cell' h.only hz a1, h⟩
theorem SK.more (h : SK z lv mv V w) (g : Below V.heap.size w w') : SK z lv mv V w' :=
  ⟨h.v, by rw [g.cell (p := ⟨z + 1, 0, none⟩) h.lt]; exact h.d0, by rw [g.cell (p := ⟨z + 1, 1, none⟩) h.lt]; exact h.d1, (g.frozen (p := ⟨z + 1, 0, none⟩) h.lt).trans h.f0, (g.frozen (p := ⟨z + 1, 1, none⟩) h.lt).trans h.f1, h.lt,
    ⟨g.os.trans h.only.os, g.tape.trans h.only.tape, g.output.trans h.only.output, Nat.le_trans h.only.size g.size, fun i hi hn => (g.block i hi).trans (h.only.block i hi hn)⟩⟩
theorem SK.size (h : SK z lv mv V w) : V.heap.size ≤ w.heap.size := h.only.size
theorem SK.cells (h : SK z lv mv V w) : ∃ u0 u1, w.cell? ⟨z + 1, 0, none⟩ = some u0 ∧ w.cell? ⟨z + 1, 1, none⟩ = some u1 ∧ w.frozen? ⟨z + 1, 0, none⟩ = false ∧ w.frozen? ⟨z + 1, 1, none⟩ = false := by
  obtain ⟨u0, h0⟩ := Option.isSome_iff_exists.1 h.d0
  obtain ⟨u1, h1⟩ := Option.isSome_iff_exists.1 h.d1
  exact ⟨u0, u1, h0, h1, h.f0, h.f1⟩
theorem SK.list {l : List (ByteArray × Nat)} {B : Nat} (h : SK z lv mv V w) (hL : V.ownsRow B 81 2 mv l.length (mkCells l)) (hne : mv.ownBlock ≠ some (z + 1)) : w.ownsRow B 81 2 mv l.length (mkCells l) := World.ownsRow.kept hL h.only (.inr hne)
theorem SK.cell (h : SK z lv mv V w) (o : Nat) (u : Value) : SK z lv mv V (w.setCell ⟨z + 1, o, none⟩ u) := by
  have some' : ∀ j, (w.cell? ⟨z + 1, j, none⟩).isSome = true → ((w.setCell ⟨z + 1, o, none⟩ u).cell? ⟨z + 1, j, none⟩).isSome = true := fun j hj => by
    obtain ⟨x, hx⟩ := Option.isSome_iff_exists.1 hj
    by_cases e : o = j
    · subst e; rw [World.cell?_setCell_same _ _ _ hx]; rfl
    · rw [World.cell?_setCell_other _ _ _ _ (fun e' => e (by cases e'; rfl)), hx]; rfl
  exact ⟨h.v, some' 0 h.d0, some' 1 h.d1, (World.frozen?_setCell _ _ _ _).trans h.f0, (World.frozen?_setCell _ _ _ _).trans h.f1, h.lt, only_cell h.only o u⟩
end
theorem form_msnoc {w : World} {B : Nat} {v : Value} {l : List (ByteArray × Nat)} {t : ByteArray × Nat} (h : w.ownsRow B 81 2 v ([] ++ l ++ [t]).length (mkCells ([] ++ l ++ [t]))) : ∃ g c, v = .slice (some ⟨g, 0, none⟩) (l.length + 1) c := by
  rcases ownK_of h with ⟨_, h0⟩ | ⟨g, c, e⟩
  · simp at h0
  · exact ⟨g, c, by rw [e]; simp⟩
set_option maxHeartbeats 2000000 in
theorem refMark_bad {w : World} {lv mv : Value} {l : List It} {ms : List (ByteArray × Nat)} (s : ByteArray) (h : RL w lv mv l ms) {t : Nat} (hf : first ms s = some t) :
    Calls Tryd.prog 26 #[.agg #[lv, mv], .string s] w fun e w' => e = .returned (.tuple #[.agg #[lv, mv], .int .i64 9]) ∧ Below w.heap.size w w' := by
  have hV : rAtV ms s = t := by simp only [rAtV, hf]
  have hE : rAtE ms s = 0 := by simp only [rAtE, hf]
  clear hf
  obtain ⟨⟨lp', lc', rfl⟩, mp', mc, rfl⟩ := h.forms
  have V0 : Below w.heap.size w ((w.alloc (.cells #[.slice lp' l.length lc', .slice mp' ms.length mc] 30)).alloc (.cells #[.slice none 0 0, .slice none 0 0] 30)) := ((Below.refl _ _).alloc (Nat.le_refl _) _).alloc (by simp) _
  have HB := Lib.hid (two_boxes w #[.slice lp' l.length lc', .slice mp' ms.length mc] #[.slice none 0 0, .slice none 0 0] 30 30)
  have HZ : Hid (((w.alloc (.cells #[.slice lp' l.length lc', .slice mp' ms.length mc] 30)).alloc (.cells #[.slice none 0 0, .slice none 0 0] 30)).heap.size = w.heap.size + 2) := by simp [Hid]
  have H := Lib.hid h
  have H1 := Lib.hid (h.bel V0)
  clear h
  go_enter Tryd.func26, Tryd.ntmps26
  go_upto_region 1 with (fail)
  generalize (w.alloc (.cells #[.slice lp' l.length lc', .slice mp' ms.length mc] 30)).alloc (.cells #[.slice none 0 0, .slice none 0 0] 30) = U at HB V0 HZ H1 ⊢
  have b0 : U.cell? ⟨w.heap.size, 0, none⟩ = some (.slice lp' l.length lc') := HB.out.1 0 _ rfl
  have b1 : U.cell? ⟨w.heap.size, 1, none⟩ = some (.slice mp' ms.length mc) := HB.out.1 1 _ rfl
  have lz : w.heap.size < U.heap.size := by have := HZ.out; unfold Hid at this; omega
  have lz1 : w.heap.size + 1 < U.heap.size := by have := HZ.out; unfold Hid at this; omega
  have V0 := Lib.hid V0
  go_wp2_with fail
  refine (refAt_any s H1.out).mono ?_; rintro e V ⟨rfl, g1⟩
  rw [hV, hE]
  have c0 : V.cell? ⟨w.heap.size, 0, none⟩ = some (.slice lp' l.length lc') := bel_cell g1 (HB.out.1 0 _ rfl)
  have c1 : V.cell? ⟨w.heap.size, 1, none⟩ = some (.slice mp' ms.length mc) := bel_cell g1 (HB.out.1 1 _ rfl)
  have d0 : V.cell? ⟨w.heap.size + 1, 0, none⟩ = some (.slice none 0 0) := bel_cell g1 (HB.out.2.1 0 _ rfl)
  have d1 : V.cell? ⟨w.heap.size + 1, 1, none⟩ = some (.slice none 0 0) := bel_cell g1 (HB.out.2.1 1 _ rfl)
  have f0 : V.frozen? ⟨w.heap.size + 1, 0, none⟩ = false := bel_frozen g1 (HB.out.2.1 0 _ rfl) (HB.out.2.2.2 0)
  have f1 : V.frozen? ⟨w.heap.size + 1, 1, none⟩ = false := bel_frozen g1 (HB.out.2.1 0 _ rfl) (HB.out.2.2.2 1)
  have mz : w.heap.size < V.heap.size := Nat.lt_of_lt_of_le lz g1.size
  have mz1 : w.heap.size + 1 < V.heap.size := Nat.lt_of_lt_of_le lz1 g1.size
  have G2 := Lib.hid (bel_trans V0.out g1)
  clear V0 HB HZ g1 b0 b1 lz lz1 H1
  clear H
  go_wp2_with fail
  refine bodyPost_ret (v := .tuple #[.agg #[.slice lp' l.length lc', .slice mp' ms.length mc], .int .i64 9]) ?_ rfl ⟨rfl, ?_⟩
  · simp [results, Tryd.results26, go_sem, d0, d1]
  · exact (G2.out.setCell (p := ⟨w.heap.size + 1, 0, none⟩) (Nat.le_succ _) _).setCell (p := ⟨w.heap.size + 1, 1, none⟩) (Nat.le_succ _) _
set_option maxHeartbeats 4000000 in
theorem refMark_yes {w : World} {lv mv : Value} {l : List It} {ms : List (ByteArray × Nat)} (s : ByteArray) (h : RL w lv mv l ms) (hf : first ms s = none) (hn : ms.length < 100000) :
    Calls Tryd.prog 26 #[.agg #[lv, mv], .string s] w fun e w' => ∃ mv', e = .returned (.tuple #[.agg #[lv, mv'], .int .i64 0]) ∧ RL w' lv mv' l (ms ++ [(s, l.length)]) ∧ (∀ j, mv'.ownBlock = some j → w.heap.size ≤ j) ∧ Below w.heap.size w w' := by
  have HN := Lib.hid hn
  have hV : rAtV ms s = 0 := by simp only [rAtV, hf]
  have hE : rAtE ms s = 7 := by simp only [rAtE, hf]
  clear hf hn
  obtain ⟨⟨lp', lc', rfl⟩, mp', mc, rfl⟩ := h.forms
  have V0 : Below w.heap.size w ((w.alloc (.cells #[.slice lp' l.length lc', .slice mp' ms.length mc] 30)).alloc (.cells #[.slice none 0 0, .slice none 0 0] 30)) := ((Below.refl _ _).alloc (Nat.le_refl _) _).alloc (by simp) _
  have HB := Lib.hid (two_boxes w #[.slice lp' l.length lc', .slice mp' ms.length mc] #[.slice none 0 0, .slice none 0 0] 30 30)
  have HZ : Hid (((w.alloc (.cells #[.slice lp' l.length lc', .slice mp' ms.length mc] 30)).alloc (.cells #[.slice none 0 0, .slice none 0 0] 30)).heap.size = w.heap.size + 2) := by simp [Hid]
  have H := Lib.hid h
  have H1 := Lib.hid (h.bel V0)
  clear h
  go_enter Tryd.func26, Tryd.ntmps26
  go_upto_region 1 with (fail)
  generalize (w.alloc (.cells #[.slice lp' l.length lc', .slice mp' ms.length mc] 30)).alloc (.cells #[.slice none 0 0, .slice none 0 0] 30) = U at HB V0 HZ H1 ⊢
  have b0 : U.cell? ⟨w.heap.size, 0, none⟩ = some (.slice lp' l.length lc') := HB.out.1 0 _ rfl
  have b1 : U.cell? ⟨w.heap.size, 1, none⟩ = some (.slice mp' ms.length mc) := HB.out.1 1 _ rfl
  have lz : w.heap.size < U.heap.size := by have := HZ.out; unfold Hid at this; omega
  have lz1 : w.heap.size + 1 < U.heap.size := by have := HZ.out; unfold Hid at this; omega
  have V0 := Lib.hid V0
  go_wp2_with fail
  refine (refAt_any s H1.out).mono ?_; rintro e V ⟨rfl, g1⟩
  rw [hV, hE]
  have c0 : V.cell? ⟨w.heap.size, 0, none⟩ = some (.slice lp' l.length lc') := bel_cell g1 (HB.out.1 0 _ rfl)
  have c1 : V.cell? ⟨w.heap.size, 1, none⟩ = some (.slice mp' ms.length mc) := bel_cell g1 (HB.out.1 1 _ rfl)
  have d0 : V.cell? ⟨w.heap.size + 1, 0, none⟩ = some (.slice none 0 0) := bel_cell g1 (HB.out.2.1 0 _ rfl)
  have d1 : V.cell? ⟨w.heap.size + 1, 1, none⟩ = some (.slice none 0 0) := bel_cell g1 (HB.out.2.1 1 _ rfl)
  have f0 : V.frozen? ⟨w.heap.size + 1, 0, none⟩ = false := bel_frozen g1 (HB.out.2.1 0 _ rfl) (HB.out.2.2.2 0)
  have f1 : V.frozen? ⟨w.heap.size + 1, 1, none⟩ = false := bel_frozen g1 (HB.out.2.1 0 _ rfl) (HB.out.2.2.2 1)
  have mz : w.heap.size < V.heap.size := Nat.lt_of_lt_of_le lz g1.size
  have mz1 : w.heap.size + 1 < V.heap.size := Nat.lt_of_lt_of_le lz1 g1.size
  have G2 := Lib.hid (bel_trans V0.out g1)
  clear V0 HB HZ g1 b0 b1 lz lz1 H1
  have S0 : Hid (SK w.heap.size (.slice lp' l.length lc') (.slice mp' ms.length mc) V V) :=
    ⟨⟨c0, c1⟩, by rw [d0]; rfl, by rw [d1]; rfl, f0, f1, mz1, ⟨rfl, rfl, rfl, Nat.le_refl _, fun _ _ _ => rfl⟩⟩
  have L3 := Lib.hid (own_belK H.out.marks G2.out)
  have hne : (Value.slice mp' ms.length mc).ownBlock ≠ some (w.heap.size + 1) := fun e => by have := (H.out.marks.lt _ e).2; omega
  clear c0 c1 d0 d1 f0 f1 mz mz1
  go_upto_region 4 with (fail)
  go_region_held3 (fun w' => w'.cell? ⟨w.heap.size, 0, none⟩ = some (.slice lp' l.length lc') ∧ w'.cell? ⟨w.heap.size, 1, none⟩ = some (.slice mp' ms.length mc) ∧ SK w.heap.size (.slice lp' l.length lc') (.slice mp' ms.length mc) V w')
    (first
      | exact (S0.out.more (Below.refl _ _).drew).all
      | (go_split_ands; exact (SK.more (by assumption) (Below.alloc (Below.refl _ _) (SK.size (by assumption)) _)).all)
      | (go_split_ands; exact (SK.more (by assumption) hbL).all)
      | (go_split_ands; exact (SK.cell (SK.cell (by assumption) _ _) _ _).all))
    (first
      | (go_split_ands; refine step_mks rfl _ _ rfl V.heap.size 0 (.slice (some ⟨_, 0, none⟩) 0 0) (.slice mp' ms.length mc) [] ms rfl (by first | exact own_empty2 (heap_alloc_last _ _) (by simp) | exact own_empty2 (heap_alloc2_old _ _ _) (by simp) | exact own_empty2 (heap_alloc2_new _ _ _) (by simp)) rfl (SK.list (by assumption) L3.out hne) (by have := HN.out; simp; omega) (SK.size (by assumption)) ?_; intro v1 w3 ho1 hbL hkeep)
      | (go_split_ands; refine step_mks rfl _ _ rfl V.heap.size 0 _ _ ([] ++ ms) [(s, l.length)] rfl (by first | exact ho1 | exact ho1.alloc _) rfl (by first | exact own_label _ _ (heap_alloc_last _ _) | exact own_label _ _ (hkeep _ _ (by simp [Value.ownBlock]) (heap_alloc2_old _ _ _)) | exact own_label _ _ (hkeep _ _ (by simp [Value.ownBlock]) (heap_alloc2_new _ _ _))) (by have := HN.out; simp; omega) (SK.size (by assumption)) ?_; intro v2 w4 ho2 hbL hkeep; obtain ⟨g2, k2, hv2⟩ := form_msnoc ho2; subst hv2; obtain ⟨u0, u1, x0, x1, y0, y1⟩ := (SK.more (by assumption) hbL).cells))
  all_goals
    rename_i hH
    have hS := hH.2.2
    clear hH
    have F := Lib.hid (only_bel G2.out hS.only (Nat.le_succ _))
    have L := Lib.hid (ownsRow_setCell_below (a := ⟨w.heap.size + 1, 1, none⟩) (ownsRow_setCell_below (a := ⟨w.heap.size + 1, 0, none⟩) ho2 hS.lt (.slice lp' l.length lc')) hS.lt (.slice (some ⟨g2, 0, none⟩) (ms.length + 1) k2))
    clear hS ho1 ho2 hbL
    go_wp2
    refine bodyPost_ret (v := .tuple #[.agg #[.slice lp' l.length lc', .slice (some ⟨g2, 0, none⟩) (ms.length + 1) k2], .int .i64 0]) ?_ rfl ⟨_, rfl, ⟨(H.out.bel F.out).row, own_base L.out, H.out.ln, by have := HN.out; simp; omega⟩, fun j hj => Nat.le_trans G2.out.size (L.out.lt j hj).1, F.out⟩
    simp [results, Tryd.results26, go_sem, x0, x1]
end Go.Proofs.YtoecanjhkbeemaaDoor.A7
