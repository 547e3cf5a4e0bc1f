/- The document's machine (layer 6): a new one. -/
import Derived.Test.YtiobgnelhiadbaaGreatDoorZMachGRa
import Derived.Test.YtiobgnelhiadbaaGreatDoorZMachGI
import Derived.Test.YtiobgnelhiadbaaGreatDoorZFileGR
import Derived.Deep.OwnRows
import Derived.Deep.DeepCutAuto
import Derived.Deep.RegionHeld3
import Derived.Deep.RegionWith
import Derived.Deep.RegionLaw
import Derived.Deep.RegionLawGrows
import Derived.Laws.OwnMore
namespace Go.Proofs.YtiobgnelhiadbaaGreatDoor.K6
open Go.RowKit
set_option linter.unusedVariables false
set_option maxRecDepth 100000 in
theorem q_results {fn : Func} {tmps : Array Value} {w : World} {z : Nat} {p u : Tmp} {q : RV} (h : fn.results = #[.cell p 39, .tmp u]) (hp : tmps.getD p undef = .pointer (some ⟨z, 0, none⟩)) (hz : RowQ w z q) : (results fn tmps).run Tryz.prog w = .ok (.tuple #[.agg (rrow q), tmps.getD u undef]) w := by
  have hp' : tmps[p]?.getD undef = .pointer (some ⟨z, 0, none⟩) := by simpa using hp
  simp [results, h, hp', asAddr, run_loadVar_row w z 39 39 (rrow q) (0, 0) _ hz rrow_under rfl (rrow_info _)]
theorem q_ret2 {fn : Func} {R : Ending → World → Prop} {a : Act} {w : World} {z : Nat} {p u : Tmp} {q : RV} (h : fn.results = #[.cell p 39, .tmp u]) (hp : a.tmps.getD p undef = .pointer (some ⟨z, 0, none⟩)) (hz : RowQ w z q) (hd : a.defers = []) (hR : R (.returned (.tuple #[.agg (rrow q), a.tmps.getD u undef])) w) : bodyPost Tryz.prog fn R .ret a w :=
  bodyPost_ret (q_results h hp hz) hd hR
theorem rzero_ok : rzero.Ok := ⟨rfl, rfl, rfl, rfl, rfl, rfl⟩
set_option maxRecDepth 100000 in
set_option maxHeartbeats 1000000 in
theorem refNew6_no (n sz : Int) (w : World) (h : (n < 2 ∨ 32 < n) ∨ ¬ M5.MaySize sz) :
    Calls Tryz.prog 12 #[.int .i64 n, .int .i64 sz] w fun e w' => e = .returned (.tuple #[.agg (rrow rzero), .int .i64 2]) ∧ Below w.heap.size w w' := by
  have hze : (Tryz.prog.underlying 39).isSome = true := by kernel_rfl
  by_cases hn : n < 2 ∨ 32 < n
  · have HN := Lib.hid hn
    clear h hn
    go_enter Tryz.func12, Tryz.ntmps12
    go_wp2_with (refine q_alloc rfl (some 4) rfl (by kernel_rfl) ?_; intro V r1 b1 s1)
    refine (F3.refNew_bad n V HN.out).mono ?_; rintro e w2 ⟨rfl, g2⟩
    have R2 := Lib.hid (r1.out.bel g2)
    have B2 := Lib.hid (bel_trans b1 g2)
    clear r1 b1 g2
    go_upto_region 3 with (fail)
    have gx : Below w2.heap.size w2 (w2.alloc (.cells #[.int .i64 0, .slice none 0 0] 35)) := (Below.refl _ _).alloc (Nat.le_refl _) _
    have R3 := Lib.hid (R2.out.bel gx)
    have B3 := Lib.hid (bel_trans B2.out gx)
    clear gx R2 B2
    generalize w2.alloc (.cells #[.int .i64 0, .slice none 0 0] 35) = V3 at *
    go_wp2_with (refine q_whole rfl (.tmp 4) (.tmp 20) rfl w.heap.size rzero rzero rfl rfl R3.out rzero_ok ?_; intro V4 z4 g4)
    exact q_ret2 rfl rfl z4.out rfl ⟨rfl, only_bel B3.out g4.out (Nat.le_refl _)⟩
  · have HS : Hid (¬ M5.MaySize sz) := h.elim (fun e => absurd e hn) id
    have h2 : 2 ≤ n := by omega
    have h32 : n ≤ 32 := by omega
    clear h hn
    go_enter Tryz.func12, Tryz.ntmps12
    go_wp2_with (refine q_alloc rfl (some 4) rfl (by kernel_rfl) ?_; intro V r1 b1 s1)
    refine (F3.refNew_at n V h2 h32).mono ?_; rintro e w2 ⟨rfl, g2⟩
    have R2 := Lib.hid (r1.out.bel g2)
    have B2 := Lib.hid (bel_trans b1 g2)
    clear r1 b1 g2
    go_wp2_with fail
    refine (M5.rmay_no sz _ HS.out).mono ?_; rintro e w3 ⟨rfl, rfl⟩
    go_upto_region 3 with (fail)
    have gx : Below w2.heap.size w2 (w2.alloc (.cells #[.int .i64 n, .slice none 0 0] 35)) := (Below.refl _ _).alloc (Nat.le_refl _) _
    have R3 := Lib.hid (R2.out.bel gx)
    have B3 := Lib.hid (bel_trans B2.out gx)
    clear gx R2 B2
    generalize w2.alloc (.cells #[.int .i64 n, .slice none 0 0] 35) = V3 at *
    go_wp2_with (refine q_whole rfl (.tmp 4) (.tmp 20) rfl w.heap.size rzero rzero rfl rfl R3.out rzero_ok ?_; intro V4 z4 g4)
    exact q_ret2 rfl rfl z4.out rfl ⟨rfl, only_bel B3.out g4.out (Nat.le_refl _)⟩
theorem step_whole {ops : Array Oper} {o : Oper} {a : Act} {w : World} {K : Act → World → Prop} {Q : Exit → Act → World → Prop} {E : Prop} (hg : o.guard = none) (x y : Operand) (ho : o.op = .store 39 x y) (z : Nat) (q0 q : RV) (hx : a.eval x = .pointer (some ⟨z, 0, none⟩)) (hy : a.eval y = .agg (rrow q)) (hz : RowQ w z q0) (hq : q.Ok)
    (hK : ∀ V, Hid (RowQ V z q) → Hid (w.grownBy V (some z)) → K (a.put o.dst undef) V) : if Region.wanted o (yielded ops a.tmps) = true then Oper.wp Tryz.prog o a w K Q else E := by
  have hw : Region.wanted o (yielded ops a.tmps) = true := by simp [Region.wanted, hg]
  rw [if_pos hw]
  have hst := run_storeCells_at (P := Tryz.prog) z 0 39 (rrow q).toList 0 (rrow q0) w hz (by rw [rrow_size]; exact Nat.le_refl _) (rrow_list hq)
  simp only [Nat.add_zero] at hst
  cases hi : Tryz.prog.info? 39 with
  | none => have := rrow_info q; simp [hi] at this
  | some i =>
    have hs : i.size = (rrow q).toList.length := by have := rrow_info q; simpa [hi] using this
    have hst2 : Sem.run Tryz.prog (storeCells ⟨z, 0, none⟩ (rrow q).toList) w = .ok () (w.setRow z (rrow q)) := hst
    have hc : (Value.agg (rrow q)).cells = rrow q := rfl
    have hsv : (storeVar 39 ⟨z, 0, none⟩ (a.eval y)).run Tryz.prog w = .ok () (w.setRow z (rrow q)) := by
      simp [storeVar, sizeOf, typeInfo, hi, hy, hs, hc]
      exact hst2
    unfold Oper.wp execOp
    simp only [ho, hx, Instr.storeAt, Instr.sureAddr, Sem.run_bind, Sem.run_pure, Result.andThen_ok, hsv]
    exact hK _ (setRow_heap _ _ _ _ _ _ hz) (only_row ⟨rfl, rfl, rfl, Nat.le_refl _, fun _ _ _ => rfl⟩ rfl)
theorem row_belK (w : World) (xs : Array Value) (t : TypeId) : Below w.heap.size w (w.alloc (.cells xs t)) := (Below.refl _ _).alloc (Nat.le_refl _) _
theorem madeC_at (k : IntKind) (n i : Nat) (hi : i < n) : (madeCells #[Value.int k 0] n)[i]? = some (Value.int k 0) := by
  have h : (madeCells #[Value.int k 0] n).toList[i]? = some (Value.int k 0) := by rw [toList_madeCells_one]; simp [hi]
  simpa using h
theorem made_slt {k : IntKind} {t : TypeId} {V : World} {b n : Nat} {A : Array Value} (h : V.heap[b]? = some (.cells A t (0, 0))) (hA : ∀ i, i < n → A[i]? = some (Value.int k 0)) : SlT k t V (.slice (some ⟨b, 0, none⟩) n n) n (fun _ => 0) :=
  ⟨⟨_, _, rfl, fun _ => ⟨b, 0, rfl, fun i hi => row_cell h (by rw [Nat.zero_add]; exact hA i hi)⟩⟩, fun b' o m c e hm => by cases e; exact ⟨_, _, h⟩, fun p m c e => by cases e; exact Nat.le_refl _⟩
/-- What stands in the world in which the region is walked. -/
structure NS (V W : World) (z : Nat) : Prop where
  row : RowQ W z rzero
  g : Below V.heap.size V W
theorem NS.more {V W W' : World} {z : Nat} (h : NS V W z) (k : Below W.heap.size W W') : NS V W' z := ⟨h.row.bel k, bel_trans h.g k⟩
/-- A new machine, as values. -/
def qn (n : Int) (sz b3 b4 b5 : Nat) : RV := ⟨n, n, .slice none 0 0, .slice (some ⟨b3, 0, none⟩) sz sz, 0, 0, 0, 0, 0, 2, .slice (some ⟨b4, 0, none⟩) 17 17, .slice (some ⟨b5, 0, none⟩) 17 17, .slice none 0 0, .slice none 0 0, 0, 0⟩
theorem qn_ok (n : Int) (sz b3 b4 b5 : Nat) : (qn n sz b3 b4 b5).Ok := ⟨rfl, rfl, rfl, rfl, rfl, rfl⟩
section
variable [Far]
/-- Its memory's row is new. -/
def NewMs (w w' : World) (q : RV) (sz : Nat) : Prop := ∃ b3, w.heap.size ≤ b3 ∧ q.ms = .slice (some ⟨b3, 0, none⟩) sz sz ∧ ∀ i, i < sz → w'.cell? ⟨b3, i, none⟩ = some (.int .u8 0)
theorem new_done {w V W V' : World} {n : Int} {sz b3 b4 b5 : Nat} {A8 A32 : Array Value} (BV : Below w.heap.size w V) (lt : w.heap.size < V.heap.size) (S : NS V W w.heap.size) (hA : ∀ i, i < sz → A8[i]? = some (Value.int .u8 0)) (hB : ∀ i, i < 17 → A32[i]? = some (Value.int .u32 0))
    (hlow : Far.B ≤ w.heap.size) (m3 : W.heap[b3]? = some (.cells A8 5 (0, 0))) (m4 : W.heap[b4]? = some (.cells A32 22 (0, 0))) (m5 : W.heap[b5]? = some (.cells A32 22 (0, 0))) (l3 : V.heap.size ≤ b3) (l4 : V.heap.size ≤ b4) (l5 : V.heap.size ≤ b5) (g : W.grownBy V' (some w.heap.size)) :
    RefAt V' (qn n sz b3 b4 b5) (mnew n sz) 0 ∧ Below w.heap.size w V' ∧ NewMs w V' (qn n sz b3 b4 b5) sz := by
  have n3 := only_heap g (by omega) m3
  have n4 := only_heap g (by omega) m4
  have n5 := only_heap g (by omega) m5
  have hf : ∀ b3, V.heap.size ≤ b3 → ∀ n', Far.sl (.slice (some ⟨b3, 0, none⟩) n' n') := fun b3 h n' b o k c e _ hh => by cases e; have := Far.lt _ hh; omega
  exact ⟨{
    nw := rfl, fn := rfl
    file := ⟨[], F3.LAt.nil _, F3.step_new, Nat.le_refl _⟩
    mem := made_slt n3 hA
    pc := rfl, cwp := rfl, pil := rfl, bank := rfl, fl := rfl, wim := rfl
    tp := made_slt n4 hB
    ts := made_slt n5 hB
    ch := SlT.nil _ _ _ _
    ot := World.ownsRow_nil _ _ _ _
    sk := rfl, sv := rfl
    ffs := far_nil.1, fms := hf _ l3 _, ftp := hf _ l4 _, fts := hf _ l5 _, fch := far_nil.2, fot := far_nil.1
    low := Nat.le_trans hlow (Nat.le_trans BV.size (Nat.le_trans S.g.size g.size)) }, only_bel (bel_trans BV S.g) g (Nat.le_refl _), b3, by omega, rfl, fun i hi => row_cell n3 (hA i hi)⟩
set_option maxRecDepth 100000 in
set_option maxHeartbeats 16000000 in
theorem refNew6_yes (n : Int) (sz : Nat) (w : World) (h2 : 2 ≤ n) (h32 : n ≤ 32) (hs : M5.MaySize sz) (hlow : Far.B ≤ w.heap.size) :
    Calls Tryz.prog 12 #[.int .i64 n, .int .i64 sz] w fun e w' => ∃ q, e = .returned (.tuple #[.agg (rrow q), .int .i64 0]) ∧ RefAt w' q (mnew n sz) 0 ∧ q.fs = .slice none 0 0 ∧ NewMs w w' q sz ∧ Below w.heap.size w w' := by
  have HS := Lib.hid hs
  have HLOW := Lib.hid hlow
  clear hlow
  have hmk1 : ∀ W, _ := fun W => run_make_row' (P := Tryz.prog) 29 5 (.int .u8 0) 1 Tryz.underlying29 M5.byte_parts rfl .i64 .i64 sz (by have := hs.2.1; omega) (by have := hs.2.1; omega) W
  have hmk2 : ∀ W, (Instr.makeSlice 25 (.int .i64 17) (.int .i64 17)).run Tryz.prog W = .ok (.slice (some ⟨W.heap.size, 0, none⟩) 17 17) (W.alloc (.cells (madeCells #[.int .u32 0] 17) 22)) := fun W => run_make_row' (P := Tryz.prog) 25 22 (.int .u32 0) 4 Tryz.underlying25 u32_parts rfl .i64 .i64 17 (by omega) (by omega) W
  have HA := Lib.hid (madeC_at .u8 sz)
  have HB := Lib.hid (madeC_at .u32 17)
  generalize madeCells #[Value.int .u8 0] sz = A8 at hmk1 HA
  generalize madeCells #[Value.int .u32 0] 17 = A32 at hmk2 HB
  clear hs
  go_enter Tryz.func12, Tryz.ntmps12
  go_wp2_with (refine q_alloc rfl (some 4) rfl (by kernel_rfl) ?_; intro V r1 b1 s1)
  refine (F3.refNew_at n V h2 h32).mono ?_; rintro e w2 ⟨rfl, g2⟩
  have R2 := Lib.hid (r1.out.bel g2)
  have B2 := Lib.hid (bel_trans b1 g2)
  clear r1 b1 g2
  go_wp2_with fail
  refine (M5.rmay_yes sz _ HS.out).mono ?_; rintro e w3 ⟨rfl, rfl⟩
  go_upto_region 4 with (fail)
  have gx : Below w2.heap.size w2 (w2.alloc (.cells #[.int .i64 n, .slice none 0 0] 35)) := (Below.refl _ _).alloc (Nat.le_refl _) _
  have hf : Hid ((w2.alloc (.cells #[.int .i64 n, .slice none 0 0] 35)).heap[w2.heap.size]? = some (.cells #[.int .i64 n, .slice none 0 0] 35 (0, 0))) := heap_alloc_last _ _
  have R3 := Lib.hid (R2.out.bel gx)
  have B3 := Lib.hid (bel_trans B2.out gx)
  clear gx R2 B2
  generalize w2.alloc (.cells #[.int .i64 n, .slice none 0 0] 35) = V3 at *
  generalize w2.heap.size = f0 at hf ⊢
  have HL : Hid (w.heap.size < V3.heap.size) := R3.out.lt
  refine wp_region_any (by kernel_rfl) ?_
  change wpAny _ _ _ _ _ _ _ (World.drew _)
  have gd : Below V3.heap.size V3 V3.drew := Below.drew (Below.refl _ _)
  have S : Hid (NS V3 V3.drew w.heap.size) := ⟨R3.out.bel gd, gd⟩
  have c0 := bel_cell gd (row_cell hf.out (j := 0) (v := .int .i64 n) rfl)
  have c1 := bel_cell gd (row_cell hf.out (j := 1) (v := .slice none 0 0) rfl)
  clear gd hf
  generalize V3.drew = W at S c0 c1 ⊢
  refine wpAny_take (i := 0) (v := ?_) rfl (by kernel_rfl) (by kernel_rfl) (by kernel_rfl) (fun _ _ _ h => h) (Or.inl ⟨by rfl, ?_⟩) ?_
  rotate_left
  · (intro W; go_simp; try with_reducible rfl)
  refine wpAny_take (i := 2) (v := ?_) rfl (by kernel_rfl) (by kernel_rfl) (by kernel_rfl) (fun _ _ _ h => h) (Or.inl ⟨by rfl, ?_⟩) ?_
  rotate_left
  · (intro W; go_simp; try with_reducible rfl)
  refine wpAny_ready (rs := [1, 3, 4, 5]) (by kernel_rfl) (by simp) ?_
  refine AllReady.cons rfl (fun K hK => ?_) ?_
  ·
    go_simp
    refine hK _ _ ?_
    clear hK K
    refine wpAny_ready (rs := [3, 4, 5]) (by kernel_rfl) (by simp) ?_
    refine AllReady.cons rfl (fun K hK => ?_) ?_
    ·
      go_simp
      refine hK _ _ ?_
      clear hK K
      have gB := row_belK W A8 5
      have m3 := heap_alloc_last W (.cells A8 5)
      have l3 := S.out.g.size
      generalize W.alloc (.cells A8 5) = W1 at gB m3 ⊢
      replace c0 := bel_cell gB c0
      replace c1 := bel_cell gB c1
      replace S := Lib.hid (S.out.more gB)
      clear gB
      refine wpAny_ready (rs := [4, 5]) (by kernel_rfl) (by simp) ?_
      refine AllReady.cons rfl (fun K hK => ?_) ?_
      ·
        go_simp
        refine hK _ _ ?_
        clear hK K
        have gB := row_belK W1 A32 22
        have m4 := heap_alloc_last W1 (.cells A32 22)
        have l4 := S.out.g.size
        generalize W1.alloc (.cells A32 22) = W2 at gB m4 ⊢
        replace m3 := bel_heap gB m3
        replace c0 := bel_cell gB c0
        replace c1 := bel_cell gB c1
        replace S := Lib.hid (S.out.more gB)
        clear gB
        refine wpAny_ready (rs := [5]) (by kernel_rfl) (by simp) ?_
        refine AllReady.cons rfl (fun K hK => ?_) ?_
        ·
          go_simp
          refine hK _ _ ?_
          clear hK K
          have gB := row_belK W2 A32 22
          have m5 := heap_alloc_last W2 (.cells A32 22)
          have l5 := S.out.g.size
          generalize W2.alloc (.cells A32 22) = W3 at gB m5 ⊢
          replace m3 := bel_heap gB m3
          replace m4 := bel_heap gB m4
          replace c0 := bel_cell gB c0
          replace c1 := bel_cell gB c1
          replace S := Lib.hid (S.out.more gB)
          clear gB
          refine wpAny_take (i := 6) (v := ?_) rfl (by kernel_rfl) (by kernel_rfl) (by kernel_rfl) (fun _ _ _ h => h) (Or.inl ⟨by rfl, ?_⟩) ?_
          rotate_left
          · (intro W; go_simp; try with_reducible rfl)
          refine wpAny_ready (rs := [7]) (by kernel_rfl) (by simp) ?_
          refine AllReady.cons rfl (fun K hK => ?_) AllReady.nil
          refine step_whole rfl (.tmp 4) (.tmp 27) rfl w.heap.size rzero (qn n sz W.heap.size W1.heap.size W2.heap.size) rfl rfl S.out.row (qn_ok _ _ _ _ _) ?_
          intro V' r g
          refine hK _ _ ?_
          clear hK K
          refine wpAny_take (i := 8) (v := ?_) rfl (by kernel_rfl) (by kernel_rfl) (by kernel_rfl) (fun _ _ _ h => h) (Or.inl ⟨by rfl, ?_⟩) ?_
          rotate_left
          · (intro W; go_simp; try with_reducible rfl)
          refine wpAny_done (by kernel_rfl) ?_ _
          have X := Lib.hid (new_done (n := n) B3.out HL.out S.out HA.out HB.out HLOW.out m3 m4 m5 l3 l4 l5 g.out)
          clear g m3 m4 m5 l3 l4 l5 S c0 c1
          go_wp2_with fail
          exact q_ret2 rfl rfl r.out rfl ⟨_, rfl, X.out.1, rfl, X.out.2.2, X.out.2.1⟩
        exact AllReady.nil
      refine AllReady.cons rfl (fun K hK => ?_) ?_
      ·
        go_simp
        refine hK _ _ ?_
        clear hK K
        have gB := row_belK W1 A32 22
        have m5 := heap_alloc_last W1 (.cells A32 22)
        have l5 := S.out.g.size
        generalize W1.alloc (.cells A32 22) = W2 at gB m5 ⊢
        replace m3 := bel_heap gB m3
        replace c0 := bel_cell gB c0
        replace c1 := bel_cell gB c1
        replace S := Lib.hid (S.out.more gB)
        clear gB
        refine wpAny_ready (rs := [4]) (by kernel_rfl) (by simp) ?_
        refine AllReady.cons rfl (fun K hK => ?_) ?_
        ·
          go_simp
          refine hK _ _ ?_
          clear hK K
          have gB := row_belK W2 A32 22
          have m4 := heap_alloc_last W2 (.cells A32 22)
          have l4 := S.out.g.size
          generalize W2.alloc (.cells A32 22) = W3 at gB m4 ⊢
          replace m3 := bel_heap gB m3
          replace m5 := bel_heap gB m5
          replace c0 := bel_cell gB c0
          replace c1 := bel_cell gB c1
          replace S := Lib.hid (S.out.more gB)
          clear gB
          refine wpAny_take (i := 6) (v := ?_) rfl (by kernel_rfl) (by kernel_rfl) (by kernel_rfl) (fun _ _ _ h => h) (Or.inl ⟨by rfl, ?_⟩) ?_
          rotate_left
          · (intro W; go_simp; try with_reducible rfl)
          refine wpAny_ready (rs := [7]) (by kernel_rfl) (by simp) ?_
          refine AllReady.cons rfl (fun K hK => ?_) AllReady.nil
          refine step_whole rfl (.tmp 4) (.tmp 27) rfl w.heap.size rzero (qn n sz W.heap.size W2.heap.size W1.heap.size) rfl rfl S.out.row (qn_ok _ _ _ _ _) ?_
          intro V' r g
          refine hK _ _ ?_
          clear hK K
          refine wpAny_take (i := 8) (v := ?_) rfl (by kernel_rfl) (by kernel_rfl) (by kernel_rfl) (fun _ _ _ h => h) (Or.inl ⟨by rfl, ?_⟩) ?_
          rotate_left
          · (intro W; go_simp; try with_reducible rfl)
          refine wpAny_done (by kernel_rfl) ?_ _
          have X := Lib.hid (new_done (n := n) B3.out HL.out S.out HA.out HB.out HLOW.out m3 m4 m5 l3 l4 l5 g.out)
          clear g m3 m4 m5 l3 l4 l5 S c0 c1
          go_wp2_with fail
          exact q_ret2 rfl rfl r.out rfl ⟨_, rfl, X.out.1, rfl, X.out.2.2, X.out.2.1⟩
        exact AllReady.nil
      exact AllReady.nil
    refine AllReady.cons rfl (fun K hK => ?_) ?_
    ·
      go_simp
      refine hK _ _ ?_
      clear hK K
      have gB := row_belK W A32 22
      have m4 := heap_alloc_last W (.cells A32 22)
      have l4 := S.out.g.size
      generalize W.alloc (.cells A32 22) = W1 at gB m4 ⊢
      replace c0 := bel_cell gB c0
      replace c1 := bel_cell gB c1
      replace S := Lib.hid (S.out.more gB)
      clear gB
      refine wpAny_ready (rs := [3, 5]) (by kernel_rfl) (by simp) ?_
      refine AllReady.cons rfl (fun K hK => ?_) ?_
      ·
        go_simp
        refine hK _ _ ?_
        clear hK K
        have gB := row_belK W1 A8 5
        have m3 := heap_alloc_last W1 (.cells A8 5)
        have l3 := S.out.g.size
        generalize W1.alloc (.cells A8 5) = W2 at gB m3 ⊢
        replace m4 := bel_heap gB m4
        replace c0 := bel_cell gB c0
        replace c1 := bel_cell gB c1
        replace S := Lib.hid (S.out.more gB)
        clear gB
        refine wpAny_ready (rs := [5]) (by kernel_rfl) (by simp) ?_
        refine AllReady.cons rfl (fun K hK => ?_) ?_
        ·
          go_simp
          refine hK _ _ ?_
          clear hK K
          have gB := row_belK W2 A32 22
          have m5 := heap_alloc_last W2 (.cells A32 22)
          have l5 := S.out.g.size
          generalize W2.alloc (.cells A32 22) = W3 at gB m5 ⊢
          replace m4 := bel_heap gB m4
          replace m3 := bel_heap gB m3
          replace c0 := bel_cell gB c0
          replace c1 := bel_cell gB c1
          replace S := Lib.hid (S.out.more gB)
          clear gB
          refine wpAny_take (i := 6) (v := ?_) rfl (by kernel_rfl) (by kernel_rfl) (by kernel_rfl) (fun _ _ _ h => h) (Or.inl ⟨by rfl, ?_⟩) ?_
          rotate_left
          · (intro W; go_simp; try with_reducible rfl)
          refine wpAny_ready (rs := [7]) (by kernel_rfl) (by simp) ?_
          refine AllReady.cons rfl (fun K hK => ?_) AllReady.nil
          refine step_whole rfl (.tmp 4) (.tmp 27) rfl w.heap.size rzero (qn n sz W1.heap.size W.heap.size W2.heap.size) rfl rfl S.out.row (qn_ok _ _ _ _ _) ?_
          intro V' r g
          refine hK _ _ ?_
          clear hK K
          refine wpAny_take (i := 8) (v := ?_) rfl (by kernel_rfl) (by kernel_rfl) (by kernel_rfl) (fun _ _ _ h => h) (Or.inl ⟨by rfl, ?_⟩) ?_
          rotate_left
          · (intro W; go_simp; try with_reducible rfl)
          refine wpAny_done (by kernel_rfl) ?_ _
          have X := Lib.hid (new_done (n := n) B3.out HL.out S.out HA.out HB.out HLOW.out m3 m4 m5 l3 l4 l5 g.out)
          clear g m3 m4 m5 l3 l4 l5 S c0 c1
          go_wp2_with fail
          exact q_ret2 rfl rfl r.out rfl ⟨_, rfl, X.out.1, rfl, X.out.2.2, X.out.2.1⟩
        exact AllReady.nil
      refine AllReady.cons rfl (fun K hK => ?_) ?_
      ·
        go_simp
        refine hK _ _ ?_
        clear hK K
        have gB := row_belK W1 A32 22
        have m5 := heap_alloc_last W1 (.cells A32 22)
        have l5 := S.out.g.size
        generalize W1.alloc (.cells A32 22) = W2 at gB m5 ⊢
        replace m4 := bel_heap gB m4
        replace c0 := bel_cell gB c0
        replace c1 := bel_cell gB c1
        replace S := Lib.hid (S.out.more gB)
        clear gB
        refine wpAny_ready (rs := [3]) (by kernel_rfl) (by simp) ?_
        refine AllReady.cons rfl (fun K hK => ?_) ?_
        ·
          go_simp
          refine hK _ _ ?_
          clear hK K
          have gB := row_belK W2 A8 5
          have m3 := heap_alloc_last W2 (.cells A8 5)
          have l3 := S.out.g.size
          generalize W2.alloc (.cells A8 5) = W3 at gB m3 ⊢
          replace m4 := bel_heap gB m4
          replace m5 := bel_heap gB m5
          replace c0 := bel_cell gB c0
          replace c1 := bel_cell gB c1
          replace S := Lib.hid (S.out.more gB)
          clear gB
          refine wpAny_take (i := 6) (v := ?_) rfl (by kernel_rfl) (by kernel_rfl) (by kernel_rfl) (fun _ _ _ h => h) (Or.inl ⟨by rfl, ?_⟩) ?_
          rotate_left
          · (intro W; go_simp; try with_reducible rfl)
          refine wpAny_ready (rs := [7]) (by kernel_rfl) (by simp) ?_
          refine AllReady.cons rfl (fun K hK => ?_) AllReady.nil
          refine step_whole rfl (.tmp 4) (.tmp 27) rfl w.heap.size rzero (qn n sz W2.heap.size W.heap.size W1.heap.size) rfl rfl S.out.row (qn_ok _ _ _ _ _) ?_
          intro V' r g
          refine hK _ _ ?_
          clear hK K
          refine wpAny_take (i := 8) (v := ?_) rfl (by kernel_rfl) (by kernel_rfl) (by kernel_rfl) (fun _ _ _ h => h) (Or.inl ⟨by rfl, ?_⟩) ?_
          rotate_left
          · (intro W; go_simp; try with_reducible rfl)
          refine wpAny_done (by kernel_rfl) ?_ _
          have X := Lib.hid (new_done (n := n) B3.out HL.out S.out HA.out HB.out HLOW.out m3 m4 m5 l3 l4 l5 g.out)
          clear g m3 m4 m5 l3 l4 l5 S c0 c1
          go_wp2_with fail
          exact q_ret2 rfl rfl r.out rfl ⟨_, rfl, X.out.1, rfl, X.out.2.2, X.out.2.1⟩
        exact AllReady.nil
      exact AllReady.nil
    refine AllReady.cons rfl (fun K hK => ?_) ?_
    ·
      go_simp
      refine hK _ _ ?_
      clear hK K
      have gB := row_belK W A32 22
      have m5 := heap_alloc_last W (.cells A32 22)
      have l5 := S.out.g.size
      generalize W.alloc (.cells A32 22) = W1 at gB m5 ⊢
      replace c0 := bel_cell gB c0
      replace c1 := bel_cell gB c1
      replace S := Lib.hid (S.out.more gB)
      clear gB
      refine wpAny_ready (rs := [3, 4]) (by kernel_rfl) (by simp) ?_
      refine AllReady.cons rfl (fun K hK => ?_) ?_
      ·
        go_simp
        refine hK _ _ ?_
        clear hK K
        have gB := row_belK W1 A8 5
        have m3 := heap_alloc_last W1 (.cells A8 5)
        have l3 := S.out.g.size
        generalize W1.alloc (.cells A8 5) = W2 at gB m3 ⊢
        replace m5 := bel_heap gB m5
        replace c0 := bel_cell gB c0
        replace c1 := bel_cell gB c1
        replace S := Lib.hid (S.out.more gB)
        clear gB
        refine wpAny_ready (rs := [4]) (by kernel_rfl) (by simp) ?_
        refine AllReady.cons rfl (fun K hK => ?_) ?_
        ·
          go_simp
          refine hK _ _ ?_
          clear hK K
          have gB := row_belK W2 A32 22
          have m4 := heap_alloc_last W2 (.cells A32 22)
          have l4 := S.out.g.size
          generalize W2.alloc (.cells A32 22) = W3 at gB m4 ⊢
          replace m5 := bel_heap gB m5
          replace m3 := bel_heap gB m3
          replace c0 := bel_cell gB c0
          replace c1 := bel_cell gB c1
          replace S := Lib.hid (S.out.more gB)
          clear gB
          refine wpAny_take (i := 6) (v := ?_) rfl (by kernel_rfl) (by kernel_rfl) (by kernel_rfl) (fun _ _ _ h => h) (Or.inl ⟨by rfl, ?_⟩) ?_
          rotate_left
          · (intro W; go_simp; try with_reducible rfl)
          refine wpAny_ready (rs := [7]) (by kernel_rfl) (by simp) ?_
          refine AllReady.cons rfl (fun K hK => ?_) AllReady.nil
          refine step_whole rfl (.tmp 4) (.tmp 27) rfl w.heap.size rzero (qn n sz W1.heap.size W2.heap.size W.heap.size) rfl rfl S.out.row (qn_ok _ _ _ _ _) ?_
          intro V' r g
          refine hK _ _ ?_
          clear hK K
          refine wpAny_take (i := 8) (v := ?_) rfl (by kernel_rfl) (by kernel_rfl) (by kernel_rfl) (fun _ _ _ h => h) (Or.inl ⟨by rfl, ?_⟩) ?_
          rotate_left
          · (intro W; go_simp; try with_reducible rfl)
          refine wpAny_done (by kernel_rfl) ?_ _
          have X := Lib.hid (new_done (n := n) B3.out HL.out S.out HA.out HB.out HLOW.out m3 m4 m5 l3 l4 l5 g.out)
          clear g m3 m4 m5 l3 l4 l5 S c0 c1
          go_wp2_with fail
          exact q_ret2 rfl rfl r.out rfl ⟨_, rfl, X.out.1, rfl, X.out.2.2, X.out.2.1⟩
        exact AllReady.nil
      refine AllReady.cons rfl (fun K hK => ?_) ?_
      ·
        go_simp
        refine hK _ _ ?_
        clear hK K
        have gB := row_belK W1 A32 22
        have m4 := heap_alloc_last W1 (.cells A32 22)
        have l4 := S.out.g.size
        generalize W1.alloc (.cells A32 22) = W2 at gB m4 ⊢
        replace m5 := bel_heap gB m5
        replace c0 := bel_cell gB c0
        replace c1 := bel_cell gB c1
        replace S := Lib.hid (S.out.more gB)
        clear gB
        refine wpAny_ready (rs := [3]) (by kernel_rfl) (by simp) ?_
        refine AllReady.cons rfl (fun K hK => ?_) ?_
        ·
          go_simp
          refine hK _ _ ?_
          clear hK K
          have gB := row_belK W2 A8 5
          have m3 := heap_alloc_last W2 (.cells A8 5)
          have l3 := S.out.g.size
          generalize W2.alloc (.cells A8 5) = W3 at gB m3 ⊢
          replace m5 := bel_heap gB m5
          replace m4 := bel_heap gB m4
          replace c0 := bel_cell gB c0
          replace c1 := bel_cell gB c1
          replace S := Lib.hid (S.out.more gB)
          clear gB
          refine wpAny_take (i := 6) (v := ?_) rfl (by kernel_rfl) (by kernel_rfl) (by kernel_rfl) (fun _ _ _ h => h) (Or.inl ⟨by rfl, ?_⟩) ?_
          rotate_left
          · (intro W; go_simp; try with_reducible rfl)
          refine wpAny_ready (rs := [7]) (by kernel_rfl) (by simp) ?_
          refine AllReady.cons rfl (fun K hK => ?_) AllReady.nil
          refine step_whole rfl (.tmp 4) (.tmp 27) rfl w.heap.size rzero (qn n sz W2.heap.size W1.heap.size W.heap.size) rfl rfl S.out.row (qn_ok _ _ _ _ _) ?_
          intro V' r g
          refine hK _ _ ?_
          clear hK K
          refine wpAny_take (i := 8) (v := ?_) rfl (by kernel_rfl) (by kernel_rfl) (by kernel_rfl) (fun _ _ _ h => h) (Or.inl ⟨by rfl, ?_⟩) ?_
          rotate_left
          · (intro W; go_simp; try with_reducible rfl)
          refine wpAny_done (by kernel_rfl) ?_ _
          have X := Lib.hid (new_done (n := n) B3.out HL.out S.out HA.out HB.out HLOW.out m3 m4 m5 l3 l4 l5 g.out)
          clear g m3 m4 m5 l3 l4 l5 S c0 c1
          go_wp2_with fail
          exact q_ret2 rfl rfl r.out rfl ⟨_, rfl, X.out.1, rfl, X.out.2.2, X.out.2.1⟩
        exact AllReady.nil
      exact AllReady.nil
    exact AllReady.nil
  refine AllReady.cons rfl (fun K hK => ?_) ?_
  ·
    go_simp
    refine hK _ _ ?_
    clear hK K
    have gB := row_belK W A8 5
    have m3 := heap_alloc_last W (.cells A8 5)
    have l3 := S.out.g.size
    generalize W.alloc (.cells A8 5) = W1 at gB m3 ⊢
    replace c0 := bel_cell gB c0
    replace c1 := bel_cell gB c1
    replace S := Lib.hid (S.out.more gB)
    clear gB
    refine wpAny_ready (rs := [1, 4, 5]) (by kernel_rfl) (by simp) ?_
    refine AllReady.cons rfl (fun K hK => ?_) ?_
    ·
      go_simp
      refine hK _ _ ?_
      clear hK K
      refine wpAny_ready (rs := [4, 5]) (by kernel_rfl) (by simp) ?_
      refine AllReady.cons rfl (fun K hK => ?_) ?_
      ·
        go_simp
        refine hK _ _ ?_
        clear hK K
        have gB := row_belK W1 A32 22
        have m4 := heap_alloc_last W1 (.cells A32 22)
        have l4 := S.out.g.size
        generalize W1.alloc (.cells A32 22) = W2 at gB m4 ⊢
        replace m3 := bel_heap gB m3
        replace c0 := bel_cell gB c0
        replace c1 := bel_cell gB c1
        replace S := Lib.hid (S.out.more gB)
        clear gB
        refine wpAny_ready (rs := [5]) (by kernel_rfl) (by simp) ?_
        refine AllReady.cons rfl (fun K hK => ?_) ?_
        ·
          go_simp
          refine hK _ _ ?_
          clear hK K
          have gB := row_belK W2 A32 22
          have m5 := heap_alloc_last W2 (.cells A32 22)
          have l5 := S.out.g.size
          generalize W2.alloc (.cells A32 22) = W3 at gB m5 ⊢
          replace m3 := bel_heap gB m3
          replace m4 := bel_heap gB m4
          replace c0 := bel_cell gB c0
          replace c1 := bel_cell gB c1
          replace S := Lib.hid (S.out.more gB)
          clear gB
          refine wpAny_take (i := 6) (v := ?_) rfl (by kernel_rfl) (by kernel_rfl) (by kernel_rfl) (fun _ _ _ h => h) (Or.inl ⟨by rfl, ?_⟩) ?_
          rotate_left
          · (intro W; go_simp; try with_reducible rfl)
          refine wpAny_ready (rs := [7]) (by kernel_rfl) (by simp) ?_
          refine AllReady.cons rfl (fun K hK => ?_) AllReady.nil
          refine step_whole rfl (.tmp 4) (.tmp 27) rfl w.heap.size rzero (qn n sz W.heap.size W1.heap.size W2.heap.size) rfl rfl S.out.row (qn_ok _ _ _ _ _) ?_
          intro V' r g
          refine hK _ _ ?_
          clear hK K
          refine wpAny_take (i := 8) (v := ?_) rfl (by kernel_rfl) (by kernel_rfl) (by kernel_rfl) (fun _ _ _ h => h) (Or.inl ⟨by rfl, ?_⟩) ?_
          rotate_left
          · (intro W; go_simp; try with_reducible rfl)
          refine wpAny_done (by kernel_rfl) ?_ _
          have X := Lib.hid (new_done (n := n) B3.out HL.out S.out HA.out HB.out HLOW.out m3 m4 m5 l3 l4 l5 g.out)
          clear g m3 m4 m5 l3 l4 l5 S c0 c1
          go_wp2_with fail
          exact q_ret2 rfl rfl r.out rfl ⟨_, rfl, X.out.1, rfl, X.out.2.2, X.out.2.1⟩
        exact AllReady.nil
      refine AllReady.cons rfl (fun K hK => ?_) ?_
      ·
        go_simp
        refine hK _ _ ?_
        clear hK K
        have gB := row_belK W1 A32 22
        have m5 := heap_alloc_last W1 (.cells A32 22)
        have l5 := S.out.g.size
        generalize W1.alloc (.cells A32 22) = W2 at gB m5 ⊢
        replace m3 := bel_heap gB m3
        replace c0 := bel_cell gB c0
        replace c1 := bel_cell gB c1
        replace S := Lib.hid (S.out.more gB)
        clear gB
        refine wpAny_ready (rs := [4]) (by kernel_rfl) (by simp) ?_
        refine AllReady.cons rfl (fun K hK => ?_) ?_
        ·
          go_simp
          refine hK _ _ ?_
          clear hK K
          have gB := row_belK W2 A32 22
          have m4 := heap_alloc_last W2 (.cells A32 22)
          have l4 := S.out.g.size
          generalize W2.alloc (.cells A32 22) = W3 at gB m4 ⊢
          replace m3 := bel_heap gB m3
          replace m5 := bel_heap gB m5
          replace c0 := bel_cell gB c0
          replace c1 := bel_cell gB c1
          replace S := Lib.hid (S.out.more gB)
          clear gB
          refine wpAny_take (i := 6) (v := ?_) rfl (by kernel_rfl) (by kernel_rfl) (by kernel_rfl) (fun _ _ _ h => h) (Or.inl ⟨by rfl, ?_⟩) ?_
          rotate_left
          · (intro W; go_simp; try with_reducible rfl)
          refine wpAny_ready (rs := [7]) (by kernel_rfl) (by simp) ?_
          refine AllReady.cons rfl (fun K hK => ?_) AllReady.nil
          refine step_whole rfl (.tmp 4) (.tmp 27) rfl w.heap.size rzero (qn n sz W.heap.size W2.heap.size W1.heap.size) rfl rfl S.out.row (qn_ok _ _ _ _ _) ?_
          intro V' r g
          refine hK _ _ ?_
          clear hK K
          refine wpAny_take (i := 8) (v := ?_) rfl (by kernel_rfl) (by kernel_rfl) (by kernel_rfl) (fun _ _ _ h => h) (Or.inl ⟨by rfl, ?_⟩) ?_
          rotate_left
          · (intro W; go_simp; try with_reducible rfl)
          refine wpAny_done (by kernel_rfl) ?_ _
          have X := Lib.hid (new_done (n := n) B3.out HL.out S.out HA.out HB.out HLOW.out m3 m4 m5 l3 l4 l5 g.out)
          clear g m3 m4 m5 l3 l4 l5 S c0 c1
          go_wp2_with fail
          exact q_ret2 rfl rfl r.out rfl ⟨_, rfl, X.out.1, rfl, X.out.2.2, X.out.2.1⟩
        exact AllReady.nil
      exact AllReady.nil
    refine AllReady.cons rfl (fun K hK => ?_) ?_
    ·
      go_simp
      refine hK _ _ ?_
      clear hK K
      have gB := row_belK W1 A32 22
      have m4 := heap_alloc_last W1 (.cells A32 22)
      have l4 := S.out.g.size
      generalize W1.alloc (.cells A32 22) = W2 at gB m4 ⊢
      replace m3 := bel_heap gB m3
      replace c0 := bel_cell gB c0
      replace c1 := bel_cell gB c1
      replace S := Lib.hid (S.out.more gB)
      clear gB
      refine wpAny_ready (rs := [1, 5]) (by kernel_rfl) (by simp) ?_
      refine AllReady.cons rfl (fun K hK => ?_) ?_
      ·
        go_simp
        refine hK _ _ ?_
        clear hK K
        refine wpAny_ready (rs := [5]) (by kernel_rfl) (by simp) ?_
        refine AllReady.cons rfl (fun K hK => ?_) ?_
        ·
          go_simp
          refine hK _ _ ?_
          clear hK K
          have gB := row_belK W2 A32 22
          have m5 := heap_alloc_last W2 (.cells A32 22)
          have l5 := S.out.g.size
          generalize W2.alloc (.cells A32 22) = W3 at gB m5 ⊢
          replace m3 := bel_heap gB m3
          replace m4 := bel_heap gB m4
          replace c0 := bel_cell gB c0
          replace c1 := bel_cell gB c1
          replace S := Lib.hid (S.out.more gB)
          clear gB
          refine wpAny_take (i := 6) (v := ?_) rfl (by kernel_rfl) (by kernel_rfl) (by kernel_rfl) (fun _ _ _ h => h) (Or.inl ⟨by rfl, ?_⟩) ?_
          rotate_left
          · (intro W; go_simp; try with_reducible rfl)
          refine wpAny_ready (rs := [7]) (by kernel_rfl) (by simp) ?_
          refine AllReady.cons rfl (fun K hK => ?_) AllReady.nil
          refine step_whole rfl (.tmp 4) (.tmp 27) rfl w.heap.size rzero (qn n sz W.heap.size W1.heap.size W2.heap.size) rfl rfl S.out.row (qn_ok _ _ _ _ _) ?_
          intro V' r g
          refine hK _ _ ?_
          clear hK K
          refine wpAny_take (i := 8) (v := ?_) rfl (by kernel_rfl) (by kernel_rfl) (by kernel_rfl) (fun _ _ _ h => h) (Or.inl ⟨by rfl, ?_⟩) ?_
          rotate_left
          · (intro W; go_simp; try with_reducible rfl)
          refine wpAny_done (by kernel_rfl) ?_ _
          have X := Lib.hid (new_done (n := n) B3.out HL.out S.out HA.out HB.out HLOW.out m3 m4 m5 l3 l4 l5 g.out)
          clear g m3 m4 m5 l3 l4 l5 S c0 c1
          go_wp2_with fail
          exact q_ret2 rfl rfl r.out rfl ⟨_, rfl, X.out.1, rfl, X.out.2.2, X.out.2.1⟩
        exact AllReady.nil
      refine AllReady.cons rfl (fun K hK => ?_) ?_
      ·
        go_simp
        refine hK _ _ ?_
        clear hK K
        have gB := row_belK W2 A32 22
        have m5 := heap_alloc_last W2 (.cells A32 22)
        have l5 := S.out.g.size
        generalize W2.alloc (.cells A32 22) = W3 at gB m5 ⊢
        replace m3 := bel_heap gB m3
        replace m4 := bel_heap gB m4
        replace c0 := bel_cell gB c0
        replace c1 := bel_cell gB c1
        replace S := Lib.hid (S.out.more gB)
        clear gB
        refine wpAny_ready (rs := [1]) (by kernel_rfl) (by simp) ?_
        refine AllReady.cons rfl (fun K hK => ?_) ?_
        ·
          go_simp
          refine hK _ _ ?_
          clear hK K
          refine wpAny_take (i := 6) (v := ?_) rfl (by kernel_rfl) (by kernel_rfl) (by kernel_rfl) (fun _ _ _ h => h) (Or.inl ⟨by rfl, ?_⟩) ?_
          rotate_left
          · (intro W; go_simp; try with_reducible rfl)
          refine wpAny_ready (rs := [7]) (by kernel_rfl) (by simp) ?_
          refine AllReady.cons rfl (fun K hK => ?_) AllReady.nil
          refine step_whole rfl (.tmp 4) (.tmp 27) rfl w.heap.size rzero (qn n sz W.heap.size W1.heap.size W2.heap.size) rfl rfl S.out.row (qn_ok _ _ _ _ _) ?_
          intro V' r g
          refine hK _ _ ?_
          clear hK K
          refine wpAny_take (i := 8) (v := ?_) rfl (by kernel_rfl) (by kernel_rfl) (by kernel_rfl) (fun _ _ _ h => h) (Or.inl ⟨by rfl, ?_⟩) ?_
          rotate_left
          · (intro W; go_simp; try with_reducible rfl)
          refine wpAny_done (by kernel_rfl) ?_ _
          have X := Lib.hid (new_done (n := n) B3.out HL.out S.out HA.out HB.out HLOW.out m3 m4 m5 l3 l4 l5 g.out)
          clear g m3 m4 m5 l3 l4 l5 S c0 c1
          go_wp2_with fail
          exact q_ret2 rfl rfl r.out rfl ⟨_, rfl, X.out.1, rfl, X.out.2.2, X.out.2.1⟩
        exact AllReady.nil
      exact AllReady.nil
    refine AllReady.cons rfl (fun K hK => ?_) ?_
    ·
      go_simp
      refine hK _ _ ?_
      clear hK K
      have gB := row_belK W1 A32 22
      have m5 := heap_alloc_last W1 (.cells A32 22)
      have l5 := S.out.g.size
      generalize W1.alloc (.cells A32 22) = W2 at gB m5 ⊢
      replace m3 := bel_heap gB m3
      replace c0 := bel_cell gB c0
      replace c1 := bel_cell gB c1
      replace S := Lib.hid (S.out.more gB)
      clear gB
      refine wpAny_ready (rs := [1, 4]) (by kernel_rfl) (by simp) ?_
      refine AllReady.cons rfl (fun K hK => ?_) ?_
      ·
        go_simp
        refine hK _ _ ?_
        clear hK K
        refine wpAny_ready (rs := [4]) (by kernel_rfl) (by simp) ?_
        refine AllReady.cons rfl (fun K hK => ?_) ?_
        ·
          go_simp
          refine hK _ _ ?_
          clear hK K
          have gB := row_belK W2 A32 22
          have m4 := heap_alloc_last W2 (.cells A32 22)
          have l4 := S.out.g.size
          generalize W2.alloc (.cells A32 22) = W3 at gB m4 ⊢
          replace m3 := bel_heap gB m3
          replace m5 := bel_heap gB m5
          replace c0 := bel_cell gB c0
          replace c1 := bel_cell gB c1
          replace S := Lib.hid (S.out.more gB)
          clear gB
          refine wpAny_take (i := 6) (v := ?_) rfl (by kernel_rfl) (by kernel_rfl) (by kernel_rfl) (fun _ _ _ h => h) (Or.inl ⟨by rfl, ?_⟩) ?_
          rotate_left
          · (intro W; go_simp; try with_reducible rfl)
          refine wpAny_ready (rs := [7]) (by kernel_rfl) (by simp) ?_
          refine AllReady.cons rfl (fun K hK => ?_) AllReady.nil
          refine step_whole rfl (.tmp 4) (.tmp 27) rfl w.heap.size rzero (qn n sz W.heap.size W2.heap.size W1.heap.size) rfl rfl S.out.row (qn_ok _ _ _ _ _) ?_
          intro V' r g
          refine hK _ _ ?_
          clear hK K
          refine wpAny_take (i := 8) (v := ?_) rfl (by kernel_rfl) (by kernel_rfl) (by kernel_rfl) (fun _ _ _ h => h) (Or.inl ⟨by rfl, ?_⟩) ?_
          rotate_left
          · (intro W; go_simp; try with_reducible rfl)
          refine wpAny_done (by kernel_rfl) ?_ _
          have X := Lib.hid (new_done (n := n) B3.out HL.out S.out HA.out HB.out HLOW.out m3 m4 m5 l3 l4 l5 g.out)
          clear g m3 m4 m5 l3 l4 l5 S c0 c1
          go_wp2_with fail
          exact q_ret2 rfl rfl r.out rfl ⟨_, rfl, X.out.1, rfl, X.out.2.2, X.out.2.1⟩
        exact AllReady.nil
      refine AllReady.cons rfl (fun K hK => ?_) ?_
      ·
        go_simp
        refine hK _ _ ?_
        clear hK K
        have gB := row_belK W2 A32 22
        have m4 := heap_alloc_last W2 (.cells A32 22)
        have l4 := S.out.g.size
        generalize W2.alloc (.cells A32 22) = W3 at gB m4 ⊢
        replace m3 := bel_heap gB m3
        replace m5 := bel_heap gB m5
        replace c0 := bel_cell gB c0
        replace c1 := bel_cell gB c1
        replace S := Lib.hid (S.out.more gB)
        clear gB
        refine wpAny_ready (rs := [1]) (by kernel_rfl) (by simp) ?_
        refine AllReady.cons rfl (fun K hK => ?_) ?_
        ·
          go_simp
          refine hK _ _ ?_
          clear hK K
          refine wpAny_take (i := 6) (v := ?_) rfl (by kernel_rfl) (by kernel_rfl) (by kernel_rfl) (fun _ _ _ h => h) (Or.inl ⟨by rfl, ?_⟩) ?_
          rotate_left
          · (intro W; go_simp; try with_reducible rfl)
          refine wpAny_ready (rs := [7]) (by kernel_rfl) (by simp) ?_
          refine AllReady.cons rfl (fun K hK => ?_) AllReady.nil
          refine step_whole rfl (.tmp 4) (.tmp 27) rfl w.heap.size rzero (qn n sz W.heap.size W2.heap.size W1.heap.size) rfl rfl S.out.row (qn_ok _ _ _ _ _) ?_
          intro V' r g
          refine hK _ _ ?_
          clear hK K
          refine wpAny_take (i := 8) (v := ?_) rfl (by kernel_rfl) (by kernel_rfl) (by kernel_rfl) (fun _ _ _ h => h) (Or.inl ⟨by rfl, ?_⟩) ?_
          rotate_left
          · (intro W; go_simp; try with_reducible rfl)
          refine wpAny_done (by kernel_rfl) ?_ _
          have X := Lib.hid (new_done (n := n) B3.out HL.out S.out HA.out HB.out HLOW.out m3 m4 m5 l3 l4 l5 g.out)
          clear g m3 m4 m5 l3 l4 l5 S c0 c1
          go_wp2_with fail
          exact q_ret2 rfl rfl r.out rfl ⟨_, rfl, X.out.1, rfl, X.out.2.2, X.out.2.1⟩
        exact AllReady.nil
      exact AllReady.nil
    exact AllReady.nil
  refine AllReady.cons rfl (fun K hK => ?_) ?_
  ·
    go_simp
    refine hK _ _ ?_
    clear hK K
    have gB := row_belK W A32 22
    have m4 := heap_alloc_last W (.cells A32 22)
    have l4 := S.out.g.size
    generalize W.alloc (.cells A32 22) = W1 at gB m4 ⊢
    replace c0 := bel_cell gB c0
    replace c1 := bel_cell gB c1
    replace S := Lib.hid (S.out.more gB)
    clear gB
    refine wpAny_ready (rs := [1, 3, 5]) (by kernel_rfl) (by simp) ?_
    refine AllReady.cons rfl (fun K hK => ?_) ?_
    ·
      go_simp
      refine hK _ _ ?_
      clear hK K
      refine wpAny_ready (rs := [3, 5]) (by kernel_rfl) (by simp) ?_
      refine AllReady.cons rfl (fun K hK => ?_) ?_
      ·
        go_simp
        refine hK _ _ ?_
        clear hK K
        have gB := row_belK W1 A8 5
        have m3 := heap_alloc_last W1 (.cells A8 5)
        have l3 := S.out.g.size
        generalize W1.alloc (.cells A8 5) = W2 at gB m3 ⊢
        replace m4 := bel_heap gB m4
        replace c0 := bel_cell gB c0
        replace c1 := bel_cell gB c1
        replace S := Lib.hid (S.out.more gB)
        clear gB
        refine wpAny_ready (rs := [5]) (by kernel_rfl) (by simp) ?_
        refine AllReady.cons rfl (fun K hK => ?_) ?_
        ·
          go_simp
          refine hK _ _ ?_
          clear hK K
          have gB := row_belK W2 A32 22
          have m5 := heap_alloc_last W2 (.cells A32 22)
          have l5 := S.out.g.size
          generalize W2.alloc (.cells A32 22) = W3 at gB m5 ⊢
          replace m4 := bel_heap gB m4
          replace m3 := bel_heap gB m3
          replace c0 := bel_cell gB c0
          replace c1 := bel_cell gB c1
          replace S := Lib.hid (S.out.more gB)
          clear gB
          refine wpAny_take (i := 6) (v := ?_) rfl (by kernel_rfl) (by kernel_rfl) (by kernel_rfl) (fun _ _ _ h => h) (Or.inl ⟨by rfl, ?_⟩) ?_
          rotate_left
          · (intro W; go_simp; try with_reducible rfl)
          refine wpAny_ready (rs := [7]) (by kernel_rfl) (by simp) ?_
          refine AllReady.cons rfl (fun K hK => ?_) AllReady.nil
          refine step_whole rfl (.tmp 4) (.tmp 27) rfl w.heap.size rzero (qn n sz W1.heap.size W.heap.size W2.heap.size) rfl rfl S.out.row (qn_ok _ _ _ _ _) ?_
          intro V' r g
          refine hK _ _ ?_
          clear hK K
          refine wpAny_take (i := 8) (v := ?_) rfl (by kernel_rfl) (by kernel_rfl) (by kernel_rfl) (fun _ _ _ h => h) (Or.inl ⟨by rfl, ?_⟩) ?_
          rotate_left
          · (intro W; go_simp; try with_reducible rfl)
          refine wpAny_done (by kernel_rfl) ?_ _
          have X := Lib.hid (new_done (n := n) B3.out HL.out S.out HA.out HB.out HLOW.out m3 m4 m5 l3 l4 l5 g.out)
          clear g m3 m4 m5 l3 l4 l5 S c0 c1
          go_wp2_with fail
          exact q_ret2 rfl rfl r.out rfl ⟨_, rfl, X.out.1, rfl, X.out.2.2, X.out.2.1⟩
        exact AllReady.nil
      refine AllReady.cons rfl (fun K hK => ?_) ?_
      ·
        go_simp
        refine hK _ _ ?_
        clear hK K
        have gB := row_belK W1 A32 22
        have m5 := heap_alloc_last W1 (.cells A32 22)
        have l5 := S.out.g.size
        generalize W1.alloc (.cells A32 22) = W2 at gB m5 ⊢
        replace m4 := bel_heap gB m4
        replace c0 := bel_cell gB c0
        replace c1 := bel_cell gB c1
        replace S := Lib.hid (S.out.more gB)
        clear gB
        refine wpAny_ready (rs := [3]) (by kernel_rfl) (by simp) ?_
        refine AllReady.cons rfl (fun K hK => ?_) ?_
        ·
          go_simp
          refine hK _ _ ?_
          clear hK K
          have gB := row_belK W2 A8 5
          have m3 := heap_alloc_last W2 (.cells A8 5)
          have l3 := S.out.g.size
          generalize W2.alloc (.cells A8 5) = W3 at gB m3 ⊢
          replace m4 := bel_heap gB m4
          replace m5 := bel_heap gB m5
          replace c0 := bel_cell gB c0
          replace c1 := bel_cell gB c1
          replace S := Lib.hid (S.out.more gB)
          clear gB
          refine wpAny_take (i := 6) (v := ?_) rfl (by kernel_rfl) (by kernel_rfl) (by kernel_rfl) (fun _ _ _ h => h) (Or.inl ⟨by rfl, ?_⟩) ?_
          rotate_left
          · (intro W; go_simp; try with_reducible rfl)
          refine wpAny_ready (rs := [7]) (by kernel_rfl) (by simp) ?_
          refine AllReady.cons rfl (fun K hK => ?_) AllReady.nil
          refine step_whole rfl (.tmp 4) (.tmp 27) rfl w.heap.size rzero (qn n sz W2.heap.size W.heap.size W1.heap.size) rfl rfl S.out.row (qn_ok _ _ _ _ _) ?_
          intro V' r g
          refine hK _ _ ?_
          clear hK K
          refine wpAny_take (i := 8) (v := ?_) rfl (by kernel_rfl) (by kernel_rfl) (by kernel_rfl) (fun _ _ _ h => h) (Or.inl ⟨by rfl, ?_⟩) ?_
          rotate_left
          · (intro W; go_simp; try with_reducible rfl)
          refine wpAny_done (by kernel_rfl) ?_ _
          have X := Lib.hid (new_done (n := n) B3.out HL.out S.out HA.out HB.out HLOW.out m3 m4 m5 l3 l4 l5 g.out)
          clear g m3 m4 m5 l3 l4 l5 S c0 c1
          go_wp2_with fail
          exact q_ret2 rfl rfl r.out rfl ⟨_, rfl, X.out.1, rfl, X.out.2.2, X.out.2.1⟩
        exact AllReady.nil
      exact AllReady.nil
    refine AllReady.cons rfl (fun K hK => ?_) ?_
    ·
      go_simp
      refine hK _ _ ?_
      clear hK K
      have gB := row_belK W1 A8 5
      have m3 := heap_alloc_last W1 (.cells A8 5)
      have l3 := S.out.g.size
      generalize W1.alloc (.cells A8 5) = W2 at gB m3 ⊢
      replace m4 := bel_heap gB m4
      replace c0 := bel_cell gB c0
      replace c1 := bel_cell gB c1
      replace S := Lib.hid (S.out.more gB)
      clear gB
      refine wpAny_ready (rs := [1, 5]) (by kernel_rfl) (by simp) ?_
      refine AllReady.cons rfl (fun K hK => ?_) ?_
      ·
        go_simp
        refine hK _ _ ?_
        clear hK K
        refine wpAny_ready (rs := [5]) (by kernel_rfl) (by simp) ?_
        refine AllReady.cons rfl (fun K hK => ?_) ?_
        ·
          go_simp
          refine hK _ _ ?_
          clear hK K
          have gB := row_belK W2 A32 22
          have m5 := heap_alloc_last W2 (.cells A32 22)
          have l5 := S.out.g.size
          generalize W2.alloc (.cells A32 22) = W3 at gB m5 ⊢
          replace m4 := bel_heap gB m4
          replace m3 := bel_heap gB m3
          replace c0 := bel_cell gB c0
          replace c1 := bel_cell gB c1
          replace S := Lib.hid (S.out.more gB)
          clear gB
          refine wpAny_take (i := 6) (v := ?_) rfl (by kernel_rfl) (by kernel_rfl) (by kernel_rfl) (fun _ _ _ h => h) (Or.inl ⟨by rfl, ?_⟩) ?_
          rotate_left
          · (intro W; go_simp; try with_reducible rfl)
          refine wpAny_ready (rs := [7]) (by kernel_rfl) (by simp) ?_
          refine AllReady.cons rfl (fun K hK => ?_) AllReady.nil
          refine step_whole rfl (.tmp 4) (.tmp 27) rfl w.heap.size rzero (qn n sz W1.heap.size W.heap.size W2.heap.size) rfl rfl S.out.row (qn_ok _ _ _ _ _) ?_
          intro V' r g
          refine hK _ _ ?_
          clear hK K
          refine wpAny_take (i := 8) (v := ?_) rfl (by kernel_rfl) (by kernel_rfl) (by kernel_rfl) (fun _ _ _ h => h) (Or.inl ⟨by rfl, ?_⟩) ?_
          rotate_left
          · (intro W; go_simp; try with_reducible rfl)
          refine wpAny_done (by kernel_rfl) ?_ _
          have X := Lib.hid (new_done (n := n) B3.out HL.out S.out HA.out HB.out HLOW.out m3 m4 m5 l3 l4 l5 g.out)
          clear g m3 m4 m5 l3 l4 l5 S c0 c1
          go_wp2_with fail
          exact q_ret2 rfl rfl r.out rfl ⟨_, rfl, X.out.1, rfl, X.out.2.2, X.out.2.1⟩
        exact AllReady.nil
      refine AllReady.cons rfl (fun K hK => ?_) ?_
      ·
        go_simp
        refine hK _ _ ?_
        clear hK K
        have gB := row_belK W2 A32 22
        have m5 := heap_alloc_last W2 (.cells A32 22)
        have l5 := S.out.g.size
        generalize W2.alloc (.cells A32 22) = W3 at gB m5 ⊢
        replace m4 := bel_heap gB m4
        replace m3 := bel_heap gB m3
        replace c0 := bel_cell gB c0
        replace c1 := bel_cell gB c1
        replace S := Lib.hid (S.out.more gB)
        clear gB
        refine wpAny_ready (rs := [1]) (by kernel_rfl) (by simp) ?_
        refine AllReady.cons rfl (fun K hK => ?_) ?_
        ·
          go_simp
          refine hK _ _ ?_
          clear hK K
          refine wpAny_take (i := 6) (v := ?_) rfl (by kernel_rfl) (by kernel_rfl) (by kernel_rfl) (fun _ _ _ h => h) (Or.inl ⟨by rfl, ?_⟩) ?_
          rotate_left
          · (intro W; go_simp; try with_reducible rfl)
          refine wpAny_ready (rs := [7]) (by kernel_rfl) (by simp) ?_
          refine AllReady.cons rfl (fun K hK => ?_) AllReady.nil
          refine step_whole rfl (.tmp 4) (.tmp 27) rfl w.heap.size rzero (qn n sz W1.heap.size W.heap.size W2.heap.size) rfl rfl S.out.row (qn_ok _ _ _ _ _) ?_
          intro V' r g
          refine hK _ _ ?_
          clear hK K
          refine wpAny_take (i := 8) (v := ?_) rfl (by kernel_rfl) (by kernel_rfl) (by kernel_rfl) (fun _ _ _ h => h) (Or.inl ⟨by rfl, ?_⟩) ?_
          rotate_left
          · (intro W; go_simp; try with_reducible rfl)
          refine wpAny_done (by kernel_rfl) ?_ _
          have X := Lib.hid (new_done (n := n) B3.out HL.out S.out HA.out HB.out HLOW.out m3 m4 m5 l3 l4 l5 g.out)
          clear g m3 m4 m5 l3 l4 l5 S c0 c1
          go_wp2_with fail
          exact q_ret2 rfl rfl r.out rfl ⟨_, rfl, X.out.1, rfl, X.out.2.2, X.out.2.1⟩
        exact AllReady.nil
      exact AllReady.nil
    refine AllReady.cons rfl (fun K hK => ?_) ?_
    ·
      go_simp
      refine hK _ _ ?_
      clear hK K
      have gB := row_belK W1 A32 22
      have m5 := heap_alloc_last W1 (.cells A32 22)
      have l5 := S.out.g.size
      generalize W1.alloc (.cells A32 22) = W2 at gB m5 ⊢
      replace m4 := bel_heap gB m4
      replace c0 := bel_cell gB c0
      replace c1 := bel_cell gB c1
      replace S := Lib.hid (S.out.more gB)
      clear gB
      refine wpAny_ready (rs := [1, 3]) (by kernel_rfl) (by simp) ?_
      refine AllReady.cons rfl (fun K hK => ?_) ?_
      ·
        go_simp
        refine hK _ _ ?_
        clear hK K
        refine wpAny_ready (rs := [3]) (by kernel_rfl) (by simp) ?_
        refine AllReady.cons rfl (fun K hK => ?_) ?_
        ·
          go_simp
          refine hK _ _ ?_
          clear hK K
          have gB := row_belK W2 A8 5
          have m3 := heap_alloc_last W2 (.cells A8 5)
          have l3 := S.out.g.size
          generalize W2.alloc (.cells A8 5) = W3 at gB m3 ⊢
          replace m4 := bel_heap gB m4
          replace m5 := bel_heap gB m5
          replace c0 := bel_cell gB c0
          replace c1 := bel_cell gB c1
          replace S := Lib.hid (S.out.more gB)
          clear gB
          refine wpAny_take (i := 6) (v := ?_) rfl (by kernel_rfl) (by kernel_rfl) (by kernel_rfl) (fun _ _ _ h => h) (Or.inl ⟨by rfl, ?_⟩) ?_
          rotate_left
          · (intro W; go_simp; try with_reducible rfl)
          refine wpAny_ready (rs := [7]) (by kernel_rfl) (by simp) ?_
          refine AllReady.cons rfl (fun K hK => ?_) AllReady.nil
          refine step_whole rfl (.tmp 4) (.tmp 27) rfl w.heap.size rzero (qn n sz W2.heap.size W.heap.size W1.heap.size) rfl rfl S.out.row (qn_ok _ _ _ _ _) ?_
          intro V' r g
          refine hK _ _ ?_
          clear hK K
          refine wpAny_take (i := 8) (v := ?_) rfl (by kernel_rfl) (by kernel_rfl) (by kernel_rfl) (fun _ _ _ h => h) (Or.inl ⟨by rfl, ?_⟩) ?_
          rotate_left
          · (intro W; go_simp; try with_reducible rfl)
          refine wpAny_done (by kernel_rfl) ?_ _
          have X := Lib.hid (new_done (n := n) B3.out HL.out S.out HA.out HB.out HLOW.out m3 m4 m5 l3 l4 l5 g.out)
          clear g m3 m4 m5 l3 l4 l5 S c0 c1
          go_wp2_with fail
          exact q_ret2 rfl rfl r.out rfl ⟨_, rfl, X.out.1, rfl, X.out.2.2, X.out.2.1⟩
        exact AllReady.nil
      refine AllReady.cons rfl (fun K hK => ?_) ?_
      ·
        go_simp
        refine hK _ _ ?_
        clear hK K
        have gB := row_belK W2 A8 5
        have m3 := heap_alloc_last W2 (.cells A8 5)
        have l3 := S.out.g.size
        generalize W2.alloc (.cells A8 5) = W3 at gB m3 ⊢
        replace m4 := bel_heap gB m4
        replace m5 := bel_heap gB m5
        replace c0 := bel_cell gB c0
        replace c1 := bel_cell gB c1
        replace S := Lib.hid (S.out.more gB)
        clear gB
        refine wpAny_ready (rs := [1]) (by kernel_rfl) (by simp) ?_
        refine AllReady.cons rfl (fun K hK => ?_) ?_
        ·
          go_simp
          refine hK _ _ ?_
          clear hK K
          refine wpAny_take (i := 6) (v := ?_) rfl (by kernel_rfl) (by kernel_rfl) (by kernel_rfl) (fun _ _ _ h => h) (Or.inl ⟨by rfl, ?_⟩) ?_
          rotate_left
          · (intro W; go_simp; try with_reducible rfl)
          refine wpAny_ready (rs := [7]) (by kernel_rfl) (by simp) ?_
          refine AllReady.cons rfl (fun K hK => ?_) AllReady.nil
          refine step_whole rfl (.tmp 4) (.tmp 27) rfl w.heap.size rzero (qn n sz W2.heap.size W.heap.size W1.heap.size) rfl rfl S.out.row (qn_ok _ _ _ _ _) ?_
          intro V' r g
          refine hK _ _ ?_
          clear hK K
          refine wpAny_take (i := 8) (v := ?_) rfl (by kernel_rfl) (by kernel_rfl) (by kernel_rfl) (fun _ _ _ h => h) (Or.inl ⟨by rfl, ?_⟩) ?_
          rotate_left
          · (intro W; go_simp; try with_reducible rfl)
          refine wpAny_done (by kernel_rfl) ?_ _
          have X := Lib.hid (new_done (n := n) B3.out HL.out S.out HA.out HB.out HLOW.out m3 m4 m5 l3 l4 l5 g.out)
          clear g m3 m4 m5 l3 l4 l5 S c0 c1
          go_wp2_with fail
          exact q_ret2 rfl rfl r.out rfl ⟨_, rfl, X.out.1, rfl, X.out.2.2, X.out.2.1⟩
        exact AllReady.nil
      exact AllReady.nil
    exact AllReady.nil
  refine AllReady.cons rfl (fun K hK => ?_) ?_
  ·
    go_simp
    refine hK _ _ ?_
    clear hK K
    have gB := row_belK W A32 22
    have m5 := heap_alloc_last W (.cells A32 22)
    have l5 := S.out.g.size
    generalize W.alloc (.cells A32 22) = W1 at gB m5 ⊢
    replace c0 := bel_cell gB c0
    replace c1 := bel_cell gB c1
    replace S := Lib.hid (S.out.more gB)
    clear gB
    refine wpAny_ready (rs := [1, 3, 4]) (by kernel_rfl) (by simp) ?_
    refine AllReady.cons rfl (fun K hK => ?_) ?_
    ·
      go_simp
      refine hK _ _ ?_
      clear hK K
      refine wpAny_ready (rs := [3, 4]) (by kernel_rfl) (by simp) ?_
      refine AllReady.cons rfl (fun K hK => ?_) ?_
      ·
        go_simp
        refine hK _ _ ?_
        clear hK K
        have gB := row_belK W1 A8 5
        have m3 := heap_alloc_last W1 (.cells A8 5)
        have l3 := S.out.g.size
        generalize W1.alloc (.cells A8 5) = W2 at gB m3 ⊢
        replace m5 := bel_heap gB m5
        replace c0 := bel_cell gB c0
        replace c1 := bel_cell gB c1
        replace S := Lib.hid (S.out.more gB)
        clear gB
        refine wpAny_ready (rs := [4]) (by kernel_rfl) (by simp) ?_
        refine AllReady.cons rfl (fun K hK => ?_) ?_
        ·
          go_simp
          refine hK _ _ ?_
          clear hK K
          have gB := row_belK W2 A32 22
          have m4 := heap_alloc_last W2 (.cells A32 22)
          have l4 := S.out.g.size
          generalize W2.alloc (.cells A32 22) = W3 at gB m4 ⊢
          replace m5 := bel_heap gB m5
          replace m3 := bel_heap gB m3
          replace c0 := bel_cell gB c0
          replace c1 := bel_cell gB c1
          replace S := Lib.hid (S.out.more gB)
          clear gB
          refine wpAny_take (i := 6) (v := ?_) rfl (by kernel_rfl) (by kernel_rfl) (by kernel_rfl) (fun _ _ _ h => h) (Or.inl ⟨by rfl, ?_⟩) ?_
          rotate_left
          · (intro W; go_simp; try with_reducible rfl)
          refine wpAny_ready (rs := [7]) (by kernel_rfl) (by simp) ?_
          refine AllReady.cons rfl (fun K hK => ?_) AllReady.nil
          refine step_whole rfl (.tmp 4) (.tmp 27) rfl w.heap.size rzero (qn n sz W1.heap.size W2.heap.size W.heap.size) rfl rfl S.out.row (qn_ok _ _ _ _ _) ?_
          intro V' r g
          refine hK _ _ ?_
          clear hK K
          refine wpAny_take (i := 8) (v := ?_) rfl (by kernel_rfl) (by kernel_rfl) (by kernel_rfl) (fun _ _ _ h => h) (Or.inl ⟨by rfl, ?_⟩) ?_
          rotate_left
          · (intro W; go_simp; try with_reducible rfl)
          refine wpAny_done (by kernel_rfl) ?_ _
          have X := Lib.hid (new_done (n := n) B3.out HL.out S.out HA.out HB.out HLOW.out m3 m4 m5 l3 l4 l5 g.out)
          clear g m3 m4 m5 l3 l4 l5 S c0 c1
          go_wp2_with fail
          exact q_ret2 rfl rfl r.out rfl ⟨_, rfl, X.out.1, rfl, X.out.2.2, X.out.2.1⟩
        exact AllReady.nil
      refine AllReady.cons rfl (fun K hK => ?_) ?_
      ·
        go_simp
        refine hK _ _ ?_
        clear hK K
        have gB := row_belK W1 A32 22
        have m4 := heap_alloc_last W1 (.cells A32 22)
        have l4 := S.out.g.size
        generalize W1.alloc (.cells A32 22) = W2 at gB m4 ⊢
        replace m5 := bel_heap gB m5
        replace c0 := bel_cell gB c0
        replace c1 := bel_cell gB c1
        replace S := Lib.hid (S.out.more gB)
        clear gB
        refine wpAny_ready (rs := [3]) (by kernel_rfl) (by simp) ?_
        refine AllReady.cons rfl (fun K hK => ?_) ?_
        ·
          go_simp
          refine hK _ _ ?_
          clear hK K
          have gB := row_belK W2 A8 5
          have m3 := heap_alloc_last W2 (.cells A8 5)
          have l3 := S.out.g.size
          generalize W2.alloc (.cells A8 5) = W3 at gB m3 ⊢
          replace m5 := bel_heap gB m5
          replace m4 := bel_heap gB m4
          replace c0 := bel_cell gB c0
          replace c1 := bel_cell gB c1
          replace S := Lib.hid (S.out.more gB)
          clear gB
          refine wpAny_take (i := 6) (v := ?_) rfl (by kernel_rfl) (by kernel_rfl) (by kernel_rfl) (fun _ _ _ h => h) (Or.inl ⟨by rfl, ?_⟩) ?_
          rotate_left
          · (intro W; go_simp; try with_reducible rfl)
          refine wpAny_ready (rs := [7]) (by kernel_rfl) (by simp) ?_
          refine AllReady.cons rfl (fun K hK => ?_) AllReady.nil
          refine step_whole rfl (.tmp 4) (.tmp 27) rfl w.heap.size rzero (qn n sz W2.heap.size W1.heap.size W.heap.size) rfl rfl S.out.row (qn_ok _ _ _ _ _) ?_
          intro V' r g
          refine hK _ _ ?_
          clear hK K
          refine wpAny_take (i := 8) (v := ?_) rfl (by kernel_rfl) (by kernel_rfl) (by kernel_rfl) (fun _ _ _ h => h) (Or.inl ⟨by rfl, ?_⟩) ?_
          rotate_left
          · (intro W; go_simp; try with_reducible rfl)
          refine wpAny_done (by kernel_rfl) ?_ _
          have X := Lib.hid (new_done (n := n) B3.out HL.out S.out HA.out HB.out HLOW.out m3 m4 m5 l3 l4 l5 g.out)
          clear g m3 m4 m5 l3 l4 l5 S c0 c1
          go_wp2_with fail
          exact q_ret2 rfl rfl r.out rfl ⟨_, rfl, X.out.1, rfl, X.out.2.2, X.out.2.1⟩
        exact AllReady.nil
      exact AllReady.nil
    refine AllReady.cons rfl (fun K hK => ?_) ?_
    ·
      go_simp
      refine hK _ _ ?_
      clear hK K
      have gB := row_belK W1 A8 5
      have m3 := heap_alloc_last W1 (.cells A8 5)
      have l3 := S.out.g.size
      generalize W1.alloc (.cells A8 5) = W2 at gB m3 ⊢
      replace m5 := bel_heap gB m5
      replace c0 := bel_cell gB c0
      replace c1 := bel_cell gB c1
      replace S := Lib.hid (S.out.more gB)
      clear gB
      refine wpAny_ready (rs := [1, 4]) (by kernel_rfl) (by simp) ?_
      refine AllReady.cons rfl (fun K hK => ?_) ?_
      ·
        go_simp
        refine hK _ _ ?_
        clear hK K
        refine wpAny_ready (rs := [4]) (by kernel_rfl) (by simp) ?_
        refine AllReady.cons rfl (fun K hK => ?_) ?_
        ·
          go_simp
          refine hK _ _ ?_
          clear hK K
          have gB := row_belK W2 A32 22
          have m4 := heap_alloc_last W2 (.cells A32 22)
          have l4 := S.out.g.size
          generalize W2.alloc (.cells A32 22) = W3 at gB m4 ⊢
          replace m5 := bel_heap gB m5
          replace m3 := bel_heap gB m3
          replace c0 := bel_cell gB c0
          replace c1 := bel_cell gB c1
          replace S := Lib.hid (S.out.more gB)
          clear gB
          refine wpAny_take (i := 6) (v := ?_) rfl (by kernel_rfl) (by kernel_rfl) (by kernel_rfl) (fun _ _ _ h => h) (Or.inl ⟨by rfl, ?_⟩) ?_
          rotate_left
          · (intro W; go_simp; try with_reducible rfl)
          refine wpAny_ready (rs := [7]) (by kernel_rfl) (by simp) ?_
          refine AllReady.cons rfl (fun K hK => ?_) AllReady.nil
          refine step_whole rfl (.tmp 4) (.tmp 27) rfl w.heap.size rzero (qn n sz W1.heap.size W2.heap.size W.heap.size) rfl rfl S.out.row (qn_ok _ _ _ _ _) ?_
          intro V' r g
          refine hK _ _ ?_
          clear hK K
          refine wpAny_take (i := 8) (v := ?_) rfl (by kernel_rfl) (by kernel_rfl) (by kernel_rfl) (fun _ _ _ h => h) (Or.inl ⟨by rfl, ?_⟩) ?_
          rotate_left
          · (intro W; go_simp; try with_reducible rfl)
          refine wpAny_done (by kernel_rfl) ?_ _
          have X := Lib.hid (new_done (n := n) B3.out HL.out S.out HA.out HB.out HLOW.out m3 m4 m5 l3 l4 l5 g.out)
          clear g m3 m4 m5 l3 l4 l5 S c0 c1
          go_wp2_with fail
          exact q_ret2 rfl rfl r.out rfl ⟨_, rfl, X.out.1, rfl, X.out.2.2, X.out.2.1⟩
        exact AllReady.nil
      refine AllReady.cons rfl (fun K hK => ?_) ?_
      ·
        go_simp
        refine hK _ _ ?_
        clear hK K
        have gB := row_belK W2 A32 22
        have m4 := heap_alloc_last W2 (.cells A32 22)
        have l4 := S.out.g.size
        generalize W2.alloc (.cells A32 22) = W3 at gB m4 ⊢
        replace m5 := bel_heap gB m5
        replace m3 := bel_heap gB m3
        replace c0 := bel_cell gB c0
        replace c1 := bel_cell gB c1
        replace S := Lib.hid (S.out.more gB)
        clear gB
        refine wpAny_ready (rs := [1]) (by kernel_rfl) (by simp) ?_
        refine AllReady.cons rfl (fun K hK => ?_) ?_
        ·
          go_simp
          refine hK _ _ ?_
          clear hK K
          refine wpAny_take (i := 6) (v := ?_) rfl (by kernel_rfl) (by kernel_rfl) (by kernel_rfl) (fun _ _ _ h => h) (Or.inl ⟨by rfl, ?_⟩) ?_
          rotate_left
          · (intro W; go_simp; try with_reducible rfl)
          refine wpAny_ready (rs := [7]) (by kernel_rfl) (by simp) ?_
          refine AllReady.cons rfl (fun K hK => ?_) AllReady.nil
          refine step_whole rfl (.tmp 4) (.tmp 27) rfl w.heap.size rzero (qn n sz W1.heap.size W2.heap.size W.heap.size) rfl rfl S.out.row (qn_ok _ _ _ _ _) ?_
          intro V' r g
          refine hK _ _ ?_
          clear hK K
          refine wpAny_take (i := 8) (v := ?_) rfl (by kernel_rfl) (by kernel_rfl) (by kernel_rfl) (fun _ _ _ h => h) (Or.inl ⟨by rfl, ?_⟩) ?_
          rotate_left
          · (intro W; go_simp; try with_reducible rfl)
          refine wpAny_done (by kernel_rfl) ?_ _
          have X := Lib.hid (new_done (n := n) B3.out HL.out S.out HA.out HB.out HLOW.out m3 m4 m5 l3 l4 l5 g.out)
          clear g m3 m4 m5 l3 l4 l5 S c0 c1
          go_wp2_with fail
          exact q_ret2 rfl rfl r.out rfl ⟨_, rfl, X.out.1, rfl, X.out.2.2, X.out.2.1⟩
        exact AllReady.nil
      exact AllReady.nil
    refine AllReady.cons rfl (fun K hK => ?_) ?_
    ·
      go_simp
      refine hK _ _ ?_
      clear hK K
      have gB := row_belK W1 A32 22
      have m4 := heap_alloc_last W1 (.cells A32 22)
      have l4 := S.out.g.size
      generalize W1.alloc (.cells A32 22) = W2 at gB m4 ⊢
      replace m5 := bel_heap gB m5
      replace c0 := bel_cell gB c0
      replace c1 := bel_cell gB c1
      replace S := Lib.hid (S.out.more gB)
      clear gB
      refine wpAny_ready (rs := [1, 3]) (by kernel_rfl) (by simp) ?_
      refine AllReady.cons rfl (fun K hK => ?_) ?_
      ·
        go_simp
        refine hK _ _ ?_
        clear hK K
        refine wpAny_ready (rs := [3]) (by kernel_rfl) (by simp) ?_
        refine AllReady.cons rfl (fun K hK => ?_) ?_
        ·
          go_simp
          refine hK _ _ ?_
          clear hK K
          have gB := row_belK W2 A8 5
          have m3 := heap_alloc_last W2 (.cells A8 5)
          have l3 := S.out.g.size
          generalize W2.alloc (.cells A8 5) = W3 at gB m3 ⊢
          replace m5 := bel_heap gB m5
          replace m4 := bel_heap gB m4
          replace c0 := bel_cell gB c0
          replace c1 := bel_cell gB c1
          replace S := Lib.hid (S.out.more gB)
          clear gB
          refine wpAny_take (i := 6) (v := ?_) rfl (by kernel_rfl) (by kernel_rfl) (by kernel_rfl) (fun _ _ _ h => h) (Or.inl ⟨by rfl, ?_⟩) ?_
          rotate_left
          · (intro W; go_simp; try with_reducible rfl)
          refine wpAny_ready (rs := [7]) (by kernel_rfl) (by simp) ?_
          refine AllReady.cons rfl (fun K hK => ?_) AllReady.nil
          refine step_whole rfl (.tmp 4) (.tmp 27) rfl w.heap.size rzero (qn n sz W2.heap.size W1.heap.size W.heap.size) rfl rfl S.out.row (qn_ok _ _ _ _ _) ?_
          intro V' r g
          refine hK _ _ ?_
          clear hK K
          refine wpAny_take (i := 8) (v := ?_) rfl (by kernel_rfl) (by kernel_rfl) (by kernel_rfl) (fun _ _ _ h => h) (Or.inl ⟨by rfl, ?_⟩) ?_
          rotate_left
          · (intro W; go_simp; try with_reducible rfl)
          refine wpAny_done (by kernel_rfl) ?_ _
          have X := Lib.hid (new_done (n := n) B3.out HL.out S.out HA.out HB.out HLOW.out m3 m4 m5 l3 l4 l5 g.out)
          clear g m3 m4 m5 l3 l4 l5 S c0 c1
          go_wp2_with fail
          exact q_ret2 rfl rfl r.out rfl ⟨_, rfl, X.out.1, rfl, X.out.2.2, X.out.2.1⟩
        exact AllReady.nil
      refine AllReady.cons rfl (fun K hK => ?_) ?_
      ·
        go_simp
        refine hK _ _ ?_
        clear hK K
        have gB := row_belK W2 A8 5
        have m3 := heap_alloc_last W2 (.cells A8 5)
        have l3 := S.out.g.size
        generalize W2.alloc (.cells A8 5) = W3 at gB m3 ⊢
        replace m5 := bel_heap gB m5
        replace m4 := bel_heap gB m4
        replace c0 := bel_cell gB c0
        replace c1 := bel_cell gB c1
        replace S := Lib.hid (S.out.more gB)
        clear gB
        refine wpAny_ready (rs := [1]) (by kernel_rfl) (by simp) ?_
        refine AllReady.cons rfl (fun K hK => ?_) ?_
        ·
          go_simp
          refine hK _ _ ?_
          clear hK K
          refine wpAny_take (i := 6) (v := ?_) rfl (by kernel_rfl) (by kernel_rfl) (by kernel_rfl) (fun _ _ _ h => h) (Or.inl ⟨by rfl, ?_⟩) ?_
          rotate_left
          · (intro W; go_simp; try with_reducible rfl)
          refine wpAny_ready (rs := [7]) (by kernel_rfl) (by simp) ?_
          refine AllReady.cons rfl (fun K hK => ?_) AllReady.nil
          refine step_whole rfl (.tmp 4) (.tmp 27) rfl w.heap.size rzero (qn n sz W2.heap.size W1.heap.size W.heap.size) rfl rfl S.out.row (qn_ok _ _ _ _ _) ?_
          intro V' r g
          refine hK _ _ ?_
          clear hK K
          refine wpAny_take (i := 8) (v := ?_) rfl (by kernel_rfl) (by kernel_rfl) (by kernel_rfl) (fun _ _ _ h => h) (Or.inl ⟨by rfl, ?_⟩) ?_
          rotate_left
          · (intro W; go_simp; try with_reducible rfl)
          refine wpAny_done (by kernel_rfl) ?_ _
          have X := Lib.hid (new_done (n := n) B3.out HL.out S.out HA.out HB.out HLOW.out m3 m4 m5 l3 l4 l5 g.out)
          clear g m3 m4 m5 l3 l4 l5 S c0 c1
          go_wp2_with fail
          exact q_ret2 rfl rfl r.out rfl ⟨_, rfl, X.out.1, rfl, X.out.2.2, X.out.2.1⟩
        exact AllReady.nil
      exact AllReady.nil
    exact AllReady.nil
  exact AllReady.nil
end
end Go.Proofs.YtiobgnelhiadbaaGreatDoor.K6
