/- Package swap as it has landed: the parts of the handlers, as slices of instructions. -/
import Derived.Test.YtmpagjijjahohaaGreatDoorWindGB
import Derived.Test.YtmpagjijjahohaaGreatDoorSwapG
namespace Go.Proofs.YtmpagjijjahohaaGreatDoor.S10
open Go.RowKit
open A7 (XI XB)
open W8 (PartAt part_new rowsOf part_own inst_under inst_parts instZ rowsOf_cells)
set_option linter.unusedVariables false
attribute [local go_sem] Oper.semAt_some
/-- An instruction is stored over another. -/
theorem i_store {ops : Array Oper} {rest : List Oper} {o : Oper} {a : Act} {w : World} {Q : Exit → Act → World → Prop} (hgd : o.guard = none) (x y : Operand) (ho : o.op = .store 106 x y) (b : Nat) (a0 a1 a2 a3 : Int) (a4 : Bool) (a5 b0 b1 b2 b3 : Int) (b4 : Bool) (b5 : Int) (hx : a.eval x = .pointer (some ⟨b, 0, none⟩))
    (hy : a.eval y = .agg #[.int .u8 b0, .int .u8 b1, .int .u8 b2, .int .u8 b3, .bool b4, .int .i32 b5]) (hr : w.heap[b]? = some (.cells #[.int .u8 a0, .int .u8 a1, .int .u8 a2, .int .u8 a3, .bool a4, .int .i32 a5] 106 (0, 0)))
    (h : ∀ V : World, V.heap[b]? = some (.cells #[.int .u8 b0, .int .u8 b1, .int .u8 b2, .int .u8 b3, .bool b4, .int .i32 b5] 106 (0, 0)) → w.grownBy V (some b) → wpList Tryz.prog ops Q rest (a.put o.dst undef) V) : wpList Tryz.prog ops Q (o :: rest) a w :=
  wpList_store_row hgd 106 x y ho b #[.int .u8 b0, .int .u8 b1, .int .u8 b2, .int .u8 b3, .bool b4, .int .i32 b5] hx hy 106 #[.int .u8 a0, .int .u8 a1, .int .u8 a2, .int .u8 a3, .bool a4, .int .i32 a5] hr (by kernel_rfl) rfl (by rw [Array.all_eq_true_iff_forall_mem]; intro v hv; simp at hv; rcases hv with rfl | rfl | rfl | rfl | rfl | rfl <;> rfl) (h _ (setRow_heap _ _ _ _ _ _ hr) (only_row ⟨rfl, rfl, rfl, Nat.le_refl _, fun _ _ _ => rfl⟩ rfl))
theorem load_at (d s n : Int) (w : World) : Calls Tryz.prog 362 #[.int .u8 d, .int .u8 s, .int .i32 n] w fun e w' => e = .returned (.agg #[.int .u8 22, .int .u8 d, .int .u8 s, .int .u8 0, .bool true, .int .i32 n]) ∧ Below w.heap.size w w' := by
  go_enter Tryz.func362, Tryz.ntmps362
  go_wp2
  refine bodyPost_ret (v := .agg #[.int .u8 22, .int .u8 d, .int .u8 s, .int .u8 0, .bool true, .int .i32 n]) (by simp [results, Tryz.results362, go_sem]) rfl ⟨rfl, (Below.refl _ _).alloc (Nat.le_refl _) _⟩
theorem store_at (d s n : Int) (w : World) : Calls Tryz.prog 364 #[.int .u8 d, .int .u8 s, .int .i32 n] w fun e w' => e = .returned (.agg #[.int .u8 23, .int .u8 d, .int .u8 s, .int .u8 0, .bool true, .int .i32 n]) ∧ Below w.heap.size w w' := by
  go_enter Tryz.func364, Tryz.ntmps364
  go_wp2
  refine bodyPost_ret (v := .agg #[.int .u8 23, .int .u8 d, .int .u8 s, .int .u8 0, .bool true, .int .i32 n]) (by simp [results, Tryz.results364, go_sem]) rfl ⟨rfl, (Below.refl _ _).alloc (Nat.le_refl _) _⟩
theorem number_at (o d s n : Int) (w : World) (ho : 0 ≤ o ∧ o ≤ 13) : Calls Tryz.prog 363 #[.int .u8 o, .int .u8 d, .int .u8 s, .int .i32 n] w fun e w' => e = .returned (.agg #[.int .u8 (1 + o), .int .u8 d, .int .u8 s, .int .u8 0, .bool true, .int .i32 n]) ∧ Below w.heap.size w w' := by
  have wo : IntKind.u8.wrap (1 + o) = 1 + o := IntWalk.u8_in _ (by omega)
  go_enter Tryz.func363, Tryz.ntmps363
  go_wp2
  refine bodyPost_ret (v := .agg #[.int .u8 (1 + o), .int .u8 d, .int .u8 s, .int .u8 0, .bool true, .int .i32 n]) (by simp [results, Tryz.results363, go_sem]) rfl ⟨rfl, (Below.refl _ _).alloc (Nat.le_refl _) _⟩
theorem alu_at (o d s t : Int) (w : World) (ho : 0 ≤ o ∧ o ≤ 13) : Calls Tryz.prog 366 #[.int .u8 o, .int .u8 d, .int .u8 s, .int .u8 t] w fun e w' => e = .returned (.agg #[.int .u8 (1 + o), .int .u8 d, .int .u8 s, .int .u8 t, .bool false, .int .i32 0]) ∧ Below w.heap.size w w' := by
  have wo : IntKind.u8.wrap (1 + o) = 1 + o := IntWalk.u8_in _ (by omega)
  go_enter Tryz.func366, Tryz.ntmps366
  go_wp2
  refine bodyPost_ret (v := .agg #[.int .u8 (1 + o), .int .u8 d, .int .u8 s, .int .u8 t, .bool false, .int .i32 0]) (by simp [results, Tryz.results366, go_sem]) rfl ⟨rfl, (Below.refl _ _).alloc (Nat.le_refl _) _⟩
set_option maxRecDepth 100000 in
theorem set_at (d n : Int) (w : World) : Calls Tryz.prog 367 #[.int .u8 d, .int .i32 n] w fun e w' => e = .returned (.agg #[.int .u8 1, .int .u8 d, .int .u8 0, .int .u8 0, .bool true, .int .i32 n]) ∧ Below w.heap.size w w' := by
  have g0 := Lib.hid ((Below.refl w.heap.size w).alloc (Nat.le_refl _) (.cells #[.int .u8 0, .int .u8 0, .int .u8 0, .int .u8 0, .bool false, .int .i32 0] 106))
  have z0 : Hid ((w.alloc (.cells #[.int .u8 0, .int .u8 0, .int .u8 0, .int .u8 0, .bool false, .int .i32 0] 106)).heap[w.heap.size]? = some (.cells #[.int .u8 0, .int .u8 0, .int .u8 0, .int .u8 0, .bool false, .int .i32 0] 106 (0, 0))) := heap_alloc_last _ _
  go_enter Tryz.func367, Tryz.ntmps367
  go_wp2_with fail
  refine (number_at 0 d 0 n _ (by omega)).mono ?_; rintro e w1 ⟨rfl, g1⟩
  have z1 := Lib.hid (bel_heap g1 z0.out)
  have G1 := Lib.hid (bel_trans g0.out g1)
  clear g1 g0 z0
  go_wp2_with (refine i_store rfl (.tmp 4) (.tmp 7) rfl w.heap.size _ _ _ _ _ _ _ _ _ _ _ _ rfl rfl z1.out ?_; intro V r2 g2; have G2 := Lib.hid (only_bel G1.out g2 (Nat.le_refl _)); have R2 := Lib.hid r2; clear r2 g2)
  have c0 := row_cell R2.out (j := 0) rfl
  have c1 := row_cell R2.out (j := 1) rfl
  have c2 := row_cell R2.out (j := 2) rfl
  have c3 := row_cell R2.out (j := 3) rfl
  have c4 := row_cell R2.out (j := 4) rfl
  have c5 := row_cell R2.out (j := 5) rfl
  refine bodyPost_ret (v := .agg #[.int .u8 1, .int .u8 d, .int .u8 0, .int .u8 0, .bool true, .int .i32 n]) (by simp [results, Tryz.results367, go_sem, c0, c1, c2, c3, c4, c5]) rfl ⟨rfl, G2.out⟩
theorem running_at (w : World) : Calls Tryz.prog 294 #[] w fun e w' => ∃ v, e = .returned v ∧ PartAt w' w.heap.size v rnL ∧ Below w.heap.size w w' := by
  go_enter Tryz.func294, Tryz.ntmps294
  go_wp2_with fail
  refine (load_at 4 0 128 _).mono ?_; rintro e w1 ⟨rfl, g1⟩
  have G1 := Lib.hid (bel_trans (Below.refl w.heap.size w) g1)
  clear g1
  go_wp2_with fail
  refine (number_at 2 4 4 16 _ (by omega)).mono ?_; rintro e w2 ⟨rfl, g2⟩
  have G2 := Lib.hid (bel_trans G1.out g2)
  clear g2
  have P := Lib.hid (part_new w2 (rnL) 2 rfl)
  go_wp2_with fail
  go_ret
  exact ⟨_, rfl, P.out.low (G2.out).size, (G2.out).alloc (G2.out).size _⟩
theorem die_at (w : World) : Calls Tryz.prog 295 #[] w fun e w' => ∃ v, e = .returned v ∧ PartAt w' w.heap.size v [nI 23 0 4 76] ∧ Below w.heap.size w w' := by
  go_enter Tryz.func295, Tryz.ntmps295
  go_wp2_with fail
  refine (store_at 0 4 76 _).mono ?_; rintro e w1 ⟨rfl, g1⟩
  have G1 := Lib.hid (bel_trans (Below.refl w.heap.size w) g1)
  clear g1
  have P := Lib.hid (part_new w1 ([nI 23 0 4 76]) 1 rfl)
  go_wp2_with fail
  go_ret
  exact ⟨_, rfl, P.out.low (G1.out).size, (G1.out).alloc (G1.out).size _⟩
theorem split_at (w : World) : Calls Tryz.prog 297 #[] w fun e w' => ∃ v, e = .returned v ∧ PartAt w' w.heap.size v spL ∧ Below w.heap.size w w' := by
  go_enter Tryz.func297, Tryz.ntmps297
  go_wp2_with fail
  refine (number_at 5 3 2 31 _ (by omega)).mono ?_; rintro e w1 ⟨rfl, g1⟩
  have G1 := Lib.hid (bel_trans (Below.refl w.heap.size w) g1)
  clear g1
  go_wp2_with fail
  refine (alu_at 1 2 2 3 _ (by omega)).mono ?_; rintro e w2 ⟨rfl, g2⟩
  have G2 := Lib.hid (bel_trans G1.out g2)
  clear g2
  have P := Lib.hid (part_new w2 (spL) 3 rfl)
  go_wp2_with fail
  go_ret
  exact ⟨_, rfl, P.out.low (G2.out).size, (G2.out).alloc (G2.out).size _⟩
theorem compareInvalid_at (w : World) : Calls Tryz.prog 298 #[] w fun e w' => ∃ v, e = .returned v ∧ PartAt w' w.heap.size v ciL ∧ Below w.heap.size w w' := by
  go_enter Tryz.func298, Tryz.ntmps298
  go_wp2_with fail
  refine (alu_at 9 1 1 3 _ (by omega)).mono ?_; rintro e w1 ⟨rfl, g1⟩
  have G1 := Lib.hid (bel_trans (Below.refl w.heap.size w) g1)
  clear g1
  have P := Lib.hid (part_new w1 (ciL) 3 rfl)
  go_wp2_with fail
  go_ret
  exact ⟨_, rfl, P.out.low (G1.out).size, (G1.out).alloc (G1.out).size _⟩
theorem enter_at (w : World) : Calls Tryz.prog 299 #[] w fun e w' => ∃ v, e = .returned v ∧ PartAt w' w.heap.size v enL ∧ Below w.heap.size w w' := by
  go_enter Tryz.func299, Tryz.ntmps299
  go_wp2_with fail
  have P := Lib.hid (part_new w (enL) 1 rfl)
  go_ret
  exact ⟨_, rfl, P.out.low ((Below.refl w.heap.size w)).size, ((Below.refl w.heap.size w)).alloc ((Below.refl w.heap.size w)).size _⟩
theorem ahead_at (nw : Int) (w : World) (hn : 2 ≤ nw ∧ nw ≤ 32) : Calls Tryz.prog 301 #[.int .i64 nw] w fun e w' => ∃ v, e = .returned v ∧ PartAt w' w.heap.size v (ahL nw) ∧ Below w.heap.size w w' := by
  obtain ⟨n2, n32⟩ := hn
  have wn : IntKind.i32.wrap nw = nw := IntWalk.i32_in _ (by omega)
  go_enter Tryz.func301, Tryz.ntmps301
  go_wp2_with fail
  refine (number_at 0 3 3 1 _ (by omega)).mono ?_; rintro e w1 ⟨rfl, g1⟩
  have G1 := Lib.hid (bel_trans (Below.refl w.heap.size w) g1)
  clear g1
  go_wp2_with fail
  refine (number_at 4 3 3 nw _ (by omega)).mono ?_; rintro e w2 ⟨rfl, g2⟩
  have G2 := Lib.hid (bel_trans G1.out g2)
  clear g2
  have P := Lib.hid (part_new w2 (ahL nw) 2 rfl)
  go_wp2_with fail
  go_ret
  exact ⟨_, rfl, P.out.low (G2.out).size, (G2.out).alloc (G2.out).size _⟩
theorem pause_at (w : World) : Calls Tryz.prog 303 #[] w fun e w' => ∃ v, e = .returned v ∧ PartAt w' w.heap.size v paL ∧ Below w.heap.size w w' := by
  go_enter Tryz.func303, Tryz.ntmps303
  go_wp2_with fail
  refine (store_at 1 4 64 _).mono ?_; rintro e w1 ⟨rfl, g1⟩
  have G1 := Lib.hid (bel_trans (Below.refl w.heap.size w) g1)
  clear g1
  go_wp2_with fail
  refine (store_at 14 4 68 _).mono ?_; rintro e w2 ⟨rfl, g2⟩
  have G2 := Lib.hid (bel_trans G1.out g2)
  clear g2
  have P := Lib.hid (part_new w2 (paL) 3 rfl)
  go_wp2_with fail
  go_ret
  exact ⟨_, rfl, P.out.low (G2.out).size, (G2.out).alloc (G2.out).size _⟩
theorem beginCount_at (w : World) : Calls Tryz.prog 304 #[] w fun e w' => ∃ v, e = .returned v ∧ PartAt w' w.heap.size v bcL ∧ Below w.heap.size w w' := by
  go_enter Tryz.func304, Tryz.ntmps304
  go_wp2_with fail
  refine (load_at 5 0 132 _).mono ?_; rintro e w1 ⟨rfl, g1⟩
  have G1 := Lib.hid (bel_trans (Below.refl w.heap.size w) g1)
  clear g1
  go_wp2_with fail
  refine (number_at 2 5 5 16 _ (by omega)).mono ?_; rintro e w2 ⟨rfl, g2⟩
  have G2 := Lib.hid (bel_trans G1.out g2)
  clear g2
  go_wp2_with fail
  refine (set_at 6 0 _).mono ?_; rintro e w3 ⟨rfl, g3⟩
  have G3 := Lib.hid (bel_trans G2.out g3)
  clear g3
  go_wp2_with fail
  refine (set_at 4 0 _).mono ?_; rintro e w4 ⟨rfl, g4⟩
  have G4 := Lib.hid (bel_trans G3.out g4)
  clear g4
  have P := Lib.hid (part_new w4 (bcL) 4 rfl)
  go_wp2_with fail
  go_ret
  exact ⟨_, rfl, P.out.low (G4.out).size, (G4.out).alloc (G4.out).size _⟩
theorem countOne_at (w : World) : Calls Tryz.prog 305 #[] w fun e w' => ∃ v, e = .returned v ∧ PartAt w' w.heap.size v coL ∧ Below w.heap.size w w' := by
  go_enter Tryz.func305, Tryz.ntmps305
  go_wp2_with fail
  refine (load_at 1 4 76 _).mono ?_; rintro e w1 ⟨rfl, g1⟩
  have G1 := Lib.hid (bel_trans (Below.refl w.heap.size w) g1)
  clear g1
  go_wp2_with fail
  refine (alu_at 0 6 6 1 _ (by omega)).mono ?_; rintro e w2 ⟨rfl, g2⟩
  have G2 := Lib.hid (bel_trans G1.out g2)
  clear g2
  have P := Lib.hid (part_new w2 (coL) 2 rfl)
  go_wp2_with fail
  go_ret
  exact ⟨_, rfl, P.out.low (G2.out).size, (G2.out).alloc (G2.out).size _⟩
theorem nextBlock_at (w : World) : Calls Tryz.prog 306 #[] w fun e w' => ∃ v, e = .returned v ∧ PartAt w' w.heap.size v nbL ∧ Below w.heap.size w w' := by
  go_enter Tryz.func306, Tryz.ntmps306
  go_wp2_with fail
  refine (number_at 0 4 4 16 _ (by omega)).mono ?_; rintro e w1 ⟨rfl, g1⟩
  have G1 := Lib.hid (bel_trans (Below.refl w.heap.size w) g1)
  clear g1
  have P := Lib.hid (part_new w1 (nbL) 1 rfl)
  go_wp2_with fail
  go_ret
  exact ⟨_, rfl, P.out.low (G1.out).size, (G1.out).alloc (G1.out).size _⟩
theorem compareBeyond_at (w : World) : Calls Tryz.prog 307 #[] w fun e w' => ∃ v, e = .returned v ∧ PartAt w' w.heap.size v cyL ∧ Below w.heap.size w w' := by
  go_enter Tryz.func307, Tryz.ntmps307
  go_wp2_with fail
  have P := Lib.hid (part_new w (cyL) 1 rfl)
  go_ret
  exact ⟨_, rfl, P.out.low ((Below.refl w.heap.size w)).size, ((Below.refl w.heap.size w)).alloc ((Below.refl w.heap.size w)).size _⟩
theorem choose_at (w : World) : Calls Tryz.prog 308 #[] w fun e w' => ∃ v, e = .returned v ∧ PartAt w' w.heap.size v chL ∧ Below w.heap.size w w' := by
  go_enter Tryz.func308, Tryz.ntmps308
  go_wp2_with fail
  refine (number_at 5 1 7 1 _ (by omega)).mono ?_; rintro e w1 ⟨rfl, g1⟩
  have G1 := Lib.hid (bel_trans (Below.refl w.heap.size w) g1)
  clear g1
  go_wp2_with fail
  refine (number_at 9 7 7 1 _ (by omega)).mono ?_; rintro e w2 ⟨rfl, g2⟩
  have G2 := Lib.hid (bel_trans G1.out g2)
  clear g2
  go_wp2_with fail
  refine (alu_at 4 7 7 6 _ (by omega)).mono ?_; rintro e w3 ⟨rfl, g3⟩
  have G3 := Lib.hid (bel_trans G2.out g3)
  clear g3
  go_wp2_with fail
  refine (alu_at 0 7 7 7 _ (by omega)).mono ?_; rintro e w4 ⟨rfl, g4⟩
  have G4 := Lib.hid (bel_trans G3.out g4)
  clear g4
  go_wp2_with fail
  refine (alu_at 0 7 7 1 _ (by omega)).mono ?_; rintro e w5 ⟨rfl, g5⟩
  have G5 := Lib.hid (bel_trans G4.out g5)
  clear g5
  go_wp2_with fail
  refine (alu_at 4 7 7 6 _ (by omega)).mono ?_; rintro e w6 ⟨rfl, g6⟩
  have G6 := Lib.hid (bel_trans G5.out g6)
  clear g6
  go_wp2_with fail
  refine (set_at 4 0 _).mono ?_; rintro e w7 ⟨rfl, g7⟩
  have G7 := Lib.hid (bel_trans G6.out g7)
  clear g7
  have P := Lib.hid (part_new w7 (chL) 8 rfl)
  go_wp2_with fail
  go_ret
  exact ⟨_, rfl, P.out.low (G7.out).size, (G7.out).alloc (G7.out).size _⟩
theorem passOne_at (w : World) : Calls Tryz.prog 309 #[] w fun e w' => ∃ v, e = .returned v ∧ PartAt w' w.heap.size v poL ∧ Below w.heap.size w w' := by
  go_enter Tryz.func309, Tryz.ntmps309
  go_wp2_with fail
  refine (load_at 1 4 76 _).mono ?_; rintro e w1 ⟨rfl, g1⟩
  have G1 := Lib.hid (bel_trans (Below.refl w.heap.size w) g1)
  clear g1
  go_wp2_with fail
  refine (alu_at 1 7 7 1 _ (by omega)).mono ?_; rintro e w2 ⟨rfl, g2⟩
  have G2 := Lib.hid (bel_trans G1.out g2)
  clear g2
  have P := Lib.hid (part_new w2 (poL) 3 rfl)
  go_wp2_with fail
  go_ret
  exact ⟨_, rfl, P.out.low (G2.out).size, (G2.out).alloc (G2.out).size _⟩
theorem makeRunning_at (w : World) : Calls Tryz.prog 310 #[] w fun e w' => ∃ v, e = .returned v ∧ PartAt w' w.heap.size v mrL ∧ Below w.heap.size w w' := by
  go_enter Tryz.func310, Tryz.ntmps310
  go_wp2_with fail
  refine (number_at 3 1 4 16 _ (by omega)).mono ?_; rintro e w1 ⟨rfl, g1⟩
  have G1 := Lib.hid (bel_trans (Below.refl w.heap.size w) g1)
  clear g1
  go_wp2_with fail
  refine (store_at 1 0 128 _).mono ?_; rintro e w2 ⟨rfl, g2⟩
  have G2 := Lib.hid (bel_trans G1.out g2)
  clear g2
  go_wp2_with fail
  refine (load_at 1 4 72 _).mono ?_; rintro e w3 ⟨rfl, g3⟩
  have G3 := Lib.hid (bel_trans G2.out g3)
  clear g3
  go_wp2_with fail
  refine (store_at 1 0 136 _).mono ?_; rintro e w4 ⟨rfl, g4⟩
  have G4 := Lib.hid (bel_trans G3.out g4)
  clear g4
  go_wp2_with fail
  refine (load_at 14 4 68 _).mono ?_; rintro e w5 ⟨rfl, g5⟩
  have G5 := Lib.hid (bel_trans G4.out g5)
  clear g5
  have P := Lib.hid (part_new w5 (mrL) 5 rfl)
  go_wp2_with fail
  go_ret
  exact ⟨_, rfl, P.out.low (G5.out).size, (G5.out).alloc (G5.out).size _⟩
theorem invalidate_at (w : World) : Calls Tryz.prog 311 #[] w fun e w' => ∃ v, e = .returned v ∧ PartAt w' w.heap.size v ivL ∧ Below w.heap.size w w' := by
  go_enter Tryz.func311, Tryz.ntmps311
  go_wp2_with fail
  refine (set_at 1 1 _).mono ?_; rintro e w1 ⟨rfl, g1⟩
  have G1 := Lib.hid (bel_trans (Below.refl w.heap.size w) g1)
  clear g1
  go_wp2_with fail
  refine (alu_at 8 1 1 3 _ (by omega)).mono ?_; rintro e w2 ⟨rfl, g2⟩
  have G2 := Lib.hid (bel_trans G1.out g2)
  clear g2
  have P := Lib.hid (part_new w2 (ivL) 3 rfl)
  go_wp2_with fail
  go_ret
  exact ⟨_, rfl, P.out.low (G2.out).size, (G2.out).alloc (G2.out).size _⟩
theorem goOn_at (w : World) : Calls Tryz.prog 313 #[] w fun e w' => ∃ v, e = .returned v ∧ PartAt w' w.heap.size v goL ∧ Below w.heap.size w w' := by
  go_enter Tryz.func313, Tryz.ntmps313
  go_wp2_with fail
  refine (load_at 1 4 64 _).mono ?_; rintro e w1 ⟨rfl, g1⟩
  have G1 := Lib.hid (bel_trans (Below.refl w.heap.size w) g1)
  clear g1
  have P := Lib.hid (part_new w1 (goL) 3 rfl)
  go_wp2_with fail
  go_ret
  exact ⟨_, rfl, P.out.low (G1.out).size, (G1.out).alloc (G1.out).size _⟩
end Go.Proofs.YtmpagjijjahohaaGreatDoor.S10
