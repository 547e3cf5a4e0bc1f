/- Package swap as it has landed: the parts of the handlers, as slices of instructions. -/
import Derived.Test.YtiobgnelhiadbaaGreatDoorVWindGB
import Derived.Test.YtiobgnelhiadbaaGreatDoorVSwapG
namespace Go.Proofs.YtiobgnelhiadbaaGreatDoor.S10
open Go.RowKit
open A7 (XI XB)
open W8 (PartAt part_new rowsOf part_own inst_under inst_parts instZ rowsOf_cells)
set_option linter.unusedVariables false
attribute [local go_sem] Oper.semAt_some
/-- An instruction is stored over another. -/
theorem i_store {ops : Array Oper} {rest : List Oper} {o : Oper} {a : Act} {w : World} {Q : Exit → Act → World → Prop} (hgd : o.guard = none) (x y : Operand) (ho : o.op = .store 88 x y) (b : Nat) (a0 a1 a2 a3 : Int) (a4 : Bool) (a5 b0 b1 b2 b3 : Int) (b4 : Bool) (b5 : Int) (hx : a.eval x = .pointer (some ⟨b, 0, none⟩))
    (hy : a.eval y = .agg #[.int .u8 b0, .int .u8 b1, .int .u8 b2, .int .u8 b3, .bool b4, .int .i32 b5]) (hr : w.heap[b]? = some (.cells #[.int .u8 a0, .int .u8 a1, .int .u8 a2, .int .u8 a3, .bool a4, .int .i32 a5] 88 (0, 0)))
    (h : ∀ V : World, V.heap[b]? = some (.cells #[.int .u8 b0, .int .u8 b1, .int .u8 b2, .int .u8 b3, .bool b4, .int .i32 b5] 88 (0, 0)) → w.grownBy V (some b) → wpList Tryz.prog ops Q rest (a.put o.dst undef) V) : wpList Tryz.prog ops Q (o :: rest) a w :=
  wpList_store_row hgd 88 x y ho b #[.int .u8 b0, .int .u8 b1, .int .u8 b2, .int .u8 b3, .bool b4, .int .i32 b5] hx hy 88 #[.int .u8 a0, .int .u8 a1, .int .u8 a2, .int .u8 a3, .bool a4, .int .i32 a5] hr (by kernel_rfl) rfl (by rw [Array.all_eq_true_iff_forall_mem]; intro v hv; simp at hv; rcases hv with rfl | rfl | rfl | rfl | rfl | rfl <;> rfl) (h _ (setRow_heap _ _ _ _ _ _ hr) (only_row ⟨rfl, rfl, rfl, Nat.le_refl _, fun _ _ _ => rfl⟩ rfl))
theorem load_at (d s n : Int) (w : World) : Calls Tryz.prog 245 #[.int .u8 d, .int .u8 s, .int .i32 n] w fun e w' => e = .returned (.agg #[.int .u8 22, .int .u8 d, .int .u8 s, .int .u8 0, .bool true, .int .i32 n]) ∧ Below w.heap.size w w' := by
  go_enter Tryz.func245, Tryz.ntmps245
  go_wp2
  refine bodyPost_ret (v := .agg #[.int .u8 22, .int .u8 d, .int .u8 s, .int .u8 0, .bool true, .int .i32 n]) (by simp [results, Tryz.results245, go_sem]) rfl ⟨rfl, (Below.refl _ _).alloc (Nat.le_refl _) _⟩
theorem store_at (d s n : Int) (w : World) : Calls Tryz.prog 247 #[.int .u8 d, .int .u8 s, .int .i32 n] w fun e w' => e = .returned (.agg #[.int .u8 23, .int .u8 d, .int .u8 s, .int .u8 0, .bool true, .int .i32 n]) ∧ Below w.heap.size w w' := by
  go_enter Tryz.func247, Tryz.ntmps247
  go_wp2
  refine bodyPost_ret (v := .agg #[.int .u8 23, .int .u8 d, .int .u8 s, .int .u8 0, .bool true, .int .i32 n]) (by simp [results, Tryz.results247, go_sem]) rfl ⟨rfl, (Below.refl _ _).alloc (Nat.le_refl _) _⟩
theorem number_at (o d s n : Int) (w : World) (ho : 0 ≤ o ∧ o ≤ 13) : Calls Tryz.prog 246 #[.int .u8 o, .int .u8 d, .int .u8 s, .int .i32 n] w fun e w' => e = .returned (.agg #[.int .u8 (1 + o), .int .u8 d, .int .u8 s, .int .u8 0, .bool true, .int .i32 n]) ∧ Below w.heap.size w w' := by
  have wo : IntKind.u8.wrap (1 + o) = 1 + o := IntWalk.u8_in _ (by omega)
  go_enter Tryz.func246, Tryz.ntmps246
  go_wp2
  refine bodyPost_ret (v := .agg #[.int .u8 (1 + o), .int .u8 d, .int .u8 s, .int .u8 0, .bool true, .int .i32 n]) (by simp [results, Tryz.results246, go_sem]) rfl ⟨rfl, (Below.refl _ _).alloc (Nat.le_refl _) _⟩
theorem alu_at (o d s t : Int) (w : World) (ho : 0 ≤ o ∧ o ≤ 13) : Calls Tryz.prog 250 #[.int .u8 o, .int .u8 d, .int .u8 s, .int .u8 t] w fun e w' => e = .returned (.agg #[.int .u8 (1 + o), .int .u8 d, .int .u8 s, .int .u8 t, .bool false, .int .i32 0]) ∧ Below w.heap.size w w' := by
  have wo : IntKind.u8.wrap (1 + o) = 1 + o := IntWalk.u8_in _ (by omega)
  go_enter Tryz.func250, Tryz.ntmps250
  go_wp2
  refine bodyPost_ret (v := .agg #[.int .u8 (1 + o), .int .u8 d, .int .u8 s, .int .u8 t, .bool false, .int .i32 0]) (by simp [results, Tryz.results250, go_sem]) rfl ⟨rfl, (Below.refl _ _).alloc (Nat.le_refl _) _⟩
set_option maxRecDepth 100000 in
theorem set_at (d n : Int) (w : World) : Calls Tryz.prog 253 #[.int .u8 d, .int .i32 n] w fun e w' => e = .returned (.agg #[.int .u8 1, .int .u8 d, .int .u8 0, .int .u8 0, .bool true, .int .i32 n]) ∧ Below w.heap.size w w' := by
  have g0 := Lib.hid ((Below.refl w.heap.size w).alloc (Nat.le_refl _) (.cells #[.int .u8 0, .int .u8 0, .int .u8 0, .int .u8 0, .bool false, .int .i32 0] 88))
  have z0 : Hid ((w.alloc (.cells #[.int .u8 0, .int .u8 0, .int .u8 0, .int .u8 0, .bool false, .int .i32 0] 88)).heap[w.heap.size]? = some (.cells #[.int .u8 0, .int .u8 0, .int .u8 0, .int .u8 0, .bool false, .int .i32 0] 88 (0, 0))) := heap_alloc_last _ _
  go_enter Tryz.func253, Tryz.ntmps253
  go_wp2_with fail
  refine (number_at 0 d 0 n _ (by omega)).mono ?_; rintro e w1 ⟨rfl, g1⟩
  have z1 := Lib.hid (bel_heap g1 z0.out)
  have G1 := Lib.hid (bel_trans g0.out g1)
  clear g1 g0 z0
  go_wp2_with (refine i_store rfl (.tmp 4) (.tmp 7) rfl w.heap.size _ _ _ _ _ _ _ _ _ _ _ _ rfl rfl z1.out ?_; intro V r2 g2; have G2 := Lib.hid (only_bel G1.out g2 (Nat.le_refl _)); have R2 := Lib.hid r2; clear r2 g2)
  have c0 := row_cell R2.out (j := 0) rfl
  have c1 := row_cell R2.out (j := 1) rfl
  have c2 := row_cell R2.out (j := 2) rfl
  have c3 := row_cell R2.out (j := 3) rfl
  have c4 := row_cell R2.out (j := 4) rfl
  have c5 := row_cell R2.out (j := 5) rfl
  refine bodyPost_ret (v := .agg #[.int .u8 1, .int .u8 d, .int .u8 0, .int .u8 0, .bool true, .int .i32 n]) (by simp [results, Tryz.results253, go_sem, c0, c1, c2, c3, c4, c5]) rfl ⟨rfl, G2.out⟩
theorem running_at (w : World) : Calls Tryz.prog 168 #[] w fun e w' => ∃ v, e = .returned v ∧ PartAt w' w.heap.size v rnL ∧ Below w.heap.size w w' := by
  go_enter Tryz.func168, Tryz.ntmps168
  go_wp2_with fail
  refine (load_at 4 0 128 _).mono ?_; rintro e w1 ⟨rfl, g1⟩
  have G1 := Lib.hid (bel_trans (Below.refl w.heap.size w) g1)
  clear g1
  go_wp2_with fail
  refine (number_at 2 4 4 16 _ (by omega)).mono ?_; rintro e w2 ⟨rfl, g2⟩
  have G2 := Lib.hid (bel_trans G1.out g2)
  clear g2
  have P := Lib.hid (part_new w2 (rnL) 2 rfl)
  go_wp2_with fail
  go_ret
  exact ⟨_, rfl, P.out.low (G2.out).size, (G2.out).alloc (G2.out).size _⟩
theorem die_at (w : World) : Calls Tryz.prog 169 #[] w fun e w' => ∃ v, e = .returned v ∧ PartAt w' w.heap.size v [nI 23 0 4 76] ∧ Below w.heap.size w w' := by
  go_enter Tryz.func169, Tryz.ntmps169
  go_wp2_with fail
  refine (store_at 0 4 76 _).mono ?_; rintro e w1 ⟨rfl, g1⟩
  have G1 := Lib.hid (bel_trans (Below.refl w.heap.size w) g1)
  clear g1
  have P := Lib.hid (part_new w1 ([nI 23 0 4 76]) 1 rfl)
  go_wp2_with fail
  go_ret
  exact ⟨_, rfl, P.out.low (G1.out).size, (G1.out).alloc (G1.out).size _⟩
theorem split_at (w : World) : Calls Tryz.prog 171 #[] w fun e w' => ∃ v, e = .returned v ∧ PartAt w' w.heap.size v spL ∧ Below w.heap.size w w' := by
  go_enter Tryz.func171, Tryz.ntmps171
  go_wp2_with fail
  refine (number_at 5 3 2 31 _ (by omega)).mono ?_; rintro e w1 ⟨rfl, g1⟩
  have G1 := Lib.hid (bel_trans (Below.refl w.heap.size w) g1)
  clear g1
  go_wp2_with fail
  refine (alu_at 1 2 2 3 _ (by omega)).mono ?_; rintro e w2 ⟨rfl, g2⟩
  have G2 := Lib.hid (bel_trans G1.out g2)
  clear g2
  have P := Lib.hid (part_new w2 (spL) 3 rfl)
  go_wp2_with fail
  go_ret
  exact ⟨_, rfl, P.out.low (G2.out).size, (G2.out).alloc (G2.out).size _⟩
theorem compareInvalid_at (w : World) : Calls Tryz.prog 172 #[] w fun e w' => ∃ v, e = .returned v ∧ PartAt w' w.heap.size v ciL ∧ Below w.heap.size w w' := by
  go_enter Tryz.func172, Tryz.ntmps172
  go_wp2_with fail
  refine (alu_at 9 1 1 3 _ (by omega)).mono ?_; rintro e w1 ⟨rfl, g1⟩
  have G1 := Lib.hid (bel_trans (Below.refl w.heap.size w) g1)
  clear g1
  have P := Lib.hid (part_new w1 (ciL) 3 rfl)
  go_wp2_with fail
  go_ret
  exact ⟨_, rfl, P.out.low (G1.out).size, (G1.out).alloc (G1.out).size _⟩
theorem enter_at (w : World) : Calls Tryz.prog 173 #[] w fun e w' => ∃ v, e = .returned v ∧ PartAt w' w.heap.size v enL ∧ Below w.heap.size w w' := by
  go_enter Tryz.func173, Tryz.ntmps173
  go_wp2_with fail
  have P := Lib.hid (part_new w (enL) 1 rfl)
  go_ret
  exact ⟨_, rfl, P.out.low ((Below.refl w.heap.size w)).size, ((Below.refl w.heap.size w)).alloc ((Below.refl w.heap.size w)).size _⟩
theorem ahead_at (nw : Int) (w : World) (hn : 2 ≤ nw ∧ nw ≤ 32) : Calls Tryz.prog 175 #[.int .i64 nw] w fun e w' => ∃ v, e = .returned v ∧ PartAt w' w.heap.size v (ahL nw) ∧ Below w.heap.size w w' := by
  obtain ⟨n2, n32⟩ := hn
  have wn : IntKind.i32.wrap nw = nw := IntWalk.i32_in _ (by omega)
  go_enter Tryz.func175, Tryz.ntmps175
  go_wp2_with fail
  refine (number_at 0 3 3 1 _ (by omega)).mono ?_; rintro e w1 ⟨rfl, g1⟩
  have G1 := Lib.hid (bel_trans (Below.refl w.heap.size w) g1)
  clear g1
  go_wp2_with fail
  refine (number_at 4 3 3 nw _ (by omega)).mono ?_; rintro e w2 ⟨rfl, g2⟩
  have G2 := Lib.hid (bel_trans G1.out g2)
  clear g2
  have P := Lib.hid (part_new w2 (ahL nw) 2 rfl)
  go_wp2_with fail
  go_ret
  exact ⟨_, rfl, P.out.low (G2.out).size, (G2.out).alloc (G2.out).size _⟩
theorem pause_at (w : World) : Calls Tryz.prog 177 #[] w fun e w' => ∃ v, e = .returned v ∧ PartAt w' w.heap.size v paL ∧ Below w.heap.size w w' := by
  go_enter Tryz.func177, Tryz.ntmps177
  go_wp2_with fail
  refine (store_at 1 4 64 _).mono ?_; rintro e w1 ⟨rfl, g1⟩
  have G1 := Lib.hid (bel_trans (Below.refl w.heap.size w) g1)
  clear g1
  go_wp2_with fail
  refine (store_at 14 4 68 _).mono ?_; rintro e w2 ⟨rfl, g2⟩
  have G2 := Lib.hid (bel_trans G1.out g2)
  clear g2
  have P := Lib.hid (part_new w2 (paL) 3 rfl)
  go_wp2_with fail
  go_ret
  exact ⟨_, rfl, P.out.low (G2.out).size, (G2.out).alloc (G2.out).size _⟩
theorem beginCount_at (w : World) : Calls Tryz.prog 178 #[] w fun e w' => ∃ v, e = .returned v ∧ PartAt w' w.heap.size v bcL ∧ Below w.heap.size w w' := by
  go_enter Tryz.func178, Tryz.ntmps178
  go_wp2_with fail
  refine (load_at 5 0 132 _).mono ?_; rintro e w1 ⟨rfl, g1⟩
  have G1 := Lib.hid (bel_trans (Below.refl w.heap.size w) g1)
  clear g1
  go_wp2_with fail
  refine (number_at 2 5 5 16 _ (by omega)).mono ?_; rintro e w2 ⟨rfl, g2⟩
  have G2 := Lib.hid (bel_trans G1.out g2)
  clear g2
  go_wp2_with fail
  refine (set_at 6 0 _).mono ?_; rintro e w3 ⟨rfl, g3⟩
  have G3 := Lib.hid (bel_trans G2.out g3)
  clear g3
  go_wp2_with fail
  refine (set_at 4 0 _).mono ?_; rintro e w4 ⟨rfl, g4⟩
  have G4 := Lib.hid (bel_trans G3.out g4)
  clear g4
  have P := Lib.hid (part_new w4 (bcL) 4 rfl)
  go_wp2_with fail
  go_ret
  exact ⟨_, rfl, P.out.low (G4.out).size, (G4.out).alloc (G4.out).size _⟩
theorem countOne_at (w : World) : Calls Tryz.prog 179 #[] w fun e w' => ∃ v, e = .returned v ∧ PartAt w' w.heap.size v coL ∧ Below w.heap.size w w' := by
  go_enter Tryz.func179, Tryz.ntmps179
  go_wp2_with fail
  refine (load_at 1 4 76 _).mono ?_; rintro e w1 ⟨rfl, g1⟩
  have G1 := Lib.hid (bel_trans (Below.refl w.heap.size w) g1)
  clear g1
  go_wp2_with fail
  refine (alu_at 0 6 6 1 _ (by omega)).mono ?_; rintro e w2 ⟨rfl, g2⟩
  have G2 := Lib.hid (bel_trans G1.out g2)
  clear g2
  have P := Lib.hid (part_new w2 (coL) 2 rfl)
  go_wp2_with fail
  go_ret
  exact ⟨_, rfl, P.out.low (G2.out).size, (G2.out).alloc (G2.out).size _⟩
theorem nextBlock_at (w : World) : Calls Tryz.prog 180 #[] w fun e w' => ∃ v, e = .returned v ∧ PartAt w' w.heap.size v nbL ∧ Below w.heap.size w w' := by
  go_enter Tryz.func180, Tryz.ntmps180
  go_wp2_with fail
  refine (number_at 0 4 4 16 _ (by omega)).mono ?_; rintro e w1 ⟨rfl, g1⟩
  have G1 := Lib.hid (bel_trans (Below.refl w.heap.size w) g1)
  clear g1
  have P := Lib.hid (part_new w1 (nbL) 1 rfl)
  go_wp2_with fail
  go_ret
  exact ⟨_, rfl, P.out.low (G1.out).size, (G1.out).alloc (G1.out).size _⟩
theorem compareBeyond_at (w : World) : Calls Tryz.prog 181 #[] w fun e w' => ∃ v, e = .returned v ∧ PartAt w' w.heap.size v cyL ∧ Below w.heap.size w w' := by
  go_enter Tryz.func181, Tryz.ntmps181
  go_wp2_with fail
  have P := Lib.hid (part_new w (cyL) 1 rfl)
  go_ret
  exact ⟨_, rfl, P.out.low ((Below.refl w.heap.size w)).size, ((Below.refl w.heap.size w)).alloc ((Below.refl w.heap.size w)).size _⟩
theorem choose_at (w : World) : Calls Tryz.prog 182 #[] w fun e w' => ∃ v, e = .returned v ∧ PartAt w' w.heap.size v chL ∧ Below w.heap.size w w' := by
  go_enter Tryz.func182, Tryz.ntmps182
  go_wp2_with fail
  refine (number_at 5 1 7 1 _ (by omega)).mono ?_; rintro e w1 ⟨rfl, g1⟩
  have G1 := Lib.hid (bel_trans (Below.refl w.heap.size w) g1)
  clear g1
  go_wp2_with fail
  refine (number_at 9 7 7 1 _ (by omega)).mono ?_; rintro e w2 ⟨rfl, g2⟩
  have G2 := Lib.hid (bel_trans G1.out g2)
  clear g2
  go_wp2_with fail
  refine (alu_at 4 7 7 6 _ (by omega)).mono ?_; rintro e w3 ⟨rfl, g3⟩
  have G3 := Lib.hid (bel_trans G2.out g3)
  clear g3
  go_wp2_with fail
  refine (alu_at 0 7 7 7 _ (by omega)).mono ?_; rintro e w4 ⟨rfl, g4⟩
  have G4 := Lib.hid (bel_trans G3.out g4)
  clear g4
  go_wp2_with fail
  refine (alu_at 0 7 7 1 _ (by omega)).mono ?_; rintro e w5 ⟨rfl, g5⟩
  have G5 := Lib.hid (bel_trans G4.out g5)
  clear g5
  go_wp2_with fail
  refine (alu_at 4 7 7 6 _ (by omega)).mono ?_; rintro e w6 ⟨rfl, g6⟩
  have G6 := Lib.hid (bel_trans G5.out g6)
  clear g6
  go_wp2_with fail
  refine (set_at 4 0 _).mono ?_; rintro e w7 ⟨rfl, g7⟩
  have G7 := Lib.hid (bel_trans G6.out g7)
  clear g7
  have P := Lib.hid (part_new w7 (chL) 8 rfl)
  go_wp2_with fail
  go_ret
  exact ⟨_, rfl, P.out.low (G7.out).size, (G7.out).alloc (G7.out).size _⟩
theorem passOne_at (w : World) : Calls Tryz.prog 183 #[] w fun e w' => ∃ v, e = .returned v ∧ PartAt w' w.heap.size v poL ∧ Below w.heap.size w w' := by
  go_enter Tryz.func183, Tryz.ntmps183
  go_wp2_with fail
  refine (load_at 1 4 76 _).mono ?_; rintro e w1 ⟨rfl, g1⟩
  have G1 := Lib.hid (bel_trans (Below.refl w.heap.size w) g1)
  clear g1
  go_wp2_with fail
  refine (alu_at 1 7 7 1 _ (by omega)).mono ?_; rintro e w2 ⟨rfl, g2⟩
  have G2 := Lib.hid (bel_trans G1.out g2)
  clear g2
  have P := Lib.hid (part_new w2 (poL) 3 rfl)
  go_wp2_with fail
  go_ret
  exact ⟨_, rfl, P.out.low (G2.out).size, (G2.out).alloc (G2.out).size _⟩
theorem makeRunning_at (w : World) : Calls Tryz.prog 184 #[] w fun e w' => ∃ v, e = .returned v ∧ PartAt w' w.heap.size v mrL ∧ Below w.heap.size w w' := by
  go_enter Tryz.func184, Tryz.ntmps184
  go_wp2_with fail
  refine (number_at 3 1 4 16 _ (by omega)).mono ?_; rintro e w1 ⟨rfl, g1⟩
  have G1 := Lib.hid (bel_trans (Below.refl w.heap.size w) g1)
  clear g1
  go_wp2_with fail
  refine (store_at 1 0 128 _).mono ?_; rintro e w2 ⟨rfl, g2⟩
  have G2 := Lib.hid (bel_trans G1.out g2)
  clear g2
  go_wp2_with fail
  refine (load_at 1 4 72 _).mono ?_; rintro e w3 ⟨rfl, g3⟩
  have G3 := Lib.hid (bel_trans G2.out g3)
  clear g3
  go_wp2_with fail
  refine (store_at 1 0 136 _).mono ?_; rintro e w4 ⟨rfl, g4⟩
  have G4 := Lib.hid (bel_trans G3.out g4)
  clear g4
  go_wp2_with fail
  refine (load_at 14 4 68 _).mono ?_; rintro e w5 ⟨rfl, g5⟩
  have G5 := Lib.hid (bel_trans G4.out g5)
  clear g5
  have P := Lib.hid (part_new w5 (mrL) 5 rfl)
  go_wp2_with fail
  go_ret
  exact ⟨_, rfl, P.out.low (G5.out).size, (G5.out).alloc (G5.out).size _⟩
theorem invalidate_at (w : World) : Calls Tryz.prog 185 #[] w fun e w' => ∃ v, e = .returned v ∧ PartAt w' w.heap.size v ivL ∧ Below w.heap.size w w' := by
  go_enter Tryz.func185, Tryz.ntmps185
  go_wp2_with fail
  refine (set_at 1 1 _).mono ?_; rintro e w1 ⟨rfl, g1⟩
  have G1 := Lib.hid (bel_trans (Below.refl w.heap.size w) g1)
  clear g1
  go_wp2_with fail
  refine (alu_at 8 1 1 3 _ (by omega)).mono ?_; rintro e w2 ⟨rfl, g2⟩
  have G2 := Lib.hid (bel_trans G1.out g2)
  clear g2
  have P := Lib.hid (part_new w2 (ivL) 3 rfl)
  go_wp2_with fail
  go_ret
  exact ⟨_, rfl, P.out.low (G2.out).size, (G2.out).alloc (G2.out).size _⟩
theorem goOn_at (w : World) : Calls Tryz.prog 187 #[] w fun e w' => ∃ v, e = .returned v ∧ PartAt w' w.heap.size v goL ∧ Below w.heap.size w w' := by
  go_enter Tryz.func187, Tryz.ntmps187
  go_wp2_with fail
  refine (load_at 1 4 64 _).mono ?_; rintro e w1 ⟨rfl, g1⟩
  have G1 := Lib.hid (bel_trans (Below.refl w.heap.size w) g1)
  clear g1
  have P := Lib.hid (part_new w1 (goL) 3 rfl)
  go_wp2_with fail
  go_ret
  exact ⟨_, rfl, P.out.low (G1.out).size, (G1.out).alloc (G1.out).size _⟩
end Go.Proofs.YtiobgnelhiadbaaGreatDoor.S10
