/- Package swap as it has landed: the parts of the handlers, as slices of instructions. Package swap as it has landed: pieces as closures; what appends them. Package swap as it has landed: a list of pieces is appended. The handlers of yield and end as a list of pieces: what they make of a list, and its words. -/
import Derived.Test.YtiobgnelhiadbaaGreatDoorXWindGC
import Derived.Test.YtiobgnelhiadbaaGreatDoorXSwapGP
import Derived.Test.YtiobgnelhiadbaaGreatDoorXAsmG
namespace Go.Proofs.YtiobgnelhiadbaaGreatDoor.S10
open Go.RowKit
open A7 (XI XB)
open W8 (PartAt part_new rowsOf part_own inst_under inst_parts instZ rowsOf_cells)
set_option linter.unusedVariables false
attribute [local go_sem] Oper.semAt_some
/-- An instruction is stored over another. -/
theorem i_store {ops : Array Oper} {rest : List Oper} {o : Oper} {a : Act} {w : World} {Q : Exit → Act → World → Prop} (hgd : o.guard = none) (x y : Operand) (ho : o.op = .store 88 x y) (b : Nat) (a0 a1 a2 a3 : Int) (a4 : Bool) (a5 b0 b1 b2 b3 : Int) (b4 : Bool) (b5 : Int) (hx : a.eval x = .pointer (some ⟨b, 0, none⟩))
    (hy : a.eval y = .agg #[.int .u8 b0, .int .u8 b1, .int .u8 b2, .int .u8 b3, .bool b4, .int .i32 b5]) (hr : w.heap[b]? = some (.cells #[.int .u8 a0, .int .u8 a1, .int .u8 a2, .int .u8 a3, .bool a4, .int .i32 a5] 88 (0, 0)))
    (h : ∀ V : World, V.heap[b]? = some (.cells #[.int .u8 b0, .int .u8 b1, .int .u8 b2, .int .u8 b3, .bool b4, .int .i32 b5] 88 (0, 0)) → w.grownBy V (some b) → wpList Tryz.prog ops Q rest (a.put o.dst undef) V) : wpList Tryz.prog ops Q (o :: rest) a w :=
  wpList_store_row hgd 88 x y ho b #[.int .u8 b0, .int .u8 b1, .int .u8 b2, .int .u8 b3, .bool b4, .int .i32 b5] hx hy 88 #[.int .u8 a0, .int .u8 a1, .int .u8 a2, .int .u8 a3, .bool a4, .int .i32 a5] hr (by kernel_rfl) rfl (by rw [Array.all_eq_true_iff_forall_mem]; intro v hv; simp at hv; rcases hv with rfl | rfl | rfl | rfl | rfl | rfl <;> rfl) (h _ (setRow_heap _ _ _ _ _ _ hr) (only_row ⟨rfl, rfl, rfl, Nat.le_refl _, fun _ _ _ => rfl⟩ rfl))
theorem load_at (d s n : Int) (w : World) : Calls Tryz.prog 245 #[.int .u8 d, .int .u8 s, .int .i32 n] w fun e w' => e = .returned (.agg #[.int .u8 22, .int .u8 d, .int .u8 s, .int .u8 0, .bool true, .int .i32 n]) ∧ Below w.heap.size w w' := by
  go_enter Tryz.func245, Tryz.ntmps245
  go_wp2
  refine bodyPost_ret (v := .agg #[.int .u8 22, .int .u8 d, .int .u8 s, .int .u8 0, .bool true, .int .i32 n]) (by simp [results, Tryz.results245, go_sem]) rfl ⟨rfl, (Below.refl _ _).alloc (Nat.le_refl _) _⟩
theorem store_at (d s n : Int) (w : World) : Calls Tryz.prog 247 #[.int .u8 d, .int .u8 s, .int .i32 n] w fun e w' => e = .returned (.agg #[.int .u8 23, .int .u8 d, .int .u8 s, .int .u8 0, .bool true, .int .i32 n]) ∧ Below w.heap.size w w' := by
  go_enter Tryz.func247, Tryz.ntmps247
  go_wp2
  refine bodyPost_ret (v := .agg #[.int .u8 23, .int .u8 d, .int .u8 s, .int .u8 0, .bool true, .int .i32 n]) (by simp [results, Tryz.results247, go_sem]) rfl ⟨rfl, (Below.refl _ _).alloc (Nat.le_refl _) _⟩
theorem number_at (o d s n : Int) (w : World) (ho : 0 ≤ o ∧ o ≤ 13) : Calls Tryz.prog 246 #[.int .u8 o, .int .u8 d, .int .u8 s, .int .i32 n] w fun e w' => e = .returned (.agg #[.int .u8 (1 + o), .int .u8 d, .int .u8 s, .int .u8 0, .bool true, .int .i32 n]) ∧ Below w.heap.size w w' := by
  have wo : IntKind.u8.wrap (1 + o) = 1 + o := IntWalk.u8_in _ (by omega)
  go_enter Tryz.func246, Tryz.ntmps246
  go_wp2
  refine bodyPost_ret (v := .agg #[.int .u8 (1 + o), .int .u8 d, .int .u8 s, .int .u8 0, .bool true, .int .i32 n]) (by simp [results, Tryz.results246, go_sem]) rfl ⟨rfl, (Below.refl _ _).alloc (Nat.le_refl _) _⟩
theorem alu_at (o d s t : Int) (w : World) (ho : 0 ≤ o ∧ o ≤ 13) : Calls Tryz.prog 250 #[.int .u8 o, .int .u8 d, .int .u8 s, .int .u8 t] w fun e w' => e = .returned (.agg #[.int .u8 (1 + o), .int .u8 d, .int .u8 s, .int .u8 t, .bool false, .int .i32 0]) ∧ Below w.heap.size w w' := by
  have wo : IntKind.u8.wrap (1 + o) = 1 + o := IntWalk.u8_in _ (by omega)
  go_enter Tryz.func250, Tryz.ntmps250
  go_wp2
  refine bodyPost_ret (v := .agg #[.int .u8 (1 + o), .int .u8 d, .int .u8 s, .int .u8 t, .bool false, .int .i32 0]) (by simp [results, Tryz.results250, go_sem]) rfl ⟨rfl, (Below.refl _ _).alloc (Nat.le_refl _) _⟩
set_option maxRecDepth 100000 in
theorem set_at (d n : Int) (w : World) : Calls Tryz.prog 253 #[.int .u8 d, .int .i32 n] w fun e w' => e = .returned (.agg #[.int .u8 1, .int .u8 d, .int .u8 0, .int .u8 0, .bool true, .int .i32 n]) ∧ Below w.heap.size w w' := by
  have g0 := Lib.hid ((Below.refl w.heap.size w).alloc (Nat.le_refl _) (.cells #[.int .u8 0, .int .u8 0, .int .u8 0, .int .u8 0, .bool false, .int .i32 0] 88))
  have z0 : Hid ((w.alloc (.cells #[.int .u8 0, .int .u8 0, .int .u8 0, .int .u8 0, .bool false, .int .i32 0] 88)).heap[w.heap.size]? = some (.cells #[.int .u8 0, .int .u8 0, .int .u8 0, .int .u8 0, .bool false, .int .i32 0] 88 (0, 0))) := heap_alloc_last _ _
  go_enter Tryz.func253, Tryz.ntmps253
  go_wp2_with fail
  refine (number_at 0 d 0 n _ (by omega)).mono ?_; rintro e w1 ⟨rfl, g1⟩
  have z1 := Lib.hid (bel_heap g1 z0.out)
  have G1 := Lib.hid (bel_trans g0.out g1)
  clear g1 g0 z0
  go_wp2_with (refine i_store rfl (.tmp 4) (.tmp 7) rfl w.heap.size _ _ _ _ _ _ _ _ _ _ _ _ rfl rfl z1.out ?_; intro V r2 g2; have G2 := Lib.hid (only_bel G1.out g2 (Nat.le_refl _)); have R2 := Lib.hid r2; clear r2 g2)
  have c0 := row_cell R2.out (j := 0) rfl
  have c1 := row_cell R2.out (j := 1) rfl
  have c2 := row_cell R2.out (j := 2) rfl
  have c3 := row_cell R2.out (j := 3) rfl
  have c4 := row_cell R2.out (j := 4) rfl
  have c5 := row_cell R2.out (j := 5) rfl
  refine bodyPost_ret (v := .agg #[.int .u8 1, .int .u8 d, .int .u8 0, .int .u8 0, .bool true, .int .i32 n]) (by simp [results, Tryz.results253, go_sem, c0, c1, c2, c3, c4, c5]) rfl ⟨rfl, G2.out⟩
theorem running_at (w : World) : Calls Tryz.prog 168 #[] w fun e w' => ∃ v, e = .returned v ∧ PartAt w' w.heap.size v rnL ∧ Below w.heap.size w w' := by
  go_enter Tryz.func168, Tryz.ntmps168
  go_wp2_with fail
  refine (load_at 4 0 128 _).mono ?_; rintro e w1 ⟨rfl, g1⟩
  have G1 := Lib.hid (bel_trans (Below.refl w.heap.size w) g1)
  clear g1
  go_wp2_with fail
  refine (number_at 2 4 4 16 _ (by omega)).mono ?_; rintro e w2 ⟨rfl, g2⟩
  have G2 := Lib.hid (bel_trans G1.out g2)
  clear g2
  have P := Lib.hid (part_new w2 (rnL) 2 rfl)
  go_wp2_with fail
  go_ret
  exact ⟨_, rfl, P.out.low (G2.out).size, (G2.out).alloc (G2.out).size _⟩
theorem die_at (w : World) : Calls Tryz.prog 169 #[] w fun e w' => ∃ v, e = .returned v ∧ PartAt w' w.heap.size v [nI 23 0 4 76] ∧ Below w.heap.size w w' := by
  go_enter Tryz.func169, Tryz.ntmps169
  go_wp2_with fail
  refine (store_at 0 4 76 _).mono ?_; rintro e w1 ⟨rfl, g1⟩
  have G1 := Lib.hid (bel_trans (Below.refl w.heap.size w) g1)
  clear g1
  have P := Lib.hid (part_new w1 ([nI 23 0 4 76]) 1 rfl)
  go_wp2_with fail
  go_ret
  exact ⟨_, rfl, P.out.low (G1.out).size, (G1.out).alloc (G1.out).size _⟩
theorem split_at (w : World) : Calls Tryz.prog 171 #[] w fun e w' => ∃ v, e = .returned v ∧ PartAt w' w.heap.size v spL ∧ Below w.heap.size w w' := by
  go_enter Tryz.func171, Tryz.ntmps171
  go_wp2_with fail
  refine (number_at 5 3 2 31 _ (by omega)).mono ?_; rintro e w1 ⟨rfl, g1⟩
  have G1 := Lib.hid (bel_trans (Below.refl w.heap.size w) g1)
  clear g1
  go_wp2_with fail
  refine (alu_at 1 2 2 3 _ (by omega)).mono ?_; rintro e w2 ⟨rfl, g2⟩
  have G2 := Lib.hid (bel_trans G1.out g2)
  clear g2
  have P := Lib.hid (part_new w2 (spL) 3 rfl)
  go_wp2_with fail
  go_ret
  exact ⟨_, rfl, P.out.low (G2.out).size, (G2.out).alloc (G2.out).size _⟩
theorem compareInvalid_at (w : World) : Calls Tryz.prog 172 #[] w fun e w' => ∃ v, e = .returned v ∧ PartAt w' w.heap.size v ciL ∧ Below w.heap.size w w' := by
  go_enter Tryz.func172, Tryz.ntmps172
  go_wp2_with fail
  refine (alu_at 9 1 1 3 _ (by omega)).mono ?_; rintro e w1 ⟨rfl, g1⟩
  have G1 := Lib.hid (bel_trans (Below.refl w.heap.size w) g1)
  clear g1
  have P := Lib.hid (part_new w1 (ciL) 3 rfl)
  go_wp2_with fail
  go_ret
  exact ⟨_, rfl, P.out.low (G1.out).size, (G1.out).alloc (G1.out).size _⟩
theorem enter_at (w : World) : Calls Tryz.prog 173 #[] w fun e w' => ∃ v, e = .returned v ∧ PartAt w' w.heap.size v enL ∧ Below w.heap.size w w' := by
  go_enter Tryz.func173, Tryz.ntmps173
  go_wp2_with fail
  have P := Lib.hid (part_new w (enL) 1 rfl)
  go_ret
  exact ⟨_, rfl, P.out.low ((Below.refl w.heap.size w)).size, ((Below.refl w.heap.size w)).alloc ((Below.refl w.heap.size w)).size _⟩
theorem ahead_at (nw : Int) (w : World) (hn : 2 ≤ nw ∧ nw ≤ 32) : Calls Tryz.prog 175 #[.int .i64 nw] w fun e w' => ∃ v, e = .returned v ∧ PartAt w' w.heap.size v (ahL nw) ∧ Below w.heap.size w w' := by
  obtain ⟨n2, n32⟩ := hn
  have wn : IntKind.i32.wrap nw = nw := IntWalk.i32_in _ (by omega)
  go_enter Tryz.func175, Tryz.ntmps175
  go_wp2_with fail
  refine (number_at 0 3 3 1 _ (by omega)).mono ?_; rintro e w1 ⟨rfl, g1⟩
  have G1 := Lib.hid (bel_trans (Below.refl w.heap.size w) g1)
  clear g1
  go_wp2_with fail
  refine (number_at 4 3 3 nw _ (by omega)).mono ?_; rintro e w2 ⟨rfl, g2⟩
  have G2 := Lib.hid (bel_trans G1.out g2)
  clear g2
  have P := Lib.hid (part_new w2 (ahL nw) 2 rfl)
  go_wp2_with fail
  go_ret
  exact ⟨_, rfl, P.out.low (G2.out).size, (G2.out).alloc (G2.out).size _⟩
theorem pause_at (w : World) : Calls Tryz.prog 177 #[] w fun e w' => ∃ v, e = .returned v ∧ PartAt w' w.heap.size v paL ∧ Below w.heap.size w w' := by
  go_enter Tryz.func177, Tryz.ntmps177
  go_wp2_with fail
  refine (store_at 1 4 64 _).mono ?_; rintro e w1 ⟨rfl, g1⟩
  have G1 := Lib.hid (bel_trans (Below.refl w.heap.size w) g1)
  clear g1
  go_wp2_with fail
  refine (store_at 14 4 68 _).mono ?_; rintro e w2 ⟨rfl, g2⟩
  have G2 := Lib.hid (bel_trans G1.out g2)
  clear g2
  have P := Lib.hid (part_new w2 (paL) 3 rfl)
  go_wp2_with fail
  go_ret
  exact ⟨_, rfl, P.out.low (G2.out).size, (G2.out).alloc (G2.out).size _⟩
theorem beginCount_at (w : World) : Calls Tryz.prog 178 #[] w fun e w' => ∃ v, e = .returned v ∧ PartAt w' w.heap.size v bcL ∧ Below w.heap.size w w' := by
  go_enter Tryz.func178, Tryz.ntmps178
  go_wp2_with fail
  refine (load_at 5 0 132 _).mono ?_; rintro e w1 ⟨rfl, g1⟩
  have G1 := Lib.hid (bel_trans (Below.refl w.heap.size w) g1)
  clear g1
  go_wp2_with fail
  refine (number_at 2 5 5 16 _ (by omega)).mono ?_; rintro e w2 ⟨rfl, g2⟩
  have G2 := Lib.hid (bel_trans G1.out g2)
  clear g2
  go_wp2_with fail
  refine (set_at 6 0 _).mono ?_; rintro e w3 ⟨rfl, g3⟩
  have G3 := Lib.hid (bel_trans G2.out g3)
  clear g3
  go_wp2_with fail
  refine (set_at 4 0 _).mono ?_; rintro e w4 ⟨rfl, g4⟩
  have G4 := Lib.hid (bel_trans G3.out g4)
  clear g4
  have P := Lib.hid (part_new w4 (bcL) 4 rfl)
  go_wp2_with fail
  go_ret
  exact ⟨_, rfl, P.out.low (G4.out).size, (G4.out).alloc (G4.out).size _⟩
theorem countOne_at (w : World) : Calls Tryz.prog 179 #[] w fun e w' => ∃ v, e = .returned v ∧ PartAt w' w.heap.size v coL ∧ Below w.heap.size w w' := by
  go_enter Tryz.func179, Tryz.ntmps179
  go_wp2_with fail
  refine (load_at 1 4 76 _).mono ?_; rintro e w1 ⟨rfl, g1⟩
  have G1 := Lib.hid (bel_trans (Below.refl w.heap.size w) g1)
  clear g1
  go_wp2_with fail
  refine (alu_at 0 6 6 1 _ (by omega)).mono ?_; rintro e w2 ⟨rfl, g2⟩
  have G2 := Lib.hid (bel_trans G1.out g2)
  clear g2
  have P := Lib.hid (part_new w2 (coL) 2 rfl)
  go_wp2_with fail
  go_ret
  exact ⟨_, rfl, P.out.low (G2.out).size, (G2.out).alloc (G2.out).size _⟩
theorem nextBlock_at (w : World) : Calls Tryz.prog 180 #[] w fun e w' => ∃ v, e = .returned v ∧ PartAt w' w.heap.size v nbL ∧ Below w.heap.size w w' := by
  go_enter Tryz.func180, Tryz.ntmps180
  go_wp2_with fail
  refine (number_at 0 4 4 16 _ (by omega)).mono ?_; rintro e w1 ⟨rfl, g1⟩
  have G1 := Lib.hid (bel_trans (Below.refl w.heap.size w) g1)
  clear g1
  have P := Lib.hid (part_new w1 (nbL) 1 rfl)
  go_wp2_with fail
  go_ret
  exact ⟨_, rfl, P.out.low (G1.out).size, (G1.out).alloc (G1.out).size _⟩
theorem compareBeyond_at (w : World) : Calls Tryz.prog 181 #[] w fun e w' => ∃ v, e = .returned v ∧ PartAt w' w.heap.size v cyL ∧ Below w.heap.size w w' := by
  go_enter Tryz.func181, Tryz.ntmps181
  go_wp2_with fail
  have P := Lib.hid (part_new w (cyL) 1 rfl)
  go_ret
  exact ⟨_, rfl, P.out.low ((Below.refl w.heap.size w)).size, ((Below.refl w.heap.size w)).alloc ((Below.refl w.heap.size w)).size _⟩
theorem choose_at (w : World) : Calls Tryz.prog 182 #[] w fun e w' => ∃ v, e = .returned v ∧ PartAt w' w.heap.size v chL ∧ Below w.heap.size w w' := by
  go_enter Tryz.func182, Tryz.ntmps182
  go_wp2_with fail
  refine (number_at 5 1 7 1 _ (by omega)).mono ?_; rintro e w1 ⟨rfl, g1⟩
  have G1 := Lib.hid (bel_trans (Below.refl w.heap.size w) g1)
  clear g1
  go_wp2_with fail
  refine (number_at 9 7 7 1 _ (by omega)).mono ?_; rintro e w2 ⟨rfl, g2⟩
  have G2 := Lib.hid (bel_trans G1.out g2)
  clear g2
  go_wp2_with fail
  refine (alu_at 4 7 7 6 _ (by omega)).mono ?_; rintro e w3 ⟨rfl, g3⟩
  have G3 := Lib.hid (bel_trans G2.out g3)
  clear g3
  go_wp2_with fail
  refine (alu_at 0 7 7 7 _ (by omega)).mono ?_; rintro e w4 ⟨rfl, g4⟩
  have G4 := Lib.hid (bel_trans G3.out g4)
  clear g4
  go_wp2_with fail
  refine (alu_at 0 7 7 1 _ (by omega)).mono ?_; rintro e w5 ⟨rfl, g5⟩
  have G5 := Lib.hid (bel_trans G4.out g5)
  clear g5
  go_wp2_with fail
  refine (alu_at 4 7 7 6 _ (by omega)).mono ?_; rintro e w6 ⟨rfl, g6⟩
  have G6 := Lib.hid (bel_trans G5.out g6)
  clear g6
  go_wp2_with fail
  refine (set_at 4 0 _).mono ?_; rintro e w7 ⟨rfl, g7⟩
  have G7 := Lib.hid (bel_trans G6.out g7)
  clear g7
  have P := Lib.hid (part_new w7 (chL) 8 rfl)
  go_wp2_with fail
  go_ret
  exact ⟨_, rfl, P.out.low (G7.out).size, (G7.out).alloc (G7.out).size _⟩
theorem passOne_at (w : World) : Calls Tryz.prog 183 #[] w fun e w' => ∃ v, e = .returned v ∧ PartAt w' w.heap.size v poL ∧ Below w.heap.size w w' := by
  go_enter Tryz.func183, Tryz.ntmps183
  go_wp2_with fail
  refine (load_at 1 4 76 _).mono ?_; rintro e w1 ⟨rfl, g1⟩
  have G1 := Lib.hid (bel_trans (Below.refl w.heap.size w) g1)
  clear g1
  go_wp2_with fail
  refine (alu_at 1 7 7 1 _ (by omega)).mono ?_; rintro e w2 ⟨rfl, g2⟩
  have G2 := Lib.hid (bel_trans G1.out g2)
  clear g2
  have P := Lib.hid (part_new w2 (poL) 3 rfl)
  go_wp2_with fail
  go_ret
  exact ⟨_, rfl, P.out.low (G2.out).size, (G2.out).alloc (G2.out).size _⟩
theorem makeRunning_at (w : World) : Calls Tryz.prog 184 #[] w fun e w' => ∃ v, e = .returned v ∧ PartAt w' w.heap.size v mrL ∧ Below w.heap.size w w' := by
  go_enter Tryz.func184, Tryz.ntmps184
  go_wp2_with fail
  refine (number_at 3 1 4 16 _ (by omega)).mono ?_; rintro e w1 ⟨rfl, g1⟩
  have G1 := Lib.hid (bel_trans (Below.refl w.heap.size w) g1)
  clear g1
  go_wp2_with fail
  refine (store_at 1 0 128 _).mono ?_; rintro e w2 ⟨rfl, g2⟩
  have G2 := Lib.hid (bel_trans G1.out g2)
  clear g2
  go_wp2_with fail
  refine (load_at 1 4 72 _).mono ?_; rintro e w3 ⟨rfl, g3⟩
  have G3 := Lib.hid (bel_trans G2.out g3)
  clear g3
  go_wp2_with fail
  refine (store_at 1 0 136 _).mono ?_; rintro e w4 ⟨rfl, g4⟩
  have G4 := Lib.hid (bel_trans G3.out g4)
  clear g4
  go_wp2_with fail
  refine (load_at 14 4 68 _).mono ?_; rintro e w5 ⟨rfl, g5⟩
  have G5 := Lib.hid (bel_trans G4.out g5)
  clear g5
  have P := Lib.hid (part_new w5 (mrL) 5 rfl)
  go_wp2_with fail
  go_ret
  exact ⟨_, rfl, P.out.low (G5.out).size, (G5.out).alloc (G5.out).size _⟩
theorem invalidate_at (w : World) : Calls Tryz.prog 185 #[] w fun e w' => ∃ v, e = .returned v ∧ PartAt w' w.heap.size v ivL ∧ Below w.heap.size w w' := by
  go_enter Tryz.func185, Tryz.ntmps185
  go_wp2_with fail
  refine (set_at 1 1 _).mono ?_; rintro e w1 ⟨rfl, g1⟩
  have G1 := Lib.hid (bel_trans (Below.refl w.heap.size w) g1)
  clear g1
  go_wp2_with fail
  refine (alu_at 8 1 1 3 _ (by omega)).mono ?_; rintro e w2 ⟨rfl, g2⟩
  have G2 := Lib.hid (bel_trans G1.out g2)
  clear g2
  have P := Lib.hid (part_new w2 (ivL) 3 rfl)
  go_wp2_with fail
  go_ret
  exact ⟨_, rfl, P.out.low (G2.out).size, (G2.out).alloc (G2.out).size _⟩
theorem goOn_at (w : World) : Calls Tryz.prog 187 #[] w fun e w' => ∃ v, e = .returned v ∧ PartAt w' w.heap.size v goL ∧ Below w.heap.size w w' := by
  go_enter Tryz.func187, Tryz.ntmps187
  go_wp2_with fail
  refine (load_at 1 4 64 _).mono ?_; rintro e w1 ⟨rfl, g1⟩
  have G1 := Lib.hid (bel_trans (Below.refl w.heap.size w) g1)
  clear g1
  have P := Lib.hid (part_new w1 (goL) 3 rfl)
  go_wp2_with fail
  go_ret
  exact ⟨_, rfl, P.out.low (G1.out).size, (G1.out).alloc (G1.out).size _⟩
end Go.Proofs.YtiobgnelhiadbaaGreatDoor.S10
namespace Go.Proofs.YtiobgnelhiadbaaGreatDoor.S10
open Go.RowKit
open A7 (XI XB AS AsmB Left Has NoAsm Ins)
open W8 (PartAt PartsAt part_new part_own catL gX_mem Concat_at rowsOf rowsOf_len rowsOf_cells inst_under inst_parts instZ gX frL)
set_option linter.unusedVariables false
attribute [local go_sem] Oper.semAt_some
theorem own_belS {W W' : World} {B k n : Nat} {t : TypeId} {s : Value} {xs : List Value} (h : W.ownsRow B t k s n xs) (g : Below W.heap.size W W') : W'.ownsRow B t k s n xs := by
  obtain ⟨h0, h | ⟨x, cap, cur, rfl, hB, hg, hr⟩⟩ := h
  · exact ⟨h0, .inl h⟩
  · exact ⟨h0, .inr ⟨x, cap, cur, rfl, hB, bel_heap g hg, hr⟩⟩
theorem comeBack_at (w : World) : Calls Tryz.prog 176 #[] w fun e w' => ∃ v, e = .returned v ∧ PartAt w' w.heap.size v cbL ∧ Below w.heap.size w w' := by
  obtain ⟨i0, hi, hz0, hz1, hz2⟩ := inst_parts
  go_enter Tryz.func176, Tryz.ntmps176
  go_wp2_with fail
  refine (number_at 5 3 3 31 _ (by omega)).mono ?_; rintro e w1 ⟨rfl, g1⟩
  have G1 := Lib.hid g1
  clear g1
  have O2 : Hid ((w1.alloc (.cells (rowsOf [nI 30 3 0 1, nI 6 3 3 31]).toArray 88)).ownsRow w.heap.size 88 6 (.slice (some ⟨w1.heap.size, 0, none⟩) 2 2) 2 (rowsOf [nI 30 3 0 1, nI 6 3 3 31])) :=
    ⟨rfl, .inr ⟨w1.heap.size, 2, _, rfl, G1.out.size, heap_alloc_last _ _, Nat.le_refl _, by decide, rfl, rfl⟩⟩
  have G2 : Hid (Below w.heap.size w (w1.alloc (.cells (rowsOf [nI 30 3 0 1, nI 6 3 3 31]).toArray 88))) := G1.out.alloc G1.out.size _
  go_wp2_with fail
  change Calls _ _ _ (w1.alloc (.cells (rowsOf [nI 30 3 0 1, nI 6 3 3 31]).toArray 88)) _
  generalize w1.alloc (.cells (rowsOf [nI 30 3 0 1, nI 6 3 3 31]).toArray 88) = W at O2 G2 ⊢
  refine (enter_at W).mono ?_; rintro e w3 ⟨v, rfl, hv, g3⟩
  obtain ⟨g, c, rfl, hB, hg, hc⟩ := hv
  have O3 := Lib.hid (own_belS O2.out g3)
  have G3 := Lib.hid (bel_trans G2.out g3)
  have HC : Hid (∀ q u, (rowsOf enL)[q]? = some u → w3.cell? ((⟨g, 0, none⟩ : Addr).add q) = some u) := fun q u hu => by rw [add_off, Nat.zero_add]; exact hc q u hu
  clear hc O2 G2 g3 G1
  go_wp2_with (at_builtin; (refine wpList_append_own_at _ rfl _ _ 113 rfl w.heap.size 88 i0 instZ 6 12 inst_under hi hz0 hz1 hz2 rfl (by decide) _ _ _ rfl O3.out ⟨g, 0, none⟩ 1 _ (rowsOf enL) rfl rfl HC.out (fun u hu => rowsOf_cells u hu) (by unfold maxLen; omega) (by omega) G3.out.size ?_; intro v' w4 hown hgrow _ _; have O4 := Lib.hid hown; have G4 := Lib.hid (G3.out.grown hgrow G3.out.size fun k e => (World.ownsRow.lt O3.out k e).1); clear hown hgrow))
  have PA : Hid (PartAt w4 w.heap.size v' cbL) := part_own (L := cbL) O4.out rfl (by decide)
  obtain ⟨vp, vc, rfl, _⟩ := id PA.out
  go_ret
  exact ⟨_, rfl, PA.out, G4.out⟩
/-- What a piece is. -/
inductive Pc where
  | put (k : Nat) (L : Nat → List XI)
  | mk (s : ByteArray)
  | jp (c : Int) (s : ByteArray)
  | st
  | ld
def okP (q : AS) : Pc → Prop
  | .put k L => 0 < k ∧ k ≤ 10 ∧ (∀ i, (L i).length ≤ 16) ∧ 0 < (catL L k).length ∧ (∀ x ∈ catL L k, XB x) ∧ (∀ x ∈ catL L k, x.may = true) ∧ q.n + (catL L k).length ≤ 100000
  | .mk s => s.size ≤ maxLen ∧ q.ms.length < 100000 ∧ A7.look q.ms s = none
  | .jp c s => (0 ≤ c ∧ c ≤ 6) ∧ s.size ≤ maxLen ∧ q.n + 1 ≤ 100000
  | .st => q.n + 16 ≤ 100000
  | .ld => q.n + 16 ≤ 100000
def doP (q : AS) : Pc → AS
  | .put k L => q.adds (fun i => (gX (catL L k) i).word) (catL L k).length
  | .mk s => q.mark s
  | .jp c s => q.jump 17 c s
  | .st => q.adds (fun i => (gX (frL 23) i).word) 16
  | .ld => q.adds (fun i => (gX (frL 22) i).word) 16
/-- A piece, as a closure, lies in world w, in no block below B. -/
def PieceAt (w : World) (B : Nat) (v : Value) : Pc → Prop
  | .put k L => ∃ bx t V, v = .func (.func 243) #[] #[.pointer (some ⟨bx, 0, none⟩)] ∧ B ≤ bx ∧ w.cell? ⟨bx, 0, none⟩ = some t ∧ PartsAt w B t k V L
  | .mk s => ∃ bx, v = .func (.func 241) #[] #[.pointer (some ⟨bx, 0, none⟩)] ∧ B ≤ bx ∧ w.cell? ⟨bx, 0, none⟩ = some (.string s)
  | .jp c s => ∃ bc bs, v = .func (.func 248) #[] #[.pointer (some ⟨bc, 0, none⟩), .pointer (some ⟨bs, 0, none⟩)] ∧ B ≤ bc ∧ B ≤ bs ∧ w.cell? ⟨bc, 0, none⟩ = some (.int .u8 c) ∧ w.cell? ⟨bs, 0, none⟩ = some (.string s)
  | .st => v = .func (.func 174) #[] #[]
  | .ld => v = .func (.func 186) #[] #[]
theorem PartAt.turns {w w' : World} {B : Nat} {G : Nat → Prop} {v : Value} {L : List XI} (h : PartAt w B v L) (T : A7.Turns G w w') (hG : ∀ i, G i → i < B) : PartAt w' B v L := by
  obtain ⟨g, c, rfl, hB, hg, hc⟩ := h
  exact ⟨g, c, rfl, hB, Nat.lt_of_lt_of_le hg T.size, fun j u hu => T.cell (fun e => absurd (hG g e) (Nat.not_lt.2 hB)) (hc j u hu)⟩
theorem PartsAt.turns {w w' : World} {B k : Nat} {G : Nat → Prop} {t : Value} {V : Nat → Value} {L : Nat → List XI} (h : PartsAt w B t k V L) (T : A7.Turns G w w') (hG : ∀ i, G i → i < B) : PartsAt w' B t k V L := by
  obtain ⟨x, c, rfl, hB, hc⟩ := h.at_
  exact ⟨⟨x, c, rfl, hB, fun i hi => T.cell (fun e => absurd (hG x e) (Nat.not_lt.2 hB)) (hc i hi)⟩, fun i hi => PartAt.turns (h.part i hi) T hG⟩
theorem PieceAt.turns {w w' : World} {B : Nat} {G : Nat → Prop} {v : Value} {p : Pc} (h : PieceAt w B v p) (T : A7.Turns G w w') (hG : ∀ i, G i → i < B) : PieceAt w' B v p := by
  have no : ∀ x, B ≤ x → ¬ G x := fun x hx e => absurd (hG x e) (Nat.not_lt.2 hx)
  cases p with
  | put k L => obtain ⟨bx, t, V, e, hb, hc, hp⟩ := h; exact ⟨bx, t, V, e, hb, T.cell (no _ hb) hc, PartsAt.turns hp T hG⟩
  | mk s => obtain ⟨bx, e, hb, hc⟩ := h; exact ⟨bx, e, hb, T.cell (no _ hb) hc⟩
  | jp c s => obtain ⟨bc, bs, e, h1, h2, h3, h4⟩ := h; exact ⟨bc, bs, e, h1, h2, T.cell (no _ h1) h3, T.cell (no _ h2) h4⟩
  | st => exact h
  | ld => exact h
theorem PieceAt.bel {w w' : World} {B : Nat} {v : Value} {p : Pc} (h : PieceAt w B v p) (k : Below w.heap.size w w') : PieceAt w' B v p :=
  h.turns (G := fun _ => False) (A7.Turns.of_bel k) fun _ e => e.elim
/-! They are made. -/
theorem mark_at (s : ByteArray) (w : World) : Calls Tryz.prog 166 #[.string s] w fun e w' => ∃ v, e = .returned v ∧ PieceAt w' w.heap.size v (.mk s) ∧ Below w.heap.size w w' := by
  have hmf : ∀ (fn : Fn) (first cap : Array Value) (w : World), (Instr.makeFunc fn first cap).run Tryz.prog w = .ok (.func fn first cap) w := fun _ _ _ _ => rfl
  go_enter Tryz.func166, Tryz.ntmps166
  go_wp2
  go_ret
  exact ⟨_, rfl, ⟨w.heap.size, rfl, Nat.le_refl _, row_cell (heap_alloc_last _ _) rfl⟩, (Below.refl _ _).alloc (Nat.le_refl _) _⟩
theorem jump_at (c : Int) (s : ByteArray) (w : World) : Calls Tryz.prog 170 #[.int .u8 c, .string s] w fun e w' => ∃ v, e = .returned v ∧ PieceAt w' w.heap.size v (.jp c s) ∧ Below w.heap.size w w' := by
  have hmf : ∀ (fn : Fn) (first cap : Array Value) (w : World), (Instr.makeFunc fn first cap).run Tryz.prog w = .ok (.func fn first cap) w := fun _ _ _ _ => rfl
  have g1 : Below w.heap.size w (w.alloc (.cells #[.int .u8 c] 5)) := (Below.refl _ _).alloc (Nat.le_refl _) _
  have g2 := Lib.hid (g1.alloc (o := .cells #[.string s] 9) g1.size)
  have c1 : Hid (((w.alloc (.cells #[.int .u8 c] 5)).alloc (.cells #[.string s] 9)).cell? ⟨w.heap.size, 0, none⟩ = some (.int .u8 c)) := bel_cell ((Below.refl _ _).alloc (Nat.le_refl _) _) (row_cell (heap_alloc_last _ _) rfl)
  have c2 : Hid (((w.alloc (.cells #[.int .u8 c] 5)).alloc (.cells #[.string s] 9)).cell? ⟨(w.alloc (.cells #[.int .u8 c] 5)).heap.size, 0, none⟩ = some (.string s)) := row_cell (heap_alloc_last _ _) rfl
  have e1 : (w.alloc (.cells #[.int .u8 c] 5)).heap.size = w.heap.size + 1 := by simp
  rw [e1] at c2
  clear g1 e1
  go_enter Tryz.func170, Tryz.ntmps170
  go_wp2
  go_ret
  exact ⟨_, rfl, ⟨w.heap.size, w.heap.size + 1, rfl, Nat.le_refl _, Nat.le_succ _, c1.out, c2.out⟩, g2.out⟩
theorem put_at {w : World} {B k : Nat} {t : Value} {V : Nat → Value} {L : Nat → List XI} (h : PartsAt w B t k V L) (hB : B ≤ w.heap.size) : Calls Tryz.prog 167 #[t] w fun e w' => ∃ v, e = .returned v ∧ PieceAt w' B v (.put k L) ∧ Below w.heap.size w w' := by
  have hmf : ∀ (fn : Fn) (first cap : Array Value) (w : World), (Instr.makeFunc fn first cap).run Tryz.prog w = .ok (.func fn first cap) w := fun _ _ _ _ => rfl
  have H := Lib.hid h
  obtain ⟨x, c, rfl, _⟩ := h.at_
  clear h
  go_enter Tryz.func167, Tryz.ntmps167
  go_wp2
  go_ret
  exact ⟨_, rfl, ⟨w.heap.size, _, V, rfl, hB, row_cell (heap_alloc_last _ _) rfl, H.out.bel ((Below.refl _ _).alloc (Nat.le_refl _) _)⟩, (Below.refl _ _).alloc (Nat.le_refl _) _⟩
/-! .. and called. -/
section
variable {w0 w w' : World} {b : Nat} {G G0 K : Nat → Prop} {q : AS}
theorem mark1_at {s : ByteArray} {bx : Nat} (h : Has w0 w b G0 q) (hc : w.cell? ⟨bx, 0, none⟩ = some (.string s)) (ok : okP q (.mk s)) : Calls Tryz.prog 241 #[.pointer (some ⟨b, 0, none⟩), .pointer (some ⟨bx, 0, none⟩)] w fun e w' => e = .returned (.int .i64 0) ∧ Has w0 w' b G0 (q.mark s) := by
  have C := Lib.hid (h.left fun G K A _ => A7.Mark_yes s ok.1 A ok.2.1 ok.2.2)
  clear h ok
  go_enter Tryz.func241, Tryz.ntmps241
  go_wp2_with fail
  refine C.out.mono ?_; rintro e w1 ⟨rfl, H⟩
  have H := Lib.hid H
  go_wp2_with fail
  go_ret
  exact ⟨rfl, H.out⟩
theorem jump1_at {c : Int} {s : ByteArray} {bc bs : Nat} (h : Has w0 w b G0 q) (h1 : w.cell? ⟨bc, 0, none⟩ = some (.int .u8 c)) (h2 : w.cell? ⟨bs, 0, none⟩ = some (.string s)) (ok : okP q (.jp c s)) : Calls Tryz.prog 248 #[.pointer (some ⟨b, 0, none⟩), .pointer (some ⟨bc, 0, none⟩), .pointer (some ⟨bs, 0, none⟩)] w fun e w' => e = .returned (.int .i64 0) ∧ Has w0 w' b G0 (q.jump 17 c s) := by
  have C := Lib.hid (h.left fun G K A _ => A7.Jump_yes c s A ok.1 ok.2.1 ok.2.2)
  clear h ok
  go_enter Tryz.func248, Tryz.ntmps248
  go_wp2_with fail
  refine C.out.mono ?_; rintro e w1 ⟨rfl, H⟩
  have H := Lib.hid H
  go_wp2_with fail
  go_ret
  exact ⟨rfl, H.out⟩
theorem put1_at {B k bx : Nat} {t : Value} {V : Nat → Value} {L : Nat → List XI} (h : Has w0 w b G0 q) (hx : w.cell? ⟨bx, 0, none⟩ = some t) (P : PartsAt w B t k V L) (ok : okP q (.put k L)) : Calls Tryz.prog 243 #[.pointer (some ⟨b, 0, none⟩), .pointer (some ⟨bx, 0, none⟩)] w fun e w' => e = .returned (.int .i64 0) ∧ Has w0 w' b G0 (doP q (.put k L)) := by
  obtain ⟨hk, hk2, hL, hp, hb, hm, hn⟩ := ok
  obtain ⟨G, K, A, lo, T⟩ := h
  have C := Lib.hid (Concat_at P hk hk2 hL hp)
  have AA := Lib.hid A
  have LO := Lib.hid lo
  have TT := Lib.hid T
  have HP : Hid (∀ W v, Below w.heap.size w W → PartAt W w.heap.size v (catL L k) → Calls Tryz.prog 37 #[.pointer (some ⟨b, 0, none⟩), v] W fun e w' => e = .returned (.int .i64 0) ∧ Has w0 w' b G0 (doP q (.put k L))) := fun W v g hv => by
    have TW : A7.Turns G0 w0 W := TT.out.trans (G' := fun _ => False) (A7.Turns.of_bel g) (fun _ e => e.elim)
    refine (A7.Put_yes (AA.out.bel g) (hv.ins AA.out.lt) (fun i hi => hb _ (gX_mem hi)) hn (fun i hi => hm _ (gX_mem hi))).mono ?_
    rintro e w' ⟨rfl, G', A', T', lo'⟩
    exact ⟨rfl, G', _, A', fun i hi => (lo' i hi).elim (LO.out i) fun e => .inr (Nat.le_trans TW.size e), TW.trans T' LO.out⟩
  clear A lo T P hk hk2 hL hp hb hm hn AA LO TT
  go_enter Tryz.func243, Tryz.ntmps243
  go_wp2_with fail
  refine C.out.mono ?_; rintro e w1 ⟨v, rfl, hv, g1⟩
  have D := Lib.hid (HP.out w1 v g1 hv)
  clear hv g1 C HP
  go_wp2_with fail
  refine D.out.mono ?_; rintro e w2 ⟨rfl, H2⟩
  have H2 := Lib.hid H2
  clear D
  go_wp2_with fail
  go_ret
  exact ⟨rfl, H2.out⟩
theorem frame_piece {o : Int} (ho : o = 22 ∨ o = 23) (h : Has w0 w b G0 q) (hn : q.n + 16 ≤ 100000) {B : Nat} {t : Value} {V : Nat → Value} (P : PartsAt w B t 1 V (fun _ => frL o)) :
    Calls Tryz.prog 251 #[.pointer (some ⟨b, 0, none⟩), t] w fun e w' => e = .returned (.int .i64 0) ∧ Has w0 w' b G0 (q.adds (fun i => (gX (frL o) i).word) 16) := by
  have hmem : ∀ x ∈ frL o, ∃ i, i < 16 ∧ x = W8.sFr o i := by intro x hx; simp only [frL, List.mem_map, List.mem_range] at hx; obtain ⟨i, hi, rfl⟩ := hx; exact ⟨i, hi, rfl⟩
  have := W8.put_at h P (by decide) (by decide) (fun _ => by show (frL o).length ≤ 16; exact Nat.le_of_eq rfl) (by show 0 < (frL o).length; exact Nat.succ_pos 15) (fun x hx => by obtain ⟨i, hi, rfl⟩ := hmem x hx; exact W8.sFr_b ho hi) (fun x hx => by obtain ⟨i, hi, rfl⟩ := hmem x hx; exact W8.sFr_may ho hi) hn
  exact this
theorem Store_at (h : Has w0 w b G0 q) (hn : q.n + 16 ≤ 100000) : Calls Tryz.prog 174 #[.pointer (some ⟨b, 0, none⟩)] w fun e w' => e = .returned (.int .i64 0) ∧ Has w0 w' b G0 (q.adds (fun i => (gX (frL 23) i).word) 16) := by
  have HH := Lib.hid h
  clear h
  go_enter Tryz.func174, Tryz.ntmps174
  go_wp2_with fail
  refine (W8.frame_at 23 w).mono ?_; rintro e w1 ⟨v, rfl, hv, g1⟩
  obtain ⟨x, c, rfl, hx⟩ := id hv
  have P1 := Lib.hid (W8.parts_new (W := w1) (B := w.heap.size) (V := fun _ => .slice (some ⟨x, 0, none⟩) (frL 23).length c) (L := fun _ => frL 23) 1 #[.slice (some ⟨x, 0, none⟩) (frL 23).length c] 113 (fun i hi => by have h0 : i = 0 := (by omega); subst h0; rfl) (fun i hi => hv) g1.size)
  have H1 := Lib.hid ((HH.out.bel g1).bel ((Below.refl _ _).alloc (Nat.le_refl _) (.cells #[.slice (some ⟨x, 0, none⟩) (frL 23).length c] 113)))
  have D := Lib.hid (frame_piece (.inr rfl) H1.out hn P1.out)
  clear hv g1 hx
  go_wp2_with fail
  refine D.out.mono ?_; rintro e w2 ⟨rfl, H2⟩
  have H2 := Lib.hid H2
  clear D
  go_wp2_with fail
  go_ret
  exact ⟨rfl, H2.out⟩
theorem Load_at (h : Has w0 w b G0 q) (hn : q.n + 16 ≤ 100000) : Calls Tryz.prog 186 #[.pointer (some ⟨b, 0, none⟩)] w fun e w' => e = .returned (.int .i64 0) ∧ Has w0 w' b G0 (q.adds (fun i => (gX (frL 22) i).word) 16) := by
  have HH := Lib.hid h
  clear h
  go_enter Tryz.func186, Tryz.ntmps186
  go_wp2_with fail
  refine (W8.frame_at 22 w).mono ?_; rintro e w1 ⟨v, rfl, hv, g1⟩
  obtain ⟨x, c, rfl, hx⟩ := id hv
  have P1 := Lib.hid (W8.parts_new (W := w1) (B := w.heap.size) (V := fun _ => .slice (some ⟨x, 0, none⟩) (frL 22).length c) (L := fun _ => frL 22) 1 #[.slice (some ⟨x, 0, none⟩) (frL 22).length c] 113 (fun i hi => by have h0 : i = 0 := (by omega); subst h0; rfl) (fun i hi => hv) g1.size)
  have H1 := Lib.hid ((HH.out.bel g1).bel ((Below.refl _ _).alloc (Nat.le_refl _) (.cells #[.slice (some ⟨x, 0, none⟩) (frL 22).length c] 113)))
  have D := Lib.hid (frame_piece (.inl rfl) H1.out hn P1.out)
  clear hv g1 hx
  go_wp2_with fail
  refine D.out.mono ?_; rintro e w2 ⟨rfl, H2⟩
  have H2 := Lib.hid H2
  clear D
  go_wp2_with fail
  go_ret
  exact ⟨rfl, H2.out⟩
end
end Go.Proofs.YtiobgnelhiadbaaGreatDoor.S10
namespace Go.Proofs.YtiobgnelhiadbaaGreatDoor.S10
open Go.RowKit
open A7 (XI XB AS AsmB Left Has NoAsm Ins)
open W8 (PartAt PartsAt catL gX frL)
set_option linter.unusedVariables false
theorem setCell_same {w : World} {x : Nat} {v : Value} {t : TypeId} {fr : Nat × Nat} (h : w.heap[x]? = some (.cells #[v] t fr)) : w.setCell ⟨x, 0, none⟩ v = w := by
  have e : (w.setCell ⟨x, 0, none⟩ v).heap = w.heap := by
    apply Array.ext_getElem?
    intro i
    by_cases hi : i = x
    · subst hi
      rw [h]
      simp [World.setCell, Array.getElem?_modify, h]
    · simp [World.setCell, Array.getElem?_modify]
      intro e
      exact absurd e.symm hi
  have e2 : w.setCell ⟨x, 0, none⟩ v = { w with heap := (w.setCell ⟨x, 0, none⟩ v).heap } := rfl
  rw [e2, e]
/-- The first pieces are done. -/
def doPs (p : Nat → Pc) (q : AS) : Nat → AS
  | 0 => q
  | k + 1 => doP (doPs p q k) (p k)
section
variable {w0 w w' : World} {b : Nat} {G G0 K : Nat → Prop} {q : AS}
set_option maxRecDepth 100000 in
set_option maxHeartbeats 4000000 in
theorem append_at {k c x bf ba : Nat} {B : Nat} {V : Nat → Value} {p : Nat → Pc} {tf ta : TypeId} (h : Has w w b G q) (hG : ∀ i, G i → i < B) (hx : B ≤ x) (hxc : ∀ i, i < k → w.cell? ⟨x, i, none⟩ = some (V i)) (hP : ∀ i, i < k → PieceAt w B (V i) (p i)) (hk : k ≤ 10) (hok : ∀ i, i < k → okP (doPs p q i) (p i))
    (nf : ¬ G bf) (na : ¬ G ba) (hf : w.heap[bf]? = some (.cells #[.int .i64 0] tf (0, 0))) (ha : w.heap[ba]? = some (.cells #[.pointer (some ⟨b, 0, none⟩)] ta (0, 0))) :
    Calls Tryz.prog 240 #[.slice (some ⟨x, 0, none⟩) k c, .pointer (some ⟨bf, 0, none⟩), .pointer (some ⟨ba, 0, none⟩)] w fun e w' => e = .returned (.int .i64 0) ∧ Has w w' b G (doPs p q k) := by
  have HP := Lib.hid hP
  have HC := Lib.hid hxc
  have HOK := Lib.hid hok
  have HH := Lib.hid h
  have HG := Lib.hid hG
  have NX : Hid (¬ G x) := fun e => absurd (hG x e) (Nat.not_lt.2 hx)
  have HF := Lib.hid (And.intro nf hf)
  have HA := Lib.hid (And.intro na ha)
  clear hP hxc hok h hG hx nf na hf ha
  go_enter Tryz.func240, Tryz.ntmps240
  go_wp2_with fail
  go_loopw [6, 9] (fun _ i wr => ∃ j : Nat, j ≤ k ∧ i = .int .i64 j ∧ Has w wr b G (doPs p q j)) (fun _ i _ => k - (intOf i).toNat)
  case atStart => exact ⟨0, Nat.zero_le _, rfl, HH.out⟩
  case round =>
    obtain ⟨j, hj, rfl, hw⟩ := hrel
    have HW := Lib.hid hw
    clear hw HH
    have T := HW.out.turns
    have hf := T.heap HF.out.1 HF.out.2
    have cf := row_cell hf (j := 0) rfl
    have ca := row_cell (T.heap HA.out.1 HA.out.2) (j := 0) rfl
    by_cases hlt : j < k
    · have cx := T.cell NX.out (HC.out j hlt)
      have PJ := (HP.out j hlt).turns T HG.out
      have OK := HOK.out j hlt
      have HD : Hid (doPs p q (j + 1) = doP (doPs p q j) (p j)) := rfl
      have HLT := Lib.hid hlt
      clear T hf
      cases hpj : p j with
      | put kk L =>
        rw [hpj] at PJ OK HD
        obtain ⟨bx, t, W, e, hb, hc, hp⟩ := PJ
        rw [e] at cx
        have C := Lib.hid (put1_at HW.out hc hp OK)
        clear hp hc OK e
        go_wp2_with fail
        refine C.out.mono ?_; rintro e w3 ⟨rfl, H3⟩
        have H3 := Lib.hid H3
        have hf3 := H3.out.turns.heap HF.out.1 HF.out.2
        have c3 := row_cell hf3 (j := 0) rfl
        have f3 : w3.frozen? ⟨bf, 0, none⟩ = false := row_frozen hf3
        have ES : Hid (w3.setCell ⟨bf, 0, none⟩ (.int .i64 0) = w3) := setCell_same hf3
        clear C cf ca cx hf3
        go_wp2_with fail
        rw [ES.out]
        go_roundw
        case rel => exact ⟨j + 1, HLT.out, by go_num, by rw [HD.out]; exact H3.out⟩
        case measure => have h9 := HLT.out; simp only [intOf]; omega
      | mk s =>
        rw [hpj] at PJ OK HD
        obtain ⟨bx, e, hb, hc⟩ := PJ
        rw [e] at cx
        have C := Lib.hid (mark1_at HW.out hc OK)
        clear hc OK e
        go_wp2_with fail
        refine C.out.mono ?_; rintro e w3 ⟨rfl, H3⟩
        have H3 := Lib.hid H3
        have hf3 := H3.out.turns.heap HF.out.1 HF.out.2
        have c3 := row_cell hf3 (j := 0) rfl
        have f3 : w3.frozen? ⟨bf, 0, none⟩ = false := row_frozen hf3
        have ES : Hid (w3.setCell ⟨bf, 0, none⟩ (.int .i64 0) = w3) := setCell_same hf3
        clear C cf ca cx hf3
        go_wp2_with fail
        rw [ES.out]
        go_roundw
        case rel => exact ⟨j + 1, HLT.out, by go_num, by rw [HD.out]; exact H3.out⟩
        case measure => have h9 := HLT.out; simp only [intOf]; omega
      | jp cc s =>
        rw [hpj] at PJ OK HD
        obtain ⟨bc, bs, e, h1, h2, h3, h4⟩ := PJ
        rw [e] at cx
        have C := Lib.hid (jump1_at HW.out h3 h4 OK)
        clear h3 h4 OK e
        go_wp2_with fail
        refine C.out.mono ?_; rintro e w3 ⟨rfl, H3⟩
        have H3 := Lib.hid H3
        have hf3 := H3.out.turns.heap HF.out.1 HF.out.2
        have c3 := row_cell hf3 (j := 0) rfl
        have f3 : w3.frozen? ⟨bf, 0, none⟩ = false := row_frozen hf3
        have ES : Hid (w3.setCell ⟨bf, 0, none⟩ (.int .i64 0) = w3) := setCell_same hf3
        clear C cf ca cx hf3
        go_wp2_with fail
        rw [ES.out]
        go_roundw
        case rel => exact ⟨j + 1, HLT.out, by go_num, by rw [HD.out]; exact H3.out⟩
        case measure => have h9 := HLT.out; simp only [intOf]; omega
      | st =>
        rw [hpj] at PJ OK HD
        have e : V j = _ := PJ
        rw [e] at cx
        have C := Lib.hid (Store_at HW.out OK)
        clear OK e
        go_wp2_with fail
        refine C.out.mono ?_; rintro e w3 ⟨rfl, H3⟩
        have H3 := Lib.hid H3
        have hf3 := H3.out.turns.heap HF.out.1 HF.out.2
        have c3 := row_cell hf3 (j := 0) rfl
        have f3 : w3.frozen? ⟨bf, 0, none⟩ = false := row_frozen hf3
        have ES : Hid (w3.setCell ⟨bf, 0, none⟩ (.int .i64 0) = w3) := setCell_same hf3
        clear C cf ca cx hf3
        go_wp2_with fail
        rw [ES.out]
        go_roundw
        case rel => exact ⟨j + 1, HLT.out, by go_num, by rw [HD.out]; exact H3.out⟩
        case measure => have h9 := HLT.out; simp only [intOf]; omega
      | ld =>
        rw [hpj] at PJ OK HD
        have e : V j = _ := PJ
        rw [e] at cx
        have C := Lib.hid (Load_at HW.out OK)
        clear OK e
        go_wp2_with fail
        refine C.out.mono ?_; rintro e w3 ⟨rfl, H3⟩
        have H3 := Lib.hid H3
        have hf3 := H3.out.turns.heap HF.out.1 HF.out.2
        have c3 := row_cell hf3 (j := 0) rfl
        have f3 : w3.frozen? ⟨bf, 0, none⟩ = false := row_frozen hf3
        have ES : Hid (w3.setCell ⟨bf, 0, none⟩ (.int .i64 0) = w3) := setCell_same hf3
        clear C cf ca cx hf3
        go_wp2_with fail
        rw [ES.out]
        go_roundw
        case rel => exact ⟨j + 1, HLT.out, by go_num, by rw [HD.out]; exact H3.out⟩
        case measure => have h9 := HLT.out; simp only [intOf]; omega
    · obtain rfl : j = k := by omega
      clear T hf
      go_wp2_with fail
      go_ret
      exact ⟨rfl, HW.out⟩
end
end Go.Proofs.YtiobgnelhiadbaaGreatDoor.S10
namespace Go.Proofs.YtiobgnelhiadbaaGreatDoor.S10
open Go.RowKit
open A7 (XI XB AS AJ fin)
open W8 (catL gX gX_mem frL sFr)
set_option linter.unusedVariables false
def sEnd : ByteArray := { data := #[101, 110, 100] }
def sYield : ByteArray := { data := #[121, 105, 101, 108, 100] }
def sSwap : ByteArray := { data := #[115, 119, 97, 112] }
def sStore : ByteArray := { data := #[115, 119, 97, 112, 46, 115, 116, 111, 114, 101] }
def sStored : ByteArray := { data := #[115, 119, 97, 112, 46, 115, 116, 111, 114, 101, 100] }
def sCount : ByteArray := { data := #[115, 119, 97, 112, 46, 99, 111, 117, 110, 116] }
def sFind : ByteArray := { data := #[115, 119, 97, 112, 46, 102, 105, 110, 100] }
def sIt : ByteArray := { data := #[115, 119, 97, 112, 46, 105, 116] }
def sAll : List ByteArray := [sEnd, sYield, sStore, sStored, sSwap, sCount, sFind, sIt]
theorem sAll_size : ∀ s ∈ sAll, s.size ≤ maxLen := by decide
def nth (l : List (List XI)) (i : Nat) : List XI := l.getD i []
def pcs (l : List Pc) (i : Nat) : Pc := l.getD i .st
/-! The pieces of each `add`. -/
def pA1 : List Pc := [.mk sEnd, .put 2 (nth [rnL, [nI 23 0 4 76]]), .jp 0 sSwap]
def pA2 : List Pc := [.mk sYield, .put 1 (nth [spL])]
def pA3 : List Pc := [.mk sStore, .put 1 (nth [ciL]), .jp 1 sStored]
def pA4 (nw : Int) : List Pc := [.put 1 (nth [enL]), .st, .put 1 (nth [ahL nw]), .jp 0 sStore]
def pA5 : List Pc := [.mk sStored, .put 3 (nth [cbL, rnL, paL])]
def pA6 : List Pc := [.mk sSwap, .put 1 (nth [bcL])]
def pA7 : List Pc := [.mk sCount, .put 3 (nth [coL, nbL, cyL]), .jp 5 sCount]
def pA8 : List Pc := [.put 1 (nth [chL])]
def pA9 : List Pc := [.mk sFind, .put 1 (nth [poL]), .jp 3 sIt]
def pA10 : List Pc := [.put 1 (nth [nbL]), .jp 0 sFind]
def pA11 (nw : Int) : List Pc := [.mk sIt, .put 4 (nth [mrL, spL, ahL nw, ivL]), .ld]
def pA12 : List Pc := [.put 1 (nth [goL])]
def doA (l : List Pc) (q : AS) : AS := doPs (pcs l) q l.length
/-- What the handlers make of a list, up to each `add`. -/
def hq (nw : Int) (q : AS) : Nat → AS
  | 0 => q
  | 1 => doA pA1 q
  | 2 => doA pA2 (doA pA1 q)
  | 3 => doA pA3 (doA pA2 (doA pA1 q))
  | 4 => doA (pA4 nw) (doA pA3 (doA pA2 (doA pA1 q)))
  | 5 => doA pA5 (doA (pA4 nw) (doA pA3 (doA pA2 (doA pA1 q))))
  | 6 => doA pA6 (doA pA5 (doA (pA4 nw) (doA pA3 (doA pA2 (doA pA1 q)))))
  | 7 => doA pA7 (doA pA6 (doA pA5 (doA (pA4 nw) (doA pA3 (doA pA2 (doA pA1 q))))))
  | 8 => doA pA8 (doA pA7 (doA pA6 (doA pA5 (doA (pA4 nw) (doA pA3 (doA pA2 (doA pA1 q)))))))
  | 9 => doA pA9 (doA pA8 (doA pA7 (doA pA6 (doA pA5 (doA (pA4 nw) (doA pA3 (doA pA2 (doA pA1 q))))))))
  | 10 => doA pA10 (doA pA9 (doA pA8 (doA pA7 (doA pA6 (doA pA5 (doA (pA4 nw) (doA pA3 (doA pA2 (doA pA1 q)))))))))
  | 11 => doA (pA11 nw) (doA pA10 (doA pA9 (doA pA8 (doA pA7 (doA pA6 (doA pA5 (doA (pA4 nw) (doA pA3 (doA pA2 (doA pA1 q))))))))))
  | _ => doA pA12 (doA (pA11 nw) (doA pA10 (doA pA9 (doA pA8 (doA pA7 (doA pA6 (doA pA5 (doA (pA4 nw) (doA pA3 (doA pA2 (doA pA1 q)))))))))))
/-- Behind a list q0 stand the instructions L, with marks M and jumps J. -/
structure St (q0 q : AS) (L : List XI) (M : List (ByteArray × Nat)) (J : List AJ) : Prop where
  n : q.n = q0.n + L.length
  ms : q.ms = q0.ms ++ M
  js : q.js = q0.js ++ J
  old : ∀ j, j < q0.n → q.ws j = q0.ws j
  ws : ∀ i, i < L.length → q.ws (q0.n + i) = (gX L i).word
theorem adds_old (q : AS) (f : Nat → Int) {j : Nat} (h : j < q.n) : ∀ k, (q.adds f k).ws j = q.ws j
  | 0 => rfl
  | k + 1 => by
    show F3.upd (q.adds f k).ws (q.adds f k).n (f k) j = _
    rw [F3.upd_ne _ _ (by rw [AS.adds_n]; omega), adds_old q f h k]
theorem adds_at (q : AS) (f : Nat → Int) {i : Nat} : ∀ k, i < k → (q.adds f k).ws (q.n + i) = f i
  | 0, h => absurd h (Nat.not_lt_zero _)
  | k + 1, h => by
    show F3.upd (q.adds f k).ws (q.adds f k).n (f k) (q.n + i) = _
    by_cases e : i = k
    · subst e; rw [AS.adds_n]; exact F3.upd_same _ _ _
    · rw [F3.upd_ne _ _ (by rw [AS.adds_n]; omega)]; exact adds_at q f k (by omega)
theorem gX_left {L M : List XI} {i : Nat} (h : i < L.length) : gX (L ++ M) i = gX L i := by
  unfold gX; rw [List.getD_eq_getElem?_getD, List.getD_eq_getElem?_getD, List.getElem?_append_left h]
theorem gX_right {L M : List XI} {i : Nat} : gX (L ++ M) (L.length + i) = gX M i := by
  unfold gX; rw [List.getD_eq_getElem?_getD, List.getD_eq_getElem?_getD, List.getElem?_append_right (Nat.le_add_right _ _)]; congr 2; omega
section
variable {q0 q : AS} {L : List XI} {M : List (ByteArray × Nat)} {J : List AJ}
theorem St.start (q0 : AS) : St q0 q0 [] [] [] := ⟨rfl, by simp, by simp, fun _ _ => rfl, fun i h => absurd h (Nat.not_lt_zero _)⟩
theorem St.adds (h : St q0 q L M J) (N : List XI) : St q0 (q.adds (fun i => (gX N i).word) N.length) (L ++ N) M J where
  n := by rw [AS.adds_n, h.n, List.length_append, Nat.add_assoc]
  ms := by rw [AS.adds_ms]; exact h.ms
  js := by rw [AS.adds_js]; exact h.js
  old := fun j hj => by rw [adds_old _ _ (by rw [h.n]; omega)]; exact h.old j hj
  ws := fun i hi => by
    by_cases e : i < L.length
    · rw [adds_old _ _ (by rw [h.n]; omega), gX_left e]; exact h.ws i e
    · obtain ⟨k, rfl⟩ := Nat.le.dest (Nat.le_of_not_lt e)
      rw [gX_right, ← Nat.add_assoc, ← h.n]
      exact adds_at _ _ _ (by rw [List.length_append] at hi; omega)
theorem St.put (h : St q0 q L M J) (k : Nat) (P : Nat → List XI) : St q0 (doP q (.put k P)) (L ++ catL P k) M J := h.adds (catL P k)
theorem St.mkd (h : St q0 q L M J) (s : ByteArray) : St q0 (doP q (.mk s)) L (M ++ [(s, q0.n + L.length)]) J :=
  ⟨h.n, by show q.ms ++ [(s, q.n)] = _; rw [h.ms, h.n, List.append_assoc], h.js, h.old, h.ws⟩
theorem St.jp (h : St q0 q L M J) (c : Int) (s : ByteArray) (hw : I2.enc 17 c 0 0 true 0 = (bI c 0).word) : St q0 (doP q (.jp c s)) (L ++ [bI c 0]) M (J ++ [⟨q0.n + L.length, 17, c, s⟩]) := by
  have k := h.adds [bI c 0]
  have e : (doP q (.jp c s)).ws = (q.adds (fun i => (gX [bI c 0] i).word) [bI c 0].length).ws := by
    show F3.upd q.ws q.n (I2.enc 17 c 0 0 true 0) = F3.upd q.ws q.n (bI c 0).word
    rw [hw]
  exact ⟨k.n, h.ms, by show q.js ++ [_] = _; rw [h.js, h.n, List.append_assoc], fun j hj => by rw [e]; exact k.old j hj, fun i hi => by rw [e]; exact k.ws i hi⟩
theorem St.st (h : St q0 q L M J) : St q0 (doP q .st) (L ++ frL 23) M J := h.adds (frL 23)
theorem St.ld (h : St q0 q L M J) : St q0 (doP q .ld) (L ++ frL 22) M J := h.adds (frL 22)
/-! What is wanted of each piece. -/
theorem look_app (l M : List (ByteArray × Nat)) (s : ByteArray) : (∀ p ∈ M, p.1 ≠ s) → A7.look (l ++ M) s = A7.look l s := by
  refine A7.snocs (P := fun M => (∀ p ∈ M, p.1 ≠ s) → A7.look (l ++ M) s = A7.look l s) (fun _ => by simp) (fun M x ih h => ?_) M
  obtain ⟨k, v⟩ := x
  rw [← List.append_assoc, A7.look_snoc, if_neg (h (k, v) (by simp)), ih fun p hp => h p (by simp [hp])]
/-- A list that has none of the names, and is short. -/
structure Un (q : AS) : Prop where
  n : q.n ≤ 2000
  m : q.ms.length ≤ 2000
  no : ∀ s ∈ sAll, A7.look q.ms s = none
theorem St.mkOk (h : St q0 q L M J) (u : Un q0) (s : ByteArray) (hs : s ∈ sAll) (hM : ∀ p ∈ M, p.1 ≠ s) (hl : M.length ≤ 100) : okP q (.mk s) :=
  ⟨sAll_size s hs, by rw [h.ms, List.length_append]; have := u.m; omega, by rw [h.ms, look_app _ _ _ hM]; exact u.no s hs⟩
theorem St.jpOk (h : St q0 q L M J) (u : Un q0) (c : Int) (s : ByteArray) (hs : s ∈ sAll) (hc : 0 ≤ c ∧ c ≤ 6) (hl : L.length ≤ 100) : okP q (.jp c s) :=
  ⟨hc, sAll_size s hs, by rw [h.n]; have := u.n; omega⟩
theorem St.frOk (h : St q0 q L M J) (u : Un q0) (hl : L.length ≤ 100) : q.n + 16 ≤ 100000 := by rw [h.n]; have := u.n; omega
theorem St.putOk (h : St q0 q L M J) (u : Un q0) (k : Nat) (l : List (List XI)) (hk : 0 < k ∧ k ≤ 10) (h16 : ∀ i, i < l.length → (nth l i).length ≤ 16) (hp : 0 < (catL (nth l) k).length ∧ (catL (nth l) k).length ≤ 100) (hx : ∀ x ∈ catL (nth l) k, XB x ∧ x.may = true) (hl : L.length ≤ 100) : okP q (.put k (nth l)) :=
  ⟨hk.1, hk.2, fun i => by
    by_cases e : i < l.length
    · exact h16 i e
    · have : nth l i = [] := by unfold nth; rw [List.getD_eq_getElem?_getD, List.getElem?_eq_none (by omega)]; rfl
      rw [this]; exact Nat.zero_le _, hp.1, fun x hx' => (hx x hx').1, fun x hx' => (hx x hx').2, by rw [h.n]; have := u.n; omega⟩
end
theorem all_ok {l : List XI} (h : l.all (fun x => okI x && x.may) = true) : ∀ x ∈ l, XB x ∧ x.may = true := fun x hx => by
  have := List.all_eq_true.1 h x hx
  rw [Bool.and_eq_true] at this
  exact ⟨okI_b this.1, this.2⟩
theorem ah_ok {nw : Int} (h2 : 2 ≤ nw) (h32 : nw ≤ 32) : ∀ x ∈ ahL nw, XB x ∧ x.may = true := fun x hx => by
  simp only [ahL, List.mem_cons, List.not_mem_nil, or_false] at hx
  rcases hx with rfl | rfl
  · exact all_ok (l := [nI 1 3 3 1]) (by kernel_rfl) _ (by simp)
  · exact ⟨⟨by show (0 : Int) ≤ 5 ∧ (5 : Int) ≤ 255; decide, by show (0 : Int) ≤ 3 ∧ (3 : Int) ≤ 255; decide, by show (0 : Int) ≤ 3 ∧ (3 : Int) ≤ 255; decide, by show (0 : Int) ≤ 0 ∧ (0 : Int) ≤ 255; decide, by show -2147483648 ≤ nw ∧ nw ≤ 2147483647; omega⟩, rm_may ⟨h2, h32⟩⟩
/-- All pieces of a list of pieces are as they must be. -/
def AllOk (q : AS) (l : List Pc) : Prop := ∀ i, i < l.length → okP (doPs (pcs l) q i) (pcs l i)
theorem AllOk.nil (q : AS) : AllOk q [] := fun i h => absurd h (Nat.not_lt_zero _)
theorem doPs_cons (p : Pc) (l : List Pc) (q : AS) : ∀ i, doPs (pcs (p :: l)) q (i + 1) = doPs (pcs l) (doP q p) i
  | 0 => rfl
  | i + 1 => by
    show doP (doPs (pcs (p :: l)) q (i + 1)) _ = doP (doPs (pcs l) (doP q p) i) _
    rw [doPs_cons p l q i]; rfl
theorem AllOk.cons {q : AS} {p : Pc} {l : List Pc} (h : okP q p) (k : AllOk (doP q p) l) : AllOk q (p :: l) := fun i hi => by
  cases i with
  | zero => exact h
  | succ i => rw [doPs_cons]; exact k i (by simpa using hi)
def mL (n : Nat) : List (ByteArray × Nat) := [(sEnd, n + 0), (sYield, n + 4), (sStore, n + 7), (sStored, n + 31), (sSwap, n + 39), (sCount, n + 43), (sFind, n + 56), (sIt, n + 62)]
def jL (n : Nat) : List AJ := [⟨n + 3, 17, 0, sSwap⟩, ⟨n + 10, 17, 1, sStored⟩, ⟨n + 30, 17, 0, sStore⟩, ⟨n + 47, 17, 5, sCount⟩, ⟨n + 59, 17, 3, sIt⟩, ⟨n + 61, 17, 0, sFind⟩]
/-- The instructions with jumps that go nowhere yet. -/
def zJ (nw : Int) : List XI :=
  (rnL ++ [nI 23 0 4 76] ++ [bI 0 0] ++ spL) ++ (ciL ++ [bI 1 0] ++ enL) ++ frL 23 ++ (ahL nw ++ [bI 0 0]) ++ (cbL ++ rnL ++ paL ++ bcL) ++ (coL ++ nbL ++ cyL ++ [bI 5 0]) ++ chL ++ (poL ++ [bI 3 0] ++ nbL ++ [bI 0 0]) ++ (mrL ++ spL ++ ahL nw ++ ivL) ++ frL 22 ++ goL
/-- Which names stand in marks. -/
theorem no_in {M : List (ByteArray × Nat)} {s : ByteArray} (l : List ByteArray) (h : M.map Prod.fst = l) (k : ∀ t ∈ l, t ≠ s) : ∀ p ∈ M, p.1 ≠ s := fun p hp => k _ (by rw [← h]; exact List.mem_map_of_mem hp)
section
variable {nw : Int} {q : AS} (h2 : 2 ≤ nw) (h32 : nw ≤ 32) (u : Un q)
include h2 h32 u
set_option maxRecDepth 100000 in
set_option maxHeartbeats 8000000 in
/-- All at once: each piece is as it must be, and what the whole is. -/
theorem hq_all : AllOk q pA1 ∧ AllOk (hq nw q 1) pA2 ∧ AllOk (hq nw q 2) pA3 ∧ AllOk (hq nw q 3) (pA4 nw) ∧ AllOk (hq nw q 4) pA5 ∧ AllOk (hq nw q 5) pA6 ∧ AllOk (hq nw q 6) pA7 ∧ AllOk (hq nw q 7) pA8 ∧ AllOk (hq nw q 8) pA9 ∧ AllOk (hq nw q 9) pA10 ∧ AllOk (hq nw q 10) (pA11 nw) ∧ AllOk (hq nw q 11) pA12 ∧ St q (hq nw q 12) (zJ nw) (mL q.n) (jL q.n) := by
  have s0 := St.start q
  have o0 := s0.mkOk u sEnd (by simp [sAll]) (fun p hp => by cases hp) (Nat.le_of_ble_eq_true rfl)
  have s1 := s0.mkd sEnd
  have o1 := s1.putOk u 2 [rnL, [nI 23 0 4 76]] ⟨by decide, by decide⟩ (fun i hi => by have hi : i < 2 := hi; rcases (by omega : i = 0 ∨ i = 1) with rfl | rfl <;> exact Nat.le_of_ble_eq_true rfl) ⟨Nat.le_of_ble_eq_true rfl, Nat.le_of_ble_eq_true rfl⟩ (all_ok (by kernel_rfl)) (Nat.le_of_ble_eq_true rfl)
  have s2 := s1.put 2 (nth [rnL, [nI 23 0 4 76]])
  have o2 := s2.jpOk u 0 sSwap (by simp [sAll]) (by decide) (Nat.le_of_ble_eq_true rfl)
  have s3 := s2.jp 0 sSwap (by kernel_rfl)
  have o3 := s3.mkOk u sYield (by simp [sAll]) (no_in [sEnd] rfl (by decide)) (Nat.le_of_ble_eq_true rfl)
  have s4 := s3.mkd sYield
  have o4 := s4.putOk u 1 [spL] ⟨by decide, by decide⟩ (fun i hi => by have hi : i < 1 := hi; rcases (by omega : i = 0) with rfl <;> exact Nat.le_of_ble_eq_true rfl) ⟨Nat.le_of_ble_eq_true rfl, Nat.le_of_ble_eq_true rfl⟩ (all_ok (by kernel_rfl)) (Nat.le_of_ble_eq_true rfl)
  have s5 := s4.put 1 (nth [spL])
  have o5 := s5.mkOk u sStore (by simp [sAll]) (no_in [sEnd, sYield] rfl (by decide)) (Nat.le_of_ble_eq_true rfl)
  have s6 := s5.mkd sStore
  have o6 := s6.putOk u 1 [ciL] ⟨by decide, by decide⟩ (fun i hi => by have hi : i < 1 := hi; rcases (by omega : i = 0) with rfl <;> exact Nat.le_of_ble_eq_true rfl) ⟨Nat.le_of_ble_eq_true rfl, Nat.le_of_ble_eq_true rfl⟩ (all_ok (by kernel_rfl)) (Nat.le_of_ble_eq_true rfl)
  have s7 := s6.put 1 (nth [ciL])
  have o7 := s7.jpOk u 1 sStored (by simp [sAll]) (by decide) (Nat.le_of_ble_eq_true rfl)
  have s8 := s7.jp 1 sStored (by kernel_rfl)
  have o8 := s8.putOk u 1 [enL] ⟨by decide, by decide⟩ (fun i hi => by have hi : i < 1 := hi; rcases (by omega : i = 0) with rfl <;> exact Nat.le_of_ble_eq_true rfl) ⟨Nat.le_of_ble_eq_true rfl, Nat.le_of_ble_eq_true rfl⟩ (all_ok (by kernel_rfl)) (Nat.le_of_ble_eq_true rfl)
  have s9 := s8.put 1 (nth [enL])
  have o9 : okP _ .st := s9.frOk u (Nat.le_of_ble_eq_true rfl)
  have s10 := s9.st
  have o10 := s10.putOk u 1 [ahL nw] ⟨by decide, by decide⟩ (fun i hi => by have hi : i < 1 := hi; rcases (by omega : i = 0) with rfl <;> exact Nat.le_of_ble_eq_true rfl) ⟨Nat.le_of_ble_eq_true rfl, Nat.le_of_ble_eq_true rfl⟩ (fun x hx => ah_ok h2 h32 x hx) (Nat.le_of_ble_eq_true rfl)
  have s11 := s10.put 1 (nth [ahL nw])
  have o11 := s11.jpOk u 0 sStore (by simp [sAll]) (by decide) (Nat.le_of_ble_eq_true rfl)
  have s12 := s11.jp 0 sStore (by kernel_rfl)
  have o12 := s12.mkOk u sStored (by simp [sAll]) (no_in [sEnd, sYield, sStore] rfl (by decide)) (Nat.le_of_ble_eq_true rfl)
  have s13 := s12.mkd sStored
  have o13 := s13.putOk u 3 [cbL, rnL, paL] ⟨by decide, by decide⟩ (fun i hi => by have hi : i < 3 := hi; rcases (by omega : i = 0 ∨ i = 1 ∨ i = 2) with rfl | rfl | rfl <;> exact Nat.le_of_ble_eq_true rfl) ⟨Nat.le_of_ble_eq_true rfl, Nat.le_of_ble_eq_true rfl⟩ (all_ok (by kernel_rfl)) (Nat.le_of_ble_eq_true rfl)
  have s14 := s13.put 3 (nth [cbL, rnL, paL])
  have o14 := s14.mkOk u sSwap (by simp [sAll]) (no_in [sEnd, sYield, sStore, sStored] rfl (by decide)) (Nat.le_of_ble_eq_true rfl)
  have s15 := s14.mkd sSwap
  have o15 := s15.putOk u 1 [bcL] ⟨by decide, by decide⟩ (fun i hi => by have hi : i < 1 := hi; rcases (by omega : i = 0) with rfl <;> exact Nat.le_of_ble_eq_true rfl) ⟨Nat.le_of_ble_eq_true rfl, Nat.le_of_ble_eq_true rfl⟩ (all_ok (by kernel_rfl)) (Nat.le_of_ble_eq_true rfl)
  have s16 := s15.put 1 (nth [bcL])
  have o16 := s16.mkOk u sCount (by simp [sAll]) (no_in [sEnd, sYield, sStore, sStored, sSwap] rfl (by decide)) (Nat.le_of_ble_eq_true rfl)
  have s17 := s16.mkd sCount
  have o17 := s17.putOk u 3 [coL, nbL, cyL] ⟨by decide, by decide⟩ (fun i hi => by have hi : i < 3 := hi; rcases (by omega : i = 0 ∨ i = 1 ∨ i = 2) with rfl | rfl | rfl <;> exact Nat.le_of_ble_eq_true rfl) ⟨Nat.le_of_ble_eq_true rfl, Nat.le_of_ble_eq_true rfl⟩ (all_ok (by kernel_rfl)) (Nat.le_of_ble_eq_true rfl)
  have s18 := s17.put 3 (nth [coL, nbL, cyL])
  have o18 := s18.jpOk u 5 sCount (by simp [sAll]) (by decide) (Nat.le_of_ble_eq_true rfl)
  have s19 := s18.jp 5 sCount (by kernel_rfl)
  have o19 := s19.putOk u 1 [chL] ⟨by decide, by decide⟩ (fun i hi => by have hi : i < 1 := hi; rcases (by omega : i = 0) with rfl <;> exact Nat.le_of_ble_eq_true rfl) ⟨Nat.le_of_ble_eq_true rfl, Nat.le_of_ble_eq_true rfl⟩ (all_ok (by kernel_rfl)) (Nat.le_of_ble_eq_true rfl)
  have s20 := s19.put 1 (nth [chL])
  have o20 := s20.mkOk u sFind (by simp [sAll]) (no_in [sEnd, sYield, sStore, sStored, sSwap, sCount] rfl (by decide)) (Nat.le_of_ble_eq_true rfl)
  have s21 := s20.mkd sFind
  have o21 := s21.putOk u 1 [poL] ⟨by decide, by decide⟩ (fun i hi => by have hi : i < 1 := hi; rcases (by omega : i = 0) with rfl <;> exact Nat.le_of_ble_eq_true rfl) ⟨Nat.le_of_ble_eq_true rfl, Nat.le_of_ble_eq_true rfl⟩ (all_ok (by kernel_rfl)) (Nat.le_of_ble_eq_true rfl)
  have s22 := s21.put 1 (nth [poL])
  have o22 := s22.jpOk u 3 sIt (by simp [sAll]) (by decide) (Nat.le_of_ble_eq_true rfl)
  have s23 := s22.jp 3 sIt (by kernel_rfl)
  have o23 := s23.putOk u 1 [nbL] ⟨by decide, by decide⟩ (fun i hi => by have hi : i < 1 := hi; rcases (by omega : i = 0) with rfl <;> exact Nat.le_of_ble_eq_true rfl) ⟨Nat.le_of_ble_eq_true rfl, Nat.le_of_ble_eq_true rfl⟩ (all_ok (by kernel_rfl)) (Nat.le_of_ble_eq_true rfl)
  have s24 := s23.put 1 (nth [nbL])
  have o24 := s24.jpOk u 0 sFind (by simp [sAll]) (by decide) (Nat.le_of_ble_eq_true rfl)
  have s25 := s24.jp 0 sFind (by kernel_rfl)
  have o25 := s25.mkOk u sIt (by simp [sAll]) (no_in [sEnd, sYield, sStore, sStored, sSwap, sCount, sFind] rfl (by decide)) (Nat.le_of_ble_eq_true rfl)
  have s26 := s25.mkd sIt
  have o26 := s26.putOk u 4 [mrL, spL, ahL nw, ivL] ⟨by decide, by decide⟩ (fun i hi => by have hi : i < 4 := hi; rcases (by omega : i = 0 ∨ i = 1 ∨ i = 2 ∨ i = 3) with rfl | rfl | rfl | rfl <;> exact Nat.le_of_ble_eq_true rfl) ⟨Nat.le_of_ble_eq_true rfl, Nat.le_of_ble_eq_true rfl⟩ (fun x hx => by
      have hx : x ∈ ((mrL ++ spL) ++ ahL nw) ++ ivL := hx
      rcases List.mem_append.1 hx with hx | hx
      · rcases List.mem_append.1 hx with hx | hx
        · exact all_ok (l := mrL ++ spL) (by kernel_rfl) x hx
        · exact ah_ok h2 h32 x hx
      · exact all_ok (l := ivL) (by kernel_rfl) x hx) (Nat.le_of_ble_eq_true rfl)
  have s27 := s26.put 4 (nth [mrL, spL, ahL nw, ivL])
  have o27 : okP _ .ld := s27.frOk u (Nat.le_of_ble_eq_true rfl)
  have s28 := s27.ld
  have o28 := s28.putOk u 1 [goL] ⟨by decide, by decide⟩ (fun i hi => by have hi : i < 1 := hi; rcases (by omega : i = 0) with rfl <;> exact Nat.le_of_ble_eq_true rfl) ⟨Nat.le_of_ble_eq_true rfl, Nat.le_of_ble_eq_true rfl⟩ (all_ok (by kernel_rfl)) (Nat.le_of_ble_eq_true rfl)
  have s29 := s28.put 1 (nth [goL])
  exact ⟨.cons o0 (.cons o1 (.cons o2 (.nil _))), .cons o3 (.cons o4 (.nil _)), .cons o5 (.cons o6 (.cons o7 (.nil _))), .cons o8 (.cons o9 (.cons o10 (.cons o11 (.nil _)))), .cons o12 (.cons o13 (.nil _)), .cons o14 (.cons o15 (.nil _)), .cons o16 (.cons o17 (.cons o18 (.nil _))), .cons o19 (.nil _), .cons o20 (.cons o21 (.cons o22 (.nil _))), .cons o23 (.cons o24 (.nil _)), .cons o25 (.cons o26 (.cons o27 (.nil _))), .cons o28 (.nil _), s29⟩
end
end Go.Proofs.YtiobgnelhiadbaaGreatDoor.S10
