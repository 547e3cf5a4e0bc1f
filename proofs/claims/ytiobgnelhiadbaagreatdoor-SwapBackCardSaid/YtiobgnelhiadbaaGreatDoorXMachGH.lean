/- Package mach as it has landed: the table of effects; a word is executed. -/
import Derived.Test.YtiobgnelhiadbaaGreatDoorXMachGB
import Derived.Deep.WholeRow
namespace Go.Proofs.YtiobgnelhiadbaaGreatDoor.K6
open Go.RowKit
set_option linter.unusedVariables false
section
variable {w : World} {b fb mb g x : Nat} {cs os : Value} {G : Nat → Prop} {m : MS}
/-- The table of effects. -/
def effRow : Array Value := #[.nilFunc, .func (.func 205) #[] #[], .func (.func 205) #[] #[], .func (.func 205) #[] #[], .func (.func 205) #[] #[], .func (.func 205) #[] #[], .func (.func 205) #[] #[], .func (.func 205) #[] #[], .func (.func 205) #[] #[], .func (.func 205) #[] #[], .func (.func 205) #[] #[], .func (.func 205) #[] #[], .func (.func 205) #[] #[], .func (.func 205) #[] #[], .func (.func 205) #[] #[], .func (.func 206) #[] #[], .func (.func 207) #[] #[], .func (.func 208) #[] #[], .func (.func 209) #[] #[], .func (.func 210) #[] #[], .func (.func 211) #[] #[], .func (.func 212) #[] #[], .func (.func 213) #[] #[], .func (.func 214) #[] #[], .func (.func 215) #[] #[], .func (.func 216) #[] #[], .func (.func 217) #[] #[], .func (.func 218) #[] #[], .func (.func 219) #[] #[], .func (.func 220) #[] #[], .func (.func 221) #[] #[], .func (.func 222) #[] #[], .func (.func 223) #[] #[], .func (.func 224) #[] #[], .func (.func 225) #[] #[], .func (.func 226) #[] #[], .func (.func 227) #[] #[], .func (.func 228) #[] #[]]
theorem effInfo : (Tryz.prog.info? 251).map (·.size) = some effRow.size := by kernel_rfl
theorem effUnder : Tryz.prog.underlying 251 = some (Tryz.prog.underlying 251 |>.get (by kernel_rfl)) := by simp
theorem effOne : effRow.all (·.oneCell') = true := by kernel_rfl
set_option maxRecDepth 100000 in
theorem effects_any (w : World) : Calls Tryz.prog 151 #[] w fun e w' => e = .returned (.agg effRow) ∧ Below w.heap.size w w' := by
  go_enter Tryz.func151, Tryz.ntmps151
  go_wp2_with (refine wpList_store_row rfl 251 (.tmp 0) (.tmp 1) rfl w.heap.size effRow rfl rfl 251 _ (heap_alloc_last _ _) effInfo rfl effOne ?_)
  refine bodyPost_ret (v := .agg effRow) ?_ rfl ⟨rfl, ?_⟩
  · refine results_cell_row (p := 0) (ty := 251) Tryz.results151 _ _ w.heap.size 251 effRow (0,0) _ rfl ?_ effUnder rfl effInfo
    exact setRow_heap _ _ _ _ _ _ (heap_alloc_last _ _)
  · rw [World.setRow_alloc_new]; exact (Below.refl _ _).alloc (Nat.le_refl _) _
set_option maxRecDepth 100000 in
theorem execute_none (h : MachP w b fb mb g x cs os G m) (ht : thE m.sz m.pc 4 ≠ 0) :
    Calls Tryz.prog 85 #[.pointer (some ⟨b, 0, none⟩)] w fun e w' => e = .returned (.tuple #[]) ∧ MachP w' b fb mb g x cs os G (m.stp 3 0) ∧ w.grownBy w' (some b) := by
  have A := Lib.hid h
  have HL := Lib.hid (fun W (hW : MachP W b fb mb g x cs os G m) => M5.load_at m.pc 4 hW.mem h.ok.pc)
  have ht' : (thE m.sz m.pc 4 != 0) = true := by simpa using ht
  generalize M5.ldV m.sz m.f m.pc 4 = z at *
  generalize thE m.sz m.pc 4 = er at *
  clear h ht
  go_enter Tryz.func85, Tryz.ntmps85
  go_wp2_with fail
  have HS : Hid (∀ W, Below w.heap.size w W → W.cell? ⟨b, 1, none⟩ = some (.pointer (some ⟨mb, 0, none⟩)) ∧ W.cell? ⟨b, 2, none⟩ = some (.int .u32 m.pc) ∧ Below w.heap.size w W) := fun W k => by
    obtain ⟨_, k1, k2, _⟩ := (A.out.bel k).cells
    exact ⟨k1, k2, k⟩
  go_region_held3 (fun W => W.cell? ⟨b, 1, none⟩ = some (.pointer (some ⟨mb, 0, none⟩)) ∧ W.cell? ⟨b, 2, none⟩ = some (.int .u32 m.pc) ∧ Below w.heap.size w W)
    (first
      | exact HS.out _ (Below.refl _ _).drew
      | (go_split_ands; exact HS.out _ (bel_trans (by assumption) gL)))
    ((go_at_call 53; refine (HL.out _ (A.out.bel (Below.refl _ _).drew)).mono ?_; rintro e w1 ⟨rfl, gL⟩))
  rename_i hH
  have b1 := Lib.hid hH.2.2
  clear hH HS gL
  have P1 := Lib.hid (A.out.bel b1.out)
  go_wp2_with fail
  refine (halt_at 3 0 P1.out (by decide) (by decide) ⟨by decide, by decide⟩).mono ?_; rintro e w2 ⟨rfl, P2, g2⟩
  have P2 := Lib.hid P2
  go_wp2_with fail
  refine bodyPost_ret (results_none rfl _ _ _) rfl ?_
  exact ⟨rfl, P2.out, only_trans (bel_only b1.out _) g2⟩
set_option maxRecDepth 100000 in
theorem execute_bad (h : MachP w b fb mb g x cs os G m) (ht : thE m.sz m.pc 4 = 0) (hd : I2.dk (ldB m.f m.pc.toNat 4) = false) :
    Calls Tryz.prog 85 #[.pointer (some ⟨b, 0, none⟩)] w fun e w' => e = .returned (.tuple #[]) ∧ MachP w' b fb mb g x cs os G (m.stp 3 0) ∧ w.grownBy w' (some b) := by
  have A := Lib.hid h
  have HL := Lib.hid (fun W (hW : MachP W b fb mb g x cs os G m) => M5.load_at m.pc 4 hW.mem h.ok.pc)
  have E2 : M5.ldV m.sz m.f m.pc 4 = ldB m.f m.pc.toNat 4 := by unfold M5.ldV; rw [if_pos ht]; rfl
  have HD := Lib.hid (fun W (hW : Tabs W) => I2.dec_any (ldB m.f m.pc.toNat 4) W hW.i (ldB_word h.ok.f _ 4 (by decide)))
  rw [ht, E2] at HL
  rw [hd] at HD
  generalize ldB m.f m.pc.toNat 4 = z at *
  generalize I2.dO z = d0 at *
  generalize I2.dD z = d1 at *
  generalize I2.dS z = d2 at *
  generalize I2.dT z = d3 at *
  generalize I2.dB z = d4 at *
  generalize I2.dN z = d5 at *
  clear h ht hd E2
  go_enter Tryz.func85, Tryz.ntmps85
  go_wp2_with fail
  have HS : Hid (∀ W, Below w.heap.size w W → W.cell? ⟨b, 1, none⟩ = some (.pointer (some ⟨mb, 0, none⟩)) ∧ W.cell? ⟨b, 2, none⟩ = some (.int .u32 m.pc) ∧ Below w.heap.size w W) := fun W k => by
    obtain ⟨_, k1, k2, _⟩ := (A.out.bel k).cells
    exact ⟨k1, k2, k⟩
  go_region_held3 (fun W => W.cell? ⟨b, 1, none⟩ = some (.pointer (some ⟨mb, 0, none⟩)) ∧ W.cell? ⟨b, 2, none⟩ = some (.int .u32 m.pc) ∧ Below w.heap.size w W)
    (first
      | exact HS.out _ (Below.refl _ _).drew
      | (go_split_ands; exact HS.out _ (bel_trans (by assumption) gL)))
    ((go_at_call 53; refine (HL.out _ (A.out.bel (Below.refl _ _).drew)).mono ?_; rintro e w1 ⟨rfl, gL⟩))
  rename_i hH
  have b1 := Lib.hid hH.2.2
  clear hH HS gL
  have P1 := Lib.hid (A.out.bel b1.out)
  go_wp2_with fail
  refine (HD.out _ P1.out.tab).mono ?_; rintro e w2 ⟨rfl, g2⟩
  have b2 := Lib.hid (bel_trans b1.out g2.bel)
  have b3 : Hid (Below w.heap.size w (w2.alloc (.cells #[.int .u8 d0, .int .u8 d1, .int .u8 d2, .int .u8 d3, .bool d4, .int .i32 d5] 88))) := b2.out.alloc b2.out.size _
  have P3 := Lib.hid (A.out.bel b3.out)
  go_wp2_with fail
  refine (halt_at 3 0 P3.out (by decide) (by decide) ⟨by decide, by decide⟩).mono ?_; rintro e w4 ⟨rfl, P4, g4⟩
  have P4 := Lib.hid P4
  go_wp2_with fail
  refine bodyPost_ret (results_none rfl _ _ _) rfl ?_
  exact ⟨rfl, P4.out, only_trans (bel_only b3.out _) g4⟩
theorem fn_size : (Tryz.prog.info? 250).map (·.size) = some 1 := by kernel_rfl
theorem eff_index (o : Int) (k : Nat) (h0 : 0 ≤ o) (h1 : o < 38) (hk : effRow[o.toNat]? = some (.func (.func k) #[] #[])) (W : World) :
    Sem.run Tryz.prog (Instr.index 251 (.agg effRow) (.int .u8 o)) W = .ok (.func (.func k) #[] #[]) W := by
  have hs : Sem.run Tryz.prog (sizeOf 250) W = .ok 1 W := by
    cases hz : Tryz.prog.info? 250 with
    | none => have := fn_size; rw [hz] at this; simp at this
    | some i => have := fn_size; rw [hz] at this; simp at this; simp [sizeOf, typeInfo, hz, this]
  simp [Instr.index, asIntOf, underlying, h0, h1, part, hs, hk]
/-- An instruction in a block. -/
def IAt (w : World) (z : Nat) (i : XV) : Prop := w.heap[z]? = some (.cells #[.int .u8 i.o, .int .u8 i.d, .int .u8 i.s, .int .u8 i.t, .bool i.ib, .int .i32 i.n] 88 (0, 0))
theorem IAt.held {V W : World} {z : Nat} {i : XV} (h : IAt V z i) (k : Turns G V W) (hz : ¬ G z) : W.cell? ⟨z, 0, none⟩ = some (.int .u8 i.o) ∧ W.cell? ⟨z, 1, none⟩ = some (.int .u8 i.d) ∧ W.cell? ⟨z, 2, none⟩ = some (.int .u8 i.s) ∧ W.cell? ⟨z, 3, none⟩ = some (.int .u8 i.t) ∧ W.cell? ⟨z, 4, none⟩ = some (.bool i.ib) ∧ W.cell? ⟨z, 5, none⟩ = some (.int .i32 i.n) ∧ Turns G V W := by
  have r : IAt W z i := k.heap hz h
  exact ⟨row_cell r rfl, row_cell r rfl, row_cell r rfl, row_cell r rfl, row_cell r rfl, row_cell r rfl, k⟩
end
end Go.Proofs.YtiobgnelhiadbaaGreatDoor.K6
