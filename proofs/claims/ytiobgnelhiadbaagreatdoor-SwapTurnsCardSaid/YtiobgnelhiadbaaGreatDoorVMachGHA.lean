/- Package mach as it has landed: the table of effects; a word is executed. Package mach as it has landed: a word is executed, by the effect of its operation. -/
import Derived.Test.YtiobgnelhiadbaaGreatDoorVMachGB
import Derived.Deep.WholeRow
namespace Go.Proofs.YtiobgnelhiadbaaGreatDoor.K6
open Go.RowKit
set_option linter.unusedVariables false
section
variable {w : World} {b fb mb g x : Nat} {cs os : Value} {G : Nat → Prop} {m : MS}
/-- The table of effects. -/
def effRow : Array Value := #[.nilFunc, .func (.func 205) #[] #[], .func (.func 205) #[] #[], .func (.func 205) #[] #[], .func (.func 205) #[] #[], .func (.func 205) #[] #[], .func (.func 205) #[] #[], .func (.func 205) #[] #[], .func (.func 205) #[] #[], .func (.func 205) #[] #[], .func (.func 205) #[] #[], .func (.func 205) #[] #[], .func (.func 205) #[] #[], .func (.func 205) #[] #[], .func (.func 205) #[] #[], .func (.func 206) #[] #[], .func (.func 207) #[] #[], .func (.func 208) #[] #[], .func (.func 209) #[] #[], .func (.func 210) #[] #[], .func (.func 211) #[] #[], .func (.func 212) #[] #[], .func (.func 213) #[] #[], .func (.func 214) #[] #[], .func (.func 215) #[] #[], .func (.func 216) #[] #[], .func (.func 217) #[] #[], .func (.func 218) #[] #[], .func (.func 219) #[] #[], .func (.func 220) #[] #[], .func (.func 221) #[] #[], .func (.func 222) #[] #[], .func (.func 223) #[] #[], .func (.func 224) #[] #[], .func (.func 225) #[] #[], .func (.func 226) #[] #[], .func (.func 227) #[] #[], .func (.func 228) #[] #[]]
theorem effInfo : (Tryz.prog.info? 251).map (·.size) = some effRow.size := by kernel_rfl
theorem effUnder : Tryz.prog.underlying 251 = some (Tryz.prog.underlying 251 |>.get (by kernel_rfl)) := by simp
theorem effOne : effRow.all (·.oneCell') = true := by kernel_rfl
set_option maxRecDepth 100000 in
theorem effects_any (w : World) : Calls Tryz.prog 151 #[] w fun e w' => e = .returned (.agg effRow) ∧ Below w.heap.size w w' := by
  go_enter Tryz.func151, Tryz.ntmps151
  go_wp2_with (refine wpList_store_row rfl 251 (.tmp 0) (.tmp 1) rfl w.heap.size effRow rfl rfl 251 _ (heap_alloc_last _ _) effInfo rfl effOne ?_)
  refine bodyPost_ret (v := .agg effRow) ?_ rfl ⟨rfl, ?_⟩
  · refine results_cell_row (p := 0) (ty := 251) Tryz.results151 _ _ w.heap.size 251 effRow (0,0) _ rfl ?_ effUnder rfl effInfo
    exact setRow_heap _ _ _ _ _ _ (heap_alloc_last _ _)
  · rw [World.setRow_alloc_new]; exact (Below.refl _ _).alloc (Nat.le_refl _) _
set_option maxRecDepth 100000 in
theorem execute_none (h : MachP w b fb mb g x cs os G m) (ht : thE m.sz m.pc 4 ≠ 0) :
    Calls Tryz.prog 85 #[.pointer (some ⟨b, 0, none⟩)] w fun e w' => e = .returned (.tuple #[]) ∧ MachP w' b fb mb g x cs os G (m.stp 3 0) ∧ w.grownBy w' (some b) := by
  have A := Lib.hid h
  have HL := Lib.hid (fun W (hW : MachP W b fb mb g x cs os G m) => M5.load_at m.pc 4 hW.mem h.ok.pc)
  have ht' : (thE m.sz m.pc 4 != 0) = true := by simpa using ht
  generalize M5.ldV m.sz m.f m.pc 4 = z at *
  generalize thE m.sz m.pc 4 = er at *
  clear h ht
  go_enter Tryz.func85, Tryz.ntmps85
  go_wp2_with fail
  have HS : Hid (∀ W, Below w.heap.size w W → W.cell? ⟨b, 1, none⟩ = some (.pointer (some ⟨mb, 0, none⟩)) ∧ W.cell? ⟨b, 2, none⟩ = some (.int .u32 m.pc) ∧ Below w.heap.size w W) := fun W k => by
    obtain ⟨_, k1, k2, _⟩ := (A.out.bel k).cells
    exact ⟨k1, k2, k⟩
  go_region_held3 (fun W => W.cell? ⟨b, 1, none⟩ = some (.pointer (some ⟨mb, 0, none⟩)) ∧ W.cell? ⟨b, 2, none⟩ = some (.int .u32 m.pc) ∧ Below w.heap.size w W)
    (first
      | exact HS.out _ (Below.refl _ _).drew
      | (go_split_ands; exact HS.out _ (bel_trans (by assumption) gL)))
    ((go_at_call 53; refine (HL.out _ (A.out.bel (Below.refl _ _).drew)).mono ?_; rintro e w1 ⟨rfl, gL⟩))
  rename_i hH
  have b1 := Lib.hid hH.2.2
  clear hH HS gL
  have P1 := Lib.hid (A.out.bel b1.out)
  go_wp2_with fail
  refine (halt_at 3 0 P1.out (by decide) (by decide) ⟨by decide, by decide⟩).mono ?_; rintro e w2 ⟨rfl, P2, g2⟩
  have P2 := Lib.hid P2
  go_wp2_with fail
  refine bodyPost_ret (results_none rfl _ _ _) rfl ?_
  exact ⟨rfl, P2.out, only_trans (bel_only b1.out _) g2⟩
set_option maxRecDepth 100000 in
theorem execute_bad (h : MachP w b fb mb g x cs os G m) (ht : thE m.sz m.pc 4 = 0) (hd : I2.dk (ldB m.f m.pc.toNat 4) = false) :
    Calls Tryz.prog 85 #[.pointer (some ⟨b, 0, none⟩)] w fun e w' => e = .returned (.tuple #[]) ∧ MachP w' b fb mb g x cs os G (m.stp 3 0) ∧ w.grownBy w' (some b) := by
  have A := Lib.hid h
  have HL := Lib.hid (fun W (hW : MachP W b fb mb g x cs os G m) => M5.load_at m.pc 4 hW.mem h.ok.pc)
  have E2 : M5.ldV m.sz m.f m.pc 4 = ldB m.f m.pc.toNat 4 := by unfold M5.ldV; rw [if_pos ht]; rfl
  have HD := Lib.hid (fun W (hW : Tabs W) => I2.dec_any (ldB m.f m.pc.toNat 4) W hW.i (ldB_word h.ok.f _ 4 (by decide)))
  rw [ht, E2] at HL
  rw [hd] at HD
  generalize ldB m.f m.pc.toNat 4 = z at *
  generalize I2.dO z = d0 at *
  generalize I2.dD z = d1 at *
  generalize I2.dS z = d2 at *
  generalize I2.dT z = d3 at *
  generalize I2.dB z = d4 at *
  generalize I2.dN z = d5 at *
  clear h ht hd E2
  go_enter Tryz.func85, Tryz.ntmps85
  go_wp2_with fail
  have HS : Hid (∀ W, Below w.heap.size w W → W.cell? ⟨b, 1, none⟩ = some (.pointer (some ⟨mb, 0, none⟩)) ∧ W.cell? ⟨b, 2, none⟩ = some (.int .u32 m.pc) ∧ Below w.heap.size w W) := fun W k => by
    obtain ⟨_, k1, k2, _⟩ := (A.out.bel k).cells
    exact ⟨k1, k2, k⟩
  go_region_held3 (fun W => W.cell? ⟨b, 1, none⟩ = some (.pointer (some ⟨mb, 0, none⟩)) ∧ W.cell? ⟨b, 2, none⟩ = some (.int .u32 m.pc) ∧ Below w.heap.size w W)
    (first
      | exact HS.out _ (Below.refl _ _).drew
      | (go_split_ands; exact HS.out _ (bel_trans (by assumption) gL)))
    ((go_at_call 53; refine (HL.out _ (A.out.bel (Below.refl _ _).drew)).mono ?_; rintro e w1 ⟨rfl, gL⟩))
  rename_i hH
  have b1 := Lib.hid hH.2.2
  clear hH HS gL
  have P1 := Lib.hid (A.out.bel b1.out)
  go_wp2_with fail
  refine (HD.out _ P1.out.tab).mono ?_; rintro e w2 ⟨rfl, g2⟩
  have b2 := Lib.hid (bel_trans b1.out g2.bel)
  have b3 : Hid (Below w.heap.size w (w2.alloc (.cells #[.int .u8 d0, .int .u8 d1, .int .u8 d2, .int .u8 d3, .bool d4, .int .i32 d5] 88))) := b2.out.alloc b2.out.size _
  have P3 := Lib.hid (A.out.bel b3.out)
  go_wp2_with fail
  refine (halt_at 3 0 P3.out (by decide) (by decide) ⟨by decide, by decide⟩).mono ?_; rintro e w4 ⟨rfl, P4, g4⟩
  have P4 := Lib.hid P4
  go_wp2_with fail
  refine bodyPost_ret (results_none rfl _ _ _) rfl ?_
  exact ⟨rfl, P4.out, only_trans (bel_only b3.out _) g4⟩
theorem fn_size : (Tryz.prog.info? 250).map (·.size) = some 1 := by kernel_rfl
theorem eff_index (o : Int) (k : Nat) (h0 : 0 ≤ o) (h1 : o < 38) (hk : effRow[o.toNat]? = some (.func (.func k) #[] #[])) (W : World) :
    Sem.run Tryz.prog (Instr.index 251 (.agg effRow) (.int .u8 o)) W = .ok (.func (.func k) #[] #[]) W := by
  have hs : Sem.run Tryz.prog (sizeOf 250) W = .ok 1 W := by
    cases hz : Tryz.prog.info? 250 with
    | none => have := fn_size; rw [hz] at this; simp at this
    | some i => have := fn_size; rw [hz] at this; simp at this; simp [sizeOf, typeInfo, hz, this]
  simp [Instr.index, asIntOf, underlying, h0, h1, part, hs, hk]
/-- An instruction in a block. -/
def IAt (w : World) (z : Nat) (i : XV) : Prop := w.heap[z]? = some (.cells #[.int .u8 i.o, .int .u8 i.d, .int .u8 i.s, .int .u8 i.t, .bool i.ib, .int .i32 i.n] 88 (0, 0))
theorem IAt.held {V W : World} {z : Nat} {i : XV} (h : IAt V z i) (k : Turns G V W) (hz : ¬ G z) : W.cell? ⟨z, 0, none⟩ = some (.int .u8 i.o) ∧ W.cell? ⟨z, 1, none⟩ = some (.int .u8 i.d) ∧ W.cell? ⟨z, 2, none⟩ = some (.int .u8 i.s) ∧ W.cell? ⟨z, 3, none⟩ = some (.int .u8 i.t) ∧ W.cell? ⟨z, 4, none⟩ = some (.bool i.ib) ∧ W.cell? ⟨z, 5, none⟩ = some (.int .i32 i.n) ∧ Turns G V W := by
  have r : IAt W z i := k.heap hz h
  exact ⟨row_cell r rfl, row_cell r rfl, row_cell r rfl, row_cell r rfl, row_cell r rfl, row_cell r rfl, k⟩
end
end Go.Proofs.YtiobgnelhiadbaaGreatDoor.K6
namespace Go.Proofs.YtiobgnelhiadbaaGreatDoor.K6
open Go.RowKit
set_option linter.unusedVariables false
section
variable {w : World} {b fb mb g x : Nat} {cs os : Value} {G : Nat → Prop} {m : MS}
set_option maxRecDepth 100000 in
set_option maxHeartbeats 40000000 in
theorem execute_any (F : Nat) (hF : F = 205 ∨ F = 226 ∨ F = 227 ∨ F = 211 ∨ F = 223 ∨ F = 212 ∨ F = 207 ∨ F = 208 ∨ F = 209 ∨ F = 210 ∨ F = 206 ∨ F = 213 ∨ F = 215 ∨ F = 214 ∨ F = 216 ∨ F = 217 ∨ F = 218 ∨ F = 219 ∨ F = 220 ∨ F = 221 ∨ F = 222 ∨ F = 224 ∨ F = 225 ∨ F = 228) (i : XV) (m' : MS) (hm' : MOk m') (h : MachP w b fb mb g x cs os G m) (ht : thE m.sz m.pc 4 = 0) (hd : I2.dk (ldB m.f m.pc.toNat 4) = true)
    (hi : i = ⟨b, I2.dO (ldB m.f m.pc.toNat 4), I2.dD (ldB m.f m.pc.toNat 4), I2.dS (ldB m.f m.pc.toNat 4), I2.dT (ldB m.f m.pc.toNat 4), I2.dB (ldB m.f m.pc.toNat 4), I2.dN (ldB m.f m.pc.toNat 4), m.get (I2.dS (ldB m.f m.pc.toNat 4)), if I2.dB (ldB m.f m.pc.toNat 4) then I2.dN (ldB m.f m.pc.toNat 4) % 4294967296 else m.get (I2.dT (ldB m.f m.pc.toNat 4))⟩)
    (hk : effRow[i.o.toNat]? = some (.func (.func F) #[] #[]))
    (he : ∀ W, MachP W b fb mb g x cs os G m → Calls Tryz.prog F #[.agg (xrow i)] W (Goes W b G m m')) :
    Calls Tryz.prog 85 #[.pointer (some ⟨b, 0, none⟩)] w fun e w' => e = .returned (.tuple #[]) ∧ Left w b G m' w' := by
  have A := Lib.hid h
  have HL := Lib.hid (fun W (hW : MachP W b fb mb g x cs os G m) => M5.load_at m.pc 4 hW.mem h.ok.pc)
  have E2 : M5.ldV m.sz m.f m.pc 4 = ldB m.f m.pc.toNat 4 := by unfold M5.ldV; rw [if_pos ht]; rfl
  have HD := Lib.hid (fun W (hW : Tabs W) => I2.dec_any (ldB m.f m.pc.toNat 4) W hW.i (ldB_word h.ok.f _ 4 (by decide)))
  have hp := parts_dk (ldB_word h.ok.f m.pc.toNat 4 (by decide)) hd
  rw [ht, E2] at HL
  rw [hd] at HD
  have hR : ∀ W, MachP W b fb mb g x cs os G m → Calls Tryz.prog 152 #[.pointer (some ⟨b, 0, none⟩), .int .u8 i.s] W fun e w' => e = .returned (.int .u32 i.a) ∧ Below W.heap.size W w' := fun W hW => by
    rw [hi]; exact register_at _ hW hp.s0 hp.s1
  have hS : ∀ W, MachP W b fb mb g x cs os G m → Calls Tryz.prog 153 #[.pointer (some ⟨b, 0, none⟩), .agg #[.int .u8 i.o, .int .u8 i.d, .int .u8 i.s, .int .u8 i.t, .bool i.ib, .int .i32 i.n]] W fun e w' => e = .returned (.int .u32 i.y) ∧ Below W.heap.size W w' := fun W hW => by
    rw [hi]
    show Calls _ _ #[_, .agg #[_, _, _, _, .bool (I2.dB _), _]] _ _
    cases hb : I2.dB (ldB m.f m.pc.toNat 4) with
    | true => exact second_yes _ _ _ _ _ hW
    | false => exact second_no _ _ _ _ _ hW hp.t0 hp.t1
  have hD : ∀ W, Tabs W → Calls Tryz.prog 150 #[.int .u32 (ldB m.f m.pc.toNat 4)] W fun e w' => e = .returned (.tuple #[.agg #[.int .u8 i.o, .int .u8 i.d, .int .u8 i.s, .int .u8 i.t, .bool i.ib, .int .i32 i.n], .bool true]) ∧ Below W.heap.size W w' := fun W hW => by
    rw [hi]; exact (HD.out W hW).mono fun e w' hh => ⟨hh.1, hh.2.bel⟩
  have hib : i.b = b := by rw [hi]
  have ho0 : 0 ≤ i.o := by have := hp.o0; rw [hi]; show 0 ≤ I2.dO _; omega
  have ho1 : i.o < 38 := by have := hp.o1; rw [hi]; show I2.dO _ < 38; omega
  have HR := Lib.hid hR
  have HSe := Lib.hid hS
  have HDe := Lib.hid hD
  have hx : xrow i = #[.pointer (some ⟨b, 0, none⟩), .int .u8 i.o, .int .u8 i.d, .int .u8 i.s, .int .u8 i.t, .bool i.ib, .int .i32 i.n, .int .u32 i.a, .int .u32 i.y] := by rw [← hib]; rfl
  rw [hx] at he
  have HE := Lib.hid he
  have HK := Lib.hid hk
  have HM := Lib.hid hm'
  generalize ldB m.f m.pc.toNat 4 = z at *
  clear h ht hd E2 hi hk he hp hm' hx hib hR hS hD HD
  rcases hF with rfl | rfl | rfl | rfl | rfl | rfl | rfl | rfl | rfl | rfl | rfl | rfl | rfl | rfl | rfl | rfl | rfl | rfl | rfl | rfl | rfl | rfl | rfl | rfl
  all_goals
    go_enter Tryz.func85, Tryz.ntmps85
    go_wp2_with fail
    have HS : Hid (∀ W, Below w.heap.size w W → W.cell? ⟨b, 1, none⟩ = some (.pointer (some ⟨mb, 0, none⟩)) ∧ W.cell? ⟨b, 2, none⟩ = some (.int .u32 m.pc) ∧ Below w.heap.size w W) := fun W k => by
      obtain ⟨_, k1, k2, _⟩ := (A.out.bel k).cells
      exact ⟨k1, k2, k⟩
    go_region_held3 (fun W => W.cell? ⟨b, 1, none⟩ = some (.pointer (some ⟨mb, 0, none⟩)) ∧ W.cell? ⟨b, 2, none⟩ = some (.int .u32 m.pc) ∧ Below w.heap.size w W)
      (first
        | exact HS.out _ (Below.refl _ _).drew
        | (go_split_ands; exact HS.out _ (bel_trans (by assumption) gL)))
      ((go_at_call 53; refine (HL.out _ (A.out.bel (Below.refl _ _).drew)).mono ?_; rintro e w1 ⟨rfl, gL⟩))
    rename_i hH
    have b1 := Lib.hid hH.2.2
    clear hH HS gL
    have P1 := Lib.hid (A.out.bel b1.out)
    go_wp2_with fail
    refine (HDe.out _ P1.out.tab).mono ?_; rintro e w2 ⟨rfl, g2⟩
    have b2 := Lib.hid (bel_trans b1.out g2)
    have b3 : Hid (Below w.heap.size w (w2.alloc (.cells #[.int .u8 i.o, .int .u8 i.d, .int .u8 i.s, .int .u8 i.t, .bool i.ib, .int .i32 i.n] 88))) := b2.out.alloc b2.out.size _
    have I3 : Hid (IAt (w2.alloc (.cells #[.int .u8 i.o, .int .u8 i.d, .int .u8 i.s, .int .u8 i.t, .bool i.ib, .int .i32 i.n] 88)) w2.heap.size i) := heap_alloc_last _ _
    have P3 := Lib.hid (A.out.bel b3.out)
    have hz : Hid (w.heap.size ≤ w2.heap.size) := b2.out.size
    go_upto_region 6 with fail
    generalize w2.alloc (.cells #[.int .u8 i.o, .int .u8 i.d, .int .u8 i.s, .int .u8 i.t, .bool i.ib, .int .i32 i.n] 88) = V at *
    generalize w2.heap.size = z at *
    have hGz : Hid (¬ G z) := fun e => by have := A.out.lt _ e; have := hz.out; omega
    clear P1 b1 b2 g2
    have hk := eff_index i.o _ ho0 ho1 HK.out
    have HS : Hid (∀ W, Turns G V W → W.cell? ⟨z, 0, none⟩ = some (.int .u8 i.o) ∧ W.cell? ⟨z, 1, none⟩ = some (.int .u8 i.d) ∧ W.cell? ⟨z, 2, none⟩ = some (.int .u8 i.s) ∧ W.cell? ⟨z, 3, none⟩ = some (.int .u8 i.t) ∧ W.cell? ⟨z, 4, none⟩ = some (.bool i.ib) ∧ W.cell? ⟨z, 5, none⟩ = some (.int .i32 i.n) ∧ Turns G V W) := fun W kk => I3.out.held kk hGz.out
    go_region_held3 (fun W => W.cell? ⟨z, 0, none⟩ = some (.int .u8 i.o) ∧ W.cell? ⟨z, 1, none⟩ = some (.int .u8 i.d) ∧ W.cell? ⟨z, 2, none⟩ = some (.int .u8 i.s) ∧ W.cell? ⟨z, 3, none⟩ = some (.int .u8 i.t) ∧ W.cell? ⟨z, 4, none⟩ = some (.bool i.ib) ∧ W.cell? ⟨z, 5, none⟩ = some (.int .i32 i.n) ∧ Turns G V W)
      (first
        | exact HS.out _ (Turns.of_bel (Below.refl _ _).drew)
        | (go_split_ands; exact HS.out _ (Turns.of_bel (bel_trans (Below.refl _ _).drew gL))))
      ((go_at_call 151; refine (effects_any _).mono ?_; rintro e w5 ⟨rfl, gL⟩))
    rename_i hH
    have T5 := Lib.hid hH.2.2.2.2.2.2
    have B5 : Hid (Below V.heap.size V w5) := bel_trans (Below.refl _ _).drew gL
    clear hH HS hk gL
    have P5 := Lib.hid (P3.out.bel B5.out)
    have b5 := Lib.hid (bel_trans b3.out B5.out)
    have I5 : Hid (IAt w5 z i) := bel_heap B5.out I3.out
    clear P3 b3 I3 T5 B5
    go_upto_region 7 with fail
    have HS : Hid (∀ W, Turns G w5 W → W.cell? ⟨z, 0, none⟩ = some (.int .u8 i.o) ∧ W.cell? ⟨z, 1, none⟩ = some (.int .u8 i.d) ∧ W.cell? ⟨z, 2, none⟩ = some (.int .u8 i.s) ∧ W.cell? ⟨z, 3, none⟩ = some (.int .u8 i.t) ∧ W.cell? ⟨z, 4, none⟩ = some (.bool i.ib) ∧ W.cell? ⟨z, 5, none⟩ = some (.int .i32 i.n) ∧ Turns G w5 W) := fun W kk => I5.out.held kk hGz.out
    go_region_held3 (fun W => W.cell? ⟨z, 0, none⟩ = some (.int .u8 i.o) ∧ W.cell? ⟨z, 1, none⟩ = some (.int .u8 i.d) ∧ W.cell? ⟨z, 2, none⟩ = some (.int .u8 i.s) ∧ W.cell? ⟨z, 3, none⟩ = some (.int .u8 i.t) ∧ W.cell? ⟨z, 4, none⟩ = some (.bool i.ib) ∧ W.cell? ⟨z, 5, none⟩ = some (.int .i32 i.n) ∧ Turns G w5 W)
      (first
        | exact HS.out _ (Turns.of_bel (Below.refl _ _).drew)
        | (go_split_ands; exact HS.out _ (Turns.of_bel B6.out))
        | (go_split_ands; exact HS.out _ (Turns.of_bel B7.out))
        | (go_split_ands; exact HS.out _ T8.out)
        | (go_split_ands; exact HS.out _ (T8.out.trans (Turns.of_only (only_cell (bel_only (Below.refl _ _) b) _ _) A.out.gb) (fun _ hi => .inl hi))))
      (first
        | (go_at_call 152; refine (HR.out _ (P5.out.bel (Below.refl _ _).drew)).mono ?_; rintro e w6 ⟨rfl, gL⟩; have B6 := Lib.hid (bel_trans (Below.refl _ w5).drew gL))
        | (go_at_call 153; refine (HSe.out _ (P5.out.bel B6.out)).mono ?_; rintro e w7 ⟨rfl, gL⟩; have B7 := Lib.hid (bel_trans B6.out gL))
        | ((first
            | go_at_call 205
            | go_at_call 226
            | go_at_call 227
            | go_at_call 211
            | go_at_call 223
            | go_at_call 212
            | go_at_call 207
            | go_at_call 208
            | go_at_call 209
            | go_at_call 210
            | go_at_call 206
            | go_at_call 213
            | go_at_call 215
            | go_at_call 214
            | go_at_call 216
            | go_at_call 217
            | go_at_call 218
            | go_at_call 219
            | go_at_call 220
            | go_at_call 221
            | go_at_call 222
            | go_at_call 224
            | go_at_call 225
            | go_at_call 228
            ); refine (HE.out _ (P5.out.bel B7.out)).mono ?_; rintro e w8 ⟨rfl, G8, ⟨fb8, mb8, g8, x8, cs8, os8, P8⟩, gT, n8⟩; have P8 := Lib.hid P8; have n8 := Lib.hid n8; have c8 := P8.out.cells.2.2.1; have f8 := P8.out.frozen 2; have T8 : Hid (Turns G w5 w8) := (Turns.of_bel B7.out).trans gT (fun _ hi => .inl hi)))
    obtain ⟨P9, g9⟩ := P8.out.put1 2 (.int .u32 m'.pc) (put_pc _ _ _ _ _ _) ⟨rfl, rfl, rfl, rfl, rfl, rfl, rfl, rfl⟩ (P8.out.ok.jmp HM.out.pc)
    have P9 := Lib.hid P9
    go_wp2_with fail
    go_end0
    refine ⟨rfl, G8, P9.out.b, ?_, fun j hj => (n8.out j hj).imp id (fun e => Nat.le_trans b5.out.size (Nat.le_trans B7.out.size e))⟩
    exact (Turns.of_bel b5.out).trans (T8.out.trans (Turns.of_only g9 A.out.gb) (fun _ hi => .inl hi)) (fun _ hi => .inl hi)
end
end Go.Proofs.YtiobgnelhiadbaaGreatDoor.K6
