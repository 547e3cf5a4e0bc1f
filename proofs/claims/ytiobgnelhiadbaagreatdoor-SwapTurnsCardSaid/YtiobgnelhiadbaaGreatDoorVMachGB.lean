/- Package mach as it has landed: methods of an instruction that is executed (fail, trap, result, alu, sethi, end, fault, call, jump, readWim). Package mach as it has landed: methods of an instruction that is executed (regions that draw their order). Package mach as it has landed: methods of an instruction that is executed (compare, branch, readWim, readState, raise, savedWord, readSaved, writeSaved). Package mach as it has landed: methods of an instruction that is executed (raise, savedWord, readSaved, writeSaved, writeWim). Package mach as it has landed: SetWim, and methods of an instruction that is executed (writeWim, turn, save, restore, store). Package mach as it has landed: methods of an instruction that is executed (store, choose). -/
import Derived.Test.YtiobgnelhiadbaaGreatDoorVMachGA
import Derived.Test.YtiobgnelhiadbaaGreatDoorVWordGD
import Derived.Test.YtiobgnelhiadbaaGreatDoorVWordG
namespace Go.Proofs.YtiobgnelhiadbaaGreatDoor.K6
open Go.RowKit
set_option linter.unusedVariables false
section
variable {w : World} {b fb mb g x : Nat} {cs os : Value} {G : Nat → Prop} {m : MS}
theorem XAt.only {w w' : World} {c y : Nat} {v : XV} (h : XAt w c v) (k : w.grownBy w' (some y)) (hc : c ≠ y) : XAt w' c v := only_heap k hc h
theorem fail_at (v : XV) (h : MachP w v.b fb mb g x cs os G m) :
    Calls Tryz.prog 276 #[.agg (xrow v)] w fun e w' => e = .returned (.int .u32 m.pc) ∧ MachP w' v.b fb mb g x cs os G (m.stp 3 0) ∧ w.grownBy w' (some v.b) := by
  have A := Lib.hid h
  clear h
  go_enter Tryz.func276, Tryz.ntmps276
  go_upto_region 1 with (refine x_box rfl _ rfl _ rfl v rfl ?_; intro V r1 b1; obtain ⟨x0, x1, x2, x3, x4, x5, x6, x7, x8⟩ := r1.out.all; obtain ⟨k0, k1, k2, k3, k4, k5, k6, k7, k42, k43, k44, k45⟩ := (A.out.bel b1).cells)
  have P1 := Lib.hid (A.out.bel b1)
  go_wp2_with fail
  refine (halt_at 3 0 P1.out (by decide) (by decide) ⟨by decide, by decide⟩).mono ?_; rintro e w2 ⟨rfl, P2, g2⟩
  have P2 := Lib.hid P2
  go_wp2_with fail
  go_ret
  exact ⟨rfl, P2.out, only_trans (bel_only b1 _) g2⟩
theorem trap_at (v : XV) (k pc : Int) (h : MachP w v.b fb mb g x cs os G m) (h0 : 0 ≤ k) (h1 : k < 256) (hp : W32 pc) :
    Calls Tryz.prog 278 #[.agg (xrow v), .int .u8 k, .int .u32 pc] w fun e w' => e = .returned (.int .u32 (m.wnd k pc).pc) ∧ MachP w' v.b fb mb g x cs os G ((m.wnd k pc).jmp m.pc) ∧ w.grownBy w' (some v.b) := by
  have A := Lib.hid h
  clear h
  by_cases hb : m.bank = 0
  · have E : m.wnd k pc = m.trap 16 k pc := by unfold MS.wnd; rw [if_pos hb]
    rw [E]; clear E
    have HB : Hid (m.bank = 0) := hb
    have HP := Lib.hid hp
    clear hb hp
    go_enter Tryz.func278, Tryz.ntmps278
    go_upto_region 1 with (refine x_box rfl _ rfl _ rfl v rfl ?_; intro V r1 b1; obtain ⟨x0, x1, x2, x3, x4, x5, x6, x7, x8⟩ := r1.out.all; obtain ⟨k0, k1, k2, k3, k4, k5, k6, k7, k42, k43, k44, k45⟩ := (A.out.bel b1).cells; rw [HB.out] at k5)
    have P1 := Lib.hid (A.out.bel b1)
    go_wp2_with fail
    refine (enter_at 16 k pc P1.out (by decide) (by decide) h0 h1 HP.out).mono ?_; rintro e w2 ⟨rfl, P2, g2⟩
    have P2 := Lib.hid P2
    go_wp2_with fail
    go_ret
    exact ⟨rfl, P2.out, only_trans (bel_only b1 _) g2⟩
  · have E : m.wnd k pc = m.stp 3 0 := by unfold MS.wnd; rw [if_neg hb]
    rw [E]; clear E hp
    have hb' : (m.bank != 0) = true := by simpa using hb
    clear hb
    go_enter Tryz.func278, Tryz.ntmps278
    go_upto_region 1 with (refine x_box rfl _ rfl _ rfl v rfl ?_; intro V r1 b1; obtain ⟨x0, x1, x2, x3, x4, x5, x6, x7, x8⟩ := r1.out.all; obtain ⟨k0, k1, k2, k3, k4, k5, k6, k7, k42, k43, k44, k45⟩ := (A.out.bel b1).cells)
    have P1 := Lib.hid (A.out.bel b1)
    go_wp2_with (refine x_load rfl _ rfl _ rfl _ v rfl r1.out ?_)
    refine (fail_at v P1.out).mono ?_; rintro e w2 ⟨rfl, P2, g2⟩
    have P2 := Lib.hid P2
    go_wp2_with fail
    go_ret
    exact ⟨rfl, P2.out, only_trans (bel_only b1 _) g2⟩
theorem result_at (v : XV) (u : Int) (h : MachP w v.b fb mb g x cs os G m) (h0 : 0 ≤ v.d) (h1 : v.d < 32) (hu : W32 u) :
    Calls Tryz.prog 263 #[.agg (xrow v), .int .u32 u] w fun e w' => e = .returned (.int .u32 (m.set v.d u).on.pc) ∧ MachP w' v.b fb mb g x cs os G (m.set v.d u) ∧ w.grownBy w' (some fb) := by
  have A := Lib.hid h
  have hcf : Hid (w.heap.size ≠ fb) := by have := h.lt _ h.gf; unfold Hid; omega
  have hcb : Hid (w.heap.size ≠ v.b) := by have := h.lt _ h.gb; unfold Hid; omega
  have hcg : Hid (w.heap.size ≠ g) := by have := h.lt _ h.gg; unfold Hid; omega
  have HU := Lib.hid hu
  clear h hu
  go_enter Tryz.func263, Tryz.ntmps263
  go_upto_region 1 with (refine x_box rfl _ rfl _ rfl v rfl ?_; intro V r1 b1; obtain ⟨x0, x1, x2, x3, x4, x5, x6, x7, x8⟩ := r1.out.all; obtain ⟨k0, k1, k2, k3, k4, k5, k6, k7, k42, k43, k44, k45⟩ := (A.out.bel b1).cells)
  have P1 := Lib.hid (A.out.bel b1)
  go_wp2_with fail
  refine (setRegister_at v.d u P1.out h0 h1 HU.out).mono ?_; rintro e w2 ⟨rfl, P2, g2⟩
  have P2 := Lib.hid P2
  have r2 := Lib.hid (r1.out.only g2 hcf.out)
  go_wp2_with (refine x_load rfl _ rfl _ rfl _ v rfl r2.out ?_)
  refine (following_at v P2.out).mono ?_; rintro e w3 ⟨rfl, g3⟩
  have P3 := Lib.hid (P2.out.bel g3)
  go_wp2_with fail
  go_ret
  exact ⟨rfl, P3.out, only_trans (only_trans (bel_only b1 _) g2) (bel_only g3 _)⟩
/-- A method of an instruction leaves the machine as m', but its PC, which it answers. -/
def Goes (w : World) (b : Nat) (G : Nat → Prop) (m m' : MS) (e : Ending) (w' : World) : Prop := e = .returned (.int .u32 m'.pc) ∧ Left w b G (m'.jmp m.pc) w'
set_option maxHeartbeats 1000000 in
theorem alu_at (v : XV) (h : MachP w v.b fb mb g x cs os G m) (h0 : 0 ≤ v.d) (h1 : v.d < 32) (o0 : 1 ≤ v.o) (o1 : v.o ≤ 14) (ha : W32 v.a) (hy : W32 v.y) :
    Calls Tryz.prog 205 #[.agg (xrow v)] w fun e w' => Goes w v.b G m (mAlu m v.o v.d v.a v.y) e w' := by
  have A := Lib.hid h
  have hcf : Hid (w.heap.size ≠ fb) := by have := h.lt _ h.gf; unfold Hid; omega
  have hcb : Hid (w.heap.size ≠ v.b) := by have := h.lt _ h.gb; unfold Hid; omega
  have hcg : Hid (w.heap.size ≠ g) := by have := h.lt _ h.gg; unfold Hid; omega
  have HD := Lib.hid (fun W => W1.do_any (v.o - 1) v.a v.y W (by omega) ha hy)
  have HV := Lib.hid (W1.dv_bd (v.o - 1) v.a v.y ha)
  clear h ha hy
  by_cases hd : W1.dok (v.o - 1) v.y = true
  · have E : mAlu m v.o v.d v.a v.y = (m.set v.d (W1.dv (v.o - 1) v.a v.y)).on := by unfold mAlu; rw [if_pos hd]
    rw [E]; clear E
    rw [hd] at HD
    clear hd
    go_enter Tryz.func205, Tryz.ntmps205
    go_upto_region 1 with (refine x_box rfl _ rfl _ rfl v rfl ?_; intro V r1 b1; obtain ⟨x0, x1, x2, x3, x4, x5, x6, x7, x8⟩ := r1.out.all; obtain ⟨k0, k1, k2, k3, k4, k5, k6, k7, k42, k43, k44, k45⟩ := (A.out.bel b1).cells)
    have P1 := Lib.hid (A.out.bel b1)
    go_wp2_with fail
    refine (HD.out _).mono ?_; rintro e w2 ⟨rfl, g2⟩
    have b2 := Lib.hid (bel_trans b1 g2.bel)
    have r2 := Lib.hid (r1.out.bel g2.bel)
    clear g2
    go_wp2_with (refine x_load rfl _ rfl _ rfl _ v rfl r2.out ?_)
    refine (result_at v (W1.dv (v.o - 1) v.a v.y) (A.out.bel b2.out) h0 h1 HV.out).mono ?_; rintro e w3 ⟨rfl, P3, g3⟩
    have P3 := Lib.hid P3
    go_wp2_with fail
    go_ret
    exact ⟨rfl, Left.only P3.out (only_trans (bel_only b2.out _) g3) A.out.gf⟩
  · have E : mAlu m v.o v.d v.a v.y = m.stp 2 1 := by unfold mAlu; rw [if_neg hd]
    rw [E]; clear E
    have hd : W1.dok (v.o - 1) v.y = false := by simpa using hd
    rw [hd] at HD
    clear hd
    go_enter Tryz.func205, Tryz.ntmps205
    go_upto_region 1 with (refine x_box rfl _ rfl _ rfl v rfl ?_; intro V r1 b1; obtain ⟨x0, x1, x2, x3, x4, x5, x6, x7, x8⟩ := r1.out.all; obtain ⟨k0, k1, k2, k3, k4, k5, k6, k7, k42, k43, k44, k45⟩ := (A.out.bel b1).cells)
    have P1 := Lib.hid (A.out.bel b1)
    go_wp2_with fail
    refine (HD.out _).mono ?_; rintro e w2 ⟨rfl, g2⟩
    have b2 := Lib.hid (bel_trans b1 g2.bel)
    have r2 := Lib.hid (r1.out.bel g2.bel)
    obtain ⟨x0, x1, x2, x3, x4, x5, x6, x7, x8⟩ := r2.out.all
    clear g2
    go_wp2_with fail
    refine (halt_at 2 1 (A.out.bel b2.out) (by decide) (by decide) ⟨by decide, by decide⟩).mono ?_; rintro e w3 ⟨rfl, P3, g3⟩
    have P3 := Lib.hid P3
    go_wp2_with fail
    go_ret
    exact ⟨rfl, Left.only P3.out (only_trans (bel_only b2.out _) g3) A.out.gb⟩
theorem sethi_at (v : XV) (h : MachP w v.b fb mb g x cs os G m) (h0 : 0 ≤ v.d) (h1 : v.d < 32) :
    Calls Tryz.prog 206 #[.agg (xrow v)] w fun e w' => Goes w v.b G m ((m.set v.d (v.n % 4294967296 * 2048 % 4294967296)).on) e w' := by
  have A := Lib.hid h
  clear h
  go_enter Tryz.func206, Tryz.ntmps206
  go_upto_region 1 with (refine x_box rfl _ rfl _ rfl v rfl ?_; intro V r1 b1; obtain ⟨x0, x1, x2, x3, x4, x5, x6, x7, x8⟩ := r1.out.all; obtain ⟨k0, k1, k2, k3, k4, k5, k6, k7, k42, k43, k44, k45⟩ := (A.out.bel b1).cells)
  have P1 := Lib.hid (A.out.bel b1)
  go_wp2_with (refine x_load rfl _ rfl _ rfl _ v rfl r1.out ?_)
  refine (result_at v (v.n % 4294967296 * 2048 % 4294967296) P1.out h0 h1 (w32_mod _)).mono ?_; rintro e w3 ⟨rfl, P3, g3⟩
  have P3 := Lib.hid P3
  go_wp2_with fail
  go_ret
  exact ⟨rfl, Left.only P3.out (only_trans (bel_only b1 _) g3) A.out.gf⟩
theorem end_at (v : XV) (h : MachP w v.b fb mb g x cs os G m) (ha : W32 v.a) :
    Calls Tryz.prog 227 #[.agg (xrow v)] w fun e w' => Goes w v.b G m (m.stp 1 v.a) e w' := by
  have A := Lib.hid h
  have HA := Lib.hid ha
  clear h ha
  go_enter Tryz.func227, Tryz.ntmps227
  go_upto_region 1 with (refine x_box rfl _ rfl _ rfl v rfl ?_; intro V r1 b1; obtain ⟨x0, x1, x2, x3, x4, x5, x6, x7, x8⟩ := r1.out.all; obtain ⟨k0, k1, k2, k3, k4, k5, k6, k7, k42, k43, k44, k45⟩ := (A.out.bel b1).cells)
  have P1 := Lib.hid (A.out.bel b1)
  go_wp2_with fail
  refine (halt_at 1 v.a P1.out (by decide) (by decide) HA.out).mono ?_; rintro e w3 ⟨rfl, P3, g3⟩
  have P3 := Lib.hid P3
  go_wp2_with fail
  go_ret
  exact ⟨rfl, Left.only P3.out (only_trans (bel_only b1 _) g3) A.out.gb⟩
theorem fault_at (v : XV) (h : MachP w v.b fb mb g x cs os G m) :
    Calls Tryz.prog 228 #[.agg (xrow v)] w fun e w' => Goes w v.b G m (m.stp 2 (v.n % 4294967296)) e w' := by
  have A := Lib.hid h
  clear h
  go_enter Tryz.func228, Tryz.ntmps228
  go_upto_region 1 with (refine x_box rfl _ rfl _ rfl v rfl ?_; intro V r1 b1; obtain ⟨x0, x1, x2, x3, x4, x5, x6, x7, x8⟩ := r1.out.all; obtain ⟨k0, k1, k2, k3, k4, k5, k6, k7, k42, k43, k44, k45⟩ := (A.out.bel b1).cells)
  have P1 := Lib.hid (A.out.bel b1)
  go_wp2_with fail
  refine (halt_at 2 (v.n % 4294967296) P1.out (by decide) (by decide) (w32_mod _)).mono ?_; rintro e w3 ⟨rfl, P3, g3⟩
  have P3 := Lib.hid P3
  go_wp2_with fail
  go_ret
  exact ⟨rfl, Left.only P3.out (only_trans (bel_only b1 _) g3) A.out.gb⟩
end
end Go.Proofs.YtiobgnelhiadbaaGreatDoor.K6
namespace Go.Proofs.YtiobgnelhiadbaaGreatDoor.K6
open Go.RowKit
set_option linter.unusedVariables false
section
variable {w : World} {b fb mb g x : Nat} {cs os : Value} {G : Nat → Prop} {m : MS}
/-- What stands while only memory is made. -/
theorem hold_bel {V W : World} {c : Nat} {v : XV} (r : XAt V c v) (P : MachP V v.b fb mb g x cs os G m) (k : Below V.heap.size V W) :
    W.cell? ⟨c, 0, none⟩ = some (.pointer (some ⟨v.b, 0, none⟩)) ∧ W.cell? ⟨c, 1, none⟩ = some (.int .u8 v.o) ∧ W.cell? ⟨c, 2, none⟩ = some (.int .u8 v.d) ∧ W.cell? ⟨c, 3, none⟩ = some (.int .u8 v.s) ∧ W.cell? ⟨c, 4, none⟩ = some (.int .u8 v.t) ∧ W.cell? ⟨c, 5, none⟩ = some (.bool v.ib) ∧ W.cell? ⟨c, 6, none⟩ = some (.int .i32 v.n) ∧ W.cell? ⟨c, 7, none⟩ = some (.int .u32 v.a) ∧ W.cell? ⟨c, 8, none⟩ = some (.int .u32 v.y) ∧ W.cell? ⟨v.b, 0, none⟩ = some (.pointer (some ⟨fb, 0, none⟩)) ∧ W.cell? ⟨v.b, 1, none⟩ = some (.pointer (some ⟨mb, 0, none⟩)) ∧ W.cell? ⟨v.b, 2, none⟩ = some (.int .u32 m.pc) ∧ W.cell? ⟨v.b, 3, none⟩ = some (.int .u8 m.cwp) ∧ W.cell? ⟨v.b, 4, none⟩ = some (.int .u8 m.pil) ∧ W.cell? ⟨v.b, 5, none⟩ = some (.int .u8 m.bank) ∧ W.cell? ⟨v.b, 6, none⟩ = some (.int .u8 m.fl) ∧ W.cell? ⟨v.b, 7, none⟩ = some (.int .u32 m.wim) ∧ Below V.heap.size V W := by
  obtain ⟨x0, x1, x2, x3, x4, x5, x6, x7, x8⟩ := (r.bel k).all
  obtain ⟨k0, k1, k2, k3, k4, k5, k6, k7, _⟩ := (P.bel k).cells
  exact ⟨x0, x1, x2, x3, x4, x5, x6, x7, x8, k0, k1, k2, k3, k4, k5, k6, k7, k⟩
/-- .. while one block turns, which is not the box. -/
theorem hold_only {V W : World} {c y : Nat} {v : XV} (r : XAt V c v) (P : MachP V v.b fb mb g x cs os G m) (hc : c ≠ y) (hb : v.b ≠ y) (k : V.grownBy W (some y)) :
    W.cell? ⟨c, 0, none⟩ = some (.pointer (some ⟨v.b, 0, none⟩)) ∧ W.cell? ⟨c, 1, none⟩ = some (.int .u8 v.o) ∧ W.cell? ⟨c, 2, none⟩ = some (.int .u8 v.d) ∧ W.cell? ⟨c, 3, none⟩ = some (.int .u8 v.s) ∧ W.cell? ⟨c, 4, none⟩ = some (.int .u8 v.t) ∧ W.cell? ⟨c, 5, none⟩ = some (.bool v.ib) ∧ W.cell? ⟨c, 6, none⟩ = some (.int .i32 v.n) ∧ W.cell? ⟨c, 7, none⟩ = some (.int .u32 v.a) ∧ W.cell? ⟨c, 8, none⟩ = some (.int .u32 v.y) ∧ W.cell? ⟨v.b, 0, none⟩ = some (.pointer (some ⟨fb, 0, none⟩)) ∧ W.cell? ⟨v.b, 1, none⟩ = some (.pointer (some ⟨mb, 0, none⟩)) ∧ W.cell? ⟨v.b, 2, none⟩ = some (.int .u32 m.pc) ∧ W.cell? ⟨v.b, 3, none⟩ = some (.int .u8 m.cwp) ∧ W.cell? ⟨v.b, 4, none⟩ = some (.int .u8 m.pil) ∧ W.cell? ⟨v.b, 5, none⟩ = some (.int .u8 m.bank) ∧ W.cell? ⟨v.b, 6, none⟩ = some (.int .u8 m.fl) ∧ W.cell? ⟨v.b, 7, none⟩ = some (.int .u32 m.wim) ∧ V.grownBy W (some y) := by
  obtain ⟨x0, x1, x2, x3, x4, x5, x6, x7, x8⟩ := (r.only k hc).all
  have B := P.box.only k hb
  exact ⟨x0, x1, x2, x3, x4, x5, x6, x7, x8, B.cell (j := 0) (by decide), B.cell (j := 1) (by decide), B.cell (j := 2) (by decide), B.cell (j := 3) (by decide), B.cell (j := 4) (by decide), B.cell (j := 5) (by decide), B.cell (j := 6) (by decide), B.cell (j := 7) (by decide), k⟩
set_option maxRecDepth 100000 in
theorem call_at (v : XV) (h : MachP w v.b fb mb g x cs os G m) (hn : -2147483648 ≤ v.n ∧ v.n ≤ 2147483647) :
    Calls Tryz.prog 209 #[.agg (xrow v)] w fun e w' => Goes w v.b G m ((m.set 15 m.pc).jmp ((m.pc + 4 * (v.n % 4294967296) % 4294967296) % 4294967296)) e w' := by
  have A := Lib.hid h
  have hcf : Hid (w.heap.size ≠ fb) := by have := h.lt _ h.gf; unfold Hid; omega
  have hcb : Hid (w.heap.size ≠ v.b) := by have := h.lt _ h.gb; unfold Hid; omega
  have hcg : Hid (w.heap.size ≠ g) := by have := h.lt _ h.gg; unfold Hid; omega
  have HPC := Lib.hid h.ok.pc
  obtain ⟨z, hz⟩ : ∃ z, z = (m.pc + 4 * (v.n % 4294967296) % 4294967296) % 4294967296 := ⟨_, rfl⟩
  have HT : Hid (∀ W, MachP W v.b fb mb g x cs os G (m.set 15 m.pc) → Calls Tryz.prog 267 #[.agg (xrow v)] W fun e w' => e = .returned (.int .u32 z) ∧ Below W.heap.size W w') := fun W hW => by rw [hz]; exact target_at (m := m.set 15 m.pc) v hW hn
  rw [← hz]
  clear h hn hz
  go_enter Tryz.func209, Tryz.ntmps209
  go_upto_region 1 with (refine x_box rfl _ rfl _ rfl v rfl ?_; intro V r1 b1; obtain ⟨x0, x1, x2, x3, x4, x5, x6, x7, x8⟩ := r1.out.all; obtain ⟨k0, k1, k2, k3, k4, k5, k6, k7, k42, k43, k44, k45⟩ := (A.out.bel b1).cells)
  have P1 := Lib.hid (A.out.bel b1)
  go_wp2_with fail
  go_still_tail 7, (by kernel_rfl)
  change wpList _ _ _ _ _ V.drew
  have gd : Below V.heap.size V V.drew := (Below.refl _ _).drew
  have P2 := Lib.hid (P1.out.bel gd)
  have r2 := Lib.hid (r1.out.bel gd)
  have b2 := Lib.hid (bel_trans b1 gd)
  clear P1 r1 b1 gd
  generalize V.drew = V2 at *
  go_wp2_with fail
  refine (setRegister_at 15 m.pc P2.out (by decide) (by decide) HPC.out).mono ?_; rintro e w2 ⟨rfl, P3, g3⟩
  have P3 := Lib.hid P3
  have r3 := Lib.hid (r2.out.only g3 hcf.out)
  go_wp2_with (refine x_load rfl _ rfl _ rfl _ v rfl r3.out ?_)
  refine (HT.out _ P3.out).mono ?_; rintro e w4 ⟨rfl, g4⟩
  have P4 := Lib.hid (P3.out.bel g4)
  go_wp2_with fail
  go_ret
  exact ⟨rfl, Left.only P4.out (only_trans (only_trans (bel_only b2.out _) g3) (bel_only g4 _)) A.out.gf⟩
set_option maxRecDepth 100000 in
theorem jump_at (v : XV) (h : MachP w v.b fb mb g x cs os G m) (h0 : 0 ≤ v.d) (h1 : v.d < 32) :
    Calls Tryz.prog 210 #[.agg (xrow v)] w fun e w' => Goes w v.b G m ((m.set v.d m.pc).jmp ((v.a + v.y) % 4294967296)) e w' := by
  have A := Lib.hid h
  have hcf : Hid (w.heap.size ≠ fb) := by have := h.lt _ h.gf; unfold Hid; omega
  have hcb : Hid (w.heap.size ≠ v.b) := by have := h.lt _ h.gb; unfold Hid; omega
  have hcg : Hid (w.heap.size ≠ g) := by have := h.lt _ h.gg; unfold Hid; omega
  have HPC := Lib.hid h.ok.pc
  clear h
  go_enter Tryz.func210, Tryz.ntmps210
  go_upto_region 1 with (refine x_box rfl _ rfl _ rfl v rfl ?_; intro V r1 b1; obtain ⟨x0, x1, x2, x3, x4, x5, x6, x7, x8⟩ := r1.out.all; obtain ⟨k0, k1, k2, k3, k4, k5, k6, k7, k42, k43, k44, k45⟩ := (A.out.bel b1).cells)
  have P1 := Lib.hid (A.out.bel b1)
  go_wp2_with fail
  go_still_tail 10, (by kernel_rfl)
  change wpList _ _ _ _ _ V.drew
  have gd : Below V.heap.size V V.drew := (Below.refl _ _).drew
  have P2 := Lib.hid (P1.out.bel gd)
  have r2 := Lib.hid (r1.out.bel gd)
  have b2 := Lib.hid (bel_trans b1 gd)
  clear P1 r1 b1 gd
  generalize V.drew = V2 at *
  go_wp2_with fail
  refine (setRegister_at v.d m.pc P2.out h0 h1 HPC.out).mono ?_; rintro e w2 ⟨rfl, P3, g3⟩
  have P3 := Lib.hid P3
  have r3 := Lib.hid (r2.out.only g3 hcf.out)
  go_wp2_with (refine x_load rfl _ rfl _ rfl _ v rfl r3.out ?_)
  refine (sum_at v _).mono ?_; rintro e w4 ⟨rfl, g4⟩
  have P4 := Lib.hid (P3.out.bel g4)
  go_wp2_with fail
  go_ret
  exact ⟨rfl, Left.only P4.out (only_trans (only_trans (bel_only b2.out _) g3) (bel_only g4 _)) A.out.gf⟩
/-- What is read of the memory. -/
theorem loads_at (many : Int) (h : MachP w b fb mb g x cs os G m) (a : Int) (ha : W32 a) :
    Calls Tryz.prog 53 #[.pointer (some ⟨mb, 0, none⟩), .int .u32 a, .int .i64 many] w fun e w' => e = .returned (.tuple #[.int .u32 (M5.ldV m.sz m.f a many), .int .i64 (thE m.sz a many)]) ∧ Below w.heap.size w w' := M5.load_at a many h.mem ha
set_option maxHeartbeats 1000000 in
theorem load_at (v : XV) (many : Int) (h : MachP w v.b fb mb g x cs os G m) (h0 : 0 ≤ v.d) (h1 : v.d < 32) (hm : many = 1 ∨ many = 4) :
    Calls Tryz.prog 273 #[.agg (xrow v), .int .i64 many] w fun e w' => Goes w v.b G m (mLd m v.d ((v.a + v.y) % 4294967296) many) e w' := by
  have A := Lib.hid h
  have HF := Lib.hid h.ok.f
  have HM : Hid (many.toNat ≤ 4) := by unfold Hid; omega
  clear h
  by_cases ht : thE m.sz ((v.a + v.y) % 4294967296) many = 0
  · have E : mLd m v.d ((v.a + v.y) % 4294967296) many = (m.set v.d (ldB m.f ((v.a + v.y) % 4294967296).toNat many.toNat)).on := by unfold mLd; rw [if_pos ht]
    have E2 : M5.ldV m.sz m.f ((v.a + v.y) % 4294967296) many = ldB m.f ((v.a + v.y) % 4294967296).toNat many.toNat := by unfold M5.ldV; rw [if_pos ht]
    rw [E]; clear E
    have HL := Lib.hid (fun W (hW : MachP W v.b fb mb g x cs os G m) => loads_at many hW ((v.a + v.y) % 4294967296) (w32_mod _))
    rw [ht, E2] at HL
    clear E2
    clear ht
    go_enter Tryz.func273, Tryz.ntmps273
    go_upto_region 1 with (refine x_box rfl _ rfl _ rfl v rfl ?_; intro V r1 b1; obtain ⟨x0, x1, x2, x3, x4, x5, x6, x7, x8⟩ := r1.out.all; obtain ⟨k0, k1, k2, k3, k4, k5, k6, k7, k42, k43, k44, k45⟩ := (A.out.bel b1).cells)
    have P1 := Lib.hid (A.out.bel b1)
    go_wp2_with fail
    go_region_held3 (fun W => W.cell? ⟨w.heap.size, 0, none⟩ = some (.pointer (some ⟨v.b, 0, none⟩)) ∧ W.cell? ⟨w.heap.size, 1, none⟩ = some (.int .u8 v.o) ∧ W.cell? ⟨w.heap.size, 2, none⟩ = some (.int .u8 v.d) ∧ W.cell? ⟨w.heap.size, 3, none⟩ = some (.int .u8 v.s) ∧ W.cell? ⟨w.heap.size, 4, none⟩ = some (.int .u8 v.t) ∧ W.cell? ⟨w.heap.size, 5, none⟩ = some (.bool v.ib) ∧ W.cell? ⟨w.heap.size, 6, none⟩ = some (.int .i32 v.n) ∧ W.cell? ⟨w.heap.size, 7, none⟩ = some (.int .u32 v.a) ∧ W.cell? ⟨w.heap.size, 8, none⟩ = some (.int .u32 v.y) ∧ W.cell? ⟨v.b, 1, none⟩ = some (.pointer (some ⟨mb, 0, none⟩)) ∧ Below V.heap.size V W)
      (first
        | (obtain ⟨x0, x1, x2, x3, x4, x5, x6, x7, x8, k0, k1, k2, k3, k4, k5, k6, k7, kk⟩ := hold_bel r1.out P1.out (Below.refl _ _).drew; exact ⟨x0, x1, x2, x3, x4, x5, x6, x7, x8, k1, kk⟩)
        | (go_split_ands; obtain ⟨x0, x1, x2, x3, x4, x5, x6, x7, x8, k0, k1, k2, k3, k4, k5, k6, k7, kk⟩ := hold_bel r1.out P1.out (bel_trans (by assumption) gL); exact ⟨x0, x1, x2, x3, x4, x5, x6, x7, x8, k1, kk⟩))
      (first
        | (go_at_call 269; refine (sum_at v _).mono ?_; rintro e w2 ⟨rfl, gL⟩)
        | (go_at_call 53; refine (HL.out _ (P1.out.bel (bel_trans (Below.refl _ _).drew gL))).mono ?_; rintro e w3 ⟨rfl, gL⟩))
    rename_i hH
    have gH := hH.2.2.2.2.2.2.2.2.2.2
    have b2 := Lib.hid (bel_trans b1 gH)
    have r2 := Lib.hid (r1.out.bel gH)
    have P2 := Lib.hid (P1.out.bel gH)
    clear hH gH
    go_wp2_with (refine x_load rfl _ rfl _ rfl _ v rfl r2.out ?_)
    refine (result_at v (ldB m.f ((v.a + v.y) % 4294967296).toNat many.toNat) P2.out h0 h1 (ldB_word HF.out _ _ HM.out)).mono ?_; rintro e w4 ⟨rfl, P3, g3⟩
    have P3 := Lib.hid P3
    go_wp2_with fail
    go_ret
    exact ⟨rfl, Left.only P3.out (only_trans (bel_only b2.out _) g3) A.out.gf⟩
  · have E : mLd m v.d ((v.a + v.y) % 4294967296) many = m.stp 3 0 := by unfold mLd; rw [if_neg ht]
    rw [E]; clear E
    have HL := Lib.hid (fun W (hW : MachP W v.b fb mb g x cs os G m) => loads_at many hW ((v.a + v.y) % 4294967296) (w32_mod _))
    have ht' : (thE m.sz ((v.a + v.y) % 4294967296) many != 0) = true := by simpa using ht
    generalize M5.ldV m.sz m.f ((v.a + v.y) % 4294967296) many = z at *
    generalize thE m.sz ((v.a + v.y) % 4294967296) many = er at *
    clear ht
    go_enter Tryz.func273, Tryz.ntmps273
    go_upto_region 1 with (refine x_box rfl _ rfl _ rfl v rfl ?_; intro V r1 b1; obtain ⟨x0, x1, x2, x3, x4, x5, x6, x7, x8⟩ := r1.out.all; obtain ⟨k0, k1, k2, k3, k4, k5, k6, k7, k42, k43, k44, k45⟩ := (A.out.bel b1).cells)
    have P1 := Lib.hid (A.out.bel b1)
    go_wp2_with fail
    go_region_held3 (fun W => W.cell? ⟨w.heap.size, 0, none⟩ = some (.pointer (some ⟨v.b, 0, none⟩)) ∧ W.cell? ⟨w.heap.size, 1, none⟩ = some (.int .u8 v.o) ∧ W.cell? ⟨w.heap.size, 2, none⟩ = some (.int .u8 v.d) ∧ W.cell? ⟨w.heap.size, 3, none⟩ = some (.int .u8 v.s) ∧ W.cell? ⟨w.heap.size, 4, none⟩ = some (.int .u8 v.t) ∧ W.cell? ⟨w.heap.size, 5, none⟩ = some (.bool v.ib) ∧ W.cell? ⟨w.heap.size, 6, none⟩ = some (.int .i32 v.n) ∧ W.cell? ⟨w.heap.size, 7, none⟩ = some (.int .u32 v.a) ∧ W.cell? ⟨w.heap.size, 8, none⟩ = some (.int .u32 v.y) ∧ W.cell? ⟨v.b, 1, none⟩ = some (.pointer (some ⟨mb, 0, none⟩)) ∧ Below V.heap.size V W)
      (first
        | (obtain ⟨x0, x1, x2, x3, x4, x5, x6, x7, x8, k0, k1, k2, k3, k4, k5, k6, k7, kk⟩ := hold_bel r1.out P1.out (Below.refl _ _).drew; exact ⟨x0, x1, x2, x3, x4, x5, x6, x7, x8, k1, kk⟩)
        | (go_split_ands; obtain ⟨x0, x1, x2, x3, x4, x5, x6, x7, x8, k0, k1, k2, k3, k4, k5, k6, k7, kk⟩ := hold_bel r1.out P1.out (bel_trans (by assumption) gL); exact ⟨x0, x1, x2, x3, x4, x5, x6, x7, x8, k1, kk⟩))
      (first
        | (go_at_call 269; refine (sum_at v _).mono ?_; rintro e w2 ⟨rfl, gL⟩)
        | (go_at_call 53; refine (HL.out _ (P1.out.bel (bel_trans (Below.refl _ _).drew gL))).mono ?_; rintro e w3 ⟨rfl, gL⟩))
    rename_i hH
    have gH := hH.2.2.2.2.2.2.2.2.2.2
    have b2 := Lib.hid (bel_trans b1 gH)
    have r2 := Lib.hid (r1.out.bel gH)
    have P2 := Lib.hid (P1.out.bel gH)
    clear hH gH
    go_wp2_with (refine x_load rfl _ rfl _ rfl _ v rfl r2.out ?_)
    refine (fail_at v P2.out).mono ?_; rintro e w4 ⟨rfl, P3, g3⟩
    have P3 := Lib.hid P3
    go_wp2_with fail
    go_ret
    exact ⟨rfl, Left.only P3.out (only_trans (bel_only b2.out _) g3) A.out.gb⟩
end
end Go.Proofs.YtiobgnelhiadbaaGreatDoor.K6
namespace Go.Proofs.YtiobgnelhiadbaaGreatDoor.K6
open Go.RowKit
set_option linter.unusedVariables false
section
variable {w : World} {b fb mb g x : Nat} {cs os : Value} {G : Nat → Prop} {m : MS}
theorem MachP.put1 {w : World} (h : MachP w b fb mb g x cs os G m) (j : Nat) (u : Value) {m' : MS} (e : updV (mcell (.pointer (some ⟨fb, 0, none⟩)) (.pointer (some ⟨mb, 0, none⟩)) cs os m) j u = mcell (.pointer (some ⟨fb, 0, none⟩)) (.pointer (some ⟨mb, 0, none⟩)) cs os m') (i : InBox m m') (ok : MOk m') :
    MachP (w.setCell ⟨b, j, none⟩ u) b fb mb g x cs os G m' ∧ w.grownBy (w.setCell ⟨b, j, none⟩ u) (some b) :=
  ⟨h.boxed (h.store j u).2 (e ▸ (h.store j u).1) i ok, (h.store j u).2⟩
theorem MOk.wim32 (h : MOk m) : W32 m.wim := by
  obtain ⟨y, hy, e⟩ := h.wim
  rw [e]
  have := P4.pw_in (x := y) (by have := h.n32; omega)
  exact ⟨by omega, this.2⟩
/-- .. while the box turns. -/
theorem hold_box {V W : World} {c : Nat} {v : XV} (r : XAt V c v) (P : MachP V v.b fb mb g x cs os G m) (hc : c ≠ v.b) (k : V.grownBy W (some v.b)) :
    W.cell? ⟨c, 0, none⟩ = some (.pointer (some ⟨v.b, 0, none⟩)) ∧ W.cell? ⟨c, 1, none⟩ = some (.int .u8 v.o) ∧ W.cell? ⟨c, 2, none⟩ = some (.int .u8 v.d) ∧ W.cell? ⟨c, 3, none⟩ = some (.int .u8 v.s) ∧ W.cell? ⟨c, 4, none⟩ = some (.int .u8 v.t) ∧ W.cell? ⟨c, 5, none⟩ = some (.bool v.ib) ∧ W.cell? ⟨c, 6, none⟩ = some (.int .i32 v.n) ∧ W.cell? ⟨c, 7, none⟩ = some (.int .u32 v.a) ∧ W.cell? ⟨c, 8, none⟩ = some (.int .u32 v.y) ∧ V.grownBy W (some v.b) := by
  obtain ⟨x0, x1, x2, x3, x4, x5, x6, x7, x8⟩ := (r.only k hc).all
  exact ⟨x0, x1, x2, x3, x4, x5, x6, x7, x8, k⟩
set_option maxHeartbeats 1000000 in
theorem compare_at (v : XV) (h : MachP w v.b fb mb g x cs os G m) (ha : W32 v.a) (hy : W32 v.y) :
    Calls Tryz.prog 207 #[.agg (xrow v)] w fun e w' => Goes w v.b G m ((m.flg (W1.fl v.a v.y)).on) e w' := by
  have A := Lib.hid h
  have hcf : Hid (w.heap.size ≠ fb) := by have := h.lt _ h.gf; unfold Hid; omega
  have hcb : Hid (w.heap.size ≠ v.b) := by have := h.lt _ h.gb; unfold Hid; omega
  have hcg : Hid (w.heap.size ≠ g) := by have := h.lt _ h.gg; unfold Hid; omega
  have HF := Lib.hid (fun W => W1.flags_any v.a v.y W ha hy)
  have HV := Lib.hid (W1.fl_bd v.a v.y)
  clear h ha hy
  go_enter Tryz.func207, Tryz.ntmps207
  go_upto_region 1 with (refine x_box rfl _ rfl _ rfl v rfl ?_; intro V r1 b1; obtain ⟨x0, x1, x2, x3, x4, x5, x6, x7, x8⟩ := r1.out.all; obtain ⟨k0, k1, k2, k3, k4, k5, k6, k7, k42, k43, k44, k45⟩ := (A.out.bel b1).cells)
  have P1 := Lib.hid (A.out.bel b1)
  go_wp2_with fail
  go_region_with (go_at_call 264; refine (HF.out _).mono ?_; rintro e w2 ⟨rfl, g2⟩; have b2 := Lib.hid (bel_trans b1 (bel_trans (Below.refl _ V).drew g2.bel)); have P2 := Lib.hid (P1.out.bel (bel_trans (Below.refl _ V).drew g2.bel)); have r2 := Lib.hid (r1.out.bel (bel_trans (Below.refl _ V).drew g2.bel)); have c6 := P2.out.cells.2.2.2.2.2.2.1; have f6 := P2.out.frozen 6; obtain ⟨x0, x1, x2, x3, x4, x5, x6, x7, x8⟩ := r2.out.all)
  all_goals (
    obtain ⟨P3, g3⟩ := P2.out.put1 6 (.int .u8 (W1.fl v.a v.y)) (put_fl _ _ _ _ _ _) ⟨rfl, rfl, rfl, rfl, rfl, rfl, rfl, rfl⟩ (P2.out.ok.flg HV.out.1 HV.out.2)
    have P3 := Lib.hid P3
    have r3 := Lib.hid (r2.out.only g3 hcb.out)
    have g3 := Lib.hid g3
    go_wp2_with (refine x_load rfl _ rfl _ rfl _ v rfl r3.out ?_)
    refine (following_at v P3.out).mono ?_; rintro e w4 ⟨rfl, g4⟩
    have P4 := Lib.hid (P3.out.bel g4)
    go_wp2_with fail
    go_ret
    exact ⟨rfl, Left.only P4.out (only_trans (only_trans (bel_only b2.out _) g3.out) (bel_only g4 _)) A.out.gb⟩)
set_option maxHeartbeats 1000000 in
theorem branch_at (v : XV) (h : MachP w v.b fb mb g x cs os G m) (h0 : 0 ≤ v.d) (h1 : v.d < 32) (hn : -2147483648 ≤ v.n ∧ v.n ≤ 2147483647) :
    Calls Tryz.prog 208 #[.agg (xrow v)] w fun e w' => Goes w v.b G m (if W1.hv v.d m.fl then m.jmp ((m.pc + 4 * (v.n % 4294967296) % 4294967296) % 4294967296) else m.on) e w' := by
  have A := Lib.hid h
  obtain ⟨hv, hhv⟩ : ∃ hv, hv = W1.hv v.d m.fl := ⟨_, rfl⟩
  have HH : Hid (∀ W, Calls Tryz.prog 266 #[.int .u8 v.d, .int .u8 m.fl] W fun e w' => e = .returned (.bool hv) ∧ Below W.heap.size W w') := fun W => hhv ▸ (W1.holds_any v.d m.fl W (by omega) (by have := h.byte; omega)).mono fun e w' ⟨h1, h2⟩ => ⟨h1, h2 ▸ Below.refl _ _⟩
  have HT : Hid (∀ W, MachP W v.b fb mb g x cs os G m → Calls Tryz.prog 267 #[.agg (xrow v)] W fun e w' => e = .returned (.int .u32 ((m.pc + 4 * (v.n % 4294967296) % 4294967296) % 4294967296)) ∧ Below W.heap.size W w') := fun W hW => target_at v hW hn
  generalize (m.pc + 4 * (v.n % 4294967296) % 4294967296) % 4294967296 = z at *
  rw [← hhv]
  clear h hn hhv
  go_enter Tryz.func208, Tryz.ntmps208
  go_upto_region 1 with (refine x_box rfl _ rfl _ rfl v rfl ?_; intro V r1 b1; obtain ⟨x0, x1, x2, x3, x4, x5, x6, x7, x8⟩ := r1.out.all; obtain ⟨k0, k1, k2, k3, k4, k5, k6, k7, k42, k43, k44, k45⟩ := (A.out.bel b1).cells)
  have P1 := Lib.hid (A.out.bel b1)
  go_wp2_with fail
  go_region_held3 (fun W => W.cell? ⟨w.heap.size, 0, none⟩ = some (.pointer (some ⟨v.b, 0, none⟩)) ∧ W.cell? ⟨w.heap.size, 2, none⟩ = some (.int .u8 v.d) ∧ W.cell? ⟨v.b, 6, none⟩ = some (.int .u8 m.fl) ∧ Below V.heap.size V W)
    (first
      | (obtain ⟨x0, x1, x2, x3, x4, x5, x6, x7, x8, k0, k1, k2, k3, k4, k5, k6, k7, kk⟩ := hold_bel r1.out P1.out (Below.refl _ _).drew; exact ⟨x0, x2, k6, kk⟩)
      | (go_split_ands; obtain ⟨x0, x1, x2, x3, x4, x5, x6, x7, x8, k0, k1, k2, k3, k4, k5, k6, k7, kk⟩ := hold_bel r1.out P1.out (bel_trans (by assumption) gL); exact ⟨x0, x2, k6, kk⟩))
    (first
      | (go_at_call 266; refine (HH.out _).mono ?_; rintro e w2 ⟨rfl, gL⟩))
  rename_i hH
  have gH := hH.2.2.2
  have b2 := Lib.hid (bel_trans b1 gH)
  have r2 := Lib.hid (r1.out.bel gH)
  have P2 := Lib.hid (P1.out.bel gH)
  clear hH gH
  cases hv with
  | true =>
    go_wp2_with (refine x_load rfl _ rfl _ rfl _ v rfl r2.out ?_)
    refine (HT.out _ P2.out).mono ?_; rintro e w4 ⟨rfl, g4⟩
    have P4 := Lib.hid (P2.out.bel g4)
    go_wp2_with fail
    go_ret
    exact ⟨rfl, Left.only P4.out (only_trans (bel_only b2.out v.b) (bel_only g4 _)) A.out.gb⟩
  | false =>
    go_wp2_with (refine x_load rfl _ rfl _ rfl _ v rfl r2.out ?_)
    refine (following_at v P2.out).mono ?_; rintro e w4 ⟨rfl, g4⟩
    have P4 := Lib.hid (P2.out.bel g4)
    go_wp2_with fail
    go_ret
    exact ⟨rfl, Left.only P4.out (only_trans (bel_only b2.out v.b) (bel_only g4 _)) A.out.gb⟩
set_option maxRecDepth 100000 in
theorem readWim_at (v : XV) (h : MachP w v.b fb mb g x cs os G m) (h0 : 0 ≤ v.d) (h1 : v.d < 32) :
    Calls Tryz.prog 219 #[.agg (xrow v)] w fun e w' => Goes w v.b G m ((m.set v.d m.wim).on) e w' := by
  have A := Lib.hid h
  have HU := Lib.hid h.ok.wim32
  clear h
  go_enter Tryz.func219, Tryz.ntmps219
  go_upto_region 1 with (refine x_box rfl _ rfl _ rfl v rfl ?_; intro V r1 b1; obtain ⟨x0, x1, x2, x3, x4, x5, x6, x7, x8⟩ := r1.out.all; obtain ⟨k0, k1, k2, k3, k4, k5, k6, k7, k42, k43, k44, k45⟩ := (A.out.bel b1).cells)
  have P1 := Lib.hid (A.out.bel b1)
  go_wp2_with fail
  go_still_tail 6, (by kernel_rfl)
  change wpList _ _ _ _ _ V.drew
  have gd : Below V.heap.size V V.drew := (Below.refl _ _).drew
  have P2 := Lib.hid (P1.out.bel gd)
  have r2 := Lib.hid (r1.out.bel gd)
  have b2 := Lib.hid (bel_trans b1 gd)
  clear P1 r1 b1 gd
  generalize V.drew = V2 at *
  go_wp2_with fail
  refine (result_at v m.wim P2.out h0 h1 HU.out).mono ?_; rintro e w3 ⟨rfl, P3, g3⟩
  have P3 := Lib.hid P3
  go_wp2_with fail
  go_ret
  exact ⟨rfl, Left.only P3.out (only_trans (bel_only b2.out _) g3) A.out.gf⟩
set_option maxRecDepth 100000 in
theorem readState_at (v : XV) (h : MachP w v.b fb mb g x cs os G m) (h0 : 0 ≤ v.d) (h1 : v.d < 32) :
    Calls Tryz.prog 217 #[.agg (xrow v)] w fun e w' => Goes w v.b G m ((m.set v.d m.pw).on) e w' := by
  have A := Lib.hid h
  have hcf : Hid (w.heap.size ≠ fb) := by have := h.lt _ h.gf; unfold Hid; omega
  have hcb : Hid (w.heap.size ≠ v.b) := by have := h.lt _ h.gb; unfold Hid; omega
  have hcg : Hid (w.heap.size ≠ g) := by have := h.lt _ h.gg; unfold Hid; omega
  have HU := Lib.hid h.ok.pw
  clear h
  go_enter Tryz.func217, Tryz.ntmps217
  go_upto_region 1 with (refine x_box rfl _ rfl _ rfl v rfl ?_; intro V r1 b1; obtain ⟨x0, x1, x2, x3, x4, x5, x6, x7, x8⟩ := r1.out.all; obtain ⟨k0, k1, k2, k3, k4, k5, k6, k7, k42, k43, k44, k45⟩ := (A.out.bel b1).cells)
  have P1 := Lib.hid (A.out.bel b1)
  go_wp2_with fail
  go_region_held3 (fun W => W.cell? ⟨w.heap.size, 0, none⟩ = some (.pointer (some ⟨v.b, 0, none⟩)) ∧ W.cell? ⟨w.heap.size, 1, none⟩ = some (.int .u8 v.o) ∧ W.cell? ⟨w.heap.size, 2, none⟩ = some (.int .u8 v.d) ∧ W.cell? ⟨w.heap.size, 3, none⟩ = some (.int .u8 v.s) ∧ W.cell? ⟨w.heap.size, 4, none⟩ = some (.int .u8 v.t) ∧ W.cell? ⟨w.heap.size, 5, none⟩ = some (.bool v.ib) ∧ W.cell? ⟨w.heap.size, 6, none⟩ = some (.int .i32 v.n) ∧ W.cell? ⟨w.heap.size, 7, none⟩ = some (.int .u32 v.a) ∧ W.cell? ⟨w.heap.size, 8, none⟩ = some (.int .u32 v.y) ∧ V.grownBy W (some fb))
    (first
      | (obtain ⟨x0, x1, x2, x3, x4, x5, x6, x7, x8, k0, k1, k2, k3, k4, k5, k6, k7, kk⟩ := hold_only r1.out P1.out hcf.out P1.out.bf (bel_only (Below.refl _ _).drew _); exact ⟨x0, x1, x2, x3, x4, x5, x6, x7, x8, kk⟩)
      | (go_split_ands; obtain ⟨x0, x1, x2, x3, x4, x5, x6, x7, x8, k0, k1, k2, k3, k4, k5, k6, k7, kk⟩ := hold_only r1.out P1.out hcf.out P1.out.bf (only_trans (by assumption) (bel_only gL _)); exact ⟨x0, x1, x2, x3, x4, x5, x6, x7, x8, kk⟩)
      | (go_split_ands; obtain ⟨x0, x1, x2, x3, x4, x5, x6, x7, x8, k0, k1, k2, k3, k4, k5, k6, k7, kk⟩ := hold_only r1.out P1.out hcf.out P1.out.bf (only_trans (by assumption) gW); exact ⟨x0, x1, x2, x3, x4, x5, x6, x7, x8, kk⟩))
    (first
      | (go_at_call 203; refine (state_at (P1.out.bel (Below.refl _ _).drew)).mono ?_; rintro e w2 ⟨rfl, gL⟩)
      | (go_at_call 263; refine (result_at v m.pw (P1.out.bel (bel_trans (Below.refl _ _).drew gL)) h0 h1 HU.out).mono ?_; rintro e w3 ⟨rfl, P3, gW⟩; have P3 := Lib.hid P3))
  rename_i hH
  have gH := hH.2.2.2.2.2.2.2.2.2
  clear hH
  go_wp2_with fail
  go_ret
  exact ⟨rfl, Left.only P3.out (only_trans (bel_only b1 _) gH) A.out.gf⟩
end
end Go.Proofs.YtiobgnelhiadbaaGreatDoor.K6
namespace Go.Proofs.YtiobgnelhiadbaaGreatDoor.K6
open Go.RowKit
set_option linter.unusedVariables false
section
variable {w : World} {b fb mb g x : Nat} {cs os : Value} {G : Nat → Prop} {m : MS}
set_option maxRecDepth 100000 in
theorem raise_at (v : XV) (h : MachP w v.b fb mb g x cs os G m) (hn : 0 ≤ v.n ∧ v.n < 256) :
    Calls Tryz.prog 224 #[.agg (xrow v)] w fun e w' => Goes w v.b G m (m.wnd (v.n % 256) ((m.pc + 4) % 4294967296)) e w' := by
  have A := Lib.hid h
  have hcf : Hid (w.heap.size ≠ fb) := by have := h.lt _ h.gf; unfold Hid; omega
  have hcb : Hid (w.heap.size ≠ v.b) := by have := h.lt _ h.gb; unfold Hid; omega
  have hcg : Hid (w.heap.size ≠ g) := by have := h.lt _ h.gg; unfold Hid; omega
  have wn : IntKind.u8.wrap v.n = v.n := by rw [show IntKind.u8.wrap v.n = v.n % 256 by rfl]; omega
  have en : v.n % 256 = v.n := by omega
  rw [en]
  have HN := Lib.hid hn
  clear h en hn
  go_enter Tryz.func224, Tryz.ntmps224
  go_upto_region 1 with (refine x_box rfl _ rfl _ rfl v rfl ?_; intro V r1 b1; obtain ⟨x0, x1, x2, x3, x4, x5, x6, x7, x8⟩ := r1.out.all; obtain ⟨k0, k1, k2, k3, k4, k5, k6, k7, k42, k43, k44, k45⟩ := (A.out.bel b1).cells)
  have P1 := Lib.hid (A.out.bel b1)
  go_wp2_with fail
  go_region_held3 (fun W => W.cell? ⟨w.heap.size, 0, none⟩ = some (.pointer (some ⟨v.b, 0, none⟩)) ∧ W.cell? ⟨w.heap.size, 1, none⟩ = some (.int .u8 v.o) ∧ W.cell? ⟨w.heap.size, 2, none⟩ = some (.int .u8 v.d) ∧ W.cell? ⟨w.heap.size, 3, none⟩ = some (.int .u8 v.s) ∧ W.cell? ⟨w.heap.size, 4, none⟩ = some (.int .u8 v.t) ∧ W.cell? ⟨w.heap.size, 5, none⟩ = some (.bool v.ib) ∧ W.cell? ⟨w.heap.size, 6, none⟩ = some (.int .i32 v.n) ∧ W.cell? ⟨w.heap.size, 7, none⟩ = some (.int .u32 v.a) ∧ W.cell? ⟨w.heap.size, 8, none⟩ = some (.int .u32 v.y) ∧ V.grownBy W (some v.b))
    (first
      | (obtain ⟨x0, x1, x2, x3, x4, x5, x6, x7, x8, kk⟩ := hold_box r1.out P1.out hcb.out (bel_only (Below.refl _ _).drew _); exact ⟨x0, x1, x2, x3, x4, x5, x6, x7, x8, kk⟩)
      | (go_split_ands; obtain ⟨x0, x1, x2, x3, x4, x5, x6, x7, x8, kk⟩ := hold_box r1.out P1.out hcb.out (only_trans (by assumption) (bel_only gL _)); exact ⟨x0, x1, x2, x3, x4, x5, x6, x7, x8, kk⟩)
      | (go_split_ands; obtain ⟨x0, x1, x2, x3, x4, x5, x6, x7, x8, kk⟩ := hold_box r1.out P1.out hcb.out (only_trans (by assumption) gW); exact ⟨x0, x1, x2, x3, x4, x5, x6, x7, x8, kk⟩))
    (first
      | (go_at_call 265; refine (following_at v (P1.out.bel (Below.refl _ _).drew)).mono ?_; rintro e w2 ⟨rfl, gL⟩)
      | (go_at_call 278; refine (trap_at v v.n ((m.pc + 4) % 4294967296) (P1.out.bel (bel_trans (Below.refl _ _).drew gL)) HN.out.1 HN.out.2 (w32_mod _)).mono ?_; rintro e w3 ⟨rfl, P3, gW⟩; have P3 := Lib.hid P3))
  rename_i hH
  have gH := hH.2.2.2.2.2.2.2.2.2
  clear hH
  go_wp2_with fail
  go_ret
  exact ⟨rfl, Left.only P3.out (only_trans (bel_only b1 _) gH) A.out.gb⟩
theorem savedPc_at (v : XV) (h : MachP w v.b fb mb g x cs os G m) (hn : v.n = 0) :
    Calls Tryz.prog 277 #[.agg (xrow v)] w fun e w' => e = .returned (.pointer (some ⟨v.b, 8 + m.bank.toNat * 2, none⟩)) ∧ Below w.heap.size w w' := by
  have A := Lib.hid h
  have hn' := Lib.hid hn
  have h17 : m.bank < 17 := by have := h.ok.b1; omega
  have h00 := h.ok.b0
  clear h hn
  go_enter Tryz.func277, Tryz.ntmps277
  go_upto_region 1 with (refine x_box rfl _ rfl _ rfl v rfl ?_; intro V r1 b1; obtain ⟨x0, x1, x2, x3, x4, x5, x6, x7, x8⟩ := r1.out.all; obtain ⟨k0, k1, k2, k3, k4, k5, k6, k7, k42, k43, k44, k45⟩ := (A.out.bel b1).cells; rw [hn'.out] at x6)
  have P1 := Lib.hid (A.out.bel b1)
  go_wp2_with fail
  go_quiet (fail)
  go_wp2
  go_ret
  exact ⟨rfl, bel_drewN b1 _⟩
theorem savedPsr_at (v : XV) (h : MachP w v.b fb mb g x cs os G m) (hn : v.n = 1) :
    Calls Tryz.prog 277 #[.agg (xrow v)] w fun e w' => e = .returned (.pointer (some ⟨v.b, 8 + m.bank.toNat * 2 + 1, none⟩)) ∧ Below w.heap.size w w' := by
  have A := Lib.hid h
  have hn' := Lib.hid hn
  have h17 : m.bank < 17 := by have := h.ok.b1; omega
  have h00 := h.ok.b0
  clear h hn
  go_enter Tryz.func277, Tryz.ntmps277
  go_upto_region 1 with (refine x_box rfl _ rfl _ rfl v rfl ?_; intro V r1 b1; obtain ⟨x0, x1, x2, x3, x4, x5, x6, x7, x8⟩ := r1.out.all; obtain ⟨k0, k1, k2, k3, k4, k5, k6, k7, k42, k43, k44, k45⟩ := (A.out.bel b1).cells; rw [hn'.out] at x6)
  have P1 := Lib.hid (A.out.bel b1)
  go_wp2_with fail
  go_quiet (fail)
  go_wp2
  go_ret
  exact ⟨rfl, bel_drewN b1 _⟩
theorem readSaved_no (v : XV) (h : MachP w v.b fb mb g x cs os G m) (hb : m.bank = 0) :
    Calls Tryz.prog 221 #[.agg (xrow v)] w fun e w' => Goes w v.b G m (m.stp 3 0) e w' := by
  have A := Lib.hid h
  have HB : Hid (m.bank = 0) := hb
  clear h hb
  go_enter Tryz.func221, Tryz.ntmps221
  go_upto_region 1 with (refine x_box rfl _ rfl _ rfl v rfl ?_; intro V r1 b1; obtain ⟨x0, x1, x2, x3, x4, x5, x6, x7, x8⟩ := r1.out.all; obtain ⟨k0, k1, k2, k3, k4, k5, k6, k7, k42, k43, k44, k45⟩ := (A.out.bel b1).cells; rw [HB.out] at k5)
  have P1 := Lib.hid (A.out.bel b1)
  go_wp2_with (refine x_load rfl _ rfl _ rfl _ v rfl r1.out ?_)
  refine (fail_at v P1.out).mono ?_; rintro e w2 ⟨rfl, P2, g2⟩
  have P2 := Lib.hid P2
  go_wp2_with fail
  go_ret
  exact ⟨rfl, Left.only P2.out (only_trans (bel_only b1 _) g2) A.out.gb⟩
theorem writeSaved_no (v : XV) (h : MachP w v.b fb mb g x cs os G m) (hb : m.bank = 0) :
    Calls Tryz.prog 222 #[.agg (xrow v)] w fun e w' => Goes w v.b G m (m.stp 3 0) e w' := by
  have A := Lib.hid h
  have HB : Hid (m.bank = 0) := hb
  clear h hb
  go_enter Tryz.func222, Tryz.ntmps222
  go_upto_region 1 with (refine x_box rfl _ rfl _ rfl v rfl ?_; intro V r1 b1; obtain ⟨x0, x1, x2, x3, x4, x5, x6, x7, x8⟩ := r1.out.all; obtain ⟨k0, k1, k2, k3, k4, k5, k6, k7, k42, k43, k44, k45⟩ := (A.out.bel b1).cells; rw [HB.out] at k5)
  have P1 := Lib.hid (A.out.bel b1)
  go_wp2_with (refine x_load rfl _ rfl _ rfl _ v rfl r1.out ?_)
  refine (fail_at v P1.out).mono ?_; rintro e w2 ⟨rfl, P2, g2⟩
  have P2 := Lib.hid P2
  go_wp2_with fail
  go_ret
  exact ⟨rfl, Left.only P2.out (only_trans (bel_only b1 _) g2) A.out.gb⟩
theorem goBack_no (v : XV) (h : MachP w v.b fb mb g x cs os G m) (hb : m.bank = 0) :
    Calls Tryz.prog 223 #[.agg (xrow v)] w fun e w' => Goes w v.b G m (m.stp 3 0) e w' := by
  have A := Lib.hid h
  have HB : Hid (m.bank = 0) := hb
  clear h hb
  go_enter Tryz.func223, Tryz.ntmps223
  go_upto_region 1 with (refine x_box rfl _ rfl _ rfl v rfl ?_; intro V r1 b1; obtain ⟨x0, x1, x2, x3, x4, x5, x6, x7, x8⟩ := r1.out.all; obtain ⟨k0, k1, k2, k3, k4, k5, k6, k7, k42, k43, k44, k45⟩ := (A.out.bel b1).cells; rw [HB.out] at k5)
  have P1 := Lib.hid (A.out.bel b1)
  go_wp2_with (refine x_load rfl _ rfl _ rfl _ v rfl r1.out ?_)
  refine (fail_at v P1.out).mono ?_; rintro e w2 ⟨rfl, P2, g2⟩
  have P2 := Lib.hid P2
  go_wp2_with fail
  go_ret
  exact ⟨rfl, Left.only P2.out (only_trans (bel_only b1 _) g2) A.out.gb⟩
set_option maxRecDepth 100000 in
theorem readSaved_tpc (v : XV) (h : MachP w v.b fb mb g x cs os G m) (h0 : 0 ≤ v.d) (h1 : v.d < 32) (hb : m.bank ≠ 0) (hn : v.n = 0) :
    Calls Tryz.prog 221 #[.agg (xrow v)] w fun e w' => Goes w v.b G m ((m.set v.d (m.tpc m.bank.toNat)).on) e w' := by
  have A := Lib.hid h
  have hcf : Hid (w.heap.size ≠ fb) := by have := h.lt _ h.gf; unfold Hid; omega
  have hcb : Hid (w.heap.size ≠ v.b) := by have := h.lt _ h.gb; unfold Hid; omega
  have hcg : Hid (w.heap.size ≠ g) := by have := h.lt _ h.gg; unfold Hid; omega
  have HN := Lib.hid hn
  have HU : Hid (W32 (m.tpc m.bank.toNat)) := h.ok.tpc _
  have h17 : m.bank ≤ 16 := h.ok.b1
  have h00 := h.ok.b0
  have hb' : (m.bank == 0) = false := by simpa using hb
  obtain ⟨u, hu⟩ : ∃ u, u = m.tpc m.bank.toNat := ⟨_, rfl⟩
  rw [← hu] at HU ⊢
  have HQ := Lib.hid hu
  clear h hn hb hu
  go_enter Tryz.func221, Tryz.ntmps221
  go_upto_region 1 with (refine x_box rfl _ rfl _ rfl v rfl ?_; intro V r1 b1; obtain ⟨x0, x1, x2, x3, x4, x5, x6, x7, x8⟩ := r1.out.all; obtain ⟨k0, k1, k2, k3, k4, k5, k6, k7, k42, k43, k44, k45⟩ := (A.out.bel b1).cells)
  have P1 := Lib.hid (A.out.bel b1)
  have hsv := P1.out.tpc (j := 8 + m.bank.toNat * 2) (k := m.bank.toNat) (by omega) (by omega)
  rw [← HQ.out] at hsv
  go_wp2_with fail
  go_region_held3 (fun W => W.cell? ⟨w.heap.size, 0, none⟩ = some (.pointer (some ⟨v.b, 0, none⟩)) ∧ W.cell? ⟨w.heap.size, 1, none⟩ = some (.int .u8 v.o) ∧ W.cell? ⟨w.heap.size, 2, none⟩ = some (.int .u8 v.d) ∧ W.cell? ⟨w.heap.size, 3, none⟩ = some (.int .u8 v.s) ∧ W.cell? ⟨w.heap.size, 4, none⟩ = some (.int .u8 v.t) ∧ W.cell? ⟨w.heap.size, 5, none⟩ = some (.bool v.ib) ∧ W.cell? ⟨w.heap.size, 6, none⟩ = some (.int .i32 v.n) ∧ W.cell? ⟨w.heap.size, 7, none⟩ = some (.int .u32 v.a) ∧ W.cell? ⟨w.heap.size, 8, none⟩ = some (.int .u32 v.y) ∧ W.cell? ⟨v.b, 8 + m.bank.toNat * 2, none⟩ = some (.int .u32 u) ∧ V.grownBy W (some fb))
    (first
      | (obtain ⟨x0, x1, x2, x3, x4, x5, x6, x7, x8, k0, k1, k2, k3, k4, k5, k6, k7, kk⟩ := hold_only r1.out P1.out hcf.out P1.out.bf (bel_only (Below.refl _ _).drew _); exact ⟨x0, x1, x2, x3, x4, x5, x6, x7, x8, M5.cell_kept kk P1.out.bf hsv, kk⟩)
      | (go_split_ands; obtain ⟨x0, x1, x2, x3, x4, x5, x6, x7, x8, k0, k1, k2, k3, k4, k5, k6, k7, kk⟩ := hold_only r1.out P1.out hcf.out P1.out.bf (only_trans (by assumption) (bel_only gL _)); exact ⟨x0, x1, x2, x3, x4, x5, x6, x7, x8, M5.cell_kept kk P1.out.bf hsv, kk⟩)
      | (go_split_ands; obtain ⟨x0, x1, x2, x3, x4, x5, x6, x7, x8, k0, k1, k2, k3, k4, k5, k6, k7, kk⟩ := hold_only r1.out P1.out hcf.out P1.out.bf (only_trans (by assumption) gW); exact ⟨x0, x1, x2, x3, x4, x5, x6, x7, x8, M5.cell_kept kk P1.out.bf hsv, kk⟩))
    (first
      | (go_at_call 277; refine (savedPc_at v (P1.out.bel (Below.refl _ _).drew) HN.out).mono ?_; rintro e w2 ⟨rfl, gL⟩)
      | (go_at_call 263; refine (result_at v u (P1.out.bel (bel_trans (Below.refl _ _).drew gL)) h0 h1 HU.out).mono ?_; rintro e w3 ⟨rfl, P3, gW⟩; have P3 := Lib.hid P3))
  rename_i hH
  have gH := hH.2.2.2.2.2.2.2.2.2.2
  clear hH
  go_wp2_with fail
  go_ret
  exact ⟨rfl, Left.only P3.out (only_trans (bel_only b1 _) gH) A.out.gf⟩
set_option maxRecDepth 100000 in
theorem writeSaved_tpc (v : XV) (h : MachP w v.b fb mb g x cs os G m) (ha : W32 v.a) (hb : m.bank ≠ 0) (hn : v.n = 0) :
    Calls Tryz.prog 222 #[.agg (xrow v)] w fun e w' => Goes w v.b G m ((m.setT m.bank.toNat v.a).on) e w' := by
  have A := Lib.hid h
  have hcf : Hid (w.heap.size ≠ fb) := by have := h.lt _ h.gf; unfold Hid; omega
  have hcb : Hid (w.heap.size ≠ v.b) := by have := h.lt _ h.gb; unfold Hid; omega
  have hcg : Hid (w.heap.size ≠ g) := by have := h.lt _ h.gg; unfold Hid; omega
  have HN := Lib.hid hn
  have HA := Lib.hid ha
  have h17 : m.bank ≤ 16 := h.ok.b1
  have h00 := h.ok.b0
  have hb' : (m.bank == 0) = false := by simpa using hb
  clear h hn hb ha
  go_enter Tryz.func222, Tryz.ntmps222
  go_upto_region 1 with (refine x_box rfl _ rfl _ rfl v rfl ?_; intro V r1 b1; obtain ⟨x0, x1, x2, x3, x4, x5, x6, x7, x8⟩ := r1.out.all; obtain ⟨k0, k1, k2, k3, k4, k5, k6, k7, k42, k43, k44, k45⟩ := (A.out.bel b1).cells)
  have P1 := Lib.hid (A.out.bel b1)
  go_wp2_with fail
  go_region_held3 (fun W => W.cell? ⟨w.heap.size, 0, none⟩ = some (.pointer (some ⟨v.b, 0, none⟩)) ∧ W.cell? ⟨w.heap.size, 1, none⟩ = some (.int .u8 v.o) ∧ W.cell? ⟨w.heap.size, 2, none⟩ = some (.int .u8 v.d) ∧ W.cell? ⟨w.heap.size, 3, none⟩ = some (.int .u8 v.s) ∧ W.cell? ⟨w.heap.size, 4, none⟩ = some (.int .u8 v.t) ∧ W.cell? ⟨w.heap.size, 5, none⟩ = some (.bool v.ib) ∧ W.cell? ⟨w.heap.size, 6, none⟩ = some (.int .i32 v.n) ∧ W.cell? ⟨w.heap.size, 7, none⟩ = some (.int .u32 v.a) ∧ W.cell? ⟨w.heap.size, 8, none⟩ = some (.int .u32 v.y) ∧ V.grownBy W (some v.b))
    (first
      | (obtain ⟨x0, x1, x2, x3, x4, x5, x6, x7, x8, kk⟩ := hold_box r1.out P1.out hcb.out (bel_only (Below.refl _ _).drew _); exact ⟨x0, x1, x2, x3, x4, x5, x6, x7, x8, kk⟩)
      | (go_split_ands; obtain ⟨x0, x1, x2, x3, x4, x5, x6, x7, x8, kk⟩ := hold_box r1.out P1.out hcb.out (only_trans (by assumption) (bel_only gL _)); exact ⟨x0, x1, x2, x3, x4, x5, x6, x7, x8, kk⟩)
      | (go_split_ands; obtain ⟨x0, x1, x2, x3, x4, x5, x6, x7, x8, kk⟩ := hold_box r1.out P1.out hcb.out (only_cell (only_trans (bel_only (Below.refl _ V).drew v.b) (bel_only gL _)) (8 + m.bank.toNat * 2) (.int .u32 v.a)); exact ⟨x0, x1, x2, x3, x4, x5, x6, x7, x8, kk⟩))
    (first
      | (go_at_call 277; refine (savedPc_at v (P1.out.bel (Below.refl _ _).drew) HN.out).mono ?_; rintro e w2 ⟨rfl, gL⟩; have P2 := Lib.hid (P1.out.bel (bel_trans (Below.refl _ _).drew gL)); have c2 := P2.out.tpc (j := 8 + m.bank.toNat * 2) (k := m.bank.toNat) (by omega) (by omega); have f2 := P2.out.frozen (8 + m.bank.toNat * 2)))
  rename_i hH
  have gH := Lib.hid (hH.2.2.2.2.2.2.2.2.2)
  clear hH
  obtain ⟨P3, g3⟩ := P2.out.put1 (8 + m.bank.toNat * 2) (.int .u32 v.a) (put_tpc _ _ _ _ _ _ (k := m.bank.toNat) (by omega) (by omega)) ⟨rfl, rfl, rfl, rfl, rfl, rfl, rfl, rfl⟩ (P2.out.ok.setT _ HA.out)
  have P3 := Lib.hid P3
  have r3 := Lib.hid (r1.out.only gH.out hcb.out)
  clear g3
  go_wp2_with (refine x_load rfl _ rfl _ rfl _ v rfl r3.out ?_)
  refine (following_at v P3.out).mono ?_; rintro e w4 ⟨rfl, g4⟩
  have P4 := Lib.hid (P3.out.bel g4)
  go_wp2_with fail
  go_ret
  exact ⟨rfl, Left.only P4.out (only_trans (only_trans (bel_only b1 _) gH.out) (bel_only g4 _)) A.out.gb⟩
set_option maxRecDepth 100000 in
theorem readSaved_tps (v : XV) (h : MachP w v.b fb mb g x cs os G m) (h0 : 0 ≤ v.d) (h1 : v.d < 32) (hb : m.bank ≠ 0) (hn : v.n = 1) :
    Calls Tryz.prog 221 #[.agg (xrow v)] w fun e w' => Goes w v.b G m ((m.set v.d (m.tps m.bank.toNat)).on) e w' := by
  have A := Lib.hid h
  have hcf : Hid (w.heap.size ≠ fb) := by have := h.lt _ h.gf; unfold Hid; omega
  have hcb : Hid (w.heap.size ≠ v.b) := by have := h.lt _ h.gb; unfold Hid; omega
  have hcg : Hid (w.heap.size ≠ g) := by have := h.lt _ h.gg; unfold Hid; omega
  have HN := Lib.hid hn
  have HU : Hid (W32 (m.tps m.bank.toNat)) := h.ok.tps _
  have h17 : m.bank ≤ 16 := h.ok.b1
  have h00 := h.ok.b0
  have hb' : (m.bank == 0) = false := by simpa using hb
  obtain ⟨u, hu⟩ : ∃ u, u = m.tps m.bank.toNat := ⟨_, rfl⟩
  rw [← hu] at HU ⊢
  have HQ := Lib.hid hu
  clear h hn hb hu
  go_enter Tryz.func221, Tryz.ntmps221
  go_upto_region 1 with (refine x_box rfl _ rfl _ rfl v rfl ?_; intro V r1 b1; obtain ⟨x0, x1, x2, x3, x4, x5, x6, x7, x8⟩ := r1.out.all; obtain ⟨k0, k1, k2, k3, k4, k5, k6, k7, k42, k43, k44, k45⟩ := (A.out.bel b1).cells)
  have P1 := Lib.hid (A.out.bel b1)
  have hsv := P1.out.tps (j := 8 + m.bank.toNat * 2 + 1) (k := m.bank.toNat) (by omega) (by omega)
  rw [← HQ.out] at hsv
  go_wp2_with fail
  go_region_held3 (fun W => W.cell? ⟨w.heap.size, 0, none⟩ = some (.pointer (some ⟨v.b, 0, none⟩)) ∧ W.cell? ⟨w.heap.size, 1, none⟩ = some (.int .u8 v.o) ∧ W.cell? ⟨w.heap.size, 2, none⟩ = some (.int .u8 v.d) ∧ W.cell? ⟨w.heap.size, 3, none⟩ = some (.int .u8 v.s) ∧ W.cell? ⟨w.heap.size, 4, none⟩ = some (.int .u8 v.t) ∧ W.cell? ⟨w.heap.size, 5, none⟩ = some (.bool v.ib) ∧ W.cell? ⟨w.heap.size, 6, none⟩ = some (.int .i32 v.n) ∧ W.cell? ⟨w.heap.size, 7, none⟩ = some (.int .u32 v.a) ∧ W.cell? ⟨w.heap.size, 8, none⟩ = some (.int .u32 v.y) ∧ W.cell? ⟨v.b, 8 + m.bank.toNat * 2 + 1, none⟩ = some (.int .u32 u) ∧ V.grownBy W (some fb))
    (first
      | (obtain ⟨x0, x1, x2, x3, x4, x5, x6, x7, x8, k0, k1, k2, k3, k4, k5, k6, k7, kk⟩ := hold_only r1.out P1.out hcf.out P1.out.bf (bel_only (Below.refl _ _).drew _); exact ⟨x0, x1, x2, x3, x4, x5, x6, x7, x8, M5.cell_kept kk P1.out.bf hsv, kk⟩)
      | (go_split_ands; obtain ⟨x0, x1, x2, x3, x4, x5, x6, x7, x8, k0, k1, k2, k3, k4, k5, k6, k7, kk⟩ := hold_only r1.out P1.out hcf.out P1.out.bf (only_trans (by assumption) (bel_only gL _)); exact ⟨x0, x1, x2, x3, x4, x5, x6, x7, x8, M5.cell_kept kk P1.out.bf hsv, kk⟩)
      | (go_split_ands; obtain ⟨x0, x1, x2, x3, x4, x5, x6, x7, x8, k0, k1, k2, k3, k4, k5, k6, k7, kk⟩ := hold_only r1.out P1.out hcf.out P1.out.bf (only_trans (by assumption) gW); exact ⟨x0, x1, x2, x3, x4, x5, x6, x7, x8, M5.cell_kept kk P1.out.bf hsv, kk⟩))
    (first
      | (go_at_call 277; refine (savedPsr_at v (P1.out.bel (Below.refl _ _).drew) HN.out).mono ?_; rintro e w2 ⟨rfl, gL⟩)
      | (go_at_call 263; refine (result_at v u (P1.out.bel (bel_trans (Below.refl _ _).drew gL)) h0 h1 HU.out).mono ?_; rintro e w3 ⟨rfl, P3, gW⟩; have P3 := Lib.hid P3))
  rename_i hH
  have gH := hH.2.2.2.2.2.2.2.2.2.2
  clear hH
  go_wp2_with fail
  go_ret
  exact ⟨rfl, Left.only P3.out (only_trans (bel_only b1 _) gH) A.out.gf⟩
set_option maxRecDepth 100000 in
theorem writeSaved_tps (v : XV) (h : MachP w v.b fb mb g x cs os G m) (ha : W32 v.a) (hb : m.bank ≠ 0) (hn : v.n = 1) :
    Calls Tryz.prog 222 #[.agg (xrow v)] w fun e w' => Goes w v.b G m ((m.setP m.bank.toNat v.a).on) e w' := by
  have A := Lib.hid h
  have hcf : Hid (w.heap.size ≠ fb) := by have := h.lt _ h.gf; unfold Hid; omega
  have hcb : Hid (w.heap.size ≠ v.b) := by have := h.lt _ h.gb; unfold Hid; omega
  have hcg : Hid (w.heap.size ≠ g) := by have := h.lt _ h.gg; unfold Hid; omega
  have HN := Lib.hid hn
  have HA := Lib.hid ha
  have h17 : m.bank ≤ 16 := h.ok.b1
  have h00 := h.ok.b0
  have hb' : (m.bank == 0) = false := by simpa using hb
  clear h hn hb ha
  go_enter Tryz.func222, Tryz.ntmps222
  go_upto_region 1 with (refine x_box rfl _ rfl _ rfl v rfl ?_; intro V r1 b1; obtain ⟨x0, x1, x2, x3, x4, x5, x6, x7, x8⟩ := r1.out.all; obtain ⟨k0, k1, k2, k3, k4, k5, k6, k7, k42, k43, k44, k45⟩ := (A.out.bel b1).cells)
  have P1 := Lib.hid (A.out.bel b1)
  go_wp2_with fail
  go_region_held3 (fun W => W.cell? ⟨w.heap.size, 0, none⟩ = some (.pointer (some ⟨v.b, 0, none⟩)) ∧ W.cell? ⟨w.heap.size, 1, none⟩ = some (.int .u8 v.o) ∧ W.cell? ⟨w.heap.size, 2, none⟩ = some (.int .u8 v.d) ∧ W.cell? ⟨w.heap.size, 3, none⟩ = some (.int .u8 v.s) ∧ W.cell? ⟨w.heap.size, 4, none⟩ = some (.int .u8 v.t) ∧ W.cell? ⟨w.heap.size, 5, none⟩ = some (.bool v.ib) ∧ W.cell? ⟨w.heap.size, 6, none⟩ = some (.int .i32 v.n) ∧ W.cell? ⟨w.heap.size, 7, none⟩ = some (.int .u32 v.a) ∧ W.cell? ⟨w.heap.size, 8, none⟩ = some (.int .u32 v.y) ∧ V.grownBy W (some v.b))
    (first
      | (obtain ⟨x0, x1, x2, x3, x4, x5, x6, x7, x8, kk⟩ := hold_box r1.out P1.out hcb.out (bel_only (Below.refl _ _).drew _); exact ⟨x0, x1, x2, x3, x4, x5, x6, x7, x8, kk⟩)
      | (go_split_ands; obtain ⟨x0, x1, x2, x3, x4, x5, x6, x7, x8, kk⟩ := hold_box r1.out P1.out hcb.out (only_trans (by assumption) (bel_only gL _)); exact ⟨x0, x1, x2, x3, x4, x5, x6, x7, x8, kk⟩)
      | (go_split_ands; obtain ⟨x0, x1, x2, x3, x4, x5, x6, x7, x8, kk⟩ := hold_box r1.out P1.out hcb.out (only_cell (only_trans (bel_only (Below.refl _ V).drew v.b) (bel_only gL _)) (8 + m.bank.toNat * 2 + 1) (.int .u32 v.a)); exact ⟨x0, x1, x2, x3, x4, x5, x6, x7, x8, kk⟩))
    (first
      | (go_at_call 277; refine (savedPsr_at v (P1.out.bel (Below.refl _ _).drew) HN.out).mono ?_; rintro e w2 ⟨rfl, gL⟩; have P2 := Lib.hid (P1.out.bel (bel_trans (Below.refl _ _).drew gL)); have c2 := P2.out.tps (j := 8 + m.bank.toNat * 2 + 1) (k := m.bank.toNat) (by omega) (by omega); have f2 := P2.out.frozen (8 + m.bank.toNat * 2 + 1)))
  rename_i hH
  have gH := Lib.hid (hH.2.2.2.2.2.2.2.2.2)
  clear hH
  obtain ⟨P3, g3⟩ := P2.out.put1 (8 + m.bank.toNat * 2 + 1) (.int .u32 v.a) (put_tps _ _ _ _ _ _ (k := m.bank.toNat) (by omega) (by omega)) ⟨rfl, rfl, rfl, rfl, rfl, rfl, rfl, rfl⟩ (P2.out.ok.setP _ HA.out)
  have P3 := Lib.hid P3
  have r3 := Lib.hid (r1.out.only gH.out hcb.out)
  clear g3
  go_wp2_with (refine x_load rfl _ rfl _ rfl _ v rfl r3.out ?_)
  refine (following_at v P3.out).mono ?_; rintro e w4 ⟨rfl, g4⟩
  have P4 := Lib.hid (P3.out.bel g4)
  go_wp2_with fail
  go_ret
  exact ⟨rfl, Left.only P4.out (only_trans (only_trans (bel_only b1 _) gH.out) (bel_only g4 _)) A.out.gb⟩
end
end Go.Proofs.YtiobgnelhiadbaaGreatDoor.K6
namespace Go.Proofs.YtiobgnelhiadbaaGreatDoor.K6
open Go.RowKit
set_option linter.unusedVariables false
section
variable {w : World} {b fb mb g x : Nat} {cs os : Value} {G : Nat → Prop} {m : MS}
theorem SetWim_yes (u : Int) (h : MachP w b fb mb g x cs os G m) (hu : (wx u m.nw).isSome = true) :
    Calls Tryz.prog 62 #[.pointer (some ⟨b, 0, none⟩), .int .u32 u] w fun e w' => e = .returned (.int .i64 0) ∧ MachP w' b fb mb g x cs os G (m.inv u) ∧ w.grownBy w' (some b) := by
  have A := Lib.hid h
  have HOK := Lib.hid (h.ok.inv hu)
  obtain ⟨y, hy⟩ := Option.isSome_iff_exists.1 hu
  obtain ⟨hy1, hy2⟩ := wx_some hy
  have HI : Hid (∀ W, Tabs W → Calls Tryz.prog 128 #[.int .u32 u, .int .i64 m.nw] W fun e w' => e = .returned (.tuple #[.int .i64 y, .int .i64 0]) ∧ Below W.heap.size W w') := fun W hT => by
    rw [hy2]; exact P4.Invalid_yes y m.nw W hT.p (by have := h.ok.n2; omega) (by have := h.ok.n32; omega) hy1
  obtain ⟨z, hz⟩ : ∃ z : Int, z = y := ⟨_, rfl⟩
  rw [← hz] at HI
  obtain ⟨k0, _⟩ := h.cells
  clear h hu hy hy1 hy2 hz
  go_enter Tryz.func62, Tryz.ntmps62
  go_wp2_with fail
  refine (isObject_yes b ⟨fb, 0, none⟩ w A.out.cells.1).mono ?_; rintro e w1 ⟨rfl, rfl⟩
  go_wp2_with fail
  refine (A.out.nw_at).mono ?_; rintro e w1 ⟨rfl, g1⟩
  have P1 := Lib.hid (A.out.bel g1)
  go_wp2_with fail
  refine (HI.out _ P1.out.tab).mono ?_; rintro e w2 ⟨rfl, g2⟩
  have P2 := Lib.hid (P1.out.bel g2)
  have b2 := Lib.hid (bel_trans g1 g2)
  have f7 := P2.out.frozen 7
  have c7 := P2.out.cells.2.2.2.2.2.2.2.1
  obtain ⟨P3, g3⟩ := P2.out.put1 7 (.int .u32 u) (put_wim _ _ _ _ _ _) ⟨rfl, rfl, rfl, rfl, rfl, rfl, rfl, rfl⟩ HOK.out
  have P3 := Lib.hid P3
  have g3 := Lib.hid g3
  go_wp2_with fail
  go_ret
  exact ⟨rfl, P3.out, only_trans (bel_only b2.out _) g3.out⟩
theorem SetWim_no (u : Int) (h : MachP w b fb mb g x cs os G m) (hw : W32 u) (hu : wx u m.nw = none) :
    Calls Tryz.prog 62 #[.pointer (some ⟨b, 0, none⟩), .int .u32 u] w fun e w' => e = .returned (.int .i64 5) ∧ Below w.heap.size w w' := by
  have A := Lib.hid h
  have HI : Hid (∀ W, Tabs W → Calls Tryz.prog 128 #[.int .u32 u, .int .i64 m.nw] W fun e w' => e = .returned (.tuple #[.int .i64 0, .int .i64 5]) ∧ Below W.heap.size W w') := fun W hT => P4.Invalid_form u m.nw W hT.p hw (by have := h.ok.n2; omega) (by have := h.ok.n32; omega) (wx_none hu)
  obtain ⟨k0, _⟩ := h.cells
  clear h hu
  go_enter Tryz.func62, Tryz.ntmps62
  go_wp2_with fail
  refine (isObject_yes b ⟨fb, 0, none⟩ w A.out.cells.1).mono ?_; rintro e w1 ⟨rfl, rfl⟩
  go_wp2_with fail
  refine (A.out.nw_at).mono ?_; rintro e w1 ⟨rfl, g1⟩
  have P1 := Lib.hid (A.out.bel g1)
  go_wp2_with fail
  refine (HI.out _ P1.out.tab).mono ?_; rintro e w2 ⟨rfl, g2⟩
  have P2 := Lib.hid (P1.out.bel g2)
  have b2 := Lib.hid (bel_trans g1 g2)
  go_wp2_with fail
  go_ret
  exact ⟨rfl, b2.out⟩
set_option maxRecDepth 100000 in
theorem writeWim_yes (v : XV) (h : MachP w v.b fb mb g x cs os G m) (hu : (wx ((v.a + v.y) % 4294967296) m.nw).isSome = true) :
    Calls Tryz.prog 220 #[.agg (xrow v)] w fun e w' => Goes w v.b G m ((m.inv ((v.a + v.y) % 4294967296)).on) e w' := by
  have A := Lib.hid h
  have hcf : Hid (w.heap.size ≠ fb) := by have := h.lt _ h.gf; unfold Hid; omega
  have hcb : Hid (w.heap.size ≠ v.b) := by have := h.lt _ h.gb; unfold Hid; omega
  have hcg : Hid (w.heap.size ≠ g) := by have := h.lt _ h.gg; unfold Hid; omega
  have HU := Lib.hid hu
  clear h hu
  go_enter Tryz.func220, Tryz.ntmps220
  go_upto_region 1 with (refine x_box rfl _ rfl _ rfl v rfl ?_; intro V r1 b1; obtain ⟨x0, x1, x2, x3, x4, x5, x6, x7, x8⟩ := r1.out.all; obtain ⟨k0, k1, k2, k3, k4, k5, k6, k7, k42, k43, k44, k45⟩ := (A.out.bel b1).cells)
  have P1 := Lib.hid (A.out.bel b1)
  go_wp2_with fail
  go_region_held3 (fun W => W.cell? ⟨w.heap.size, 0, none⟩ = some (.pointer (some ⟨v.b, 0, none⟩)) ∧ W.cell? ⟨w.heap.size, 1, none⟩ = some (.int .u8 v.o) ∧ W.cell? ⟨w.heap.size, 2, none⟩ = some (.int .u8 v.d) ∧ W.cell? ⟨w.heap.size, 3, none⟩ = some (.int .u8 v.s) ∧ W.cell? ⟨w.heap.size, 4, none⟩ = some (.int .u8 v.t) ∧ W.cell? ⟨w.heap.size, 5, none⟩ = some (.bool v.ib) ∧ W.cell? ⟨w.heap.size, 6, none⟩ = some (.int .i32 v.n) ∧ W.cell? ⟨w.heap.size, 7, none⟩ = some (.int .u32 v.a) ∧ W.cell? ⟨w.heap.size, 8, none⟩ = some (.int .u32 v.y) ∧ V.grownBy W (some v.b))
    (first
      | (obtain ⟨x0, x1, x2, x3, x4, x5, x6, x7, x8, kk⟩ := hold_box r1.out P1.out hcb.out (bel_only (Below.refl _ _).drew _); exact ⟨x0, x1, x2, x3, x4, x5, x6, x7, x8, kk⟩)
      | (go_split_ands; obtain ⟨x0, x1, x2, x3, x4, x5, x6, x7, x8, kk⟩ := hold_box r1.out P1.out hcb.out (only_trans (by assumption) (bel_only gL _)); exact ⟨x0, x1, x2, x3, x4, x5, x6, x7, x8, kk⟩)
      | (go_split_ands; obtain ⟨x0, x1, x2, x3, x4, x5, x6, x7, x8, kk⟩ := hold_box r1.out P1.out hcb.out (only_trans (by assumption) gW); exact ⟨x0, x1, x2, x3, x4, x5, x6, x7, x8, kk⟩))
    (first
      | (go_at_call 269; refine (sum_at v _).mono ?_; rintro e w2 ⟨rfl, gL⟩)
      | (go_at_call 62; refine (SetWim_yes ((v.a + v.y) % 4294967296) (P1.out.bel (bel_trans (Below.refl _ _).drew gL)) HU.out).mono ?_; rintro e w3 ⟨rfl, P3, gW⟩; have P3 := Lib.hid P3))
  rename_i hH
  have gH := Lib.hid (hH.2.2.2.2.2.2.2.2.2)
  have r3 := Lib.hid (r1.out.only gH.out hcb.out)
  clear hH
  go_wp2_with (refine x_load rfl _ rfl _ rfl _ v rfl r3.out ?_)
  refine (following_at v P3.out).mono ?_; rintro e w4 ⟨rfl, g4⟩
  have P4 := Lib.hid (P3.out.bel g4)
  go_wp2_with fail
  go_ret
  exact ⟨rfl, Left.only P4.out (only_trans (only_trans (bel_only b1 _) gH.out) (bel_only g4 _)) A.out.gb⟩
set_option maxRecDepth 100000 in
theorem writeWim_no (v : XV) (h : MachP w v.b fb mb g x cs os G m) (hu : wx ((v.a + v.y) % 4294967296) m.nw = none) :
    Calls Tryz.prog 220 #[.agg (xrow v)] w fun e w' => Goes w v.b G m (m.stp 3 0) e w' := by
  have A := Lib.hid h
  have hcf : Hid (w.heap.size ≠ fb) := by have := h.lt _ h.gf; unfold Hid; omega
  have hcb : Hid (w.heap.size ≠ v.b) := by have := h.lt _ h.gb; unfold Hid; omega
  have hcg : Hid (w.heap.size ≠ g) := by have := h.lt _ h.gg; unfold Hid; omega
  have HU := Lib.hid hu
  clear h hu
  go_enter Tryz.func220, Tryz.ntmps220
  go_upto_region 1 with (refine x_box rfl _ rfl _ rfl v rfl ?_; intro V r1 b1; obtain ⟨x0, x1, x2, x3, x4, x5, x6, x7, x8⟩ := r1.out.all; obtain ⟨k0, k1, k2, k3, k4, k5, k6, k7, k42, k43, k44, k45⟩ := (A.out.bel b1).cells)
  have P1 := Lib.hid (A.out.bel b1)
  go_wp2_with fail
  go_region_held3 (fun W => W.cell? ⟨w.heap.size, 0, none⟩ = some (.pointer (some ⟨v.b, 0, none⟩)) ∧ W.cell? ⟨w.heap.size, 1, none⟩ = some (.int .u8 v.o) ∧ W.cell? ⟨w.heap.size, 2, none⟩ = some (.int .u8 v.d) ∧ W.cell? ⟨w.heap.size, 3, none⟩ = some (.int .u8 v.s) ∧ W.cell? ⟨w.heap.size, 4, none⟩ = some (.int .u8 v.t) ∧ W.cell? ⟨w.heap.size, 5, none⟩ = some (.bool v.ib) ∧ W.cell? ⟨w.heap.size, 6, none⟩ = some (.int .i32 v.n) ∧ W.cell? ⟨w.heap.size, 7, none⟩ = some (.int .u32 v.a) ∧ W.cell? ⟨w.heap.size, 8, none⟩ = some (.int .u32 v.y) ∧ Below V.heap.size V W)
    (first
      | (obtain ⟨x0, x1, x2, x3, x4, x5, x6, x7, x8, k0, k1, k2, k3, k4, k5, k6, k7, kk⟩ := hold_bel r1.out P1.out (Below.refl _ _).drew; exact ⟨x0, x1, x2, x3, x4, x5, x6, x7, x8, kk⟩)
      | (go_split_ands; obtain ⟨x0, x1, x2, x3, x4, x5, x6, x7, x8, k0, k1, k2, k3, k4, k5, k6, k7, kk⟩ := hold_bel r1.out P1.out (bel_trans (by assumption) gL); exact ⟨x0, x1, x2, x3, x4, x5, x6, x7, x8, kk⟩))
    (first
      | (go_at_call 269; refine (sum_at v _).mono ?_; rintro e w2 ⟨rfl, gL⟩)
      | (go_at_call 62; refine (SetWim_no ((v.a + v.y) % 4294967296) (P1.out.bel (bel_trans (Below.refl _ _).drew gL)) (w32_mod _) HU.out).mono ?_; rintro e w3 ⟨rfl, gL⟩))
  rename_i hH
  have gH := Lib.hid (hH.2.2.2.2.2.2.2.2.2)
  have r3 := Lib.hid (r1.out.bel gH.out)
  have P3 := Lib.hid (P1.out.bel gH.out)
  clear hH
  go_wp2_with (refine x_load rfl _ rfl _ rfl _ v rfl r3.out ?_)
  refine (fail_at v P3.out).mono ?_; rintro e w4 ⟨rfl, P4, g4⟩
  have P4 := Lib.hid P4
  go_wp2_with fail
  go_ret
  exact ⟨rfl, Left.only P4.out (only_trans (only_trans (bel_only b1 _) (bel_only gH.out _)) g4) A.out.gb⟩
set_option maxRecDepth 100000 in
theorem turn_bad (v : XV) (c k : Int) (h : MachP w v.b fb mb g x cs os G m) (hc : 0 ≤ c ∧ c < m.nw) (hk : 0 ≤ k ∧ k < 256) (hw : wx m.wim m.nw = some c.toNat) :
    Calls Tryz.prog 271 #[.agg (xrow v), .int .i64 c, .int .u8 k] w fun e w' => Goes w v.b G m (m.wnd k m.pc) e w' := by
  have A := Lib.hid h
  have hcf : Hid (w.heap.size ≠ fb) := by have := h.lt _ h.gf; unfold Hid; omega
  have hcb : Hid (w.heap.size ≠ v.b) := by have := h.lt _ h.gb; unfold Hid; omega
  have hcg : Hid (w.heap.size ≠ g) := by have := h.lt _ h.gg; unfold Hid; omega
  obtain ⟨yi, hyi, hyw⟩ := h.ok.wim
  have HI : Hid (∀ W, Tabs W → Calls Tryz.prog 128 #[.int .u32 m.wim, .int .i64 m.nw] W fun e w' => e = .returned (.tuple #[.int .i64 yi, .int .i64 0]) ∧ Below W.heap.size W w') := fun W hT => by
    rw [hyw]; exact P4.Invalid_yes yi m.nw W hT.p (by have := h.ok.n2; omega) (by have := h.ok.n32; omega) hyi
  have HK := Lib.hid hk
  have HPC := Lib.hid h.ok.pc
  have hyc : (yi : Int) = c := by
    have := (wx_some hw).2
    rw [hyw] at this
    have := P4.pw_inj this
    omega
  rw [hyc] at HI
  clear h hw hyc hyw hyi hk
  go_enter Tryz.func271, Tryz.ntmps271
  go_upto_region 1 with (refine x_box rfl _ rfl _ rfl v rfl ?_; intro V r1 b1; obtain ⟨x0, x1, x2, x3, x4, x5, x6, x7, x8⟩ := r1.out.all; obtain ⟨k0, k1, k2, k3, k4, k5, k6, k7, k42, k43, k44, k45⟩ := (A.out.bel b1).cells)
  have P1 := Lib.hid (A.out.bel b1)
  go_wp2_with fail
  go_region_held3 (fun W => W.cell? ⟨w.heap.size, 0, none⟩ = some (.pointer (some ⟨v.b, 0, none⟩)) ∧ W.cell? ⟨v.b, 0, none⟩ = some (.pointer (some ⟨fb, 0, none⟩)) ∧ W.cell? ⟨v.b, 7, none⟩ = some (.int .u32 m.wim) ∧ Below V.heap.size V W)
    (first
      | (obtain ⟨x0, x1, x2, x3, x4, x5, x6, x7, x8, k0, k1, k2, k3, k4, k5, k6, k7, kk⟩ := hold_bel r1.out P1.out (Below.refl _ _).drew; exact ⟨x0, k0, k7, kk⟩)
      | (go_split_ands; obtain ⟨x0, x1, x2, x3, x4, x5, x6, x7, x8, k0, k1, k2, k3, k4, k5, k6, k7, kk⟩ := hold_bel r1.out P1.out (bel_trans (by assumption) gL); exact ⟨x0, k0, k7, kk⟩))
    (first
      | (go_at_call 127; refine (P1.out.bel (Below.refl _ _).drew).nw_at.mono ?_; rintro e w2 ⟨rfl, gL⟩)
      | (go_at_call 128; refine (HI.out _ (P1.out.bel (bel_trans (Below.refl _ _).drew gL)).tab).mono ?_; rintro e w3 ⟨rfl, gL⟩))
  rename_i hH
  have gH := Lib.hid (hH.2.2.2)
  have r2 := Lib.hid (r1.out.bel gH.out)
  have P2 := Lib.hid (P1.out.bel gH.out)
  have b2 := Lib.hid (bel_trans b1 gH.out)
  clear hH P1 r1 b1 gH x0 x1 x2 x3 x4 x5 x6 x7 x8 k0 k1 k2 k3 k4 k5 k6 k7 k42 k43 k44 k45
  obtain ⟨x0, x1, x2, x3, x4, x5, x6, x7, x8⟩ := r2.out.all
  obtain ⟨k0, k1, k2, k3, k4, k5, k6, k7, k42, k43, k44, k45⟩ := P2.out.cells
  go_wp2_with fail
  go_still_tail 7, (by kernel_rfl)
  change wpList _ _ _ _ _ w3.drew
  have gd : Below w3.heap.size w3 w3.drew := (Below.refl _ _).drew
  have P3 := Lib.hid (P2.out.bel gd)
  have b3 := Lib.hid (bel_trans b2.out gd)
  clear P2 r2 b2 gd
  generalize w3.drew = V2 at *
  go_wp2_with fail
  refine (trap_at v k m.pc P3.out HK.out.1 HK.out.2 HPC.out).mono ?_; rintro e w4 ⟨rfl, P4, g4⟩
  have P4 := Lib.hid P4
  go_wp2_with fail
  go_ret
  exact ⟨rfl, Left.only P4.out (only_trans (bel_only b3.out _) g4) A.out.gb⟩
set_option maxRecDepth 100000 in
theorem turn_good (v : XV) (c k : Int) (h : MachP w v.b fb mb g x cs os G m) (h0 : 0 ≤ v.d) (h1 : v.d < 32) (hc : 0 ≤ c ∧ c < m.nw) (hw : wx m.wim m.nw ≠ some c.toNat) :
    Calls Tryz.prog 271 #[.agg (xrow v), .int .i64 c, .int .u8 k] w fun e w' => Goes w v.b G m (((m.win c).set v.d ((v.a + v.y) % 4294967296)).on) e w' := by
  have A := Lib.hid h
  have hcf : Hid (w.heap.size ≠ fb) := by have := h.lt _ h.gf; unfold Hid; omega
  have hcb : Hid (w.heap.size ≠ v.b) := by have := h.lt _ h.gb; unfold Hid; omega
  have hcg : Hid (w.heap.size ≠ g) := by have := h.lt _ h.gg; unfold Hid; omega
  obtain ⟨yi, hyi, hyw⟩ := h.ok.wim
  have HI : Hid (∀ W, Tabs W → Calls Tryz.prog 128 #[.int .u32 m.wim, .int .i64 m.nw] W fun e w' => e = .returned (.tuple #[.int .i64 yi, .int .i64 0]) ∧ Below W.heap.size W w') := fun W hT => by
    rw [hyw]; exact P4.Invalid_yes yi m.nw W hT.p (by have := h.ok.n2; omega) (by have := h.ok.n32; omega) hyi
  have hne : (c == (yi : Int)) = false := by
    have : c ≠ (yi : Int) := fun e => hw (by rw [hyw, wx_pw hyi, e, Int.toNat_natCast])
    simpa using this
  obtain ⟨z, hz⟩ : ∃ z : Int, z = yi := ⟨_, rfl⟩
  rw [← hz] at HI hne
  have hc0 := hc.1
  have hc1 : c < 32 := by have := h.ok.n32; omega
  have HOK := Lib.hid (h.ok.win hc.1 hc.2)
  clear h hw hyw hyi hz hc
  go_enter Tryz.func271, Tryz.ntmps271
  go_upto_region 1 with (refine x_box rfl _ rfl _ rfl v rfl ?_; intro V r1 b1; obtain ⟨x0, x1, x2, x3, x4, x5, x6, x7, x8⟩ := r1.out.all; obtain ⟨k0, k1, k2, k3, k4, k5, k6, k7, k42, k43, k44, k45⟩ := (A.out.bel b1).cells)
  have P1 := Lib.hid (A.out.bel b1)
  go_wp2_with fail
  go_region_held3 (fun W => W.cell? ⟨w.heap.size, 0, none⟩ = some (.pointer (some ⟨v.b, 0, none⟩)) ∧ W.cell? ⟨v.b, 0, none⟩ = some (.pointer (some ⟨fb, 0, none⟩)) ∧ W.cell? ⟨v.b, 7, none⟩ = some (.int .u32 m.wim) ∧ Below V.heap.size V W)
    (first
      | (obtain ⟨x0, x1, x2, x3, x4, x5, x6, x7, x8, k0, k1, k2, k3, k4, k5, k6, k7, kk⟩ := hold_bel r1.out P1.out (Below.refl _ _).drew; exact ⟨x0, k0, k7, kk⟩)
      | (go_split_ands; obtain ⟨x0, x1, x2, x3, x4, x5, x6, x7, x8, k0, k1, k2, k3, k4, k5, k6, k7, kk⟩ := hold_bel r1.out P1.out (bel_trans (by assumption) gL); exact ⟨x0, k0, k7, kk⟩))
    (first
      | (go_at_call 127; refine (P1.out.bel (Below.refl _ _).drew).nw_at.mono ?_; rintro e w2 ⟨rfl, gL⟩)
      | (go_at_call 128; refine (HI.out _ (P1.out.bel (bel_trans (Below.refl _ _).drew gL)).tab).mono ?_; rintro e w3 ⟨rfl, gL⟩))
  rename_i hH
  have gH := Lib.hid (hH.2.2.2)
  have r2 := Lib.hid (r1.out.bel gH.out)
  have P2 := Lib.hid (P1.out.bel gH.out)
  have b2 := Lib.hid (bel_trans b1 gH.out)
  clear hH P1 r1 b1 gH x0 x1 x2 x3 x4 x5 x6 x7 x8 k0 k1 k2 k3 k4 k5 k6 k7 k42 k43 k44 k45
  obtain ⟨x0, x1, x2, x3, x4, x5, x6, x7, x8⟩ := r2.out.all
  obtain ⟨k0, k1, k2, k3, k4, k5, k6, k7, k42, k43, k44, k45⟩ := P2.out.cells
  have f3 := P2.out.frozen 3
  obtain ⟨P3, g3⟩ := P2.out.put1 3 (.int .u8 c) (put_cwp _ _ _ _ _ _) ⟨rfl, rfl, rfl, rfl, rfl, rfl, rfl, rfl⟩ HOK.out
  have P3 := Lib.hid P3
  have g3 := Lib.hid g3
  have r3 := Lib.hid (r2.out.only g3.out hcb.out)
  go_upto_region 5 with fail
  generalize hW5 : w3.setCell ⟨v.b, 3, none⟩ (.int .u8 c) = V5 at *
  clear hW5 x0 x1 x2 x3 x4 x5 x6 x7 x8 k0 k1 k2 k3 k4 k5 k6 k7 k42 k43 k44 k45 f3
  go_region_held3 (fun W => W.cell? ⟨w.heap.size, 0, none⟩ = some (.pointer (some ⟨v.b, 0, none⟩)) ∧ W.cell? ⟨w.heap.size, 1, none⟩ = some (.int .u8 v.o) ∧ W.cell? ⟨w.heap.size, 2, none⟩ = some (.int .u8 v.d) ∧ W.cell? ⟨w.heap.size, 3, none⟩ = some (.int .u8 v.s) ∧ W.cell? ⟨w.heap.size, 4, none⟩ = some (.int .u8 v.t) ∧ W.cell? ⟨w.heap.size, 5, none⟩ = some (.bool v.ib) ∧ W.cell? ⟨w.heap.size, 6, none⟩ = some (.int .i32 v.n) ∧ W.cell? ⟨w.heap.size, 7, none⟩ = some (.int .u32 v.a) ∧ W.cell? ⟨w.heap.size, 8, none⟩ = some (.int .u32 v.y) ∧ V5.grownBy W (some fb))
    (first
      | (obtain ⟨x0, x1, x2, x3, x4, x5, x6, x7, x8, k0, k1, k2, k3, k4, k5, k6, k7, kk⟩ := hold_only r3.out P3.out hcf.out P3.out.bf (bel_only (Below.refl _ _).drew _); exact ⟨x0, x1, x2, x3, x4, x5, x6, x7, x8, kk⟩)
      | (go_split_ands; obtain ⟨x0, x1, x2, x3, x4, x5, x6, x7, x8, k0, k1, k2, k3, k4, k5, k6, k7, kk⟩ := hold_only r3.out P3.out hcf.out P3.out.bf (only_trans (by assumption) (bel_only gL _)); exact ⟨x0, x1, x2, x3, x4, x5, x6, x7, x8, kk⟩)
      | (go_split_ands; obtain ⟨x0, x1, x2, x3, x4, x5, x6, x7, x8, k0, k1, k2, k3, k4, k5, k6, k7, kk⟩ := hold_only r3.out P3.out hcf.out P3.out.bf (only_trans (by assumption) gW); exact ⟨x0, x1, x2, x3, x4, x5, x6, x7, x8, kk⟩))
    (first
      | (go_at_call 269; refine (sum_at v _).mono ?_; rintro e w6 ⟨rfl, gL⟩)
      | (go_at_call 263; refine (result_at v ((v.a + v.y) % 4294967296) (P3.out.bel (bel_trans (Below.refl _ _).drew gL)) h0 h1 (w32_mod _)).mono ?_; rintro e w7 ⟨rfl, P7, gW⟩; have P7 := Lib.hid P7))
  rename_i hH
  have gH := Lib.hid (hH.2.2.2.2.2.2.2.2.2)
  clear hH
  go_wp2_with fail
  go_ret
  refine ⟨rfl, G, P7.out.b, ?_, fun i hi => .inl hi⟩
  exact (Turns.of_only (G := G) (only_trans (bel_only b2.out _) g3.out) A.out.gb).trans (Turns.of_only (G := G) gH.out A.out.gf) (fun i hi => .inl hi)
set_option maxRecDepth 100000 in
theorem save_bad (v : XV) (h : MachP w v.b fb mb g x cs os G m) (hw : wx m.wim m.nw = some ((m.cwp + m.nw - 1) % m.nw).toNat) :
    Calls Tryz.prog 211 #[.agg (xrow v)] w fun e w' => Goes w v.b G m (m.wnd 1 m.pc) e w' := by
  have A := Lib.hid h
  have hcf : Hid (w.heap.size ≠ fb) := by have := h.lt _ h.gf; unfold Hid; omega
  have hcb : Hid (w.heap.size ≠ v.b) := by have := h.lt _ h.gb; unfold Hid; omega
  have hcg : Hid (w.heap.size ≠ g) := by have := h.lt _ h.gg; unfold Hid; omega
  have hn2 := h.ok.n2
  have HZ : Hid (0 ≤ (m.cwp + m.nw - 1) % m.nw ∧ (m.cwp + m.nw - 1) % m.nw < m.nw) := ⟨Int.emod_nonneg _ (by omega), Int.emod_lt_of_pos _ (by omega)⟩
  have HN : Hid (∀ W, Calls Tryz.prog 270 #[.int .i64 m.cwp, .int .i64 m.nw] W fun e w' => e = .returned (.tuple #[.int .i64 ((m.cwp + m.nw - 1) % m.nw), .int .i64 0]) ∧ Below W.heap.size W w') := fun W => P4.Ahead_yes m.cwp m.nw W (by omega) (by have := h.ok.n32; omega) h.ok.c0 h.ok.c1
  obtain ⟨z, hz⟩ : ∃ z, z = (m.cwp + m.nw - 1) % m.nw := ⟨_, rfl⟩
  rw [← hz] at HZ HN hw
  have HW := Lib.hid hw
  have wc : IntKind.i64.wrap m.cwp = m.cwp := IntWalk.i64_in _ (by have := h.byte; omega)
  clear h hw hz hn2
  go_enter Tryz.func211, Tryz.ntmps211
  go_upto_region 1 with (refine x_box rfl _ rfl _ rfl v rfl ?_; intro V r1 b1; obtain ⟨x0, x1, x2, x3, x4, x5, x6, x7, x8⟩ := r1.out.all; obtain ⟨k0, k1, k2, k3, k4, k5, k6, k7, k42, k43, k44, k45⟩ := (A.out.bel b1).cells)
  have P1 := Lib.hid (A.out.bel b1)
  go_wp2_with fail
  go_region_held3 (fun W => W.cell? ⟨w.heap.size, 0, none⟩ = some (.pointer (some ⟨v.b, 0, none⟩)) ∧ W.cell? ⟨v.b, 0, none⟩ = some (.pointer (some ⟨fb, 0, none⟩)) ∧ W.cell? ⟨v.b, 3, none⟩ = some (.int .u8 m.cwp) ∧ Below V.heap.size V W)
    (first
      | (obtain ⟨x0, x1, x2, x3, x4, x5, x6, x7, x8, k0, k1, k2, k3, k4, k5, k6, k7, kk⟩ := hold_bel r1.out P1.out (Below.refl _ _).drew; exact ⟨x0, k0, k3, kk⟩)
      | (go_split_ands; obtain ⟨x0, x1, x2, x3, x4, x5, x6, x7, x8, k0, k1, k2, k3, k4, k5, k6, k7, kk⟩ := hold_bel r1.out P1.out (bel_trans (by assumption) gL); exact ⟨x0, k0, k3, kk⟩))
    (first
      | (go_at_call 127; refine (P1.out.bel (Below.refl _ _).drew).nw_at.mono ?_; rintro e w2 ⟨rfl, gL⟩)
      | (go_at_call 270; refine (HN.out _).mono ?_; rintro e w3 ⟨rfl, gL⟩))
  rename_i hH
  have gH := Lib.hid (hH.2.2.2)
  have r2 := Lib.hid (r1.out.bel gH.out)
  have P2 := Lib.hid (P1.out.bel gH.out)
  have b2 := Lib.hid (bel_trans b1 gH.out)
  clear hH
  go_wp2_with (refine x_load rfl _ rfl _ rfl _ v rfl r2.out ?_)
  refine (turn_bad v z 1 P2.out HZ.out ⟨by decide, by decide⟩ HW.out).mono ?_; rintro e w4 ⟨rfl, L4⟩
  have L4 := Lib.hid L4
  go_wp2_with fail
  go_ret
  exact ⟨rfl, Left.trans (m := m) (Turns.of_bel b2.out) L4.out⟩
set_option maxRecDepth 100000 in
theorem save_good (v : XV) (h : MachP w v.b fb mb g x cs os G m) (h0 : 0 ≤ v.d) (h1 : v.d < 32) (hw : wx m.wim m.nw ≠ some ((m.cwp + m.nw - 1) % m.nw).toNat) :
    Calls Tryz.prog 211 #[.agg (xrow v)] w fun e w' => Goes w v.b G m (((m.win ((m.cwp + m.nw - 1) % m.nw)).set v.d ((v.a + v.y) % 4294967296)).on) e w' := by
  have A := Lib.hid h
  have hcf : Hid (w.heap.size ≠ fb) := by have := h.lt _ h.gf; unfold Hid; omega
  have hcb : Hid (w.heap.size ≠ v.b) := by have := h.lt _ h.gb; unfold Hid; omega
  have hcg : Hid (w.heap.size ≠ g) := by have := h.lt _ h.gg; unfold Hid; omega
  have hn2 := h.ok.n2
  have HZ : Hid (0 ≤ (m.cwp + m.nw - 1) % m.nw ∧ (m.cwp + m.nw - 1) % m.nw < m.nw) := ⟨Int.emod_nonneg _ (by omega), Int.emod_lt_of_pos _ (by omega)⟩
  have HN : Hid (∀ W, Calls Tryz.prog 270 #[.int .i64 m.cwp, .int .i64 m.nw] W fun e w' => e = .returned (.tuple #[.int .i64 ((m.cwp + m.nw - 1) % m.nw), .int .i64 0]) ∧ Below W.heap.size W w') := fun W => P4.Ahead_yes m.cwp m.nw W (by omega) (by have := h.ok.n32; omega) h.ok.c0 h.ok.c1
  obtain ⟨z, hz⟩ : ∃ z, z = (m.cwp + m.nw - 1) % m.nw := ⟨_, rfl⟩
  rw [← hz] at HZ HN hw ⊢
  have HW := Lib.hid hw
  have wc : IntKind.i64.wrap m.cwp = m.cwp := IntWalk.i64_in _ (by have := h.byte; omega)
  clear h hw hz hn2
  go_enter Tryz.func211, Tryz.ntmps211
  go_upto_region 1 with (refine x_box rfl _ rfl _ rfl v rfl ?_; intro V r1 b1; obtain ⟨x0, x1, x2, x3, x4, x5, x6, x7, x8⟩ := r1.out.all; obtain ⟨k0, k1, k2, k3, k4, k5, k6, k7, k42, k43, k44, k45⟩ := (A.out.bel b1).cells)
  have P1 := Lib.hid (A.out.bel b1)
  go_wp2_with fail
  go_region_held3 (fun W => W.cell? ⟨w.heap.size, 0, none⟩ = some (.pointer (some ⟨v.b, 0, none⟩)) ∧ W.cell? ⟨v.b, 0, none⟩ = some (.pointer (some ⟨fb, 0, none⟩)) ∧ W.cell? ⟨v.b, 3, none⟩ = some (.int .u8 m.cwp) ∧ Below V.heap.size V W)
    (first
      | (obtain ⟨x0, x1, x2, x3, x4, x5, x6, x7, x8, k0, k1, k2, k3, k4, k5, k6, k7, kk⟩ := hold_bel r1.out P1.out (Below.refl _ _).drew; exact ⟨x0, k0, k3, kk⟩)
      | (go_split_ands; obtain ⟨x0, x1, x2, x3, x4, x5, x6, x7, x8, k0, k1, k2, k3, k4, k5, k6, k7, kk⟩ := hold_bel r1.out P1.out (bel_trans (by assumption) gL); exact ⟨x0, k0, k3, kk⟩))
    (first
      | (go_at_call 127; refine (P1.out.bel (Below.refl _ _).drew).nw_at.mono ?_; rintro e w2 ⟨rfl, gL⟩)
      | (go_at_call 270; refine (HN.out _).mono ?_; rintro e w3 ⟨rfl, gL⟩))
  rename_i hH
  have gH := Lib.hid (hH.2.2.2)
  have r2 := Lib.hid (r1.out.bel gH.out)
  have P2 := Lib.hid (P1.out.bel gH.out)
  have b2 := Lib.hid (bel_trans b1 gH.out)
  clear hH
  go_wp2_with (refine x_load rfl _ rfl _ rfl _ v rfl r2.out ?_)
  refine (turn_good v z 1 P2.out h0 h1 HZ.out HW.out).mono ?_; rintro e w4 ⟨rfl, L4⟩
  have L4 := Lib.hid L4
  go_wp2_with fail
  go_ret
  exact ⟨rfl, Left.trans (m := m) (Turns.of_bel b2.out) L4.out⟩
set_option maxRecDepth 100000 in
theorem restore_bad (v : XV) (h : MachP w v.b fb mb g x cs os G m) (hw : wx m.wim m.nw = some ((m.cwp + 1) % m.nw).toNat) :
    Calls Tryz.prog 212 #[.agg (xrow v)] w fun e w' => Goes w v.b G m (m.wnd 2 m.pc) e w' := by
  have A := Lib.hid h
  have hcf : Hid (w.heap.size ≠ fb) := by have := h.lt _ h.gf; unfold Hid; omega
  have hcb : Hid (w.heap.size ≠ v.b) := by have := h.lt _ h.gb; unfold Hid; omega
  have hcg : Hid (w.heap.size ≠ g) := by have := h.lt _ h.gg; unfold Hid; omega
  have hn2 := h.ok.n2
  have HZ : Hid (0 ≤ (m.cwp + 1) % m.nw ∧ (m.cwp + 1) % m.nw < m.nw) := ⟨Int.emod_nonneg _ (by omega), Int.emod_lt_of_pos _ (by omega)⟩
  have HN : Hid (∀ W, Calls Tryz.prog 272 #[.int .i64 m.cwp, .int .i64 m.nw] W fun e w' => e = .returned (.tuple #[.int .i64 ((m.cwp + 1) % m.nw), .int .i64 0]) ∧ Below W.heap.size W w') := fun W => P4.Next_yes m.cwp m.nw W (by omega) (by have := h.ok.n32; omega) h.ok.c0 h.ok.c1
  obtain ⟨z, hz⟩ : ∃ z, z = (m.cwp + 1) % m.nw := ⟨_, rfl⟩
  rw [← hz] at HZ HN hw
  have HW := Lib.hid hw
  have wc : IntKind.i64.wrap m.cwp = m.cwp := IntWalk.i64_in _ (by have := h.byte; omega)
  clear h hw hz hn2
  go_enter Tryz.func212, Tryz.ntmps212
  go_upto_region 1 with (refine x_box rfl _ rfl _ rfl v rfl ?_; intro V r1 b1; obtain ⟨x0, x1, x2, x3, x4, x5, x6, x7, x8⟩ := r1.out.all; obtain ⟨k0, k1, k2, k3, k4, k5, k6, k7, k42, k43, k44, k45⟩ := (A.out.bel b1).cells)
  have P1 := Lib.hid (A.out.bel b1)
  go_wp2_with fail
  go_region_held3 (fun W => W.cell? ⟨w.heap.size, 0, none⟩ = some (.pointer (some ⟨v.b, 0, none⟩)) ∧ W.cell? ⟨v.b, 0, none⟩ = some (.pointer (some ⟨fb, 0, none⟩)) ∧ W.cell? ⟨v.b, 3, none⟩ = some (.int .u8 m.cwp) ∧ Below V.heap.size V W)
    (first
      | (obtain ⟨x0, x1, x2, x3, x4, x5, x6, x7, x8, k0, k1, k2, k3, k4, k5, k6, k7, kk⟩ := hold_bel r1.out P1.out (Below.refl _ _).drew; exact ⟨x0, k0, k3, kk⟩)
      | (go_split_ands; obtain ⟨x0, x1, x2, x3, x4, x5, x6, x7, x8, k0, k1, k2, k3, k4, k5, k6, k7, kk⟩ := hold_bel r1.out P1.out (bel_trans (by assumption) gL); exact ⟨x0, k0, k3, kk⟩))
    (first
      | (go_at_call 127; refine (P1.out.bel (Below.refl _ _).drew).nw_at.mono ?_; rintro e w2 ⟨rfl, gL⟩)
      | (go_at_call 272; refine (HN.out _).mono ?_; rintro e w3 ⟨rfl, gL⟩))
  rename_i hH
  have gH := Lib.hid (hH.2.2.2)
  have r2 := Lib.hid (r1.out.bel gH.out)
  have P2 := Lib.hid (P1.out.bel gH.out)
  have b2 := Lib.hid (bel_trans b1 gH.out)
  clear hH
  go_wp2_with (refine x_load rfl _ rfl _ rfl _ v rfl r2.out ?_)
  refine (turn_bad v z 2 P2.out HZ.out ⟨by decide, by decide⟩ HW.out).mono ?_; rintro e w4 ⟨rfl, L4⟩
  have L4 := Lib.hid L4
  go_wp2_with fail
  go_ret
  exact ⟨rfl, Left.trans (m := m) (Turns.of_bel b2.out) L4.out⟩
set_option maxRecDepth 100000 in
theorem restore_good (v : XV) (h : MachP w v.b fb mb g x cs os G m) (h0 : 0 ≤ v.d) (h1 : v.d < 32) (hw : wx m.wim m.nw ≠ some ((m.cwp + 1) % m.nw).toNat) :
    Calls Tryz.prog 212 #[.agg (xrow v)] w fun e w' => Goes w v.b G m (((m.win ((m.cwp + 1) % m.nw)).set v.d ((v.a + v.y) % 4294967296)).on) e w' := by
  have A := Lib.hid h
  have hcf : Hid (w.heap.size ≠ fb) := by have := h.lt _ h.gf; unfold Hid; omega
  have hcb : Hid (w.heap.size ≠ v.b) := by have := h.lt _ h.gb; unfold Hid; omega
  have hcg : Hid (w.heap.size ≠ g) := by have := h.lt _ h.gg; unfold Hid; omega
  have hn2 := h.ok.n2
  have HZ : Hid (0 ≤ (m.cwp + 1) % m.nw ∧ (m.cwp + 1) % m.nw < m.nw) := ⟨Int.emod_nonneg _ (by omega), Int.emod_lt_of_pos _ (by omega)⟩
  have HN : Hid (∀ W, Calls Tryz.prog 272 #[.int .i64 m.cwp, .int .i64 m.nw] W fun e w' => e = .returned (.tuple #[.int .i64 ((m.cwp + 1) % m.nw), .int .i64 0]) ∧ Below W.heap.size W w') := fun W => P4.Next_yes m.cwp m.nw W (by omega) (by have := h.ok.n32; omega) h.ok.c0 h.ok.c1
  obtain ⟨z, hz⟩ : ∃ z, z = (m.cwp + 1) % m.nw := ⟨_, rfl⟩
  rw [← hz] at HZ HN hw ⊢
  have HW := Lib.hid hw
  have wc : IntKind.i64.wrap m.cwp = m.cwp := IntWalk.i64_in _ (by have := h.byte; omega)
  clear h hw hz hn2
  go_enter Tryz.func212, Tryz.ntmps212
  go_upto_region 1 with (refine x_box rfl _ rfl _ rfl v rfl ?_; intro V r1 b1; obtain ⟨x0, x1, x2, x3, x4, x5, x6, x7, x8⟩ := r1.out.all; obtain ⟨k0, k1, k2, k3, k4, k5, k6, k7, k42, k43, k44, k45⟩ := (A.out.bel b1).cells)
  have P1 := Lib.hid (A.out.bel b1)
  go_wp2_with fail
  go_region_held3 (fun W => W.cell? ⟨w.heap.size, 0, none⟩ = some (.pointer (some ⟨v.b, 0, none⟩)) ∧ W.cell? ⟨v.b, 0, none⟩ = some (.pointer (some ⟨fb, 0, none⟩)) ∧ W.cell? ⟨v.b, 3, none⟩ = some (.int .u8 m.cwp) ∧ Below V.heap.size V W)
    (first
      | (obtain ⟨x0, x1, x2, x3, x4, x5, x6, x7, x8, k0, k1, k2, k3, k4, k5, k6, k7, kk⟩ := hold_bel r1.out P1.out (Below.refl _ _).drew; exact ⟨x0, k0, k3, kk⟩)
      | (go_split_ands; obtain ⟨x0, x1, x2, x3, x4, x5, x6, x7, x8, k0, k1, k2, k3, k4, k5, k6, k7, kk⟩ := hold_bel r1.out P1.out (bel_trans (by assumption) gL); exact ⟨x0, k0, k3, kk⟩))
    (first
      | (go_at_call 127; refine (P1.out.bel (Below.refl _ _).drew).nw_at.mono ?_; rintro e w2 ⟨rfl, gL⟩)
      | (go_at_call 272; refine (HN.out _).mono ?_; rintro e w3 ⟨rfl, gL⟩))
  rename_i hH
  have gH := Lib.hid (hH.2.2.2)
  have r2 := Lib.hid (r1.out.bel gH.out)
  have P2 := Lib.hid (P1.out.bel gH.out)
  have b2 := Lib.hid (bel_trans b1 gH.out)
  clear hH
  go_wp2_with (refine x_load rfl _ rfl _ rfl _ v rfl r2.out ?_)
  refine (turn_good v z 2 P2.out h0 h1 HZ.out HW.out).mono ?_; rintro e w4 ⟨rfl, L4⟩
  have L4 := Lib.hid L4
  go_wp2_with fail
  go_ret
  exact ⟨rfl, Left.trans (m := m) (Turns.of_bel b2.out) L4.out⟩
end
end Go.Proofs.YtiobgnelhiadbaaGreatDoor.K6
namespace Go.Proofs.YtiobgnelhiadbaaGreatDoor.K6
open Go.RowKit
set_option linter.unusedVariables false
section
variable {w : World} {b fb mb g x : Nat} {cs os : Value} {G : Nat → Prop} {m : MS}
/-- What is stored into the memory. -/
theorem stores_at (a many : Nat) (u : Int) (h : MachP w b fb mb g x cs os G m) (hu : W32 u) (ht : thE m.sz a many = 0) :
    Calls Tryz.prog 90 #[.pointer (some ⟨mb, 0, none⟩), .int .u32 a, .int .i64 many, .int .u32 u] w fun e w' => e = .returned (.int .i64 0) ∧ MachP w' b fb mb g x cs os G (m.byt (stB m.f a many u)) ∧ w.grownBy w' (some g) :=
  (M5.store_yes a many u h.mem hu ht).mono fun e w' ⟨h1, h2, h3⟩ => ⟨h1, h.memd h3 h2, h3⟩
theorem stores_no (a many u : Int) (h : MachP w b fb mb g x cs os G m) (ha : W32 a) (ht : thE m.sz a many ≠ 0) :
    Calls Tryz.prog 90 #[.pointer (some ⟨mb, 0, none⟩), .int .u32 a, .int .i64 many, .int .u32 u] w fun e w' => e = .returned (.int .i64 (thE m.sz a many)) ∧ Below w.heap.size w w' :=
  (M5.store_no a many u h.mem ha ht).mono fun e w' ⟨h1, h2⟩ => ⟨h1, h2⟩
set_option maxRecDepth 100000 in
theorem store4_yes (v : XV) (h : MachP w v.b fb mb g x cs os G m) (h0 : 0 ≤ v.d) (h1 : v.d < 32) (ht : thE m.sz ((v.a + v.y) % 4294967296) 4 = 0) :
    Calls Tryz.prog 274 #[.agg (xrow v), .int .i64 4] w fun e w' => Goes w v.b G m ((m.byt (stB m.f ((v.a + v.y) % 4294967296).toNat 4 (m.get v.d))).on) e w' := by
  have A := Lib.hid h
  have hcf : Hid (w.heap.size ≠ fb) := by have := h.lt _ h.gf; unfold Hid; omega
  have hcb : Hid (w.heap.size ≠ v.b) := by have := h.lt _ h.gb; unfold Hid; omega
  have hcg : Hid (w.heap.size ≠ g) := by have := h.lt _ h.gg; unfold Hid; omega
  have HR : Hid (∀ W, MachP W v.b fb mb g x cs os G m → Calls Tryz.prog 152 #[.pointer (some ⟨v.b, 0, none⟩), .int .u8 v.d] W fun e w' => e = .returned (.int .u32 (m.get v.d)) ∧ Below W.heap.size W w') := fun W hW => register_at v.d hW h0 h1
  have HU := h.ok.get v.d
  have hz0 : ((v.a + v.y) % 4294967296) = ((((v.a + v.y) % 4294967296).toNat : Nat) : Int) := by omega
  have HT : Hid (∀ W, MachP W v.b fb mb g x cs os G m → Calls Tryz.prog 90 #[.pointer (some ⟨mb, 0, none⟩), .int .u32 ((v.a + v.y) % 4294967296), .int .i64 4, .int .u32 (m.get v.d)] W fun e w' => e = .returned (.int .i64 0) ∧ MachP w' v.b fb mb g x cs os G (m.byt (stB m.f ((v.a + v.y) % 4294967296).toNat 4 (m.get v.d))) ∧ W.grownBy w' (some g)) := fun W hW => by
    have := stores_at ((v.a + v.y) % 4294967296).toNat 4 (m.get v.d) hW HU (by rw [← hz0]; exact ht)
    rw [← hz0] at this
    exact this
  obtain ⟨u, hu⟩ : ∃ u, u = m.get v.d := ⟨_, rfl⟩
  rw [← hu] at HR HT ⊢
  clear h ht HU hu hz0
  go_enter Tryz.func274, Tryz.ntmps274
  go_upto_region 1 with (refine x_box rfl _ rfl _ rfl v rfl ?_; intro V r1 b1; obtain ⟨x0, x1, x2, x3, x4, x5, x6, x7, x8⟩ := r1.out.all; obtain ⟨k0, k1, k2, k3, k4, k5, k6, k7, k42, k43, k44, k45⟩ := (A.out.bel b1).cells)
  have P1 := Lib.hid (A.out.bel b1)
  go_wp2_with fail
  have HS : Hid (∀ W, V.grownBy W (some g) → W.cell? ⟨w.heap.size, 0, none⟩ = some (.pointer (some ⟨v.b, 0, none⟩)) ∧ W.cell? ⟨w.heap.size, 1, none⟩ = some (.int .u8 v.o) ∧ W.cell? ⟨w.heap.size, 2, none⟩ = some (.int .u8 v.d) ∧ W.cell? ⟨w.heap.size, 3, none⟩ = some (.int .u8 v.s) ∧ W.cell? ⟨w.heap.size, 4, none⟩ = some (.int .u8 v.t) ∧ W.cell? ⟨w.heap.size, 5, none⟩ = some (.bool v.ib) ∧ W.cell? ⟨w.heap.size, 6, none⟩ = some (.int .i32 v.n) ∧ W.cell? ⟨w.heap.size, 7, none⟩ = some (.int .u32 v.a) ∧ W.cell? ⟨w.heap.size, 8, none⟩ = some (.int .u32 v.y) ∧ W.cell? ⟨v.b, 1, none⟩ = some (.pointer (some ⟨mb, 0, none⟩)) ∧ V.grownBy W (some g)) := fun W kk0 => by
    obtain ⟨x0, x1, x2, x3, x4, x5, x6, x7, x8, k0, k1, k2, k3, k4, k5, k6, k7, kk⟩ := hold_only r1.out P1.out hcg.out P1.out.bg kk0
    exact ⟨x0, x1, x2, x3, x4, x5, x6, x7, x8, k1, kk⟩
  go_region_held3 (fun W => W.cell? ⟨w.heap.size, 0, none⟩ = some (.pointer (some ⟨v.b, 0, none⟩)) ∧ W.cell? ⟨w.heap.size, 1, none⟩ = some (.int .u8 v.o) ∧ W.cell? ⟨w.heap.size, 2, none⟩ = some (.int .u8 v.d) ∧ W.cell? ⟨w.heap.size, 3, none⟩ = some (.int .u8 v.s) ∧ W.cell? ⟨w.heap.size, 4, none⟩ = some (.int .u8 v.t) ∧ W.cell? ⟨w.heap.size, 5, none⟩ = some (.bool v.ib) ∧ W.cell? ⟨w.heap.size, 6, none⟩ = some (.int .i32 v.n) ∧ W.cell? ⟨w.heap.size, 7, none⟩ = some (.int .u32 v.a) ∧ W.cell? ⟨w.heap.size, 8, none⟩ = some (.int .u32 v.y) ∧ W.cell? ⟨v.b, 1, none⟩ = some (.pointer (some ⟨mb, 0, none⟩)) ∧ V.grownBy W (some g))
    (first
      | exact HS.out _ (bel_only (Below.refl _ _).drew _)
      | (go_split_ands; exact HS.out _ (only_trans (by assumption) (bel_only gL _)))
      | (go_split_ands; exact HS.out _ (only_trans (by assumption) gW)))
    (first
      | (go_at_call 269; refine (sum_at v _).mono ?_; rintro e w2 ⟨rfl, gL⟩; have B2 := Lib.hid (bel_trans (Below.refl _ V).drew gL))
      | (go_at_call 152; refine (HR.out _ (P1.out.bel B2.out)).mono ?_; rintro e w3 ⟨rfl, gL⟩; have B3 := Lib.hid (bel_trans B2.out gL))
      | (go_at_call 90; refine (HT.out _ (P1.out.bel B3.out)).mono ?_; rintro e w4 ⟨rfl, P4, gW⟩; have P4 := Lib.hid P4))
  rename_i hH
  have gH := Lib.hid (hH.2.2.2.2.2.2.2.2.2.2)
  have r4 := Lib.hid (r1.out.only gH.out hcg.out)
  clear hH
  go_wp2_with (refine x_load rfl _ rfl _ rfl _ v rfl r4.out ?_)
  refine (following_at v P4.out).mono ?_; rintro e w5 ⟨rfl, g5⟩
  have P5 := Lib.hid (P4.out.bel g5)
  go_wp2_with fail
  go_ret
  exact ⟨rfl, Left.only P5.out (only_trans (only_trans (bel_only b1 _) gH.out) (bel_only g5 _)) A.out.gg⟩
set_option maxRecDepth 100000 in
theorem store4_no (v : XV) (h : MachP w v.b fb mb g x cs os G m) (h0 : 0 ≤ v.d) (h1 : v.d < 32) (ht : thE m.sz ((v.a + v.y) % 4294967296) 4 ≠ 0) :
    Calls Tryz.prog 274 #[.agg (xrow v), .int .i64 4] w fun e w' => Goes w v.b G m (m.stp 3 0) e w' := by
  have A := Lib.hid h
  have hcf : Hid (w.heap.size ≠ fb) := by have := h.lt _ h.gf; unfold Hid; omega
  have hcb : Hid (w.heap.size ≠ v.b) := by have := h.lt _ h.gb; unfold Hid; omega
  have hcg : Hid (w.heap.size ≠ g) := by have := h.lt _ h.gg; unfold Hid; omega
  have HR : Hid (∀ W, MachP W v.b fb mb g x cs os G m → Calls Tryz.prog 152 #[.pointer (some ⟨v.b, 0, none⟩), .int .u8 v.d] W fun e w' => e = .returned (.int .u32 (m.get v.d)) ∧ Below W.heap.size W w') := fun W hW => register_at v.d hW h0 h1
  have HT : Hid (∀ W, MachP W v.b fb mb g x cs os G m → Calls Tryz.prog 90 #[.pointer (some ⟨mb, 0, none⟩), .int .u32 ((v.a + v.y) % 4294967296), .int .i64 4, .int .u32 (m.get v.d)] W fun e w' => e = .returned (.int .i64 (thE m.sz ((v.a + v.y) % 4294967296) 4)) ∧ Below W.heap.size W w') := fun W hW => stores_no ((v.a + v.y) % 4294967296) 4 (m.get v.d) hW (w32_mod _) ht
  obtain ⟨u, hu⟩ : ∃ u, u = m.get v.d := ⟨_, rfl⟩
  obtain ⟨er, her⟩ : ∃ er, er = thE m.sz ((v.a + v.y) % 4294967296) 4 := ⟨_, rfl⟩
  have her' : (er != 0) = true := by simpa [her] using ht
  rw [← hu] at HR HT
  rw [← her] at HT
  clear h ht hu her
  go_enter Tryz.func274, Tryz.ntmps274
  go_upto_region 1 with (refine x_box rfl _ rfl _ rfl v rfl ?_; intro V r1 b1; obtain ⟨x0, x1, x2, x3, x4, x5, x6, x7, x8⟩ := r1.out.all; obtain ⟨k0, k1, k2, k3, k4, k5, k6, k7, k42, k43, k44, k45⟩ := (A.out.bel b1).cells)
  have P1 := Lib.hid (A.out.bel b1)
  go_wp2_with fail
  have HS : Hid (∀ W, Below V.heap.size V W → W.cell? ⟨w.heap.size, 0, none⟩ = some (.pointer (some ⟨v.b, 0, none⟩)) ∧ W.cell? ⟨w.heap.size, 1, none⟩ = some (.int .u8 v.o) ∧ W.cell? ⟨w.heap.size, 2, none⟩ = some (.int .u8 v.d) ∧ W.cell? ⟨w.heap.size, 3, none⟩ = some (.int .u8 v.s) ∧ W.cell? ⟨w.heap.size, 4, none⟩ = some (.int .u8 v.t) ∧ W.cell? ⟨w.heap.size, 5, none⟩ = some (.bool v.ib) ∧ W.cell? ⟨w.heap.size, 6, none⟩ = some (.int .i32 v.n) ∧ W.cell? ⟨w.heap.size, 7, none⟩ = some (.int .u32 v.a) ∧ W.cell? ⟨w.heap.size, 8, none⟩ = some (.int .u32 v.y) ∧ W.cell? ⟨v.b, 1, none⟩ = some (.pointer (some ⟨mb, 0, none⟩)) ∧ Below V.heap.size V W) := fun W kk0 => by
    obtain ⟨x0, x1, x2, x3, x4, x5, x6, x7, x8, k0, k1, k2, k3, k4, k5, k6, k7, kk⟩ := hold_bel r1.out P1.out kk0
    exact ⟨x0, x1, x2, x3, x4, x5, x6, x7, x8, k1, kk⟩
  go_region_held3 (fun W => W.cell? ⟨w.heap.size, 0, none⟩ = some (.pointer (some ⟨v.b, 0, none⟩)) ∧ W.cell? ⟨w.heap.size, 1, none⟩ = some (.int .u8 v.o) ∧ W.cell? ⟨w.heap.size, 2, none⟩ = some (.int .u8 v.d) ∧ W.cell? ⟨w.heap.size, 3, none⟩ = some (.int .u8 v.s) ∧ W.cell? ⟨w.heap.size, 4, none⟩ = some (.int .u8 v.t) ∧ W.cell? ⟨w.heap.size, 5, none⟩ = some (.bool v.ib) ∧ W.cell? ⟨w.heap.size, 6, none⟩ = some (.int .i32 v.n) ∧ W.cell? ⟨w.heap.size, 7, none⟩ = some (.int .u32 v.a) ∧ W.cell? ⟨w.heap.size, 8, none⟩ = some (.int .u32 v.y) ∧ W.cell? ⟨v.b, 1, none⟩ = some (.pointer (some ⟨mb, 0, none⟩)) ∧ Below V.heap.size V W)
    (first
      | exact HS.out _ (Below.refl _ _).drew
      | (go_split_ands; exact HS.out _ (bel_trans (by assumption) gL)))
    (first
      | (go_at_call 269; refine (sum_at v _).mono ?_; rintro e w2 ⟨rfl, gL⟩; have B2 := Lib.hid (bel_trans (Below.refl _ V).drew gL))
      | (go_at_call 152; refine (HR.out _ (P1.out.bel B2.out)).mono ?_; rintro e w3 ⟨rfl, gL⟩; have B3 := Lib.hid (bel_trans B2.out gL))
      | (go_at_call 90; refine (HT.out _ (P1.out.bel B3.out)).mono ?_; rintro e w4 ⟨rfl, gL⟩))
  rename_i hH
  have gH := Lib.hid (hH.2.2.2.2.2.2.2.2.2.2)
  have r4 := Lib.hid (r1.out.bel gH.out)
  have P4 := Lib.hid (P1.out.bel gH.out)
  clear hH
  go_wp2_with (refine x_load rfl _ rfl _ rfl _ v rfl r4.out ?_)
  refine (fail_at v P4.out).mono ?_; rintro e w5 ⟨rfl, P5, g5⟩
  have P5 := Lib.hid P5
  go_wp2_with fail
  go_ret
  exact ⟨rfl, Left.only P5.out (only_trans (only_trans (bel_only b1 _) (bel_only gH.out _)) g5) A.out.gb⟩
set_option maxRecDepth 100000 in
theorem store1_yes (v : XV) (h : MachP w v.b fb mb g x cs os G m) (h0 : 0 ≤ v.d) (h1 : v.d < 32) (ht : thE m.sz ((v.a + v.y) % 4294967296) 1 = 0) :
    Calls Tryz.prog 274 #[.agg (xrow v), .int .i64 1] w fun e w' => Goes w v.b G m ((m.byt (stB m.f ((v.a + v.y) % 4294967296).toNat 1 (m.get v.d))).on) e w' := by
  have A := Lib.hid h
  have hcf : Hid (w.heap.size ≠ fb) := by have := h.lt _ h.gf; unfold Hid; omega
  have hcb : Hid (w.heap.size ≠ v.b) := by have := h.lt _ h.gb; unfold Hid; omega
  have hcg : Hid (w.heap.size ≠ g) := by have := h.lt _ h.gg; unfold Hid; omega
  have HR : Hid (∀ W, MachP W v.b fb mb g x cs os G m → Calls Tryz.prog 152 #[.pointer (some ⟨v.b, 0, none⟩), .int .u8 v.d] W fun e w' => e = .returned (.int .u32 (m.get v.d)) ∧ Below W.heap.size W w') := fun W hW => register_at v.d hW h0 h1
  have HU := h.ok.get v.d
  have hz0 : ((v.a + v.y) % 4294967296) = ((((v.a + v.y) % 4294967296).toNat : Nat) : Int) := by omega
  have HT : Hid (∀ W, MachP W v.b fb mb g x cs os G m → Calls Tryz.prog 90 #[.pointer (some ⟨mb, 0, none⟩), .int .u32 ((v.a + v.y) % 4294967296), .int .i64 1, .int .u32 (m.get v.d)] W fun e w' => e = .returned (.int .i64 0) ∧ MachP w' v.b fb mb g x cs os G (m.byt (stB m.f ((v.a + v.y) % 4294967296).toNat 1 (m.get v.d))) ∧ W.grownBy w' (some g)) := fun W hW => by
    have := stores_at ((v.a + v.y) % 4294967296).toNat 1 (m.get v.d) hW HU (by rw [← hz0]; exact ht)
    rw [← hz0] at this
    exact this
  obtain ⟨u, hu⟩ : ∃ u, u = m.get v.d := ⟨_, rfl⟩
  rw [← hu] at HR HT ⊢
  clear h ht HU hu hz0
  go_enter Tryz.func274, Tryz.ntmps274
  go_upto_region 1 with (refine x_box rfl _ rfl _ rfl v rfl ?_; intro V r1 b1; obtain ⟨x0, x1, x2, x3, x4, x5, x6, x7, x8⟩ := r1.out.all; obtain ⟨k0, k1, k2, k3, k4, k5, k6, k7, k42, k43, k44, k45⟩ := (A.out.bel b1).cells)
  have P1 := Lib.hid (A.out.bel b1)
  go_wp2_with fail
  have HS : Hid (∀ W, V.grownBy W (some g) → W.cell? ⟨w.heap.size, 0, none⟩ = some (.pointer (some ⟨v.b, 0, none⟩)) ∧ W.cell? ⟨w.heap.size, 1, none⟩ = some (.int .u8 v.o) ∧ W.cell? ⟨w.heap.size, 2, none⟩ = some (.int .u8 v.d) ∧ W.cell? ⟨w.heap.size, 3, none⟩ = some (.int .u8 v.s) ∧ W.cell? ⟨w.heap.size, 4, none⟩ = some (.int .u8 v.t) ∧ W.cell? ⟨w.heap.size, 5, none⟩ = some (.bool v.ib) ∧ W.cell? ⟨w.heap.size, 6, none⟩ = some (.int .i32 v.n) ∧ W.cell? ⟨w.heap.size, 7, none⟩ = some (.int .u32 v.a) ∧ W.cell? ⟨w.heap.size, 8, none⟩ = some (.int .u32 v.y) ∧ W.cell? ⟨v.b, 1, none⟩ = some (.pointer (some ⟨mb, 0, none⟩)) ∧ V.grownBy W (some g)) := fun W kk0 => by
    obtain ⟨x0, x1, x2, x3, x4, x5, x6, x7, x8, k0, k1, k2, k3, k4, k5, k6, k7, kk⟩ := hold_only r1.out P1.out hcg.out P1.out.bg kk0
    exact ⟨x0, x1, x2, x3, x4, x5, x6, x7, x8, k1, kk⟩
  go_region_held3 (fun W => W.cell? ⟨w.heap.size, 0, none⟩ = some (.pointer (some ⟨v.b, 0, none⟩)) ∧ W.cell? ⟨w.heap.size, 1, none⟩ = some (.int .u8 v.o) ∧ W.cell? ⟨w.heap.size, 2, none⟩ = some (.int .u8 v.d) ∧ W.cell? ⟨w.heap.size, 3, none⟩ = some (.int .u8 v.s) ∧ W.cell? ⟨w.heap.size, 4, none⟩ = some (.int .u8 v.t) ∧ W.cell? ⟨w.heap.size, 5, none⟩ = some (.bool v.ib) ∧ W.cell? ⟨w.heap.size, 6, none⟩ = some (.int .i32 v.n) ∧ W.cell? ⟨w.heap.size, 7, none⟩ = some (.int .u32 v.a) ∧ W.cell? ⟨w.heap.size, 8, none⟩ = some (.int .u32 v.y) ∧ W.cell? ⟨v.b, 1, none⟩ = some (.pointer (some ⟨mb, 0, none⟩)) ∧ V.grownBy W (some g))
    (first
      | exact HS.out _ (bel_only (Below.refl _ _).drew _)
      | (go_split_ands; exact HS.out _ (only_trans (by assumption) (bel_only gL _)))
      | (go_split_ands; exact HS.out _ (only_trans (by assumption) gW)))
    (first
      | (go_at_call 269; refine (sum_at v _).mono ?_; rintro e w2 ⟨rfl, gL⟩; have B2 := Lib.hid (bel_trans (Below.refl _ V).drew gL))
      | (go_at_call 152; refine (HR.out _ (P1.out.bel B2.out)).mono ?_; rintro e w3 ⟨rfl, gL⟩; have B3 := Lib.hid (bel_trans B2.out gL))
      | (go_at_call 90; refine (HT.out _ (P1.out.bel B3.out)).mono ?_; rintro e w4 ⟨rfl, P4, gW⟩; have P4 := Lib.hid P4))
  rename_i hH
  have gH := Lib.hid (hH.2.2.2.2.2.2.2.2.2.2)
  have r4 := Lib.hid (r1.out.only gH.out hcg.out)
  clear hH
  go_wp2_with (refine x_load rfl _ rfl _ rfl _ v rfl r4.out ?_)
  refine (following_at v P4.out).mono ?_; rintro e w5 ⟨rfl, g5⟩
  have P5 := Lib.hid (P4.out.bel g5)
  go_wp2_with fail
  go_ret
  exact ⟨rfl, Left.only P5.out (only_trans (only_trans (bel_only b1 _) gH.out) (bel_only g5 _)) A.out.gg⟩
set_option maxRecDepth 100000 in
theorem store1_no (v : XV) (h : MachP w v.b fb mb g x cs os G m) (h0 : 0 ≤ v.d) (h1 : v.d < 32) (ht : thE m.sz ((v.a + v.y) % 4294967296) 1 ≠ 0) :
    Calls Tryz.prog 274 #[.agg (xrow v), .int .i64 1] w fun e w' => Goes w v.b G m (m.stp 3 0) e w' := by
  have A := Lib.hid h
  have hcf : Hid (w.heap.size ≠ fb) := by have := h.lt _ h.gf; unfold Hid; omega
  have hcb : Hid (w.heap.size ≠ v.b) := by have := h.lt _ h.gb; unfold Hid; omega
  have hcg : Hid (w.heap.size ≠ g) := by have := h.lt _ h.gg; unfold Hid; omega
  have HR : Hid (∀ W, MachP W v.b fb mb g x cs os G m → Calls Tryz.prog 152 #[.pointer (some ⟨v.b, 0, none⟩), .int .u8 v.d] W fun e w' => e = .returned (.int .u32 (m.get v.d)) ∧ Below W.heap.size W w') := fun W hW => register_at v.d hW h0 h1
  have HT : Hid (∀ W, MachP W v.b fb mb g x cs os G m → Calls Tryz.prog 90 #[.pointer (some ⟨mb, 0, none⟩), .int .u32 ((v.a + v.y) % 4294967296), .int .i64 1, .int .u32 (m.get v.d)] W fun e w' => e = .returned (.int .i64 (thE m.sz ((v.a + v.y) % 4294967296) 1)) ∧ Below W.heap.size W w') := fun W hW => stores_no ((v.a + v.y) % 4294967296) 1 (m.get v.d) hW (w32_mod _) ht
  obtain ⟨u, hu⟩ : ∃ u, u = m.get v.d := ⟨_, rfl⟩
  obtain ⟨er, her⟩ : ∃ er, er = thE m.sz ((v.a + v.y) % 4294967296) 1 := ⟨_, rfl⟩
  have her' : (er != 0) = true := by simpa [her] using ht
  rw [← hu] at HR HT
  rw [← her] at HT
  clear h ht hu her
  go_enter Tryz.func274, Tryz.ntmps274
  go_upto_region 1 with (refine x_box rfl _ rfl _ rfl v rfl ?_; intro V r1 b1; obtain ⟨x0, x1, x2, x3, x4, x5, x6, x7, x8⟩ := r1.out.all; obtain ⟨k0, k1, k2, k3, k4, k5, k6, k7, k42, k43, k44, k45⟩ := (A.out.bel b1).cells)
  have P1 := Lib.hid (A.out.bel b1)
  go_wp2_with fail
  have HS : Hid (∀ W, Below V.heap.size V W → W.cell? ⟨w.heap.size, 0, none⟩ = some (.pointer (some ⟨v.b, 0, none⟩)) ∧ W.cell? ⟨w.heap.size, 1, none⟩ = some (.int .u8 v.o) ∧ W.cell? ⟨w.heap.size, 2, none⟩ = some (.int .u8 v.d) ∧ W.cell? ⟨w.heap.size, 3, none⟩ = some (.int .u8 v.s) ∧ W.cell? ⟨w.heap.size, 4, none⟩ = some (.int .u8 v.t) ∧ W.cell? ⟨w.heap.size, 5, none⟩ = some (.bool v.ib) ∧ W.cell? ⟨w.heap.size, 6, none⟩ = some (.int .i32 v.n) ∧ W.cell? ⟨w.heap.size, 7, none⟩ = some (.int .u32 v.a) ∧ W.cell? ⟨w.heap.size, 8, none⟩ = some (.int .u32 v.y) ∧ W.cell? ⟨v.b, 1, none⟩ = some (.pointer (some ⟨mb, 0, none⟩)) ∧ Below V.heap.size V W) := fun W kk0 => by
    obtain ⟨x0, x1, x2, x3, x4, x5, x6, x7, x8, k0, k1, k2, k3, k4, k5, k6, k7, kk⟩ := hold_bel r1.out P1.out kk0
    exact ⟨x0, x1, x2, x3, x4, x5, x6, x7, x8, k1, kk⟩
  go_region_held3 (fun W => W.cell? ⟨w.heap.size, 0, none⟩ = some (.pointer (some ⟨v.b, 0, none⟩)) ∧ W.cell? ⟨w.heap.size, 1, none⟩ = some (.int .u8 v.o) ∧ W.cell? ⟨w.heap.size, 2, none⟩ = some (.int .u8 v.d) ∧ W.cell? ⟨w.heap.size, 3, none⟩ = some (.int .u8 v.s) ∧ W.cell? ⟨w.heap.size, 4, none⟩ = some (.int .u8 v.t) ∧ W.cell? ⟨w.heap.size, 5, none⟩ = some (.bool v.ib) ∧ W.cell? ⟨w.heap.size, 6, none⟩ = some (.int .i32 v.n) ∧ W.cell? ⟨w.heap.size, 7, none⟩ = some (.int .u32 v.a) ∧ W.cell? ⟨w.heap.size, 8, none⟩ = some (.int .u32 v.y) ∧ W.cell? ⟨v.b, 1, none⟩ = some (.pointer (some ⟨mb, 0, none⟩)) ∧ Below V.heap.size V W)
    (first
      | exact HS.out _ (Below.refl _ _).drew
      | (go_split_ands; exact HS.out _ (bel_trans (by assumption) gL)))
    (first
      | (go_at_call 269; refine (sum_at v _).mono ?_; rintro e w2 ⟨rfl, gL⟩; have B2 := Lib.hid (bel_trans (Below.refl _ V).drew gL))
      | (go_at_call 152; refine (HR.out _ (P1.out.bel B2.out)).mono ?_; rintro e w3 ⟨rfl, gL⟩; have B3 := Lib.hid (bel_trans B2.out gL))
      | (go_at_call 90; refine (HT.out _ (P1.out.bel B3.out)).mono ?_; rintro e w4 ⟨rfl, gL⟩))
  rename_i hH
  have gH := Lib.hid (hH.2.2.2.2.2.2.2.2.2.2)
  have r4 := Lib.hid (r1.out.bel gH.out)
  have P4 := Lib.hid (P1.out.bel gH.out)
  clear hH
  go_wp2_with (refine x_load rfl _ rfl _ rfl _ v rfl r4.out ?_)
  refine (fail_at v P4.out).mono ?_; rintro e w5 ⟨rfl, P5, g5⟩
  have P5 := Lib.hid P5
  go_wp2_with fail
  go_ret
  exact ⟨rfl, Left.only P5.out (only_trans (only_trans (bel_only b1 _) (bel_only gH.out _)) g5) A.out.gb⟩
theorem choose_none (v : XV) (h : MachP w v.b fb mb g x cs os G m) (h0 : 0 ≤ v.d) (h1 : v.d < 32) (hc : m.cl = 0) :
    Calls Tryz.prog 225 #[.agg (xrow v)] w fun e w' => Goes w v.b G m ((m.set v.d 0).on) e w' := by
  have A := Lib.hid h
  obtain ⟨p, c, hs, _⟩ := h.chs
  rw [hc] at hs
  have HS := Lib.hid hs
  clear h hc hs
  go_enter Tryz.func225, Tryz.ntmps225
  go_upto_region 1 with (refine x_box rfl _ rfl _ rfl v rfl ?_; intro V r1 b1; obtain ⟨x0, x1, x2, x3, x4, x5, x6, x7, x8⟩ := r1.out.all; obtain ⟨k0, k1, k2, k3, k4, k5, k6, k7, k42, k43, k44, k45⟩ := (A.out.bel b1).cells; rw [HS.out] at k42)
  have P1 := Lib.hid (A.out.bel b1)
  go_wp2_with (refine x_load rfl _ rfl _ rfl _ v rfl r1.out ?_)
  refine (result_at v 0 P1.out h0 h1 ⟨by decide, by decide⟩).mono ?_; rintro e w2 ⟨rfl, P2, g2⟩
  have P2 := Lib.hid P2
  go_wp2_with fail
  go_ret
  exact ⟨rfl, Left.only P2.out (only_trans (bel_only b1 _) g2) A.out.gf⟩
/-- The choices without the first one. -/
theorem MachP.dropped {w : World} {s : Value} (h : MachP w b fb mb g x cs os G m) (hc : CsAt w s x (m.cl - 1) (fun i => m.ch (i + 1))) (h1 : 0 < m.cl) :
    MachP (w.setCell ⟨b, 42, none⟩ s) b fb mb g x s os G m.drop ∧ w.grownBy (w.setCell ⟨b, 42, none⟩ s) (some b) := by
  have g2 : w.grownBy (w.setCell ⟨b, 42, none⟩ s) (some b) := (h.store 42 s).2
  obtain ⟨_, k1, k2, k3, k4, k5, k6, k7⟩ := h.but g2 h.box (by decide) h.gb
  have hb := (h.store 42 s).1
  rw [put_cs _ _ _ _ m s m.drop (fun _ => rfl)] at hb
  refine ⟨{ h with box := hb, file := k1 h.bf, mbox := k2 h.bm, row := k3 h.bg, chs := ?_, outs := k5, gx := fun _ => h.gx h1, go := fun j hj => ⟨(h.go j hj).1, fun _ => (h.go j hj).2 h1⟩, lt := k6, tab := k7, ok := h.ok.drop }, g2⟩
  refine hc.same fun hn => g2.block x (h.lt _ (h.gx h1)) fun e => ?_
  injection e with e
  exact not_words h.box (by decide) (h.chs.typ h1) e
set_option maxRecDepth 100000 in
theorem choose_some (v : XV) (h : MachP w v.b fb mb g x cs os G m) (h0 : 0 ≤ v.d) (h1 : v.d < 32) (hc : 0 < m.cl) :
    Calls Tryz.prog 225 #[.agg (xrow v)] w fun e w' => Goes w v.b G m ((m.drop.set v.d (m.ch 0)).on) e w' := by
  have A := Lib.hid h
  have hcf : Hid (w.heap.size ≠ fb) := by have := h.lt _ h.gf; unfold Hid; omega
  have hcb : Hid (w.heap.size ≠ v.b) := by have := h.lt _ h.gb; unfold Hid; omega
  have hcg : Hid (w.heap.size ≠ g) := by have := h.lt _ h.gg; unfold Hid; omega
  obtain ⟨p, c, hs, hnc, hp⟩ := h.chs
  obtain ⟨o, cur, rfl, hrow, hcur⟩ := hp hc
  have HS := Lib.hid hs
  have HU := h.ok.ch 0
  obtain ⟨u, hu⟩ : ∃ u, u = m.ch 0 := ⟨_, rfl⟩
  have hc0 : Hid (∀ W, Below w.heap.size w W → W.cell? ⟨x, o, none⟩ = some (.int .u32 u)) := fun W hW => by
    have := row_cell (bel_heap hW hrow) (hcur 0 hc)
    rw [Nat.add_zero, ← hu] at this
    exact this
  obtain ⟨n, hn⟩ : ∃ n, n = m.cl := ⟨_, rfl⟩
  have hC : Hid (∀ W p', (n - 1 = 0 ∨ p' = some ⟨x, o + 1, none⟩) → Below w.heap.size w W → CsAt W (.slice p' (n - 1) (c - 1)) x (m.cl - 1) (fun i => m.ch (i + 1))) := fun W p' hp' hW => by
    refine ⟨p', c - 1, by rw [hn], by omega, fun h2 => ?_⟩
    rcases hp' with hp' | rfl
    · omega
    · exact ⟨o + 1, cur, rfl, bel_heap hW hrow, fun i hi => by rw [show o + 1 + i = o + (i + 1) by omega]; exact hcur (i + 1) (by omega)⟩
  rw [← hu] at HU ⊢
  rw [← hn] at HS hnc
  have HU := Lib.hid HU
  have hn0 : 0 < n := by omega
  have hne : ((n : Int) == 0) = false := by simp; omega
  have h1n : (1 : Int) ≤ n := by omega
  have hq : Hid (n - 1 = 0 ∨ (if c = 1 then some (⟨x, o, none⟩ : Addr) else some ⟨x, o + 1, none⟩) = some ⟨x, o + 1, none⟩) := by
    unfold Hid; by_cases e : c = 1
    · left; omega
    · right; rw [if_neg e]
  have H1 := Lib.hid hc
  clear h hs hp hcur hrow hu hn hc
  go_enter Tryz.func225, Tryz.ntmps225
  go_upto_region 1 with (refine x_box rfl _ rfl _ rfl v rfl ?_; intro V r1 b1; obtain ⟨x0, x1, x2, x3, x4, x5, x6, x7, x8⟩ := r1.out.all; obtain ⟨k0, k1, k2, k3, k4, k5, k6, k7, k42, k43, k44, k45⟩ := (A.out.bel b1).cells; rw [HS.out] at k42; have c0 := hc0.out _ b1)
  have P1 := Lib.hid (A.out.bel b1)
  go_wp2_with fail
  go_still_tail 10, (by kernel_rfl)
  change wpList _ _ _ _ _ V.drew
  have gd : Below V.heap.size V V.drew := (Below.refl _ _).drew
  have P2 := Lib.hid (P1.out.bel gd)
  have r2 := Lib.hid (r1.out.bel gd)
  have b2 := Lib.hid (bel_trans b1 gd)
  have k42' := P2.out.cells.2.2.2.2.2.2.2.2.1
  have f42 := P2.out.frozen 42
  have C2 := hC.out _ _ hq.out b2.out
  obtain ⟨P3, g3⟩ := P2.out.dropped C2 H1.out
  have P3 := Lib.hid P3
  have g3 := Lib.hid g3
  clear P1 r1 b1 gd hC hq C2 hc0
  generalize (if c = 1 then some (⟨x, o, none⟩ : Addr) else some ⟨x, o + 1, none⟩) = q at *
  generalize V.drew = V2 at *
  have r3 := Lib.hid (r2.out.only g3.out hcb.out)
  go_wp2_with (refine x_load rfl _ rfl _ rfl _ v rfl r3.out ?_)
  refine (result_at v u P3.out h0 h1 HU.out).mono ?_; rintro e w4 ⟨rfl, P4, g4⟩
  have P4 := Lib.hid P4
  go_wp2_with fail
  go_ret
  refine ⟨rfl, G, P4.out.b, ?_, fun i hi => .inl hi⟩
  exact (Turns.of_only (G := G) (only_trans (bel_only b2.out _) g3.out) A.out.gb).trans (Turns.of_only (G := G) g4 A.out.gf) (fun i hi => .inl hi)
end
end Go.Proofs.YtiobgnelhiadbaaGreatDoor.K6
