/- Package mach as it has landed: methods of an instruction that is executed (writeState, goBack). Package mach as it has landed: methods of an instruction that is executed (goBack in a bank). -/
import Derived.Test.YtiobgnelhiadbaaGreatDoorVMachGB
import Derived.Test.YtiobgnelhiadbaaGreatDoorVBaseG
namespace Go.Proofs.YtiobgnelhiadbaaGreatDoor.K6
open Go.RowKit
set_option linter.unusedVariables false
section
variable {w : World} {b fb mb g x : Nat} {cs os : Value} {G : Nat → Prop} {m : MS}
theorem bel_al {a w : World} {o : Obj} (h : Below a.heap.size a w) : Below a.heap.size a (w.alloc o) := h.alloc h.size o
/-- The state becomes another one. -/
theorem MachP.stated {w : World} (h : MachP w b fb mb g x cs os G m) {u : Int} (hu : W32 u) (hs : wst u m.nw = true) :
    MachP ((((w.setCell ⟨b, 3, none⟩ (.int .u8 (u % 32))).setCell ⟨b, 4, none⟩ (.int .u8 (u / 32 % 16))).setCell ⟨b, 5, none⟩ (.int .u8 (u / 512 % 32))).setCell ⟨b, 6, none⟩ (.int .u8 (u / 16384 % 16))) b fb mb g x cs os G (m.psr u) ∧
    w.grownBy ((((w.setCell ⟨b, 3, none⟩ (.int .u8 (u % 32))).setCell ⟨b, 4, none⟩ (.int .u8 (u / 32 % 16))).setCell ⟨b, 5, none⟩ (.int .u8 (u / 512 % 32))).setCell ⟨b, 6, none⟩ (.int .u8 (u / 16384 % 16))) (some b) := by
  have g3 := only_cell (only_cell (only_cell (only_cell (b := b) (u := w) (w := w) ⟨rfl, rfl, rfl, Nat.le_refl _, fun _ _ _ => rfl⟩ 3 (.int .u8 (u % 32))) 4 (.int .u8 (u / 32 % 16))) 5 (.int .u8 (u / 512 % 32))) 6 (.int .u8 (u / 16384 % 16))
  have B := (((h.box.set 3 (.int .u8 (u % 32))).set 4 (.int .u8 (u / 32 % 16))).set 5 (.int .u8 (u / 512 % 32))).set 6 (.int .u8 (u / 16384 % 16))
  rw [put_cwp, put_pil, put_bank, put_fl] at B
  exact ⟨h.boxed g3 B ⟨rfl, rfl, rfl, rfl, rfl, rfl, rfl, rfl⟩ (h.ok.psr hu hs), g3⟩
/-- What Unpack answers of a word. -/
theorem unpack_yes (h : MachP w b fb mb g x cs os G m) {u : Int} (hu : W32 u) (hs : wst u m.nw = true) (W : World) :
    Calls Tryz.prog 275 #[.int .u32 u, .int .i64 m.nw] W fun e w' => e = .returned (.tuple #[.agg #[.int .u8 (u % 32), .int .u8 (u / 32 % 16), .int .u8 (u / 512 % 32), .int .u8 (u / 16384 % 16)], .int .i64 0]) ∧ Below W.heap.size W w' := by
  have := (wst_iff h.ok.n2 h.ok.n32).1 hs
  exact P4.Unpack_yes u m.nw W ⟨hu.1, this.1⟩ this.2
theorem unpack_no (h : MachP w b fb mb g x cs os G m) {u : Int} (hu : W32 u) (hs : wst u m.nw = false) (W : World) :
    Calls Tryz.prog 275 #[.int .u32 u, .int .i64 m.nw] W fun e w' => e = .returned (.tuple #[.agg #[.int .u8 0, .int .u8 0, .int .u8 0, .int .u8 0], .int .i64 5]) ∧ Below W.heap.size W w' :=
  P4.Unpack_form u m.nw W h.ok.n2 h.ok.n32 hu (fun e => by have := (wst_iff h.ok.n2 h.ok.n32).2 e; rw [hs] at this; cases this)
theorem psr_end {w7 : World} {u : Int} (h : MachP w7 b fb mb g x cs os G (m.psr u)) (k : w.grownBy w7 (some b)) (hb : G b) : Left w b G ((m.psr u).on.jmp m.pc) w7 := by
  have e : (m.psr u).on.jmp m.pc = m.psr u := by cases m; rfl
  rw [e]
  exact Left.only h k hb
set_option maxRecDepth 100000 in
set_option maxHeartbeats 6000000 in
theorem writeState_yes (v : XV) (h : MachP w v.b fb mb g x cs os G m) (hs : wst ((v.a + v.y) % 4294967296) m.nw = true) :
    Calls Tryz.prog 218 #[.agg (xrow v)] w fun e w' => Goes w v.b G m ((m.psr ((v.a + v.y) % 4294967296)).on) e w' := by
  have A := Lib.hid h
  have hcf : Hid (w.heap.size ≠ fb) := by have := h.lt _ h.gf; unfold Hid; omega
  have hcb : Hid (w.heap.size ≠ v.b) := by have := h.lt _ h.gb; unfold Hid; omega
  have hcg : Hid (w.heap.size ≠ g) := by have := h.lt _ h.gg; unfold Hid; omega
  have HW0 := w32_mod (v.a + v.y)
  have HN : Hid (∀ W, Calls Tryz.prog 275 #[.int .u32 (((v.a + v.y) % 4294967296)), .int .i64 m.nw] W fun e w' => e = .returned (.tuple #[.agg #[.int .u8 ((((v.a + v.y) % 4294967296)) % 32), .int .u8 ((((v.a + v.y) % 4294967296)) / 32 % 16), .int .u8 ((((v.a + v.y) % 4294967296)) / 512 % 32), .int .u8 ((((v.a + v.y) % 4294967296)) / 16384 % 16)], .int .i64 0]) ∧ Below W.heap.size W w') := fun W => unpack_yes h HW0 hs W
  have HF : Hid (∀ W, MachP W v.b fb mb g x cs os G m → MachP ((((W.setCell ⟨v.b, 3, none⟩ (.int .u8 ((((v.a + v.y) % 4294967296)) % 32))).setCell ⟨v.b, 4, none⟩ (.int .u8 ((((v.a + v.y) % 4294967296)) / 32 % 16))).setCell ⟨v.b, 5, none⟩ (.int .u8 ((((v.a + v.y) % 4294967296)) / 512 % 32))).setCell ⟨v.b, 6, none⟩ (.int .u8 ((((v.a + v.y) % 4294967296)) / 16384 % 16))) v.b fb mb g x cs os G (m.psr (((v.a + v.y) % 4294967296))) ∧ W.grownBy ((((W.setCell ⟨v.b, 3, none⟩ (.int .u8 ((((v.a + v.y) % 4294967296)) % 32))).setCell ⟨v.b, 4, none⟩ (.int .u8 ((((v.a + v.y) % 4294967296)) / 32 % 16))).setCell ⟨v.b, 5, none⟩ (.int .u8 ((((v.a + v.y) % 4294967296)) / 512 % 32))).setCell ⟨v.b, 6, none⟩ (.int .u8 ((((v.a + v.y) % 4294967296)) / 16384 % 16))) (some v.b)) := fun W hW => hW.stated HW0 hs
  generalize (((v.a + v.y) % 4294967296)) % 32 = p0 at HN HF
  generalize (((v.a + v.y) % 4294967296)) / 32 % 16 = p1 at HN HF
  generalize (((v.a + v.y) % 4294967296)) / 512 % 32 = p2 at HN HF
  generalize (((v.a + v.y) % 4294967296)) / 16384 % 16 = p3 at HN HF
  have HM : Hid (∀ W, Calls Tryz.prog 269 #[.agg (xrow v)] W fun e w' => e = .returned (.int .u32 ((v.a + v.y) % 4294967296)) ∧ Below W.heap.size W w') := fun W => sum_at v W
  obtain ⟨u, hu⟩ : ∃ u, u = ((v.a + v.y) % 4294967296) := ⟨_, rfl⟩
  rw [← hu] at HN HM HF ⊢
  clear h hs hu HW0
  go_enter Tryz.func218, Tryz.ntmps218
  go_upto_region 1 with (refine x_box rfl _ rfl _ rfl v rfl ?_; intro V r1 b1; obtain ⟨x0, x1, x2, x3, x4, x5, x6, x7, x8⟩ := r1.out.all; obtain ⟨k0, k1, k2, k3, k4, k5, k6, k7, k42, k43, k44, k45⟩ := (A.out.bel b1).cells)
  have P1 := Lib.hid (A.out.bel b1)
  go_wp2_with fail
  have HS : Hid (∀ W, Below V.heap.size V W → W.cell? ⟨w.heap.size, 0, none⟩ = some (.pointer (some ⟨v.b, 0, none⟩)) ∧ W.cell? ⟨w.heap.size, 1, none⟩ = some (.int .u8 v.o) ∧ W.cell? ⟨w.heap.size, 2, none⟩ = some (.int .u8 v.d) ∧ W.cell? ⟨w.heap.size, 3, none⟩ = some (.int .u8 v.s) ∧ W.cell? ⟨w.heap.size, 4, none⟩ = some (.int .u8 v.t) ∧ W.cell? ⟨w.heap.size, 5, none⟩ = some (.bool v.ib) ∧ W.cell? ⟨w.heap.size, 6, none⟩ = some (.int .i32 v.n) ∧ W.cell? ⟨w.heap.size, 7, none⟩ = some (.int .u32 v.a) ∧ W.cell? ⟨w.heap.size, 8, none⟩ = some (.int .u32 v.y) ∧ W.cell? ⟨v.b, 0, none⟩ = some (.pointer (some ⟨fb, 0, none⟩)) ∧ Below V.heap.size V W) := fun W kk0 => by
    obtain ⟨x0, x1, x2, x3, x4, x5, x6, x7, x8, k0, k1, k2, k3, k4, k5, k6, k7, kk⟩ := hold_bel r1.out P1.out kk0
    exact ⟨x0, x1, x2, x3, x4, x5, x6, x7, x8, k0, kk⟩
  go_region_held3 (fun W => W.cell? ⟨w.heap.size, 0, none⟩ = some (.pointer (some ⟨v.b, 0, none⟩)) ∧ W.cell? ⟨w.heap.size, 1, none⟩ = some (.int .u8 v.o) ∧ W.cell? ⟨w.heap.size, 2, none⟩ = some (.int .u8 v.d) ∧ W.cell? ⟨w.heap.size, 3, none⟩ = some (.int .u8 v.s) ∧ W.cell? ⟨w.heap.size, 4, none⟩ = some (.int .u8 v.t) ∧ W.cell? ⟨w.heap.size, 5, none⟩ = some (.bool v.ib) ∧ W.cell? ⟨w.heap.size, 6, none⟩ = some (.int .i32 v.n) ∧ W.cell? ⟨w.heap.size, 7, none⟩ = some (.int .u32 v.a) ∧ W.cell? ⟨w.heap.size, 8, none⟩ = some (.int .u32 v.y) ∧ W.cell? ⟨v.b, 0, none⟩ = some (.pointer (some ⟨fb, 0, none⟩)) ∧ Below V.heap.size V W)
    (first
      | exact HS.out _ (Below.refl _ _).drew
      | (go_split_ands; exact HS.out _ (bel_trans (by assumption) gL))
      | (go_split_ands; exact HS.out _ (bel_al (by assumption)))
      | (go_split_ands; exact HS.out _ (bel_al L4.out))
      | (go_split_ands; exact HS.out _ (put4_bel (by assumption) (by first | exact Nat.le_refl _ | exact L2.out.size | exact L3.out.size | exact L4.out.size))))
    (first
      | (go_at_call 269; go_split_ands; refine (HM.out _).mono ?_; rintro e w2 ⟨rfl, g2⟩; have gL := g2; have L2 := Lib.hid (bel_trans (by assumption : Below V.heap.size V _) g2))
      | (go_at_call 127; go_split_ands; refine ((P1.out.bel (by assumption)).nw_at).mono ?_; rintro e w3 ⟨rfl, g3⟩; have gL := g3; have L3 := Lib.hid (bel_trans (by assumption : Below V.heap.size V _) g3))
      | (go_at_call 275; go_split_ands; refine (HN.out _).mono ?_; rintro e w4 ⟨rfl, g4⟩; have gL := g4; have L4 := Lib.hid (bel_trans (by assumption : Below V.heap.size V _) g4); (first | (have R := Lib.hid (bel_heap g4 (heap_alloc_last w3 (.cells #[.int .u8 0, .int .u8 0, .int .u8 0, .int .u8 0] 24))); obtain ⟨⟨y0, y1, y2, y3⟩, ⟨z0, z1, z2, z3⟩⟩ := four_at R.out) | (have R := Lib.hid (bel_heap g4 (bel_heap g3 (heap_alloc_last w2 (.cells #[.int .u8 0, .int .u8 0, .int .u8 0, .int .u8 0] 24)))); obtain ⟨⟨y0, y1, y2, y3⟩, ⟨z0, z1, z2, z3⟩⟩ := four_at R.out) | (have R := Lib.hid ((show w4.heap[V.heap.size]? = some (.cells #[.int .u8 0, .int .u8 0, .int .u8 0, .int .u8 0] 24 (0, 0)) from bel_heap g4 (bel_heap g3 (bel_heap g2 (heap_alloc_last V.drew (.cells #[.int .u8 0, .int .u8 0, .int .u8 0, .int .u8 0] 24)))))); obtain ⟨⟨y0, y1, y2, y3⟩, ⟨z0, z1, z2, z3⟩⟩ := four_at R.out) | skip)))
  all_goals clear HS
  · rename_i hH
    have gH : Hid (Below V.heap.size V (w4.alloc (.cells #[.int .u8 p0, .int .u8 p1, .int .u8 p2, .int .u8 p3] 24))) := hH.2.2.2.2.2.2.2.2.2.2
    have RZ : Hid ((w4.alloc (.cells #[.int .u8 p0, .int .u8 p1, .int .u8 p2, .int .u8 p3] 24)).heap[w4.heap.size]? = some (.cells #[.int .u8 p0, .int .u8 p1, .int .u8 p2, .int .u8 p3] 24 (0, 0))) := heap_alloc_last _ _
    clear hH
    generalize (w4.alloc (.cells #[.int .u8 p0, .int .u8 p1, .int .u8 p2, .int .u8 p3] 24)) = V5 at *
    have P5 := Lib.hid (P1.out.bel gH.out)
    have r5 := Lib.hid (r1.out.bel gH.out)
    have b5 := Lib.hid (bel_trans b1 gH.out)
    clear P1 r1 b1 gH x0 x1 x2 x3 x4 x5 x6 x7 x8 k0 k1 k2 k3 k4 k5 k6 k7 k42 k43 k44 k45
    obtain ⟨⟨y0, y1, y2, y3⟩, _⟩ := four_at RZ.out
    obtain ⟨x0, _⟩ := r5.out.all
    obtain ⟨_, _, _, k3, k4, k5, k6, _⟩ := P5.out.cells
    have f3 := P5.out.frozen 3
    have f4 := P5.out.frozen 4
    have f5 := P5.out.frozen 5
    have f6 := P5.out.frozen 6
    obtain ⟨P6, g6⟩ := HF.out _ P5.out
    replace P6 := Lib.hid P6
    replace g6 := Lib.hid g6
    have r6 := Lib.hid (r5.out.only g6.out hcb.out)
    go_upto_region 5 with (fail)
    clear y0 y1 y2 y3 k3 k4 k5 k6 f3 f4 f5 f6 x0 RZ HF
    generalize ((((V5.setCell ⟨v.b, 3, none⟩ (.int .u8 p0)).setCell ⟨v.b, 4, none⟩ (.int .u8 p1)).setCell ⟨v.b, 5, none⟩ (.int .u8 p2)).setCell ⟨v.b, 6, none⟩ (.int .u8 p3)) = V6 at P6 g6 r6 ⊢
    have B6 := Lib.hid (only_trans (bel_only b5.out v.b) g6.out)
    clear P5 r5 b5 g6
    go_wp2_with (refine x_load rfl _ rfl _ rfl _ v rfl r6.out ?_)
    refine (following_at v P6.out).mono ?_; rintro e w7 ⟨rfl, g7⟩
    have P7 := Lib.hid (P6.out.bel g7)
    have B7 := Lib.hid (only_trans B6.out (bel_only g7 _))
    clear g7 P6 r6 B6
    go_wp2_with fail
    go_ret
    exact ⟨rfl, psr_end P7.out B7.out A.out.gb⟩
  · rename_i hH
    have gH : Hid (Below V.heap.size V ((((w4.setCell ⟨w3.heap.size, 0, none⟩ (.int .u8 p0)).setCell ⟨w3.heap.size, 1, none⟩ (.int .u8 p1)).setCell ⟨w3.heap.size, 2, none⟩ (.int .u8 p2)).setCell ⟨w3.heap.size, 3, none⟩ (.int .u8 p3))) := hH.2.2.2.2.2.2.2.2.2.2
    have RZ : Hid (((((w4.setCell ⟨w3.heap.size, 0, none⟩ (.int .u8 p0)).setCell ⟨w3.heap.size, 1, none⟩ (.int .u8 p1)).setCell ⟨w3.heap.size, 2, none⟩ (.int .u8 p2)).setCell ⟨w3.heap.size, 3, none⟩ (.int .u8 p3)).heap[w3.heap.size]? = some (.cells #[.int .u8 p0, .int .u8 p1, .int .u8 p2, .int .u8 p3] 24 (0, 0))) := put4_row R.out
    clear hH
    generalize ((((w4.setCell ⟨w3.heap.size, 0, none⟩ (.int .u8 p0)).setCell ⟨w3.heap.size, 1, none⟩ (.int .u8 p1)).setCell ⟨w3.heap.size, 2, none⟩ (.int .u8 p2)).setCell ⟨w3.heap.size, 3, none⟩ (.int .u8 p3)) = V5 at *
    have P5 := Lib.hid (P1.out.bel gH.out)
    have r5 := Lib.hid (r1.out.bel gH.out)
    have b5 := Lib.hid (bel_trans b1 gH.out)
    clear P1 r1 b1 gH x0 x1 x2 x3 x4 x5 x6 x7 x8 k0 k1 k2 k3 k4 k5 k6 k7 k42 k43 k44 k45
    obtain ⟨⟨y0, y1, y2, y3⟩, _⟩ := four_at RZ.out
    obtain ⟨x0, _⟩ := r5.out.all
    obtain ⟨_, _, _, k3, k4, k5, k6, _⟩ := P5.out.cells
    have f3 := P5.out.frozen 3
    have f4 := P5.out.frozen 4
    have f5 := P5.out.frozen 5
    have f6 := P5.out.frozen 6
    obtain ⟨P6, g6⟩ := HF.out _ P5.out
    replace P6 := Lib.hid P6
    replace g6 := Lib.hid g6
    have r6 := Lib.hid (r5.out.only g6.out hcb.out)
    go_upto_region 5 with (fail)
    clear y0 y1 y2 y3 k3 k4 k5 k6 f3 f4 f5 f6 x0 RZ HF
    generalize ((((V5.setCell ⟨v.b, 3, none⟩ (.int .u8 p0)).setCell ⟨v.b, 4, none⟩ (.int .u8 p1)).setCell ⟨v.b, 5, none⟩ (.int .u8 p2)).setCell ⟨v.b, 6, none⟩ (.int .u8 p3)) = V6 at P6 g6 r6 ⊢
    have B6 := Lib.hid (only_trans (bel_only b5.out v.b) g6.out)
    clear P5 r5 b5 g6
    go_wp2_with (refine x_load rfl _ rfl _ rfl _ v rfl r6.out ?_)
    refine (following_at v P6.out).mono ?_; rintro e w7 ⟨rfl, g7⟩
    have P7 := Lib.hid (P6.out.bel g7)
    have B7 := Lib.hid (only_trans B6.out (bel_only g7 _))
    clear g7 P6 r6 B6
    go_wp2_with fail
    go_ret
    exact ⟨rfl, psr_end P7.out B7.out A.out.gb⟩
  · rename_i hH
    have gH : Hid (Below V.heap.size V ((((w4.setCell ⟨w2.heap.size, 0, none⟩ (.int .u8 p0)).setCell ⟨w2.heap.size, 1, none⟩ (.int .u8 p1)).setCell ⟨w2.heap.size, 2, none⟩ (.int .u8 p2)).setCell ⟨w2.heap.size, 3, none⟩ (.int .u8 p3))) := hH.2.2.2.2.2.2.2.2.2.2
    have RZ : Hid (((((w4.setCell ⟨w2.heap.size, 0, none⟩ (.int .u8 p0)).setCell ⟨w2.heap.size, 1, none⟩ (.int .u8 p1)).setCell ⟨w2.heap.size, 2, none⟩ (.int .u8 p2)).setCell ⟨w2.heap.size, 3, none⟩ (.int .u8 p3)).heap[w2.heap.size]? = some (.cells #[.int .u8 p0, .int .u8 p1, .int .u8 p2, .int .u8 p3] 24 (0, 0))) := put4_row R.out
    clear hH
    generalize ((((w4.setCell ⟨w2.heap.size, 0, none⟩ (.int .u8 p0)).setCell ⟨w2.heap.size, 1, none⟩ (.int .u8 p1)).setCell ⟨w2.heap.size, 2, none⟩ (.int .u8 p2)).setCell ⟨w2.heap.size, 3, none⟩ (.int .u8 p3)) = V5 at *
    have P5 := Lib.hid (P1.out.bel gH.out)
    have r5 := Lib.hid (r1.out.bel gH.out)
    have b5 := Lib.hid (bel_trans b1 gH.out)
    clear P1 r1 b1 gH x0 x1 x2 x3 x4 x5 x6 x7 x8 k0 k1 k2 k3 k4 k5 k6 k7 k42 k43 k44 k45
    obtain ⟨⟨y0, y1, y2, y3⟩, _⟩ := four_at RZ.out
    obtain ⟨x0, _⟩ := r5.out.all
    obtain ⟨_, _, _, k3, k4, k5, k6, _⟩ := P5.out.cells
    have f3 := P5.out.frozen 3
    have f4 := P5.out.frozen 4
    have f5 := P5.out.frozen 5
    have f6 := P5.out.frozen 6
    obtain ⟨P6, g6⟩ := HF.out _ P5.out
    replace P6 := Lib.hid P6
    replace g6 := Lib.hid g6
    have r6 := Lib.hid (r5.out.only g6.out hcb.out)
    go_upto_region 5 with (fail)
    clear y0 y1 y2 y3 k3 k4 k5 k6 f3 f4 f5 f6 x0 RZ HF
    generalize ((((V5.setCell ⟨v.b, 3, none⟩ (.int .u8 p0)).setCell ⟨v.b, 4, none⟩ (.int .u8 p1)).setCell ⟨v.b, 5, none⟩ (.int .u8 p2)).setCell ⟨v.b, 6, none⟩ (.int .u8 p3)) = V6 at P6 g6 r6 ⊢
    have B6 := Lib.hid (only_trans (bel_only b5.out v.b) g6.out)
    clear P5 r5 b5 g6
    go_wp2_with (refine x_load rfl _ rfl _ rfl _ v rfl r6.out ?_)
    refine (following_at v P6.out).mono ?_; rintro e w7 ⟨rfl, g7⟩
    have P7 := Lib.hid (P6.out.bel g7)
    have B7 := Lib.hid (only_trans B6.out (bel_only g7 _))
    clear g7 P6 r6 B6
    go_wp2_with fail
    go_ret
    exact ⟨rfl, psr_end P7.out B7.out A.out.gb⟩
  · rename_i hH
    have gH : Hid (Below V.heap.size V ((((w4.setCell ⟨V.heap.size, 0, none⟩ (.int .u8 p0)).setCell ⟨V.heap.size, 1, none⟩ (.int .u8 p1)).setCell ⟨V.heap.size, 2, none⟩ (.int .u8 p2)).setCell ⟨V.heap.size, 3, none⟩ (.int .u8 p3))) := hH.2.2.2.2.2.2.2.2.2.2
    have RZ : Hid (((((w4.setCell ⟨V.heap.size, 0, none⟩ (.int .u8 p0)).setCell ⟨V.heap.size, 1, none⟩ (.int .u8 p1)).setCell ⟨V.heap.size, 2, none⟩ (.int .u8 p2)).setCell ⟨V.heap.size, 3, none⟩ (.int .u8 p3)).heap[V.heap.size]? = some (.cells #[.int .u8 p0, .int .u8 p1, .int .u8 p2, .int .u8 p3] 24 (0, 0))) := put4_row R.out
    clear hH
    generalize ((((w4.setCell ⟨V.heap.size, 0, none⟩ (.int .u8 p0)).setCell ⟨V.heap.size, 1, none⟩ (.int .u8 p1)).setCell ⟨V.heap.size, 2, none⟩ (.int .u8 p2)).setCell ⟨V.heap.size, 3, none⟩ (.int .u8 p3)) = V5 at *
    have P5 := Lib.hid (P1.out.bel gH.out)
    have r5 := Lib.hid (r1.out.bel gH.out)
    have b5 := Lib.hid (bel_trans b1 gH.out)
    clear P1 r1 b1 gH x0 x1 x2 x3 x4 x5 x6 x7 x8 k0 k1 k2 k3 k4 k5 k6 k7 k42 k43 k44 k45
    obtain ⟨⟨y0, y1, y2, y3⟩, _⟩ := four_at RZ.out
    obtain ⟨x0, _⟩ := r5.out.all
    obtain ⟨_, _, _, k3, k4, k5, k6, _⟩ := P5.out.cells
    have f3 := P5.out.frozen 3
    have f4 := P5.out.frozen 4
    have f5 := P5.out.frozen 5
    have f6 := P5.out.frozen 6
    obtain ⟨P6, g6⟩ := HF.out _ P5.out
    replace P6 := Lib.hid P6
    replace g6 := Lib.hid g6
    have r6 := Lib.hid (r5.out.only g6.out hcb.out)
    go_upto_region 5 with (fail)
    clear y0 y1 y2 y3 k3 k4 k5 k6 f3 f4 f5 f6 x0 RZ HF
    generalize ((((V5.setCell ⟨v.b, 3, none⟩ (.int .u8 p0)).setCell ⟨v.b, 4, none⟩ (.int .u8 p1)).setCell ⟨v.b, 5, none⟩ (.int .u8 p2)).setCell ⟨v.b, 6, none⟩ (.int .u8 p3)) = V6 at P6 g6 r6 ⊢
    have B6 := Lib.hid (only_trans (bel_only b5.out v.b) g6.out)
    clear P5 r5 b5 g6
    go_wp2_with (refine x_load rfl _ rfl _ rfl _ v rfl r6.out ?_)
    refine (following_at v P6.out).mono ?_; rintro e w7 ⟨rfl, g7⟩
    have P7 := Lib.hid (P6.out.bel g7)
    have B7 := Lib.hid (only_trans B6.out (bel_only g7 _))
    clear g7 P6 r6 B6
    go_wp2_with fail
    go_ret
    exact ⟨rfl, psr_end P7.out B7.out A.out.gb⟩
set_option maxRecDepth 100000 in
set_option maxHeartbeats 6000000 in
theorem writeState_no (v : XV) (h : MachP w v.b fb mb g x cs os G m) (hs : wst ((v.a + v.y) % 4294967296) m.nw = false) :
    Calls Tryz.prog 218 #[.agg (xrow v)] w fun e w' => Goes w v.b G m (m.stp 3 0) e w' := by
  have A := Lib.hid h
  have hcf : Hid (w.heap.size ≠ fb) := by have := h.lt _ h.gf; unfold Hid; omega
  have hcb : Hid (w.heap.size ≠ v.b) := by have := h.lt _ h.gb; unfold Hid; omega
  have hcg : Hid (w.heap.size ≠ g) := by have := h.lt _ h.gg; unfold Hid; omega
  have HW0 := w32_mod (v.a + v.y)
  have HN : Hid (∀ W, Calls Tryz.prog 275 #[.int .u32 (((v.a + v.y) % 4294967296)), .int .i64 m.nw] W fun e w' => e = .returned (.tuple #[.agg #[.int .u8 0, .int .u8 0, .int .u8 0, .int .u8 0], .int .i64 5]) ∧ Below W.heap.size W w') := fun W => unpack_no h HW0 hs W
  have HM : Hid (∀ W, Calls Tryz.prog 269 #[.agg (xrow v)] W fun e w' => e = .returned (.int .u32 ((v.a + v.y) % 4294967296)) ∧ Below W.heap.size W w') := fun W => sum_at v W
  obtain ⟨u, hu⟩ : ∃ u, u = ((v.a + v.y) % 4294967296) := ⟨_, rfl⟩
  rw [← hu] at HN HM
  clear h hs hu HW0
  go_enter Tryz.func218, Tryz.ntmps218
  go_upto_region 1 with (refine x_box rfl _ rfl _ rfl v rfl ?_; intro V r1 b1; obtain ⟨x0, x1, x2, x3, x4, x5, x6, x7, x8⟩ := r1.out.all; obtain ⟨k0, k1, k2, k3, k4, k5, k6, k7, k42, k43, k44, k45⟩ := (A.out.bel b1).cells)
  have P1 := Lib.hid (A.out.bel b1)
  go_wp2_with fail
  have HS : Hid (∀ W, Below V.heap.size V W → W.cell? ⟨w.heap.size, 0, none⟩ = some (.pointer (some ⟨v.b, 0, none⟩)) ∧ W.cell? ⟨w.heap.size, 1, none⟩ = some (.int .u8 v.o) ∧ W.cell? ⟨w.heap.size, 2, none⟩ = some (.int .u8 v.d) ∧ W.cell? ⟨w.heap.size, 3, none⟩ = some (.int .u8 v.s) ∧ W.cell? ⟨w.heap.size, 4, none⟩ = some (.int .u8 v.t) ∧ W.cell? ⟨w.heap.size, 5, none⟩ = some (.bool v.ib) ∧ W.cell? ⟨w.heap.size, 6, none⟩ = some (.int .i32 v.n) ∧ W.cell? ⟨w.heap.size, 7, none⟩ = some (.int .u32 v.a) ∧ W.cell? ⟨w.heap.size, 8, none⟩ = some (.int .u32 v.y) ∧ W.cell? ⟨v.b, 0, none⟩ = some (.pointer (some ⟨fb, 0, none⟩)) ∧ Below V.heap.size V W) := fun W kk0 => by
    obtain ⟨x0, x1, x2, x3, x4, x5, x6, x7, x8, k0, k1, k2, k3, k4, k5, k6, k7, kk⟩ := hold_bel r1.out P1.out kk0
    exact ⟨x0, x1, x2, x3, x4, x5, x6, x7, x8, k0, kk⟩
  go_region_held3 (fun W => W.cell? ⟨w.heap.size, 0, none⟩ = some (.pointer (some ⟨v.b, 0, none⟩)) ∧ W.cell? ⟨w.heap.size, 1, none⟩ = some (.int .u8 v.o) ∧ W.cell? ⟨w.heap.size, 2, none⟩ = some (.int .u8 v.d) ∧ W.cell? ⟨w.heap.size, 3, none⟩ = some (.int .u8 v.s) ∧ W.cell? ⟨w.heap.size, 4, none⟩ = some (.int .u8 v.t) ∧ W.cell? ⟨w.heap.size, 5, none⟩ = some (.bool v.ib) ∧ W.cell? ⟨w.heap.size, 6, none⟩ = some (.int .i32 v.n) ∧ W.cell? ⟨w.heap.size, 7, none⟩ = some (.int .u32 v.a) ∧ W.cell? ⟨w.heap.size, 8, none⟩ = some (.int .u32 v.y) ∧ W.cell? ⟨v.b, 0, none⟩ = some (.pointer (some ⟨fb, 0, none⟩)) ∧ Below V.heap.size V W)
    (first
      | exact HS.out _ (Below.refl _ _).drew
      | (go_split_ands; exact HS.out _ (bel_trans (by assumption) gL))
      | (go_split_ands; exact HS.out _ (bel_al (by assumption)))
      | (go_split_ands; exact HS.out _ (bel_al L4.out))
      | (go_split_ands; exact HS.out _ (put4_bel (by assumption) (by first | exact Nat.le_refl _ | exact L2.out.size | exact L3.out.size | exact L4.out.size))))
    (first
      | (go_at_call 269; go_split_ands; refine (HM.out _).mono ?_; rintro e w2 ⟨rfl, g2⟩; have gL := g2; have L2 := Lib.hid (bel_trans (by assumption : Below V.heap.size V _) g2))
      | (go_at_call 127; go_split_ands; refine ((P1.out.bel (by assumption)).nw_at).mono ?_; rintro e w3 ⟨rfl, g3⟩; have gL := g3; have L3 := Lib.hid (bel_trans (by assumption : Below V.heap.size V _) g3))
      | (go_at_call 275; go_split_ands; refine (HN.out _).mono ?_; rintro e w4 ⟨rfl, g4⟩; have gL := g4; have L4 := Lib.hid (bel_trans (by assumption : Below V.heap.size V _) g4); (first | (have R := Lib.hid (bel_heap g4 (heap_alloc_last w3 (.cells #[.int .u8 0, .int .u8 0, .int .u8 0, .int .u8 0] 24))); obtain ⟨⟨y0, y1, y2, y3⟩, ⟨z0, z1, z2, z3⟩⟩ := four_at R.out) | (have R := Lib.hid (bel_heap g4 (bel_heap g3 (heap_alloc_last w2 (.cells #[.int .u8 0, .int .u8 0, .int .u8 0, .int .u8 0] 24)))); obtain ⟨⟨y0, y1, y2, y3⟩, ⟨z0, z1, z2, z3⟩⟩ := four_at R.out) | (have R := Lib.hid ((show w4.heap[V.heap.size]? = some (.cells #[.int .u8 0, .int .u8 0, .int .u8 0, .int .u8 0] 24 (0, 0)) from bel_heap g4 (bel_heap g3 (bel_heap g2 (heap_alloc_last V.drew (.cells #[.int .u8 0, .int .u8 0, .int .u8 0, .int .u8 0] 24)))))); obtain ⟨⟨y0, y1, y2, y3⟩, ⟨z0, z1, z2, z3⟩⟩ := four_at R.out) | skip)))
  all_goals clear HS
  · rename_i hH
    have gH : Hid (Below V.heap.size V (w4.alloc (.cells #[.int .u8 0, .int .u8 0, .int .u8 0, .int .u8 0] 24))) := hH.2.2.2.2.2.2.2.2.2.2
    have RZ : Hid ((w4.alloc (.cells #[.int .u8 0, .int .u8 0, .int .u8 0, .int .u8 0] 24)).heap[w4.heap.size]? = some (.cells #[.int .u8 0, .int .u8 0, .int .u8 0, .int .u8 0] 24 (0, 0))) := heap_alloc_last _ _
    clear hH
    generalize (w4.alloc (.cells #[.int .u8 0, .int .u8 0, .int .u8 0, .int .u8 0] 24)) = V5 at *
    have P5 := Lib.hid (P1.out.bel gH.out)
    have r5 := Lib.hid (r1.out.bel gH.out)
    have b5 := Lib.hid (bel_trans b1 gH.out)
    clear P1 r1 b1 gH x0 x1 x2 x3 x4 x5 x6 x7 x8 k0 k1 k2 k3 k4 k5 k6 k7 k42 k43 k44 k45
    go_wp2_with (refine x_load rfl _ rfl _ rfl _ v rfl r5.out ?_)
    refine (fail_at v P5.out).mono ?_; rintro e w7 ⟨rfl, P7, g7⟩
    have P7 := Lib.hid P7
    go_wp2_with fail
    go_ret
    exact ⟨rfl, Left.only P7.out (only_trans (bel_only b5.out _) g7) A.out.gb⟩
  · rename_i hH
    have gH : Hid (Below V.heap.size V ((((w4.setCell ⟨w3.heap.size, 0, none⟩ (.int .u8 0)).setCell ⟨w3.heap.size, 1, none⟩ (.int .u8 0)).setCell ⟨w3.heap.size, 2, none⟩ (.int .u8 0)).setCell ⟨w3.heap.size, 3, none⟩ (.int .u8 0))) := hH.2.2.2.2.2.2.2.2.2.2
    have RZ : Hid (((((w4.setCell ⟨w3.heap.size, 0, none⟩ (.int .u8 0)).setCell ⟨w3.heap.size, 1, none⟩ (.int .u8 0)).setCell ⟨w3.heap.size, 2, none⟩ (.int .u8 0)).setCell ⟨w3.heap.size, 3, none⟩ (.int .u8 0)).heap[w3.heap.size]? = some (.cells #[.int .u8 0, .int .u8 0, .int .u8 0, .int .u8 0] 24 (0, 0))) := put4_row R.out
    clear hH
    generalize ((((w4.setCell ⟨w3.heap.size, 0, none⟩ (.int .u8 0)).setCell ⟨w3.heap.size, 1, none⟩ (.int .u8 0)).setCell ⟨w3.heap.size, 2, none⟩ (.int .u8 0)).setCell ⟨w3.heap.size, 3, none⟩ (.int .u8 0)) = V5 at *
    have P5 := Lib.hid (P1.out.bel gH.out)
    have r5 := Lib.hid (r1.out.bel gH.out)
    have b5 := Lib.hid (bel_trans b1 gH.out)
    clear P1 r1 b1 gH x0 x1 x2 x3 x4 x5 x6 x7 x8 k0 k1 k2 k3 k4 k5 k6 k7 k42 k43 k44 k45
    go_wp2_with (refine x_load rfl _ rfl _ rfl _ v rfl r5.out ?_)
    refine (fail_at v P5.out).mono ?_; rintro e w7 ⟨rfl, P7, g7⟩
    have P7 := Lib.hid P7
    go_wp2_with fail
    go_ret
    exact ⟨rfl, Left.only P7.out (only_trans (bel_only b5.out _) g7) A.out.gb⟩
  · rename_i hH
    have gH : Hid (Below V.heap.size V ((((w4.setCell ⟨w2.heap.size, 0, none⟩ (.int .u8 0)).setCell ⟨w2.heap.size, 1, none⟩ (.int .u8 0)).setCell ⟨w2.heap.size, 2, none⟩ (.int .u8 0)).setCell ⟨w2.heap.size, 3, none⟩ (.int .u8 0))) := hH.2.2.2.2.2.2.2.2.2.2
    have RZ : Hid (((((w4.setCell ⟨w2.heap.size, 0, none⟩ (.int .u8 0)).setCell ⟨w2.heap.size, 1, none⟩ (.int .u8 0)).setCell ⟨w2.heap.size, 2, none⟩ (.int .u8 0)).setCell ⟨w2.heap.size, 3, none⟩ (.int .u8 0)).heap[w2.heap.size]? = some (.cells #[.int .u8 0, .int .u8 0, .int .u8 0, .int .u8 0] 24 (0, 0))) := put4_row R.out
    clear hH
    generalize ((((w4.setCell ⟨w2.heap.size, 0, none⟩ (.int .u8 0)).setCell ⟨w2.heap.size, 1, none⟩ (.int .u8 0)).setCell ⟨w2.heap.size, 2, none⟩ (.int .u8 0)).setCell ⟨w2.heap.size, 3, none⟩ (.int .u8 0)) = V5 at *
    have P5 := Lib.hid (P1.out.bel gH.out)
    have r5 := Lib.hid (r1.out.bel gH.out)
    have b5 := Lib.hid (bel_trans b1 gH.out)
    clear P1 r1 b1 gH x0 x1 x2 x3 x4 x5 x6 x7 x8 k0 k1 k2 k3 k4 k5 k6 k7 k42 k43 k44 k45
    go_wp2_with (refine x_load rfl _ rfl _ rfl _ v rfl r5.out ?_)
    refine (fail_at v P5.out).mono ?_; rintro e w7 ⟨rfl, P7, g7⟩
    have P7 := Lib.hid P7
    go_wp2_with fail
    go_ret
    exact ⟨rfl, Left.only P7.out (only_trans (bel_only b5.out _) g7) A.out.gb⟩
  · rename_i hH
    have gH : Hid (Below V.heap.size V ((((w4.setCell ⟨V.heap.size, 0, none⟩ (.int .u8 0)).setCell ⟨V.heap.size, 1, none⟩ (.int .u8 0)).setCell ⟨V.heap.size, 2, none⟩ (.int .u8 0)).setCell ⟨V.heap.size, 3, none⟩ (.int .u8 0))) := hH.2.2.2.2.2.2.2.2.2.2
    have RZ : Hid (((((w4.setCell ⟨V.heap.size, 0, none⟩ (.int .u8 0)).setCell ⟨V.heap.size, 1, none⟩ (.int .u8 0)).setCell ⟨V.heap.size, 2, none⟩ (.int .u8 0)).setCell ⟨V.heap.size, 3, none⟩ (.int .u8 0)).heap[V.heap.size]? = some (.cells #[.int .u8 0, .int .u8 0, .int .u8 0, .int .u8 0] 24 (0, 0))) := put4_row R.out
    clear hH
    generalize ((((w4.setCell ⟨V.heap.size, 0, none⟩ (.int .u8 0)).setCell ⟨V.heap.size, 1, none⟩ (.int .u8 0)).setCell ⟨V.heap.size, 2, none⟩ (.int .u8 0)).setCell ⟨V.heap.size, 3, none⟩ (.int .u8 0)) = V5 at *
    have P5 := Lib.hid (P1.out.bel gH.out)
    have r5 := Lib.hid (r1.out.bel gH.out)
    have b5 := Lib.hid (bel_trans b1 gH.out)
    clear P1 r1 b1 gH x0 x1 x2 x3 x4 x5 x6 x7 x8 k0 k1 k2 k3 k4 k5 k6 k7 k42 k43 k44 k45
    go_wp2_with (refine x_load rfl _ rfl _ rfl _ v rfl r5.out ?_)
    refine (fail_at v P5.out).mono ?_; rintro e w7 ⟨rfl, P7, g7⟩
    have P7 := Lib.hid P7
    go_wp2_with fail
    go_ret
    exact ⟨rfl, Left.only P7.out (only_trans (bel_only b5.out _) g7) A.out.gb⟩
end
end Go.Proofs.YtiobgnelhiadbaaGreatDoor.K6
namespace Go.Proofs.YtiobgnelhiadbaaGreatDoor.K6
open Go.RowKit
set_option linter.unusedVariables false
section
variable {w : World} {b fb mb g x : Nat} {cs os : Value} {G : Nat → Prop} {m : MS}
theorem bel_put2 {a w : World} {o : Obj} {y0 y1 : Value} (h : Below a.heap.size a w) (hb : a.heap.size ≤ w.heap.size) : Below a.heap.size a (((w.alloc o).setCell ⟨w.heap.size, 0, none⟩ y0).setCell ⟨w.heap.size, 1, none⟩ y1) := ((bel_al h).setCell hb _).setCell hb _
theorem back_end {w7 : World} {u t : Int} (h : MachP w7 b fb mb g x cs os G (m.psr u)) (k : w.grownBy w7 (some b)) (hb : G b) : Left w b G (((m.psr u).jmp t).jmp m.pc) w7 := by
  have e : ((m.psr u).jmp t).jmp m.pc = m.psr u := by cases m; rfl
  rw [e]
  exact Left.only h k hb
set_option maxRecDepth 100000 in
set_option maxHeartbeats 6000000 in
theorem goBack_yes (v : XV) (h : MachP w v.b fb mb g x cs os G m) (hb : m.bank ≠ 0) (hs : wst (m.tps m.bank.toNat) m.nw = true) :
    Calls Tryz.prog 223 #[.agg (xrow v)] w fun e w' => Goes w v.b G m (((m.psr (m.tps m.bank.toNat)).jmp (m.tpc m.bank.toNat))) e w' := by
  have A := Lib.hid h
  have hcf : Hid (w.heap.size ≠ fb) := by have := h.lt _ h.gf; unfold Hid; omega
  have hcb : Hid (w.heap.size ≠ v.b) := by have := h.lt _ h.gb; unfold Hid; omega
  have hcg : Hid (w.heap.size ≠ g) := by have := h.lt _ h.gg; unfold Hid; omega
  have HW0 : W32 (m.tps m.bank.toNat) := h.ok.tps _
  have h17 : m.bank < 17 := by have := h.ok.b1; omega
  have h00 := h.ok.b0
  have hb' : (m.bank == 0) = false := by simpa using hb
  have HN : Hid (∀ W, Calls Tryz.prog 275 #[.int .u32 ((m.tps m.bank.toNat)), .int .i64 m.nw] W fun e w' => e = .returned (.tuple #[.agg #[.int .u8 (((m.tps m.bank.toNat)) % 32), .int .u8 (((m.tps m.bank.toNat)) / 32 % 16), .int .u8 (((m.tps m.bank.toNat)) / 512 % 32), .int .u8 (((m.tps m.bank.toNat)) / 16384 % 16)], .int .i64 0]) ∧ Below W.heap.size W w') := fun W => unpack_yes h HW0 hs W
  have HF : Hid (∀ W, MachP W v.b fb mb g x cs os G m → MachP ((((W.setCell ⟨v.b, 3, none⟩ (.int .u8 (((m.tps m.bank.toNat)) % 32))).setCell ⟨v.b, 4, none⟩ (.int .u8 (((m.tps m.bank.toNat)) / 32 % 16))).setCell ⟨v.b, 5, none⟩ (.int .u8 (((m.tps m.bank.toNat)) / 512 % 32))).setCell ⟨v.b, 6, none⟩ (.int .u8 (((m.tps m.bank.toNat)) / 16384 % 16))) v.b fb mb g x cs os G (m.psr ((m.tps m.bank.toNat))) ∧ W.grownBy ((((W.setCell ⟨v.b, 3, none⟩ (.int .u8 (((m.tps m.bank.toNat)) % 32))).setCell ⟨v.b, 4, none⟩ (.int .u8 (((m.tps m.bank.toNat)) / 32 % 16))).setCell ⟨v.b, 5, none⟩ (.int .u8 (((m.tps m.bank.toNat)) / 512 % 32))).setCell ⟨v.b, 6, none⟩ (.int .u8 (((m.tps m.bank.toNat)) / 16384 % 16))) (some v.b)) := fun W hW => hW.stated HW0 hs
  generalize ((m.tps m.bank.toNat)) % 32 = p0 at HN HF
  generalize ((m.tps m.bank.toNat)) / 32 % 16 = p1 at HN HF
  generalize ((m.tps m.bank.toNat)) / 512 % 32 = p2 at HN HF
  generalize ((m.tps m.bank.toNat)) / 16384 % 16 = p3 at HN HF
  obtain ⟨u, hu⟩ : ∃ u, u = (m.tps m.bank.toNat) := ⟨_, rfl⟩
  obtain ⟨t, ht⟩ : ∃ t, t = m.tpc m.bank.toNat := ⟨_, rfl⟩
  rw [← hu] at HN HF ⊢
  rw [← ht]
  have HQ := Lib.hid hu
  have HQ2 := Lib.hid ht
  clear h hs hu HW0 ht hb
  go_enter Tryz.func223, Tryz.ntmps223
  go_upto_region 1 with (refine x_box rfl _ rfl _ rfl v rfl ?_; intro V r1 b1; obtain ⟨x0, x1, x2, x3, x4, x5, x6, x7, x8⟩ := r1.out.all; obtain ⟨k0, k1, k2, k3, k4, k5, k6, k7, k42, k43, k44, k45⟩ := (A.out.bel b1).cells)
  have P1 := Lib.hid (A.out.bel b1)
  have hs0 := P1.out.tpc (j := 8 + m.bank.toNat * 2) (k := m.bank.toNat) (by omega) (by omega)
  have hs1 := P1.out.tps (j := 8 + m.bank.toNat * 2 + 1) (k := m.bank.toNat) (by omega) (by omega)
  rw [← HQ2.out] at hs0
  rw [← HQ.out] at hs1
  go_wp2_with fail
  have HS : Hid (∀ W, Below V.heap.size V W → W.cell? ⟨w.heap.size, 0, none⟩ = some (.pointer (some ⟨v.b, 0, none⟩)) ∧ W.cell? ⟨v.b, 5, none⟩ = some (.int .u8 m.bank) ∧ W.cell? ⟨v.b, 8 + m.bank.toNat * 2, none⟩ = some (.int .u32 t) ∧ W.cell? ⟨v.b, 8 + m.bank.toNat * 2 + 1, none⟩ = some (.int .u32 u) ∧ Below V.heap.size V W) := fun W kk0 => by
    obtain ⟨x0, x1, x2, x3, x4, x5, x6, x7, x8, k0, k1, k2, k3, k4, k5, k6, k7, kk⟩ := hold_bel r1.out P1.out kk0
    exact ⟨x0, k5, (bel_cell kk hs0), (bel_cell kk hs1), kk⟩
  go_region_held3 (fun W => W.cell? ⟨w.heap.size, 0, none⟩ = some (.pointer (some ⟨v.b, 0, none⟩)) ∧ W.cell? ⟨v.b, 5, none⟩ = some (.int .u8 m.bank) ∧ W.cell? ⟨v.b, 8 + m.bank.toNat * 2, none⟩ = some (.int .u32 t) ∧ W.cell? ⟨v.b, 8 + m.bank.toNat * 2 + 1, none⟩ = some (.int .u32 u) ∧ Below V.heap.size V W)
    (first
      | exact HS.out _ (Below.refl _ _).drew
      | (go_split_ands; exact HS.out _ ((bel_al (Below.refl _ V)).drew))
      | (go_split_ands; exact HS.out _ (bel_al (by assumption)))
      | (go_split_ands; exact HS.out _ (bel_put2 (by assumption) (Nat.le_refl _))))
    (first
      | (fail))
  rename_i hH
  clear hH HS
  have bz : Below V.heap.size V (V.alloc (.cells #[.int .u32 t, .int .u32 u] 130)).drew := (bel_al (Below.refl _ _)).drew
  have hz : Hid ((V.alloc (.cells #[.int .u32 t, .int .u32 u] 130)).drew.heap[V.heap.size]? = some (.cells #[.int .u32 t, .int .u32 u] 130 (0, 0))) := heap_alloc_last _ _
  have hnb : Hid (V.heap.size ≠ v.b) := by have h1 := A.out.lt _ A.out.gb; have h2 := b1.size; unfold Hid; omega
  have P2 := Lib.hid (P1.out.bel bz)
  have r2 := Lib.hid (r1.out.bel bz)
  have b2 := Lib.hid (bel_trans b1 bz)
  clear P1 r1 b1 bz hs0 hs1 x0 x1 x2 x3 x4 x5 x6 x7 x8 k0 k1 k2 k3 k4 k5 k6 k7 k42 k43 k44 k45
  generalize (V.alloc (.cells #[.int .u32 t, .int .u32 u] 130)).drew = V2 at hz P2 r2 b2 ⊢
  generalize V.heap.size = n0 at hz hnb ⊢
  obtain ⟨x0, x1, x2, x3, x4, x5, x6, x7, x8⟩ := r2.out.all
  obtain ⟨k0, k1, k2, k3, k4, k5, k6, k7, k42, k43, k44, k45⟩ := P2.out.cells
  have t1 := row_cell hz.out (j := 1) (v := .int .u32 u) rfl
  clear HQ HQ2 h17 h00 hb'
  go_wp2_with fail
  have HS : Hid (∀ W, Below V2.heap.size V2 W → W.cell? ⟨w.heap.size, 0, none⟩ = some (.pointer (some ⟨v.b, 0, none⟩)) ∧ W.cell? ⟨v.b, 0, none⟩ = some (.pointer (some ⟨fb, 0, none⟩)) ∧ W.cell? ⟨n0, 1, none⟩ = some (.int .u32 u) ∧ Below V2.heap.size V2 W) := fun W kk0 => by
    obtain ⟨x0, x1, x2, x3, x4, x5, x6, x7, x8, k0, k1, k2, k3, k4, k5, k6, k7, kk⟩ := hold_bel r2.out P2.out kk0
    exact ⟨x0, k0, (bel_cell kk t1), kk⟩
  go_region_held3 (fun W => W.cell? ⟨w.heap.size, 0, none⟩ = some (.pointer (some ⟨v.b, 0, none⟩)) ∧ W.cell? ⟨v.b, 0, none⟩ = some (.pointer (some ⟨fb, 0, none⟩)) ∧ W.cell? ⟨n0, 1, none⟩ = some (.int .u32 u) ∧ Below V2.heap.size V2 W)
    (first
      | exact HS.out _ (Below.refl _ _).drew
      | (go_split_ands; exact HS.out _ (bel_trans (by assumption) gL))
      | (go_split_ands; exact HS.out _ (bel_al (by assumption)))
      | (go_split_ands; exact HS.out _ (bel_al L4.out))
      | (go_split_ands; exact HS.out _ (put4_bel (by assumption) (by first | exact Nat.le_refl _ | exact L3.out.size | exact L4.out.size))))
    (first
      | (go_at_call 127; go_split_ands; refine ((P2.out.bel (by assumption)).nw_at).mono ?_; rintro e w3 ⟨rfl, g3⟩; have gL := g3; have L3 := Lib.hid (bel_trans (by assumption : Below V2.heap.size V2 _) g3))
      | (go_at_call 275; go_split_ands; refine (HN.out _).mono ?_; rintro e w4 ⟨rfl, g4⟩; have gL := g4; have L4 := Lib.hid (bel_trans (by assumption : Below V2.heap.size V2 _) g4); (first | (have R := Lib.hid (bel_heap g4 (heap_alloc_last w3 (.cells #[.int .u8 0, .int .u8 0, .int .u8 0, .int .u8 0] 24))); obtain ⟨⟨y0, y1, y2, y3⟩, ⟨z0, z1, z2, z3⟩⟩ := four_at R.out) | (have R := Lib.hid ((show w4.heap[V2.heap.size]? = some (.cells #[.int .u8 0, .int .u8 0, .int .u8 0, .int .u8 0] 24 (0, 0)) from bel_heap g4 (bel_heap g3 (heap_alloc_last V2.drew (.cells #[.int .u8 0, .int .u8 0, .int .u8 0, .int .u8 0] 24))))); obtain ⟨⟨y0, y1, y2, y3⟩, ⟨z0, z1, z2, z3⟩⟩ := four_at R.out) | skip)))
  all_goals clear HS
  · rename_i hH
    have gH : Hid (Below V2.heap.size V2 (w4.alloc (.cells #[.int .u8 p0, .int .u8 p1, .int .u8 p2, .int .u8 p3] 24))) := hH.2.2.2
    have RZ : Hid ((w4.alloc (.cells #[.int .u8 p0, .int .u8 p1, .int .u8 p2, .int .u8 p3] 24)).heap[w4.heap.size]? = some (.cells #[.int .u8 p0, .int .u8 p1, .int .u8 p2, .int .u8 p3] 24 (0, 0))) := heap_alloc_last _ _
    clear hH
    generalize (w4.alloc (.cells #[.int .u8 p0, .int .u8 p1, .int .u8 p2, .int .u8 p3] 24)) = V5 at *
    have P5 := Lib.hid (P2.out.bel gH.out)
    have r5 := Lib.hid (r2.out.bel gH.out)
    have b5 := Lib.hid (bel_trans b2.out gH.out)
    have z5 := Lib.hid (bel_heap gH.out hz.out)
    clear P2 r2 b2 gH hz t1 x0 x1 x2 x3 x4 x5 x6 x7 x8 k0 k1 k2 k3 k4 k5 k6 k7 k42 k43 k44 k45
    obtain ⟨⟨y0, y1, y2, y3⟩, _⟩ := four_at RZ.out
    obtain ⟨x0, _⟩ := r5.out.all
    obtain ⟨_, _, _, k3, k4, k5, k6, _⟩ := P5.out.cells
    have f3 := P5.out.frozen 3
    have f4 := P5.out.frozen 4
    have f5 := P5.out.frozen 5
    have f6 := P5.out.frozen 6
    obtain ⟨P6, g6⟩ := HF.out _ P5.out
    replace P6 := Lib.hid P6
    replace g6 := Lib.hid g6
    have z6 := Lib.hid (only_heap g6.out hnb.out z5.out)
    go_upto_region 8 with (fail)
    clear y0 y1 y2 y3 k3 k4 k5 k6 f3 f4 f5 f6 x0 RZ HF
    generalize ((((V5.setCell ⟨v.b, 3, none⟩ (.int .u8 p0)).setCell ⟨v.b, 4, none⟩ (.int .u8 p1)).setCell ⟨v.b, 5, none⟩ (.int .u8 p2)).setCell ⟨v.b, 6, none⟩ (.int .u8 p3)) = V6 at P6 g6 z6 ⊢
    have B6 := Lib.hid (only_trans (bel_only b5.out v.b) g6.out)
    have t0 := row_cell z6.out (j := 0) (v := .int .u32 t) rfl
    clear P5 r5 b5 g6 z5
    go_wp2_with fail
    go_ret
    exact ⟨rfl, back_end P6.out B6.out A.out.gb⟩
  · rename_i hH
    have gH : Hid (Below V2.heap.size V2 ((((w4.setCell ⟨w3.heap.size, 0, none⟩ (.int .u8 p0)).setCell ⟨w3.heap.size, 1, none⟩ (.int .u8 p1)).setCell ⟨w3.heap.size, 2, none⟩ (.int .u8 p2)).setCell ⟨w3.heap.size, 3, none⟩ (.int .u8 p3))) := hH.2.2.2
    have RZ : Hid (((((w4.setCell ⟨w3.heap.size, 0, none⟩ (.int .u8 p0)).setCell ⟨w3.heap.size, 1, none⟩ (.int .u8 p1)).setCell ⟨w3.heap.size, 2, none⟩ (.int .u8 p2)).setCell ⟨w3.heap.size, 3, none⟩ (.int .u8 p3)).heap[w3.heap.size]? = some (.cells #[.int .u8 p0, .int .u8 p1, .int .u8 p2, .int .u8 p3] 24 (0, 0))) := put4_row R.out
    clear hH
    generalize ((((w4.setCell ⟨w3.heap.size, 0, none⟩ (.int .u8 p0)).setCell ⟨w3.heap.size, 1, none⟩ (.int .u8 p1)).setCell ⟨w3.heap.size, 2, none⟩ (.int .u8 p2)).setCell ⟨w3.heap.size, 3, none⟩ (.int .u8 p3)) = V5 at *
    have P5 := Lib.hid (P2.out.bel gH.out)
    have r5 := Lib.hid (r2.out.bel gH.out)
    have b5 := Lib.hid (bel_trans b2.out gH.out)
    have z5 := Lib.hid (bel_heap gH.out hz.out)
    clear P2 r2 b2 gH hz t1 x0 x1 x2 x3 x4 x5 x6 x7 x8 k0 k1 k2 k3 k4 k5 k6 k7 k42 k43 k44 k45
    obtain ⟨⟨y0, y1, y2, y3⟩, _⟩ := four_at RZ.out
    obtain ⟨x0, _⟩ := r5.out.all
    obtain ⟨_, _, _, k3, k4, k5, k6, _⟩ := P5.out.cells
    have f3 := P5.out.frozen 3
    have f4 := P5.out.frozen 4
    have f5 := P5.out.frozen 5
    have f6 := P5.out.frozen 6
    obtain ⟨P6, g6⟩ := HF.out _ P5.out
    replace P6 := Lib.hid P6
    replace g6 := Lib.hid g6
    have z6 := Lib.hid (only_heap g6.out hnb.out z5.out)
    go_upto_region 8 with (fail)
    clear y0 y1 y2 y3 k3 k4 k5 k6 f3 f4 f5 f6 x0 RZ HF
    generalize ((((V5.setCell ⟨v.b, 3, none⟩ (.int .u8 p0)).setCell ⟨v.b, 4, none⟩ (.int .u8 p1)).setCell ⟨v.b, 5, none⟩ (.int .u8 p2)).setCell ⟨v.b, 6, none⟩ (.int .u8 p3)) = V6 at P6 g6 z6 ⊢
    have B6 := Lib.hid (only_trans (bel_only b5.out v.b) g6.out)
    have t0 := row_cell z6.out (j := 0) (v := .int .u32 t) rfl
    clear P5 r5 b5 g6 z5
    go_wp2_with fail
    go_ret
    exact ⟨rfl, back_end P6.out B6.out A.out.gb⟩
  · rename_i hH
    have gH : Hid (Below V2.heap.size V2 ((((w4.setCell ⟨V2.heap.size, 0, none⟩ (.int .u8 p0)).setCell ⟨V2.heap.size, 1, none⟩ (.int .u8 p1)).setCell ⟨V2.heap.size, 2, none⟩ (.int .u8 p2)).setCell ⟨V2.heap.size, 3, none⟩ (.int .u8 p3))) := hH.2.2.2
    have RZ : Hid (((((w4.setCell ⟨V2.heap.size, 0, none⟩ (.int .u8 p0)).setCell ⟨V2.heap.size, 1, none⟩ (.int .u8 p1)).setCell ⟨V2.heap.size, 2, none⟩ (.int .u8 p2)).setCell ⟨V2.heap.size, 3, none⟩ (.int .u8 p3)).heap[V2.heap.size]? = some (.cells #[.int .u8 p0, .int .u8 p1, .int .u8 p2, .int .u8 p3] 24 (0, 0))) := put4_row R.out
    clear hH
    generalize ((((w4.setCell ⟨V2.heap.size, 0, none⟩ (.int .u8 p0)).setCell ⟨V2.heap.size, 1, none⟩ (.int .u8 p1)).setCell ⟨V2.heap.size, 2, none⟩ (.int .u8 p2)).setCell ⟨V2.heap.size, 3, none⟩ (.int .u8 p3)) = V5 at *
    have P5 := Lib.hid (P2.out.bel gH.out)
    have r5 := Lib.hid (r2.out.bel gH.out)
    have b5 := Lib.hid (bel_trans b2.out gH.out)
    have z5 := Lib.hid (bel_heap gH.out hz.out)
    clear P2 r2 b2 gH hz t1 x0 x1 x2 x3 x4 x5 x6 x7 x8 k0 k1 k2 k3 k4 k5 k6 k7 k42 k43 k44 k45
    obtain ⟨⟨y0, y1, y2, y3⟩, _⟩ := four_at RZ.out
    obtain ⟨x0, _⟩ := r5.out.all
    obtain ⟨_, _, _, k3, k4, k5, k6, _⟩ := P5.out.cells
    have f3 := P5.out.frozen 3
    have f4 := P5.out.frozen 4
    have f5 := P5.out.frozen 5
    have f6 := P5.out.frozen 6
    obtain ⟨P6, g6⟩ := HF.out _ P5.out
    replace P6 := Lib.hid P6
    replace g6 := Lib.hid g6
    have z6 := Lib.hid (only_heap g6.out hnb.out z5.out)
    go_upto_region 8 with (fail)
    clear y0 y1 y2 y3 k3 k4 k5 k6 f3 f4 f5 f6 x0 RZ HF
    generalize ((((V5.setCell ⟨v.b, 3, none⟩ (.int .u8 p0)).setCell ⟨v.b, 4, none⟩ (.int .u8 p1)).setCell ⟨v.b, 5, none⟩ (.int .u8 p2)).setCell ⟨v.b, 6, none⟩ (.int .u8 p3)) = V6 at P6 g6 z6 ⊢
    have B6 := Lib.hid (only_trans (bel_only b5.out v.b) g6.out)
    have t0 := row_cell z6.out (j := 0) (v := .int .u32 t) rfl
    clear P5 r5 b5 g6 z5
    go_wp2_with fail
    go_ret
    exact ⟨rfl, back_end P6.out B6.out A.out.gb⟩
set_option maxRecDepth 100000 in
set_option maxHeartbeats 6000000 in
theorem goBack_bad (v : XV) (h : MachP w v.b fb mb g x cs os G m) (hb : m.bank ≠ 0) (hs : wst (m.tps m.bank.toNat) m.nw = false) :
    Calls Tryz.prog 223 #[.agg (xrow v)] w fun e w' => Goes w v.b G m (m.stp 3 0) e w' := by
  have A := Lib.hid h
  have hcf : Hid (w.heap.size ≠ fb) := by have := h.lt _ h.gf; unfold Hid; omega
  have hcb : Hid (w.heap.size ≠ v.b) := by have := h.lt _ h.gb; unfold Hid; omega
  have hcg : Hid (w.heap.size ≠ g) := by have := h.lt _ h.gg; unfold Hid; omega
  have HW0 : W32 (m.tps m.bank.toNat) := h.ok.tps _
  have h17 : m.bank < 17 := by have := h.ok.b1; omega
  have h00 := h.ok.b0
  have hb' : (m.bank == 0) = false := by simpa using hb
  have HN : Hid (∀ W, Calls Tryz.prog 275 #[.int .u32 ((m.tps m.bank.toNat)), .int .i64 m.nw] W fun e w' => e = .returned (.tuple #[.agg #[.int .u8 0, .int .u8 0, .int .u8 0, .int .u8 0], .int .i64 5]) ∧ Below W.heap.size W w') := fun W => unpack_no h HW0 hs W
  obtain ⟨u, hu⟩ : ∃ u, u = (m.tps m.bank.toNat) := ⟨_, rfl⟩
  obtain ⟨t, ht⟩ : ∃ t, t = m.tpc m.bank.toNat := ⟨_, rfl⟩
  rw [← hu] at HN
  
  have HQ := Lib.hid hu
  have HQ2 := Lib.hid ht
  clear h hs hu HW0 ht hb
  go_enter Tryz.func223, Tryz.ntmps223
  go_upto_region 1 with (refine x_box rfl _ rfl _ rfl v rfl ?_; intro V r1 b1; obtain ⟨x0, x1, x2, x3, x4, x5, x6, x7, x8⟩ := r1.out.all; obtain ⟨k0, k1, k2, k3, k4, k5, k6, k7, k42, k43, k44, k45⟩ := (A.out.bel b1).cells)
  have P1 := Lib.hid (A.out.bel b1)
  have hs0 := P1.out.tpc (j := 8 + m.bank.toNat * 2) (k := m.bank.toNat) (by omega) (by omega)
  have hs1 := P1.out.tps (j := 8 + m.bank.toNat * 2 + 1) (k := m.bank.toNat) (by omega) (by omega)
  rw [← HQ2.out] at hs0
  rw [← HQ.out] at hs1
  go_wp2_with fail
  have HS : Hid (∀ W, Below V.heap.size V W → W.cell? ⟨w.heap.size, 0, none⟩ = some (.pointer (some ⟨v.b, 0, none⟩)) ∧ W.cell? ⟨v.b, 5, none⟩ = some (.int .u8 m.bank) ∧ W.cell? ⟨v.b, 8 + m.bank.toNat * 2, none⟩ = some (.int .u32 t) ∧ W.cell? ⟨v.b, 8 + m.bank.toNat * 2 + 1, none⟩ = some (.int .u32 u) ∧ Below V.heap.size V W) := fun W kk0 => by
    obtain ⟨x0, x1, x2, x3, x4, x5, x6, x7, x8, k0, k1, k2, k3, k4, k5, k6, k7, kk⟩ := hold_bel r1.out P1.out kk0
    exact ⟨x0, k5, (bel_cell kk hs0), (bel_cell kk hs1), kk⟩
  go_region_held3 (fun W => W.cell? ⟨w.heap.size, 0, none⟩ = some (.pointer (some ⟨v.b, 0, none⟩)) ∧ W.cell? ⟨v.b, 5, none⟩ = some (.int .u8 m.bank) ∧ W.cell? ⟨v.b, 8 + m.bank.toNat * 2, none⟩ = some (.int .u32 t) ∧ W.cell? ⟨v.b, 8 + m.bank.toNat * 2 + 1, none⟩ = some (.int .u32 u) ∧ Below V.heap.size V W)
    (first
      | exact HS.out _ (Below.refl _ _).drew
      | (go_split_ands; exact HS.out _ ((bel_al (Below.refl _ V)).drew))
      | (go_split_ands; exact HS.out _ (bel_al (by assumption)))
      | (go_split_ands; exact HS.out _ (bel_put2 (by assumption) (Nat.le_refl _))))
    (first
      | (fail))
  rename_i hH
  clear hH HS
  have bz : Below V.heap.size V (V.alloc (.cells #[.int .u32 t, .int .u32 u] 130)).drew := (bel_al (Below.refl _ _)).drew
  have hz : Hid ((V.alloc (.cells #[.int .u32 t, .int .u32 u] 130)).drew.heap[V.heap.size]? = some (.cells #[.int .u32 t, .int .u32 u] 130 (0, 0))) := heap_alloc_last _ _
  have hnb : Hid (V.heap.size ≠ v.b) := by have h1 := A.out.lt _ A.out.gb; have h2 := b1.size; unfold Hid; omega
  have P2 := Lib.hid (P1.out.bel bz)
  have r2 := Lib.hid (r1.out.bel bz)
  have b2 := Lib.hid (bel_trans b1 bz)
  clear P1 r1 b1 bz hs0 hs1 x0 x1 x2 x3 x4 x5 x6 x7 x8 k0 k1 k2 k3 k4 k5 k6 k7 k42 k43 k44 k45
  generalize (V.alloc (.cells #[.int .u32 t, .int .u32 u] 130)).drew = V2 at hz P2 r2 b2 ⊢
  generalize V.heap.size = n0 at hz hnb ⊢
  obtain ⟨x0, x1, x2, x3, x4, x5, x6, x7, x8⟩ := r2.out.all
  obtain ⟨k0, k1, k2, k3, k4, k5, k6, k7, k42, k43, k44, k45⟩ := P2.out.cells
  have t1 := row_cell hz.out (j := 1) (v := .int .u32 u) rfl
  clear HQ HQ2 h17 h00 hb'
  go_wp2_with fail
  have HS : Hid (∀ W, Below V2.heap.size V2 W → W.cell? ⟨w.heap.size, 0, none⟩ = some (.pointer (some ⟨v.b, 0, none⟩)) ∧ W.cell? ⟨v.b, 0, none⟩ = some (.pointer (some ⟨fb, 0, none⟩)) ∧ W.cell? ⟨n0, 1, none⟩ = some (.int .u32 u) ∧ Below V2.heap.size V2 W) := fun W kk0 => by
    obtain ⟨x0, x1, x2, x3, x4, x5, x6, x7, x8, k0, k1, k2, k3, k4, k5, k6, k7, kk⟩ := hold_bel r2.out P2.out kk0
    exact ⟨x0, k0, (bel_cell kk t1), kk⟩
  go_region_held3 (fun W => W.cell? ⟨w.heap.size, 0, none⟩ = some (.pointer (some ⟨v.b, 0, none⟩)) ∧ W.cell? ⟨v.b, 0, none⟩ = some (.pointer (some ⟨fb, 0, none⟩)) ∧ W.cell? ⟨n0, 1, none⟩ = some (.int .u32 u) ∧ Below V2.heap.size V2 W)
    (first
      | exact HS.out _ (Below.refl _ _).drew
      | (go_split_ands; exact HS.out _ (bel_trans (by assumption) gL))
      | (go_split_ands; exact HS.out _ (bel_al (by assumption)))
      | (go_split_ands; exact HS.out _ (bel_al L4.out))
      | (go_split_ands; exact HS.out _ (put4_bel (by assumption) (by first | exact Nat.le_refl _ | exact L3.out.size | exact L4.out.size))))
    (first
      | (go_at_call 127; go_split_ands; refine ((P2.out.bel (by assumption)).nw_at).mono ?_; rintro e w3 ⟨rfl, g3⟩; have gL := g3; have L3 := Lib.hid (bel_trans (by assumption : Below V2.heap.size V2 _) g3))
      | (go_at_call 275; go_split_ands; refine (HN.out _).mono ?_; rintro e w4 ⟨rfl, g4⟩; have gL := g4; have L4 := Lib.hid (bel_trans (by assumption : Below V2.heap.size V2 _) g4); (first | (have R := Lib.hid (bel_heap g4 (heap_alloc_last w3 (.cells #[.int .u8 0, .int .u8 0, .int .u8 0, .int .u8 0] 24))); obtain ⟨⟨y0, y1, y2, y3⟩, ⟨z0, z1, z2, z3⟩⟩ := four_at R.out) | (have R := Lib.hid ((show w4.heap[V2.heap.size]? = some (.cells #[.int .u8 0, .int .u8 0, .int .u8 0, .int .u8 0] 24 (0, 0)) from bel_heap g4 (bel_heap g3 (heap_alloc_last V2.drew (.cells #[.int .u8 0, .int .u8 0, .int .u8 0, .int .u8 0] 24))))); obtain ⟨⟨y0, y1, y2, y3⟩, ⟨z0, z1, z2, z3⟩⟩ := four_at R.out) | skip)))
  all_goals clear HS
  · rename_i hH
    have gH : Hid (Below V2.heap.size V2 (w4.alloc (.cells #[.int .u8 0, .int .u8 0, .int .u8 0, .int .u8 0] 24))) := hH.2.2.2
    have RZ : Hid ((w4.alloc (.cells #[.int .u8 0, .int .u8 0, .int .u8 0, .int .u8 0] 24)).heap[w4.heap.size]? = some (.cells #[.int .u8 0, .int .u8 0, .int .u8 0, .int .u8 0] 24 (0, 0))) := heap_alloc_last _ _
    clear hH
    generalize (w4.alloc (.cells #[.int .u8 0, .int .u8 0, .int .u8 0, .int .u8 0] 24)) = V5 at *
    have P5 := Lib.hid (P2.out.bel gH.out)
    have r5 := Lib.hid (r2.out.bel gH.out)
    have b5 := Lib.hid (bel_trans b2.out gH.out)
    have z5 := Lib.hid (bel_heap gH.out hz.out)
    clear P2 r2 b2 gH hz t1 x0 x1 x2 x3 x4 x5 x6 x7 x8 k0 k1 k2 k3 k4 k5 k6 k7 k42 k43 k44 k45
    go_wp2_with (refine x_load rfl _ rfl _ rfl _ v rfl r5.out ?_)
    refine (fail_at v P5.out).mono ?_; rintro e w7 ⟨rfl, P7, g7⟩
    have P7 := Lib.hid P7
    go_wp2_with fail
    go_ret
    exact ⟨rfl, Left.only P7.out (only_trans (bel_only b5.out _) g7) A.out.gb⟩
  · rename_i hH
    have gH : Hid (Below V2.heap.size V2 ((((w4.setCell ⟨w3.heap.size, 0, none⟩ (.int .u8 0)).setCell ⟨w3.heap.size, 1, none⟩ (.int .u8 0)).setCell ⟨w3.heap.size, 2, none⟩ (.int .u8 0)).setCell ⟨w3.heap.size, 3, none⟩ (.int .u8 0))) := hH.2.2.2
    have RZ : Hid (((((w4.setCell ⟨w3.heap.size, 0, none⟩ (.int .u8 0)).setCell ⟨w3.heap.size, 1, none⟩ (.int .u8 0)).setCell ⟨w3.heap.size, 2, none⟩ (.int .u8 0)).setCell ⟨w3.heap.size, 3, none⟩ (.int .u8 0)).heap[w3.heap.size]? = some (.cells #[.int .u8 0, .int .u8 0, .int .u8 0, .int .u8 0] 24 (0, 0))) := put4_row R.out
    clear hH
    generalize ((((w4.setCell ⟨w3.heap.size, 0, none⟩ (.int .u8 0)).setCell ⟨w3.heap.size, 1, none⟩ (.int .u8 0)).setCell ⟨w3.heap.size, 2, none⟩ (.int .u8 0)).setCell ⟨w3.heap.size, 3, none⟩ (.int .u8 0)) = V5 at *
    have P5 := Lib.hid (P2.out.bel gH.out)
    have r5 := Lib.hid (r2.out.bel gH.out)
    have b5 := Lib.hid (bel_trans b2.out gH.out)
    have z5 := Lib.hid (bel_heap gH.out hz.out)
    clear P2 r2 b2 gH hz t1 x0 x1 x2 x3 x4 x5 x6 x7 x8 k0 k1 k2 k3 k4 k5 k6 k7 k42 k43 k44 k45
    go_wp2_with (refine x_load rfl _ rfl _ rfl _ v rfl r5.out ?_)
    refine (fail_at v P5.out).mono ?_; rintro e w7 ⟨rfl, P7, g7⟩
    have P7 := Lib.hid P7
    go_wp2_with fail
    go_ret
    exact ⟨rfl, Left.only P7.out (only_trans (bel_only b5.out _) g7) A.out.gb⟩
  · rename_i hH
    have gH : Hid (Below V2.heap.size V2 ((((w4.setCell ⟨V2.heap.size, 0, none⟩ (.int .u8 0)).setCell ⟨V2.heap.size, 1, none⟩ (.int .u8 0)).setCell ⟨V2.heap.size, 2, none⟩ (.int .u8 0)).setCell ⟨V2.heap.size, 3, none⟩ (.int .u8 0))) := hH.2.2.2
    have RZ : Hid (((((w4.setCell ⟨V2.heap.size, 0, none⟩ (.int .u8 0)).setCell ⟨V2.heap.size, 1, none⟩ (.int .u8 0)).setCell ⟨V2.heap.size, 2, none⟩ (.int .u8 0)).setCell ⟨V2.heap.size, 3, none⟩ (.int .u8 0)).heap[V2.heap.size]? = some (.cells #[.int .u8 0, .int .u8 0, .int .u8 0, .int .u8 0] 24 (0, 0))) := put4_row R.out
    clear hH
    generalize ((((w4.setCell ⟨V2.heap.size, 0, none⟩ (.int .u8 0)).setCell ⟨V2.heap.size, 1, none⟩ (.int .u8 0)).setCell ⟨V2.heap.size, 2, none⟩ (.int .u8 0)).setCell ⟨V2.heap.size, 3, none⟩ (.int .u8 0)) = V5 at *
    have P5 := Lib.hid (P2.out.bel gH.out)
    have r5 := Lib.hid (r2.out.bel gH.out)
    have b5 := Lib.hid (bel_trans b2.out gH.out)
    have z5 := Lib.hid (bel_heap gH.out hz.out)
    clear P2 r2 b2 gH hz t1 x0 x1 x2 x3 x4 x5 x6 x7 x8 k0 k1 k2 k3 k4 k5 k6 k7 k42 k43 k44 k45
    go_wp2_with (refine x_load rfl _ rfl _ rfl _ v rfl r5.out ?_)
    refine (fail_at v P5.out).mono ?_; rintro e w7 ⟨rfl, P7, g7⟩
    have P7 := Lib.hid P7
    go_wp2_with fail
    go_ret
    exact ⟨rfl, Left.only P7.out (only_trans (bel_only b5.out _) g7) A.out.gb⟩
end
end Go.Proofs.YtiobgnelhiadbaaGreatDoor.K6
