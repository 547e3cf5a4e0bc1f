/- The document's machine (layer 6): a step of one that has no instruction. -/
import Derived.Test.YtiobgnelhiadbaaGreatDoorZMachGRl
import Derived.Test.YtiobgnelhiadbaaGreatDoorZInstGDc
import Derived.Test.YtiobgnelhiadbaaGreatDoorZMachGA
namespace Go.Proofs.YtiobgnelhiadbaaGreatDoor.K6
open Go.RowKit
set_option linter.unusedVariables false
variable [Far]
omit [Far] in
theorem rdec_bel (x : Int) (w : World) (hx : W32 x) :
    Calls Tryz.prog 74 #[.int .u32 x] w fun e w' => e = .returned (.tuple #[.agg #[.int .u8 (I2.dO x), .int .u8 (I2.dD x), .int .u8 (I2.dS x), .int .u8 (I2.dT x), .bool (I2.dB x), .int .i32 (I2.dN x)], .bool (I2.dk x)]) ∧ Below w.heap.size w w' :=
  (I2.rdec_any x w hx).mono fun e w' ⟨h1, h2⟩ => ⟨h1, h2.bel⟩
omit [Far] in
theorem ld_w32 {f : Nat → Int} (hf : Bytes f) (a : Nat) : W32 (ldB f a 4) := by
  have h := ldB_in hf a 4
  have h2 := h.2
  rw [show (256 : Int) ^ 4 = 4294967296 by decide] at h2
  exact ⟨h.1, h2⟩
set_option maxHeartbeats 2000000 in
set_option maxRecDepth 100000 in
theorem step_none6 (q : RV) (m : MS) (L : Nat) (lv : Int) (w : World) (hA : RefAt w q m L) (hm : MOk m) (hk : m.sk = 0) (hn : ¬ (lv ≤ 15 ∧ m.pil < lv)) (h0 : 0 ≤ lv) (hno : thE m.sz m.pc 4 ≠ 0 ∨ (thE m.sz m.pc 4 = 0 ∧ I2.dk (ldB m.f m.pc.toNat 4) = false)) :
    Calls Tryz.prog 14 #[.agg (rrow q), .int .u8 lv] w (Gives w (m.stp 3 0) L) := by
  have HA := Lib.hid hA
  have hsk : q.sk = 0 := hA.sk.trans hk
  obtain ⟨p, c0, hms, _⟩ := hA.mem.sl
  have HMS : Hid (q.ms = .slice p m.sz c0) := hms
  have HCS := Lib.hid (fun W (hW : RefAt W q m L) => stopped_ref q m L 3 0 W hW)
  have HE : Hid (∃ u er : Int, W32 u ∧ (er ≠ 0 ∨ (er = 0 ∧ I2.dk u = false)) ∧ ∀ W, RefAt W q m L → Calls Tryz.prog 73 #[.slice p m.sz c0, .int .u32 q.pc, .int .i64 4] W fun e w' => e = .returned (.tuple #[.int .u32 u, .int .i64 er]) ∧ Below W.heap.size W w') := by
    rcases hno with h | ⟨h, hd⟩
    · refine ⟨0, thE m.sz m.pc 4, ⟨Int.le_refl _, by decide⟩, .inl h, fun W hW => ?_⟩
      rw [hA.pc]
      exact (M5.rload_no p m.sz c0 m.pc 4 W hm.sz hm.pc h).mono fun e w' ⟨h1, h2⟩ => ⟨h1, h2 ▸ Below.refl _ _⟩
    · obtain ⟨y, hy⟩ : ∃ y : Nat, m.pc = y := ⟨m.pc.toNat, by have := hm.pc.1; omega⟩
      refine ⟨ldB m.f m.pc.toNat 4, 0, ld_w32 hm.f _, .inr ⟨rfl, hd⟩, fun W hW => ?_⟩
      rw [hA.pc, hy, Int.toNat_natCast]
      exact M5.rload_yes (.slice p m.sz c0) m.sz m.f y 4 W hm.sz (by rw [← hms]; exact hW.mem.sl) hm.f (by rw [← hy]; exact h)
  obtain ⟨u, er, hu, hor, HL⟩ := HE.out
  have HL := Lib.hid HL
  have HU := Lib.hid hu
  have hnt : lv ≤ 15 → ¬ q.pil < lv := fun h => by rw [hA.pil]; intro hh; exact hn ⟨h, hh⟩
  clear hA hk hm hno hms HE hn
  have hor2 : (er != 0) = true ∨ (er = 0 ∧ I2.dk u = false) := hor.imp (fun h => by simpa using h) id
  clear hor
  by_cases hl : lv ≤ 15
  · have hpl := hnt hl
    clear hnt
    go_enter Tryz.func14, Tryz.ntmps14
    go_upto_region 1 with (refine q_start rfl rfl (.tmp 0) rfl (some 2) (some 4) rfl rfl q rfl (fun W => by kernel_rfl) ?_; intro V1 z r1 z1 b1 s1; obtain ⟨k0, k1, k2, k3, k4, k5, k6, k7, k8, k9, k10, k11, k12, k13, k14, k15⟩ := r1.out.all; rw [hsk] at k14; rw [HMS.out] at k3)
    have A1 := Lib.hid (HA.out.bel b1)
    go_wp2_with fail
    refine (HL.out _ A1.out).mono ?_; rintro e w2 ⟨rfl, g2⟩
    go_wp2_with fail
    refine (rdec_bel u w2 HU.out).mono ?_; rintro e w3 ⟨rfl, g3⟩
    have g3' := bel_trans g2 g3
    have r3 := Lib.hid (r1.out.bel g3')
    have z3 := Lib.hid (z1.out.bel g3')
    have b3 := bel_trans b1 g3'
    have A3 := Lib.hid (A1.out.bel g3')
    clear k0 k1 k2 k3 k4 k5 k6 k7 k8 k9 k10 k11 k12 k13 k14 k15 g2 g3 g3' A1 r1 z1
    go_upto_region 9 with (fail)
    change Code.wp _ _ _ _ (w3.alloc (.cells #[.int .u8 (I2.dO u), .int .u8 (I2.dD u), .int .u8 (I2.dS u), .int .u8 (I2.dT u), .bool (I2.dB u), .int .i32 (I2.dN u)] 88))
    have gI : Below w3.heap.size w3 (w3.alloc (.cells #[.int .u8 (I2.dO u), .int .u8 (I2.dD u), .int .u8 (I2.dS u), .int .u8 (I2.dT u), .bool (I2.dB u), .int .i32 (I2.dN u)] 88)) := (Below.refl _ _).alloc (Nat.le_refl _) _
    have r4 := Lib.hid (r3.out.bel gI)
    have z4 := Lib.hid (z3.out.bel gI)
    have b4 := bel_trans b3 gI
    have A4 := Lib.hid (A3.out.bel gI)
    clear r3 z3 b3 A3
    generalize w3.alloc (.cells #[.int .u8 (I2.dO u), .int .u8 (I2.dD u), .int .u8 (I2.dS u), .int .u8 (I2.dT u), .bool (I2.dB u), .int .i32 (I2.dN u)] 88) = V4 at r4 z4 b4 A4 gI ⊢
    clear gI
    rcases hor2 with he | ⟨rfl, hd⟩
    · go_wp2_with (first
        | (refine q_load rfl (.tmp 2) rfl (some 57) rfl _ q rfl r4.out ?_))
      refine (HCS.out _ A4.out).mono ?_; rintro e w5 ⟨q5, rfl, A5, g5⟩
      have R5 := Lib.hid A5
      have z5 := Lib.hid (z4.out.bel g5)
      have b5 := bel_trans b4 g5
      clear A5
      go_wp2_with (first
        | (refine q_whole rfl (.tmp 4) (.tmp 58) rfl z rzero q5 rfl rfl z5.out R5.out.ok ?_; intro V z' y'))
      exact gives_end rfl rfl rfl R5.out z5.out y'.out z'.out b5 s1.out
    · rw [hd]
      go_wp2_with (first
        | (refine q_load rfl (.tmp 2) rfl (some 57) rfl _ q rfl r4.out ?_))
      refine (HCS.out _ A4.out).mono ?_; rintro e w5 ⟨q5, rfl, A5, g5⟩
      have R5 := Lib.hid A5
      have z5 := Lib.hid (z4.out.bel g5)
      have b5 := bel_trans b4 g5
      clear A5
      go_wp2_with (first
        | (refine q_whole rfl (.tmp 4) (.tmp 58) rfl z rzero q5 rfl rfl z5.out R5.out.ok ?_; intro V z' y'))
      exact gives_end rfl rfl rfl R5.out z5.out y'.out z'.out b5 s1.out
  · clear hnt
    go_enter Tryz.func14, Tryz.ntmps14
    go_upto_region 1 with (refine q_start rfl rfl (.tmp 0) rfl (some 2) (some 4) rfl rfl q rfl (fun W => by kernel_rfl) ?_; intro V1 z r1 z1 b1 s1; obtain ⟨k0, k1, k2, k3, k4, k5, k6, k7, k8, k9, k10, k11, k12, k13, k14, k15⟩ := r1.out.all; rw [hsk] at k14; rw [HMS.out] at k3)
    have A1 := Lib.hid (HA.out.bel b1)
    go_wp2_with fail
    refine (HL.out _ A1.out).mono ?_; rintro e w2 ⟨rfl, g2⟩
    go_wp2_with fail
    refine (rdec_bel u w2 HU.out).mono ?_; rintro e w3 ⟨rfl, g3⟩
    have g3' := bel_trans g2 g3
    have r3 := Lib.hid (r1.out.bel g3')
    have z3 := Lib.hid (z1.out.bel g3')
    have b3 := bel_trans b1 g3'
    have A3 := Lib.hid (A1.out.bel g3')
    clear k0 k1 k2 k3 k4 k5 k6 k7 k8 k9 k10 k11 k12 k13 k14 k15 g2 g3 g3' A1 r1 z1
    go_upto_region 9 with (fail)
    change Code.wp _ _ _ _ (w3.alloc (.cells #[.int .u8 (I2.dO u), .int .u8 (I2.dD u), .int .u8 (I2.dS u), .int .u8 (I2.dT u), .bool (I2.dB u), .int .i32 (I2.dN u)] 88))
    have gI : Below w3.heap.size w3 (w3.alloc (.cells #[.int .u8 (I2.dO u), .int .u8 (I2.dD u), .int .u8 (I2.dS u), .int .u8 (I2.dT u), .bool (I2.dB u), .int .i32 (I2.dN u)] 88)) := (Below.refl _ _).alloc (Nat.le_refl _) _
    have r4 := Lib.hid (r3.out.bel gI)
    have z4 := Lib.hid (z3.out.bel gI)
    have b4 := bel_trans b3 gI
    have A4 := Lib.hid (A3.out.bel gI)
    clear r3 z3 b3 A3
    generalize w3.alloc (.cells #[.int .u8 (I2.dO u), .int .u8 (I2.dD u), .int .u8 (I2.dS u), .int .u8 (I2.dT u), .bool (I2.dB u), .int .i32 (I2.dN u)] 88) = V4 at r4 z4 b4 A4 gI ⊢
    clear gI
    rcases hor2 with he | ⟨rfl, hd⟩
    · go_wp2_with (first
        | (refine q_load rfl (.tmp 2) rfl (some 57) rfl _ q rfl r4.out ?_))
      refine (HCS.out _ A4.out).mono ?_; rintro e w5 ⟨q5, rfl, A5, g5⟩
      have R5 := Lib.hid A5
      have z5 := Lib.hid (z4.out.bel g5)
      have b5 := bel_trans b4 g5
      clear A5
      go_wp2_with (first
        | (refine q_whole rfl (.tmp 4) (.tmp 58) rfl z rzero q5 rfl rfl z5.out R5.out.ok ?_; intro V z' y'))
      exact gives_end rfl rfl rfl R5.out z5.out y'.out z'.out b5 s1.out
    · rw [hd]
      go_wp2_with (first
        | (refine q_load rfl (.tmp 2) rfl (some 57) rfl _ q rfl r4.out ?_))
      refine (HCS.out _ A4.out).mono ?_; rintro e w5 ⟨q5, rfl, A5, g5⟩
      have R5 := Lib.hid A5
      have z5 := Lib.hid (z4.out.bel g5)
      have b5 := bel_trans b4 g5
      clear A5
      go_wp2_with (first
        | (refine q_whole rfl (.tmp 4) (.tmp 58) rfl z rzero q5 rfl rfl z5.out R5.out.ok ?_; intro V z' y'))
      exact gives_end rfl rfl rfl R5.out z5.out y'.out z'.out b5 s1.out
end Go.Proofs.YtiobgnelhiadbaaGreatDoor.K6
