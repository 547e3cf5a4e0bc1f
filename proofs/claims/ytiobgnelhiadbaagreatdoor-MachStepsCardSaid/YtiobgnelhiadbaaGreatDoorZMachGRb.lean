/- The document's machine (layer 6): what window, flow come to. The document's machine (layer 6): what flow (OpCall to OpRestore) comes to. -/
import Derived.Test.YtiobgnelhiadbaaGreatDoorZMachGRa
import Derived.Test.YtiobgnelhiadbaaGreatDoorZWordG
import Derived.Deep.DeepCutAuto
import Derived.Deep.CutBlock
namespace Go.Proofs.YtiobgnelhiadbaaGreatDoor.K6
open Go.RowKit
set_option linter.unusedVariables false
variable [Far]
/-- What is stored whole into the result's block at the end is what the call gives. -/
theorem gives_end {w w1 V : World} {q q0 : RV} {m : MS} {L z : Nat} {fn : Func} {a : Act} {p : Tmp} (h : fn.results = #[.cell p 39]) (hp : a.tmps.getD p undef = .pointer (some ⟨z, 0, none⟩)) (hd : a.defers = [])
    (hA : RefAt w1 q m L) (hz : RowQ w1 z q0) (g : w1.grownBy V (some z)) (hV : RowQ V z q) (hb : Below w.heap.size w w1) (hlt : w.heap.size < z) : bodyPost Tryz.prog fn (Gives w m L) .ret a V :=
  q_ret h hp hV hd ⟨q, rfl, hA.only hz g, only_bel hb g (Nat.le_of_lt hlt)⟩
set_option maxRecDepth 100000 in
theorem window_ref (q : RV) (m : MS) (L : Nat) (k pc : Int) (w : World) (hA : RefAt w q m L) (hm : MOk m) (hk0 : 0 ≤ k) (hk1 : k < 256) :
    Calls Tryz.prog 146 #[.agg (rrow q), .int .u8 k, .int .u32 pc] w (Gives w (m.wnd k pc) L) := by
  have HA := Lib.hid hA
  by_cases hb : m.bank = 0
  · have e : m.wnd k pc = m.trap 16 k pc := by unfold MS.wnd; rw [if_pos hb]
    rw [e]
    have HC := Lib.hid (fun W (hW : RefAt W q m L) => trap_ref q m L 16 k pc W hW hm (by decide) (by decide) hk0 hk1)
    have hq : q.bank = 0 := by rw [hA.bank, hb]
    clear hA hm hb e
    go_enter Tryz.func146, Tryz.ntmps146
    go_upto_region 1 with (refine q_start rfl rfl (.tmp 0) rfl (some 3) (some 6) rfl rfl q rfl (fun W => by kernel_rfl) ?_; intro V1 z r1 z1 b1 s1; obtain ⟨k0, k1, k2, k3, k4, k5, k6, k7, k8, k9, k10, k11, k12, k13, k14, k15⟩ := r1.out.all)
    go_wp2_with (first
      | (refine q_load rfl (.tmp 3) rfl (some 13) rfl _ q rfl r1.out ?_))
    refine (HC.out _ (HA.out.bel b1)).mono ?_; rintro e w2 ⟨q2, rfl, A2, g2⟩
    have R2 := Lib.hid A2
    have z2 := Lib.hid (z1.out.bel g2)
    have b2 := bel_trans b1 g2
    clear A2 k0 k1 k2 k3 k4 k5 k6 k7 k8 k9 k10 k11 k12 k13 k14 k15 r1
    go_wp2_with (first
      | (refine q_whole rfl (.tmp 6) (.tmp 16) rfl z rzero q2 rfl rfl z2.out R2.out.ok ?_; intro V3 z3 y3))
    exact gives_end rfl rfl rfl R2.out z2.out y3.out z3.out b2 s1.out
  · have e : m.wnd k pc = m.stp 3 0 := by unfold MS.wnd; rw [if_neg hb]
    rw [e]
    have HC := Lib.hid (fun W (hW : RefAt W q m L) => stopped_ref q m L 3 0 W hW)
    have hq : (q.bank != 0) = true := by rw [hA.bank]; simpa using hb
    clear hA hm hb e
    go_enter Tryz.func146, Tryz.ntmps146
    go_upto_region 1 with (refine q_start rfl rfl (.tmp 0) rfl (some 3) (some 6) rfl rfl q rfl (fun W => by kernel_rfl) ?_; intro V1 z r1 z1 b1 s1; obtain ⟨k0, k1, k2, k3, k4, k5, k6, k7, k8, k9, k10, k11, k12, k13, k14, k15⟩ := r1.out.all)
    go_wp2_with (first
      | (refine q_load rfl (.tmp 3) rfl (some 11) rfl _ q rfl r1.out ?_))
    refine (HC.out _ (HA.out.bel b1)).mono ?_; rintro e w2 ⟨q2, rfl, A2, g2⟩
    have R2 := Lib.hid A2
    have z2 := Lib.hid (z1.out.bel g2)
    have b2 := bel_trans b1 g2
    clear A2 k0 k1 k2 k3 k4 k5 k6 k7 k8 k9 k10 k11 k12 k13 k14 k15 r1
    go_wp2_with (first
      | (refine q_whole rfl (.tmp 6) (.tmp 12) rfl z rzero q2 rfl rfl z2.out R2.out.ok ?_; intro V3 z3 y3))
    exact gives_end rfl rfl rfl R2.out z2.out y3.out z3.out b2 s1.out
set_option maxHeartbeats 1000000 in
set_option maxRecDepth 100000 in
theorem flow15 (q : RV) (m : MS) (L : Nat) (d s t : Int) (ib : Bool) (n a b : Int) (w : World) (hA : RefAt w q m L) (hm : MOk m) (hL : L ≤ 900) (hd0 : 0 ≤ d) (hd1 : d < 32) (hn : 0 ≤ n ∧ n ≤ 2097151) :
    Calls Tryz.prog 80 #[.agg (rrow q), .agg (irow 15 d s t ib n), .int .u32 a, .int .u32 b] w (Gives w (m.set d (n % 4294967296 * 2048 % 4294967296)).on (L + 1)) := by
  have HA := Lib.hid hA
  obtain ⟨hn0, hn1⟩ := hn
  have HS := Lib.hid (fun W (hW : RefAt W q m L) => set_ref q m L d (n % 4294967296 * 2048 % 4294967296) W hW hm hL hd0 hd1)
  have HO := Lib.hid (fun W q2 (hW : RefAt W q2 (m.set d (n % 4294967296 * 2048 % 4294967296)) (L + 1)) => on_ref q2 _ (L + 1) W hW)
  rw [show n % 4294967296 = n by omega] at HS HO ⊢
  rw [show n * 2048 % 4294967296 = n * 2048 by omega] at HS HO ⊢
  clear hA hm
  go_enter Tryz.func80, Tryz.ntmps80
  go_upto_region 1 with (refine q_start3 rfl rfl rfl (.tmp 0) (.tmp 1) rfl rfl (some 4) (some 5) (some 8) rfl rfl rfl q rfl 15 d s t ib n rfl (fun W c => by kernel_rfl) ?_; intro V1 c z r1 i1 z1 b1 s1; obtain ⟨k0, k1, k2, k3, k4, k5, k6, k7, k8, k9, k10, k11, k12, k13, k14, k15⟩ := r1.out.all; obtain ⟨j0, j1, j2, j3, j4, j5⟩ := i1.out.all)
  go_wp2_with (first
    | (refine q_load rfl (.tmp 4) rfl (some 21) rfl _ q rfl r1.out ?_))
  refine (HS.out _ (HA.out.bel b1)).mono ?_; rintro e w2 ⟨q2, rfl, A2, g2⟩
  have R2 := Lib.hid A2
  have z2 := Lib.hid (z1.out.bel g2)
  have b2 := bel_trans b1 g2
  clear A2 k0 k1 k2 k3 k4 k5 k6 k7 k8 k9 k10 k11 k12 k13 k14 k15 r1 j0 j1 j2 j3 j4 j5 HS
  go_wp2_with fail
  refine (HO.out _ _ R2.out).mono ?_; rintro e w3 ⟨q3, rfl, A3, g3⟩
  have R3 := Lib.hid A3
  have z3 := Lib.hid (z2.out.bel g3)
  have b3 := bel_trans b2 g3
  clear A3 R2
  go_wp2_with (first
    | (refine q_whole rfl (.tmp 8) (.tmp 30) rfl z rzero q3 rfl rfl z3.out R3.out.ok ?_; intro V4 z4 y4))
  exact gives_end rfl rfl rfl R3.out z3.out y4.out z4.out b3 s1.out
set_option maxHeartbeats 1000000 in
set_option maxRecDepth 100000 in
theorem flow16 (q : RV) (m : MS) (L : Nat) (d s t : Int) (ib : Bool) (n a b : Int) (w : World) (hA : RefAt w q m L) (hm : MOk m) (ha : W32 a) (hb : W32 b) :
    Calls Tryz.prog 80 #[.agg (rrow q), .agg (irow 16 d s t ib n), .int .u32 a, .int .u32 b] w (Gives w ((m.flg (W1.fl a b)).on) (L)) := by
  have HA := Lib.hid hA
  have HF := Lib.hid (fun W => W1.rflags_any a b W ha hb)
  have HO := Lib.hid (fun W q2 (hW : RefAt W q2 (m.flg (W1.fl a b)) L) => on_ref q2 _ L W hW)
  clear hA hm ha hb
  go_enter Tryz.func80, Tryz.ntmps80
  go_upto_region 1 with (refine q_start3 rfl rfl rfl (.tmp 0) (.tmp 1) rfl rfl (some 4) (some 5) (some 8) rfl rfl rfl q rfl 16 d s t ib n rfl (fun W c => by kernel_rfl) ?_; intro V1 c z r1 i1 z1 b1 s1; obtain ⟨k0, k1, k2, k3, k4, k5, k6, k7, k8, k9, k10, k11, k12, k13, k14, k15⟩ := r1.out.all; obtain ⟨j0, j1, j2, j3, j4, j5⟩ := i1.out.all)
  go_wp2_with fail
  refine (HF.out _).mono ?_; rintro e w2 ⟨rfl, g2⟩
  subst g2
  have r2 := r1
  have z2 := z1
  have b2 := b1
  clear k0 k1 k2 k3 k4 k5 k6 k7 k8 k9 k10 k11 k12 k13 k14 k15 j0 j1 j2 j3 j4 j5
  go_wp2_with (first
    | (refine q_store rfl _ (.tmp 37) (.tmp 35) rfl q { q with fl := W1.fl a b } _ _ rfl _ rfl r2.out (by kernel_rfl) (rv_one _ _) (Nat.le_of_ble_eq_true rfl) rfl ?_; intro V3 r3 g3; have z3 := Lib.hid (z2.out.only g3 (by have := s1.out; omega)); have b3 := only_bel b2 g3 (Nat.le_refl _))
    | (refine q_load rfl (.tmp 4) rfl (some 38) rfl _ { q with fl := W1.fl a b } rfl r3.out ?_))
  refine (HO.out _ { q with fl := W1.fl a b } { HA.out.bel b3 with fl := rfl }).mono ?_; rintro e w4 ⟨q4, rfl, A4, g4⟩
  have R4 := Lib.hid A4
  have z4 := Lib.hid (z3.out.bel g4)
  have b4 := bel_trans b3 g4
  clear A4
  go_wp2_with (first
    | (refine q_whole rfl (.tmp 8) (.tmp 39) rfl z rzero q4 rfl rfl z4.out R4.out.ok ?_; intro V z' y'))
  exact gives_end rfl rfl rfl R4.out z4.out y'.out z'.out b4 s1.out
set_option maxHeartbeats 1000000 in
set_option maxRecDepth 100000 in
theorem flow17no (q : RV) (m : MS) (L : Nat) (d s t : Int) (ib : Bool) (n a b : Int) (w : World) (hA : RefAt w q m L) (hm : MOk m) (hd0 : 0 ≤ d) (hd1 : d < 32) (hh : W1.hv d m.fl = false) :
    Calls Tryz.prog 80 #[.agg (rrow q), .agg (irow 17 d s t ib n), .int .u32 a, .int .u32 b] w (Gives w (m.on) (L)) := by
  have HA := Lib.hid hA
  have HF := Lib.hid (fun W => W1.rholds_any d q.fl W (by omega) (by rw [hA.fl]; have := hm.f0; have := hm.f1; omega))
  rw [hA.fl, hh, ← hA.fl] at HF
  have HO := Lib.hid (fun W q2 (hW : RefAt W q2 m L) => on_ref q2 _ L W hW)
  clear hA hm hd0 hd1 hh
  go_enter Tryz.func80, Tryz.ntmps80
  go_upto_region 1 with (refine q_start3 rfl rfl rfl (.tmp 0) (.tmp 1) rfl rfl (some 4) (some 5) (some 8) rfl rfl rfl q rfl 17 d s t ib n rfl (fun W c => by kernel_rfl) ?_; intro V1 c z r1 i1 z1 b1 s1; obtain ⟨k0, k1, k2, k3, k4, k5, k6, k7, k8, k9, k10, k11, k12, k13, k14, k15⟩ := r1.out.all; obtain ⟨j0, j1, j2, j3, j4, j5⟩ := i1.out.all)
  go_wp2_with fail
  refine (HF.out _).mono ?_; rintro e w2 ⟨rfl, g2⟩
  subst g2
  clear k0 k1 k2 k3 k4 k5 k6 k7 k8 k9 k10 k11 k12 k13 k14 k15 j0 j1 j2 j3 j4 j5
  go_wp2_with (first
    | (refine q_load rfl (.tmp 4) rfl (some 49) rfl _ q rfl r1.out ?_))
  refine (HO.out _ q (HA.out.bel b1)).mono ?_; rintro e w4 ⟨q4, rfl, A4, g4⟩
  have R4 := Lib.hid A4
  have z4 := Lib.hid (z1.out.bel g4)
  have b4 := bel_trans b1 g4
  clear A4
  go_wp2_with (first
    | (refine q_whole rfl (.tmp 8) (.tmp 50) rfl z rzero q4 rfl rfl z4.out R4.out.ok ?_; intro V z' y'))
  exact gives_end rfl rfl rfl R4.out z4.out y'.out z'.out b4 s1.out
set_option maxHeartbeats 1000000 in
set_option maxRecDepth 100000 in
theorem flow17yes (q : RV) (m : MS) (L : Nat) (d s t : Int) (ib : Bool) (n a b : Int) (w : World) (hA : RefAt w q m L) (hm : MOk m) (hd0 : 0 ≤ d) (hd1 : d < 32) (hb : W32 b) (hh : W1.hv d m.fl = true) :
    Calls Tryz.prog 80 #[.agg (rrow q), .agg (irow 17 d s t ib n), .int .u32 a, .int .u32 b] w (Gives w (m.jmp ((m.pc + 4 * b % 4294967296) % 4294967296)) L) := by
  have HA := Lib.hid hA
  have HO := Lib.hid hA.ok
  have HF := Lib.hid (fun W => W1.rholds_any d q.fl W (by omega) (by rw [hA.fl]; have := hm.f0; have := hm.f1; omega))
  rw [hA.fl, hh, ← hA.fl] at HF
  rw [← hA.pc]
  obtain ⟨PC, hPC⟩ : ∃ PC, PC = (q.pc + 4 * b % 4294967296) % 4294967296 := ⟨_, rfl⟩
  rw [← hPC]
  have HPC := Lib.hid hPC
  clear hA hm hd0 hd1 hh hPC
  go_enter Tryz.func80, Tryz.ntmps80
  go_upto_region 1 with (refine q_start3 rfl rfl rfl (.tmp 0) (.tmp 1) rfl rfl (some 4) (some 5) (some 8) rfl rfl rfl q rfl 17 d s t ib n rfl (fun W c => by kernel_rfl) ?_; intro V1 c z r1 i1 z1 b1 s1; obtain ⟨k0, k1, k2, k3, k4, k5, k6, k7, k8, k9, k10, k11, k12, k13, k14, k15⟩ := r1.out.all; obtain ⟨j0, j1, j2, j3, j4, j5⟩ := i1.out.all)
  go_wp2_with fail
  refine (HF.out _).mono ?_; rintro e w2 ⟨rfl, g2⟩
  subst g2
  clear k0 k1 k2 k3 k4 k5 k6 k7 k8 k9 k10 k11 k12 k13 k14 k15 j0 j1 j2 j3 j4 j5
  go_wp2_with (first
    | (refine q_store rfl _ (.tmp 55) (.tmp 54) rfl q { q with pc := (q.pc + 4 * b % 4294967296) % 4294967296 } _ _ rfl _ rfl r1.out (by kernel_rfl) (rv_one _ _) (Nat.le_of_ble_eq_true rfl) rfl ?_; intro V8 r8 g8; have z8 := Lib.hid (z1.out.only g8 (by have := s1.out; omega)); have b8 := only_bel b1 g8 (Nat.le_refl _))
    | (refine q_load rfl (.tmp 4) rfl (some 56) rfl _ { q with pc := (q.pc + 4 * b % 4294967296) % 4294967296 } rfl r8.out ?_)
    | (refine q_whole rfl (.tmp 8) (.tmp 56) rfl z rzero { q with pc := (q.pc + 4 * b % 4294967296) % 4294967296 } rfl rfl z8.out ⟨HO.out.1, HO.out.2, HO.out.3, HO.out.4, HO.out.5, HO.out.6⟩ ?_; intro V z' y'))
  exact gives_end rfl rfl rfl (q := { q with pc := (q.pc + 4 * b % 4294967296) % 4294967296 }) { (HA.out.bel b1).only r1.out g8 with pc := HPC.out.symm } z8.out y'.out z'.out b8 s1.out
end Go.Proofs.YtiobgnelhiadbaaGreatDoor.K6
namespace Go.Proofs.YtiobgnelhiadbaaGreatDoor.K6
open Go.RowKit
set_option linter.unusedVariables false
variable [Far]
set_option maxHeartbeats 2000000 in
set_option maxRecDepth 100000 in
theorem flow18 (q : RV) (m : MS) (L : Nat) (d s t : Int) (ib : Bool) (n a b : Int) (w : World) (hA : RefAt w q m L) (hm : MOk m) (hL : L ≤ 900) (hb : W32 b) :
    Calls Tryz.prog 80 #[.agg (rrow q), .agg (irow 18 d s t ib n), .int .u32 a, .int .u32 b] w (Gives w ((m.set 15 m.pc).jmp ((m.pc + 4 * b % 4294967296) % 4294967296)) (L + 1)) := by
  have HA := Lib.hid hA
  have HS := Lib.hid (fun W (hW : RefAt W q m L) => set_ref q m L 15 m.pc W hW hm hL (by decide) (by decide))
  rw [← hA.pc] at HS ⊢
  obtain ⟨PC, hPC⟩ : ∃ PC, PC = (q.pc + 4 * b % 4294967296) % 4294967296 := ⟨_, rfl⟩
  rw [← hPC]
  have HPC := Lib.hid hPC
  clear hA hm hPC
  go_enter Tryz.func80, Tryz.ntmps80
  go_upto_region 1 with (refine q_start3 rfl rfl rfl (.tmp 0) (.tmp 1) rfl rfl (some 4) (some 5) (some 8) rfl rfl rfl q rfl 18 d s t ib n rfl (fun W c => by kernel_rfl) ?_; intro V1 c z r1 i1 z1 b1 s1; obtain ⟨k0, k1, k2, k3, k4, k5, k6, k7, k8, k9, k10, k11, k12, k13, k14, k15⟩ := r1.out.all; obtain ⟨j0, j1, j2, j3, j4, j5⟩ := i1.out.all)
  go_wp2_with (first
    | (refine q_load rfl (.tmp 4) rfl (some 59) rfl _ q rfl r1.out ?_))
  refine (HS.out _ (HA.out.bel b1)).mono ?_; rintro e w2 ⟨q2, rfl, A2, g2⟩
  have R2 := Lib.hid A2
  have r2 := Lib.hid (r1.out.bel g2)
  have z2 := Lib.hid (z1.out.bel g2)
  have b2 := bel_trans b1 g2
  clear A2
  clear k0 k1 k2 k3 k4 k5 k6 k7 k8 k9 k10 k11 k12 k13 k14 k15 j0 j1 j2 j3 j4 j5 HS
  go_wp2_with (first
    | (refine q_whole rfl (.tmp 4) (.tmp 61) rfl w.heap.size q q2 rfl rfl r2.out R2.out.ok ?_; intro V3 r3 g3; have A3 := Lib.hid (R2.out.only r2.out g3.out); have z3 := Lib.hid (z2.out.only g3.out (by have := s1.out; omega)); have b3 := only_bel b2 g3.out (Nat.le_refl _))
    | (refine q_store rfl _ (.tmp 66) (.tmp 65) rfl q2 { q2 with pc := (q.pc + 4 * b % 4294967296) % 4294967296 } _ _ rfl _ rfl r3.out (by kernel_rfl) (rv_one _ _) (Nat.le_of_ble_eq_true rfl) rfl ?_; intro V4 r4 g4; have z4 := Lib.hid (z3.out.only g4 (by have := s1.out; omega)); have b4 := only_bel b3 g4 (Nat.le_refl _))
    | (refine q_load rfl (.tmp 4) rfl (some 67) rfl _ { q2 with pc := (q.pc + 4 * b % 4294967296) % 4294967296 } rfl r4.out ?_)
    | (refine q_whole rfl (.tmp 8) (.tmp 67) rfl z rzero { q2 with pc := (q.pc + 4 * b % 4294967296) % 4294967296 } rfl rfl z4.out ⟨A3.out.ok.1, A3.out.ok.2, A3.out.ok.3, A3.out.ok.4, A3.out.ok.5, A3.out.ok.6⟩ ?_; intro V z' y'))
  exact gives_end rfl rfl rfl (q := { q2 with pc := (q.pc + 4 * b % 4294967296) % 4294967296 }) { A3.out.only r3.out g4 with pc := HPC.out.symm } z4.out y'.out z'.out b4 s1.out
set_option maxHeartbeats 2000000 in
set_option maxRecDepth 100000 in
theorem flow19 (q : RV) (m : MS) (L : Nat) (d s t : Int) (ib : Bool) (n a b : Int) (w : World) (hA : RefAt w q m L) (hm : MOk m) (hL : L ≤ 900) (hd0 : 0 ≤ d) (hd1 : d < 32) :
    Calls Tryz.prog 80 #[.agg (rrow q), .agg (irow 19 d s t ib n), .int .u32 a, .int .u32 b] w (Gives w ((m.set d m.pc).jmp ((a + b) % 4294967296)) (L + 1)) := by
  have HA := Lib.hid hA
  have HS := Lib.hid (fun W (hW : RefAt W q m L) => set_ref q m L d m.pc W hW hm hL hd0 hd1)
  rw [← hA.pc] at HS ⊢
  obtain ⟨PC, hPC⟩ : ∃ PC, PC = (a + b) % 4294967296 := ⟨_, rfl⟩
  rw [← hPC]
  have HPC := Lib.hid hPC
  clear hA hm hPC
  go_enter Tryz.func80, Tryz.ntmps80
  go_upto_region 1 with (refine q_start3 rfl rfl rfl (.tmp 0) (.tmp 1) rfl rfl (some 4) (some 5) (some 8) rfl rfl rfl q rfl 19 d s t ib n rfl (fun W c => by kernel_rfl) ?_; intro V1 c z r1 i1 z1 b1 s1; obtain ⟨k0, k1, k2, k3, k4, k5, k6, k7, k8, k9, k10, k11, k12, k13, k14, k15⟩ := r1.out.all; obtain ⟨j0, j1, j2, j3, j4, j5⟩ := i1.out.all)
  go_wp2_with (first
    | (refine q_load rfl (.tmp 4) rfl (some 70) rfl _ q rfl r1.out ?_))
  refine (HS.out _ (HA.out.bel b1)).mono ?_; rintro e w2 ⟨q2, rfl, A2, g2⟩
  have R2 := Lib.hid A2
  have r2 := Lib.hid (r1.out.bel g2)
  have z2 := Lib.hid (z1.out.bel g2)
  have b2 := bel_trans b1 g2
  clear A2
  clear k0 k1 k2 k3 k4 k5 k6 k7 k8 k9 k10 k11 k12 k13 k14 k15 j0 j1 j2 j3 j4 j5 HS
  go_wp2_with (first
    | (refine q_whole rfl (.tmp 4) (.tmp 75) rfl w.heap.size q q2 rfl rfl r2.out R2.out.ok ?_; intro V3 r3 g3; have A3 := Lib.hid (R2.out.only r2.out g3.out); have z3 := Lib.hid (z2.out.only g3.out (by have := s1.out; omega)); have b3 := only_bel b2 g3.out (Nat.le_refl _))
    | (refine q_store rfl _ (.tmp 79) (.tmp 78) rfl q2 { q2 with pc := (a + b) % 4294967296 } _ _ rfl _ rfl r3.out (by kernel_rfl) (rv_one _ _) (Nat.le_of_ble_eq_true rfl) rfl ?_; intro V4 r4 g4; have z4 := Lib.hid (z3.out.only g4 (by have := s1.out; omega)); have b4 := only_bel b3 g4 (Nat.le_refl _))
    | (refine q_load rfl (.tmp 4) rfl (some 80) rfl _ { q2 with pc := (a + b) % 4294967296 } rfl r4.out ?_)
    | (refine q_whole rfl (.tmp 8) (.tmp 80) rfl z rzero { q2 with pc := (a + b) % 4294967296 } rfl rfl z4.out ⟨A3.out.ok.1, A3.out.ok.2, A3.out.ok.3, A3.out.ok.4, A3.out.ok.5, A3.out.ok.6⟩ ?_; intro V z' y'))
  exact gives_end rfl rfl rfl (q := { q2 with pc := (a + b) % 4294967296 }) { A3.out.only r3.out g4 with pc := HPC.out.symm } z4.out y'.out z'.out b4 s1.out
set_option maxHeartbeats 2000000 in
set_option maxRecDepth 100000 in
theorem flow20t (q : RV) (m : MS) (L : Nat) (d s t : Int) (ib : Bool) (n a b : Int) (w : World) (hA : RefAt w q m L) (hm : MOk m) (hL : L ≤ 900) (hx : wx m.wim m.nw = some ((m.cwp + m.nw - 1) % m.nw).toNat) :
    Calls Tryz.prog 80 #[.agg (rrow q), .agg (irow 20 d s t ib n), .int .u32 a, .int .u32 b] w (Gives w (m.wnd 1 m.pc) (L)) := by
  have HA := Lib.hid hA
  have HO := Lib.hid hA.ok
  obtain ⟨x, hxn, hw⟩ := hm.wim
  have hx' := hx
  rw [hw, wx_pw hxn] at hx'
  obtain ⟨T, hT⟩ : ∃ T, T = (m.cwp + m.nw - 1) % m.nw := ⟨_, rfl⟩
  have hTb : 0 ≤ T ∧ T < m.nw := by subst hT; have := hm.n2; exact ⟨Int.emod_nonneg _ (by omega), Int.emod_lt_of_pos _ (by omega)⟩
  rw [← hT] at hx' hx
  have HE : Hid (T = x) := by
    unfold Hid
    simp only [Option.some.injEq] at hx'; omega
  obtain ⟨P, hP⟩ : ∃ P, P = (m.cwp + (m.nw - 1)) % m.nw := ⟨_, rfl⟩
  have HP := Lib.hid (fun W => P4.rAhead_yes q.cwp q.nw W (by rw [hA.nw]; exact hm.n2) (by rw [hA.nw]; exact hm.n32) (by rw [hA.cwp]; exact hm.c0) (by rw [hA.cwp, hA.nw]; exact hm.c1))
  rw [show (q.cwp + (q.nw - 1)) % q.nw = P by rw [hP, hA.cwp, hA.nw]] at HP
  have HN := Lib.hid (fun W => P4.rNext_yes q.cwp q.nw 1 W (by rw [hA.nw]; exact hm.n2) (by rw [hA.nw]; exact hm.n32) (by rw [hA.cwp]; exact hm.c0) (by rw [hA.cwp, hA.nw]; exact hm.c1) (by decide) (by decide))
  rw [show (q.cwp + 1) % q.nw = (m.cwp + 1) % m.nw by rw [hA.cwp, hA.nw]] at HN
  have HI := Lib.hid (fun W => P4.rInvalid_yes x q.nw W (by rw [hA.nw]; exact hm.n2) (by rw [hA.nw]; exact hm.n32) (by rw [hA.nw]; exact hxn))
  have hwq : Hid (q.wim = P4.pw x) := hA.wim.trans hw
  have hc : 0 ≤ q.cwp ∧ q.cwp < 256 := by rw [hA.cwp]; have := hm.c0; have := hm.c1; have := hm.n32; omega
  obtain ⟨hc0, hc1⟩ := hc
  have hT0 := hTb.1
  have hT1 : T < 32 := by have := hm.n32; omega
  have hx32 : (x : Int) < 32 := by have := hm.n32; omega
  have hPT : P = T := by rw [hP, hT]; congr 1; omega
  rw [hPT] at HP
  clear hPT hP HN
  have HX : Hid ((T == (x : Int)) = true) := by unfold Hid; rw [HE.out]; simp
  have HC := Lib.hid (fun W (hW : RefAt W q m L) => window_ref q m L 1 m.pc W hW hm (by decide) (by decide))
  rw [← hA.pc] at HC ⊢
  clear hA hm hx hx' hw hxn hT hTb HE
  go_enter Tryz.func80, Tryz.ntmps80
  go_upto_region 1 with (refine q_start3 rfl rfl rfl (.tmp 0) (.tmp 1) rfl rfl (some 4) (some 5) (some 8) rfl rfl rfl q rfl 20 d s t ib n rfl (fun W c => by kernel_rfl) ?_; intro V1 c z r1 i1 z1 b1 s1; obtain ⟨k0, k1, k2, k3, k4, k5, k6, k7, k8, k9, k10, k11, k12, k13, k14, k15⟩ := r1.out.all; rw [hwq.out] at k9; obtain ⟨j0, j1, j2, j3, j4, j5⟩ := i1.out.all)
  go_wp2_with fail
  refine (HP.out _).mono ?_; rintro e w2 ⟨rfl, g2⟩
  subst g2
  go_wp2_with fail
  refine (HI.out _).mono ?_; rintro e w2 ⟨rfl, g2⟩
  subst g2
  have hX := HX.out
  go_wp2_with (first
    | (refine q_load rfl (.tmp 4) rfl (some 115) rfl _ q rfl r1.out ?_))
  refine (HC.out _ (HA.out.bel b1)).mono ?_; rintro e w2 ⟨q2, rfl, A2, g2⟩
  have R2 := Lib.hid A2
  have z2 := Lib.hid (z1.out.bel g2)
  have b2 := bel_trans b1 g2
  clear A2
  go_wp2_with (first
    | (refine q_whole rfl (.tmp 8) (.tmp 118) rfl z rzero q2 rfl rfl z2.out R2.out.ok ?_; intro V z' y'))
  exact gives_end rfl rfl rfl R2.out z2.out y'.out z'.out b2 s1.out
set_option maxHeartbeats 2000000 in
set_option maxRecDepth 100000 in
theorem flow20n (q : RV) (m : MS) (L : Nat) (d s t : Int) (ib : Bool) (n a b : Int) (w : World) (hA : RefAt w q m L) (hm : MOk m) (hL : L ≤ 900) (hd0 : 0 ≤ d) (hd1 : d < 32) (hx : wx m.wim m.nw ≠ some ((m.cwp + m.nw - 1) % m.nw).toNat) :
    Calls Tryz.prog 80 #[.agg (rrow q), .agg (irow 20 d s t ib n), .int .u32 a, .int .u32 b] w (Gives w (((m.win ((m.cwp + m.nw - 1) % m.nw)).set d ((a + b) % 4294967296)).on) (L + 1)) := by
  have HA := Lib.hid hA
  have HO := Lib.hid hA.ok
  obtain ⟨x, hxn, hw⟩ := hm.wim
  have hx' := hx
  rw [hw, wx_pw hxn] at hx'
  obtain ⟨T, hT⟩ : ∃ T, T = (m.cwp + m.nw - 1) % m.nw := ⟨_, rfl⟩
  have hTb : 0 ≤ T ∧ T < m.nw := by subst hT; have := hm.n2; exact ⟨Int.emod_nonneg _ (by omega), Int.emod_lt_of_pos _ (by omega)⟩
  rw [← hT] at hx' hx ⊢
  have HE : Hid (T ≠ x) := by
    unfold Hid
    intro e; exact hx' (by simp only [Option.some.injEq]; omega)
  obtain ⟨P, hP⟩ : ∃ P, P = (m.cwp + (m.nw - 1)) % m.nw := ⟨_, rfl⟩
  have HP := Lib.hid (fun W => P4.rAhead_yes q.cwp q.nw W (by rw [hA.nw]; exact hm.n2) (by rw [hA.nw]; exact hm.n32) (by rw [hA.cwp]; exact hm.c0) (by rw [hA.cwp, hA.nw]; exact hm.c1))
  rw [show (q.cwp + (q.nw - 1)) % q.nw = P by rw [hP, hA.cwp, hA.nw]] at HP
  have HN := Lib.hid (fun W => P4.rNext_yes q.cwp q.nw 1 W (by rw [hA.nw]; exact hm.n2) (by rw [hA.nw]; exact hm.n32) (by rw [hA.cwp]; exact hm.c0) (by rw [hA.cwp, hA.nw]; exact hm.c1) (by decide) (by decide))
  rw [show (q.cwp + 1) % q.nw = (m.cwp + 1) % m.nw by rw [hA.cwp, hA.nw]] at HN
  have HI := Lib.hid (fun W => P4.rInvalid_yes x q.nw W (by rw [hA.nw]; exact hm.n2) (by rw [hA.nw]; exact hm.n32) (by rw [hA.nw]; exact hxn))
  have hwq : Hid (q.wim = P4.pw x) := hA.wim.trans hw
  have hc : 0 ≤ q.cwp ∧ q.cwp < 256 := by rw [hA.cwp]; have := hm.c0; have := hm.c1; have := hm.n32; omega
  obtain ⟨hc0, hc1⟩ := hc
  have hT0 := hTb.1
  have hT1 : T < 32 := by have := hm.n32; omega
  have hx32 : (x : Int) < 32 := by have := hm.n32; omega
  have hPT : P = T := by rw [hP, hT]; congr 1; omega
  rw [hPT] at HP
  clear hPT hP HN
  obtain ⟨S, hS⟩ : ∃ S, S = (a + b) % 4294967296 := ⟨_, rfl⟩
  rw [← hS]
  have HX : Hid ((T == (x : Int)) = false) := by unfold Hid; simpa using HE.out
  have hm2 : MOk (m.win T) := hm.win hTb.1 hTb.2
  have HS := Lib.hid (fun W q2 (hW : RefAt W q2 (m.win T) L) => set_ref q2 _ L d S W hW hm2 hL hd0 hd1)
  have HN2 := Lib.hid (fun W q2 (hW : RefAt W q2 ((m.win T).set d S) (L + 1)) => on_ref q2 _ (L + 1) W hW)
  have HSS := Lib.hid hS
  clear hA hm hx hx' hw hxn hT hTb hm2 hS HE
  go_enter Tryz.func80, Tryz.ntmps80
  go_upto_region 1 with (refine q_start3 rfl rfl rfl (.tmp 0) (.tmp 1) rfl rfl (some 4) (some 5) (some 8) rfl rfl rfl q rfl 20 d s t ib n rfl (fun W c => by kernel_rfl) ?_; intro V1 c z r1 i1 z1 b1 s1; obtain ⟨k0, k1, k2, k3, k4, k5, k6, k7, k8, k9, k10, k11, k12, k13, k14, k15⟩ := r1.out.all; rw [hwq.out] at k9; obtain ⟨j0, j1, j2, j3, j4, j5⟩ := i1.out.all)
  go_wp2_with fail
  refine (HP.out _).mono ?_; rintro e w2 ⟨rfl, g2⟩
  subst g2
  go_wp2_with fail
  refine (HI.out _).mono ?_; rintro e w2 ⟨rfl, g2⟩
  subst g2
  have hX := HX.out
  clear k0 k1 k2 k3 k4 k5 k6 k7 k8 k9 k10 k11 k12 k13 k14 k15
  go_wp2_with (first
    | (refine q_store rfl _ (.tmp 122) (.tmp 120) rfl q { q with cwp := T } _ _ rfl _ rfl r1.out (by kernel_rfl) (rv_one _ _) (Nat.le_of_ble_eq_true rfl) rfl ?_; intro V2 r2 g2; have z2 := Lib.hid (z1.out.only g2 (by have := s1.out; omega)); have b2 := only_bel b1 g2 (Nat.le_refl _); have i2 := Lib.hid (i1.out.only r1.out g2); clear j0 j1 j2 j3 j4 j5; obtain ⟨j0, j1, j2, j3, j4, j5⟩ := i2.out.all)
    | (refine q_load rfl (.tmp 4) rfl (some 123) rfl _ { q with cwp := T } rfl r2.out ?_))
  rw [← HSS.out]
  refine (HS.out _ { q with cwp := T } { (HA.out.bel b1).only r1.out g2 with cwp := rfl }).mono ?_; rintro e w3 ⟨q3, rfl, A3, g3⟩
  have R3 := Lib.hid A3
  have r3 := Lib.hid (r2.out.bel g3)
  have z3 := Lib.hid (z2.out.bel g3)
  have b3 := bel_trans b2 g3
  clear A3
  go_wp2_with fail
  refine (HN2.out _ _ R3.out).mono ?_; rintro e w4 ⟨q4, rfl, A4, g4⟩
  have R4 := Lib.hid A4
  have z4 := Lib.hid (z3.out.bel g4)
  have b4 := bel_trans b3 g4
  clear A4
  go_wp2_with (first
    | (refine q_whole rfl (.tmp 8) (.tmp 131) rfl z rzero q4 rfl rfl z4.out R4.out.ok ?_; intro V z' y'))
  exact gives_end rfl rfl rfl R4.out z4.out y'.out z'.out b4 s1.out
set_option maxHeartbeats 2000000 in
set_option maxRecDepth 100000 in
theorem flow21t (q : RV) (m : MS) (L : Nat) (d s t : Int) (ib : Bool) (n a b : Int) (w : World) (hA : RefAt w q m L) (hm : MOk m) (hL : L ≤ 900) (hx : wx m.wim m.nw = some ((m.cwp + 1) % m.nw).toNat) :
    Calls Tryz.prog 80 #[.agg (rrow q), .agg (irow 21 d s t ib n), .int .u32 a, .int .u32 b] w (Gives w (m.wnd 2 m.pc) (L)) := by
  have HA := Lib.hid hA
  have HO := Lib.hid hA.ok
  obtain ⟨x, hxn, hw⟩ := hm.wim
  have hx' := hx
  rw [hw, wx_pw hxn] at hx'
  obtain ⟨T, hT⟩ : ∃ T, T = (m.cwp + 1) % m.nw := ⟨_, rfl⟩
  have hTb : 0 ≤ T ∧ T < m.nw := by subst hT; have := hm.n2; exact ⟨Int.emod_nonneg _ (by omega), Int.emod_lt_of_pos _ (by omega)⟩
  rw [← hT] at hx' hx
  have HE : Hid (T = x) := by
    unfold Hid
    simp only [Option.some.injEq] at hx'; omega
  obtain ⟨P, hP⟩ : ∃ P, P = (m.cwp + (m.nw - 1)) % m.nw := ⟨_, rfl⟩
  have HP := Lib.hid (fun W => P4.rAhead_yes q.cwp q.nw W (by rw [hA.nw]; exact hm.n2) (by rw [hA.nw]; exact hm.n32) (by rw [hA.cwp]; exact hm.c0) (by rw [hA.cwp, hA.nw]; exact hm.c1))
  rw [show (q.cwp + (q.nw - 1)) % q.nw = P by rw [hP, hA.cwp, hA.nw]] at HP
  have HN := Lib.hid (fun W => P4.rNext_yes q.cwp q.nw 1 W (by rw [hA.nw]; exact hm.n2) (by rw [hA.nw]; exact hm.n32) (by rw [hA.cwp]; exact hm.c0) (by rw [hA.cwp, hA.nw]; exact hm.c1) (by decide) (by decide))
  rw [show (q.cwp + 1) % q.nw = (m.cwp + 1) % m.nw by rw [hA.cwp, hA.nw]] at HN
  have HI := Lib.hid (fun W => P4.rInvalid_yes x q.nw W (by rw [hA.nw]; exact hm.n2) (by rw [hA.nw]; exact hm.n32) (by rw [hA.nw]; exact hxn))
  have hwq : Hid (q.wim = P4.pw x) := hA.wim.trans hw
  have hc : 0 ≤ q.cwp ∧ q.cwp < 256 := by rw [hA.cwp]; have := hm.c0; have := hm.c1; have := hm.n32; omega
  obtain ⟨hc0, hc1⟩ := hc
  have hT0 := hTb.1
  have hT1 : T < 32 := by have := hm.n32; omega
  have hx32 : (x : Int) < 32 := by have := hm.n32; omega
  rw [← hT] at HN
  clear hP
  have HX : Hid ((T == (x : Int)) = true) := by unfold Hid; rw [HE.out]; simp
  have HC := Lib.hid (fun W (hW : RefAt W q m L) => window_ref q m L 2 m.pc W hW hm (by decide) (by decide))
  rw [← hA.pc] at HC ⊢
  clear hA hm hx hx' hw hxn hT hTb HE
  go_enter Tryz.func80, Tryz.ntmps80
  go_upto_region 1 with (refine q_start3 rfl rfl rfl (.tmp 0) (.tmp 1) rfl rfl (some 4) (some 5) (some 8) rfl rfl rfl q rfl 21 d s t ib n rfl (fun W c => by kernel_rfl) ?_; intro V1 c z r1 i1 z1 b1 s1; obtain ⟨k0, k1, k2, k3, k4, k5, k6, k7, k8, k9, k10, k11, k12, k13, k14, k15⟩ := r1.out.all; rw [hwq.out] at k9; obtain ⟨j0, j1, j2, j3, j4, j5⟩ := i1.out.all)
  go_wp2_with fail
  refine (HP.out _).mono ?_; rintro e w2 ⟨rfl, g2⟩
  subst g2
  go_wp2_with fail
  refine (HN.out _).mono ?_; rintro e w2 ⟨rfl, g2⟩
  subst g2
  go_wp2_with fail
  refine (HI.out _).mono ?_; rintro e w2 ⟨rfl, g2⟩
  subst g2
  have hX := HX.out
  go_wp2_with (first
    | (refine q_load rfl (.tmp 4) rfl (some 115) rfl _ q rfl r1.out ?_))
  refine (HC.out _ (HA.out.bel b1)).mono ?_; rintro e w2 ⟨q2, rfl, A2, g2⟩
  have R2 := Lib.hid A2
  have z2 := Lib.hid (z1.out.bel g2)
  have b2 := bel_trans b1 g2
  clear A2
  go_wp2_with (first
    | (refine q_whole rfl (.tmp 8) (.tmp 118) rfl z rzero q2 rfl rfl z2.out R2.out.ok ?_; intro V z' y'))
  exact gives_end rfl rfl rfl R2.out z2.out y'.out z'.out b2 s1.out
set_option maxHeartbeats 2000000 in
set_option maxRecDepth 100000 in
theorem flow21n (q : RV) (m : MS) (L : Nat) (d s t : Int) (ib : Bool) (n a b : Int) (w : World) (hA : RefAt w q m L) (hm : MOk m) (hL : L ≤ 900) (hd0 : 0 ≤ d) (hd1 : d < 32) (hx : wx m.wim m.nw ≠ some ((m.cwp + 1) % m.nw).toNat) :
    Calls Tryz.prog 80 #[.agg (rrow q), .agg (irow 21 d s t ib n), .int .u32 a, .int .u32 b] w (Gives w (((m.win ((m.cwp + 1) % m.nw)).set d ((a + b) % 4294967296)).on) (L + 1)) := by
  have HA := Lib.hid hA
  have HO := Lib.hid hA.ok
  obtain ⟨x, hxn, hw⟩ := hm.wim
  have hx' := hx
  rw [hw, wx_pw hxn] at hx'
  obtain ⟨T, hT⟩ : ∃ T, T = (m.cwp + 1) % m.nw := ⟨_, rfl⟩
  have hTb : 0 ≤ T ∧ T < m.nw := by subst hT; have := hm.n2; exact ⟨Int.emod_nonneg _ (by omega), Int.emod_lt_of_pos _ (by omega)⟩
  rw [← hT] at hx' hx ⊢
  have HE : Hid (T ≠ x) := by
    unfold Hid
    intro e; exact hx' (by simp only [Option.some.injEq]; omega)
  obtain ⟨P, hP⟩ : ∃ P, P = (m.cwp + (m.nw - 1)) % m.nw := ⟨_, rfl⟩
  have HP := Lib.hid (fun W => P4.rAhead_yes q.cwp q.nw W (by rw [hA.nw]; exact hm.n2) (by rw [hA.nw]; exact hm.n32) (by rw [hA.cwp]; exact hm.c0) (by rw [hA.cwp, hA.nw]; exact hm.c1))
  rw [show (q.cwp + (q.nw - 1)) % q.nw = P by rw [hP, hA.cwp, hA.nw]] at HP
  have HN := Lib.hid (fun W => P4.rNext_yes q.cwp q.nw 1 W (by rw [hA.nw]; exact hm.n2) (by rw [hA.nw]; exact hm.n32) (by rw [hA.cwp]; exact hm.c0) (by rw [hA.cwp, hA.nw]; exact hm.c1) (by decide) (by decide))
  rw [show (q.cwp + 1) % q.nw = (m.cwp + 1) % m.nw by rw [hA.cwp, hA.nw]] at HN
  have HI := Lib.hid (fun W => P4.rInvalid_yes x q.nw W (by rw [hA.nw]; exact hm.n2) (by rw [hA.nw]; exact hm.n32) (by rw [hA.nw]; exact hxn))
  have hwq : Hid (q.wim = P4.pw x) := hA.wim.trans hw
  have hc : 0 ≤ q.cwp ∧ q.cwp < 256 := by rw [hA.cwp]; have := hm.c0; have := hm.c1; have := hm.n32; omega
  obtain ⟨hc0, hc1⟩ := hc
  have hT0 := hTb.1
  have hT1 : T < 32 := by have := hm.n32; omega
  have hx32 : (x : Int) < 32 := by have := hm.n32; omega
  rw [← hT] at HN
  clear hP
  obtain ⟨S, hS⟩ : ∃ S, S = (a + b) % 4294967296 := ⟨_, rfl⟩
  rw [← hS]
  have HX : Hid ((T == (x : Int)) = false) := by unfold Hid; simpa using HE.out
  have hm2 : MOk (m.win T) := hm.win hTb.1 hTb.2
  have HS := Lib.hid (fun W q2 (hW : RefAt W q2 (m.win T) L) => set_ref q2 _ L d S W hW hm2 hL hd0 hd1)
  have HN2 := Lib.hid (fun W q2 (hW : RefAt W q2 ((m.win T).set d S) (L + 1)) => on_ref q2 _ (L + 1) W hW)
  have HSS := Lib.hid hS
  clear hA hm hx hx' hw hxn hT hTb hm2 hS HE
  go_enter Tryz.func80, Tryz.ntmps80
  go_upto_region 1 with (refine q_start3 rfl rfl rfl (.tmp 0) (.tmp 1) rfl rfl (some 4) (some 5) (some 8) rfl rfl rfl q rfl 21 d s t ib n rfl (fun W c => by kernel_rfl) ?_; intro V1 c z r1 i1 z1 b1 s1; obtain ⟨k0, k1, k2, k3, k4, k5, k6, k7, k8, k9, k10, k11, k12, k13, k14, k15⟩ := r1.out.all; rw [hwq.out] at k9; obtain ⟨j0, j1, j2, j3, j4, j5⟩ := i1.out.all)
  go_wp2_with fail
  refine (HP.out _).mono ?_; rintro e w2 ⟨rfl, g2⟩
  subst g2
  go_wp2_with fail
  refine (HN.out _).mono ?_; rintro e w2 ⟨rfl, g2⟩
  subst g2
  go_wp2_with fail
  refine (HI.out _).mono ?_; rintro e w2 ⟨rfl, g2⟩
  subst g2
  have hX := HX.out
  clear k0 k1 k2 k3 k4 k5 k6 k7 k8 k9 k10 k11 k12 k13 k14 k15
  go_wp2_with (first
    | (refine q_store rfl _ (.tmp 122) (.tmp 120) rfl q { q with cwp := T } _ _ rfl _ rfl r1.out (by kernel_rfl) (rv_one _ _) (Nat.le_of_ble_eq_true rfl) rfl ?_; intro V2 r2 g2; have z2 := Lib.hid (z1.out.only g2 (by have := s1.out; omega)); have b2 := only_bel b1 g2 (Nat.le_refl _); have i2 := Lib.hid (i1.out.only r1.out g2); clear j0 j1 j2 j3 j4 j5; obtain ⟨j0, j1, j2, j3, j4, j5⟩ := i2.out.all)
    | (refine q_load rfl (.tmp 4) rfl (some 123) rfl _ { q with cwp := T } rfl r2.out ?_))
  rw [← HSS.out]
  refine (HS.out _ { q with cwp := T } { (HA.out.bel b1).only r1.out g2 with cwp := rfl }).mono ?_; rintro e w3 ⟨q3, rfl, A3, g3⟩
  have R3 := Lib.hid A3
  have r3 := Lib.hid (r2.out.bel g3)
  have z3 := Lib.hid (z2.out.bel g3)
  have b3 := bel_trans b2 g3
  clear A3
  go_wp2_with fail
  refine (HN2.out _ _ R3.out).mono ?_; rintro e w4 ⟨q4, rfl, A4, g4⟩
  have R4 := Lib.hid A4
  have z4 := Lib.hid (z3.out.bel g4)
  have b4 := bel_trans b3 g4
  clear A4
  go_wp2_with (first
    | (refine q_whole rfl (.tmp 8) (.tmp 131) rfl z rzero q4 rfl rfl z4.out R4.out.ok ?_; intro V z' y'))
  exact gives_end rfl rfl rfl R4.out z4.out y'.out z'.out b4 s1.out
end Go.Proofs.YtiobgnelhiadbaaGreatDoor.K6
