/- The document's machine (layer 6): a step of one that stands, that an interrupt takes, that has no instruction. -/
import Derived.Test.YtiobgnelhiadbaaGreatDoorZMachGRb
namespace Go.Proofs.YtiobgnelhiadbaaGreatDoor.K6
open Go.RowKit
set_option linter.unusedVariables false
variable [Far]
set_option maxHeartbeats 2000000 in
set_option maxRecDepth 100000 in
theorem step_stood (q : RV) (m : MS) (L : Nat) (lv : Int) (w : World) (hA : RefAt w q m L) (hk : m.sk ≠ 0) :
    Calls Tryz.prog 14 #[.agg (rrow q), .int .u8 lv] w (Gives w m L) := by
  have HA := Lib.hid hA
  have hsk : (q.sk != 0) = true := by rw [hA.sk]; simpa using hk
  clear hA hk
  go_enter Tryz.func14, Tryz.ntmps14
  go_upto_region 1 with (refine q_start rfl rfl (.tmp 0) rfl (some 2) (some 4) rfl rfl q rfl (fun W => by kernel_rfl) ?_; intro V1 z r1 z1 b1 s1; obtain ⟨k0, k1, k2, k3, k4, k5, k6, k7, k8, k9, k10, k11, k12, k13, k14, k15⟩ := r1.out.all)
  have A1 := Lib.hid (HA.out.bel b1)
  go_wp2_with (first
    | (refine q_load rfl (.tmp 2) rfl (some 17) rfl _ q rfl r1.out ?_)
    | (refine q_whole rfl (.tmp 4) (.tmp 17) rfl z rzero q rfl rfl z1.out A1.out.ok ?_; intro V z' y'))
  exact gives_end rfl rfl rfl A1.out z1.out y'.out z'.out b1 s1.out
set_option maxHeartbeats 2000000 in
set_option maxRecDepth 100000 in
theorem step_taken (q : RV) (m : MS) (L : Nat) (lv : Int) (w : World) (hA : RefAt w q m L) (hm : MOk m) (hk : m.sk = 0) (h15 : lv ≤ 15) (hp : m.pil < lv) :
    Calls Tryz.prog 14 #[.agg (rrow q), .int .u8 lv] w (Gives w ((m.trap lv (16 + lv) m.pc).lvl lv) L) := by
  have HA := Lib.hid hA
  have hsk : q.sk = 0 := hA.sk.trans hk
  have hpl : q.pil < lv := by rw [hA.pil]; exact hp
  have hp0 := hm.p0
  have h0 : 0 ≤ lv := by omega
  have w16 : IntKind.u8.wrap (16 + lv) = 16 + lv := IntWalk.u8_in _ (by omega)
  have HC : Hid (∀ W, RefAt W q m L → Calls Tryz.prog 72 #[.agg (rrow q), .int .u8 lv, .int .u8 (16 + lv), .int .u32 q.pc] W (Gives W (m.trap lv (16 + lv) m.pc) L)) := fun W hW => by
    rw [hA.pc]
    exact trap_ref q m L lv (16 + lv) m.pc W hW hm h0 (by omega) (by omega) (by omega)
  clear hA hk hm hp
  go_enter Tryz.func14, Tryz.ntmps14
  go_upto_region 1 with (refine q_start rfl rfl (.tmp 0) rfl (some 2) (some 4) rfl rfl q rfl (fun W => by kernel_rfl) ?_; intro V1 z r1 z1 b1 s1; obtain ⟨k0, k1, k2, k3, k4, k5, k6, k7, k8, k9, k10, k11, k12, k13, k14, k15⟩ := r1.out.all; rw [hsk] at k14)
  have A1 := Lib.hid (HA.out.bel b1)
  go_wp2_with (first
    | (refine q_load rfl (.tmp 2) rfl (some 27) rfl _ q rfl r1.out ?_))
  refine (HC.out _ A1.out).mono ?_; rintro e w2 ⟨q2, rfl, A2, g2⟩
  have R2 := Lib.hid A2
  have r2 := Lib.hid (r1.out.bel g2)
  have z2 := Lib.hid (z1.out.bel g2)
  have b2 := bel_trans b1 g2
  clear A2 k0 k1 k2 k3 k4 k5 k6 k7 k8 k9 k10 k11 k12 k13 k14 k15
  go_upto_region 5 with (refine q_whole rfl (.tmp 2) (.tmp 33) rfl w.heap.size q q2 rfl rfl r2.out R2.out.ok ?_; intro V3 r3 g3)
  have z3 := Lib.hid (z2.out.only g3.out (by have := s1.out; omega))
  have b3 := only_bel b2 g3.out (Nat.le_refl _)
  have A3 := Lib.hid (R2.out.only r2.out g3.out)
  go_upto_region 6 with (refine q_store rfl _ (.tmp 36) (.tmp 34) rfl q2 { q2 with pil := lv } _ _ rfl [.int .u8 lv] rfl r3.out (by kernel_rfl) (rv_one _ _) (Nat.le_of_ble_eq_true rfl) rfl ?_; intro V4 r4 g4)
  have z4 := Lib.hid (z3.out.only g4 (by have := s1.out; omega))
  have b4 := only_bel b3 g4 (Nat.le_refl _)
  have A4 : Hid (RefAt V4 { q2 with pil := lv } ((m.trap lv (16 + lv) m.pc).lvl lv) L) := { A3.out.only r3.out g4 with pil := rfl }
  clear A3 z3 z2 R2 r2
  go_wp2_with (first
    | (refine q_load rfl (.tmp 2) rfl (some 37) rfl _ { q2 with pil := lv } rfl r4.out ?_)
    | (refine q_whole rfl (.tmp 4) (.tmp 37) rfl z rzero { q2 with pil := lv } rfl rfl z4.out A4.out.ok ?_; intro V z' y'))
  exact gives_end rfl rfl rfl A4.out z4.out y'.out z'.out b4 s1.out
end Go.Proofs.YtiobgnelhiadbaaGreatDoor.K6
