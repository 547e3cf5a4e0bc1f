/- The document's machine (layer 6): what state comes to. The document's machine (layer 6): what rest comes to. -/
import Derived.Test.YtiobgnelhiadbaaGreatDoorZMachGRb
namespace Go.Proofs.YtiobgnelhiadbaaGreatDoor.K6
open Go.RowKit
set_option linter.unusedVariables false
variable [Far]
set_option maxHeartbeats 2000000 in
set_option maxRecDepth 100000 in
theorem state26 (q : RV) (m : MS) (L : Nat) (d s t : Int) (ib : Bool) (n a b : Int) (w : World) (hA : RefAt w q m L) (hm : MOk m) (hL : L ≤ 900) (hd0 : 0 ≤ d) (hd1 : d < 32) :
    Calls Tryz.prog 82 #[.agg (rrow q), .agg (irow 26 d s t ib n), .int .u32 a, .int .u32 b] w (Gives w ((m.set d m.pw).on) (L + 1)) := by
  have HA := Lib.hid hA
  have HP := Lib.hid (fun W => P4.rPack_yes q.cwp q.pil q.bank q.fl q.nw W (by rw [hA.cwp]; exact hm.bytes.1) (by rw [hA.pil]; exact hm.bytes.2.1) (by rw [hA.bank]; exact hm.bytes.2.2.1) (by rw [hA.fl]; exact hm.bytes.2.2.2) (by rw [hA.cwp, hA.pil, hA.bank, hA.fl, hA.nw]; exact hm.state))
  have HW : Hid (P4.pword q.cwp q.pil q.bank q.fl = m.pw) := by unfold Hid MS.pw; rw [hA.cwp, hA.pil, hA.bank, hA.fl]
  rw [HW.out] at HP
  have HS := Lib.hid (fun W (hW : RefAt W q m L) => set_ref q m L d m.pw W hW hm hL hd0 hd1)
  have HO := Lib.hid (fun W q2 (hW : RefAt W q2 (m.set d m.pw) (L + 1)) => on_ref q2 _ (L + 1) W hW)
  generalize m.pw = v at *
  clear hA hm HW
  go_enter Tryz.func82, Tryz.ntmps82
  go_upto_region 1 with (refine q_start3 rfl rfl rfl (.tmp 0) (.tmp 1) rfl rfl (some 4) (some 5) (some 8) rfl rfl rfl q rfl 26 d s t ib n rfl (fun W c => by kernel_rfl) ?_; intro V1 c z r1 i1 z1 b1 s1; obtain ⟨k0, k1, k2, k3, k4, k5, k6, k7, k8, k9, k10, k11, k12, k13, k14, k15⟩ := r1.out.all; obtain ⟨j0, j1, j2, j3, j4, j5⟩ := i1.out.all)
  go_wp2_with fail
  refine (HP.out _).mono ?_; rintro e w2 ⟨rfl, g2⟩
  have r2 := Lib.hid (r1.out.bel g2)
  have i2 := Lib.hid (i1.out.bel g2)
  have z2 := Lib.hid (z1.out.bel g2)
  have b2 := bel_trans b1 g2
  clear k0 k1 k2 k3 k4 k5 k6 k7 k8 k9 k10 k11 k12 k13 k14 k15 j0 j1 j2 j3 j4 j5 r1 i1 z1 HP g2
  obtain ⟨j0, j1, j2, j3, j4, j5⟩ := i2.out.all
  go_wp2_with (first
    | (refine q_load rfl (.tmp 4) rfl (some 31) rfl _ q rfl r2.out ?_))
  refine (HS.out _ (HA.out.bel b2)).mono ?_; rintro e w3 ⟨q3, rfl, A3, g3⟩
  have R3 := Lib.hid A3
  have r3 := Lib.hid (r2.out.bel g3)
  have z3 := Lib.hid (z2.out.bel g3)
  have b3 := bel_trans b2 g3
  clear A3
  go_wp2_with fail
  refine (HO.out _ _ R3.out).mono ?_; rintro e w4 ⟨q4, rfl, A4, g4⟩
  have R4 := Lib.hid A4
  have z4 := Lib.hid (z3.out.bel g4)
  have b4 := bel_trans b3 g4
  clear A4
  go_wp2_with (first
    | (refine q_whole rfl (.tmp 8) (.tmp 37) rfl z rzero q4 rfl rfl z4.out R4.out.ok ?_; intro V z' y'))
  exact gives_end rfl rfl rfl R4.out z4.out y'.out z'.out b4 s1.out
set_option maxHeartbeats 2000000 in
set_option maxRecDepth 100000 in
theorem state28 (q : RV) (m : MS) (L : Nat) (d s t : Int) (ib : Bool) (n a b : Int) (w : World) (hA : RefAt w q m L) (hm : MOk m) (hL : L ≤ 900) (hd0 : 0 ≤ d) (hd1 : d < 32) :
    Calls Tryz.prog 82 #[.agg (rrow q), .agg (irow 28 d s t ib n), .int .u32 a, .int .u32 b] w (Gives w ((m.set d m.wim).on) (L + 1)) := by
  have HA := Lib.hid hA
  have HS := Lib.hid (fun W (hW : RefAt W q m L) => set_ref q m L d m.wim W hW hm hL hd0 hd1)
  have HO := Lib.hid (fun W q2 (hW : RefAt W q2 (m.set d m.wim) (L + 1)) => on_ref q2 _ (L + 1) W hW)
  rw [← hA.wim] at HS HO ⊢
  clear hA hm
  go_enter Tryz.func82, Tryz.ntmps82
  go_upto_region 1 with (refine q_start3 rfl rfl rfl (.tmp 0) (.tmp 1) rfl rfl (some 4) (some 5) (some 8) rfl rfl rfl q rfl 28 d s t ib n rfl (fun W c => by kernel_rfl) ?_; intro V1 c z r1 i1 z1 b1 s1; obtain ⟨k0, k1, k2, k3, k4, k5, k6, k7, k8, k9, k10, k11, k12, k13, k14, k15⟩ := r1.out.all; obtain ⟨j0, j1, j2, j3, j4, j5⟩ := i1.out.all)
  go_wp2_with (first
    | (refine q_load rfl (.tmp 4) rfl (some 59) rfl _ q rfl r1.out ?_))
  refine (HS.out _ (HA.out.bel b1)).mono ?_; rintro e w2 ⟨q2, rfl, A2, g2⟩
  have R2 := Lib.hid A2
  have r2 := Lib.hid (r1.out.bel g2)
  have z2 := Lib.hid (z1.out.bel g2)
  have b2 := bel_trans b1 g2
  clear A2
  go_wp2_with fail
  refine (HO.out _ _ R2.out).mono ?_; rintro e w3 ⟨q3, rfl, A3, g3⟩
  have R3 := Lib.hid A3
  have z3 := Lib.hid (z2.out.bel g3)
  have b3 := bel_trans b2 g3
  clear A3
  go_wp2_with (first
    | (refine q_whole rfl (.tmp 8) (.tmp 66) rfl z rzero q3 rfl rfl z3.out R3.out.ok ?_; intro V z' y'))
  exact gives_end rfl rfl rfl R3.out z3.out y'.out z'.out b3 s1.out
set_option maxHeartbeats 2000000 in
set_option maxRecDepth 100000 in
theorem state29y (q : RV) (m : MS) (L : Nat) (d s t : Int) (ib : Bool) (n a b : Int) (w : World) (hA : RefAt w q m L) (hm : MOk m) (hL : L ≤ 900) (x : Nat) (hx : (x : Int) < m.nw) (hv : (a + b) % 4294967296 = P4.pw x) :
    Calls Tryz.prog 82 #[.agg (rrow q), .agg (irow 29 d s t ib n), .int .u32 a, .int .u32 b] w (Gives w ((m.inv (P4.pw x)).on) (L)) := by
  have HA := Lib.hid hA
  have HI := Lib.hid (fun W => P4.rInvalid_yes x q.nw W (by rw [hA.nw]; exact hm.n2) (by rw [hA.nw]; exact hm.n32) (by rw [hA.nw]; exact hx))
  have HO := Lib.hid (fun W q2 (hW : RefAt W q2 (m.inv (P4.pw x)) L) => on_ref q2 _ L W hW)
  have HV := Lib.hid hv
  rw [← hv] at HI
  have HOk := Lib.hid hA.ok
  clear hA hm hv hx
  go_enter Tryz.func82, Tryz.ntmps82
  go_upto_region 1 with (refine q_start3 rfl rfl rfl (.tmp 0) (.tmp 1) rfl rfl (some 4) (some 5) (some 8) rfl rfl rfl q rfl 29 d s t ib n rfl (fun W c => by kernel_rfl) ?_; intro V1 c z r1 i1 z1 b1 s1; obtain ⟨k0, k1, k2, k3, k4, k5, k6, k7, k8, k9, k10, k11, k12, k13, k14, k15⟩ := r1.out.all; obtain ⟨j0, j1, j2, j3, j4, j5⟩ := i1.out.all)
  go_wp2_with fail
  refine (HI.out _).mono ?_; rintro e w2 ⟨rfl, g2⟩
  subst g2
  clear k0 k1 k2 k3 k4 k5 k6 k7 k8 k9 k10 k11 k12 k13 k14 k15
  go_wp2_with (first
    | (refine q_store rfl _ (.tmp 85) (.tmp 84) rfl q { q with wim := (a + b) % 4294967296 } _ _ rfl _ rfl r1.out (by kernel_rfl) (rv_one _ _) (Nat.le_of_ble_eq_true rfl) rfl ?_; intro V2 r2 g2; have z2 := Lib.hid (z1.out.only g2 (by have := s1.out; omega)); have b2 := only_bel b1 g2 (Nat.le_refl _))
    | (refine q_load rfl (.tmp 4) rfl (some 86) rfl _ { q with wim := (a + b) % 4294967296 } rfl r2.out ?_))
  refine (HO.out _ { q with wim := (a + b) % 4294967296 } { (HA.out.bel b1).only r1.out g2 with wim := HV.out }).mono ?_; rintro e w3 ⟨q3, rfl, A3, g3⟩
  have R3 := Lib.hid A3
  have z3 := Lib.hid (z2.out.bel g3)
  have b3 := bel_trans b2 g3
  clear A3
  go_wp2_with (first
    | (refine q_whole rfl (.tmp 8) (.tmp 87) rfl z rzero q3 rfl rfl z3.out R3.out.ok ?_; intro V z' y'))
  exact gives_end rfl rfl rfl R3.out z3.out y'.out z'.out b3 s1.out
set_option maxHeartbeats 2000000 in
set_option maxRecDepth 100000 in
theorem state29n (q : RV) (m : MS) (L : Nat) (d s t : Int) (ib : Bool) (n a b : Int) (w : World) (hA : RefAt w q m L) (hm : MOk m) (hL : L ≤ 900) (x : Int) (hx : x = (a + b) % 4294967296) (hv : wx x m.nw = none) :
    Calls Tryz.prog 82 #[.agg (rrow q), .agg (irow 29 d s t ib n), .int .u32 a, .int .u32 b] w (Gives w (m.stp 3 0) (L)) := by
  have HA := Lib.hid hA
  have HI := Lib.hid (fun W => P4.rInvalid_form x q.nw W (by rw [hx]; exact w32_mod _) (by rw [hA.nw]; exact hm.n2) (by rw [hA.nw]; exact hm.n32) (by rw [hA.nw]; exact wx_none hv))
  rw [hx] at HI
  have HC := Lib.hid (fun W (hW : RefAt W q m L) => stopped_ref q m L 3 0 W hW)
  clear hA hm hv hx
  go_enter Tryz.func82, Tryz.ntmps82
  go_upto_region 1 with (refine q_start3 rfl rfl rfl (.tmp 0) (.tmp 1) rfl rfl (some 4) (some 5) (some 8) rfl rfl rfl q rfl 29 d s t ib n rfl (fun W c => by kernel_rfl) ?_; intro V1 c z r1 i1 z1 b1 s1; obtain ⟨k0, k1, k2, k3, k4, k5, k6, k7, k8, k9, k10, k11, k12, k13, k14, k15⟩ := r1.out.all; obtain ⟨j0, j1, j2, j3, j4, j5⟩ := i1.out.all)
  go_wp2_with fail
  refine (HI.out _).mono ?_; rintro e w2 ⟨rfl, g2⟩
  subst g2
  go_wp2_with (first
    | (refine q_load rfl (.tmp 4) rfl (some 80) rfl _ q rfl r1.out ?_))
  refine (HC.out _ (HA.out.bel b1)).mono ?_; rintro e w2 ⟨q2, rfl, A2, g2⟩
  have R2 := Lib.hid A2
  have z2 := Lib.hid (z1.out.bel g2)
  have b2 := bel_trans b1 g2
  clear A2
  go_wp2_with (first
    | (refine q_whole rfl (.tmp 8) (.tmp 81) rfl z rzero q2 rfl rfl z2.out R2.out.ok ?_; intro V z' y'))
  exact gives_end rfl rfl rfl R2.out z2.out y'.out z'.out b2 s1.out
set_option maxHeartbeats 2000000 in
set_option maxRecDepth 100000 in
theorem state30z (q : RV) (m : MS) (L : Nat) (d s t : Int) (ib : Bool) (n a b : Int) (w : World) (hA : RefAt w q m L) (hm : MOk m) (hL : L ≤ 900) (hb : m.bank = 0) :
    Calls Tryz.prog 82 #[.agg (rrow q), .agg (irow 30 d s t ib n), .int .u32 a, .int .u32 b] w (Gives w (m.stp 3 0) (L)) := by
  have HA := Lib.hid hA
  have HC := Lib.hid (fun W (hW : RefAt W q m L) => stopped_ref q m L 3 0 W hW)
  have Hb : Hid (q.bank = 0) := hA.bank.trans hb
  clear hA hm hb
  go_enter Tryz.func82, Tryz.ntmps82
  go_upto_region 1 with (refine q_start3 rfl rfl rfl (.tmp 0) (.tmp 1) rfl rfl (some 4) (some 5) (some 8) rfl rfl rfl q rfl 30 d s t ib n rfl (fun W c => by kernel_rfl) ?_; intro V1 c z r1 i1 z1 b1 s1; obtain ⟨k0, k1, k2, k3, k4, k5, k6, k7, k8, k9, k10, k11, k12, k13, k14, k15⟩ := r1.out.all; rw [Hb.out] at k7; obtain ⟨j0, j1, j2, j3, j4, j5⟩ := i1.out.all)
  go_wp2_with (first
    | (refine q_load rfl (.tmp 4) rfl (some 94) rfl _ q rfl r1.out ?_))
  refine (HC.out _ (HA.out.bel b1)).mono ?_; rintro e w2 ⟨q2, rfl, A2, g2⟩
  have R2 := Lib.hid A2
  have z2 := Lib.hid (z1.out.bel g2)
  have b2 := bel_trans b1 g2
  clear A2
  go_wp2_with (first
    | (refine q_whole rfl (.tmp 8) (.tmp 95) rfl z rzero q2 rfl rfl z2.out R2.out.ok ?_; intro V z' y'))
  exact gives_end rfl rfl rfl R2.out z2.out y'.out z'.out b2 s1.out
set_option maxHeartbeats 2000000 in
set_option maxRecDepth 100000 in
theorem state31z (q : RV) (m : MS) (L : Nat) (d s t : Int) (ib : Bool) (n a b : Int) (w : World) (hA : RefAt w q m L) (hm : MOk m) (hL : L ≤ 900) (hb : m.bank = 0) :
    Calls Tryz.prog 82 #[.agg (rrow q), .agg (irow 31 d s t ib n), .int .u32 a, .int .u32 b] w (Gives w (m.stp 3 0) (L)) := by
  have HA := Lib.hid hA
  have HC := Lib.hid (fun W (hW : RefAt W q m L) => stopped_ref q m L 3 0 W hW)
  have Hb : Hid (q.bank = 0) := hA.bank.trans hb
  clear hA hm hb
  go_enter Tryz.func82, Tryz.ntmps82
  go_upto_region 1 with (refine q_start3 rfl rfl rfl (.tmp 0) (.tmp 1) rfl rfl (some 4) (some 5) (some 8) rfl rfl rfl q rfl 31 d s t ib n rfl (fun W c => by kernel_rfl) ?_; intro V1 c z r1 i1 z1 b1 s1; obtain ⟨k0, k1, k2, k3, k4, k5, k6, k7, k8, k9, k10, k11, k12, k13, k14, k15⟩ := r1.out.all; rw [Hb.out] at k7; obtain ⟨j0, j1, j2, j3, j4, j5⟩ := i1.out.all)
  go_wp2_with (first
    | (refine q_load rfl (.tmp 4) rfl (some 94) rfl _ q rfl r1.out ?_))
  refine (HC.out _ (HA.out.bel b1)).mono ?_; rintro e w2 ⟨q2, rfl, A2, g2⟩
  have R2 := Lib.hid A2
  have z2 := Lib.hid (z1.out.bel g2)
  have b2 := bel_trans b1 g2
  clear A2
  go_wp2_with (first
    | (refine q_whole rfl (.tmp 8) (.tmp 95) rfl z rzero q2 rfl rfl z2.out R2.out.ok ?_; intro V z' y'))
  exact gives_end rfl rfl rfl R2.out z2.out y'.out z'.out b2 s1.out
set_option maxHeartbeats 2000000 in
set_option maxRecDepth 100000 in
theorem state32z (q : RV) (m : MS) (L : Nat) (d s t : Int) (ib : Bool) (n a b : Int) (w : World) (hA : RefAt w q m L) (hm : MOk m) (hL : L ≤ 900) (hb : m.bank = 0) :
    Calls Tryz.prog 82 #[.agg (rrow q), .agg (irow 32 d s t ib n), .int .u32 a, .int .u32 b] w (Gives w (m.stp 3 0) (L)) := by
  have HA := Lib.hid hA
  have HC := Lib.hid (fun W (hW : RefAt W q m L) => stopped_ref q m L 3 0 W hW)
  have Hb : Hid (q.bank = 0) := hA.bank.trans hb
  clear hA hm hb
  go_enter Tryz.func82, Tryz.ntmps82
  go_upto_region 1 with (refine q_start3 rfl rfl rfl (.tmp 0) (.tmp 1) rfl rfl (some 4) (some 5) (some 8) rfl rfl rfl q rfl 32 d s t ib n rfl (fun W c => by kernel_rfl) ?_; intro V1 c z r1 i1 z1 b1 s1; obtain ⟨k0, k1, k2, k3, k4, k5, k6, k7, k8, k9, k10, k11, k12, k13, k14, k15⟩ := r1.out.all; rw [Hb.out] at k7; obtain ⟨j0, j1, j2, j3, j4, j5⟩ := i1.out.all)
  go_wp2_with (first
    | (refine q_load rfl (.tmp 4) rfl (some 94) rfl _ q rfl r1.out ?_))
  refine (HC.out _ (HA.out.bel b1)).mono ?_; rintro e w2 ⟨q2, rfl, A2, g2⟩
  have R2 := Lib.hid A2
  have z2 := Lib.hid (z1.out.bel g2)
  have b2 := bel_trans b1 g2
  clear A2
  go_wp2_with (first
    | (refine q_whole rfl (.tmp 8) (.tmp 95) rfl z rzero q2 rfl rfl z2.out R2.out.ok ?_; intro V z' y'))
  exact gives_end rfl rfl rfl R2.out z2.out y'.out z'.out b2 s1.out
omit [Far] in
/-- The place of the Bank's word in a row of 17. -/
theorem bank_cell {w : World} {s : Value} {f : Nat → Int} (h : SlT .u32 22 w s 17 f) {j : Nat} (hj : j ≤ 16) : ∃ b o c, s = .slice (some ⟨b, o, none⟩) 17 c ∧ w.cell? ⟨b, o + j, none⟩ = some (.int .u32 (f j)) := by
  obtain ⟨⟨p, c, rfl, hp⟩, _, _⟩ := h
  obtain ⟨b, o, rfl, hc⟩ := hp (by decide)
  exact ⟨b, o, c, rfl, hc j (by omega)⟩
set_option maxHeartbeats 2000000 in
set_option maxRecDepth 100000 in
theorem state30_0 (q : RV) (m : MS) (L : Nat) (d s t : Int) (ib : Bool) (n a b : Int) (w : World) (hA : RefAt w q m L) (hm : MOk m) (hL : L ≤ 900) (hd0 : 0 ≤ d) (hd1 : d < 32) (hb : m.bank ≠ 0) :
    Calls Tryz.prog 82 #[.agg (rrow q), .agg (irow 30 d s t ib 0), .int .u32 a, .int .u32 b] w (Gives w ((m.set d (m.tpc m.bank.toNat)).on) (L + 1)) := by
  have HA := Lib.hid hA
  obtain ⟨j, hj⟩ : ∃ j : Nat, m.bank = j := ⟨m.bank.toNat, by have := hm.b0; omega⟩
  have hj16 : j ≤ 16 := by have := hm.b1; omega
  have hj1 : 1 ≤ j := by omega
  have Hb : Hid (q.bank = (j : Int)) := hA.bank.trans hj
  have hjj : m.bank.toNat = j := by rw [hj]; rfl
  rw [hjj]
  obtain ⟨bT, oT, cT, hT, eT⟩ := bank_cell hA.tp hj16
  obtain ⟨bP, oP, cP, hP, eP⟩ := bank_cell hA.ts hj16
  have HT : Hid (q.tp = .slice (some ⟨bT, oT, none⟩) 17 cT) := hT
  have HP : Hid (q.ts = .slice (some ⟨bP, oP, none⟩) 17 cP) := hP
  have HeT := Lib.hid eT
  have HeP := Lib.hid eP
  have HS := Lib.hid (fun W (hW : RefAt W q m L) => set_ref q m L d (m.tpc j) W hW hm hL hd0 hd1)
  have HO := Lib.hid (fun W q2 (hW : RefAt W q2 (m.set d (m.tpc j)) (L + 1)) => on_ref q2 _ (L + 1) W hW)
  clear hA hm hb hj hT hP eT eP hjj
  go_enter Tryz.func82, Tryz.ntmps82
  go_upto_region 1 with (refine q_start3 rfl rfl rfl (.tmp 0) (.tmp 1) rfl rfl (some 4) (some 5) (some 8) rfl rfl rfl q rfl 30 d s t ib 0 rfl (fun W c => by kernel_rfl) ?_; intro V1 c z r1 i1 z1 b1 s1; obtain ⟨k0, k1, k2, k3, k4, k5, k6, k7, k8, k9, k10, k11, k12, k13, k14, k15⟩ := r1.out.all; rw [Hb.out] at k7; rw [HT.out] at k10; rw [HP.out] at k11; have eT := bel_cell b1 HeT.out; have eP := bel_cell b1 HeP.out; obtain ⟨j0, j1, j2, j3, j4, j5⟩ := i1.out.all)
  go_wp2_with (first
    | (refine q_load rfl (.tmp 4) rfl (some 112) rfl _ q rfl r1.out ?_))
  refine (HS.out _ (HA.out.bel b1)).mono ?_; rintro e w2 ⟨q2, rfl, A2, g2⟩
  have R2 := Lib.hid A2
  have r2 := Lib.hid (r1.out.bel g2)
  have z2 := Lib.hid (z1.out.bel g2)
  have b2 := bel_trans b1 g2
  clear A2
  go_wp2_with fail
  refine (HO.out _ _ R2.out).mono ?_; rintro e w3 ⟨q3, rfl, A3, g3⟩
  have R3 := Lib.hid A3
  have z3 := Lib.hid (z2.out.bel g3)
  have b3 := bel_trans b2 g3
  clear A3
  go_wp2_with (first
    | (refine q_whole rfl (.tmp 8) (.tmp 118) rfl z rzero q3 rfl rfl z3.out R3.out.ok ?_; intro V z' y'))
  exact gives_end rfl rfl rfl R3.out z3.out y'.out z'.out b3 s1.out
set_option maxHeartbeats 2000000 in
set_option maxRecDepth 100000 in
theorem state31_0 (q : RV) (m : MS) (L : Nat) (d s t : Int) (ib : Bool) (n a b : Int) (w : World) (hA : RefAt w q m L) (hm : MOk m) (hL : L ≤ 900) (hb : m.bank ≠ 0) :
    Calls Tryz.prog 82 #[.agg (rrow q), .agg (irow 31 d s t ib 0), .int .u32 a, .int .u32 b] w (Gives w ((m.setT m.bank.toNat a).on) (L)) := by
  have HA := Lib.hid hA
  obtain ⟨j, hj⟩ : ∃ j : Nat, m.bank = j := ⟨m.bank.toNat, by have := hm.b0; omega⟩
  have hj16 : j ≤ 16 := by have := hm.b1; omega
  have hj1 : 1 ≤ j := by omega
  have Hb : Hid (q.bank = (j : Int)) := hA.bank.trans hj
  have hjj : m.bank.toNat = j := by rw [hj]; rfl
  rw [hjj]
  have HO := Lib.hid (fun W q2 (hW : RefAt W q2 (m.setT j a) L) => on_ref q2 _ L W hW)
  have HW := Lib.hid (fun W (hW : Sl .u32 W q.tp 17 m.tpc) => with_at q.tp 17 j m.tpc a W hW (by decide) (by omega))
  have HOk := Lib.hid hA.ok
  clear hA hm hb hj hjj
  go_enter Tryz.func82, Tryz.ntmps82
  go_upto_region 1 with (refine q_start3 rfl rfl rfl (.tmp 0) (.tmp 1) rfl rfl (some 4) (some 5) (some 8) rfl rfl rfl q rfl 31 d s t ib 0 rfl (fun W c => by kernel_rfl) ?_; intro V1 c z r1 i1 z1 b1 s1; obtain ⟨k0, k1, k2, k3, k4, k5, k6, k7, k8, k9, k10, k11, k12, k13, k14, k15⟩ := r1.out.all; rw [Hb.out] at k7; obtain ⟨j0, j1, j2, j3, j4, j5⟩ := i1.out.all)
  go_wp2_with fail
  refine (HW.out _ (HA.out.bel b1).tp.sl).mono ?_; rintro e w2 ⟨s2, rfl, l2, f2, g2⟩
  have F2 := Lib.hid (f2 (HA.out.bel b1).low)
  clear f2
  have r2 := Lib.hid (r1.out.bel g2)
  have z2 := Lib.hid (z1.out.bel g2)
  have b2 := bel_trans b1 g2
  have T2 := Lib.hid l2
  clear k0 k1 k2 k3 k4 k5 k6 k7 k8 k9 k10 k11 k12 k13 k14 k15 j0 j1 j2 j3 j4 j5 r1 i1 z1 l2 HW
  go_wp2_with (first
    | (refine q_store rfl _ (.tmp 136) (.tmp 135) rfl q { q with tp := s2 } _ _ rfl [s2] (by obtain ⟨⟨p', c', rfl, _⟩, _, _⟩ := T2.out; rfl) r2.out (by kernel_rfl) (by intro u hu; simp at hu; subst hu; exact sl_one T2.out.sl) (Nat.le_of_ble_eq_true rfl) rfl ?_; intro V3 r3 g3; have z3 := Lib.hid (z2.out.only g3 (by have := s1.out; omega)); have b3 := only_bel b2 g3 (Nat.le_refl _); have A3 : Hid (RefAt V3 { q with tp := s2 } (m.setT j a) L) := { (HA.out.bel b2).only r2.out g3 with tp := T2.out.only r2.out g3 (by decide), ftp := F2.out })
    | (refine q_load rfl (.tmp 4) rfl (some 137) rfl _ { q with tp := s2 } rfl r3.out ?_))
  refine (HO.out _ _ A3.out).mono ?_; rintro e w4 ⟨q4, rfl, A4, g4⟩
  have R4 := Lib.hid A4
  have z4 := Lib.hid (z3.out.bel g4)
  have b4 := bel_trans b3 g4
  clear A4
  go_wp2_with (first
    | (refine q_whole rfl (.tmp 8) (.tmp 138) rfl z rzero q4 rfl rfl z4.out R4.out.ok ?_; intro V z' y'))
  exact gives_end rfl rfl rfl R4.out z4.out y'.out z'.out b4 s1.out
set_option maxHeartbeats 2000000 in
set_option maxRecDepth 100000 in
theorem state30_1 (q : RV) (m : MS) (L : Nat) (d s t : Int) (ib : Bool) (n a b : Int) (w : World) (hA : RefAt w q m L) (hm : MOk m) (hL : L ≤ 900) (hd0 : 0 ≤ d) (hd1 : d < 32) (hb : m.bank ≠ 0) :
    Calls Tryz.prog 82 #[.agg (rrow q), .agg (irow 30 d s t ib 1), .int .u32 a, .int .u32 b] w (Gives w ((m.set d (m.tps m.bank.toNat)).on) (L + 1)) := by
  have HA := Lib.hid hA
  obtain ⟨j, hj⟩ : ∃ j : Nat, m.bank = j := ⟨m.bank.toNat, by have := hm.b0; omega⟩
  have hj16 : j ≤ 16 := by have := hm.b1; omega
  have hj1 : 1 ≤ j := by omega
  have Hb : Hid (q.bank = (j : Int)) := hA.bank.trans hj
  have hjj : m.bank.toNat = j := by rw [hj]; rfl
  rw [hjj]
  obtain ⟨bT, oT, cT, hT, eT⟩ := bank_cell hA.tp hj16
  obtain ⟨bP, oP, cP, hP, eP⟩ := bank_cell hA.ts hj16
  have HT : Hid (q.tp = .slice (some ⟨bT, oT, none⟩) 17 cT) := hT
  have HP : Hid (q.ts = .slice (some ⟨bP, oP, none⟩) 17 cP) := hP
  have HeT := Lib.hid eT
  have HeP := Lib.hid eP
  have HS := Lib.hid (fun W (hW : RefAt W q m L) => set_ref q m L d (m.tps j) W hW hm hL hd0 hd1)
  have HO := Lib.hid (fun W q2 (hW : RefAt W q2 (m.set d (m.tps j)) (L + 1)) => on_ref q2 _ (L + 1) W hW)
  clear hA hm hb hj hT hP eT eP hjj
  go_enter Tryz.func82, Tryz.ntmps82
  go_upto_region 1 with (refine q_start3 rfl rfl rfl (.tmp 0) (.tmp 1) rfl rfl (some 4) (some 5) (some 8) rfl rfl rfl q rfl 30 d s t ib 1 rfl (fun W c => by kernel_rfl) ?_; intro V1 c z r1 i1 z1 b1 s1; obtain ⟨k0, k1, k2, k3, k4, k5, k6, k7, k8, k9, k10, k11, k12, k13, k14, k15⟩ := r1.out.all; rw [Hb.out] at k7; rw [HT.out] at k10; rw [HP.out] at k11; have eT := bel_cell b1 HeT.out; have eP := bel_cell b1 HeP.out; obtain ⟨j0, j1, j2, j3, j4, j5⟩ := i1.out.all)
  go_wp2_with (first
    | (refine q_load rfl (.tmp 4) rfl (some 112) rfl _ q rfl r1.out ?_))
  refine (HS.out _ (HA.out.bel b1)).mono ?_; rintro e w2 ⟨q2, rfl, A2, g2⟩
  have R2 := Lib.hid A2
  have r2 := Lib.hid (r1.out.bel g2)
  have z2 := Lib.hid (z1.out.bel g2)
  have b2 := bel_trans b1 g2
  clear A2
  go_wp2_with fail
  refine (HO.out _ _ R2.out).mono ?_; rintro e w3 ⟨q3, rfl, A3, g3⟩
  have R3 := Lib.hid A3
  have z3 := Lib.hid (z2.out.bel g3)
  have b3 := bel_trans b2 g3
  clear A3
  go_wp2_with (first
    | (refine q_whole rfl (.tmp 8) (.tmp 118) rfl z rzero q3 rfl rfl z3.out R3.out.ok ?_; intro V z' y'))
  exact gives_end rfl rfl rfl R3.out z3.out y'.out z'.out b3 s1.out
set_option maxHeartbeats 2000000 in
set_option maxRecDepth 100000 in
theorem state31_1 (q : RV) (m : MS) (L : Nat) (d s t : Int) (ib : Bool) (n a b : Int) (w : World) (hA : RefAt w q m L) (hm : MOk m) (hL : L ≤ 900) (hb : m.bank ≠ 0) :
    Calls Tryz.prog 82 #[.agg (rrow q), .agg (irow 31 d s t ib 1), .int .u32 a, .int .u32 b] w (Gives w ((m.setP m.bank.toNat a).on) (L)) := by
  have HA := Lib.hid hA
  obtain ⟨j, hj⟩ : ∃ j : Nat, m.bank = j := ⟨m.bank.toNat, by have := hm.b0; omega⟩
  have hj16 : j ≤ 16 := by have := hm.b1; omega
  have hj1 : 1 ≤ j := by omega
  have Hb : Hid (q.bank = (j : Int)) := hA.bank.trans hj
  have hjj : m.bank.toNat = j := by rw [hj]; rfl
  rw [hjj]
  have HO := Lib.hid (fun W q2 (hW : RefAt W q2 (m.setP j a) L) => on_ref q2 _ L W hW)
  have HW := Lib.hid (fun W (hW : Sl .u32 W q.ts 17 m.tps) => with_at q.ts 17 j m.tps a W hW (by decide) (by omega))
  have HOk := Lib.hid hA.ok
  clear hA hm hb hj hjj
  go_enter Tryz.func82, Tryz.ntmps82
  go_upto_region 1 with (refine q_start3 rfl rfl rfl (.tmp 0) (.tmp 1) rfl rfl (some 4) (some 5) (some 8) rfl rfl rfl q rfl 31 d s t ib 1 rfl (fun W c => by kernel_rfl) ?_; intro V1 c z r1 i1 z1 b1 s1; obtain ⟨k0, k1, k2, k3, k4, k5, k6, k7, k8, k9, k10, k11, k12, k13, k14, k15⟩ := r1.out.all; rw [Hb.out] at k7; obtain ⟨j0, j1, j2, j3, j4, j5⟩ := i1.out.all)
  go_wp2_with fail
  refine (HW.out _ (HA.out.bel b1).ts.sl).mono ?_; rintro e w2 ⟨s2, rfl, l2, f2, g2⟩
  have F2 := Lib.hid (f2 (HA.out.bel b1).low)
  clear f2
  have r2 := Lib.hid (r1.out.bel g2)
  have z2 := Lib.hid (z1.out.bel g2)
  have b2 := bel_trans b1 g2
  have T2 := Lib.hid l2
  clear k0 k1 k2 k3 k4 k5 k6 k7 k8 k9 k10 k11 k12 k13 k14 k15 j0 j1 j2 j3 j4 j5 r1 i1 z1 l2 HW
  go_wp2_with (first
    | (refine q_store rfl _ (.tmp 130) (.tmp 129) rfl q { q with ts := s2 } _ _ rfl [s2] (by obtain ⟨⟨p', c', rfl, _⟩, _, _⟩ := T2.out; rfl) r2.out (by kernel_rfl) (by intro u hu; simp at hu; subst hu; exact sl_one T2.out.sl) (Nat.le_of_ble_eq_true rfl) rfl ?_; intro V3 r3 g3; have z3 := Lib.hid (z2.out.only g3 (by have := s1.out; omega)); have b3 := only_bel b2 g3 (Nat.le_refl _); have A3 : Hid (RefAt V3 { q with ts := s2 } (m.setP j a) L) := { (HA.out.bel b2).only r2.out g3 with ts := T2.out.only r2.out g3 (by decide), fts := F2.out })
    | (refine q_load rfl (.tmp 4) rfl (some 137) rfl _ { q with ts := s2 } rfl r3.out ?_))
  refine (HO.out _ _ A3.out).mono ?_; rintro e w4 ⟨q4, rfl, A4, g4⟩
  have R4 := Lib.hid A4
  have z4 := Lib.hid (z3.out.bel g4)
  have b4 := bel_trans b3 g4
  clear A4
  go_wp2_with (first
    | (refine q_whole rfl (.tmp 8) (.tmp 138) rfl z rzero q4 rfl rfl z4.out R4.out.ok ?_; intro V z' y'))
  exact gives_end rfl rfl rfl R4.out z4.out y'.out z'.out b4 s1.out
/-- A state in a block of its own. -/
def prow (a b c d : Int) : Array Value := #[.int .u8 a, .int .u8 b, .int .u8 c, .int .u8 d]
def PRow (w : World) (x : Nat) (a b c d : Int) : Prop := w.heap[x]? = some (.cells (prow a b c d) 24 (0, 0))
omit [Far] in
theorem p_alloc {ops : Array Oper} {rest : List Oper} {o : Oper} {a : Act} {w : World} {Q : Exit → Act → World → Prop} (hgd : o.guard = none) (d : Option Tmp) (hd : o.dst = d)
    (hrun : (execOp a.eval o).run Tryz.prog w = .ok (.value (.pointer (some ⟨w.heap.size, 0, none⟩))) (w.alloc (.cells (prow 0 0 0 0) 24)))
    (h : ∀ V, Hid (PRow V w.heap.size 0 0 0 0) → Below w.heap.size w V → wpList Tryz.prog ops Q rest (a.put d (.pointer (some ⟨w.heap.size, 0, none⟩))) V) : wpList Tryz.prog ops Q (o :: rest) a w :=
  Great.wpList_allocTo hgd d hd _ _ hrun (h _ (heap_alloc_last _ _) ((Below.refl _ _).alloc (Nat.le_refl _) _))
omit [Far] in
theorem p_store {ops : Array Oper} {rest : List Oper} {o : Oper} {a : Act} {w : World} {Q : Exit → Act → World → Prop} (hgd : o.guard = none) (x y : Operand) (ho : o.op = .store 24 x y) (b : Nat) (a0 a1 a2 a3 b0 b1 b2 b3 : Int) (hx : a.eval x = .pointer (some ⟨b, 0, none⟩))
    (hy : a.eval y = .agg (prow b0 b1 b2 b3)) (hr : PRow w b a0 a1 a2 a3) (h : ∀ V, Hid (PRow V b b0 b1 b2 b3) → w.grownBy V (some b) → wpList Tryz.prog ops Q rest (a.put o.dst undef) V) : wpList Tryz.prog ops Q (o :: rest) a w :=
  wpList_store_row hgd 24 x y ho b (prow b0 b1 b2 b3) hx hy 24 (prow a0 a1 a2 a3) hr (by kernel_rfl) rfl (by rw [Array.all_eq_true_iff_forall_mem]; intro v hv; simp [prow] at hv; rcases hv with rfl | rfl | rfl | rfl <;> rfl) (h _ (setRow_heap _ _ _ _ _ _ hr) (only_row ⟨rfl, rfl, rfl, Nat.le_refl _, fun _ _ _ => rfl⟩ rfl))
set_option maxHeartbeats 2000000 in
set_option maxRecDepth 100000 in
theorem state27y (q : RV) (m : MS) (L : Nat) (d s t : Int) (ib : Bool) (n a b : Int) (w : World) (hA : RefAt w q m L) (hm : MOk m) (hL : L ≤ 900) (hw : wst ((a + b) % 4294967296) m.nw = true) :
    Calls Tryz.prog 82 #[.agg (rrow q), .agg (irow 27 d s t ib n), .int .u32 a, .int .u32 b] w (Gives w ((m.psr ((a + b) % 4294967296)).on) (L)) := by
  have HA := Lib.hid hA
  have hW := (wst_iff hm.n2 hm.n32).1 hw
  obtain ⟨v, hv⟩ : ∃ v, v = (a + b) % 4294967296 := ⟨_, rfl⟩
  rw [← hv] at hW ⊢
  have HU := Lib.hid (fun W => P4.rUnpack_yes v q.nw W ⟨by omega, hW.1⟩ (by rw [hA.nw]; exact hW.2))
  obtain ⟨y0, h0⟩ : ∃ y, y = v % 32 := ⟨_, rfl⟩
  obtain ⟨y1, h1⟩ : ∃ y, y = v / 32 % 16 := ⟨_, rfl⟩
  obtain ⟨y2, h2⟩ : ∃ y, y = v / 512 % 32 := ⟨_, rfl⟩
  obtain ⟨y3, h3⟩ : ∃ y, y = v / 16384 % 16 := ⟨_, rfl⟩
  rw [← h0, ← h1, ← h2, ← h3] at HU
  have H0 := Lib.hid h0
  have H1 := Lib.hid h1
  have H2 := Lib.hid h2
  have H3 := Lib.hid h3
  have HO := Lib.hid (fun W q2 (hW : RefAt W q2 (m.psr v) L) => on_ref q2 _ L W hW)
  rw [hv] at HU
  have HOk := Lib.hid hA.ok
  clear hA hm hw hW h0 h1 h2 h3 hv
  go_enter Tryz.func82, Tryz.ntmps82
  go_upto_region 1 with (refine q_start3 rfl rfl rfl (.tmp 0) (.tmp 1) rfl rfl (some 4) (some 5) (some 8) rfl rfl rfl q rfl 27 d s t ib n rfl (fun W c => by kernel_rfl) ?_; intro V1 c z r1 i1 z1 b1 s1; obtain ⟨k0, k1, k2, k3, k4, k5, k6, k7, k8, k9, k10, k11, k12, k13, k14, k15⟩ := r1.out.all; obtain ⟨j0, j1, j2, j3, j4, j5⟩ := i1.out.all)
  go_wp2_with fail
  refine (HU.out _).mono ?_; rintro e w2 ⟨rfl, g2⟩
  have r2 := Lib.hid (r1.out.bel g2)
  have z2 := Lib.hid (z1.out.bel g2)
  have b2 := bel_trans b1 g2
  have hlt : Hid (w.heap.size < w2.heap.size ∧ z < w2.heap.size) := ⟨r2.out.lt, z2.out.lt⟩
  clear k0 k1 k2 k3 k4 k5 k6 k7 k8 k9 k10 k11 k12 k13 k14 k15 j0 j1 j2 j3 j4 j5 r1 i1 z1 HU
  go_wp2_with (first
    | (refine p_alloc rfl (some 11) rfl (by kernel_rfl) ?_; intro V3 p3 b3; have r3 := Lib.hid (r2.out.bel b3); have z3 := Lib.hid (z2.out.bel b3); have c3 := bel_trans b2 b3)
    | (refine p_store rfl (.tmp 11) (.tmp 47) rfl w2.heap.size 0 0 0 0 y0 y1 y2 y3 rfl rfl p3.out ?_; intro V4 p4 g4; have r4 := Lib.hid (r3.out.only g4 (by have := hlt.out; omega)); have z4 := Lib.hid (z3.out.only g4 (by have := hlt.out; omega)); have b4 := only_bel c3 g4 (by have := hlt.out; omega); have e0 := row_cell (j := 0) p4.out rfl; have e1 := row_cell (j := 1) p4.out rfl; have e2 := row_cell (j := 2) p4.out rfl; have e3 := row_cell (j := 3) p4.out rfl)
    | (refine q_store rfl _ (.tmp 54) (.tmp 53) rfl q { q with cwp := y0, pil := y1, bank := y2, fl := y3 } _ _ rfl [.int .u8 y0, .int .u8 y1, .int .u8 y2, .int .u8 y3] rfl r4.out (by kernel_rfl) (by intro u hu; simp at hu; rcases hu with rfl | rfl | rfl | rfl <;> rfl) (Nat.le_of_ble_eq_true rfl) rfl ?_; intro V5 r5 g5; have z5 := Lib.hid (z4.out.only g5 (by have := s1.out; omega)); have b5 := only_bel b4 g5 (Nat.le_refl _); have A5 : Hid (RefAt V5 { q with cwp := y0, pil := y1, bank := y2, fl := y3 } (m.psr v) L) := { (HA.out.bel b4).only r4.out g5 with cwp := H0.out, pil := H1.out, bank := H2.out, fl := H3.out })
    | (refine q_load rfl (.tmp 4) rfl (some 55) rfl _ { q with cwp := y0, pil := y1, bank := y2, fl := y3 } rfl r5.out ?_))
  refine (HO.out _ _ A5.out).mono ?_; rintro e w6 ⟨q6, rfl, A6, g6⟩
  have R6 := Lib.hid A6
  have z6 := Lib.hid (z5.out.bel g6)
  have b6 := bel_trans b5 g6
  clear A6
  go_wp2_with (first
    | (refine q_whole rfl (.tmp 8) (.tmp 56) rfl z rzero q6 rfl rfl z6.out R6.out.ok ?_; intro V z' y'))
  exact gives_end rfl rfl rfl R6.out z6.out y'.out z'.out b6 s1.out
set_option maxHeartbeats 2000000 in
set_option maxRecDepth 100000 in
theorem state27n (q : RV) (m : MS) (L : Nat) (d s t : Int) (ib : Bool) (n a b : Int) (w : World) (hA : RefAt w q m L) (hm : MOk m) (hL : L ≤ 900) (hw : wst ((a + b) % 4294967296) m.nw = false) :
    Calls Tryz.prog 82 #[.agg (rrow q), .agg (irow 27 d s t ib n), .int .u32 a, .int .u32 b] w (Gives w (m.stp 3 0) (L)) := by
  have HA := Lib.hid hA
  have HU := Lib.hid (fun W => P4.rUnpack_form ((a + b) % 4294967296) q.nw W (by rw [hA.nw]; exact hm.n2) (by rw [hA.nw]; exact hm.n32) (w32_mod _) (by rw [hA.nw]; intro h; rw [(wst_iff hm.n2 hm.n32).2 h] at hw; cases hw))
  have HC := Lib.hid (fun W (hW : RefAt W q m L) => stopped_ref q m L 3 0 W hW)
  clear hA hm hw
  go_enter Tryz.func82, Tryz.ntmps82
  go_upto_region 1 with (refine q_start3 rfl rfl rfl (.tmp 0) (.tmp 1) rfl rfl (some 4) (some 5) (some 8) rfl rfl rfl q rfl 27 d s t ib n rfl (fun W c => by kernel_rfl) ?_; intro V1 c z r1 i1 z1 b1 s1; obtain ⟨k0, k1, k2, k3, k4, k5, k6, k7, k8, k9, k10, k11, k12, k13, k14, k15⟩ := r1.out.all; obtain ⟨j0, j1, j2, j3, j4, j5⟩ := i1.out.all)
  go_wp2_with fail
  refine (HU.out _).mono ?_; rintro e w2 ⟨rfl, g2⟩
  have r2 := Lib.hid (r1.out.bel g2)
  have z2 := Lib.hid (z1.out.bel g2)
  have b2 := bel_trans b1 g2
  have hlt : Hid (w.heap.size < w2.heap.size ∧ z < w2.heap.size) := ⟨r2.out.lt, z2.out.lt⟩
  clear k0 k1 k2 k3 k4 k5 k6 k7 k8 k9 k10 k11 k12 k13 k14 k15 j0 j1 j2 j3 j4 j5 r1 i1 z1 HU
  go_wp2_with (first
    | (refine p_alloc rfl (some 11) rfl (by kernel_rfl) ?_; intro V3 p3 b3; have r3 := Lib.hid (r2.out.bel b3); have z3 := Lib.hid (z2.out.bel b3); have c3 := bel_trans b2 b3)
    | (refine p_store rfl (.tmp 11) (.tmp 47) rfl w2.heap.size 0 0 0 0 0 0 0 0 rfl rfl p3.out ?_; intro V4 p4 g4; have r4 := Lib.hid (r3.out.only g4 (by have := hlt.out; omega)); have z4 := Lib.hid (z3.out.only g4 (by have := hlt.out; omega)); have b4 := only_bel c3 g4 (by have := hlt.out; omega); have e0 := row_cell (j := 0) p4.out rfl; have e1 := row_cell (j := 1) p4.out rfl; have e2 := row_cell (j := 2) p4.out rfl; have e3 := row_cell (j := 3) p4.out rfl)
    | (refine q_load rfl (.tmp 4) rfl (some 51) rfl _ q rfl r4.out ?_))
  refine (HC.out _ (HA.out.bel b4)).mono ?_; rintro e w5 ⟨q5, rfl, A5, g5⟩
  have R5 := Lib.hid A5
  have z5 := Lib.hid (z4.out.bel g5)
  have b5 := bel_trans b4 g5
  clear A5
  go_wp2_with (first
    | (refine q_whole rfl (.tmp 8) (.tmp 52) rfl z rzero q5 rfl rfl z5.out R5.out.ok ?_; intro V z' y'))
  exact gives_end rfl rfl rfl R5.out z5.out y'.out z'.out b5 s1.out
end Go.Proofs.YtiobgnelhiadbaaGreatDoor.K6
namespace Go.Proofs.YtiobgnelhiadbaaGreatDoor.K6
open Go.RowKit
set_option linter.unusedVariables false
variable [Far]
omit [Far] in
theorem SlT.empty (k : IntKind) (t : TypeId) (w : World) (p : Option Addr) (c : Nat) (f : Nat → Int) : SlT k t w (.slice p 0 c) 0 f :=
  ⟨Sl.nil _ _ _ _ _, (fun b o m c e hm => by cases e; omega), fun p m c e => by cases e; omega⟩
omit [Far] in
/-- A slice without its first number. -/
theorem SlT.tail {k : IntKind} {t : TypeId} {w : World} {b o n c : Nat} {f : Nat → Int} (h : SlT k t w (.slice (some ⟨b, o, none⟩) n c) n f) (hn : 0 < n) : SlT k t w (.slice (some ⟨b, o + 1, none⟩) (n - 1) (c - 1)) (n - 1) (fun i => f (i + 1)) := by
  obtain ⟨⟨p, c', e, hp⟩, hty, hcap⟩ := h
  cases e
  obtain ⟨b', o', e', hc⟩ := hp hn
  cases e'
  refine ⟨⟨_, _, rfl, fun _ => ⟨b, o + 1, rfl, fun i hi => ?_⟩⟩, fun b2 o2 m2 c2 e hm => ?_, fun p m c2 e => ?_⟩
  · have := hc (i + 1) (by omega)
    rwa [show o + (i + 1) = o + 1 + i by omega] at this
  · cases e
    exact hty _ _ _ _ rfl hn
  · cases e
    have := hcap _ _ _ rfl
    omega
set_option maxHeartbeats 2000000 in
set_option maxRecDepth 100000 in
theorem rest33 (q : RV) (m : MS) (L : Nat) (d s t : Int) (ib : Bool) (n a : Int) (w : World) (hA : RefAt w q m L) (hm : MOk m) (hL : L ≤ 900) (hn0 : 0 ≤ n) (hn1 : n < 256) :
    Calls Tryz.prog 83 #[.agg (rrow q), .agg (irow 33 d s t ib n), .int .u32 a] w (Gives w (m.wnd n ((m.pc + 4) % 4294967296)) (L)) := by
  have HA := Lib.hid hA
  have HC := Lib.hid (fun W (hW : RefAt W q m L) => window_ref q m L n ((m.pc + 4) % 4294967296) W hW hm hn0 hn1)
  rw [← hA.pc] at HC ⊢
  clear hA hm
  go_enter Tryz.func83, Tryz.ntmps83
  go_upto_region 1 with (refine q_start3 rfl rfl rfl (.tmp 0) (.tmp 1) rfl rfl (some 3) (some 4) (some 6) rfl rfl rfl q rfl 33 d s t ib n rfl (fun W c => by kernel_rfl) ?_; intro V1 c z r1 i1 z1 b1 s1; obtain ⟨k0, k1, k2, k3, k4, k5, k6, k7, k8, k9, k10, k11, k12, k13, k14, k15⟩ := r1.out.all; obtain ⟨j0, j1, j2, j3, j4, j5⟩ := i1.out.all)
  go_wp2_with (first
    | (refine q_load rfl (.tmp 3) rfl (some 12) rfl _ q rfl r1.out ?_))
  refine (HC.out _ (HA.out.bel b1)).mono ?_; rintro e w2 ⟨q2, rfl, A2, g2⟩
  have R2 := Lib.hid A2
  have z2 := Lib.hid (z1.out.bel g2)
  have b2 := bel_trans b1 g2
  clear A2
  go_wp2_with (first
    | (refine q_whole rfl (.tmp 6) (.tmp 19) rfl z rzero q2 rfl rfl z2.out R2.out.ok ?_; intro V z' y'))
  exact gives_end rfl rfl rfl R2.out z2.out y'.out z'.out b2 s1.out
set_option maxHeartbeats 2000000 in
set_option maxRecDepth 100000 in
theorem rest34n (q : RV) (m : MS) (L : Nat) (d s t : Int) (ib : Bool) (n a : Int) (w : World) (hA : RefAt w q m L) (hm : MOk m) (hL : L ≤ 900) (hd0 : 0 ≤ d) (hd1 : d < 32) (hc : m.cl = 0) :
    Calls Tryz.prog 83 #[.agg (rrow q), .agg (irow 34 d s t ib n), .int .u32 a] w (Gives w ((m.set d 0).on) (L + 1)) := by
  have HA := Lib.hid hA
  have HS := Lib.hid (fun W (hW : RefAt W q m L) => set_ref q m L d 0 W hW hm hL hd0 hd1)
  have HO := Lib.hid (fun W q2 (hW : RefAt W q2 (m.set d 0) (L + 1)) => on_ref q2 _ (L + 1) W hW)
  obtain ⟨⟨p, cc, hs, _⟩, _, _⟩ := hA.ch
  rw [hc] at hs
  have Hs : Hid (q.ch = .slice p 0 cc) := hs
  clear hA hm hs hc
  go_enter Tryz.func83, Tryz.ntmps83
  go_upto_region 1 with (refine q_start3 rfl rfl rfl (.tmp 0) (.tmp 1) rfl rfl (some 3) (some 4) (some 6) rfl rfl rfl q rfl 34 d s t ib n rfl (fun W c => by kernel_rfl) ?_; intro V1 c z r1 i1 z1 b1 s1; obtain ⟨k0, k1, k2, k3, k4, k5, k6, k7, k8, k9, k10, k11, k12, k13, k14, k15⟩ := r1.out.all; rw [Hs.out] at k12; obtain ⟨j0, j1, j2, j3, j4, j5⟩ := i1.out.all)
  go_wp2_with (first
    | (refine q_load rfl (.tmp 3) rfl (some 34) rfl _ q rfl r1.out ?_))
  refine (HS.out _ (HA.out.bel b1)).mono ?_; rintro e w2 ⟨q2, rfl, A2, g2⟩
  have R2 := Lib.hid A2
  have r2 := Lib.hid (r1.out.bel g2)
  have z2 := Lib.hid (z1.out.bel g2)
  have b2 := bel_trans b1 g2
  clear A2
  go_wp2_with fail
  refine (HO.out _ _ R2.out).mono ?_; rintro e w3 ⟨q3, rfl, A3, g3⟩
  have R3 := Lib.hid A3
  have z3 := Lib.hid (z2.out.bel g3)
  have b3 := bel_trans b2 g3
  clear A3
  go_wp2_with (first
    | (refine q_whole rfl (.tmp 6) (.tmp 40) rfl z rzero q3 rfl rfl z3.out R3.out.ok ?_; intro V z' y'))
  exact gives_end rfl rfl rfl R3.out z3.out y'.out z'.out b3 s1.out
set_option maxHeartbeats 2000000 in
set_option maxRecDepth 100000 in
theorem rest36 (q : RV) (m : MS) (L : Nat) (d s t : Int) (ib : Bool) (n a : Int) (w : World) (hA : RefAt w q m L) (hm : MOk m) (hL : L ≤ 900) :
    Calls Tryz.prog 83 #[.agg (rrow q), .agg (irow 36 d s t ib n), .int .u32 a] w (Gives w (m.stp 1 a) (L)) := by
  have HA := Lib.hid hA
  have HC := Lib.hid (fun W (hW : RefAt W q m L) => stopped_ref q m L 1 a W hW)
  clear hA hm
  go_enter Tryz.func83, Tryz.ntmps83
  go_upto_region 1 with (refine q_start3 rfl rfl rfl (.tmp 0) (.tmp 1) rfl rfl (some 3) (some 4) (some 6) rfl rfl rfl q rfl 36 d s t ib n rfl (fun W c => by kernel_rfl) ?_; intro V1 c z r1 i1 z1 b1 s1; obtain ⟨k0, k1, k2, k3, k4, k5, k6, k7, k8, k9, k10, k11, k12, k13, k14, k15⟩ := r1.out.all; obtain ⟨j0, j1, j2, j3, j4, j5⟩ := i1.out.all)
  go_wp2_with (first
    | (refine q_load rfl (.tmp 3) rfl (some 55) rfl _ q rfl r1.out ?_))
  refine (HC.out _ (HA.out.bel b1)).mono ?_; rintro e w2 ⟨q2, rfl, A2, g2⟩
  have R2 := Lib.hid A2
  have z2 := Lib.hid (z1.out.bel g2)
  have b2 := bel_trans b1 g2
  clear A2
  go_wp2_with (first
    | (refine q_whole rfl (.tmp 6) (.tmp 57) rfl z rzero q2 rfl rfl z2.out R2.out.ok ?_; intro V z' y'))
  exact gives_end rfl rfl rfl R2.out z2.out y'.out z'.out b2 s1.out
set_option maxHeartbeats 2000000 in
set_option maxRecDepth 100000 in
theorem rest37 (q : RV) (m : MS) (L : Nat) (d s t : Int) (ib : Bool) (n a : Int) (w : World) (hA : RefAt w q m L) (hm : MOk m) (hL : L ≤ 900) (hn0 : 0 ≤ n) (hn1 : n < 256) :
    Calls Tryz.prog 83 #[.agg (rrow q), .agg (irow 37 d s t ib n), .int .u32 a] w (Gives w (m.stp 2 n) (L)) := by
  have HA := Lib.hid hA
  have HC := Lib.hid (fun W (hW : RefAt W q m L) => stopped_ref q m L 2 n W hW)
  clear hA hm
  go_enter Tryz.func83, Tryz.ntmps83
  go_upto_region 1 with (refine q_start3 rfl rfl rfl (.tmp 0) (.tmp 1) rfl rfl (some 3) (some 4) (some 6) rfl rfl rfl q rfl 37 d s t ib n rfl (fun W c => by kernel_rfl) ?_; intro V1 c z r1 i1 z1 b1 s1; obtain ⟨k0, k1, k2, k3, k4, k5, k6, k7, k8, k9, k10, k11, k12, k13, k14, k15⟩ := r1.out.all; obtain ⟨j0, j1, j2, j3, j4, j5⟩ := i1.out.all)
  go_wp2_with (first
    | (refine q_load rfl (.tmp 3) rfl (some 58) rfl _ q rfl r1.out ?_))
  refine (HC.out _ (HA.out.bel b1)).mono ?_; rintro e w2 ⟨q2, rfl, A2, g2⟩
  have R2 := Lib.hid A2
  have z2 := Lib.hid (z1.out.bel g2)
  have b2 := bel_trans b1 g2
  clear A2
  go_wp2_with (first
    | (refine q_whole rfl (.tmp 6) (.tmp 62) rfl z rzero q2 rfl rfl z2.out R2.out.ok ?_; intro V z' y'))
  exact gives_end rfl rfl rfl R2.out z2.out y'.out z'.out b2 s1.out
set_option maxHeartbeats 2000000 in
set_option maxRecDepth 100000 in
theorem rest34y (q : RV) (m : MS) (L : Nat) (d s t : Int) (ib : Bool) (n a : Int) (w : World) (hA : RefAt w q m L) (hm : MOk m) (hL : L ≤ 900) (hd0 : 0 ≤ d) (hd1 : d < 32) (hc : 0 < m.cl) (hc1 : m.cl ≤ 1000) :
    Calls Tryz.prog 83 #[.agg (rrow q), .agg (irow 34 d s t ib n), .int .u32 a] w (Gives w ((m.drop.set d (m.ch 0)).on) (L + 1)) := by
  have HA := Lib.hid hA
  have HO := Lib.hid hA.ok
  have HS := Lib.hid (fun W q2 (hW : RefAt W q2 m.drop L) => set_ref q2 m.drop L d (m.ch 0) W hW hm.drop hL hd0 hd1)
  have HN := Lib.hid (fun W q2 (hW : RefAt W q2 (m.drop.set d (m.ch 0)) (L + 1)) => on_ref q2 _ (L + 1) W hW)
  obtain ⟨⟨p, cc, hs, hp⟩, hty, hcap⟩ := hA.ch
  have HCap : Hid (m.cl ≤ cc) := hcap _ _ _ hs
  obtain ⟨b0, o0, rfl, hcs⟩ := hp hc
  have Hs : Hid (q.ch = .slice (some ⟨b0, o0, none⟩) m.cl cc) := hs
  have HCS := Lib.hid hcs
  have hc0 := hcs 0 hc
  rw [Nat.add_zero] at hc0
  obtain ⟨v, hv⟩ : ∃ v, v = m.ch 0 := ⟨_, rfl⟩
  rw [← hv] at hc0 HS HN ⊢
  have HC0 := Lib.hid hc0
  have HTy := Lib.hid (hty b0 o0 m.cl cc hs hc)
  clear hA hm hs hp hcs hty hcap hc0 hv
  go_enter Tryz.func83, Tryz.ntmps83
  go_upto_region 1 with (refine q_start3 rfl rfl rfl (.tmp 0) (.tmp 1) rfl rfl (some 3) (some 4) (some 6) rfl rfl rfl q rfl 34 d s t ib n rfl (fun W c => by kernel_rfl) ?_; intro V1 c z r1 i1 z1 b1 s1; obtain ⟨k0, k1, k2, k3, k4, k5, k6, k7, k8, k9, k10, k11, k12, k13, k14, k15⟩ := r1.out.all; obtain ⟨j0, j1, j2, j3, j4, j5⟩ := i1.out.all; rw [Hs.out] at k12; have e0 := bel_cell b1 HC0.out)
  go_upto_region 8 with (fail)
  by_cases hcc : cc = 1
  · subst hcc
    go_upto_region 9 with (refine q_store rfl _ (.tmp 33) (.tmp 32) rfl q { q with ch := .slice (some ⟨b0, o0, none⟩) (m.cl - 1) 0 } _ _ rfl [.slice (some ⟨b0, o0, none⟩) (m.cl - 1) 0] rfl r1.out (by kernel_rfl) (by intro u hu; simp at hu; subst hu; rfl) (Nat.le_of_ble_eq_true rfl) rfl ?_; intro V2 r2 g2)
    have z2 := Lib.hid (z1.out.only g2 (by have := s1.out; omega))
    have b2 := only_bel b1 g2 (Nat.le_refl _)
    have i2 := Lib.hid (i1.out.only r1.out g2)
    have A2 : Hid (RefAt V2 { q with ch := .slice (some ⟨b0, o0, none⟩) (m.cl - 1) 0 } m.drop L) := { (HA.out.bel b1).only r1.out g2 with ch := (show SlT .u32 22 V2 (.slice (some ⟨b0, o0, none⟩) (m.cl - 1) 0) (m.cl - 1) (fun i => m.ch (i + 1)) by have := HCap.out; rw [show m.cl - 1 = 0 by omega]; exact SlT.empty _ _ _ _ _ _), fch := fun b o k c e h => by have := HCap.out; cases e; omega }
    clear k0 k1 k2 k3 k4 k5 k6 k7 k8 k9 k10 k11 k12 k13 k14 k15 j0 j1 j2 j3 j4 j5
    obtain ⟨j0, j1, j2, j3, j4, j5⟩ := i2.out.all
    go_wp2_with (first
      | (refine q_load rfl (.tmp 3) rfl (some 34) rfl _ { q with ch := .slice (some ⟨b0, o0, none⟩) (m.cl - 1) 0 } rfl r2.out ?_))
    refine (HS.out _ _ A2.out).mono ?_; rintro e w3 ⟨q3, rfl, A3, g3⟩
    have R3 := Lib.hid A3
    have r3 := Lib.hid (r2.out.bel g3)
    have z3 := Lib.hid (z2.out.bel g3)
    have b3 := bel_trans b2 g3
    clear A3
    go_wp2_with fail
    refine (HN.out _ _ R3.out).mono ?_; rintro e w4 ⟨q4, rfl, A4, g4⟩
    have R4 := Lib.hid A4
    have z4 := Lib.hid (z3.out.bel g4)
    have b4 := bel_trans b3 g4
    clear A4
    go_wp2_with (first
      | (refine q_whole rfl (.tmp 6) (.tmp 40) rfl z rzero q4 rfl rfl z4.out R4.out.ok ?_; intro V z' y'))
    exact gives_end rfl rfl rfl R4.out z4.out y'.out z'.out b4 s1.out
  · skip
    go_upto_region 9 with (refine q_store rfl _ (.tmp 33) (.tmp 32) rfl q { q with ch := .slice (some ⟨b0, o0 + 1, none⟩) (m.cl - 1) (cc - 1) } _ _ rfl [.slice (some ⟨b0, o0 + 1, none⟩) (m.cl - 1) (cc - 1)] rfl r1.out (by kernel_rfl) (by intro u hu; simp at hu; subst hu; rfl) (Nat.le_of_ble_eq_true rfl) rfl ?_; intro V2 r2 g2)
    have z2 := Lib.hid (z1.out.only g2 (by have := s1.out; omega))
    have b2 := only_bel b1 g2 (Nat.le_refl _)
    have i2 := Lib.hid (i1.out.only r1.out g2)
    have A2 : Hid (RefAt V2 { q with ch := .slice (some ⟨b0, o0 + 1, none⟩) (m.cl - 1) (cc - 1) } m.drop L) := { (HA.out.bel b1).only r1.out g2 with ch := SlT.tail (Hs.out ▸ ((HA.out.bel b1).only r1.out g2).ch) hc, fch := fun b o k c e h => by cases e; exact HA.out.fch _ _ _ _ Hs.out hc }
    clear k0 k1 k2 k3 k4 k5 k6 k7 k8 k9 k10 k11 k12 k13 k14 k15 j0 j1 j2 j3 j4 j5
    obtain ⟨j0, j1, j2, j3, j4, j5⟩ := i2.out.all
    go_wp2_with (first
      | (refine q_load rfl (.tmp 3) rfl (some 34) rfl _ { q with ch := .slice (some ⟨b0, o0 + 1, none⟩) (m.cl - 1) (cc - 1) } rfl r2.out ?_))
    refine (HS.out _ _ A2.out).mono ?_; rintro e w3 ⟨q3, rfl, A3, g3⟩
    have R3 := Lib.hid A3
    have r3 := Lib.hid (r2.out.bel g3)
    have z3 := Lib.hid (z2.out.bel g3)
    have b3 := bel_trans b2 g3
    clear A3
    go_wp2_with fail
    refine (HN.out _ _ R3.out).mono ?_; rintro e w4 ⟨q4, rfl, A4, g4⟩
    have R4 := Lib.hid A4
    have z4 := Lib.hid (z3.out.bel g4)
    have b4 := bel_trans b3 g4
    clear A4
    go_wp2_with (first
      | (refine q_whole rfl (.tmp 6) (.tmp 40) rfl z rzero q4 rfl rfl z4.out R4.out.ok ?_; intro V z' y'))
    exact gives_end rfl rfl rfl R4.out z4.out y'.out z'.out b4 s1.out
end Go.Proofs.YtiobgnelhiadbaaGreatDoor.K6
