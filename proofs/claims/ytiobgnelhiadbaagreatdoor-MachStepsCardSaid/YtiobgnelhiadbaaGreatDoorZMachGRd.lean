/- The document's machine (layer 6): what memory comes to. -/
import Derived.Test.YtiobgnelhiadbaaGreatDoorZMachGRb
import Derived.Deep.RegionHeld3
namespace Go.Proofs.YtiobgnelhiadbaaGreatDoor.K6
open Go.RowKit
set_option linter.unusedVariables false
variable [Far]
omit [Far] in
/-- What a region that reads the own machine and the instruction needs in each world. -/
theorem held_all {V W : World} {b c : Nat} {q : RV} {o d s t : Int} {ib : Bool} {n : Int} (hr : RowQ V b q) (hi : InstQ V c o d s t ib n) (g : Below V.heap.size V W) :
    W.cell? ⟨b, 0, none⟩ = some (.int .i64 q.nw) ∧ W.cell? ⟨b, 1, none⟩ = some (.int .i64 q.fn) ∧ W.cell? ⟨b, 2, none⟩ = some q.fs ∧ W.cell? ⟨b, 3, none⟩ = some q.ms ∧ W.cell? ⟨b, 4, none⟩ = some (.int .u32 q.pc) ∧ W.cell? ⟨b, 5, none⟩ = some (.int .u8 q.cwp) ∧ W.cell? ⟨b, 6, none⟩ = some (.int .u8 q.pil) ∧ W.cell? ⟨b, 7, none⟩ = some (.int .u8 q.bank) ∧ W.cell? ⟨b, 8, none⟩ = some (.int .u8 q.fl) ∧ W.cell? ⟨b, 9, none⟩ = some (.int .u32 q.wim) ∧ W.cell? ⟨b, 10, none⟩ = some q.tp ∧ W.cell? ⟨b, 11, none⟩ = some q.ts ∧ W.cell? ⟨b, 12, none⟩ = some q.ch ∧ W.cell? ⟨b, 13, none⟩ = some q.ot ∧ W.cell? ⟨b, 14, none⟩ = some (.int .u8 q.sk) ∧ W.cell? ⟨b, 15, none⟩ = some (.int .u32 q.sv) ∧
    W.cell? ⟨c, 1, none⟩ = some (.int .u8 d) ∧ Below V.heap.size V W := by
  obtain ⟨h0, h1, h2, h3, h4, h5, h6, h7, h8, h9, h10, h11, h12, h13, h14, h15⟩ := (hr.bel g).all
  exact ⟨h0, h1, h2, h3, h4, h5, h6, h7, h8, h9, h10, h11, h12, h13, h14, h15, (hi.bel g).all.2.1, g⟩
set_option maxHeartbeats 2000000 in
set_option maxRecDepth 100000 in
theorem mem22y (q : RV) (m : MS) (L : Nat) (d s t : Int) (ib : Bool) (n : Int) (x : Nat) (w : World) (hA : RefAt w q m L) (hm : MOk m) (hL : L ≤ 900) (hd0 : 0 ≤ d) (hd1 : d < 32) (hx : (x : Int) < 4294967296) (h : thE m.sz x 4 = 0) :
    Calls Tryz.prog 81 #[.agg (rrow q), .agg (irow 22 d s t ib n), .int .u32 x] w (Gives w ((m.set d (ldB m.f x 4)).on) (L + 1)) := by
  have HA := Lib.hid hA
  have HR := Lib.hid (fun W (hW : Sl .u8 W q.ms m.sz m.f) => M5.rload_yes q.ms m.sz m.f x 4 W hm.sz hW hm.f h)
  have hv : W32 (ldB m.f x 4) := by
    have := ldB_in hm.f x 4
    exact ⟨this.1, by have := this.2; exact this⟩
  have HS := Lib.hid (fun W (hW : RefAt W q m L) => set_ref q m L d (ldB m.f x 4) W hW hm hL hd0 hd1)
  have HO := Lib.hid (fun W q2 (hW : RefAt W q2 (m.set d (ldB m.f x 4)) (L + 1)) => on_ref q2 _ (L + 1) W hW)
  obtain ⟨hv0, hv1⟩ := hv
  generalize ldB m.f x 4 = v at *
  clear hA hm h
  go_enter Tryz.func81, Tryz.ntmps81
  go_upto_region 1 with (refine q_start3 rfl rfl rfl (.tmp 0) (.tmp 1) rfl rfl (some 3) (some 4) (some 6) rfl rfl rfl q rfl 22 d s t ib n rfl (fun W c => by kernel_rfl) ?_; intro V1 c z r1 i1 z1 b1 s1; obtain ⟨k0, k1, k2, k3, k4, k5, k6, k7, k8, k9, k10, k11, k12, k13, k14, k15⟩ := r1.out.all; obtain ⟨j0, j1, j2, j3, j4, j5⟩ := i1.out.all)
  go_wp2_with fail
  refine (HR.out _ (HA.out.bel b1).mem.sl).mono ?_; rintro e w2 ⟨rfl, g2⟩
  have r2 := Lib.hid (r1.out.bel g2)
  have i2 := Lib.hid (i1.out.bel g2)
  have z2 := Lib.hid (z1.out.bel g2)
  have b2 := bel_trans b1 g2
  clear k0 k1 k2 k3 k4 k5 k6 k7 k8 k9 k10 k11 k12 k13 k14 k15 j0 j1 j2 j3 j4 j5 r1 i1 z1 HR
  obtain ⟨j0, j1, j2, j3, j4, j5⟩ := i2.out.all
  go_wp2_with (first
    | (refine q_load rfl (.tmp 3) rfl (some 35) rfl _ q rfl r2.out ?_))
  refine (HS.out _ (HA.out.bel b2)).mono ?_; rintro e w3 ⟨q3, rfl, A3, g3⟩
  have R3 := Lib.hid A3
  have r3 := Lib.hid (r2.out.bel g3)
  have z3 := Lib.hid (z2.out.bel g3)
  have b3 := bel_trans b2 g3
  clear A3
  go_wp2_with fail
  refine (HO.out _ _ R3.out).mono ?_; rintro e w4 ⟨q4, rfl, A4, g4⟩
  have R4 := Lib.hid A4
  have z4 := Lib.hid (z3.out.bel g4)
  have b4 := bel_trans b3 g4
  clear A4
  go_wp2_with (first
    | (refine q_whole rfl (.tmp 6) (.tmp 41) rfl z rzero q4 rfl rfl z4.out R4.out.ok ?_; intro V z' y'))
  exact gives_end rfl rfl rfl R4.out z4.out y'.out z'.out b4 s1.out
set_option maxHeartbeats 2000000 in
set_option maxRecDepth 100000 in
theorem mem22n (q : RV) (m : MS) (L : Nat) (d s t : Int) (ib : Bool) (n : Int) (x : Nat) (w : World) (hA : RefAt w q m L) (hm : MOk m) (hL : L ≤ 900) (hd0 : 0 ≤ d) (hd1 : d < 32) (hx : (x : Int) < 4294967296) (h : thE m.sz x 4 ≠ 0) :
    Calls Tryz.prog 81 #[.agg (rrow q), .agg (irow 22 d s t ib n), .int .u32 x] w (Gives w (m.stp 3 0) (L)) := by
  have HA := Lib.hid hA
  obtain ⟨⟨p, cc, hs, _⟩, _, _⟩ := hA.mem
  have Hs : Hid (q.ms = .slice p m.sz cc) := hs
  have HR := Lib.hid (fun W => M5.rload_no p m.sz cc x 4 W hm.sz ⟨by omega, hx⟩ h)
  have HC := Lib.hid (fun W (hW : RefAt W q m L) => stopped_ref q m L 3 0 W hW)
  have h' : (thE m.sz x 4 != 0) = true := by simpa using h
  generalize thE m.sz x 4 = v at *
  clear hA hm h hs
  go_enter Tryz.func81, Tryz.ntmps81
  go_upto_region 1 with (refine q_start3 rfl rfl rfl (.tmp 0) (.tmp 1) rfl rfl (some 3) (some 4) (some 6) rfl rfl rfl q rfl 22 d s t ib n rfl (fun W c => by kernel_rfl) ?_; intro V1 c z r1 i1 z1 b1 s1; obtain ⟨k0, k1, k2, k3, k4, k5, k6, k7, k8, k9, k10, k11, k12, k13, k14, k15⟩ := r1.out.all; rw [Hs.out] at k3; obtain ⟨j0, j1, j2, j3, j4, j5⟩ := i1.out.all)
  go_wp2_with fail
  refine (HR.out _).mono ?_; rintro e w2 ⟨rfl, g2⟩
  subst g2
  go_wp2_with (first
    | (refine q_load rfl (.tmp 3) rfl (some 33) rfl _ q rfl r1.out ?_))
  refine (HC.out _ (HA.out.bel b1)).mono ?_; rintro e w2 ⟨q2, rfl, A2, g2⟩
  have R2 := Lib.hid A2
  have z2 := Lib.hid (z1.out.bel g2)
  have b2 := bel_trans b1 g2
  clear A2
  go_wp2_with (first
    | (refine q_whole rfl (.tmp 6) (.tmp 34) rfl z rzero q2 rfl rfl z2.out R2.out.ok ?_; intro V z' y'))
  exact gives_end rfl rfl rfl R2.out z2.out y'.out z'.out b2 s1.out
set_option maxHeartbeats 2000000 in
set_option maxRecDepth 100000 in
theorem mem24y (q : RV) (m : MS) (L : Nat) (d s t : Int) (ib : Bool) (n : Int) (x : Nat) (w : World) (hA : RefAt w q m L) (hm : MOk m) (hL : L ≤ 900) (hd0 : 0 ≤ d) (hd1 : d < 32) (hx : (x : Int) < 4294967296) (h : thE m.sz x 1 = 0) :
    Calls Tryz.prog 81 #[.agg (rrow q), .agg (irow 24 d s t ib n), .int .u32 x] w (Gives w ((m.set d (ldB m.f x 1)).on) (L + 1)) := by
  have HA := Lib.hid hA
  have HR := Lib.hid (fun W (hW : Sl .u8 W q.ms m.sz m.f) => M5.rload_yes q.ms m.sz m.f x 1 W hm.sz hW hm.f h)
  have hv : W32 (ldB m.f x 1) := by
    have := ldB_in hm.f x 1
    exact ⟨this.1, by have := this.2; omega⟩
  have HS := Lib.hid (fun W (hW : RefAt W q m L) => set_ref q m L d (ldB m.f x 1) W hW hm hL hd0 hd1)
  have HO := Lib.hid (fun W q2 (hW : RefAt W q2 (m.set d (ldB m.f x 1)) (L + 1)) => on_ref q2 _ (L + 1) W hW)
  obtain ⟨hv0, hv1⟩ := hv
  generalize ldB m.f x 1 = v at *
  clear hA hm h
  go_enter Tryz.func81, Tryz.ntmps81
  go_upto_region 1 with (refine q_start3 rfl rfl rfl (.tmp 0) (.tmp 1) rfl rfl (some 3) (some 4) (some 6) rfl rfl rfl q rfl 24 d s t ib n rfl (fun W c => by kernel_rfl) ?_; intro V1 c z r1 i1 z1 b1 s1; obtain ⟨k0, k1, k2, k3, k4, k5, k6, k7, k8, k9, k10, k11, k12, k13, k14, k15⟩ := r1.out.all; obtain ⟨j0, j1, j2, j3, j4, j5⟩ := i1.out.all)
  go_wp2_with fail
  refine (HR.out _ (HA.out.bel b1).mem.sl).mono ?_; rintro e w2 ⟨rfl, g2⟩
  have r2 := Lib.hid (r1.out.bel g2)
  have i2 := Lib.hid (i1.out.bel g2)
  have z2 := Lib.hid (z1.out.bel g2)
  have b2 := bel_trans b1 g2
  clear k0 k1 k2 k3 k4 k5 k6 k7 k8 k9 k10 k11 k12 k13 k14 k15 j0 j1 j2 j3 j4 j5 r1 i1 z1 HR
  obtain ⟨j0, j1, j2, j3, j4, j5⟩ := i2.out.all
  go_wp2_with (first
    | (refine q_load rfl (.tmp 3) rfl (some 35) rfl _ q rfl r2.out ?_))
  refine (HS.out _ (HA.out.bel b2)).mono ?_; rintro e w3 ⟨q3, rfl, A3, g3⟩
  have R3 := Lib.hid A3
  have r3 := Lib.hid (r2.out.bel g3)
  have z3 := Lib.hid (z2.out.bel g3)
  have b3 := bel_trans b2 g3
  clear A3
  go_wp2_with fail
  refine (HO.out _ _ R3.out).mono ?_; rintro e w4 ⟨q4, rfl, A4, g4⟩
  have R4 := Lib.hid A4
  have z4 := Lib.hid (z3.out.bel g4)
  have b4 := bel_trans b3 g4
  clear A4
  go_wp2_with (first
    | (refine q_whole rfl (.tmp 6) (.tmp 41) rfl z rzero q4 rfl rfl z4.out R4.out.ok ?_; intro V z' y'))
  exact gives_end rfl rfl rfl R4.out z4.out y'.out z'.out b4 s1.out
set_option maxHeartbeats 2000000 in
set_option maxRecDepth 100000 in
theorem mem24n (q : RV) (m : MS) (L : Nat) (d s t : Int) (ib : Bool) (n : Int) (x : Nat) (w : World) (hA : RefAt w q m L) (hm : MOk m) (hL : L ≤ 900) (hd0 : 0 ≤ d) (hd1 : d < 32) (hx : (x : Int) < 4294967296) (h : thE m.sz x 1 ≠ 0) :
    Calls Tryz.prog 81 #[.agg (rrow q), .agg (irow 24 d s t ib n), .int .u32 x] w (Gives w (m.stp 3 0) (L)) := by
  have HA := Lib.hid hA
  obtain ⟨⟨p, cc, hs, _⟩, _, _⟩ := hA.mem
  have Hs : Hid (q.ms = .slice p m.sz cc) := hs
  have HR := Lib.hid (fun W => M5.rload_no p m.sz cc x 1 W hm.sz ⟨by omega, hx⟩ h)
  have HC := Lib.hid (fun W (hW : RefAt W q m L) => stopped_ref q m L 3 0 W hW)
  have h' : (thE m.sz x 1 != 0) = true := by simpa using h
  generalize thE m.sz x 1 = v at *
  clear hA hm h hs
  go_enter Tryz.func81, Tryz.ntmps81
  go_upto_region 1 with (refine q_start3 rfl rfl rfl (.tmp 0) (.tmp 1) rfl rfl (some 3) (some 4) (some 6) rfl rfl rfl q rfl 24 d s t ib n rfl (fun W c => by kernel_rfl) ?_; intro V1 c z r1 i1 z1 b1 s1; obtain ⟨k0, k1, k2, k3, k4, k5, k6, k7, k8, k9, k10, k11, k12, k13, k14, k15⟩ := r1.out.all; rw [Hs.out] at k3; obtain ⟨j0, j1, j2, j3, j4, j5⟩ := i1.out.all)
  go_wp2_with fail
  refine (HR.out _).mono ?_; rintro e w2 ⟨rfl, g2⟩
  subst g2
  go_wp2_with (first
    | (refine q_load rfl (.tmp 3) rfl (some 33) rfl _ q rfl r1.out ?_))
  refine (HC.out _ (HA.out.bel b1)).mono ?_; rintro e w2 ⟨q2, rfl, A2, g2⟩
  have R2 := Lib.hid A2
  have z2 := Lib.hid (z1.out.bel g2)
  have b2 := bel_trans b1 g2
  clear A2
  go_wp2_with (first
    | (refine q_whole rfl (.tmp 6) (.tmp 34) rfl z rzero q2 rfl rfl z2.out R2.out.ok ?_; intro V z' y'))
  exact gives_end rfl rfl rfl R2.out z2.out y'.out z'.out b2 s1.out
set_option maxHeartbeats 2000000 in
set_option maxRecDepth 100000 in
theorem mem23y (q : RV) (m : MS) (L : Nat) (d s t : Int) (ib : Bool) (n : Int) (x : Nat) (w : World) (hA : RefAt w q m L) (hm : MOk m) (hL : L ≤ 900) (hd0 : 0 ≤ d) (hd1 : d < 32) (hx : (x : Int) < 4294967296) (h : thE m.sz x 4 = 0) :
    Calls Tryz.prog 81 #[.agg (rrow q), .agg (irow 23 d s t ib n), .int .u32 x] w (Gives w ((m.byt (stB m.f x 4 (m.get d))).on) (L)) := by
  have HA := Lib.hid hA
  obtain ⟨⟨p, cc, hs, _⟩, _, _⟩ := hA.mem
  have Hs : Hid (q.ms = .slice p m.sz cc) := hs
  obtain ⟨v, hv⟩ : ∃ v, v = m.get d := ⟨_, rfl⟩
  have hv0 := hm.get d
  rw [← hv] at hv0
  obtain ⟨hv0, hv1⟩ := hv0
  have HG := Lib.hid (fun W (hW : RefAt W q m L) => get_at q m L d W hW hm (by omega) hd0 hd1)
  rw [← hv] at HG ⊢
  have HR := Lib.hid (fun W (hW : Sl .u8 W q.ms m.sz m.f) => M5.rstore_yes q.ms m.sz m.f x 4 v W hm.sz hW ⟨hv0, hv1⟩ h)
  have HC := Lib.hid (fun W q2 (hW : RefAt W q2 (m.byt (stB m.f x 4 v)) L) => on_ref q2 _ L W hW)
  clear hA hm h hs hv
  go_enter Tryz.func81, Tryz.ntmps81
  go_upto_region 1 with (refine q_start3 rfl rfl rfl (.tmp 0) (.tmp 1) rfl rfl (some 3) (some 4) (some 6) rfl rfl rfl q rfl 23 d s t ib n rfl (fun W c => by kernel_rfl) ?_; intro V1 c z r1 i1 z1 b1 s1; obtain ⟨k0, k1, k2, k3, k4, k5, k6, k7, k8, k9, k10, k11, k12, k13, k14, k15⟩ := r1.out.all; obtain ⟨j0, j1, j2, j3, j4, j5⟩ := i1.out.all)
  go_wp2_with fail
  have wd : IntKind.i64.wrap d = d := IntWalk.i64_in _ (by omega)
  go_region_held3 (fun W => W.cell? ⟨w.heap.size, 0, none⟩ = some (.int .i64 q.nw) ∧ W.cell? ⟨w.heap.size, 1, none⟩ = some (.int .i64 q.fn) ∧ W.cell? ⟨w.heap.size, 2, none⟩ = some q.fs ∧ W.cell? ⟨w.heap.size, 3, none⟩ = some q.ms ∧ W.cell? ⟨w.heap.size, 4, none⟩ = some (.int .u32 q.pc) ∧ W.cell? ⟨w.heap.size, 5, none⟩ = some (.int .u8 q.cwp) ∧ W.cell? ⟨w.heap.size, 6, none⟩ = some (.int .u8 q.pil) ∧ W.cell? ⟨w.heap.size, 7, none⟩ = some (.int .u8 q.bank) ∧ W.cell? ⟨w.heap.size, 8, none⟩ = some (.int .u8 q.fl) ∧ W.cell? ⟨w.heap.size, 9, none⟩ = some (.int .u32 q.wim) ∧ W.cell? ⟨w.heap.size, 10, none⟩ = some q.tp ∧ W.cell? ⟨w.heap.size, 11, none⟩ = some q.ts ∧ W.cell? ⟨w.heap.size, 12, none⟩ = some q.ch ∧ W.cell? ⟨w.heap.size, 13, none⟩ = some q.ot ∧ W.cell? ⟨w.heap.size, 14, none⟩ = some (.int .u8 q.sk) ∧ W.cell? ⟨w.heap.size, 15, none⟩ = some (.int .u32 q.sv) ∧ W.cell? ⟨c, 1, none⟩ = some (.int .u8 d) ∧ Below V1.heap.size V1 W)
    (first
      | exact held_all r1.out i1.out (Below.refl _ _).drew
      | (go_split_ands; exact held_all r1.out i1.out (bel_trans (by assumption) gL)))
    (first
      | (go_at_call 76; refine (HG.out _ (HA.out.bel (bel_trans b1 (Below.refl _ _).drew))).mono ?_; rintro e w1 ⟨rfl, gL⟩)
      | (go_at_call 125; refine (HR.out _ (HA.out.bel (bel_trans b1 (bel_trans (Below.refl _ _).drew gL))).mem.sl).mono ?_; rintro e w2 ⟨s', rfl, ho, gK⟩; have HOW := Lib.hid (own_slt ho); have HFW := Lib.hid (far_row ho (HA.out.bel (bel_trans b1 (bel_trans (Below.refl _ _).drew gL))).low).2; have gL := gK; clear ho gK))
  rename_i hH
  have g2 : Below V1.heap.size V1 _ := hH.2.2.2.2.2.2.2.2.2.2.2.2.2.2.2.2.2
  clear hH
  have r2 := Lib.hid (r1.out.bel g2)
  have z2 := Lib.hid (z1.out.bel g2)
  have b2 := bel_trans b1 g2
  have A2 := Lib.hid (HA.out.bel b2)
  clear r1 z1 i1 gL g2 HR HG
  go_wp2_with (first
    | (refine q_store rfl _ (.tmp 60) (.tmp 59) rfl q { q with ms := s' } _ _ rfl [s'] (by obtain ⟨⟨p', c', rfl, _⟩, _, _⟩ := HOW.out; rfl) r2.out (by kernel_rfl) (by intro u hu; simp at hu; subst hu; exact sl_one HOW.out.sl) (Nat.le_of_ble_eq_true rfl) rfl ?_; intro V3 r3 g3; have z3 := Lib.hid (z2.out.only g3 (by have := s1.out; omega)); have b3 := only_bel b2 g3 (Nat.le_refl _); have A3 : Hid (RefAt V3 { q with ms := s' } (m.byt (stB m.f x 4 v)) L) := { A2.out.only r2.out g3 with mem := HOW.out.only r2.out g3 (by decide), fms := HFW.out })
    | (refine q_load rfl (.tmp 3) rfl (some 61) rfl _ { q with ms := s' } rfl r3.out ?_))
  refine (HC.out _ _ A3.out).mono ?_; rintro e w4 ⟨q4, rfl, A4, g4⟩
  have R4 := Lib.hid A4
  have z4 := Lib.hid (z3.out.bel g4)
  have b4 := bel_trans b3 g4
  clear A4
  go_wp2_with (first
    | (refine q_whole rfl (.tmp 6) (.tmp 62) rfl z rzero q4 rfl rfl z4.out R4.out.ok ?_; intro V z' y'))
  exact gives_end rfl rfl rfl R4.out z4.out y'.out z'.out b4 s1.out
set_option maxHeartbeats 2000000 in
set_option maxRecDepth 100000 in
theorem mem23n (q : RV) (m : MS) (L : Nat) (d s t : Int) (ib : Bool) (n : Int) (x : Nat) (w : World) (hA : RefAt w q m L) (hm : MOk m) (hL : L ≤ 900) (hd0 : 0 ≤ d) (hd1 : d < 32) (hx : (x : Int) < 4294967296) (h : thE m.sz x 4 ≠ 0) :
    Calls Tryz.prog 81 #[.agg (rrow q), .agg (irow 23 d s t ib n), .int .u32 x] w (Gives w (m.stp 3 0) (L)) := by
  have HA := Lib.hid hA
  obtain ⟨⟨p, cc, hs, _⟩, _, _⟩ := hA.mem
  have Hs : Hid (q.ms = .slice p m.sz cc) := hs
  obtain ⟨v, hv⟩ : ∃ v, v = m.get d := ⟨_, rfl⟩
  have hv0 := hm.get d
  rw [← hv] at hv0
  obtain ⟨hv0, hv1⟩ := hv0
  have HG := Lib.hid (fun W (hW : RefAt W q m L) => get_at q m L d W hW hm (by omega) hd0 hd1)
  rw [← hv] at HG
  have HR := Lib.hid (fun W => M5.rstore_no p m.sz cc x 4 v W hm.sz ⟨by omega, hx⟩ h)
  rw [← hs] at HR
  have HC := Lib.hid (fun W (hW : RefAt W q m L) => stopped_ref q m L 3 0 W hW)
  have h' : (thE m.sz x 4 != 0) = true := by simpa using h
  generalize thE m.sz x 4 = k at *
  clear hA hm h hs hv
  go_enter Tryz.func81, Tryz.ntmps81
  go_upto_region 1 with (refine q_start3 rfl rfl rfl (.tmp 0) (.tmp 1) rfl rfl (some 3) (some 4) (some 6) rfl rfl rfl q rfl 23 d s t ib n rfl (fun W c => by kernel_rfl) ?_; intro V1 c z r1 i1 z1 b1 s1; obtain ⟨k0, k1, k2, k3, k4, k5, k6, k7, k8, k9, k10, k11, k12, k13, k14, k15⟩ := r1.out.all; obtain ⟨j0, j1, j2, j3, j4, j5⟩ := i1.out.all)
  go_wp2_with fail
  have wd : IntKind.i64.wrap d = d := IntWalk.i64_in _ (by omega)
  go_region_held3 (fun W => W.cell? ⟨w.heap.size, 0, none⟩ = some (.int .i64 q.nw) ∧ W.cell? ⟨w.heap.size, 1, none⟩ = some (.int .i64 q.fn) ∧ W.cell? ⟨w.heap.size, 2, none⟩ = some q.fs ∧ W.cell? ⟨w.heap.size, 3, none⟩ = some q.ms ∧ W.cell? ⟨w.heap.size, 4, none⟩ = some (.int .u32 q.pc) ∧ W.cell? ⟨w.heap.size, 5, none⟩ = some (.int .u8 q.cwp) ∧ W.cell? ⟨w.heap.size, 6, none⟩ = some (.int .u8 q.pil) ∧ W.cell? ⟨w.heap.size, 7, none⟩ = some (.int .u8 q.bank) ∧ W.cell? ⟨w.heap.size, 8, none⟩ = some (.int .u8 q.fl) ∧ W.cell? ⟨w.heap.size, 9, none⟩ = some (.int .u32 q.wim) ∧ W.cell? ⟨w.heap.size, 10, none⟩ = some q.tp ∧ W.cell? ⟨w.heap.size, 11, none⟩ = some q.ts ∧ W.cell? ⟨w.heap.size, 12, none⟩ = some q.ch ∧ W.cell? ⟨w.heap.size, 13, none⟩ = some q.ot ∧ W.cell? ⟨w.heap.size, 14, none⟩ = some (.int .u8 q.sk) ∧ W.cell? ⟨w.heap.size, 15, none⟩ = some (.int .u32 q.sv) ∧ W.cell? ⟨c, 1, none⟩ = some (.int .u8 d) ∧ Below V1.heap.size V1 W)
    (first
      | exact held_all r1.out i1.out (Below.refl _ _).drew
      | (go_split_ands; exact held_all r1.out i1.out (bel_trans (by assumption) gL)))
    (first
      | (go_at_call 76; refine (HG.out _ (HA.out.bel (bel_trans b1 (Below.refl _ _).drew))).mono ?_; rintro e w1 ⟨rfl, gL⟩)
      | (go_at_call 125; refine (HR.out _).mono ?_; rintro e w2 ⟨rfl, gL'⟩; subst gL'; have gL := Below.refl w1.heap.size w1))
  rename_i hH
  have g2 : Below V1.heap.size V1 _ := hH.2.2.2.2.2.2.2.2.2.2.2.2.2.2.2.2.2
  clear hH
  have r2 := Lib.hid (r1.out.bel g2)
  have z2 := Lib.hid (z1.out.bel g2)
  have b2 := bel_trans b1 g2
  have A2 := Lib.hid (HA.out.bel b2)
  clear r1 z1 i1 gL g2 HR HG
  go_wp2_with (first
    | (refine q_load rfl (.tmp 3) rfl (some 57) rfl _ q rfl r2.out ?_))
  refine (HC.out _ A2.out).mono ?_; rintro e w3 ⟨q3, rfl, A3, g3⟩
  have R3 := Lib.hid A3
  have z3 := Lib.hid (z2.out.bel g3)
  have b3 := bel_trans b2 g3
  clear A3
  go_wp2_with (first
    | (refine q_whole rfl (.tmp 6) (.tmp 58) rfl z rzero q3 rfl rfl z3.out R3.out.ok ?_; intro V z' y'))
  exact gives_end rfl rfl rfl R3.out z3.out y'.out z'.out b3 s1.out
set_option maxHeartbeats 2000000 in
set_option maxRecDepth 100000 in
theorem mem25y (q : RV) (m : MS) (L : Nat) (d s t : Int) (ib : Bool) (n : Int) (x : Nat) (w : World) (hA : RefAt w q m L) (hm : MOk m) (hL : L ≤ 900) (hd0 : 0 ≤ d) (hd1 : d < 32) (hx : (x : Int) < 4294967296) (h : thE m.sz x 1 = 0) :
    Calls Tryz.prog 81 #[.agg (rrow q), .agg (irow 25 d s t ib n), .int .u32 x] w (Gives w ((m.byt (stB m.f x 1 (m.get d))).on) (L)) := by
  have HA := Lib.hid hA
  obtain ⟨⟨p, cc, hs, _⟩, _, _⟩ := hA.mem
  have Hs : Hid (q.ms = .slice p m.sz cc) := hs
  obtain ⟨v, hv⟩ : ∃ v, v = m.get d := ⟨_, rfl⟩
  have hv0 := hm.get d
  rw [← hv] at hv0
  obtain ⟨hv0, hv1⟩ := hv0
  have HG := Lib.hid (fun W (hW : RefAt W q m L) => get_at q m L d W hW hm (by omega) hd0 hd1)
  rw [← hv] at HG ⊢
  have HR := Lib.hid (fun W (hW : Sl .u8 W q.ms m.sz m.f) => M5.rstore_yes q.ms m.sz m.f x 1 v W hm.sz hW ⟨hv0, hv1⟩ h)
  have HC := Lib.hid (fun W q2 (hW : RefAt W q2 (m.byt (stB m.f x 1 v)) L) => on_ref q2 _ L W hW)
  clear hA hm h hs hv
  go_enter Tryz.func81, Tryz.ntmps81
  go_upto_region 1 with (refine q_start3 rfl rfl rfl (.tmp 0) (.tmp 1) rfl rfl (some 3) (some 4) (some 6) rfl rfl rfl q rfl 25 d s t ib n rfl (fun W c => by kernel_rfl) ?_; intro V1 c z r1 i1 z1 b1 s1; obtain ⟨k0, k1, k2, k3, k4, k5, k6, k7, k8, k9, k10, k11, k12, k13, k14, k15⟩ := r1.out.all; obtain ⟨j0, j1, j2, j3, j4, j5⟩ := i1.out.all)
  go_wp2_with fail
  have wd : IntKind.i64.wrap d = d := IntWalk.i64_in _ (by omega)
  go_region_held3 (fun W => W.cell? ⟨w.heap.size, 0, none⟩ = some (.int .i64 q.nw) ∧ W.cell? ⟨w.heap.size, 1, none⟩ = some (.int .i64 q.fn) ∧ W.cell? ⟨w.heap.size, 2, none⟩ = some q.fs ∧ W.cell? ⟨w.heap.size, 3, none⟩ = some q.ms ∧ W.cell? ⟨w.heap.size, 4, none⟩ = some (.int .u32 q.pc) ∧ W.cell? ⟨w.heap.size, 5, none⟩ = some (.int .u8 q.cwp) ∧ W.cell? ⟨w.heap.size, 6, none⟩ = some (.int .u8 q.pil) ∧ W.cell? ⟨w.heap.size, 7, none⟩ = some (.int .u8 q.bank) ∧ W.cell? ⟨w.heap.size, 8, none⟩ = some (.int .u8 q.fl) ∧ W.cell? ⟨w.heap.size, 9, none⟩ = some (.int .u32 q.wim) ∧ W.cell? ⟨w.heap.size, 10, none⟩ = some q.tp ∧ W.cell? ⟨w.heap.size, 11, none⟩ = some q.ts ∧ W.cell? ⟨w.heap.size, 12, none⟩ = some q.ch ∧ W.cell? ⟨w.heap.size, 13, none⟩ = some q.ot ∧ W.cell? ⟨w.heap.size, 14, none⟩ = some (.int .u8 q.sk) ∧ W.cell? ⟨w.heap.size, 15, none⟩ = some (.int .u32 q.sv) ∧ W.cell? ⟨c, 1, none⟩ = some (.int .u8 d) ∧ Below V1.heap.size V1 W)
    (first
      | exact held_all r1.out i1.out (Below.refl _ _).drew
      | (go_split_ands; exact held_all r1.out i1.out (bel_trans (by assumption) gL)))
    (first
      | (go_at_call 76; refine (HG.out _ (HA.out.bel (bel_trans b1 (Below.refl _ _).drew))).mono ?_; rintro e w1 ⟨rfl, gL⟩)
      | (go_at_call 125; refine (HR.out _ (HA.out.bel (bel_trans b1 (bel_trans (Below.refl _ _).drew gL))).mem.sl).mono ?_; rintro e w2 ⟨s', rfl, ho, gK⟩; have HOW := Lib.hid (own_slt ho); have HFW := Lib.hid (far_row ho (HA.out.bel (bel_trans b1 (bel_trans (Below.refl _ _).drew gL))).low).2; have gL := gK; clear ho gK))
  rename_i hH
  have g2 : Below V1.heap.size V1 _ := hH.2.2.2.2.2.2.2.2.2.2.2.2.2.2.2.2.2
  clear hH
  have r2 := Lib.hid (r1.out.bel g2)
  have z2 := Lib.hid (z1.out.bel g2)
  have b2 := bel_trans b1 g2
  have A2 := Lib.hid (HA.out.bel b2)
  clear r1 z1 i1 gL g2 HR HG
  go_wp2_with (first
    | (refine q_store rfl _ (.tmp 60) (.tmp 59) rfl q { q with ms := s' } _ _ rfl [s'] (by obtain ⟨⟨p', c', rfl, _⟩, _, _⟩ := HOW.out; rfl) r2.out (by kernel_rfl) (by intro u hu; simp at hu; subst hu; exact sl_one HOW.out.sl) (Nat.le_of_ble_eq_true rfl) rfl ?_; intro V3 r3 g3; have z3 := Lib.hid (z2.out.only g3 (by have := s1.out; omega)); have b3 := only_bel b2 g3 (Nat.le_refl _); have A3 : Hid (RefAt V3 { q with ms := s' } (m.byt (stB m.f x 1 v)) L) := { A2.out.only r2.out g3 with mem := HOW.out.only r2.out g3 (by decide), fms := HFW.out })
    | (refine q_load rfl (.tmp 3) rfl (some 61) rfl _ { q with ms := s' } rfl r3.out ?_))
  refine (HC.out _ _ A3.out).mono ?_; rintro e w4 ⟨q4, rfl, A4, g4⟩
  have R4 := Lib.hid A4
  have z4 := Lib.hid (z3.out.bel g4)
  have b4 := bel_trans b3 g4
  clear A4
  go_wp2_with (first
    | (refine q_whole rfl (.tmp 6) (.tmp 62) rfl z rzero q4 rfl rfl z4.out R4.out.ok ?_; intro V z' y'))
  exact gives_end rfl rfl rfl R4.out z4.out y'.out z'.out b4 s1.out
set_option maxHeartbeats 2000000 in
set_option maxRecDepth 100000 in
theorem mem25n (q : RV) (m : MS) (L : Nat) (d s t : Int) (ib : Bool) (n : Int) (x : Nat) (w : World) (hA : RefAt w q m L) (hm : MOk m) (hL : L ≤ 900) (hd0 : 0 ≤ d) (hd1 : d < 32) (hx : (x : Int) < 4294967296) (h : thE m.sz x 1 ≠ 0) :
    Calls Tryz.prog 81 #[.agg (rrow q), .agg (irow 25 d s t ib n), .int .u32 x] w (Gives w (m.stp 3 0) (L)) := by
  have HA := Lib.hid hA
  obtain ⟨⟨p, cc, hs, _⟩, _, _⟩ := hA.mem
  have Hs : Hid (q.ms = .slice p m.sz cc) := hs
  obtain ⟨v, hv⟩ : ∃ v, v = m.get d := ⟨_, rfl⟩
  have hv0 := hm.get d
  rw [← hv] at hv0
  obtain ⟨hv0, hv1⟩ := hv0
  have HG := Lib.hid (fun W (hW : RefAt W q m L) => get_at q m L d W hW hm (by omega) hd0 hd1)
  rw [← hv] at HG
  have HR := Lib.hid (fun W => M5.rstore_no p m.sz cc x 1 v W hm.sz ⟨by omega, hx⟩ h)
  rw [← hs] at HR
  have HC := Lib.hid (fun W (hW : RefAt W q m L) => stopped_ref q m L 3 0 W hW)
  have h' : (thE m.sz x 1 != 0) = true := by simpa using h
  generalize thE m.sz x 1 = k at *
  clear hA hm h hs hv
  go_enter Tryz.func81, Tryz.ntmps81
  go_upto_region 1 with (refine q_start3 rfl rfl rfl (.tmp 0) (.tmp 1) rfl rfl (some 3) (some 4) (some 6) rfl rfl rfl q rfl 25 d s t ib n rfl (fun W c => by kernel_rfl) ?_; intro V1 c z r1 i1 z1 b1 s1; obtain ⟨k0, k1, k2, k3, k4, k5, k6, k7, k8, k9, k10, k11, k12, k13, k14, k15⟩ := r1.out.all; obtain ⟨j0, j1, j2, j3, j4, j5⟩ := i1.out.all)
  go_wp2_with fail
  have wd : IntKind.i64.wrap d = d := IntWalk.i64_in _ (by omega)
  go_region_held3 (fun W => W.cell? ⟨w.heap.size, 0, none⟩ = some (.int .i64 q.nw) ∧ W.cell? ⟨w.heap.size, 1, none⟩ = some (.int .i64 q.fn) ∧ W.cell? ⟨w.heap.size, 2, none⟩ = some q.fs ∧ W.cell? ⟨w.heap.size, 3, none⟩ = some q.ms ∧ W.cell? ⟨w.heap.size, 4, none⟩ = some (.int .u32 q.pc) ∧ W.cell? ⟨w.heap.size, 5, none⟩ = some (.int .u8 q.cwp) ∧ W.cell? ⟨w.heap.size, 6, none⟩ = some (.int .u8 q.pil) ∧ W.cell? ⟨w.heap.size, 7, none⟩ = some (.int .u8 q.bank) ∧ W.cell? ⟨w.heap.size, 8, none⟩ = some (.int .u8 q.fl) ∧ W.cell? ⟨w.heap.size, 9, none⟩ = some (.int .u32 q.wim) ∧ W.cell? ⟨w.heap.size, 10, none⟩ = some q.tp ∧ W.cell? ⟨w.heap.size, 11, none⟩ = some q.ts ∧ W.cell? ⟨w.heap.size, 12, none⟩ = some q.ch ∧ W.cell? ⟨w.heap.size, 13, none⟩ = some q.ot ∧ W.cell? ⟨w.heap.size, 14, none⟩ = some (.int .u8 q.sk) ∧ W.cell? ⟨w.heap.size, 15, none⟩ = some (.int .u32 q.sv) ∧ W.cell? ⟨c, 1, none⟩ = some (.int .u8 d) ∧ Below V1.heap.size V1 W)
    (first
      | exact held_all r1.out i1.out (Below.refl _ _).drew
      | (go_split_ands; exact held_all r1.out i1.out (bel_trans (by assumption) gL)))
    (first
      | (go_at_call 76; refine (HG.out _ (HA.out.bel (bel_trans b1 (Below.refl _ _).drew))).mono ?_; rintro e w1 ⟨rfl, gL⟩)
      | (go_at_call 125; refine (HR.out _).mono ?_; rintro e w2 ⟨rfl, gL'⟩; subst gL'; have gL := Below.refl w1.heap.size w1))
  rename_i hH
  have g2 : Below V1.heap.size V1 _ := hH.2.2.2.2.2.2.2.2.2.2.2.2.2.2.2.2.2
  clear hH
  have r2 := Lib.hid (r1.out.bel g2)
  have z2 := Lib.hid (z1.out.bel g2)
  have b2 := bel_trans b1 g2
  have A2 := Lib.hid (HA.out.bel b2)
  clear r1 z1 i1 gL g2 HR HG
  go_wp2_with (first
    | (refine q_load rfl (.tmp 3) rfl (some 57) rfl _ q rfl r2.out ?_))
  refine (HC.out _ A2.out).mono ?_; rintro e w3 ⟨q3, rfl, A3, g3⟩
  have R3 := Lib.hid A3
  have z3 := Lib.hid (z2.out.bel g3)
  have b3 := bel_trans b2 g3
  clear A3
  go_wp2_with (first
    | (refine q_whole rfl (.tmp 6) (.tmp 58) rfl z rzero q3 rfl rfl z3.out R3.out.ok ?_; intro V z' y'))
  exact gives_end rfl rfl rfl R3.out z3.out y'.out z'.out b3 s1.out
end Go.Proofs.YtiobgnelhiadbaaGreatDoor.K6
