/- The document's machine (layer 6): OpRett in a bank, a state that is none. -/
import Derived.Test.YtiobgnelhiadbaaGreatDoorZMachGRi
namespace Go.Proofs.YtiobgnelhiadbaaGreatDoor.K6
open Go.RowKit
set_option linter.unusedVariables false
variable [Far]
set_option maxHeartbeats 4000000 in
set_option maxRecDepth 100000 in
theorem state32n (q : RV) (m : MS) (L : Nat) (d s t : Int) (ib : Bool) (n a b : Int) (w : World) (hA : RefAt w q m L) (hm : MOk m) (hL : L ≤ 900) (hb : m.bank ≠ 0) (hw : wst (m.tps m.bank.toNat) m.nw = false) :
    Calls Tryz.prog 82 #[.agg (rrow q), .agg (irow 32 d s t ib n), .int .u32 a, .int .u32 b] w (Gives w (m.stp 3 0) L) := by
  have HA := Lib.hid hA
  obtain ⟨j, hj⟩ : ∃ j : Nat, m.bank = j := ⟨m.bank.toNat, by have := hm.b0; omega⟩
  have hj16 : j ≤ 16 := by have := hm.b1; omega
  have hj1 : 1 ≤ j := by omega
  have hj0 : (0 : Int) ≤ (j : Int) := by omega
  have hj17 : (j : Int) < 17 := by omega
  have Hb : Hid (q.bank = (j : Int)) := hA.bank.trans hj
  have hjj : m.bank.toNat = j := by rw [hj]; rfl
  rw [hjj] at hw
  obtain ⟨bT, oT, cT, hT, eT⟩ := bank_cell hA.tp hj16
  obtain ⟨bP, oP, cP, hP, eP⟩ := bank_cell hA.ts hj16
  have HT : Hid (q.tp = .slice (some ⟨bT, oT, none⟩) 17 cT) := hT
  have HP : Hid (q.ts = .slice (some ⟨bP, oP, none⟩) 17 cP) := hP
  have hW : ¬ (m.tps j < 262144 ∧ P4.WState (m.tps j) m.nw) := fun h => by
    have := (wst_iff hm.n2 hm.n32).2 h
    rw [hw] at this
    cases this
  have hv0 := hm.tps j
  obtain ⟨v, hv⟩ : ∃ v, v = m.tps j := ⟨_, rfl⟩
  obtain ⟨u, hu⟩ : ∃ u, u = m.tpc j := ⟨_, rfl⟩
  rw [← hv] at hW hv0 eP
  rw [← hu] at eT
  have HU := Lib.hid (fun W => P4.rUnpack_form v q.nw W (by rw [hA.nw]; exact hm.n2) (by rw [hA.nw]; exact hm.n32) hv0 (by rw [hA.nw]; exact hW))
  have HC := Lib.hid (fun W (hW : RefAt W q m L) => stopped_ref q m L 3 0 W hW)
  have HeT := Lib.hid eT
  have HeP := Lib.hid eP
  clear hA hm hw hW hv hu hv0 hb hj hT hP eT eP hjj
  go_enter Tryz.func82, Tryz.ntmps82
  go_upto_region 1 with (refine q_start3 rfl rfl rfl (.tmp 0) (.tmp 1) rfl rfl (some 4) (some 5) (some 8) rfl rfl rfl q rfl 32 d s t ib n rfl (fun W c => by kernel_rfl) ?_; intro V1 c z r1 i1 z1 b1 s1; obtain ⟨k0, k1, k2, k3, k4, k5, k6, k7, k8, k9, k10, k11, k12, k13, k14, k15⟩ := r1.out.all; rw [Hb.out] at k7; rw [HT.out] at k10; rw [HP.out] at k11; have eT := bel_cell b1 HeT.out; have eP := bel_cell b1 HeP.out; obtain ⟨j0, j1, j2, j3, j4, j5⟩ := i1.out.all)
  go_wp2_with fail
  have GD : Below V1.heap.size V1 V1.drew := Below.drew (Below.refl _ _)
  have HD : Hid (∀ W, Below V1.heap.size V1 W → W.cell? ⟨w.heap.size, 0, none⟩ = some (.int .i64 q.nw) ∧ W.cell? ⟨w.heap.size, 11, none⟩ = some (.slice (some ⟨bP, oP, none⟩) 17 cP) ∧ W.cell? ⟨bP, oP + j, none⟩ = some (.int .u32 v)) := fun W g => ⟨bel_cell g k0, bel_cell g k11, bel_cell g eP⟩
  have DD := HD.out _ GD
  have GA : Below V1.heap.size V1 (V1.alloc (.cells #[.int .u8 0, .int .u8 0, .int .u8 0, .int .u8 0] 24)).drew := ((Below.refl _ _).alloc (Nat.le_refl _) _).drew
  have RB : (V1.alloc (.cells #[.int .u8 0, .int .u8 0, .int .u8 0, .int .u8 0] 24)).drew.heap[V1.heap.size]? = some (.cells #[.int .u8 0, .int .u8 0, .int .u8 0, .int .u8 0] 24 (0, 0)) := heap_alloc_last _ _
  have ltP : bP < V1.heap.size := block_lt_of_cell (a := ⟨bP, oP + j, none⟩) eP
  have neP : bP ≠ V1.heap.size := Nat.ne_of_lt ltP
  have ne1 : w.heap.size ≠ V1.heap.size := Nat.ne_of_lt r1.out.lt
  have DA := HD.out _ GA
  have lt1 := r1.out.lt
  have KT := Lib.hid eT
  clear k0 k1 k2 k3 k4 k5 k6 k7 k8 k9 k10 k11 k12 k13 k14 k15 j0 j1 j2 j3 j4 j5 eT eP
  go_region_held3 (fun W => W.cell? ⟨w.heap.size, 0, none⟩ = some (.int .i64 q.nw) ∧ W.cell? ⟨w.heap.size, 11, none⟩ = some (.slice (some ⟨bP, oP, none⟩) 17 cP) ∧ W.cell? ⟨bP, oP + j, none⟩ = some (.int .u32 v))
    (first
      | with_reducible exact DD
      | with_reducible exact DA
      | with_reducible exact ⟨al_cell6 DU.1 _, al_cell6 DU.2.1 _, al_cell6 DU.2.2 _⟩
      | with_reducible exact ⟨store_far6 (store_far6 (store_far6 (store_far6 DU.1 ne1) ne1) ne1) ne1, store_far6 (store_far6 (store_far6 (store_far6 DU.2.1 ne1) ne1) ne1) ne1, store_far6 (store_far6 (store_far6 (store_far6 DU.2.2 neP) neP) neP) neP⟩
      | with_reducible exact DU)
    (first
      | (go_at_call 147; refine (HU.out _).mono ?_; rintro e W2 ⟨rfl, gu⟩; have GU : Below V1.heap.size V1 W2 := (by first | with_reducible exact bel_trans GD gu | with_reducible exact bel_trans GA gu); have DU := HD.out _ GU; have szU := GU.size; try (have rb := bel_heap gu RB; have xb0 := row_cell (j := 0) rb rfl; have xb1 := row_cell (j := 1) rb rfl; have xb2 := row_cell (j := 2) rb rfl; have xb3 := row_cell (j := 3) rb rfl; have xf0 : W2.frozen? ⟨V1.heap.size, 0, none⟩ = false := row_frozen rb; have xf1 : W2.frozen? ⟨V1.heap.size, 1, none⟩ = false := row_frozen rb; have xf2 : W2.frozen? ⟨V1.heap.size, 2, none⟩ = false := row_frozen rb; have xf3 : W2.frozen? ⟨V1.heap.size, 3, none⟩ = false := row_frozen rb)))
  all_goals
    go_simp
    first
      | (have PR : PRow (W2.alloc (.cells #[.int .u8 0, .int .u8 0, .int .u8 0, .int .u8 0] 24)) W2.heap.size 0 0 0 0 := heap_alloc_last _ _; have g : Below V1.heap.size V1 (W2.alloc (.cells #[.int .u8 0, .int .u8 0, .int .u8 0, .int .u8 0] 24)) := bel_trans GU ((Below.refl _ _).alloc (Nat.le_refl _) _); obtain ⟨wc, hwc⟩ : ∃ wc, wc = W2.alloc (.cells #[.int .u8 0, .int .u8 0, .int .u8 0, .int .u8 0] 24) := ⟨_, rfl⟩; obtain ⟨x, hx⟩ : ∃ x, x = W2.heap.size := ⟨_, rfl⟩; rw [← hwc, ← hx] at PR; rw [← hwc] at g; rw [← hwc, ← hx]; clear hwc hx)
      | (have PR := set4 0 0 0 0 rb; have g := bel4 GU (Nat.le_refl _) 0 0 0 0; clear rb xb0 xb1 xb2 xb3 xf0 xf1 xf2 xf3; obtain ⟨wc, hwc⟩ : ∃ wc, wc = ((((W2.setCell ⟨V1.heap.size, 0, none⟩ (.int .u8 0)).setCell ⟨V1.heap.size, 1, none⟩ (.int .u8 0)).setCell ⟨V1.heap.size, 2, none⟩ (.int .u8 0)).setCell ⟨V1.heap.size, 3, none⟩ (.int .u8 0)) := ⟨_, rfl⟩; obtain ⟨x, hx⟩ : ∃ x, x = V1.heap.size := ⟨_, rfl⟩; rw [← hwc, ← hx] at PR; rw [← hwc] at g; rw [← hwc, ← hx]; clear hwc hx)
    have r2 := Lib.hid (r1.out.bel g)
    have z2 := Lib.hid (z1.out.bel g)
    have b2 := bel_trans b1 g
    clear GD HD DD GA DA GU DU szU KT PR
    go_wp2_with (first
      | (refine q_load rfl (.tmp 4) rfl (some 152) rfl _ q rfl r2.out ?_))
    refine (HC.out _ (HA.out.bel b2)).mono ?_; rintro e w3 ⟨q3, rfl, A3, g3⟩
    have R3 := Lib.hid A3
    have z3 := Lib.hid (z2.out.bel g3)
    have b3 := bel_trans b2 g3
    clear A3
    go_wp2_with (first
      | (refine q_whole rfl (.tmp 8) (.tmp 153) rfl z rzero q3 rfl rfl z3.out R3.out.ok ?_; intro V z' y'))
    exact gives_end rfl rfl rfl R3.out z3.out y'.out z'.out b3 s1.out
end Go.Proofs.YtiobgnelhiadbaaGreatDoor.K6
