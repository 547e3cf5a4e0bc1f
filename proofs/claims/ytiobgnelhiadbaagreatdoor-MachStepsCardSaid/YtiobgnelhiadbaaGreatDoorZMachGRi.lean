/- The document's machine (layer 6): OpRett in a bank. -/
import Derived.Test.YtiobgnelhiadbaaGreatDoorZMachGRh
import Derived.Test.YtiobgnelhiadbaaGreatDoorZMachGRe
namespace Go.Proofs.YtiobgnelhiadbaaGreatDoor.K6
open Go.RowKit
set_option linter.unusedVariables false
variable [Far]
omit [Far] in
theorem al_cell6 {W : World} {y i : Nat} {u : Value} (h : W.cell? ⟨y, i, none⟩ = some u) : ∀ ob, (W.alloc ob).cell? ⟨y, i, none⟩ = some u := fun ob => bel_cell ((Below.refl _ _).alloc (Nat.le_refl _) _) h
omit [Far] in
theorem store_far6 {W : World} {lb i y o : Nat} {u x : Value} (h : W.cell? ⟨lb, i, none⟩ = some u) (hn : lb ≠ y) : (W.setCell ⟨y, o, none⟩ x).cell? ⟨lb, i, none⟩ = some u := by
  rw [World.cell?_setCell_other _ _ _ _ (fun e => hn (by cases e; rfl))]; exact h
omit [Far] in
theorem set4 {W : World} {x : Nat} {a0 a1 a2 a3 : Int} (y0 y1 y2 y3 : Int) (h : W.heap[x]? = some (.cells #[.int .u8 a0, .int .u8 a1, .int .u8 a2, .int .u8 a3] 24 (0, 0))) :
    PRow ((((W.setCell ⟨x, 0, none⟩ (.int .u8 y0)).setCell ⟨x, 1, none⟩ (.int .u8 y1)).setCell ⟨x, 2, none⟩ (.int .u8 y2)).setCell ⟨x, 3, none⟩ (.int .u8 y3)) x y0 y1 y2 y3 := by
  have h1 := heap_setCell_same W x 0 _ _ (.int .u8 y0) h
  have h2 := heap_setCell_same _ x 1 _ _ (.int .u8 y1) h1
  have h3 := heap_setCell_same _ x 2 _ _ (.int .u8 y2) h2
  exact heap_setCell_same _ x 3 _ _ (.int .u8 y3) h3
omit [Far] in
theorem bel4 {B : Nat} {V W : World} {x : Nat} (h : Below B V W) (hx : B ≤ x) (y0 y1 y2 y3 : Int) : Below B V ((((W.setCell ⟨x, 0, none⟩ (.int .u8 y0)).setCell ⟨x, 1, none⟩ (.int .u8 y1)).setCell ⟨x, 2, none⟩ (.int .u8 y2)).setCell ⟨x, 3, none⟩ (.int .u8 y3)) :=
  (((h.setCell (p := ⟨x, 0, none⟩) hx _).setCell (p := ⟨x, 1, none⟩) hx _).setCell (p := ⟨x, 2, none⟩) hx _).setCell (p := ⟨x, 3, none⟩) hx _
set_option maxHeartbeats 4000000 in
set_option maxRecDepth 100000 in
theorem state32y (q : RV) (m : MS) (L : Nat) (d s t : Int) (ib : Bool) (n a b : Int) (w : World) (hA : RefAt w q m L) (hm : MOk m) (hL : L ≤ 900) (hb : m.bank ≠ 0) (hw : wst (m.tps m.bank.toNat) m.nw = true) :
    Calls Tryz.prog 82 #[.agg (rrow q), .agg (irow 32 d s t ib n), .int .u32 a, .int .u32 b] w (Gives w ((m.psr (m.tps m.bank.toNat)).jmp (m.tpc m.bank.toNat)) L) := by
  have HA := Lib.hid hA
  obtain ⟨j, hj⟩ : ∃ j : Nat, m.bank = j := ⟨m.bank.toNat, by have := hm.b0; omega⟩
  have hj16 : j ≤ 16 := by have := hm.b1; omega
  have hj1 : 1 ≤ j := by omega
  have hj0 : (0 : Int) ≤ (j : Int) := by omega
  have hj17 : (j : Int) < 17 := by omega
  have Hb : Hid (q.bank = (j : Int)) := hA.bank.trans hj
  have hjj : m.bank.toNat = j := by rw [hj]; rfl
  rw [hjj] at hw ⊢
  obtain ⟨bT, oT, cT, hT, eT⟩ := bank_cell hA.tp hj16
  obtain ⟨bP, oP, cP, hP, eP⟩ := bank_cell hA.ts hj16
  have HT : Hid (q.tp = .slice (some ⟨bT, oT, none⟩) 17 cT) := hT
  have HP : Hid (q.ts = .slice (some ⟨bP, oP, none⟩) 17 cP) := hP
  have hW := (wst_iff hm.n2 hm.n32).1 hw
  have hv0 := (hm.tps j).1
  obtain ⟨v, hv⟩ : ∃ v, v = m.tps j := ⟨_, rfl⟩
  obtain ⟨u, hu⟩ : ∃ u, u = m.tpc j := ⟨_, rfl⟩
  rw [← hv] at hW hv0 eP ⊢
  rw [← hu] at eT ⊢
  have HU := Lib.hid (fun W => P4.rUnpack_yes v q.nw W ⟨hv0, hW.1⟩ (by rw [hA.nw]; exact hW.2))
  obtain ⟨y0, h0⟩ : ∃ y, y = v % 32 := ⟨_, rfl⟩
  obtain ⟨y1, h1⟩ : ∃ y, y = v / 32 % 16 := ⟨_, rfl⟩
  obtain ⟨y2, h2⟩ : ∃ y, y = v / 512 % 32 := ⟨_, rfl⟩
  obtain ⟨y3, h3⟩ : ∃ y, y = v / 16384 % 16 := ⟨_, rfl⟩
  rw [← h0, ← h1, ← h2, ← h3] at HU
  have H0 := Lib.hid h0
  have H1 := Lib.hid h1
  have H2 := Lib.hid h2
  have H3 := Lib.hid h3
  have HeT := Lib.hid eT
  have HeP := Lib.hid eP
  clear hA hm hw hW hv hu hv0 h0 h1 h2 h3 hb hj hT hP eT eP hjj
  go_enter Tryz.func82, Tryz.ntmps82
  go_upto_region 1 with (refine q_start3 rfl rfl rfl (.tmp 0) (.tmp 1) rfl rfl (some 4) (some 5) (some 8) rfl rfl rfl q rfl 32 d s t ib n rfl (fun W c => by kernel_rfl) ?_; intro V1 c z r1 i1 z1 b1 s1; obtain ⟨k0, k1, k2, k3, k4, k5, k6, k7, k8, k9, k10, k11, k12, k13, k14, k15⟩ := r1.out.all; rw [Hb.out] at k7; rw [HT.out] at k10; rw [HP.out] at k11; have eT := bel_cell b1 HeT.out; have eP := bel_cell b1 HeP.out; obtain ⟨j0, j1, j2, j3, j4, j5⟩ := i1.out.all)
  go_wp2_with fail
  have GD : Below V1.heap.size V1 V1.drew := Below.drew (Below.refl _ _)
  have HD : Hid (∀ W, Below V1.heap.size V1 W → W.cell? ⟨w.heap.size, 0, none⟩ = some (.int .i64 q.nw) ∧ W.cell? ⟨w.heap.size, 11, none⟩ = some (.slice (some ⟨bP, oP, none⟩) 17 cP) ∧ W.cell? ⟨bP, oP + j, none⟩ = some (.int .u32 v)) := fun W g => ⟨bel_cell g k0, bel_cell g k11, bel_cell g eP⟩
  have DD := HD.out _ GD
  have GA : Below V1.heap.size V1 (V1.alloc (.cells #[.int .u8 0, .int .u8 0, .int .u8 0, .int .u8 0] 24)).drew := ((Below.refl _ _).alloc (Nat.le_refl _) _).drew
  have RB : (V1.alloc (.cells #[.int .u8 0, .int .u8 0, .int .u8 0, .int .u8 0] 24)).drew.heap[V1.heap.size]? = some (.cells #[.int .u8 0, .int .u8 0, .int .u8 0, .int .u8 0] 24 (0, 0)) := heap_alloc_last _ _
  have ltP : bP < V1.heap.size := block_lt_of_cell (a := ⟨bP, oP + j, none⟩) eP
  have neP : bP ≠ V1.heap.size := Nat.ne_of_lt ltP
  have ne1 : w.heap.size ≠ V1.heap.size := Nat.ne_of_lt r1.out.lt
  have DA := HD.out _ GA
  have lt1 := r1.out.lt
  have KT := Lib.hid eT
  clear k0 k1 k2 k3 k4 k5 k6 k7 k8 k9 k10 k11 k12 k13 k14 k15 j0 j1 j2 j3 j4 j5 eT eP
  go_region_held3 (fun W => W.cell? ⟨w.heap.size, 0, none⟩ = some (.int .i64 q.nw) ∧ W.cell? ⟨w.heap.size, 11, none⟩ = some (.slice (some ⟨bP, oP, none⟩) 17 cP) ∧ W.cell? ⟨bP, oP + j, none⟩ = some (.int .u32 v))
    (first
      | with_reducible exact DD
      | with_reducible exact DA
      | with_reducible exact ⟨al_cell6 DU.1 _, al_cell6 DU.2.1 _, al_cell6 DU.2.2 _⟩
      | with_reducible exact ⟨store_far6 (store_far6 (store_far6 (store_far6 DU.1 ne1) ne1) ne1) ne1, store_far6 (store_far6 (store_far6 (store_far6 DU.2.1 ne1) ne1) ne1) ne1, store_far6 (store_far6 (store_far6 (store_far6 DU.2.2 neP) neP) neP) neP⟩
      | with_reducible exact DU)
    (first
      | (go_at_call 147; refine (HU.out _).mono ?_; rintro e W2 ⟨rfl, gu⟩; have GU : Below V1.heap.size V1 W2 := (by first | with_reducible exact bel_trans GD gu | with_reducible exact bel_trans GA gu); have DU := HD.out _ GU; have szU := GU.size; try (have rb := bel_heap gu RB; have xb0 := row_cell (j := 0) rb rfl; have xb1 := row_cell (j := 1) rb rfl; have xb2 := row_cell (j := 2) rb rfl; have xb3 := row_cell (j := 3) rb rfl; have xf0 : W2.frozen? ⟨V1.heap.size, 0, none⟩ = false := row_frozen rb; have xf1 : W2.frozen? ⟨V1.heap.size, 1, none⟩ = false := row_frozen rb; have xf2 : W2.frozen? ⟨V1.heap.size, 2, none⟩ = false := row_frozen rb; have xf3 : W2.frozen? ⟨V1.heap.size, 3, none⟩ = false := row_frozen rb)))
  all_goals
    go_simp
    first
      | (have PR : PRow (W2.alloc (.cells #[.int .u8 y0, .int .u8 y1, .int .u8 y2, .int .u8 y3] 24)) W2.heap.size y0 y1 y2 y3 := heap_alloc_last _ _; have g : Below V1.heap.size V1 (W2.alloc (.cells #[.int .u8 y0, .int .u8 y1, .int .u8 y2, .int .u8 y3] 24)) := bel_trans GU ((Below.refl _ _).alloc (Nat.le_refl _) _); obtain ⟨wc, hwc⟩ : ∃ wc, wc = W2.alloc (.cells #[.int .u8 y0, .int .u8 y1, .int .u8 y2, .int .u8 y3] 24) := ⟨_, rfl⟩; obtain ⟨x, hx⟩ : ∃ x, x = W2.heap.size := ⟨_, rfl⟩; rw [← hwc, ← hx] at PR; rw [← hwc] at g; rw [← hwc, ← hx]; clear hwc hx)
      | (have PR := set4 y0 y1 y2 y3 rb; have g := bel4 GU (Nat.le_refl _) y0 y1 y2 y3; clear rb xb0 xb1 xb2 xb3 xf0 xf1 xf2 xf3; obtain ⟨wc, hwc⟩ : ∃ wc, wc = ((((W2.setCell ⟨V1.heap.size, 0, none⟩ (.int .u8 y0)).setCell ⟨V1.heap.size, 1, none⟩ (.int .u8 y1)).setCell ⟨V1.heap.size, 2, none⟩ (.int .u8 y2)).setCell ⟨V1.heap.size, 3, none⟩ (.int .u8 y3)) := ⟨_, rfl⟩; obtain ⟨x, hx⟩ : ∃ x, x = V1.heap.size := ⟨_, rfl⟩; rw [← hwc, ← hx] at PR; rw [← hwc] at g; rw [← hwc, ← hx]; clear hwc hx)
    have r2 := Lib.hid (r1.out.bel g)
    have z2 := Lib.hid (z1.out.bel g)
    have b2 := bel_trans b1 g
    have e0 := row_cell (j := 0) PR rfl
    have e1 := row_cell (j := 1) PR rfl
    have e2 := row_cell (j := 2) PR rfl
    have e3 := row_cell (j := 3) PR rfl
    have eT2 := bel_cell g KT.out
    have A2 := Lib.hid (HA.out.bel b2)
    have neT : bT ≠ w.heap.size := Nat.ne_of_lt (block_lt_of_cell (a := ⟨bT, oT + j, none⟩) HeT.out)
    clear GD HD DD GA DA GU DU szU
    go_upto_region 36 with (refine q_store rfl _ (.tmp 155) (.tmp 154) rfl q { q with cwp := y0, pil := y1, bank := y2, fl := y3 } _ _ rfl [.int .u8 y0, .int .u8 y1, .int .u8 y2, .int .u8 y3] rfl r2.out (by kernel_rfl) (by intro u hu; simp at hu; rcases hu with rfl | rfl | rfl | rfl <;> rfl) (Nat.le_of_ble_eq_true rfl) rfl ?_; intro V3 r3 g3)
    have z3 := Lib.hid (z2.out.only g3 (by have := s1.out; omega))
    have b3 := only_bel b2 g3 (Nat.le_refl _)
    have eT3 : V3.cell? ⟨bT, oT + j, none⟩ = some (.int .u32 u) := g3.cell eT2 (fun e => neT (by cases e; rfl))
    have A3 : Hid (RefAt V3 { q with cwp := y0, pil := y1, bank := y2, fl := y3 } (m.psr v) L) := { A2.out.only r2.out g3 with cwp := H0.out, pil := H1.out, bank := H2.out, fl := H3.out }
    obtain ⟨k0, k1, k2, k3, k4, k5, k6, k7, k8, k9, k10, k11, k12, k13, k14, k15⟩ := r3.out.all
    rw [HT.out] at k10
    clear A2 z2 e0 e1 e2 e3 eT2
    go_upto_region 37 with (refine q_store rfl _ (.tmp 161) (.tmp 160) rfl { q with cwp := y0, pil := y1, bank := y2, fl := y3 } { q with cwp := y0, pil := y1, bank := y2, fl := y3, pc := u } _ _ rfl [.int .u32 u] rfl r3.out (by kernel_rfl) (rv_one _ _) (Nat.le_of_ble_eq_true rfl) rfl ?_; intro V4 r4 g4)
    have z4 := Lib.hid (z3.out.only g4 (by have := s1.out; omega))
    have b4 := only_bel b3 g4 (Nat.le_refl _)
    have A4 : Hid (RefAt V4 { q with cwp := y0, pil := y1, bank := y2, fl := y3, pc := u } ((m.psr v).jmp u) L) := { A3.out.only r3.out g4 with pc := rfl }
    clear k0 k1 k2 k3 k4 k5 k6 k7 k8 k9 k10 k11 k12 k13 k14 k15 A3 z3
    go_wp2_with (first
      | (refine q_load rfl (.tmp 4) rfl (some 162) rfl _ { q with cwp := y0, pil := y1, bank := y2, fl := y3, pc := u } rfl r4.out ?_)
      | (refine q_whole rfl (.tmp 8) (.tmp 162) rfl z rzero { q with cwp := y0, pil := y1, bank := y2, fl := y3, pc := u } rfl rfl z4.out A4.out.ok ?_; intro V z' y'))
    exact gives_end rfl rfl rfl A4.out z4.out y'.out z'.out b4 s1.out
end Go.Proofs.YtiobgnelhiadbaaGreatDoor.K6
