/- What split and Decode of package inst come to, for any word. -/
import Derived.Test.YtoecanjhkbeemaaGreatDoorInstCode
import Derived.Test.YtoecanjhkbeemaaGreatDoorGrownB
namespace Go.Proofs.YtoecanjhkbeemaaGreatDoor.I2
open Go.RowKit
set_option linter.unusedVariables false

/-- A new block of cells, in a world that has grown behind it: its cells may be read and written. -/
theorem new_frozen {w W : World} {A : Array Value} {t : TypeId} (g : Grown (w.alloc (.cells A t)) W) (j : Nat) : W.frozen? ⟨w.heap.size, j, none⟩ = false := by
  rw [g.2.1]
  simp [go_sem]
set_option maxHeartbeats 1000000 in
theorem split_wide (x o d p n : Int) (w : World) (hT : Tab w) (hx : 0 ≤ x ∧ x < 4294967296) (ho : 0 ≤ o ∧ o ≤ 63) (hd : 0 ≤ d ∧ d ≤ 31) (hp : 0 ≤ p ∧ p < 2097152)
    (eo : x / 2097152 / 32 % 64 = o) (ed : x / 2097152 % 32 = d) (ep : x % 2097152 = p) (hn : Hid (nm o p 1048576 = n)) (hw : fW o = true) :
    Calls Tryz.prog 155 #[.int .u32 x] w fun e w' => e = .returned (.agg #[.int .u8 o, .int .u8 d, .int .u8 0, .int .u8 0, .bool true, .int .i32 n]) ∧ Grown w w' := by
  have ho' : 0 ≤ o ∧ o ≤ 255 := by omega
  go_enter Tryz.func155, Tryz.ntmps155
  go_wp2_with fail
  refine (parts_any _ _).mono ?_; rintro e w1 ⟨rfl, rfl⟩
  go_wp2_with fail
  refine (take21 x _ _ hx (by go_side) (by go_side)).mono ?_; rintro e w1 ⟨rfl, rfl⟩
  go_wp2_with fail
  refine (take5 (x / 2097152) _ _ (by omega) (by go_side) (by go_side)).mono ?_; rintro e w1 ⟨rfl, rfl⟩
  go_wp2_with fail
  refine (take6 (x / 2097152 / 32) _ _ (by omega) (by go_side) (by go_side)).mono ?_; rintro e w1 ⟨rfl, rfl⟩
  go_wp2_with fail
  refine (fields_is o _ _ _ _ _ _ _ (hT.grown ((((Grown.refl _).alloc _ _).alloc _ _).alloc _ _)) ho' rfl rfl rfl rfl hw rfl).mono ?_; rintro e w1 ⟨rfl, g1⟩
  have i0 := inst_cells g1
  simp only [size_new] at i0
  obtain ⟨c0, c1, c2, c3, c4, c5, cz⟩ := i0
  go_wp2_with fail
  clear c0 c1 c2 c3 c4 c5 cz
  have g2 := g1.alloc #[.bool (fD o), .bool (fS o), .bool (fT o), .bool (fN o), .bool true] 249
  generalize w1.alloc (.cells #[.bool (fD o), .bool (fS o), .bool (fT o), .bool (fN o), .bool true] 249) = w2 at g2 ⊢
  generalize w1.heap.size = z8
  clear g1 w1
  refine (number21 _ _ _ ho' hp).mono ?_; rintro e w3 ⟨rfl, rfl⟩
  rw [hn.out]
  have gA := grown_trans (((Grown.refl (w.alloc (.cells #[.int .u8 0, .int .u8 0, .int .u8 0, .int .u8 0, .bool false, .int .i32 0] 61))).alloc _ _).alloc _ _) g2
  have fA := new_frozen gA
  have fC := new_frozen g2
  have i0 := inst_cells g2
  simp only [size_new] at i0 fC
  obtain ⟨c0, c1, c2, c3, c4, c5, cz⟩ := i0
  have fC4 := fC 4
  have fC5 := fC 5
  obtain ⟨a0, a1, a2, a3, a4, a5, az⟩ := inst_cells gA
  have fA0 := fA 0
  have fA1 := fA 1
  have fA2 := fA 2
  have fA3 := fA 3
  have fA4 := fA 4
  have fA5 := fA 5
  have G : Grown w w2 := grown_trans ((Grown.refl _).alloc _ _) gA
  clear fA fC gA g2
  go_wp2_with fail
  refine bodyPost_ret (v := .agg #[.int .u8 o, .int .u8 d, .int .u8 0, .int .u8 0, .bool true, .int .i32 n]) ?_ rfl ⟨rfl, ?_⟩
  · simp [results, Tryz.results155, go_sem, a0, a1, a2, a3, a4, a5]
  · clear a0 a1 a2 a3 a4 a5 c0 c1 c2 c3 c4 c5
    exact Grown.mk2 (by have G := G.lib; go_grown) (by have G := G.bel; go_grown)
set_option maxHeartbeats 1000000 in
theorem split_true (x o d p q s n : Int) (w : World) (hT : Tab w) (hx : 0 ≤ x ∧ x < 4294967296) (ho : 0 ≤ o ∧ o ≤ 63) (hd : 0 ≤ d ∧ d ≤ 31) (hp : 0 ≤ p ∧ p < 2097152) (hq : 0 ≤ q ∧ q < 32768) (hs : 0 ≤ s ∧ s ≤ 31)
    (eo : x / 2097152 / 32 % 64 = o) (ed : x / 2097152 % 32 = d) (ep : x % 2097152 = p) (eq : p % 32768 = q) (ei : p / 32768 % 2 = 1) (es : p / 32768 / 2 % 32 = s) (hn : Hid (nm o q 16384 = n)) (hw : fW o = false) :
    Calls Tryz.prog 155 #[.int .u32 x] w fun e w' => e = .returned (.agg #[.int .u8 o, .int .u8 d, .int .u8 s, .int .u8 0, .bool true, .int .i32 n]) ∧ Grown w w' := by
  have ho' : 0 ≤ o ∧ o ≤ 255 := by omega
  go_enter Tryz.func155, Tryz.ntmps155
  go_wp2_with fail
  refine (parts_any _ _).mono ?_; rintro e w1 ⟨rfl, rfl⟩
  go_wp2_with fail
  refine (take21 x _ _ hx (by go_side) (by go_side)).mono ?_; rintro e w1 ⟨rfl, rfl⟩
  go_wp2_with fail
  refine (take5 (x / 2097152) _ _ (by omega) (by go_side) (by go_side)).mono ?_; rintro e w1 ⟨rfl, rfl⟩
  go_wp2_with fail
  refine (take6 (x / 2097152 / 32) _ _ (by omega) (by go_side) (by go_side)).mono ?_; rintro e w1 ⟨rfl, rfl⟩
  go_wp2_with fail
  refine (fields_is o _ _ _ _ _ _ _ (hT.grown ((((Grown.refl _).alloc _ _).alloc _ _).alloc _ _)) ho' rfl rfl rfl rfl hw rfl).mono ?_; rintro e w1 ⟨rfl, g1⟩
  have i0 := inst_cells g1
  simp only [size_new] at i0
  obtain ⟨c0, c1, c2, c3, c4, c5, cz⟩ := i0
  go_wp2_with fail
  clear c0 c1 c2 c3 c4 c5 cz
  have g2 := g1.alloc #[.bool (fD o), .bool (fS o), .bool (fT o), .bool (fN o), .bool false] 249
  generalize w1.alloc (.cells #[.bool (fD o), .bool (fS o), .bool (fT o), .bool (fN o), .bool false] 249) = w2 at g2 ⊢
  generalize w1.heap.size = z8
  clear g1 w1
  refine (parts_any _ _).mono ?_; rintro e w3 ⟨rfl, rfl⟩
  go_wp2_with fail
  refine (take15 p _ _ (by omega) (by go_side) (by go_side)).mono ?_; rintro e w3 ⟨rfl, rfl⟩
  go_wp2_with fail
  refine (take1 (p / 32768) _ _ (by omega) (by go_side) (by go_side)).mono ?_; rintro e w3 ⟨rfl, rfl⟩
  go_wp2_with fail
  refine (take5 (p / 32768 / 2) _ _ (by omega) (by go_side) (by go_side)).mono ?_; rintro e w3 ⟨rfl, rfl⟩
  have g3 := (g2.alloc #[.int .u32 (p / 32768 / 2)] 22).setCell (a := ⟨w2.heap.size, 0, none⟩) g2.2.2.1 (.int .u32 (p / 32768 / 2 / 32))
  generalize (w2.alloc (.cells #[.int .u32 (p / 32768 / 2)] 22)).setCell ⟨w2.heap.size, 0, none⟩ (.int .u32 (p / 32768 / 2 / 32)) = w4 at g3 ⊢
  generalize w2.heap.size = z9
  clear g2 w2
  have gA := grown_trans (((Grown.refl (w.alloc (.cells #[.int .u8 0, .int .u8 0, .int .u8 0, .int .u8 0, .bool false, .int .i32 0] 61))).alloc _ _).alloc _ _) g3
  have fA := new_frozen gA
  have fC := new_frozen g3
  have i0 := inst_cells g3
  simp only [size_new] at i0 fC
  obtain ⟨c0, c1, c2, c3, c4, c5, cz⟩ := i0
  obtain ⟨a0, a1, a2, a3, a4, a5, az⟩ := inst_cells gA
  have fA0 := fA 0
  have fA1 := fA 1
  have fA2 := fA 2
  have fA3 := fA 3
  have fA4 := fA 4
  have fA5 := fA 5
  have fC2 := fC 2
  have fC3 := fC 3
  have fC4 := fC 4
  have fC5 := fC 5
  have G : Grown w w4 := grown_trans ((Grown.refl _).alloc _ _) gA
  clear fA fC gA g3
  go_wp2_with fail
  refine (number15 _ _ _ ho' hq).mono ?_; rintro e w5 ⟨rfl, rfl⟩
  rw [hn.out]
  go_wp2_with fail
  refine bodyPost_ret (v := .agg #[.int .u8 o, .int .u8 d, .int .u8 s, .int .u8 0, .bool true, .int .i32 n]) ?_ rfl ⟨rfl, ?_⟩
  · simp [results, Tryz.results155, go_sem, a0, a1, a2, a3, a4, a5]
  · clear a0 a1 a2 a3 a4 a5 c0 c1 c2 c3 c4 c5
    exact Grown.mk2 (by have G := G.lib; go_grown) (by have G := G.bel; go_grown)
set_option maxHeartbeats 1000000 in
theorem split_false (x o d p q s t : Int) (w : World) (hT : Tab w) (hx : 0 ≤ x ∧ x < 4294967296) (ho : 0 ≤ o ∧ o ≤ 63) (hd : 0 ≤ d ∧ d ≤ 31) (hp : 0 ≤ p ∧ p < 2097152) (hq : 0 ≤ q ∧ q < 32768) (hs : 0 ≤ s ∧ s ≤ 31) (ht : 0 ≤ t ∧ t ≤ 31)
    (eo : x / 2097152 / 32 % 64 = o) (ed : x / 2097152 % 32 = d) (ep : x % 2097152 = p) (eq : p % 32768 = q) (ei : p / 32768 % 2 = 0) (es : p / 32768 / 2 % 32 = s) (et : q % 32 = t) (hw : fW o = false) :
    Calls Tryz.prog 155 #[.int .u32 x] w fun e w' => e = .returned (.agg #[.int .u8 o, .int .u8 d, .int .u8 s, .int .u8 t, .bool false, .int .i32 0]) ∧ Grown w w' := by
  have ho' : 0 ≤ o ∧ o ≤ 255 := by omega
  go_enter Tryz.func155, Tryz.ntmps155
  go_wp2_with fail
  refine (parts_any _ _).mono ?_; rintro e w1 ⟨rfl, rfl⟩
  go_wp2_with fail
  refine (take21 x _ _ hx (by go_side) (by go_side)).mono ?_; rintro e w1 ⟨rfl, rfl⟩
  go_wp2_with fail
  refine (take5 (x / 2097152) _ _ (by omega) (by go_side) (by go_side)).mono ?_; rintro e w1 ⟨rfl, rfl⟩
  go_wp2_with fail
  refine (take6 (x / 2097152 / 32) _ _ (by omega) (by go_side) (by go_side)).mono ?_; rintro e w1 ⟨rfl, rfl⟩
  go_wp2_with fail
  refine (fields_is o _ _ _ _ _ _ _ (hT.grown ((((Grown.refl _).alloc _ _).alloc _ _).alloc _ _)) ho' rfl rfl rfl rfl hw rfl).mono ?_; rintro e w1 ⟨rfl, g1⟩
  have i0 := inst_cells g1
  simp only [size_new] at i0
  obtain ⟨c0, c1, c2, c3, c4, c5, cz⟩ := i0
  go_wp2_with fail
  clear c0 c1 c2 c3 c4 c5 cz
  have g2 := g1.alloc #[.bool (fD o), .bool (fS o), .bool (fT o), .bool (fN o), .bool false] 249
  generalize w1.alloc (.cells #[.bool (fD o), .bool (fS o), .bool (fT o), .bool (fN o), .bool false] 249) = w2 at g2 ⊢
  generalize w1.heap.size = z8
  clear g1 w1
  refine (parts_any _ _).mono ?_; rintro e w3 ⟨rfl, rfl⟩
  go_wp2_with fail
  refine (take15 p _ _ (by omega) (by go_side) (by go_side)).mono ?_; rintro e w3 ⟨rfl, rfl⟩
  go_wp2_with fail
  refine (take1 (p / 32768) _ _ (by omega) (by go_side) (by go_side)).mono ?_; rintro e w3 ⟨rfl, rfl⟩
  go_wp2_with fail
  refine (take5 (p / 32768 / 2) _ _ (by omega) (by go_side) (by go_side)).mono ?_; rintro e w3 ⟨rfl, rfl⟩
  have g3 := (g2.alloc #[.int .u32 (p / 32768 / 2)] 22).setCell (a := ⟨w2.heap.size, 0, none⟩) g2.2.2.1 (.int .u32 (p / 32768 / 2 / 32))
  generalize (w2.alloc (.cells #[.int .u32 (p / 32768 / 2)] 22)).setCell ⟨w2.heap.size, 0, none⟩ (.int .u32 (p / 32768 / 2 / 32)) = w4 at g3 ⊢
  generalize w2.heap.size = z9
  clear g2 w2
  have gA := grown_trans (((Grown.refl (w.alloc (.cells #[.int .u8 0, .int .u8 0, .int .u8 0, .int .u8 0, .bool false, .int .i32 0] 61))).alloc _ _).alloc _ _) g3
  have fA := new_frozen gA
  have fC := new_frozen g3
  have i0 := inst_cells g3
  simp only [size_new] at i0 fC
  obtain ⟨c0, c1, c2, c3, c4, c5, cz⟩ := i0
  obtain ⟨a0, a1, a2, a3, a4, a5, az⟩ := inst_cells gA
  have fA0 := fA 0
  have fA1 := fA 1
  have fA2 := fA 2
  have fA3 := fA 3
  have fA4 := fA 4
  have fA5 := fA 5
  have fC2 := fC 2
  have fC3 := fC 3
  have fC4 := fC 4
  have fC5 := fC 5
  have G : Grown w w4 := grown_trans ((Grown.refl _).alloc _ _) gA
  clear fA fC gA g3
  go_wp2_with fail
  refine (lowest5 _ _ (by omega)).mono ?_; rintro e w5 ⟨rfl, rfl⟩
  go_wp2_with fail
  refine bodyPost_ret (v := .agg #[.int .u8 o, .int .u8 d, .int .u8 s, .int .u8 t, .bool false, .int .i32 0]) ?_ rfl ⟨rfl, ?_⟩
  · simp [results, Tryz.results155, go_sem, a0, a1, a2, a3, a4, a5]
  · clear a0 a1 a2 a3 a4 a5 c0 c1 c2 c3 c4 c5
    exact Grown.mk2 (by have G := G.lib; go_grown) (by have G := G.bel; go_grown)
end Go.Proofs.YtoecanjhkbeemaaGreatDoor.I2
