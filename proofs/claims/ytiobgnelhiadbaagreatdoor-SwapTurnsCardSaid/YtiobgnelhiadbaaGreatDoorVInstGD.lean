/- What split and Decode of package inst come to, for any word. What Decode of package inst comes to, for any word. -/
import Derived.Test.YtiobgnelhiadbaaGreatDoorVInstG
import Derived.Test.YtiobgnelhiadbaaGreatDoorVBaseG
namespace Go.Proofs.YtiobgnelhiadbaaGreatDoor.I2
open Go.RowKit
set_option linter.unusedVariables false

/-- A new block of cells, in a world that has grown behind it: its cells may be read and written. -/
theorem new_frozen {w W : World} {A : Array Value} {t : TypeId} (g : Grown (w.alloc (.cells A t)) W) (j : Nat) : W.frozen? ⟨w.heap.size, j, none⟩ = false := by
  rw [g.2.1]
  simp [go_sem]
set_option maxHeartbeats 1000000 in
theorem split_wide (x o d p n : Int) (w : World) (hT : Tab w) (hx : 0 ≤ x ∧ x < 4294967296) (ho : 0 ≤ o ∧ o ≤ 63) (hd : 0 ≤ d ∧ d ≤ 31) (hp : 0 ≤ p ∧ p < 2097152)
    (eo : x / 2097152 / 32 % 64 = o) (ed : x / 2097152 % 32 = d) (ep : x % 2097152 = p) (hn : Hid (nm o p 1048576 = n)) (hw : fW o = true) :
    Calls Tryz.prog 204 #[.int .u32 x] w fun e w' => e = .returned (.agg #[.int .u8 o, .int .u8 d, .int .u8 0, .int .u8 0, .bool true, .int .i32 n]) ∧ Grown w w' := by
  have ho' : 0 ≤ o ∧ o ≤ 255 := by omega
  go_enter Tryz.func204, Tryz.ntmps204
  go_wp2_with fail
  refine (parts_any _ _).mono ?_; rintro e w1 ⟨rfl, rfl⟩
  go_wp2_with fail
  refine (take21 x _ _ hx (by go_side) (by go_side)).mono ?_; rintro e w1 ⟨rfl, rfl⟩
  go_wp2_with fail
  refine (take5 (x / 2097152) _ _ (by omega) (by go_side) (by go_side)).mono ?_; rintro e w1 ⟨rfl, rfl⟩
  go_wp2_with fail
  refine (take6 (x / 2097152 / 32) _ _ (by omega) (by go_side) (by go_side)).mono ?_; rintro e w1 ⟨rfl, rfl⟩
  go_wp2_with fail
  refine (fields_is o _ _ _ _ _ _ _ (hT.grown ((((Grown.refl _).alloc _ _).alloc _ _).alloc _ _)) ho' rfl rfl rfl rfl hw rfl).mono ?_; rintro e w1 ⟨rfl, g1⟩
  have i0 := inst_cells g1
  simp only [size_new] at i0
  obtain ⟨c0, c1, c2, c3, c4, c5, cz⟩ := i0
  go_wp2_with fail
  clear c0 c1 c2 c3 c4 c5 cz
  have g2 := g1.alloc #[.bool (fD o), .bool (fS o), .bool (fT o), .bool (fN o), .bool true] 265
  generalize w1.alloc (.cells #[.bool (fD o), .bool (fS o), .bool (fT o), .bool (fN o), .bool true] 265) = w2 at g2 ⊢
  generalize w1.heap.size = z8
  clear g1 w1
  refine (number21 _ _ _ ho' hp).mono ?_; rintro e w3 ⟨rfl, rfl⟩
  rw [hn.out]
  have gA := grown_trans (((Grown.refl (w.alloc (.cells #[.int .u8 0, .int .u8 0, .int .u8 0, .int .u8 0, .bool false, .int .i32 0] 88))).alloc _ _).alloc _ _) g2
  have fA := new_frozen gA
  have fC := new_frozen g2
  have i0 := inst_cells g2
  simp only [size_new] at i0 fC
  obtain ⟨c0, c1, c2, c3, c4, c5, cz⟩ := i0
  have fC4 := fC 4
  have fC5 := fC 5
  obtain ⟨a0, a1, a2, a3, a4, a5, az⟩ := inst_cells gA
  have fA0 := fA 0
  have fA1 := fA 1
  have fA2 := fA 2
  have fA3 := fA 3
  have fA4 := fA 4
  have fA5 := fA 5
  have G : Grown w w2 := grown_trans ((Grown.refl _).alloc _ _) gA
  clear fA fC gA g2
  go_wp2_with fail
  refine bodyPost_ret (v := .agg #[.int .u8 o, .int .u8 d, .int .u8 0, .int .u8 0, .bool true, .int .i32 n]) ?_ rfl ⟨rfl, ?_⟩
  · simp [results, Tryz.results204, go_sem, a0, a1, a2, a3, a4, a5]
  · clear a0 a1 a2 a3 a4 a5 c0 c1 c2 c3 c4 c5
    exact Grown.mk2 (by have G := G.lib; go_grown) (by have G := G.bel; go_grown)
set_option maxHeartbeats 1000000 in
theorem split_true (x o d p q s n : Int) (w : World) (hT : Tab w) (hx : 0 ≤ x ∧ x < 4294967296) (ho : 0 ≤ o ∧ o ≤ 63) (hd : 0 ≤ d ∧ d ≤ 31) (hp : 0 ≤ p ∧ p < 2097152) (hq : 0 ≤ q ∧ q < 32768) (hs : 0 ≤ s ∧ s ≤ 31)
    (eo : x / 2097152 / 32 % 64 = o) (ed : x / 2097152 % 32 = d) (ep : x % 2097152 = p) (eq : p % 32768 = q) (ei : p / 32768 % 2 = 1) (es : p / 32768 / 2 % 32 = s) (hn : Hid (nm o q 16384 = n)) (hw : fW o = false) :
    Calls Tryz.prog 204 #[.int .u32 x] w fun e w' => e = .returned (.agg #[.int .u8 o, .int .u8 d, .int .u8 s, .int .u8 0, .bool true, .int .i32 n]) ∧ Grown w w' := by
  have ho' : 0 ≤ o ∧ o ≤ 255 := by omega
  go_enter Tryz.func204, Tryz.ntmps204
  go_wp2_with fail
  refine (parts_any _ _).mono ?_; rintro e w1 ⟨rfl, rfl⟩
  go_wp2_with fail
  refine (take21 x _ _ hx (by go_side) (by go_side)).mono ?_; rintro e w1 ⟨rfl, rfl⟩
  go_wp2_with fail
  refine (take5 (x / 2097152) _ _ (by omega) (by go_side) (by go_side)).mono ?_; rintro e w1 ⟨rfl, rfl⟩
  go_wp2_with fail
  refine (take6 (x / 2097152 / 32) _ _ (by omega) (by go_side) (by go_side)).mono ?_; rintro e w1 ⟨rfl, rfl⟩
  go_wp2_with fail
  refine (fields_is o _ _ _ _ _ _ _ (hT.grown ((((Grown.refl _).alloc _ _).alloc _ _).alloc _ _)) ho' rfl rfl rfl rfl hw rfl).mono ?_; rintro e w1 ⟨rfl, g1⟩
  have i0 := inst_cells g1
  simp only [size_new] at i0
  obtain ⟨c0, c1, c2, c3, c4, c5, cz⟩ := i0
  go_wp2_with fail
  clear c0 c1 c2 c3 c4 c5 cz
  have g2 := g1.alloc #[.bool (fD o), .bool (fS o), .bool (fT o), .bool (fN o), .bool false] 265
  generalize w1.alloc (.cells #[.bool (fD o), .bool (fS o), .bool (fT o), .bool (fN o), .bool false] 265) = w2 at g2 ⊢
  generalize w1.heap.size = z8
  clear g1 w1
  refine (parts_any _ _).mono ?_; rintro e w3 ⟨rfl, rfl⟩
  go_wp2_with fail
  refine (take15 p _ _ (by omega) (by go_side) (by go_side)).mono ?_; rintro e w3 ⟨rfl, rfl⟩
  go_wp2_with fail
  refine (take1 (p / 32768) _ _ (by omega) (by go_side) (by go_side)).mono ?_; rintro e w3 ⟨rfl, rfl⟩
  go_wp2_with fail
  refine (take5 (p / 32768 / 2) _ _ (by omega) (by go_side) (by go_side)).mono ?_; rintro e w3 ⟨rfl, rfl⟩
  have g3 := (g2.alloc #[.int .u32 (p / 32768 / 2)] 22).setCell (a := ⟨w2.heap.size, 0, none⟩) g2.2.2.1 (.int .u32 (p / 32768 / 2 / 32))
  generalize (w2.alloc (.cells #[.int .u32 (p / 32768 / 2)] 22)).setCell ⟨w2.heap.size, 0, none⟩ (.int .u32 (p / 32768 / 2 / 32)) = w4 at g3 ⊢
  generalize w2.heap.size = z9
  clear g2 w2
  have gA := grown_trans (((Grown.refl (w.alloc (.cells #[.int .u8 0, .int .u8 0, .int .u8 0, .int .u8 0, .bool false, .int .i32 0] 88))).alloc _ _).alloc _ _) g3
  have fA := new_frozen gA
  have fC := new_frozen g3
  have i0 := inst_cells g3
  simp only [size_new] at i0 fC
  obtain ⟨c0, c1, c2, c3, c4, c5, cz⟩ := i0
  obtain ⟨a0, a1, a2, a3, a4, a5, az⟩ := inst_cells gA
  have fA0 := fA 0
  have fA1 := fA 1
  have fA2 := fA 2
  have fA3 := fA 3
  have fA4 := fA 4
  have fA5 := fA 5
  have fC2 := fC 2
  have fC3 := fC 3
  have fC4 := fC 4
  have fC5 := fC 5
  have G : Grown w w4 := grown_trans ((Grown.refl _).alloc _ _) gA
  clear fA fC gA g3
  go_wp2_with fail
  refine (number15 _ _ _ ho' hq).mono ?_; rintro e w5 ⟨rfl, rfl⟩
  rw [hn.out]
  go_wp2_with fail
  refine bodyPost_ret (v := .agg #[.int .u8 o, .int .u8 d, .int .u8 s, .int .u8 0, .bool true, .int .i32 n]) ?_ rfl ⟨rfl, ?_⟩
  · simp [results, Tryz.results204, go_sem, a0, a1, a2, a3, a4, a5]
  · clear a0 a1 a2 a3 a4 a5 c0 c1 c2 c3 c4 c5
    exact Grown.mk2 (by have G := G.lib; go_grown) (by have G := G.bel; go_grown)
set_option maxHeartbeats 1000000 in
theorem split_false (x o d p q s t : Int) (w : World) (hT : Tab w) (hx : 0 ≤ x ∧ x < 4294967296) (ho : 0 ≤ o ∧ o ≤ 63) (hd : 0 ≤ d ∧ d ≤ 31) (hp : 0 ≤ p ∧ p < 2097152) (hq : 0 ≤ q ∧ q < 32768) (hs : 0 ≤ s ∧ s ≤ 31) (ht : 0 ≤ t ∧ t ≤ 31)
    (eo : x / 2097152 / 32 % 64 = o) (ed : x / 2097152 % 32 = d) (ep : x % 2097152 = p) (eq : p % 32768 = q) (ei : p / 32768 % 2 = 0) (es : p / 32768 / 2 % 32 = s) (et : q % 32 = t) (hw : fW o = false) :
    Calls Tryz.prog 204 #[.int .u32 x] w fun e w' => e = .returned (.agg #[.int .u8 o, .int .u8 d, .int .u8 s, .int .u8 t, .bool false, .int .i32 0]) ∧ Grown w w' := by
  have ho' : 0 ≤ o ∧ o ≤ 255 := by omega
  go_enter Tryz.func204, Tryz.ntmps204
  go_wp2_with fail
  refine (parts_any _ _).mono ?_; rintro e w1 ⟨rfl, rfl⟩
  go_wp2_with fail
  refine (take21 x _ _ hx (by go_side) (by go_side)).mono ?_; rintro e w1 ⟨rfl, rfl⟩
  go_wp2_with fail
  refine (take5 (x / 2097152) _ _ (by omega) (by go_side) (by go_side)).mono ?_; rintro e w1 ⟨rfl, rfl⟩
  go_wp2_with fail
  refine (take6 (x / 2097152 / 32) _ _ (by omega) (by go_side) (by go_side)).mono ?_; rintro e w1 ⟨rfl, rfl⟩
  go_wp2_with fail
  refine (fields_is o _ _ _ _ _ _ _ (hT.grown ((((Grown.refl _).alloc _ _).alloc _ _).alloc _ _)) ho' rfl rfl rfl rfl hw rfl).mono ?_; rintro e w1 ⟨rfl, g1⟩
  have i0 := inst_cells g1
  simp only [size_new] at i0
  obtain ⟨c0, c1, c2, c3, c4, c5, cz⟩ := i0
  go_wp2_with fail
  clear c0 c1 c2 c3 c4 c5 cz
  have g2 := g1.alloc #[.bool (fD o), .bool (fS o), .bool (fT o), .bool (fN o), .bool false] 265
  generalize w1.alloc (.cells #[.bool (fD o), .bool (fS o), .bool (fT o), .bool (fN o), .bool false] 265) = w2 at g2 ⊢
  generalize w1.heap.size = z8
  clear g1 w1
  refine (parts_any _ _).mono ?_; rintro e w3 ⟨rfl, rfl⟩
  go_wp2_with fail
  refine (take15 p _ _ (by omega) (by go_side) (by go_side)).mono ?_; rintro e w3 ⟨rfl, rfl⟩
  go_wp2_with fail
  refine (take1 (p / 32768) _ _ (by omega) (by go_side) (by go_side)).mono ?_; rintro e w3 ⟨rfl, rfl⟩
  go_wp2_with fail
  refine (take5 (p / 32768 / 2) _ _ (by omega) (by go_side) (by go_side)).mono ?_; rintro e w3 ⟨rfl, rfl⟩
  have g3 := (g2.alloc #[.int .u32 (p / 32768 / 2)] 22).setCell (a := ⟨w2.heap.size, 0, none⟩) g2.2.2.1 (.int .u32 (p / 32768 / 2 / 32))
  generalize (w2.alloc (.cells #[.int .u32 (p / 32768 / 2)] 22)).setCell ⟨w2.heap.size, 0, none⟩ (.int .u32 (p / 32768 / 2 / 32)) = w4 at g3 ⊢
  generalize w2.heap.size = z9
  clear g2 w2
  have gA := grown_trans (((Grown.refl (w.alloc (.cells #[.int .u8 0, .int .u8 0, .int .u8 0, .int .u8 0, .bool false, .int .i32 0] 88))).alloc _ _).alloc _ _) g3
  have fA := new_frozen gA
  have fC := new_frozen g3
  have i0 := inst_cells g3
  simp only [size_new] at i0 fC
  obtain ⟨c0, c1, c2, c3, c4, c5, cz⟩ := i0
  obtain ⟨a0, a1, a2, a3, a4, a5, az⟩ := inst_cells gA
  have fA0 := fA 0
  have fA1 := fA 1
  have fA2 := fA 2
  have fA3 := fA 3
  have fA4 := fA 4
  have fA5 := fA 5
  have fC2 := fC 2
  have fC3 := fC 3
  have fC4 := fC 4
  have fC5 := fC 5
  have G : Grown w w4 := grown_trans ((Grown.refl _).alloc _ _) gA
  clear fA fC gA g3
  go_wp2_with fail
  refine (lowest5 _ _ (by omega)).mono ?_; rintro e w5 ⟨rfl, rfl⟩
  go_wp2_with fail
  refine bodyPost_ret (v := .agg #[.int .u8 o, .int .u8 d, .int .u8 s, .int .u8 t, .bool false, .int .i32 0]) ?_ rfl ⟨rfl, ?_⟩
  · simp [results, Tryz.results204, go_sem, a0, a1, a2, a3, a4, a5]
  · clear a0 a1 a2 a3 a4 a5 c0 c1 c2 c3 c4 c5
    exact Grown.mk2 (by have G := G.lib; go_grown) (by have G := G.bel; go_grown)
end Go.Proofs.YtiobgnelhiadbaaGreatDoor.I2
namespace Go.Proofs.YtiobgnelhiadbaaGreatDoor.I2
open Go.RowKit
set_option linter.unusedVariables false

/-- The number that split makes. -/
def kN (x : Int) : Int := if Wd (cO x) then nm (cO x) (x % 2097152) 1048576 else if x / 32768 % 2 == 1 then nm (cO x) (x % 32768) 16384 else 0
theorem kN_wide (x : Int) (h : Wd (cO x)) : kN x = cN x := by
  unfold kN cN
  rw [if_pos h, if_pos h]
  unfold Wd at h
  by_cases h15 : cO x = 15
  · have e : hi (cO x) = 2097151 := by unfold hi; rw [if_pos h15]
    rw [if_pos h15]
    unfold nm
    rw [e, if_neg (by omega)]
  · have e : hi (cO x) = 1048575 := by unfold hi; rw [if_neg h15, if_pos (by omega)]
    rw [if_neg h15]
    unfold nm sg
    rw [e]
    split <;> split <;> omega
theorem kN_zero (x : Int) (h : ¬ Wd (cO x)) (hb : (x / 32768 % 2 == 1) = false) : kN x = cN x := by
  unfold kN cN
  rw [if_neg h, if_neg h, hb]
  rfl
theorem kN_of (x : Int) (hx : 0 ≤ x ∧ x < 4294967296) (h : may (cO x) (cD x) (cS x) (cT x) (cB x) (kN x) = true ∨ may (cO x) (cD x) (cS x) (cT x) (cB x) (cN x) = true) : kN x = cN x := by
  by_cases hw : Wd (cO x)
  · exact kN_wide x hw
  cases hb : x / 32768 % 2 == 1
  · exact kN_zero x hw hb
  have eb : cB x = true := by unfold cB; rw [hb]; simp
  rw [eb] at h
  have e1 : kN x = nm (cO x) (x % 32768) 16384 := by unfold kN; rw [if_neg hw, if_pos hb]
  have e2 : cN x = sg (x % 32768) 16384 := by unfold cN; rw [if_neg hw, if_pos hb]
  rw [e1, e2] at h ⊢
  have hq : 0 ≤ x % 32768 ∧ x % 32768 < 32768 := by omega
  generalize x % 32768 = q at h hq ⊢
  generalize cO x = o at h hw ⊢
  generalize cD x = d at h
  generalize cS x = s at h
  generalize cT x = t at h
  unfold Wd at hw
  have hl : (Ka o ∨ Kb o) ∨ ((o = 30 ∨ o = 31) ∧ ((0 ≤ nm o q 16384 ∧ nm o q 16384 ≤ 1) ∨ (0 ≤ sg q 16384 ∧ sg q 16384 ≤ 1))) ∨ (o = 33 ∧ ((3 ≤ nm o q 16384 ∧ nm o q 16384 ≤ 4) ∨ (3 ≤ sg q 16384 ∧ sg q 16384 ≤ 4))) ∨ (o = 37 ∧ ((1 ≤ nm o q 16384 ∧ nm o q 16384 ≤ 3) ∨ (1 ≤ sg q 16384 ∧ sg q 16384 ≤ 3))) := by
    rcases h with h | h
    · obtain ⟨_, h'⟩ : MayT o d s t (nm o q 16384) := of_decide_eq_true h
      rcases h' with h' | h' | h' | h' | h' | h' | h' | h' | h'
      · exact Or.inl (Or.inl h'.1)
      · exact Or.inl (Or.inr h'.1)
      all_goals (right; omega)
    · obtain ⟨_, h'⟩ : MayT o d s t (sg q 16384) := of_decide_eq_true h
      rcases h' with h' | h' | h' | h' | h' | h' | h' | h' | h'
      · exact Or.inl (Or.inl h'.1)
      · exact Or.inl (Or.inr h'.1)
      all_goals (right; omega)
  clear h
  rcases hl with hl | ⟨ho, hl⟩ | ⟨ho, hl⟩ | ⟨ho, hl⟩
  · have e : hi o = 16383 := by
      unfold Ka Kb at hl
      unfold hi
      repeat rw [if_neg (by omega)]
    unfold nm sg
    rw [e]
    split <;> split <;> omega
  · have e : hi o = 1 := by
      unfold hi
      rw [if_neg (by omega), if_neg (by omega), if_pos (by omega)]
    unfold nm sg at hl ⊢
    rw [e] at hl ⊢
    (repeat' split at hl) <;> (repeat' split) <;> omega
  · have e : hi o = 4 := by
      unfold hi
      rw [if_neg (by omega), if_neg (by omega), if_neg (by omega), if_pos (by omega)]
    unfold nm sg at hl ⊢
    rw [e] at hl ⊢
    (repeat' split at hl) <;> (repeat' split) <;> omega
  · have e : hi o = 3 := by
      unfold hi
      rw [if_neg (by omega), if_neg (by omega), if_neg (by omega), if_neg (by omega), if_pos (by omega)]
    unfold nm sg at hl ⊢
    rw [e] at hl ⊢
    (repeat' split at hl) <;> (repeat' split) <;> omega
/-- split's candidate is an instruction just if the document's is, and then the two are the same. -/
theorem kd_is (x : Int) (hx : 0 ≤ x ∧ x < 4294967296) : (may (cO x) (cD x) (cS x) (cT x) (cB x) (kN x) && enc (cO x) (cD x) (cS x) (cT x) (cB x) (kN x) == x) = dk x := by
  by_cases h : kN x = cN x
  · rw [h]; rfl
  · have h1 : may (cO x) (cD x) (cS x) (cT x) (cB x) (kN x) = false := by
      cases h1 : may (cO x) (cD x) (cS x) (cT x) (cB x) (kN x)
      · rfl
      · exact absurd (kN_of x hx (Or.inl h1)) h
    have h2 : cM x = false := by
      cases h2 : cM x
      · rfl
      · exact absurd (kN_of x hx (Or.inr h2)) h
    unfold dk
    rw [h1, h2]
    rfl
theorem split_any (x : Int) (w : World) (hT : Tab w) (hx : 0 ≤ x ∧ x < 4294967296) :
    Calls Tryz.prog 204 #[.int .u32 x] w fun e w' => e = .returned (.agg #[.int .u8 (cO x), .int .u8 (cD x), .int .u8 (cS x), .int .u8 (cT x), .bool (cB x), .int .i32 (kN x)]) ∧ Grown w w' := by
  have eo : x / 2097152 / 32 % 64 = cO x := by unfold cO; omega
  have ed : x / 2097152 % 32 = cD x := rfl
  have ho : 0 ≤ cO x ∧ cO x ≤ 63 := by unfold cO; omega
  have hd : 0 ≤ cD x ∧ cD x ≤ 31 := by unfold cD; omega
  by_cases hw : Wd (cO x)
  · have e1 : cS x = 0 := by unfold cS; rw [if_pos hw]
    have e2 : cT x = 0 := by unfold cT; rw [if_pos hw]
    have e3 : cB x = true := by unfold cB; simp [hw]
    have e4 : kN x = nm (cO x) (x % 2097152) 1048576 := by unfold kN; rw [if_pos hw]
    rw [e1, e2, e3]
    exact split_wide x _ _ _ _ w hT hx ho hd (by omega) eo ed rfl e4.symm (decide_eq_true hw)
  · have e1 : x % 2097152 / 32768 / 2 % 32 = cS x := by unfold cS; rw [if_neg hw]; omega
    have hs : 0 ≤ cS x ∧ cS x ≤ 31 := by omega
    cases hb : x / 32768 % 2 == 1
    · have hi0 : x / 32768 % 2 = 0 := by have := of_decide_eq_false hb; omega
      have e2 : x % 2097152 % 32768 % 32 = cT x := by unfold cT; rw [if_neg hw, hb, if_neg (by decide)]; omega
      have e3 : cB x = false := by unfold cB; rw [hb]; simp [hw]
      have e4 : kN x = 0 := by unfold kN; rw [if_neg hw, hb, if_neg (by decide)]
      rw [e3, e4]
      exact split_false x _ _ _ _ _ _ w hT hx ho hd (by omega) (by omega) hs (by omega) eo ed rfl rfl (by omega) e1 e2 (decide_eq_false hw)
    · have hi1 : x / 32768 % 2 = 1 := by simpa using hb
      have e2 : cT x = 0 := by unfold cT; rw [if_neg hw, hb, if_pos rfl]
      have e3 : cB x = true := by unfold cB; rw [hb]; simp
      have e4 : nm (cO x) (x % 2097152 % 32768) 16384 = kN x := by
        unfold kN; rw [if_neg hw, hb, if_pos rfl]
        rw [show x % 2097152 % 32768 = x % 32768 by omega]
      rw [e2, e3]
      exact split_true x _ _ _ _ _ _ w hT hx ho hd (by omega) (by omega) hs eo ed rfl rfl (by omega) e1 e4 (decide_eq_false hw)

/-! Decode. -/
theorem split_is (x o d s t : Int) (b : Bool) (n : Int) (w : World) (hT : Tab w) (hx : 0 ≤ x ∧ x < 4294967296) (h1 : cO x = o) (h2 : cD x = d) (h3 : cS x = s) (h4 : cT x = t) (h5 : cB x = b) (h6 : kN x = n) :
    Calls Tryz.prog 204 #[.int .u32 x] w fun e w' => e = .returned (.agg #[.int .u8 o, .int .u8 d, .int .u8 s, .int .u8 t, .bool b, .int .i32 n]) ∧ Grown w w' := by
  subst h1 h2 h3 h4 h5 h6; exact split_any x w hT hx
theorem enc_is (o d s t : Int) (b : Bool) (n v r : Int) (w : World) (hT : Tab w) (ho : 0 ≤ o ∧ o ≤ 255) (hd : 0 ≤ d ∧ d ≤ 255) (hs : 0 ≤ s ∧ s ≤ 255) (ht : 0 ≤ t ∧ t ≤ 255) (hv : eW o d s t b n = v) (hr : eE o d s t b n = r) :
    Calls Tryz.prog 112 #[.agg #[.int .u8 o, .int .u8 d, .int .u8 s, .int .u8 t, .bool b, .int .i32 n]] w fun e w' => e = .returned (.tuple #[.int .u32 v, .int .i64 r]) ∧ Grown w w' := by
  subst hv hr; exact enc_any o d s t b n w hT ho hd hs ht
set_option maxHeartbeats 1000000 in
theorem dec_no2 (x o d s t : Int) (b : Bool) (n v : Int) (w : World) (hT : Tab w) (hx : 0 ≤ x ∧ x < 4294967296) (ho : 0 ≤ o ∧ o ≤ 255) (hd : 0 ≤ d ∧ d ≤ 255) (hs : 0 ≤ s ∧ s ≤ 255) (ht : 0 ≤ t ∧ t ≤ 255)
    (h1 : Hid (cO x = o)) (h2 : Hid (cD x = d)) (h3 : Hid (cS x = s)) (h4 : Hid (cT x = t)) (h5 : Hid (cB x = b)) (h6 : Hid (kN x = n)) (hv : Hid (eW o d s t b n = v)) (hr : Hid (eE o d s t b n = 2)) :
    Calls Tryz.prog 150 #[.int .u32 x] w fun e w' => e = .returned (.tuple #[.agg #[.int .u8 0, .int .u8 0, .int .u8 0, .int .u8 0, .bool false, .int .i32 0], .bool false]) ∧ Grown w w' := by
  go_enter Tryz.func150, Tryz.ntmps150
  go_wp2_with fail
  refine (split_is x o d s t b n _ (hT.grown ((Grown.refl _).alloc _ _)) hx h1.out h2.out h3.out h4.out h5.out h6.out).mono ?_; rintro e w1 ⟨rfl, g1⟩
  obtain ⟨a0, a1, a2, a3, a4, a5, az⟩ := inst_cells g1
  go_wp2_with fail
  clear a0 a1 a2 a3 a4 a5 az
  refine (enc_is o d s t b n v 2 _ (hT.grown (grown_trans ((Grown.refl _).alloc _ _) (g1.alloc _ _))) ho hd hs ht hv.out hr.out).mono ?_; rintro e w2 ⟨rfl, g2⟩
  have gA := grown_trans (g1.alloc _ _) g2
  have fA := new_frozen gA
  obtain ⟨a0, a1, a2, a3, a4, a5, az⟩ := inst_cells gA
  obtain ⟨c0, c1, c2, c3, c4, c5, cz⟩ := inst_cells g2
  have fA0 := fA 0
  have fA1 := fA 1
  have fA2 := fA 2
  have fA3 := fA 3
  have fA4 := fA 4
  have fA5 := fA 5
  have G : Grown w w2 := grown_trans ((Grown.refl _).alloc _ _) gA
  clear fA gA g2 g1
  go_wp2_with fail
  refine bodyPost_ret (v := .tuple #[.agg #[.int .u8 0, .int .u8 0, .int .u8 0, .int .u8 0, .bool false, .int .i32 0], .bool false]) ?_ rfl ⟨rfl, ?_⟩
  · simp [results, Tryz.results150, go_sem, a0, a1, a2, a3, a4, a5]
  · clear a0 a1 a2 a3 a4 a5 c0 c1 c2 c3 c4 c5
    exact Grown.mk2 (by have G := G.lib; go_grown) (by have G := G.bel; go_grown)
set_option maxHeartbeats 1000000 in
theorem dec_no0 (x o d s t : Int) (b : Bool) (n v : Int) (w : World) (hT : Tab w) (hx : 0 ≤ x ∧ x < 4294967296) (ho : 0 ≤ o ∧ o ≤ 255) (hd : 0 ≤ d ∧ d ≤ 255) (hs : 0 ≤ s ∧ s ≤ 255) (ht : 0 ≤ t ∧ t ≤ 255)
    (h1 : Hid (cO x = o)) (h2 : Hid (cD x = d)) (h3 : Hid (cS x = s)) (h4 : Hid (cT x = t)) (h5 : Hid (cB x = b)) (h6 : Hid (kN x = n)) (hv : Hid (eW o d s t b n = v)) (hr : Hid (eE o d s t b n = 0)) (hb : (v == x) = false) (hb2 : (v != x) = true) :
    Calls Tryz.prog 150 #[.int .u32 x] w fun e w' => e = .returned (.tuple #[.agg #[.int .u8 0, .int .u8 0, .int .u8 0, .int .u8 0, .bool false, .int .i32 0], .bool false]) ∧ Grown w w' := by
  go_enter Tryz.func150, Tryz.ntmps150
  go_wp2_with fail
  refine (split_is x o d s t b n _ (hT.grown ((Grown.refl _).alloc _ _)) hx h1.out h2.out h3.out h4.out h5.out h6.out).mono ?_; rintro e w1 ⟨rfl, g1⟩
  obtain ⟨a0, a1, a2, a3, a4, a5, az⟩ := inst_cells g1
  go_wp2_with fail
  clear a0 a1 a2 a3 a4 a5 az
  refine (enc_is o d s t b n v 0 _ (hT.grown (grown_trans ((Grown.refl _).alloc _ _) (g1.alloc _ _))) ho hd hs ht hv.out hr.out).mono ?_; rintro e w2 ⟨rfl, g2⟩
  have gA := grown_trans (g1.alloc _ _) g2
  have fA := new_frozen gA
  obtain ⟨a0, a1, a2, a3, a4, a5, az⟩ := inst_cells gA
  obtain ⟨c0, c1, c2, c3, c4, c5, cz⟩ := inst_cells g2
  have fA0 := fA 0
  have fA1 := fA 1
  have fA2 := fA 2
  have fA3 := fA 3
  have fA4 := fA 4
  have fA5 := fA 5
  have G : Grown w w2 := grown_trans ((Grown.refl _).alloc _ _) gA
  clear fA gA g2 g1
  go_wp2_with fail
  refine bodyPost_ret (v := .tuple #[.agg #[.int .u8 0, .int .u8 0, .int .u8 0, .int .u8 0, .bool false, .int .i32 0], .bool false]) ?_ rfl ⟨rfl, ?_⟩
  · simp [results, Tryz.results150, go_sem, a0, a1, a2, a3, a4, a5]
  · clear a0 a1 a2 a3 a4 a5 c0 c1 c2 c3 c4 c5
    exact Grown.mk2 (by have G := G.lib; go_grown) (by have G := G.bel; go_grown)
set_option maxHeartbeats 1000000 in
theorem dec_yes (x o d s t : Int) (b : Bool) (n : Int) (w : World) (hT : Tab w) (hx : 0 ≤ x ∧ x < 4294967296) (ho : 0 ≤ o ∧ o ≤ 255) (hd : 0 ≤ d ∧ d ≤ 255) (hs : 0 ≤ s ∧ s ≤ 255) (ht : 0 ≤ t ∧ t ≤ 255)
    (h1 : Hid (cO x = o)) (h2 : Hid (cD x = d)) (h3 : Hid (cS x = s)) (h4 : Hid (cT x = t)) (h5 : Hid (cB x = b)) (h6 : Hid (kN x = n)) (hv : Hid (eW o d s t b n = x)) (hr : Hid (eE o d s t b n = 0)) :
    Calls Tryz.prog 150 #[.int .u32 x] w fun e w' => e = .returned (.tuple #[.agg #[.int .u8 o, .int .u8 d, .int .u8 s, .int .u8 t, .bool b, .int .i32 n], .bool true]) ∧ Grown w w' := by
  go_enter Tryz.func150, Tryz.ntmps150
  go_wp2_with fail
  refine (split_is x o d s t b n _ (hT.grown ((Grown.refl _).alloc _ _)) hx h1.out h2.out h3.out h4.out h5.out h6.out).mono ?_; rintro e w1 ⟨rfl, g1⟩
  obtain ⟨a0, a1, a2, a3, a4, a5, az⟩ := inst_cells g1
  go_wp2_with fail
  clear a0 a1 a2 a3 a4 a5 az
  refine (enc_is o d s t b n x 0 _ (hT.grown (grown_trans ((Grown.refl _).alloc _ _) (g1.alloc _ _))) ho hd hs ht hv.out hr.out).mono ?_; rintro e w2 ⟨rfl, g2⟩
  have gA := grown_trans (g1.alloc _ _) g2
  have fA := new_frozen gA
  obtain ⟨a0, a1, a2, a3, a4, a5, az⟩ := inst_cells gA
  obtain ⟨c0, c1, c2, c3, c4, c5, cz⟩ := inst_cells g2
  have fA0 := fA 0
  have fA1 := fA 1
  have fA2 := fA 2
  have fA3 := fA 3
  have fA4 := fA 4
  have fA5 := fA 5
  have G : Grown w w2 := grown_trans ((Grown.refl _).alloc _ _) gA
  clear fA gA g2 g1
  go_wp2_with fail
  refine bodyPost_ret (v := .tuple #[.agg #[.int .u8 o, .int .u8 d, .int .u8 s, .int .u8 t, .bool b, .int .i32 n], .bool true]) ?_ rfl ⟨rfl, ?_⟩
  · simp [results, Tryz.results150, go_sem, a0, a1, a2, a3, a4, a5]
  · clear a0 a1 a2 a3 a4 a5 c0 c1 c2 c3 c4 c5
    exact Grown.mk2 (by have G := G.lib; go_grown) (by have G := G.bel; go_grown)
/-- What Decode comes to, whatever the word. -/
theorem dec_any (x : Int) (w : World) (hT : Tab w) (hx : 0 ≤ x ∧ x < 4294967296) :
    Calls Tryz.prog 150 #[.int .u32 x] w fun e w' => e = .returned (.tuple #[.agg #[.int .u8 (dO x), .int .u8 (dD x), .int .u8 (dS x), .int .u8 (dT x), .bool (dB x), .int .i32 (dN x)], .bool (dk x)]) ∧ Grown w w' := by
  obtain ⟨ko, kd, ks, kt⟩ := c_bd hx
  have hk := kd_is x hx
  cases hm : may (cO x) (cD x) (cS x) (cT x) (cB x) (kN x)
  · rw [hm, Bool.false_and] at hk
    unfold dO dD dS dT dB dN
    rw [← hk]
    exact dec_no2 x _ _ _ _ _ _ _ w hT hx ko kd ks kt rfl rfl rfl rfl rfl rfl rfl (eE_no hm)
  · rw [hm, Bool.true_and] at hk
    cases hq : enc (cO x) (cD x) (cS x) (cT x) (cB x) (kN x) == x
    · rw [hq] at hk
      unfold dO dD dS dT dB dN
      rw [← hk]
      refine dec_no0 x _ _ _ _ _ _ _ w hT hx ko kd ks kt rfl rfl rfl rfl rfl rfl rfl (eE_yes hm) ?_ ?_
      · rw [eW_yes hm]; exact hq
      · rw [eW_yes hm]; simpa using hq
    · rw [hq] at hk
      have e := kN_of x hx (Or.inl hm)
      unfold dO dD dS dT dB dN
      rw [← hk, ← e]
      have e2 : eW (cO x) (cD x) (cS x) (cT x) (cB x) (kN x) = x := by rw [eW_yes hm]; simpa using hq
      exact dec_yes x (cO x) (cD x) (cS x) (cT x) (cB x) (kN x) w hT hx ko kd ks kt rfl rfl rfl rfl rfl rfl e2 (eE_yes hm)
end Go.Proofs.YtiobgnelhiadbaaGreatDoor.I2
