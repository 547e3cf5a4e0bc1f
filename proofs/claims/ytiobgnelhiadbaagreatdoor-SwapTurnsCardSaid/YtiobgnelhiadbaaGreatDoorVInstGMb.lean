/- What the document's May comes to, class by class of Ops. -/
import Derived.Test.YtiobgnelhiadbaaGreatDoorVInstGMa
namespace Go.Proofs.YtiobgnelhiadbaaGreatDoor.I2
open Go.RowKit
set_option linter.unusedVariables false
set_option linter.unusedSimpArgs false
theorem rk4 {o : Int} (h : o = 17) : rk o = 4 := by
  unfold rk
  rw [if_neg (show ¬ Ka o by unfold Ka; omega), if_neg (show ¬ Kb o by unfold Kb; omega)]
  repeat (first | rw [if_pos (by omega)] | rw [if_neg (by omega)])
set_option maxHeartbeats 4000000 in
set_option maxRecDepth 100000 in
theorem rmay4_t (o d s t n : Int) (w : World) (ho : 0 ≤ o ∧ o ≤ 255) (hd : 0 ≤ d ∧ d ≤ 255) (hs : 0 ≤ s ∧ s ≤ 255) (ht : 0 ≤ t ∧ t ≤ 255) (h : Hid (o = 17)) :
    Calls Tryz.prog 156 #[.agg #[.int .u8 o, .int .u8 d, .int .u8 s, .int .u8 t, .bool true, .int .i32 n]] w fun e w' => e = .returned (.bool (may o d s t true n)) ∧ Grown w w' := by
  have hk : Hid (rk o = 4) := rk4 h.out
  go_enter Tryz.func156, Tryz.ntmps156
  go_wp2_with (first
    | (go_at_call 135; refine (rkind_is o 4 _ ho hk.out).mono ?_; rintro e w1 ⟨rfl, rfl⟩)
    | (go_at_call 229; refine (rbetween _ _ _ _ _ rfl).mono ?_; rintro e w1 ⟨rfl, rfl⟩))
  all_goals (go_ret; refine ⟨ret_b ?_, (Grown.refl _).alloc _ _⟩)
  all_goals (try simp only [bne_iff_ne, ne_eq, bne_eq_false_iff_eq, beq_iff_eq, beq_eq_false_iff_ne] at *)
  all_goals first
    | rw [may4_t o d s t n hd.1 hs.1 ht.1 h.out]
    | rw [may4_t o d s 0 n hd.1 hs.1 (Int.le_refl 0) h.out]
    | rw [may4_t o d 0 t n hd.1 (Int.le_refl 0) ht.1 h.out]
    | rw [may4_t o d 0 0 n hd.1 (Int.le_refl 0) (Int.le_refl 0) h.out]
    | rw [may4_t o 0 s t n (Int.le_refl 0) hs.1 ht.1 h.out]
    | rw [may4_t o 0 s 0 n (Int.le_refl 0) hs.1 (Int.le_refl 0) h.out]
    | rw [may4_t o 0 0 t n (Int.le_refl 0) (Int.le_refl 0) ht.1 h.out]
    | rw [may4_t o 0 0 0 n (Int.le_refl 0) (Int.le_refl 0) (Int.le_refl 0) h.out]
  all_goals first
    | rfl
    | exact (decide_eq_false (by omega)).symm
    | exact (decide_eq_true (by omega)).symm
    | (rw [Bool.eq_iff_iff]; simp only [Bool.and_eq_true, decide_eq_true_iff, beq_iff_eq, bne_iff_ne, Bool.not_eq_true', decide_eq_false_iff_not]; omega)
set_option maxHeartbeats 4000000 in
set_option maxRecDepth 100000 in
theorem rmay4_f (o d s t n : Int) (w : World) (ho : 0 ≤ o ∧ o ≤ 255) (hd : 0 ≤ d ∧ d ≤ 255) (hs : 0 ≤ s ∧ s ≤ 255) (ht : 0 ≤ t ∧ t ≤ 255) (h : Hid (o = 17)) :
    Calls Tryz.prog 156 #[.agg #[.int .u8 o, .int .u8 d, .int .u8 s, .int .u8 t, .bool false, .int .i32 n]] w fun e w' => e = .returned (.bool (may o d s t false n)) ∧ Grown w w' := by
  have hk : Hid (rk o = 4) := rk4 h.out
  go_enter Tryz.func156, Tryz.ntmps156
  go_wp2_with (first
    | (go_at_call 135; refine (rkind_is o 4 _ ho hk.out).mono ?_; rintro e w1 ⟨rfl, rfl⟩)
    | (go_at_call 229; refine (rbetween _ _ _ _ _ rfl).mono ?_; rintro e w1 ⟨rfl, rfl⟩))
  all_goals (go_ret; refine ⟨ret_b ?_, (Grown.refl _).alloc _ _⟩)
  all_goals (try simp only [bne_iff_ne, ne_eq, bne_eq_false_iff_eq, beq_iff_eq, beq_eq_false_iff_ne] at *)
  all_goals first
    | rw [may4_f o d s t n hd.1 hs.1 ht.1 h.out]
    | rw [may4_f o d s 0 n hd.1 hs.1 (Int.le_refl 0) h.out]
    | rw [may4_f o d 0 t n hd.1 (Int.le_refl 0) ht.1 h.out]
    | rw [may4_f o d 0 0 n hd.1 (Int.le_refl 0) (Int.le_refl 0) h.out]
    | rw [may4_f o 0 s t n (Int.le_refl 0) hs.1 ht.1 h.out]
    | rw [may4_f o 0 s 0 n (Int.le_refl 0) hs.1 (Int.le_refl 0) h.out]
    | rw [may4_f o 0 0 t n (Int.le_refl 0) (Int.le_refl 0) ht.1 h.out]
    | rw [may4_f o 0 0 0 n (Int.le_refl 0) (Int.le_refl 0) (Int.le_refl 0) h.out]
  all_goals first
    | rfl
    | exact (decide_eq_false (by omega)).symm
    | exact (decide_eq_true (by omega)).symm
    | (rw [Bool.eq_iff_iff]; simp only [Bool.and_eq_true, decide_eq_true_iff, beq_iff_eq, bne_iff_ne, Bool.not_eq_true', decide_eq_false_iff_not]; omega)
theorem rk5 {o : Int} (h : o = 18) : rk o = 5 := by
  unfold rk
  rw [if_neg (show ¬ Ka o by unfold Ka; omega), if_neg (show ¬ Kb o by unfold Kb; omega)]
  repeat (first | rw [if_pos (by omega)] | rw [if_neg (by omega)])
set_option maxHeartbeats 4000000 in
set_option maxRecDepth 100000 in
theorem rmay5_t (o d s t n : Int) (w : World) (ho : 0 ≤ o ∧ o ≤ 255) (hd : 0 ≤ d ∧ d ≤ 255) (hs : 0 ≤ s ∧ s ≤ 255) (ht : 0 ≤ t ∧ t ≤ 255) (h : Hid (o = 18)) :
    Calls Tryz.prog 156 #[.agg #[.int .u8 o, .int .u8 d, .int .u8 s, .int .u8 t, .bool true, .int .i32 n]] w fun e w' => e = .returned (.bool (may o d s t true n)) ∧ Grown w w' := by
  have hk : Hid (rk o = 5) := rk5 h.out
  go_enter Tryz.func156, Tryz.ntmps156
  go_wp2_with (first
    | (go_at_call 135; refine (rkind_is o 5 _ ho hk.out).mono ?_; rintro e w1 ⟨rfl, rfl⟩)
    | (go_at_call 229; refine (rbetween _ _ _ _ _ rfl).mono ?_; rintro e w1 ⟨rfl, rfl⟩))
  all_goals (go_ret; refine ⟨ret_b ?_, (Grown.refl _).alloc _ _⟩)
  all_goals (try simp only [bne_iff_ne, ne_eq, bne_eq_false_iff_eq, beq_iff_eq, beq_eq_false_iff_ne] at *)
  all_goals first
    | rw [may5_t o d s t n hd.1 hs.1 ht.1 h.out]
    | rw [may5_t o d s 0 n hd.1 hs.1 (Int.le_refl 0) h.out]
    | rw [may5_t o d 0 t n hd.1 (Int.le_refl 0) ht.1 h.out]
    | rw [may5_t o d 0 0 n hd.1 (Int.le_refl 0) (Int.le_refl 0) h.out]
    | rw [may5_t o 0 s t n (Int.le_refl 0) hs.1 ht.1 h.out]
    | rw [may5_t o 0 s 0 n (Int.le_refl 0) hs.1 (Int.le_refl 0) h.out]
    | rw [may5_t o 0 0 t n (Int.le_refl 0) (Int.le_refl 0) ht.1 h.out]
    | rw [may5_t o 0 0 0 n (Int.le_refl 0) (Int.le_refl 0) (Int.le_refl 0) h.out]
  all_goals first
    | rfl
    | exact (decide_eq_false (by omega)).symm
    | exact (decide_eq_true (by omega)).symm
    | (rw [Bool.eq_iff_iff]; simp only [Bool.and_eq_true, decide_eq_true_iff, beq_iff_eq, bne_iff_ne, Bool.not_eq_true', decide_eq_false_iff_not]; omega)
set_option maxHeartbeats 4000000 in
set_option maxRecDepth 100000 in
theorem rmay5_f (o d s t n : Int) (w : World) (ho : 0 ≤ o ∧ o ≤ 255) (hd : 0 ≤ d ∧ d ≤ 255) (hs : 0 ≤ s ∧ s ≤ 255) (ht : 0 ≤ t ∧ t ≤ 255) (h : Hid (o = 18)) :
    Calls Tryz.prog 156 #[.agg #[.int .u8 o, .int .u8 d, .int .u8 s, .int .u8 t, .bool false, .int .i32 n]] w fun e w' => e = .returned (.bool (may o d s t false n)) ∧ Grown w w' := by
  have hk : Hid (rk o = 5) := rk5 h.out
  go_enter Tryz.func156, Tryz.ntmps156
  go_wp2_with (first
    | (go_at_call 135; refine (rkind_is o 5 _ ho hk.out).mono ?_; rintro e w1 ⟨rfl, rfl⟩)
    | (go_at_call 229; refine (rbetween _ _ _ _ _ rfl).mono ?_; rintro e w1 ⟨rfl, rfl⟩))
  all_goals (go_ret; refine ⟨ret_b ?_, (Grown.refl _).alloc _ _⟩)
  all_goals (try simp only [bne_iff_ne, ne_eq, bne_eq_false_iff_eq, beq_iff_eq, beq_eq_false_iff_ne] at *)
  all_goals first
    | rw [may5_f o d s t n hd.1 hs.1 ht.1 h.out]
    | rw [may5_f o d s 0 n hd.1 hs.1 (Int.le_refl 0) h.out]
    | rw [may5_f o d 0 t n hd.1 (Int.le_refl 0) ht.1 h.out]
    | rw [may5_f o d 0 0 n hd.1 (Int.le_refl 0) (Int.le_refl 0) h.out]
    | rw [may5_f o 0 s t n (Int.le_refl 0) hs.1 ht.1 h.out]
    | rw [may5_f o 0 s 0 n (Int.le_refl 0) hs.1 (Int.le_refl 0) h.out]
    | rw [may5_f o 0 0 t n (Int.le_refl 0) (Int.le_refl 0) ht.1 h.out]
    | rw [may5_f o 0 0 0 n (Int.le_refl 0) (Int.le_refl 0) (Int.le_refl 0) h.out]
  all_goals first
    | rfl
    | exact (decide_eq_false (by omega)).symm
    | exact (decide_eq_true (by omega)).symm
    | (rw [Bool.eq_iff_iff]; simp only [Bool.and_eq_true, decide_eq_true_iff, beq_iff_eq, bne_iff_ne, Bool.not_eq_true', decide_eq_false_iff_not]; omega)
theorem rk6 {o : Int} (h : o = 26 ∨ o = 28 ∨ o = 34) : rk o = 6 := by
  unfold rk
  rw [if_neg (show ¬ Ka o by unfold Ka; omega), if_neg (show ¬ Kb o by unfold Kb; omega)]
  repeat (first | rw [if_pos (by omega)] | rw [if_neg (by omega)])
set_option maxHeartbeats 4000000 in
set_option maxRecDepth 100000 in
theorem rmay6_t (o d s t n : Int) (w : World) (ho : 0 ≤ o ∧ o ≤ 255) (hd : 0 ≤ d ∧ d ≤ 255) (hs : 0 ≤ s ∧ s ≤ 255) (ht : 0 ≤ t ∧ t ≤ 255) (h : Hid (o = 26 ∨ o = 28 ∨ o = 34)) :
    Calls Tryz.prog 156 #[.agg #[.int .u8 o, .int .u8 d, .int .u8 s, .int .u8 t, .bool true, .int .i32 n]] w fun e w' => e = .returned (.bool (may o d s t true n)) ∧ Grown w w' := by
  have hk : Hid (rk o = 6) := rk6 h.out
  go_enter Tryz.func156, Tryz.ntmps156
  go_wp2_with (first
    | (go_at_call 135; refine (rkind_is o 6 _ ho hk.out).mono ?_; rintro e w1 ⟨rfl, rfl⟩)
    | (go_at_call 229; refine (rbetween _ _ _ _ _ rfl).mono ?_; rintro e w1 ⟨rfl, rfl⟩))
  all_goals (go_ret; refine ⟨ret_b ?_, (Grown.refl _).alloc _ _⟩)
  all_goals (try simp only [bne_iff_ne, ne_eq, bne_eq_false_iff_eq, beq_iff_eq, beq_eq_false_iff_ne] at *)
  all_goals first
    | rw [may6_t o d s t n hd.1 hs.1 ht.1 h.out]
    | rw [may6_t o d s 0 n hd.1 hs.1 (Int.le_refl 0) h.out]
    | rw [may6_t o d 0 t n hd.1 (Int.le_refl 0) ht.1 h.out]
    | rw [may6_t o d 0 0 n hd.1 (Int.le_refl 0) (Int.le_refl 0) h.out]
    | rw [may6_t o 0 s t n (Int.le_refl 0) hs.1 ht.1 h.out]
    | rw [may6_t o 0 s 0 n (Int.le_refl 0) hs.1 (Int.le_refl 0) h.out]
    | rw [may6_t o 0 0 t n (Int.le_refl 0) (Int.le_refl 0) ht.1 h.out]
    | rw [may6_t o 0 0 0 n (Int.le_refl 0) (Int.le_refl 0) (Int.le_refl 0) h.out]
  all_goals first
    | rfl
    | exact (decide_eq_false (by omega)).symm
    | exact (decide_eq_true (by omega)).symm
    | (rw [Bool.eq_iff_iff]; simp only [Bool.and_eq_true, decide_eq_true_iff, beq_iff_eq, bne_iff_ne, Bool.not_eq_true', decide_eq_false_iff_not]; omega)
set_option maxHeartbeats 4000000 in
set_option maxRecDepth 100000 in
theorem rmay6_f (o d s t n : Int) (w : World) (ho : 0 ≤ o ∧ o ≤ 255) (hd : 0 ≤ d ∧ d ≤ 255) (hs : 0 ≤ s ∧ s ≤ 255) (ht : 0 ≤ t ∧ t ≤ 255) (h : Hid (o = 26 ∨ o = 28 ∨ o = 34)) :
    Calls Tryz.prog 156 #[.agg #[.int .u8 o, .int .u8 d, .int .u8 s, .int .u8 t, .bool false, .int .i32 n]] w fun e w' => e = .returned (.bool (may o d s t false n)) ∧ Grown w w' := by
  have hk : Hid (rk o = 6) := rk6 h.out
  go_enter Tryz.func156, Tryz.ntmps156
  go_wp2_with (first
    | (go_at_call 135; refine (rkind_is o 6 _ ho hk.out).mono ?_; rintro e w1 ⟨rfl, rfl⟩)
    | (go_at_call 229; refine (rbetween _ _ _ _ _ rfl).mono ?_; rintro e w1 ⟨rfl, rfl⟩))
  all_goals (go_ret; refine ⟨ret_b ?_, (Grown.refl _).alloc _ _⟩)
  all_goals (try simp only [bne_iff_ne, ne_eq, bne_eq_false_iff_eq, beq_iff_eq, beq_eq_false_iff_ne] at *)
  all_goals first
    | rw [may6_f o d s t n hd.1 hs.1 ht.1 h.out]
    | rw [may6_f o d s 0 n hd.1 hs.1 (Int.le_refl 0) h.out]
    | rw [may6_f o d 0 t n hd.1 (Int.le_refl 0) ht.1 h.out]
    | rw [may6_f o d 0 0 n hd.1 (Int.le_refl 0) (Int.le_refl 0) h.out]
    | rw [may6_f o 0 s t n (Int.le_refl 0) hs.1 ht.1 h.out]
    | rw [may6_f o 0 s 0 n (Int.le_refl 0) hs.1 (Int.le_refl 0) h.out]
    | rw [may6_f o 0 0 t n (Int.le_refl 0) (Int.le_refl 0) ht.1 h.out]
    | rw [may6_f o 0 0 0 n (Int.le_refl 0) (Int.le_refl 0) (Int.le_refl 0) h.out]
  all_goals first
    | rfl
    | exact (decide_eq_false (by omega)).symm
    | exact (decide_eq_true (by omega)).symm
    | (rw [Bool.eq_iff_iff]; simp only [Bool.and_eq_true, decide_eq_true_iff, beq_iff_eq, bne_iff_ne, Bool.not_eq_true', decide_eq_false_iff_not]; omega)
end Go.Proofs.YtiobgnelhiadbaaGreatDoor.I2
