/- What the document's May comes to, class by class of Ops. -/
import Derived.Test.YtiobgnelhiadbaaGreatDoorVInstGMa
namespace Go.Proofs.YtiobgnelhiadbaaGreatDoor.I2
open Go.RowKit
set_option linter.unusedVariables false
set_option linter.unusedSimpArgs false
theorem rk10 {o : Int} (h : o = 35 ∨ o = 36) : rk o = 10 := by
  unfold rk
  rw [if_neg (show ¬ Ka o by unfold Ka; omega), if_neg (show ¬ Kb o by unfold Kb; omega)]
  repeat (first | rw [if_pos (by omega)] | rw [if_neg (by omega)])
set_option maxHeartbeats 4000000 in
set_option maxRecDepth 100000 in
theorem rmay10_t (o d s t n : Int) (w : World) (ho : 0 ≤ o ∧ o ≤ 255) (hd : 0 ≤ d ∧ d ≤ 255) (hs : 0 ≤ s ∧ s ≤ 255) (ht : 0 ≤ t ∧ t ≤ 255) (h : Hid (o = 35 ∨ o = 36)) :
    Calls Tryz.prog 156 #[.agg #[.int .u8 o, .int .u8 d, .int .u8 s, .int .u8 t, .bool true, .int .i32 n]] w fun e w' => e = .returned (.bool (may o d s t true n)) ∧ Grown w w' := by
  have hk : Hid (rk o = 10) := rk10 h.out
  go_enter Tryz.func156, Tryz.ntmps156
  go_wp2_with (first
    | (go_at_call 135; refine (rkind_is o 10 _ ho hk.out).mono ?_; rintro e w1 ⟨rfl, rfl⟩)
    | (go_at_call 229; refine (rbetween _ _ _ _ _ rfl).mono ?_; rintro e w1 ⟨rfl, rfl⟩))
  all_goals (go_ret; refine ⟨ret_b ?_, (Grown.refl _).alloc _ _⟩)
  all_goals (try simp only [bne_iff_ne, ne_eq, bne_eq_false_iff_eq, beq_iff_eq, beq_eq_false_iff_ne] at *)
  all_goals rw [may10_t o d s t n hd.1 hs.1 ht.1 h.out]
  all_goals first
    | rfl
    | exact (decide_eq_false (by omega)).symm
    | exact (decide_eq_true (by omega)).symm
    | (rw [Bool.eq_iff_iff]; simp only [Bool.and_eq_true, decide_eq_true_iff, beq_iff_eq, bne_iff_ne, Bool.not_eq_true', decide_eq_false_iff_not]; omega)
set_option maxHeartbeats 4000000 in
set_option maxRecDepth 100000 in
theorem rmay10_f (o d s t n : Int) (w : World) (ho : 0 ≤ o ∧ o ≤ 255) (hd : 0 ≤ d ∧ d ≤ 255) (hs : 0 ≤ s ∧ s ≤ 255) (ht : 0 ≤ t ∧ t ≤ 255) (h : Hid (o = 35 ∨ o = 36)) :
    Calls Tryz.prog 156 #[.agg #[.int .u8 o, .int .u8 d, .int .u8 s, .int .u8 t, .bool false, .int .i32 n]] w fun e w' => e = .returned (.bool (may o d s t false n)) ∧ Grown w w' := by
  have hk : Hid (rk o = 10) := rk10 h.out
  go_enter Tryz.func156, Tryz.ntmps156
  go_wp2_with (first
    | (go_at_call 135; refine (rkind_is o 10 _ ho hk.out).mono ?_; rintro e w1 ⟨rfl, rfl⟩)
    | (go_at_call 229; refine (rbetween _ _ _ _ _ rfl).mono ?_; rintro e w1 ⟨rfl, rfl⟩))
  all_goals (go_ret; refine ⟨ret_b ?_, (Grown.refl _).alloc _ _⟩)
  all_goals (try simp only [bne_iff_ne, ne_eq, bne_eq_false_iff_eq, beq_iff_eq, beq_eq_false_iff_ne] at *)
  all_goals rw [may10_f o d s t n hd.1 hs.1 ht.1 h.out]
  all_goals first
    | rfl
    | exact (decide_eq_false (by omega)).symm
    | exact (decide_eq_true (by omega)).symm
    | (rw [Bool.eq_iff_iff]; simp only [Bool.and_eq_true, decide_eq_true_iff, beq_iff_eq, bne_iff_ne, Bool.not_eq_true', decide_eq_false_iff_not]; omega)
theorem rk11 {o : Int} (h : o = 37) : rk o = 11 := by
  unfold rk
  rw [if_neg (show ¬ Ka o by unfold Ka; omega), if_neg (show ¬ Kb o by unfold Kb; omega)]
  repeat (first | rw [if_pos (by omega)] | rw [if_neg (by omega)])
set_option maxHeartbeats 4000000 in
set_option maxRecDepth 100000 in
theorem rmay11_t (o d s t n : Int) (w : World) (ho : 0 ≤ o ∧ o ≤ 255) (hd : 0 ≤ d ∧ d ≤ 255) (hs : 0 ≤ s ∧ s ≤ 255) (ht : 0 ≤ t ∧ t ≤ 255) (h : Hid (o = 37)) :
    Calls Tryz.prog 156 #[.agg #[.int .u8 o, .int .u8 d, .int .u8 s, .int .u8 t, .bool true, .int .i32 n]] w fun e w' => e = .returned (.bool (may o d s t true n)) ∧ Grown w w' := by
  have hk : Hid (rk o = 11) := rk11 h.out
  go_enter Tryz.func156, Tryz.ntmps156
  go_wp2_with (first
    | (go_at_call 135; refine (rkind_is o 11 _ ho hk.out).mono ?_; rintro e w1 ⟨rfl, rfl⟩)
    | (go_at_call 229; refine (rbetween _ _ _ _ _ rfl).mono ?_; rintro e w1 ⟨rfl, rfl⟩))
  all_goals (go_ret; refine ⟨ret_b ?_, (Grown.refl _).alloc _ _⟩)
  all_goals (try simp only [bne_iff_ne, ne_eq, bne_eq_false_iff_eq, beq_iff_eq, beq_eq_false_iff_ne] at *)
  all_goals rw [may11_t o d s t n hd.1 hs.1 ht.1 h.out]
  all_goals first
    | rfl
    | exact (decide_eq_false (by omega)).symm
    | exact (decide_eq_true (by omega)).symm
    | (rw [Bool.eq_iff_iff]; simp only [Bool.and_eq_true, decide_eq_true_iff, beq_iff_eq, bne_iff_ne, Bool.not_eq_true', decide_eq_false_iff_not]; omega)
set_option maxHeartbeats 4000000 in
set_option maxRecDepth 100000 in
theorem rmay11_f (o d s t n : Int) (w : World) (ho : 0 ≤ o ∧ o ≤ 255) (hd : 0 ≤ d ∧ d ≤ 255) (hs : 0 ≤ s ∧ s ≤ 255) (ht : 0 ≤ t ∧ t ≤ 255) (h : Hid (o = 37)) :
    Calls Tryz.prog 156 #[.agg #[.int .u8 o, .int .u8 d, .int .u8 s, .int .u8 t, .bool false, .int .i32 n]] w fun e w' => e = .returned (.bool (may o d s t false n)) ∧ Grown w w' := by
  have hk : Hid (rk o = 11) := rk11 h.out
  go_enter Tryz.func156, Tryz.ntmps156
  go_wp2_with (first
    | (go_at_call 135; refine (rkind_is o 11 _ ho hk.out).mono ?_; rintro e w1 ⟨rfl, rfl⟩)
    | (go_at_call 229; refine (rbetween _ _ _ _ _ rfl).mono ?_; rintro e w1 ⟨rfl, rfl⟩))
  all_goals (go_ret; refine ⟨ret_b ?_, (Grown.refl _).alloc _ _⟩)
  all_goals (try simp only [bne_iff_ne, ne_eq, bne_eq_false_iff_eq, beq_iff_eq, beq_eq_false_iff_ne] at *)
  all_goals rw [may11_f o d s t n hd.1 hs.1 ht.1 h.out]
  all_goals first
    | rfl
    | exact (decide_eq_false (by omega)).symm
    | exact (decide_eq_true (by omega)).symm
    | (rw [Bool.eq_iff_iff]; simp only [Bool.and_eq_true, decide_eq_true_iff, beq_iff_eq, bne_iff_ne, Bool.not_eq_true', decide_eq_false_iff_not]; omega)
theorem rk12 {o : Int} (h : o = 32) : rk o = 12 := by
  unfold rk
  rw [if_neg (show ¬ Ka o by unfold Ka; omega), if_neg (show ¬ Kb o by unfold Kb; omega)]
  repeat (first | rw [if_pos (by omega)] | rw [if_neg (by omega)])
set_option maxHeartbeats 4000000 in
set_option maxRecDepth 100000 in
theorem rmay12_t (o d s t n : Int) (w : World) (ho : 0 ≤ o ∧ o ≤ 255) (hd : 0 ≤ d ∧ d ≤ 255) (hs : 0 ≤ s ∧ s ≤ 255) (ht : 0 ≤ t ∧ t ≤ 255) (h : Hid (o = 32)) :
    Calls Tryz.prog 156 #[.agg #[.int .u8 o, .int .u8 d, .int .u8 s, .int .u8 t, .bool true, .int .i32 n]] w fun e w' => e = .returned (.bool (may o d s t true n)) ∧ Grown w w' := by
  have hk : Hid (rk o = 12) := rk12 h.out
  go_enter Tryz.func156, Tryz.ntmps156
  go_wp2_with (first
    | (go_at_call 135; refine (rkind_is o 12 _ ho hk.out).mono ?_; rintro e w1 ⟨rfl, rfl⟩)
    | (go_at_call 229; refine (rbetween _ _ _ _ _ rfl).mono ?_; rintro e w1 ⟨rfl, rfl⟩))
  all_goals (go_ret; refine ⟨ret_b ?_, (Grown.refl _).alloc _ _⟩)
  all_goals (try simp only [bne_iff_ne, ne_eq, bne_eq_false_iff_eq, beq_iff_eq, beq_eq_false_iff_ne] at *)
  all_goals rw [may12_t o d s t n hd.1 hs.1 ht.1 h.out]
  all_goals first
    | rfl
    | exact (decide_eq_false (by omega)).symm
    | exact (decide_eq_true (by omega)).symm
    | (rw [Bool.eq_iff_iff]; simp only [Bool.and_eq_true, decide_eq_true_iff, beq_iff_eq, bne_iff_ne, Bool.not_eq_true', decide_eq_false_iff_not]; omega)
set_option maxHeartbeats 4000000 in
set_option maxRecDepth 100000 in
theorem rmay12_f (o d s t n : Int) (w : World) (ho : 0 ≤ o ∧ o ≤ 255) (hd : 0 ≤ d ∧ d ≤ 255) (hs : 0 ≤ s ∧ s ≤ 255) (ht : 0 ≤ t ∧ t ≤ 255) (h : Hid (o = 32)) :
    Calls Tryz.prog 156 #[.agg #[.int .u8 o, .int .u8 d, .int .u8 s, .int .u8 t, .bool false, .int .i32 n]] w fun e w' => e = .returned (.bool (may o d s t false n)) ∧ Grown w w' := by
  have hk : Hid (rk o = 12) := rk12 h.out
  go_enter Tryz.func156, Tryz.ntmps156
  go_wp2_with (first
    | (go_at_call 135; refine (rkind_is o 12 _ ho hk.out).mono ?_; rintro e w1 ⟨rfl, rfl⟩)
    | (go_at_call 229; refine (rbetween _ _ _ _ _ rfl).mono ?_; rintro e w1 ⟨rfl, rfl⟩))
  all_goals (go_ret; refine ⟨ret_b ?_, (Grown.refl _).alloc _ _⟩)
  all_goals (try simp only [bne_iff_ne, ne_eq, bne_eq_false_iff_eq, beq_iff_eq, beq_eq_false_iff_ne] at *)
  all_goals rw [may12_f o d s t n hd.1 hs.1 ht.1 h.out]
  all_goals first
    | rfl
    | exact (decide_eq_false (by omega)).symm
    | exact (decide_eq_true (by omega)).symm
    | (rw [Bool.eq_iff_iff]; simp only [Bool.and_eq_true, decide_eq_true_iff, beq_iff_eq, bne_iff_ne, Bool.not_eq_true', decide_eq_false_iff_not]; omega)
theorem rk0 {o : Int} (h : o < 1 ∨ 37 < o) : rk o = 0 := by
  unfold rk
  rw [if_neg (show ¬ Ka o by unfold Ka; omega), if_neg (show ¬ Kb o by unfold Kb; omega)]
  repeat (first | rw [if_pos (by omega)] | rw [if_neg (by omega)])
set_option maxHeartbeats 4000000 in
set_option maxRecDepth 100000 in
theorem rmay0_t (o d s t n : Int) (w : World) (ho : 0 ≤ o ∧ o ≤ 255) (hd : 0 ≤ d ∧ d ≤ 255) (hs : 0 ≤ s ∧ s ≤ 255) (ht : 0 ≤ t ∧ t ≤ 255) (h : Hid (o < 1 ∨ 37 < o)) :
    Calls Tryz.prog 156 #[.agg #[.int .u8 o, .int .u8 d, .int .u8 s, .int .u8 t, .bool true, .int .i32 n]] w fun e w' => e = .returned (.bool (may o d s t true n)) ∧ Grown w w' := by
  have hk : Hid (rk o = 0) := rk0 h.out
  go_enter Tryz.func156, Tryz.ntmps156
  go_wp2_with (first
    | (go_at_call 135; refine (rkind_is o 0 _ ho hk.out).mono ?_; rintro e w1 ⟨rfl, rfl⟩)
    | (go_at_call 229; refine (rbetween _ _ _ _ _ rfl).mono ?_; rintro e w1 ⟨rfl, rfl⟩))
  all_goals (go_ret; refine ⟨ret_b ?_, (Grown.refl _).alloc _ _⟩)
  all_goals (try simp only [bne_iff_ne, ne_eq, bne_eq_false_iff_eq, beq_iff_eq, beq_eq_false_iff_ne] at *)
  all_goals rw [may0_t o d s t n hd.1 hs.1 ht.1 h.out]
  all_goals first
    | rfl
    | exact (decide_eq_false (by omega)).symm
    | exact (decide_eq_true (by omega)).symm
    | (rw [Bool.eq_iff_iff]; simp only [Bool.and_eq_true, decide_eq_true_iff, beq_iff_eq, bne_iff_ne, Bool.not_eq_true', decide_eq_false_iff_not]; omega)
set_option maxHeartbeats 4000000 in
set_option maxRecDepth 100000 in
theorem rmay0_f (o d s t n : Int) (w : World) (ho : 0 ≤ o ∧ o ≤ 255) (hd : 0 ≤ d ∧ d ≤ 255) (hs : 0 ≤ s ∧ s ≤ 255) (ht : 0 ≤ t ∧ t ≤ 255) (h : Hid (o < 1 ∨ 37 < o)) :
    Calls Tryz.prog 156 #[.agg #[.int .u8 o, .int .u8 d, .int .u8 s, .int .u8 t, .bool false, .int .i32 n]] w fun e w' => e = .returned (.bool (may o d s t false n)) ∧ Grown w w' := by
  have hk : Hid (rk o = 0) := rk0 h.out
  go_enter Tryz.func156, Tryz.ntmps156
  go_wp2_with (first
    | (go_at_call 135; refine (rkind_is o 0 _ ho hk.out).mono ?_; rintro e w1 ⟨rfl, rfl⟩)
    | (go_at_call 229; refine (rbetween _ _ _ _ _ rfl).mono ?_; rintro e w1 ⟨rfl, rfl⟩))
  all_goals (go_ret; refine ⟨ret_b ?_, (Grown.refl _).alloc _ _⟩)
  all_goals (try simp only [bne_iff_ne, ne_eq, bne_eq_false_iff_eq, beq_iff_eq, beq_eq_false_iff_ne] at *)
  all_goals rw [may0_f o d s t n hd.1 hs.1 ht.1 h.out]
  all_goals first
    | rfl
    | exact (decide_eq_false (by omega)).symm
    | exact (decide_eq_true (by omega)).symm
    | (rw [Bool.eq_iff_iff]; simp only [Bool.and_eq_true, decide_eq_true_iff, beq_iff_eq, bne_iff_ne, Bool.not_eq_true', decide_eq_false_iff_not]; omega)
end Go.Proofs.YtiobgnelhiadbaaGreatDoor.I2
