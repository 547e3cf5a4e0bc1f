/- What the document's answers of layer 2 (package muntinref02) come to, for any arguments. What the document's May comes to, class by class of Ops. -/
import Derived.Test.YtiobgnelhiadbaaGreatDoorVBaseG
import Derived.Test.YtiobgnelhiadbaaGreatDoorVInstG
import Derived.WalkSpells
import Derived.WalkLawsBesides
import Derived.Handy
namespace Go.Proofs.YtiobgnelhiadbaaGreatDoor.I2
open Go.RowKit
set_option linter.unusedVariables false
theorem ret_b {a b : Bool} (h : a = b) : Ending.returned (.bool a) = .returned (.bool b) := by rw [h]
theorem rbetween_in (n l h : Int) (w : World) (h1 : l ≤ n) (h2 : n ≤ h) :
    Calls Tryz.prog 229 #[.int .i32 n, .int .i32 l, .int .i32 h] w fun e w' => e = .returned (.bool true) ∧ w = w' := by
  go_enter Tryz.func229, Tryz.ntmps229
  go_wp2
  go_ret
  exact ⟨rfl, rfl⟩
theorem rbetween_out (n l h : Int) (w : World) (h1 : n < l ∨ h < n) :
    Calls Tryz.prog 229 #[.int .i32 n, .int .i32 l, .int .i32 h] w fun e w' => e = .returned (.bool false) ∧ w = w' := by
  rcases h1 with h1 | h1
  all_goals
    go_enter Tryz.func229, Tryz.ntmps229
    go_wp2
    all_goals (go_ret; exact ⟨ret_b (by simp <;> omega), rfl⟩)
theorem rbetween (n l h : Int) (x : Bool) (w : World) (hx : decide (l ≤ n ∧ n ≤ h) = x) :
    Calls Tryz.prog 229 #[.int .i32 n, .int .i32 l, .int .i32 h] w fun e w' => e = .returned (.bool x) ∧ w = w' := by
  by_cases hh : l ≤ n ∧ n ≤ h
  · rw [← hx, decide_eq_true hh]; exact rbetween_in n l h w hh.1 hh.2
  · rw [← hx, decide_eq_false hh]; exact rbetween_out n l h w (by omega)
theorem ret_i {k : IntKind} {a b : Int} (h : a = b) : Ending.returned (.int k a) = .returned (.int k b) := by rw [h]
theorem rlow21 (n : Int) (w : World) (hn : -2147483648 ≤ n ∧ n ≤ 2147483647) :
    Calls Tryz.prog 157 #[.int .i32 n, .int .i64 2097152] w fun e w' => e = .returned (.int .u32 (n % 2097152)) ∧ w = w' := by
  have q := Int.mul_tdiv_add_tmod n 2097152
  have b1 : -2097152 < n.tmod 2097152 := Int.lt_tmod_of_pos n (by decide)
  have b2 : n.tmod 2097152 < 2097152 := Int.tmod_lt_of_pos n (by decide)
  have Q : Hid (2097152 * n.tdiv 2097152 + n.tmod 2097152 = n) := q
  clear q
  go_enter Tryz.func157, Tryz.ntmps157
  go_wp2
  all_goals (go_ret; have q := Q.out; exact ⟨ret_i (by omega), rfl⟩)
theorem rlow15 (n : Int) (w : World) (hn : -2147483648 ≤ n ∧ n ≤ 2147483647) :
    Calls Tryz.prog 157 #[.int .i32 n, .int .i64 32768] w fun e w' => e = .returned (.int .u32 (n % 32768)) ∧ w = w' := by
  have q := Int.mul_tdiv_add_tmod n 32768
  have b1 : -32768 < n.tmod 32768 := Int.lt_tmod_of_pos n (by decide)
  have b2 : n.tmod 32768 < 32768 := Int.tmod_lt_of_pos n (by decide)
  have Q : Hid (32768 * n.tdiv 32768 + n.tmod 32768 = n) := q
  clear q
  go_enter Tryz.func157, Tryz.ntmps157
  go_wp2
  all_goals (go_ret; have q := Q.out; exact ⟨ret_i (by omega), rfl⟩)
/-! Kind. -/
def rk (o : Int) : Int :=
  if Ka o then 1 else if Kb o then 2 else if o = 15 then 3 else if o = 17 then 4 else if o = 18 then 5 else if o = 26 ∨ o = 28 ∨ o = 34 then 6 else if o = 30 then 7
  else if o = 31 then 8 else if o = 33 then 9 else if o = 35 ∨ o = 36 then 10 else if o = 37 then 11 else if o = 32 then 12 else 0
set_option maxHeartbeats 1000000 in
theorem rkind_any (o : Int) (w : World) (ho : 0 ≤ o ∧ o ≤ 255) :
    Calls Tryz.prog 135 #[.int .u8 o] w fun e w' => e = .returned (.int .i64 (rk o)) ∧ w = w' := by
  by_cases hb : 38 ≤ o
  · have e : rk o = 0 := by
      unfold rk
      rw [if_neg (show ¬ Ka o by unfold Ka; omega), if_neg (show ¬ Kb o by unfold Kb; omega)]
      repeat rw [if_neg (by omega)]
    rw [e]
    have b16 : (o == 16) = false := by simp; omega
    have b27 : (o == 27) = false := by simp; omega
    have b29 : (o == 29) = false := by simp; omega
    have b15 : (o == 15) = false := by simp; omega
    have b17 : (o == 17) = false := by simp; omega
    have b18 : (o == 18) = false := by simp; omega
    have b26 : (o == 26) = false := by simp; omega
    have b28 : (o == 28) = false := by simp; omega
    have b34 : (o == 34) = false := by simp; omega
    have b30 : (o == 30) = false := by simp; omega
    have b31 : (o == 31) = false := by simp; omega
    have b33 : (o == 33) = false := by simp; omega
    have b35 : (o == 35) = false := by simp; omega
    have b36 : (o == 36) = false := by simp; omega
    have b37 : (o == 37) = false := by simp; omega
    have b32 : (o == 32) = false := by simp; omega
    clear e
    go_enter Tryz.func135, Tryz.ntmps135
    go_wp2
    go_ret
    exact ⟨rfl, rfl⟩
  · have h : o = 0 ∨ o = 1 ∨ o = 2 ∨ o = 3 ∨ o = 4 ∨ o = 5 ∨ o = 6 ∨ o = 7 ∨ o = 8 ∨ o = 9 ∨ o = 10 ∨ o = 11 ∨ o = 12 ∨ o = 13 ∨ o = 14 ∨ o = 15 ∨ o = 16 ∨ o = 17 ∨ o = 18 ∨ o = 19 ∨ o = 20 ∨ o = 21 ∨ o = 22 ∨ o = 23 ∨ o = 24 ∨ o = 25 ∨ o = 26 ∨ o = 27 ∨ o = 28 ∨ o = 29 ∨ o = 30 ∨ o = 31 ∨ o = 32 ∨ o = 33 ∨ o = 34 ∨ o = 35 ∨ o = 36 ∨ o = 37 := by omega
    clear hb ho
    rcases h with rfl | rfl | rfl | rfl | rfl | rfl | rfl | rfl | rfl | rfl | rfl | rfl | rfl | rfl | rfl | rfl | rfl | rfl | rfl | rfl | rfl | rfl | rfl | rfl | rfl | rfl | rfl | rfl | rfl | rfl | rfl | rfl | rfl | rfl | rfl | rfl | rfl | rfl
    all_goals
      go_enter Tryz.func135, Tryz.ntmps135
      go_wp2
      go_ret
      exact ⟨rfl, rfl⟩
theorem rkind_is (o k : Int) (w : World) (ho : 0 ≤ o ∧ o ≤ 255) (hk : rk o = k) :
    Calls Tryz.prog 135 #[.int .u8 o] w fun e w' => e = .returned (.int .i64 k) ∧ w = w' := by
  subst hk; exact rkind_any o w ho
end Go.Proofs.YtiobgnelhiadbaaGreatDoor.I2
namespace Go.Proofs.YtiobgnelhiadbaaGreatDoor.I2
open Go.RowKit
set_option linter.unusedVariables false
set_option linter.unusedSimpArgs false
theorem rkKa {o : Int} (h : Ka o) : rk o = 1 := by
  unfold rk
  rw [if_pos h]
set_option maxHeartbeats 4000000 in
set_option maxRecDepth 100000 in
theorem rmayKa_t (o d s t n : Int) (w : World) (ho : 0 ≤ o ∧ o ≤ 255) (hd : 0 ≤ d ∧ d ≤ 255) (hs : 0 ≤ s ∧ s ≤ 255) (ht : 0 ≤ t ∧ t ≤ 255) (h : Hid (Ka o)) :
    Calls Tryz.prog 156 #[.agg #[.int .u8 o, .int .u8 d, .int .u8 s, .int .u8 t, .bool true, .int .i32 n]] w fun e w' => e = .returned (.bool (may o d s t true n)) ∧ Grown w w' := by
  have hk : Hid (rk o = 1) := rkKa h.out
  go_enter Tryz.func156, Tryz.ntmps156
  go_wp2_with (first
    | (go_at_call 135; refine (rkind_is o 1 _ ho hk.out).mono ?_; rintro e w1 ⟨rfl, rfl⟩)
    | (go_at_call 229; refine (rbetween _ _ _ _ _ rfl).mono ?_; rintro e w1 ⟨rfl, rfl⟩))
  all_goals (go_ret; refine ⟨ret_b ?_, (Grown.refl _).alloc _ _⟩)
  all_goals (try simp only [bne_iff_ne, ne_eq, bne_eq_false_iff_eq, beq_iff_eq, beq_eq_false_iff_ne] at *)
  all_goals rw [mayKa_t o d s t n hd.1 hs.1 ht.1 h.out]
  all_goals first
    | rfl
    | exact (decide_eq_false (by omega)).symm
    | exact (decide_eq_true (by omega)).symm
    | (rw [Bool.eq_iff_iff]; simp only [Bool.and_eq_true, decide_eq_true_iff, beq_iff_eq, bne_iff_ne, Bool.not_eq_true', decide_eq_false_iff_not]; omega)
set_option maxHeartbeats 4000000 in
set_option maxRecDepth 100000 in
theorem rmayKa_f (o d s t n : Int) (w : World) (ho : 0 ≤ o ∧ o ≤ 255) (hd : 0 ≤ d ∧ d ≤ 255) (hs : 0 ≤ s ∧ s ≤ 255) (ht : 0 ≤ t ∧ t ≤ 255) (h : Hid (Ka o)) :
    Calls Tryz.prog 156 #[.agg #[.int .u8 o, .int .u8 d, .int .u8 s, .int .u8 t, .bool false, .int .i32 n]] w fun e w' => e = .returned (.bool (may o d s t false n)) ∧ Grown w w' := by
  have hk : Hid (rk o = 1) := rkKa h.out
  go_enter Tryz.func156, Tryz.ntmps156
  go_wp2_with (first
    | (go_at_call 135; refine (rkind_is o 1 _ ho hk.out).mono ?_; rintro e w1 ⟨rfl, rfl⟩)
    | (go_at_call 229; refine (rbetween _ _ _ _ _ rfl).mono ?_; rintro e w1 ⟨rfl, rfl⟩))
  all_goals (go_ret; refine ⟨ret_b ?_, (Grown.refl _).alloc _ _⟩)
  all_goals (try simp only [bne_iff_ne, ne_eq, bne_eq_false_iff_eq, beq_iff_eq, beq_eq_false_iff_ne] at *)
  all_goals rw [mayKa_f o d s t n hd.1 hs.1 ht.1 h.out]
  all_goals first
    | rfl
    | exact (decide_eq_false (by omega)).symm
    | exact (decide_eq_true (by omega)).symm
    | (rw [Bool.eq_iff_iff]; simp only [Bool.and_eq_true, decide_eq_true_iff, beq_iff_eq, bne_iff_ne, Bool.not_eq_true', decide_eq_false_iff_not]; omega)
theorem rkKb {o : Int} (h : Kb o) : rk o = 2 := by
  unfold rk
  rw [if_neg (show ¬ Ka o by unfold Kb at h; unfold Ka; omega), if_pos h]
set_option maxHeartbeats 4000000 in
set_option maxRecDepth 100000 in
theorem rmayKb_t (o d s t n : Int) (w : World) (ho : 0 ≤ o ∧ o ≤ 255) (hd : 0 ≤ d ∧ d ≤ 255) (hs : 0 ≤ s ∧ s ≤ 255) (ht : 0 ≤ t ∧ t ≤ 255) (h : Hid (Kb o)) :
    Calls Tryz.prog 156 #[.agg #[.int .u8 o, .int .u8 d, .int .u8 s, .int .u8 t, .bool true, .int .i32 n]] w fun e w' => e = .returned (.bool (may o d s t true n)) ∧ Grown w w' := by
  have hk : Hid (rk o = 2) := rkKb h.out
  go_enter Tryz.func156, Tryz.ntmps156
  go_wp2_with (first
    | (go_at_call 135; refine (rkind_is o 2 _ ho hk.out).mono ?_; rintro e w1 ⟨rfl, rfl⟩)
    | (go_at_call 229; refine (rbetween _ _ _ _ _ rfl).mono ?_; rintro e w1 ⟨rfl, rfl⟩))
  all_goals (go_ret; refine ⟨ret_b ?_, (Grown.refl _).alloc _ _⟩)
  all_goals (try simp only [bne_iff_ne, ne_eq, bne_eq_false_iff_eq, beq_iff_eq, beq_eq_false_iff_ne] at *)
  all_goals rw [mayKb_t o d s t n hd.1 hs.1 ht.1 h.out]
  all_goals first
    | rfl
    | exact (decide_eq_false (by omega)).symm
    | exact (decide_eq_true (by omega)).symm
    | (rw [Bool.eq_iff_iff]; simp only [Bool.and_eq_true, decide_eq_true_iff, beq_iff_eq, bne_iff_ne, Bool.not_eq_true', decide_eq_false_iff_not]; omega)
set_option maxHeartbeats 4000000 in
set_option maxRecDepth 100000 in
theorem rmayKb_f (o d s t n : Int) (w : World) (ho : 0 ≤ o ∧ o ≤ 255) (hd : 0 ≤ d ∧ d ≤ 255) (hs : 0 ≤ s ∧ s ≤ 255) (ht : 0 ≤ t ∧ t ≤ 255) (h : Hid (Kb o)) :
    Calls Tryz.prog 156 #[.agg #[.int .u8 o, .int .u8 d, .int .u8 s, .int .u8 t, .bool false, .int .i32 n]] w fun e w' => e = .returned (.bool (may o d s t false n)) ∧ Grown w w' := by
  have hk : Hid (rk o = 2) := rkKb h.out
  go_enter Tryz.func156, Tryz.ntmps156
  go_wp2_with (first
    | (go_at_call 135; refine (rkind_is o 2 _ ho hk.out).mono ?_; rintro e w1 ⟨rfl, rfl⟩)
    | (go_at_call 229; refine (rbetween _ _ _ _ _ rfl).mono ?_; rintro e w1 ⟨rfl, rfl⟩))
  all_goals (go_ret; refine ⟨ret_b ?_, (Grown.refl _).alloc _ _⟩)
  all_goals (try simp only [bne_iff_ne, ne_eq, bne_eq_false_iff_eq, beq_iff_eq, beq_eq_false_iff_ne] at *)
  all_goals rw [mayKb_f o d s t n hd.1 hs.1 ht.1 h.out]
  all_goals first
    | rfl
    | exact (decide_eq_false (by omega)).symm
    | exact (decide_eq_true (by omega)).symm
    | (rw [Bool.eq_iff_iff]; simp only [Bool.and_eq_true, decide_eq_true_iff, beq_iff_eq, bne_iff_ne, Bool.not_eq_true', decide_eq_false_iff_not]; omega)
theorem rk3 {o : Int} (h : o = 15) : rk o = 3 := by
  unfold rk
  rw [if_neg (show ¬ Ka o by unfold Ka; omega), if_neg (show ¬ Kb o by unfold Kb; omega)]
  repeat (first | rw [if_pos (by omega)] | rw [if_neg (by omega)])
set_option maxHeartbeats 4000000 in
set_option maxRecDepth 100000 in
theorem rmay3_t (o d s t n : Int) (w : World) (ho : 0 ≤ o ∧ o ≤ 255) (hd : 0 ≤ d ∧ d ≤ 255) (hs : 0 ≤ s ∧ s ≤ 255) (ht : 0 ≤ t ∧ t ≤ 255) (h : Hid (o = 15)) :
    Calls Tryz.prog 156 #[.agg #[.int .u8 o, .int .u8 d, .int .u8 s, .int .u8 t, .bool true, .int .i32 n]] w fun e w' => e = .returned (.bool (may o d s t true n)) ∧ Grown w w' := by
  have hk : Hid (rk o = 3) := rk3 h.out
  go_enter Tryz.func156, Tryz.ntmps156
  go_wp2_with (first
    | (go_at_call 135; refine (rkind_is o 3 _ ho hk.out).mono ?_; rintro e w1 ⟨rfl, rfl⟩)
    | (go_at_call 229; refine (rbetween _ _ _ _ _ rfl).mono ?_; rintro e w1 ⟨rfl, rfl⟩))
  all_goals (go_ret; refine ⟨ret_b ?_, (Grown.refl _).alloc _ _⟩)
  all_goals (try simp only [bne_iff_ne, ne_eq, bne_eq_false_iff_eq, beq_iff_eq, beq_eq_false_iff_ne] at *)
  all_goals rw [may3_t o d s t n hd.1 hs.1 ht.1 h.out]
  all_goals first
    | rfl
    | exact (decide_eq_false (by omega)).symm
    | exact (decide_eq_true (by omega)).symm
    | (rw [Bool.eq_iff_iff]; simp only [Bool.and_eq_true, decide_eq_true_iff, beq_iff_eq, bne_iff_ne, Bool.not_eq_true', decide_eq_false_iff_not]; omega)
set_option maxHeartbeats 4000000 in
set_option maxRecDepth 100000 in
theorem rmay3_f (o d s t n : Int) (w : World) (ho : 0 ≤ o ∧ o ≤ 255) (hd : 0 ≤ d ∧ d ≤ 255) (hs : 0 ≤ s ∧ s ≤ 255) (ht : 0 ≤ t ∧ t ≤ 255) (h : Hid (o = 15)) :
    Calls Tryz.prog 156 #[.agg #[.int .u8 o, .int .u8 d, .int .u8 s, .int .u8 t, .bool false, .int .i32 n]] w fun e w' => e = .returned (.bool (may o d s t false n)) ∧ Grown w w' := by
  have hk : Hid (rk o = 3) := rk3 h.out
  go_enter Tryz.func156, Tryz.ntmps156
  go_wp2_with (first
    | (go_at_call 135; refine (rkind_is o 3 _ ho hk.out).mono ?_; rintro e w1 ⟨rfl, rfl⟩)
    | (go_at_call 229; refine (rbetween _ _ _ _ _ rfl).mono ?_; rintro e w1 ⟨rfl, rfl⟩))
  all_goals (go_ret; refine ⟨ret_b ?_, (Grown.refl _).alloc _ _⟩)
  all_goals (try simp only [bne_iff_ne, ne_eq, bne_eq_false_iff_eq, beq_iff_eq, beq_eq_false_iff_ne] at *)
  all_goals rw [may3_f o d s t n hd.1 hs.1 ht.1 h.out]
  all_goals first
    | rfl
    | exact (decide_eq_false (by omega)).symm
    | exact (decide_eq_true (by omega)).symm
    | (rw [Bool.eq_iff_iff]; simp only [Bool.and_eq_true, decide_eq_true_iff, beq_iff_eq, bne_iff_ne, Bool.not_eq_true', decide_eq_false_iff_not]; omega)
end Go.Proofs.YtiobgnelhiadbaaGreatDoor.I2
