/- What the document's May comes to, whatever the instruction. What the document's Encode comes to, for any instruction. -/
import Derived.Test.YtiobgnelhiadbaaGreatDoorVInstGMa
import Derived.Test.YtiobgnelhiadbaaGreatDoorVInstGMb
import Derived.Test.YtiobgnelhiadbaaGreatDoorVInstGMc
import Derived.Test.YtiobgnelhiadbaaGreatDoorVInstGMd
namespace Go.Proofs.YtiobgnelhiadbaaGreatDoor.I2
open Go.RowKit
/-- What May comes to, whatever the instruction. -/
theorem rmay_any (o d s t : Int) (b : Bool) (n : Int) (w : World) (ho : 0 ≤ o ∧ o ≤ 255) (hd : 0 ≤ d ∧ d ≤ 255) (hs : 0 ≤ s ∧ s ≤ 255) (ht : 0 ≤ t ∧ t ≤ 255) :
    Calls Tryz.prog 156 #[.agg #[.int .u8 o, .int .u8 d, .int .u8 s, .int .u8 t, .bool b, .int .i32 n]] w fun e w' => e = .returned (.bool (may o d s t b n)) ∧ Grown w w' := by
  rcases kinds o with h | h | h | h | h | h | h | h | h | h | h | h | h
  · cases b
    · exact rmayKa_f o d s t n w ho hd hs ht h
    · exact rmayKa_t o d s t n w ho hd hs ht h
  · cases b
    · exact rmayKb_f o d s t n w ho hd hs ht h
    · exact rmayKb_t o d s t n w ho hd hs ht h
  · cases b
    · exact rmay3_f o d s t n w ho hd hs ht h
    · exact rmay3_t o d s t n w ho hd hs ht h
  · cases b
    · exact rmay4_f o d s t n w ho hd hs ht h
    · exact rmay4_t o d s t n w ho hd hs ht h
  · cases b
    · exact rmay5_f o d s t n w ho hd hs ht h
    · exact rmay5_t o d s t n w ho hd hs ht h
  · cases b
    · exact rmay6_f o d s t n w ho hd hs ht h
    · exact rmay6_t o d s t n w ho hd hs ht h
  · cases b
    · exact rmay7_f o d s t n w ho hd hs ht h
    · exact rmay7_t o d s t n w ho hd hs ht h
  · cases b
    · exact rmay8_f o d s t n w ho hd hs ht h
    · exact rmay8_t o d s t n w ho hd hs ht h
  · cases b
    · exact rmay9_f o d s t n w ho hd hs ht h
    · exact rmay9_t o d s t n w ho hd hs ht h
  · cases b
    · exact rmay10_f o d s t n w ho hd hs ht h
    · exact rmay10_t o d s t n w ho hd hs ht h
  · cases b
    · exact rmay11_f o d s t n w ho hd hs ht h
    · exact rmay11_t o d s t n w ho hd hs ht h
  · cases b
    · exact rmay12_f o d s t n w ho hd hs ht h
    · exact rmay12_t o d s t n w ho hd hs ht h
  · cases b
    · exact rmay0_f o d s t n w ho hd hs ht h
    · exact rmay0_t o d s t n w ho hd hs ht h
end Go.Proofs.YtiobgnelhiadbaaGreatDoor.I2
namespace Go.Proofs.YtiobgnelhiadbaaGreatDoor.I2
open Go.RowKit
set_option linter.unusedVariables false
theorem rinst_cells {w W : World} {o d s t : Int} {b : Bool} {n : Int} (g : Grown (w.alloc (.cells #[.int .u8 o, .int .u8 d, .int .u8 s, .int .u8 t, .bool b, .int .i32 n] 88)) W) :
    W.cell? ⟨w.heap.size, 0, none⟩ = some (.int .u8 o) ∧ W.cell? ⟨w.heap.size, 1, none⟩ = some (.int .u8 d) ∧ W.cell? ⟨w.heap.size, 2, none⟩ = some (.int .u8 s) ∧ W.cell? ⟨w.heap.size, 3, none⟩ = some (.int .u8 t) ∧ W.cell? ⟨w.heap.size, 4, none⟩ = some (.bool b) ∧ W.cell? ⟨w.heap.size, 5, none⟩ = some (.int .i32 n) ∧ w.heap.size < W.heap.size :=
  ⟨cell_new_grown g rfl, cell_new_grown g rfl, cell_new_grown g rfl, cell_new_grown g rfl, cell_new_grown g rfl, cell_new_grown g rfl, block_lt_of_cell (a := ⟨w.heap.size, 0, none⟩) (cell_new_grown g rfl)⟩
theorem rmay_is (o d s t : Int) (b : Bool) (n : Int) (x : Bool) (w : World) (ho : 0 ≤ o ∧ o ≤ 255) (hd : 0 ≤ d ∧ d ≤ 255) (hs : 0 ≤ s ∧ s ≤ 255) (ht : 0 ≤ t ∧ t ≤ 255) (h : may o d s t b n = x) :
    Calls Tryz.prog 156 #[.agg #[.int .u8 o, .int .u8 d, .int .u8 s, .int .u8 t, .bool b, .int .i32 n]] w fun e w' => e = .returned (.bool x) ∧ Grown w w' := by
  subst h; exact rmay_any o d s t b n w ho hd hs ht
theorem rk_wd (o : Int) : (Wd o ∧ 3 ≤ rk o ∧ rk o ≤ 5) ∨ (¬ Wd o ∧ rk o < 3) ∨ (¬ Wd o ∧ 5 < rk o) := by
  rcases kinds o with h | h | h | h | h | h | h | h | h | h | h | h | h
  · right; left; refine ⟨by unfold Ka at h; unfold Wd; omega, by rw [rkKa h]; decide⟩
  · right; left; refine ⟨by unfold Kb at h; unfold Wd; omega, by rw [rkKb h]; decide⟩
  · left; refine ⟨by unfold Wd; omega, by rw [rk3 h]; decide, by rw [rk3 h]; decide⟩
  · left; refine ⟨by unfold Wd; omega, by rw [rk4 h]; decide, by rw [rk4 h]; decide⟩
  · left; refine ⟨by unfold Wd; omega, by rw [rk5 h]; decide, by rw [rk5 h]; decide⟩
  · right; right; refine ⟨by unfold Wd; omega, by rw [rk6 h]; decide⟩
  · right; right; refine ⟨by unfold Wd; omega, by rw [rk7 h]; decide⟩
  · right; right; refine ⟨by unfold Wd; omega, by rw [rk8 h]; decide⟩
  · right; right; refine ⟨by unfold Wd; omega, by rw [rk9 h]; decide⟩
  · right; right; refine ⟨by unfold Wd; omega, by rw [rk10 h]; decide⟩
  · right; right; refine ⟨by unfold Wd; omega, by rw [rk11 h]; decide⟩
  · right; right; refine ⟨by unfold Wd; omega, by rw [rk12 h]; decide⟩
  · right; left; refine ⟨by unfold Wd; omega, by rw [rk0 h]; decide⟩
theorem rmay_small {o d s t : Int} {b : Bool} {n : Int} (ho : 0 ≤ o ∧ o ≤ 255) (hd : 0 ≤ d ∧ d ≤ 255) (hs : 0 ≤ s ∧ s ≤ 255) (ht : 0 ≤ t ∧ t ≤ 255) (h : may o d s t b n = true) : (0 ≤ o ∧ o ≤ 63) ∧ (0 ≤ d ∧ d ≤ 31) ∧ (0 ≤ s ∧ s ≤ 31) ∧ (0 ≤ t ∧ t ≤ 31) := by
  cases b
  · have h' : MayF o d s t n := of_decide_eq_true h
    unfold MayF Ka Kb at h'
    omega
  · have h' : MayT o d s t n := of_decide_eq_true h
    unfold MayT Ka Kb at h'
    omega
set_option maxHeartbeats 1000000 in
theorem renc_no (o d s t : Int) (b : Bool) (n : Int) (w : World) (ho : 0 ≤ o ∧ o ≤ 255) (hd : 0 ≤ d ∧ d ≤ 255) (hs : 0 ≤ s ∧ s ≤ 255) (ht : 0 ≤ t ∧ t ≤ 255) (h : may o d s t b n = false) :
    Calls Tryz.prog 92 #[.agg #[.int .u8 o, .int .u8 d, .int .u8 s, .int .u8 t, .bool b, .int .i32 n]] w fun e w' => e = .returned (.tuple #[.int .u32 0, .int .i64 2]) ∧ Grown w w' := by
  go_enter Tryz.func92, Tryz.ntmps92
  go_wp2_with fail
  refine (rmay_is o d s t b n _ _ ho hd hs ht h).mono ?_; rintro e w1 ⟨rfl, g1⟩
  go_wp2_with fail
  go_ret2
  exact ⟨rfl, grown_trans ((Grown.refl _).alloc _ _) g1⟩
set_option maxHeartbeats 1000000 in
theorem renc_wide (o d s t : Int) (b : Bool) (n k : Int) (w : World) (ho : 0 ≤ o ∧ o ≤ 63) (hd : 0 ≤ d ∧ d ≤ 31) (hs : 0 ≤ s ∧ s ≤ 31) (ht : 0 ≤ t ∧ t ≤ 31) (hn : -2147483648 ≤ n ∧ n ≤ 2147483647) (h : may o d s t b n = true) (hk : Hid (rk o = k)) (k3 : 3 ≤ k) (k5 : k ≤ 5) :
    Calls Tryz.prog 92 #[.agg #[.int .u8 o, .int .u8 d, .int .u8 s, .int .u8 t, .bool b, .int .i32 n]] w fun e w' => e = .returned (.tuple #[.int .u32 (o * 67108864 + d * 2097152 + n % 2097152), .int .i64 0]) ∧ Grown w w' := by
  have ho' : 0 ≤ o ∧ o ≤ 255 := by omega
  go_enter Tryz.func92, Tryz.ntmps92
  go_wp2_with fail
  refine (rmay_is o d s t b n _ _ ho' (by omega) (by omega) (by omega) h).mono ?_; rintro e w1 ⟨rfl, g1⟩
  obtain ⟨c0, c1, c2, c3, c4, c5, cz⟩ := rinst_cells g1
  go_wp2_with fail
  refine (rkind_is o k _ ho' hk.out).mono ?_; rintro e w2 ⟨rfl, rfl⟩
  go_wp2_with fail
  refine (rlow21 n _ hn).mono ?_; rintro e w2 ⟨rfl, rfl⟩
  go_wp2_with fail
  go_ret2
  exact ⟨rfl, grown_trans ((Grown.refl _).alloc _ _) g1⟩
set_option maxHeartbeats 1000000 in
theorem renc_ta (o d s t : Int) (n k : Int) (w : World) (ho : 0 ≤ o ∧ o ≤ 63) (hd : 0 ≤ d ∧ d ≤ 31) (hs : 0 ≤ s ∧ s ≤ 31) (ht : 0 ≤ t ∧ t ≤ 31) (hn : -2147483648 ≤ n ∧ n ≤ 2147483647) (h : may o d s t true n = true) (hk : Hid (rk o = k)) (k3 : k < 3) :
    Calls Tryz.prog 92 #[.agg #[.int .u8 o, .int .u8 d, .int .u8 s, .int .u8 t, .bool true, .int .i32 n]] w fun e w' => e = .returned (.tuple #[.int .u32 (o * 67108864 + d * 2097152 + s * 65536 + 32768 + n % 32768), .int .i64 0]) ∧ Grown w w' := by
  have ho' : 0 ≤ o ∧ o ≤ 255 := by omega
  go_enter Tryz.func92, Tryz.ntmps92
  go_wp2_with fail
  refine (rmay_is o d s t true n _ _ ho' (by omega) (by omega) (by omega) h).mono ?_; rintro e w1 ⟨rfl, g1⟩
  obtain ⟨c0, c1, c2, c3, c4, c5, cz⟩ := rinst_cells g1
  go_wp2_with fail
  refine (rkind_is o k _ ho' hk.out).mono ?_; rintro e w2 ⟨rfl, rfl⟩
  go_wp2_with fail
  refine (rlow15 n _ hn).mono ?_; rintro e w2 ⟨rfl, rfl⟩
  go_wp2_with fail
  go_ret2
  exact ⟨rfl, grown_trans ((Grown.refl _).alloc _ _) g1⟩
set_option maxHeartbeats 1000000 in
theorem renc_tb (o d s t : Int) (n k : Int) (w : World) (ho : 0 ≤ o ∧ o ≤ 63) (hd : 0 ≤ d ∧ d ≤ 31) (hs : 0 ≤ s ∧ s ≤ 31) (ht : 0 ≤ t ∧ t ≤ 31) (hn : -2147483648 ≤ n ∧ n ≤ 2147483647) (h : may o d s t true n = true) (hk : Hid (rk o = k)) (k5 : 5 < k) :
    Calls Tryz.prog 92 #[.agg #[.int .u8 o, .int .u8 d, .int .u8 s, .int .u8 t, .bool true, .int .i32 n]] w fun e w' => e = .returned (.tuple #[.int .u32 (o * 67108864 + d * 2097152 + s * 65536 + 32768 + n % 32768), .int .i64 0]) ∧ Grown w w' := by
  have ho' : 0 ≤ o ∧ o ≤ 255 := by omega
  go_enter Tryz.func92, Tryz.ntmps92
  go_wp2_with fail
  refine (rmay_is o d s t true n _ _ ho' (by omega) (by omega) (by omega) h).mono ?_; rintro e w1 ⟨rfl, g1⟩
  obtain ⟨c0, c1, c2, c3, c4, c5, cz⟩ := rinst_cells g1
  go_wp2_with fail
  refine (rkind_is o k _ ho' hk.out).mono ?_; rintro e w2 ⟨rfl, rfl⟩
  go_wp2_with fail
  refine (rlow15 n _ hn).mono ?_; rintro e w2 ⟨rfl, rfl⟩
  go_wp2_with fail
  go_ret2
  exact ⟨rfl, grown_trans ((Grown.refl _).alloc _ _) g1⟩
set_option maxHeartbeats 1000000 in
theorem renc_fa (o d s t : Int) (n k : Int) (w : World) (ho : 0 ≤ o ∧ o ≤ 63) (hd : 0 ≤ d ∧ d ≤ 31) (hs : 0 ≤ s ∧ s ≤ 31) (ht : 0 ≤ t ∧ t ≤ 31) (hn : -2147483648 ≤ n ∧ n ≤ 2147483647) (h : may o d s t false n = true) (hk : Hid (rk o = k)) (k3 : k < 3) :
    Calls Tryz.prog 92 #[.agg #[.int .u8 o, .int .u8 d, .int .u8 s, .int .u8 t, .bool false, .int .i32 n]] w fun e w' => e = .returned (.tuple #[.int .u32 (o * 67108864 + d * 2097152 + s * 65536 + t), .int .i64 0]) ∧ Grown w w' := by
  have ho' : 0 ≤ o ∧ o ≤ 255 := by omega
  go_enter Tryz.func92, Tryz.ntmps92
  go_wp2_with fail
  refine (rmay_is o d s t false n _ _ ho' (by omega) (by omega) (by omega) h).mono ?_; rintro e w1 ⟨rfl, g1⟩
  obtain ⟨c0, c1, c2, c3, c4, c5, cz⟩ := rinst_cells g1
  go_wp2_with fail
  refine (rkind_is o k _ ho' hk.out).mono ?_; rintro e w2 ⟨rfl, rfl⟩
  go_wp2_with fail
  go_ret2
  exact ⟨rfl, grown_trans ((Grown.refl _).alloc _ _) g1⟩
set_option maxHeartbeats 1000000 in
theorem renc_fb (o d s t : Int) (n k : Int) (w : World) (ho : 0 ≤ o ∧ o ≤ 63) (hd : 0 ≤ d ∧ d ≤ 31) (hs : 0 ≤ s ∧ s ≤ 31) (ht : 0 ≤ t ∧ t ≤ 31) (hn : -2147483648 ≤ n ∧ n ≤ 2147483647) (h : may o d s t false n = true) (hk : Hid (rk o = k)) (k5 : 5 < k) :
    Calls Tryz.prog 92 #[.agg #[.int .u8 o, .int .u8 d, .int .u8 s, .int .u8 t, .bool false, .int .i32 n]] w fun e w' => e = .returned (.tuple #[.int .u32 (o * 67108864 + d * 2097152 + s * 65536 + t), .int .i64 0]) ∧ Grown w w' := by
  have ho' : 0 ≤ o ∧ o ≤ 255 := by omega
  go_enter Tryz.func92, Tryz.ntmps92
  go_wp2_with fail
  refine (rmay_is o d s t false n _ _ ho' (by omega) (by omega) (by omega) h).mono ?_; rintro e w1 ⟨rfl, g1⟩
  obtain ⟨c0, c1, c2, c3, c4, c5, cz⟩ := rinst_cells g1
  go_wp2_with fail
  refine (rkind_is o k _ ho' hk.out).mono ?_; rintro e w2 ⟨rfl, rfl⟩
  go_wp2_with fail
  go_ret2
  exact ⟨rfl, grown_trans ((Grown.refl _).alloc _ _) g1⟩
/-- What the document's Encode comes to, whatever the instruction. -/
theorem renc_any (o d s t : Int) (b : Bool) (n : Int) (w : World) (ho : 0 ≤ o ∧ o ≤ 255) (hd : 0 ≤ d ∧ d ≤ 255) (hs : 0 ≤ s ∧ s ≤ 255) (ht : 0 ≤ t ∧ t ≤ 255) (hn : -2147483648 ≤ n ∧ n ≤ 2147483647) :
    Calls Tryz.prog 92 #[.agg #[.int .u8 o, .int .u8 d, .int .u8 s, .int .u8 t, .bool b, .int .i32 n]] w fun e w' => e = .returned (.tuple #[.int .u32 (eW o d s t b n), .int .i64 (eE o d s t b n)]) ∧ Grown w w' := by
  cases h : may o d s t b n
  · rw [eW_no h, eE_no h]
    exact renc_no o d s t b n w ho hd hs ht h
  · obtain ⟨ko, kd, ks, kt⟩ := rmay_small ho hd hs ht h
    rw [eW_yes h, eE_yes h]
    rcases rk_wd o with ⟨hw, k3, k5⟩ | ⟨hw, k3⟩ | ⟨hw, k5⟩
    · rw [show enc o d s t b n = o * 67108864 + d * 2097152 + n % 2097152 by unfold enc; rw [if_pos hw]]
      exact renc_wide o d s t b n _ w ko kd ks kt hn h rfl k3 k5
    · cases b
      · rw [show enc o d s t false n = o * 67108864 + d * 2097152 + s * 65536 + t by unfold enc; rw [if_neg hw, if_neg (by decide)]]
        exact renc_fa o d s t n _ w ko kd ks kt hn h rfl k3
      · rw [show enc o d s t true n = o * 67108864 + d * 2097152 + s * 65536 + 32768 + n % 32768 by unfold enc; rw [if_neg hw, if_pos rfl]]
        exact renc_ta o d s t n _ w ko kd ks kt hn h rfl k3
    · cases b
      · rw [show enc o d s t false n = o * 67108864 + d * 2097152 + s * 65536 + t by unfold enc; rw [if_neg hw, if_neg (by decide)]]
        exact renc_fb o d s t n _ w ko kd ks kt hn h rfl k5
      · rw [show enc o d s t true n = o * 67108864 + d * 2097152 + s * 65536 + 32768 + n % 32768 by unfold enc; rw [if_neg hw, if_pos rfl]]
        exact renc_tb o d s t n _ w ko kd ks kt hn h rfl k5
end Go.Proofs.YtiobgnelhiadbaaGreatDoor.I2
