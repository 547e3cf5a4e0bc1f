/- What the document's Decode comes to, for any word. -/
import Derived.Test.YtiobgnelhiadbaaGreatDoorZInstGE
import Derived.Test.YtiobgnelhiadbaaGreatDoorZBaseG
namespace Go.Proofs.YtiobgnelhiadbaaGreatDoor.I2
open Go.RowKit
set_option linter.unusedVariables false
theorem renc_is (o d s t : Int) (b : Bool) (n v r : Int) (w : World) (ho : 0 ≤ o ∧ o ≤ 255) (hd : 0 ≤ d ∧ d ≤ 255) (hs : 0 ≤ s ∧ s ≤ 255) (ht : 0 ≤ t ∧ t ≤ 255) (hn : -2147483648 ≤ n ∧ n ≤ 2147483647) (hv : eW o d s t b n = v) (hr : eE o d s t b n = r) :
    Calls Tryz.prog 92 #[.agg #[.int .u8 o, .int .u8 d, .int .u8 s, .int .u8 t, .bool b, .int .i32 n]] w fun e w' => e = .returned (.tuple #[.int .u32 v, .int .i64 r]) ∧ Grown w w' := by
  subst hv hr; exact renc_any o d s t b n w ho hd hs ht hn
theorem rnew_frozen {w W : World} {A : Array Value} {t : TypeId} (g : Grown (w.alloc (.cells A t)) W) (j : Nat) : W.frozen? ⟨w.heap.size, j, none⟩ = false := by
  rw [g.2.1]
  simp [go_sem]
theorem rsigned_is21 (x y : Int) (w : World) (hx : 0 ≤ x ∧ x < 2097152) (hy : sg x 1048576 = y) :
    Calls Tryz.prog 136 #[.int .u32 x, .int .u64 21] w fun e w' => e = .returned (.int .i32 y) ∧ w = w' := by
  subst hy; exact rsigned21 x w hx
theorem rsigned_is15 (x y : Int) (w : World) (hx : 0 ≤ x ∧ x < 32768) (hy : sg x 16384 = y) :
    Calls Tryz.prog 136 #[.int .u32 x, .int .u64 15] w fun e w' => e = .returned (.int .i32 y) ∧ w = w' := by
  subst hy; exact rsigned15 x w hx
/-! Decode's candidate, by the Op's kind and bit 15; behind it the word that Encode gives back. -/
set_option maxHeartbeats 1000000 in
theorem rdec_s_no2 (x o d p v : Int) (w : World) (hx : 0 ≤ x ∧ x < 4294967296) (ho : 0 ≤ o ∧ o ≤ 63) (hd : 0 ≤ d ∧ d ≤ 31) (eo : x / 67108864 = o) (ed : x / 2097152 % 32 = d)
    (hp : 0 ≤ p ∧ p < 2097152) (ep : x % 2097152 = p) (hk : Hid (rk o = 3)) (hv : Hid (eW o d 0 0 true p = v)) (hr : Hid (eE o d 0 0 true p = 2)) :
    Calls Tryz.prog 74 #[.int .u32 x] w fun e w' => e = .returned (.tuple #[.agg #[.int .u8 0, .int .u8 0, .int .u8 0, .int .u8 0, .bool false, .int .i32 0], .bool false]) ∧ Grown w w' := by
  have ho' : 0 ≤ o ∧ o ≤ 255 := by omega
  go_enter Tryz.func74, Tryz.ntmps74
  go_wp2_with (first
    | (go_at_call 135; refine (rkind_is o 3 _ ho' hk.out).mono ?_; rintro e w1 ⟨rfl, rfl⟩)
    | (go_at_call 136; refine (rsigned21 p _ hp).mono ?_; rintro e w1 ⟨rfl, rfl⟩))
  refine (renc_is o d 0 0 true p v 2 _ ho' (by omega) (by omega) (by omega) (by omega) hv.out hr.out).mono ?_; rintro e w2 ⟨rfl, g2⟩
  have gA := grown_trans ((Grown.refl (w.alloc (.cells #[.int .u8 0, .int .u8 0, .int .u8 0, .int .u8 0, .bool false, .int .i32 0] 88))).alloc _ _) g2
  have fA := rnew_frozen gA
  obtain ⟨a0, a1, a2, a3, a4, a5, az⟩ := rinst_cells gA
  have i0 := rinst_cells g2
  simp only [size_new] at i0
  obtain ⟨c0, c1, c2, c3, c4, c5, cz⟩ := i0
  have fA0 := fA 0
  have fA1 := fA 1
  have fA2 := fA 2
  have fA3 := fA 3
  have fA4 := fA 4
  have fA5 := fA 5
  have G : Grown w w2 := grown_trans ((Grown.refl _).alloc _ _) gA
  clear fA gA g2
  go_wp2_with fail
  refine bodyPost_ret (v := .tuple #[.agg #[.int .u8 0, .int .u8 0, .int .u8 0, .int .u8 0, .bool false, .int .i32 0], .bool false]) ?_ rfl ⟨rfl, ?_⟩
  · simp [results, Tryz.results74, go_sem, a0, a1, a2, a3, a4, a5]
  · clear a0 a1 a2 a3 a4 a5 c0 c1 c2 c3 c4 c5
    exact Grown.mk2 (by have G := G.lib; go_grown) (by have G := G.bel; go_grown)
set_option maxHeartbeats 1000000 in
theorem rdec_s_no0 (x o d p v : Int) (w : World) (hx : 0 ≤ x ∧ x < 4294967296) (ho : 0 ≤ o ∧ o ≤ 63) (hd : 0 ≤ d ∧ d ≤ 31) (eo : x / 67108864 = o) (ed : x / 2097152 % 32 = d)
    (hp : 0 ≤ p ∧ p < 2097152) (ep : x % 2097152 = p) (hk : Hid (rk o = 3)) (hv : Hid (eW o d 0 0 true p = v)) (hr : Hid (eE o d 0 0 true p = 0)) (hb : (v == x) = false) (hb2 : (v != x) = true) :
    Calls Tryz.prog 74 #[.int .u32 x] w fun e w' => e = .returned (.tuple #[.agg #[.int .u8 0, .int .u8 0, .int .u8 0, .int .u8 0, .bool false, .int .i32 0], .bool false]) ∧ Grown w w' := by
  have ho' : 0 ≤ o ∧ o ≤ 255 := by omega
  go_enter Tryz.func74, Tryz.ntmps74
  go_wp2_with (first
    | (go_at_call 135; refine (rkind_is o 3 _ ho' hk.out).mono ?_; rintro e w1 ⟨rfl, rfl⟩)
    | (go_at_call 136; refine (rsigned21 p _ hp).mono ?_; rintro e w1 ⟨rfl, rfl⟩))
  refine (renc_is o d 0 0 true p v 0 _ ho' (by omega) (by omega) (by omega) (by omega) hv.out hr.out).mono ?_; rintro e w2 ⟨rfl, g2⟩
  have gA := grown_trans ((Grown.refl (w.alloc (.cells #[.int .u8 0, .int .u8 0, .int .u8 0, .int .u8 0, .bool false, .int .i32 0] 88))).alloc _ _) g2
  have fA := rnew_frozen gA
  obtain ⟨a0, a1, a2, a3, a4, a5, az⟩ := rinst_cells gA
  have i0 := rinst_cells g2
  simp only [size_new] at i0
  obtain ⟨c0, c1, c2, c3, c4, c5, cz⟩ := i0
  have fA0 := fA 0
  have fA1 := fA 1
  have fA2 := fA 2
  have fA3 := fA 3
  have fA4 := fA 4
  have fA5 := fA 5
  have G : Grown w w2 := grown_trans ((Grown.refl _).alloc _ _) gA
  clear fA gA g2
  go_wp2_with fail
  refine bodyPost_ret (v := .tuple #[.agg #[.int .u8 0, .int .u8 0, .int .u8 0, .int .u8 0, .bool false, .int .i32 0], .bool false]) ?_ rfl ⟨rfl, ?_⟩
  · simp [results, Tryz.results74, go_sem, a0, a1, a2, a3, a4, a5]
  · clear a0 a1 a2 a3 a4 a5 c0 c1 c2 c3 c4 c5
    exact Grown.mk2 (by have G := G.lib; go_grown) (by have G := G.bel; go_grown)
set_option maxHeartbeats 1000000 in
theorem rdec_s_yes (x o d p : Int) (w : World) (hx : 0 ≤ x ∧ x < 4294967296) (ho : 0 ≤ o ∧ o ≤ 63) (hd : 0 ≤ d ∧ d ≤ 31) (eo : x / 67108864 = o) (ed : x / 2097152 % 32 = d)
    (hp : 0 ≤ p ∧ p < 2097152) (ep : x % 2097152 = p) (hk : Hid (rk o = 3)) (hv : Hid (eW o d 0 0 true p = x)) (hr : Hid (eE o d 0 0 true p = 0)) :
    Calls Tryz.prog 74 #[.int .u32 x] w fun e w' => e = .returned (.tuple #[.agg #[.int .u8 o, .int .u8 d, .int .u8 0, .int .u8 0, .bool true, .int .i32 p], .bool true]) ∧ Grown w w' := by
  have ho' : 0 ≤ o ∧ o ≤ 255 := by omega
  go_enter Tryz.func74, Tryz.ntmps74
  go_wp2_with (first
    | (go_at_call 135; refine (rkind_is o 3 _ ho' hk.out).mono ?_; rintro e w1 ⟨rfl, rfl⟩)
    | (go_at_call 136; refine (rsigned21 p _ hp).mono ?_; rintro e w1 ⟨rfl, rfl⟩))
  refine (renc_is o d 0 0 true p x 0 _ ho' (by omega) (by omega) (by omega) (by omega) hv.out hr.out).mono ?_; rintro e w2 ⟨rfl, g2⟩
  have gA := grown_trans ((Grown.refl (w.alloc (.cells #[.int .u8 0, .int .u8 0, .int .u8 0, .int .u8 0, .bool false, .int .i32 0] 88))).alloc _ _) g2
  have fA := rnew_frozen gA
  obtain ⟨a0, a1, a2, a3, a4, a5, az⟩ := rinst_cells gA
  have i0 := rinst_cells g2
  simp only [size_new] at i0
  obtain ⟨c0, c1, c2, c3, c4, c5, cz⟩ := i0
  have fA0 := fA 0
  have fA1 := fA 1
  have fA2 := fA 2
  have fA3 := fA 3
  have fA4 := fA 4
  have fA5 := fA 5
  have G : Grown w w2 := grown_trans ((Grown.refl _).alloc _ _) gA
  clear fA gA g2
  go_wp2_with fail
  refine bodyPost_ret (v := .tuple #[.agg #[.int .u8 o, .int .u8 d, .int .u8 0, .int .u8 0, .bool true, .int .i32 p], .bool true]) ?_ rfl ⟨rfl, ?_⟩
  · simp [results, Tryz.results74, go_sem, a0, a1, a2, a3, a4, a5]
  · clear a0 a1 a2 a3 a4 a5 c0 c1 c2 c3 c4 c5
    exact Grown.mk2 (by have G := G.lib; go_grown) (by have G := G.bel; go_grown)
set_option maxHeartbeats 1000000 in
theorem rdec_c4_no2 (x o d p n v : Int) (w : World) (hx : 0 ≤ x ∧ x < 4294967296) (ho : 0 ≤ o ∧ o ≤ 63) (hd : 0 ≤ d ∧ d ≤ 31) (eo : x / 67108864 = o) (ed : x / 2097152 % 32 = d)
    (hp : 0 ≤ p ∧ p < 2097152) (ep : x % 2097152 = p) (hk : Hid (rk o = 4)) (hn : -2147483648 ≤ n ∧ n ≤ 2147483647) (en : Hid (sg p 1048576 = n)) (hv : Hid (eW o d 0 0 true n = v)) (hr : Hid (eE o d 0 0 true n = 2)) :
    Calls Tryz.prog 74 #[.int .u32 x] w fun e w' => e = .returned (.tuple #[.agg #[.int .u8 0, .int .u8 0, .int .u8 0, .int .u8 0, .bool false, .int .i32 0], .bool false]) ∧ Grown w w' := by
  have ho' : 0 ≤ o ∧ o ≤ 255 := by omega
  go_enter Tryz.func74, Tryz.ntmps74
  go_wp2_with (first
    | (go_at_call 135; refine (rkind_is o 4 _ ho' hk.out).mono ?_; rintro e w1 ⟨rfl, rfl⟩)
    | (go_at_call 136; refine (rsigned_is21 p n _ hp en.out).mono ?_; rintro e w1 ⟨rfl, rfl⟩))
  refine (renc_is o d 0 0 true n v 2 _ ho' (by omega) (by omega) (by omega) (by omega) hv.out hr.out).mono ?_; rintro e w2 ⟨rfl, g2⟩
  have gA := grown_trans ((Grown.refl (w.alloc (.cells #[.int .u8 0, .int .u8 0, .int .u8 0, .int .u8 0, .bool false, .int .i32 0] 88))).alloc _ _) g2
  have fA := rnew_frozen gA
  obtain ⟨a0, a1, a2, a3, a4, a5, az⟩ := rinst_cells gA
  have i0 := rinst_cells g2
  simp only [size_new] at i0
  obtain ⟨c0, c1, c2, c3, c4, c5, cz⟩ := i0
  have fA0 := fA 0
  have fA1 := fA 1
  have fA2 := fA 2
  have fA3 := fA 3
  have fA4 := fA 4
  have fA5 := fA 5
  have G : Grown w w2 := grown_trans ((Grown.refl _).alloc _ _) gA
  clear fA gA g2
  go_wp2_with fail
  refine bodyPost_ret (v := .tuple #[.agg #[.int .u8 0, .int .u8 0, .int .u8 0, .int .u8 0, .bool false, .int .i32 0], .bool false]) ?_ rfl ⟨rfl, ?_⟩
  · simp [results, Tryz.results74, go_sem, a0, a1, a2, a3, a4, a5]
  · clear a0 a1 a2 a3 a4 a5 c0 c1 c2 c3 c4 c5
    exact Grown.mk2 (by have G := G.lib; go_grown) (by have G := G.bel; go_grown)
set_option maxHeartbeats 1000000 in
theorem rdec_c4_no0 (x o d p n v : Int) (w : World) (hx : 0 ≤ x ∧ x < 4294967296) (ho : 0 ≤ o ∧ o ≤ 63) (hd : 0 ≤ d ∧ d ≤ 31) (eo : x / 67108864 = o) (ed : x / 2097152 % 32 = d)
    (hp : 0 ≤ p ∧ p < 2097152) (ep : x % 2097152 = p) (hk : Hid (rk o = 4)) (hn : -2147483648 ≤ n ∧ n ≤ 2147483647) (en : Hid (sg p 1048576 = n)) (hv : Hid (eW o d 0 0 true n = v)) (hr : Hid (eE o d 0 0 true n = 0)) (hb : (v == x) = false) (hb2 : (v != x) = true) :
    Calls Tryz.prog 74 #[.int .u32 x] w fun e w' => e = .returned (.tuple #[.agg #[.int .u8 0, .int .u8 0, .int .u8 0, .int .u8 0, .bool false, .int .i32 0], .bool false]) ∧ Grown w w' := by
  have ho' : 0 ≤ o ∧ o ≤ 255 := by omega
  go_enter Tryz.func74, Tryz.ntmps74
  go_wp2_with (first
    | (go_at_call 135; refine (rkind_is o 4 _ ho' hk.out).mono ?_; rintro e w1 ⟨rfl, rfl⟩)
    | (go_at_call 136; refine (rsigned_is21 p n _ hp en.out).mono ?_; rintro e w1 ⟨rfl, rfl⟩))
  refine (renc_is o d 0 0 true n v 0 _ ho' (by omega) (by omega) (by omega) (by omega) hv.out hr.out).mono ?_; rintro e w2 ⟨rfl, g2⟩
  have gA := grown_trans ((Grown.refl (w.alloc (.cells #[.int .u8 0, .int .u8 0, .int .u8 0, .int .u8 0, .bool false, .int .i32 0] 88))).alloc _ _) g2
  have fA := rnew_frozen gA
  obtain ⟨a0, a1, a2, a3, a4, a5, az⟩ := rinst_cells gA
  have i0 := rinst_cells g2
  simp only [size_new] at i0
  obtain ⟨c0, c1, c2, c3, c4, c5, cz⟩ := i0
  have fA0 := fA 0
  have fA1 := fA 1
  have fA2 := fA 2
  have fA3 := fA 3
  have fA4 := fA 4
  have fA5 := fA 5
  have G : Grown w w2 := grown_trans ((Grown.refl _).alloc _ _) gA
  clear fA gA g2
  go_wp2_with fail
  refine bodyPost_ret (v := .tuple #[.agg #[.int .u8 0, .int .u8 0, .int .u8 0, .int .u8 0, .bool false, .int .i32 0], .bool false]) ?_ rfl ⟨rfl, ?_⟩
  · simp [results, Tryz.results74, go_sem, a0, a1, a2, a3, a4, a5]
  · clear a0 a1 a2 a3 a4 a5 c0 c1 c2 c3 c4 c5
    exact Grown.mk2 (by have G := G.lib; go_grown) (by have G := G.bel; go_grown)
set_option maxHeartbeats 1000000 in
theorem rdec_c4_yes (x o d p n : Int) (w : World) (hx : 0 ≤ x ∧ x < 4294967296) (ho : 0 ≤ o ∧ o ≤ 63) (hd : 0 ≤ d ∧ d ≤ 31) (eo : x / 67108864 = o) (ed : x / 2097152 % 32 = d)
    (hp : 0 ≤ p ∧ p < 2097152) (ep : x % 2097152 = p) (hk : Hid (rk o = 4)) (hn : -2147483648 ≤ n ∧ n ≤ 2147483647) (en : Hid (sg p 1048576 = n)) (hv : Hid (eW o d 0 0 true n = x)) (hr : Hid (eE o d 0 0 true n = 0)) :
    Calls Tryz.prog 74 #[.int .u32 x] w fun e w' => e = .returned (.tuple #[.agg #[.int .u8 o, .int .u8 d, .int .u8 0, .int .u8 0, .bool true, .int .i32 n], .bool true]) ∧ Grown w w' := by
  have ho' : 0 ≤ o ∧ o ≤ 255 := by omega
  go_enter Tryz.func74, Tryz.ntmps74
  go_wp2_with (first
    | (go_at_call 135; refine (rkind_is o 4 _ ho' hk.out).mono ?_; rintro e w1 ⟨rfl, rfl⟩)
    | (go_at_call 136; refine (rsigned_is21 p n _ hp en.out).mono ?_; rintro e w1 ⟨rfl, rfl⟩))
  refine (renc_is o d 0 0 true n x 0 _ ho' (by omega) (by omega) (by omega) (by omega) hv.out hr.out).mono ?_; rintro e w2 ⟨rfl, g2⟩
  have gA := grown_trans ((Grown.refl (w.alloc (.cells #[.int .u8 0, .int .u8 0, .int .u8 0, .int .u8 0, .bool false, .int .i32 0] 88))).alloc _ _) g2
  have fA := rnew_frozen gA
  obtain ⟨a0, a1, a2, a3, a4, a5, az⟩ := rinst_cells gA
  have i0 := rinst_cells g2
  simp only [size_new] at i0
  obtain ⟨c0, c1, c2, c3, c4, c5, cz⟩ := i0
  have fA0 := fA 0
  have fA1 := fA 1
  have fA2 := fA 2
  have fA3 := fA 3
  have fA4 := fA 4
  have fA5 := fA 5
  have G : Grown w w2 := grown_trans ((Grown.refl _).alloc _ _) gA
  clear fA gA g2
  go_wp2_with fail
  refine bodyPost_ret (v := .tuple #[.agg #[.int .u8 o, .int .u8 d, .int .u8 0, .int .u8 0, .bool true, .int .i32 n], .bool true]) ?_ rfl ⟨rfl, ?_⟩
  · simp [results, Tryz.results74, go_sem, a0, a1, a2, a3, a4, a5]
  · clear a0 a1 a2 a3 a4 a5 c0 c1 c2 c3 c4 c5
    exact Grown.mk2 (by have G := G.lib; go_grown) (by have G := G.bel; go_grown)
set_option maxHeartbeats 1000000 in
theorem rdec_c5_no2 (x o d p n v : Int) (w : World) (hx : 0 ≤ x ∧ x < 4294967296) (ho : 0 ≤ o ∧ o ≤ 63) (hd : 0 ≤ d ∧ d ≤ 31) (eo : x / 67108864 = o) (ed : x / 2097152 % 32 = d)
    (hp : 0 ≤ p ∧ p < 2097152) (ep : x % 2097152 = p) (hk : Hid (rk o = 5)) (hn : -2147483648 ≤ n ∧ n ≤ 2147483647) (en : Hid (sg p 1048576 = n)) (hv : Hid (eW o d 0 0 true n = v)) (hr : Hid (eE o d 0 0 true n = 2)) :
    Calls Tryz.prog 74 #[.int .u32 x] w fun e w' => e = .returned (.tuple #[.agg #[.int .u8 0, .int .u8 0, .int .u8 0, .int .u8 0, .bool false, .int .i32 0], .bool false]) ∧ Grown w w' := by
  have ho' : 0 ≤ o ∧ o ≤ 255 := by omega
  go_enter Tryz.func74, Tryz.ntmps74
  go_wp2_with (first
    | (go_at_call 135; refine (rkind_is o 5 _ ho' hk.out).mono ?_; rintro e w1 ⟨rfl, rfl⟩)
    | (go_at_call 136; refine (rsigned_is21 p n _ hp en.out).mono ?_; rintro e w1 ⟨rfl, rfl⟩))
  refine (renc_is o d 0 0 true n v 2 _ ho' (by omega) (by omega) (by omega) (by omega) hv.out hr.out).mono ?_; rintro e w2 ⟨rfl, g2⟩
  have gA := grown_trans ((Grown.refl (w.alloc (.cells #[.int .u8 0, .int .u8 0, .int .u8 0, .int .u8 0, .bool false, .int .i32 0] 88))).alloc _ _) g2
  have fA := rnew_frozen gA
  obtain ⟨a0, a1, a2, a3, a4, a5, az⟩ := rinst_cells gA
  have i0 := rinst_cells g2
  simp only [size_new] at i0
  obtain ⟨c0, c1, c2, c3, c4, c5, cz⟩ := i0
  have fA0 := fA 0
  have fA1 := fA 1
  have fA2 := fA 2
  have fA3 := fA 3
  have fA4 := fA 4
  have fA5 := fA 5
  have G : Grown w w2 := grown_trans ((Grown.refl _).alloc _ _) gA
  clear fA gA g2
  go_wp2_with fail
  refine bodyPost_ret (v := .tuple #[.agg #[.int .u8 0, .int .u8 0, .int .u8 0, .int .u8 0, .bool false, .int .i32 0], .bool false]) ?_ rfl ⟨rfl, ?_⟩
  · simp [results, Tryz.results74, go_sem, a0, a1, a2, a3, a4, a5]
  · clear a0 a1 a2 a3 a4 a5 c0 c1 c2 c3 c4 c5
    exact Grown.mk2 (by have G := G.lib; go_grown) (by have G := G.bel; go_grown)
set_option maxHeartbeats 1000000 in
theorem rdec_c5_no0 (x o d p n v : Int) (w : World) (hx : 0 ≤ x ∧ x < 4294967296) (ho : 0 ≤ o ∧ o ≤ 63) (hd : 0 ≤ d ∧ d ≤ 31) (eo : x / 67108864 = o) (ed : x / 2097152 % 32 = d)
    (hp : 0 ≤ p ∧ p < 2097152) (ep : x % 2097152 = p) (hk : Hid (rk o = 5)) (hn : -2147483648 ≤ n ∧ n ≤ 2147483647) (en : Hid (sg p 1048576 = n)) (hv : Hid (eW o d 0 0 true n = v)) (hr : Hid (eE o d 0 0 true n = 0)) (hb : (v == x) = false) (hb2 : (v != x) = true) :
    Calls Tryz.prog 74 #[.int .u32 x] w fun e w' => e = .returned (.tuple #[.agg #[.int .u8 0, .int .u8 0, .int .u8 0, .int .u8 0, .bool false, .int .i32 0], .bool false]) ∧ Grown w w' := by
  have ho' : 0 ≤ o ∧ o ≤ 255 := by omega
  go_enter Tryz.func74, Tryz.ntmps74
  go_wp2_with (first
    | (go_at_call 135; refine (rkind_is o 5 _ ho' hk.out).mono ?_; rintro e w1 ⟨rfl, rfl⟩)
    | (go_at_call 136; refine (rsigned_is21 p n _ hp en.out).mono ?_; rintro e w1 ⟨rfl, rfl⟩))
  refine (renc_is o d 0 0 true n v 0 _ ho' (by omega) (by omega) (by omega) (by omega) hv.out hr.out).mono ?_; rintro e w2 ⟨rfl, g2⟩
  have gA := grown_trans ((Grown.refl (w.alloc (.cells #[.int .u8 0, .int .u8 0, .int .u8 0, .int .u8 0, .bool false, .int .i32 0] 88))).alloc _ _) g2
  have fA := rnew_frozen gA
  obtain ⟨a0, a1, a2, a3, a4, a5, az⟩ := rinst_cells gA
  have i0 := rinst_cells g2
  simp only [size_new] at i0
  obtain ⟨c0, c1, c2, c3, c4, c5, cz⟩ := i0
  have fA0 := fA 0
  have fA1 := fA 1
  have fA2 := fA 2
  have fA3 := fA 3
  have fA4 := fA 4
  have fA5 := fA 5
  have G : Grown w w2 := grown_trans ((Grown.refl _).alloc _ _) gA
  clear fA gA g2
  go_wp2_with fail
  refine bodyPost_ret (v := .tuple #[.agg #[.int .u8 0, .int .u8 0, .int .u8 0, .int .u8 0, .bool false, .int .i32 0], .bool false]) ?_ rfl ⟨rfl, ?_⟩
  · simp [results, Tryz.results74, go_sem, a0, a1, a2, a3, a4, a5]
  · clear a0 a1 a2 a3 a4 a5 c0 c1 c2 c3 c4 c5
    exact Grown.mk2 (by have G := G.lib; go_grown) (by have G := G.bel; go_grown)
set_option maxHeartbeats 1000000 in
theorem rdec_c5_yes (x o d p n : Int) (w : World) (hx : 0 ≤ x ∧ x < 4294967296) (ho : 0 ≤ o ∧ o ≤ 63) (hd : 0 ≤ d ∧ d ≤ 31) (eo : x / 67108864 = o) (ed : x / 2097152 % 32 = d)
    (hp : 0 ≤ p ∧ p < 2097152) (ep : x % 2097152 = p) (hk : Hid (rk o = 5)) (hn : -2147483648 ≤ n ∧ n ≤ 2147483647) (en : Hid (sg p 1048576 = n)) (hv : Hid (eW o d 0 0 true n = x)) (hr : Hid (eE o d 0 0 true n = 0)) :
    Calls Tryz.prog 74 #[.int .u32 x] w fun e w' => e = .returned (.tuple #[.agg #[.int .u8 o, .int .u8 d, .int .u8 0, .int .u8 0, .bool true, .int .i32 n], .bool true]) ∧ Grown w w' := by
  have ho' : 0 ≤ o ∧ o ≤ 255 := by omega
  go_enter Tryz.func74, Tryz.ntmps74
  go_wp2_with (first
    | (go_at_call 135; refine (rkind_is o 5 _ ho' hk.out).mono ?_; rintro e w1 ⟨rfl, rfl⟩)
    | (go_at_call 136; refine (rsigned_is21 p n _ hp en.out).mono ?_; rintro e w1 ⟨rfl, rfl⟩))
  refine (renc_is o d 0 0 true n x 0 _ ho' (by omega) (by omega) (by omega) (by omega) hv.out hr.out).mono ?_; rintro e w2 ⟨rfl, g2⟩
  have gA := grown_trans ((Grown.refl (w.alloc (.cells #[.int .u8 0, .int .u8 0, .int .u8 0, .int .u8 0, .bool false, .int .i32 0] 88))).alloc _ _) g2
  have fA := rnew_frozen gA
  obtain ⟨a0, a1, a2, a3, a4, a5, az⟩ := rinst_cells gA
  have i0 := rinst_cells g2
  simp only [size_new] at i0
  obtain ⟨c0, c1, c2, c3, c4, c5, cz⟩ := i0
  have fA0 := fA 0
  have fA1 := fA 1
  have fA2 := fA 2
  have fA3 := fA 3
  have fA4 := fA 4
  have fA5 := fA 5
  have G : Grown w w2 := grown_trans ((Grown.refl _).alloc _ _) gA
  clear fA gA g2
  go_wp2_with fail
  refine bodyPost_ret (v := .tuple #[.agg #[.int .u8 o, .int .u8 d, .int .u8 0, .int .u8 0, .bool true, .int .i32 n], .bool true]) ?_ rfl ⟨rfl, ?_⟩
  · simp [results, Tryz.results74, go_sem, a0, a1, a2, a3, a4, a5]
  · clear a0 a1 a2 a3 a4 a5 c0 c1 c2 c3 c4 c5
    exact Grown.mk2 (by have G := G.lib; go_grown) (by have G := G.bel; go_grown)
set_option maxHeartbeats 1000000 in
theorem rdec_tl_no2 (x o d q s k n v : Int) (w : World) (hx : 0 ≤ x ∧ x < 4294967296) (ho : 0 ≤ o ∧ o ≤ 63) (hd : 0 ≤ d ∧ d ≤ 31) (eo : x / 67108864 = o) (ed : x / 2097152 % 32 = d)
    (hq : 0 ≤ q ∧ q < 32768) (eq : x % 32768 = q) (hs : 0 ≤ s ∧ s ≤ 31) (es : x / 65536 % 32 = s) (ei : x / 32768 % 2 = 1) (hk : Hid (rk o = k)) (k3 : k < 3) (hn : -2147483648 ≤ n ∧ n ≤ 2147483647) (en : Hid (sg q 16384 = n)) (hv : Hid (eW o d s 0 true n = v)) (hr : Hid (eE o d s 0 true n = 2)) :
    Calls Tryz.prog 74 #[.int .u32 x] w fun e w' => e = .returned (.tuple #[.agg #[.int .u8 0, .int .u8 0, .int .u8 0, .int .u8 0, .bool false, .int .i32 0], .bool false]) ∧ Grown w w' := by
  have ho' : 0 ≤ o ∧ o ≤ 255 := by omega
  go_enter Tryz.func74, Tryz.ntmps74
  go_wp2_with (first
    | (go_at_call 135; refine (rkind_is o k _ ho' hk.out).mono ?_; rintro e w1 ⟨rfl, rfl⟩)
    | (go_at_call 136; refine (rsigned_is15 q n _ hq en.out).mono ?_; rintro e w1 ⟨rfl, rfl⟩))
  refine (renc_is o d s 0 true n v 2 _ ho' (by omega) (by omega) (by omega) (by omega) hv.out hr.out).mono ?_; rintro e w2 ⟨rfl, g2⟩
  have gA := grown_trans ((Grown.refl (w.alloc (.cells #[.int .u8 0, .int .u8 0, .int .u8 0, .int .u8 0, .bool false, .int .i32 0] 88))).alloc _ _) g2
  have fA := rnew_frozen gA
  obtain ⟨a0, a1, a2, a3, a4, a5, az⟩ := rinst_cells gA
  have i0 := rinst_cells g2
  simp only [size_new] at i0
  obtain ⟨c0, c1, c2, c3, c4, c5, cz⟩ := i0
  have fA0 := fA 0
  have fA1 := fA 1
  have fA2 := fA 2
  have fA3 := fA 3
  have fA4 := fA 4
  have fA5 := fA 5
  have G : Grown w w2 := grown_trans ((Grown.refl _).alloc _ _) gA
  clear fA gA g2
  go_wp2_with fail
  refine bodyPost_ret (v := .tuple #[.agg #[.int .u8 0, .int .u8 0, .int .u8 0, .int .u8 0, .bool false, .int .i32 0], .bool false]) ?_ rfl ⟨rfl, ?_⟩
  · simp [results, Tryz.results74, go_sem, a0, a1, a2, a3, a4, a5]
  · clear a0 a1 a2 a3 a4 a5 c0 c1 c2 c3 c4 c5
    exact Grown.mk2 (by have G := G.lib; go_grown) (by have G := G.bel; go_grown)
set_option maxHeartbeats 1000000 in
theorem rdec_tl_no0 (x o d q s k n v : Int) (w : World) (hx : 0 ≤ x ∧ x < 4294967296) (ho : 0 ≤ o ∧ o ≤ 63) (hd : 0 ≤ d ∧ d ≤ 31) (eo : x / 67108864 = o) (ed : x / 2097152 % 32 = d)
    (hq : 0 ≤ q ∧ q < 32768) (eq : x % 32768 = q) (hs : 0 ≤ s ∧ s ≤ 31) (es : x / 65536 % 32 = s) (ei : x / 32768 % 2 = 1) (hk : Hid (rk o = k)) (k3 : k < 3) (hn : -2147483648 ≤ n ∧ n ≤ 2147483647) (en : Hid (sg q 16384 = n)) (hv : Hid (eW o d s 0 true n = v)) (hr : Hid (eE o d s 0 true n = 0)) (hb : (v == x) = false) (hb2 : (v != x) = true) :
    Calls Tryz.prog 74 #[.int .u32 x] w fun e w' => e = .returned (.tuple #[.agg #[.int .u8 0, .int .u8 0, .int .u8 0, .int .u8 0, .bool false, .int .i32 0], .bool false]) ∧ Grown w w' := by
  have ho' : 0 ≤ o ∧ o ≤ 255 := by omega
  go_enter Tryz.func74, Tryz.ntmps74
  go_wp2_with (first
    | (go_at_call 135; refine (rkind_is o k _ ho' hk.out).mono ?_; rintro e w1 ⟨rfl, rfl⟩)
    | (go_at_call 136; refine (rsigned_is15 q n _ hq en.out).mono ?_; rintro e w1 ⟨rfl, rfl⟩))
  refine (renc_is o d s 0 true n v 0 _ ho' (by omega) (by omega) (by omega) (by omega) hv.out hr.out).mono ?_; rintro e w2 ⟨rfl, g2⟩
  have gA := grown_trans ((Grown.refl (w.alloc (.cells #[.int .u8 0, .int .u8 0, .int .u8 0, .int .u8 0, .bool false, .int .i32 0] 88))).alloc _ _) g2
  have fA := rnew_frozen gA
  obtain ⟨a0, a1, a2, a3, a4, a5, az⟩ := rinst_cells gA
  have i0 := rinst_cells g2
  simp only [size_new] at i0
  obtain ⟨c0, c1, c2, c3, c4, c5, cz⟩ := i0
  have fA0 := fA 0
  have fA1 := fA 1
  have fA2 := fA 2
  have fA3 := fA 3
  have fA4 := fA 4
  have fA5 := fA 5
  have G : Grown w w2 := grown_trans ((Grown.refl _).alloc _ _) gA
  clear fA gA g2
  go_wp2_with fail
  refine bodyPost_ret (v := .tuple #[.agg #[.int .u8 0, .int .u8 0, .int .u8 0, .int .u8 0, .bool false, .int .i32 0], .bool false]) ?_ rfl ⟨rfl, ?_⟩
  · simp [results, Tryz.results74, go_sem, a0, a1, a2, a3, a4, a5]
  · clear a0 a1 a2 a3 a4 a5 c0 c1 c2 c3 c4 c5
    exact Grown.mk2 (by have G := G.lib; go_grown) (by have G := G.bel; go_grown)
set_option maxHeartbeats 1000000 in
theorem rdec_tl_yes (x o d q s k n : Int) (w : World) (hx : 0 ≤ x ∧ x < 4294967296) (ho : 0 ≤ o ∧ o ≤ 63) (hd : 0 ≤ d ∧ d ≤ 31) (eo : x / 67108864 = o) (ed : x / 2097152 % 32 = d)
    (hq : 0 ≤ q ∧ q < 32768) (eq : x % 32768 = q) (hs : 0 ≤ s ∧ s ≤ 31) (es : x / 65536 % 32 = s) (ei : x / 32768 % 2 = 1) (hk : Hid (rk o = k)) (k3 : k < 3) (hn : -2147483648 ≤ n ∧ n ≤ 2147483647) (en : Hid (sg q 16384 = n)) (hv : Hid (eW o d s 0 true n = x)) (hr : Hid (eE o d s 0 true n = 0)) :
    Calls Tryz.prog 74 #[.int .u32 x] w fun e w' => e = .returned (.tuple #[.agg #[.int .u8 o, .int .u8 d, .int .u8 s, .int .u8 0, .bool true, .int .i32 n], .bool true]) ∧ Grown w w' := by
  have ho' : 0 ≤ o ∧ o ≤ 255 := by omega
  go_enter Tryz.func74, Tryz.ntmps74
  go_wp2_with (first
    | (go_at_call 135; refine (rkind_is o k _ ho' hk.out).mono ?_; rintro e w1 ⟨rfl, rfl⟩)
    | (go_at_call 136; refine (rsigned_is15 q n _ hq en.out).mono ?_; rintro e w1 ⟨rfl, rfl⟩))
  refine (renc_is o d s 0 true n x 0 _ ho' (by omega) (by omega) (by omega) (by omega) hv.out hr.out).mono ?_; rintro e w2 ⟨rfl, g2⟩
  have gA := grown_trans ((Grown.refl (w.alloc (.cells #[.int .u8 0, .int .u8 0, .int .u8 0, .int .u8 0, .bool false, .int .i32 0] 88))).alloc _ _) g2
  have fA := rnew_frozen gA
  obtain ⟨a0, a1, a2, a3, a4, a5, az⟩ := rinst_cells gA
  have i0 := rinst_cells g2
  simp only [size_new] at i0
  obtain ⟨c0, c1, c2, c3, c4, c5, cz⟩ := i0
  have fA0 := fA 0
  have fA1 := fA 1
  have fA2 := fA 2
  have fA3 := fA 3
  have fA4 := fA 4
  have fA5 := fA 5
  have G : Grown w w2 := grown_trans ((Grown.refl _).alloc _ _) gA
  clear fA gA g2
  go_wp2_with fail
  refine bodyPost_ret (v := .tuple #[.agg #[.int .u8 o, .int .u8 d, .int .u8 s, .int .u8 0, .bool true, .int .i32 n], .bool true]) ?_ rfl ⟨rfl, ?_⟩
  · simp [results, Tryz.results74, go_sem, a0, a1, a2, a3, a4, a5]
  · clear a0 a1 a2 a3 a4 a5 c0 c1 c2 c3 c4 c5
    exact Grown.mk2 (by have G := G.lib; go_grown) (by have G := G.bel; go_grown)
set_option maxHeartbeats 1000000 in
theorem rdec_fl_no2 (x o d s t k v : Int) (w : World) (hx : 0 ≤ x ∧ x < 4294967296) (ho : 0 ≤ o ∧ o ≤ 63) (hd : 0 ≤ d ∧ d ≤ 31) (eo : x / 67108864 = o) (ed : x / 2097152 % 32 = d)
    (hs : 0 ≤ s ∧ s ≤ 31) (es : x / 65536 % 32 = s) (ei : x / 32768 % 2 = 0) (ht : 0 ≤ t ∧ t ≤ 31) (et : x % 32 = t) (hk : Hid (rk o = k)) (k3 : k < 3) (hv : Hid (eW o d s t false 0 = v)) (hr : Hid (eE o d s t false 0 = 2)) :
    Calls Tryz.prog 74 #[.int .u32 x] w fun e w' => e = .returned (.tuple #[.agg #[.int .u8 0, .int .u8 0, .int .u8 0, .int .u8 0, .bool false, .int .i32 0], .bool false]) ∧ Grown w w' := by
  have ho' : 0 ≤ o ∧ o ≤ 255 := by omega
  go_enter Tryz.func74, Tryz.ntmps74
  go_wp2_with (first
    | (go_at_call 135; refine (rkind_is o k _ ho' hk.out).mono ?_; rintro e w1 ⟨rfl, rfl⟩))
  refine (renc_is o d s t false 0 v 2 _ ho' (by omega) (by omega) (by omega) (by omega) hv.out hr.out).mono ?_; rintro e w2 ⟨rfl, g2⟩
  have gA := grown_trans ((Grown.refl (w.alloc (.cells #[.int .u8 0, .int .u8 0, .int .u8 0, .int .u8 0, .bool false, .int .i32 0] 88))).alloc _ _) g2
  have fA := rnew_frozen gA
  obtain ⟨a0, a1, a2, a3, a4, a5, az⟩ := rinst_cells gA
  have i0 := rinst_cells g2
  simp only [size_new] at i0
  obtain ⟨c0, c1, c2, c3, c4, c5, cz⟩ := i0
  have fA0 := fA 0
  have fA1 := fA 1
  have fA2 := fA 2
  have fA3 := fA 3
  have fA4 := fA 4
  have fA5 := fA 5
  have G : Grown w w2 := grown_trans ((Grown.refl _).alloc _ _) gA
  clear fA gA g2
  go_wp2_with fail
  refine bodyPost_ret (v := .tuple #[.agg #[.int .u8 0, .int .u8 0, .int .u8 0, .int .u8 0, .bool false, .int .i32 0], .bool false]) ?_ rfl ⟨rfl, ?_⟩
  · simp [results, Tryz.results74, go_sem, a0, a1, a2, a3, a4, a5]
  · clear a0 a1 a2 a3 a4 a5 c0 c1 c2 c3 c4 c5
    exact Grown.mk2 (by have G := G.lib; go_grown) (by have G := G.bel; go_grown)
set_option maxHeartbeats 1000000 in
theorem rdec_fl_no0 (x o d s t k v : Int) (w : World) (hx : 0 ≤ x ∧ x < 4294967296) (ho : 0 ≤ o ∧ o ≤ 63) (hd : 0 ≤ d ∧ d ≤ 31) (eo : x / 67108864 = o) (ed : x / 2097152 % 32 = d)
    (hs : 0 ≤ s ∧ s ≤ 31) (es : x / 65536 % 32 = s) (ei : x / 32768 % 2 = 0) (ht : 0 ≤ t ∧ t ≤ 31) (et : x % 32 = t) (hk : Hid (rk o = k)) (k3 : k < 3) (hv : Hid (eW o d s t false 0 = v)) (hr : Hid (eE o d s t false 0 = 0)) (hb : (v == x) = false) (hb2 : (v != x) = true) :
    Calls Tryz.prog 74 #[.int .u32 x] w fun e w' => e = .returned (.tuple #[.agg #[.int .u8 0, .int .u8 0, .int .u8 0, .int .u8 0, .bool false, .int .i32 0], .bool false]) ∧ Grown w w' := by
  have ho' : 0 ≤ o ∧ o ≤ 255 := by omega
  go_enter Tryz.func74, Tryz.ntmps74
  go_wp2_with (first
    | (go_at_call 135; refine (rkind_is o k _ ho' hk.out).mono ?_; rintro e w1 ⟨rfl, rfl⟩))
  refine (renc_is o d s t false 0 v 0 _ ho' (by omega) (by omega) (by omega) (by omega) hv.out hr.out).mono ?_; rintro e w2 ⟨rfl, g2⟩
  have gA := grown_trans ((Grown.refl (w.alloc (.cells #[.int .u8 0, .int .u8 0, .int .u8 0, .int .u8 0, .bool false, .int .i32 0] 88))).alloc _ _) g2
  have fA := rnew_frozen gA
  obtain ⟨a0, a1, a2, a3, a4, a5, az⟩ := rinst_cells gA
  have i0 := rinst_cells g2
  simp only [size_new] at i0
  obtain ⟨c0, c1, c2, c3, c4, c5, cz⟩ := i0
  have fA0 := fA 0
  have fA1 := fA 1
  have fA2 := fA 2
  have fA3 := fA 3
  have fA4 := fA 4
  have fA5 := fA 5
  have G : Grown w w2 := grown_trans ((Grown.refl _).alloc _ _) gA
  clear fA gA g2
  go_wp2_with fail
  refine bodyPost_ret (v := .tuple #[.agg #[.int .u8 0, .int .u8 0, .int .u8 0, .int .u8 0, .bool false, .int .i32 0], .bool false]) ?_ rfl ⟨rfl, ?_⟩
  · simp [results, Tryz.results74, go_sem, a0, a1, a2, a3, a4, a5]
  · clear a0 a1 a2 a3 a4 a5 c0 c1 c2 c3 c4 c5
    exact Grown.mk2 (by have G := G.lib; go_grown) (by have G := G.bel; go_grown)
set_option maxHeartbeats 1000000 in
theorem rdec_fl_yes (x o d s t k : Int) (w : World) (hx : 0 ≤ x ∧ x < 4294967296) (ho : 0 ≤ o ∧ o ≤ 63) (hd : 0 ≤ d ∧ d ≤ 31) (eo : x / 67108864 = o) (ed : x / 2097152 % 32 = d)
    (hs : 0 ≤ s ∧ s ≤ 31) (es : x / 65536 % 32 = s) (ei : x / 32768 % 2 = 0) (ht : 0 ≤ t ∧ t ≤ 31) (et : x % 32 = t) (hk : Hid (rk o = k)) (k3 : k < 3) (hv : Hid (eW o d s t false 0 = x)) (hr : Hid (eE o d s t false 0 = 0)) :
    Calls Tryz.prog 74 #[.int .u32 x] w fun e w' => e = .returned (.tuple #[.agg #[.int .u8 o, .int .u8 d, .int .u8 s, .int .u8 t, .bool false, .int .i32 0], .bool true]) ∧ Grown w w' := by
  have ho' : 0 ≤ o ∧ o ≤ 255 := by omega
  go_enter Tryz.func74, Tryz.ntmps74
  go_wp2_with (first
    | (go_at_call 135; refine (rkind_is o k _ ho' hk.out).mono ?_; rintro e w1 ⟨rfl, rfl⟩))
  refine (renc_is o d s t false 0 x 0 _ ho' (by omega) (by omega) (by omega) (by omega) hv.out hr.out).mono ?_; rintro e w2 ⟨rfl, g2⟩
  have gA := grown_trans ((Grown.refl (w.alloc (.cells #[.int .u8 0, .int .u8 0, .int .u8 0, .int .u8 0, .bool false, .int .i32 0] 88))).alloc _ _) g2
  have fA := rnew_frozen gA
  obtain ⟨a0, a1, a2, a3, a4, a5, az⟩ := rinst_cells gA
  have i0 := rinst_cells g2
  simp only [size_new] at i0
  obtain ⟨c0, c1, c2, c3, c4, c5, cz⟩ := i0
  have fA0 := fA 0
  have fA1 := fA 1
  have fA2 := fA 2
  have fA3 := fA 3
  have fA4 := fA 4
  have fA5 := fA 5
  have G : Grown w w2 := grown_trans ((Grown.refl _).alloc _ _) gA
  clear fA gA g2
  go_wp2_with fail
  refine bodyPost_ret (v := .tuple #[.agg #[.int .u8 o, .int .u8 d, .int .u8 s, .int .u8 t, .bool false, .int .i32 0], .bool true]) ?_ rfl ⟨rfl, ?_⟩
  · simp [results, Tryz.results74, go_sem, a0, a1, a2, a3, a4, a5]
  · clear a0 a1 a2 a3 a4 a5 c0 c1 c2 c3 c4 c5
    exact Grown.mk2 (by have G := G.lib; go_grown) (by have G := G.bel; go_grown)
set_option maxHeartbeats 1000000 in
theorem rdec_tg_no2 (x o d q s k n v : Int) (w : World) (hx : 0 ≤ x ∧ x < 4294967296) (ho : 0 ≤ o ∧ o ≤ 63) (hd : 0 ≤ d ∧ d ≤ 31) (eo : x / 67108864 = o) (ed : x / 2097152 % 32 = d)
    (hq : 0 ≤ q ∧ q < 32768) (eq : x % 32768 = q) (hs : 0 ≤ s ∧ s ≤ 31) (es : x / 65536 % 32 = s) (ei : x / 32768 % 2 = 1) (hk : Hid (rk o = k)) (k5 : 5 < k) (hn : -2147483648 ≤ n ∧ n ≤ 2147483647) (en : Hid (sg q 16384 = n)) (hv : Hid (eW o d s 0 true n = v)) (hr : Hid (eE o d s 0 true n = 2)) :
    Calls Tryz.prog 74 #[.int .u32 x] w fun e w' => e = .returned (.tuple #[.agg #[.int .u8 0, .int .u8 0, .int .u8 0, .int .u8 0, .bool false, .int .i32 0], .bool false]) ∧ Grown w w' := by
  have ho' : 0 ≤ o ∧ o ≤ 255 := by omega
  go_enter Tryz.func74, Tryz.ntmps74
  go_wp2_with (first
    | (go_at_call 135; refine (rkind_is o k _ ho' hk.out).mono ?_; rintro e w1 ⟨rfl, rfl⟩)
    | (go_at_call 136; refine (rsigned_is15 q n _ hq en.out).mono ?_; rintro e w1 ⟨rfl, rfl⟩))
  refine (renc_is o d s 0 true n v 2 _ ho' (by omega) (by omega) (by omega) (by omega) hv.out hr.out).mono ?_; rintro e w2 ⟨rfl, g2⟩
  have gA := grown_trans ((Grown.refl (w.alloc (.cells #[.int .u8 0, .int .u8 0, .int .u8 0, .int .u8 0, .bool false, .int .i32 0] 88))).alloc _ _) g2
  have fA := rnew_frozen gA
  obtain ⟨a0, a1, a2, a3, a4, a5, az⟩ := rinst_cells gA
  have i0 := rinst_cells g2
  simp only [size_new] at i0
  obtain ⟨c0, c1, c2, c3, c4, c5, cz⟩ := i0
  have fA0 := fA 0
  have fA1 := fA 1
  have fA2 := fA 2
  have fA3 := fA 3
  have fA4 := fA 4
  have fA5 := fA 5
  have G : Grown w w2 := grown_trans ((Grown.refl _).alloc _ _) gA
  clear fA gA g2
  go_wp2_with fail
  refine bodyPost_ret (v := .tuple #[.agg #[.int .u8 0, .int .u8 0, .int .u8 0, .int .u8 0, .bool false, .int .i32 0], .bool false]) ?_ rfl ⟨rfl, ?_⟩
  · simp [results, Tryz.results74, go_sem, a0, a1, a2, a3, a4, a5]
  · clear a0 a1 a2 a3 a4 a5 c0 c1 c2 c3 c4 c5
    exact Grown.mk2 (by have G := G.lib; go_grown) (by have G := G.bel; go_grown)
set_option maxHeartbeats 1000000 in
theorem rdec_tg_no0 (x o d q s k n v : Int) (w : World) (hx : 0 ≤ x ∧ x < 4294967296) (ho : 0 ≤ o ∧ o ≤ 63) (hd : 0 ≤ d ∧ d ≤ 31) (eo : x / 67108864 = o) (ed : x / 2097152 % 32 = d)
    (hq : 0 ≤ q ∧ q < 32768) (eq : x % 32768 = q) (hs : 0 ≤ s ∧ s ≤ 31) (es : x / 65536 % 32 = s) (ei : x / 32768 % 2 = 1) (hk : Hid (rk o = k)) (k5 : 5 < k) (hn : -2147483648 ≤ n ∧ n ≤ 2147483647) (en : Hid (sg q 16384 = n)) (hv : Hid (eW o d s 0 true n = v)) (hr : Hid (eE o d s 0 true n = 0)) (hb : (v == x) = false) (hb2 : (v != x) = true) :
    Calls Tryz.prog 74 #[.int .u32 x] w fun e w' => e = .returned (.tuple #[.agg #[.int .u8 0, .int .u8 0, .int .u8 0, .int .u8 0, .bool false, .int .i32 0], .bool false]) ∧ Grown w w' := by
  have ho' : 0 ≤ o ∧ o ≤ 255 := by omega
  go_enter Tryz.func74, Tryz.ntmps74
  go_wp2_with (first
    | (go_at_call 135; refine (rkind_is o k _ ho' hk.out).mono ?_; rintro e w1 ⟨rfl, rfl⟩)
    | (go_at_call 136; refine (rsigned_is15 q n _ hq en.out).mono ?_; rintro e w1 ⟨rfl, rfl⟩))
  refine (renc_is o d s 0 true n v 0 _ ho' (by omega) (by omega) (by omega) (by omega) hv.out hr.out).mono ?_; rintro e w2 ⟨rfl, g2⟩
  have gA := grown_trans ((Grown.refl (w.alloc (.cells #[.int .u8 0, .int .u8 0, .int .u8 0, .int .u8 0, .bool false, .int .i32 0] 88))).alloc _ _) g2
  have fA := rnew_frozen gA
  obtain ⟨a0, a1, a2, a3, a4, a5, az⟩ := rinst_cells gA
  have i0 := rinst_cells g2
  simp only [size_new] at i0
  obtain ⟨c0, c1, c2, c3, c4, c5, cz⟩ := i0
  have fA0 := fA 0
  have fA1 := fA 1
  have fA2 := fA 2
  have fA3 := fA 3
  have fA4 := fA 4
  have fA5 := fA 5
  have G : Grown w w2 := grown_trans ((Grown.refl _).alloc _ _) gA
  clear fA gA g2
  go_wp2_with fail
  refine bodyPost_ret (v := .tuple #[.agg #[.int .u8 0, .int .u8 0, .int .u8 0, .int .u8 0, .bool false, .int .i32 0], .bool false]) ?_ rfl ⟨rfl, ?_⟩
  · simp [results, Tryz.results74, go_sem, a0, a1, a2, a3, a4, a5]
  · clear a0 a1 a2 a3 a4 a5 c0 c1 c2 c3 c4 c5
    exact Grown.mk2 (by have G := G.lib; go_grown) (by have G := G.bel; go_grown)
set_option maxHeartbeats 1000000 in
theorem rdec_tg_yes (x o d q s k n : Int) (w : World) (hx : 0 ≤ x ∧ x < 4294967296) (ho : 0 ≤ o ∧ o ≤ 63) (hd : 0 ≤ d ∧ d ≤ 31) (eo : x / 67108864 = o) (ed : x / 2097152 % 32 = d)
    (hq : 0 ≤ q ∧ q < 32768) (eq : x % 32768 = q) (hs : 0 ≤ s ∧ s ≤ 31) (es : x / 65536 % 32 = s) (ei : x / 32768 % 2 = 1) (hk : Hid (rk o = k)) (k5 : 5 < k) (hn : -2147483648 ≤ n ∧ n ≤ 2147483647) (en : Hid (sg q 16384 = n)) (hv : Hid (eW o d s 0 true n = x)) (hr : Hid (eE o d s 0 true n = 0)) :
    Calls Tryz.prog 74 #[.int .u32 x] w fun e w' => e = .returned (.tuple #[.agg #[.int .u8 o, .int .u8 d, .int .u8 s, .int .u8 0, .bool true, .int .i32 n], .bool true]) ∧ Grown w w' := by
  have ho' : 0 ≤ o ∧ o ≤ 255 := by omega
  go_enter Tryz.func74, Tryz.ntmps74
  go_wp2_with (first
    | (go_at_call 135; refine (rkind_is o k _ ho' hk.out).mono ?_; rintro e w1 ⟨rfl, rfl⟩)
    | (go_at_call 136; refine (rsigned_is15 q n _ hq en.out).mono ?_; rintro e w1 ⟨rfl, rfl⟩))
  refine (renc_is o d s 0 true n x 0 _ ho' (by omega) (by omega) (by omega) (by omega) hv.out hr.out).mono ?_; rintro e w2 ⟨rfl, g2⟩
  have gA := grown_trans ((Grown.refl (w.alloc (.cells #[.int .u8 0, .int .u8 0, .int .u8 0, .int .u8 0, .bool false, .int .i32 0] 88))).alloc _ _) g2
  have fA := rnew_frozen gA
  obtain ⟨a0, a1, a2, a3, a4, a5, az⟩ := rinst_cells gA
  have i0 := rinst_cells g2
  simp only [size_new] at i0
  obtain ⟨c0, c1, c2, c3, c4, c5, cz⟩ := i0
  have fA0 := fA 0
  have fA1 := fA 1
  have fA2 := fA 2
  have fA3 := fA 3
  have fA4 := fA 4
  have fA5 := fA 5
  have G : Grown w w2 := grown_trans ((Grown.refl _).alloc _ _) gA
  clear fA gA g2
  go_wp2_with fail
  refine bodyPost_ret (v := .tuple #[.agg #[.int .u8 o, .int .u8 d, .int .u8 s, .int .u8 0, .bool true, .int .i32 n], .bool true]) ?_ rfl ⟨rfl, ?_⟩
  · simp [results, Tryz.results74, go_sem, a0, a1, a2, a3, a4, a5]
  · clear a0 a1 a2 a3 a4 a5 c0 c1 c2 c3 c4 c5
    exact Grown.mk2 (by have G := G.lib; go_grown) (by have G := G.bel; go_grown)
set_option maxHeartbeats 1000000 in
theorem rdec_fg_no2 (x o d s t k v : Int) (w : World) (hx : 0 ≤ x ∧ x < 4294967296) (ho : 0 ≤ o ∧ o ≤ 63) (hd : 0 ≤ d ∧ d ≤ 31) (eo : x / 67108864 = o) (ed : x / 2097152 % 32 = d)
    (hs : 0 ≤ s ∧ s ≤ 31) (es : x / 65536 % 32 = s) (ei : x / 32768 % 2 = 0) (ht : 0 ≤ t ∧ t ≤ 31) (et : x % 32 = t) (hk : Hid (rk o = k)) (k5 : 5 < k) (hv : Hid (eW o d s t false 0 = v)) (hr : Hid (eE o d s t false 0 = 2)) :
    Calls Tryz.prog 74 #[.int .u32 x] w fun e w' => e = .returned (.tuple #[.agg #[.int .u8 0, .int .u8 0, .int .u8 0, .int .u8 0, .bool false, .int .i32 0], .bool false]) ∧ Grown w w' := by
  have ho' : 0 ≤ o ∧ o ≤ 255 := by omega
  go_enter Tryz.func74, Tryz.ntmps74
  go_wp2_with (first
    | (go_at_call 135; refine (rkind_is o k _ ho' hk.out).mono ?_; rintro e w1 ⟨rfl, rfl⟩))
  refine (renc_is o d s t false 0 v 2 _ ho' (by omega) (by omega) (by omega) (by omega) hv.out hr.out).mono ?_; rintro e w2 ⟨rfl, g2⟩
  have gA := grown_trans ((Grown.refl (w.alloc (.cells #[.int .u8 0, .int .u8 0, .int .u8 0, .int .u8 0, .bool false, .int .i32 0] 88))).alloc _ _) g2
  have fA := rnew_frozen gA
  obtain ⟨a0, a1, a2, a3, a4, a5, az⟩ := rinst_cells gA
  have i0 := rinst_cells g2
  simp only [size_new] at i0
  obtain ⟨c0, c1, c2, c3, c4, c5, cz⟩ := i0
  have fA0 := fA 0
  have fA1 := fA 1
  have fA2 := fA 2
  have fA3 := fA 3
  have fA4 := fA 4
  have fA5 := fA 5
  have G : Grown w w2 := grown_trans ((Grown.refl _).alloc _ _) gA
  clear fA gA g2
  go_wp2_with fail
  refine bodyPost_ret (v := .tuple #[.agg #[.int .u8 0, .int .u8 0, .int .u8 0, .int .u8 0, .bool false, .int .i32 0], .bool false]) ?_ rfl ⟨rfl, ?_⟩
  · simp [results, Tryz.results74, go_sem, a0, a1, a2, a3, a4, a5]
  · clear a0 a1 a2 a3 a4 a5 c0 c1 c2 c3 c4 c5
    exact Grown.mk2 (by have G := G.lib; go_grown) (by have G := G.bel; go_grown)
set_option maxHeartbeats 1000000 in
theorem rdec_fg_no0 (x o d s t k v : Int) (w : World) (hx : 0 ≤ x ∧ x < 4294967296) (ho : 0 ≤ o ∧ o ≤ 63) (hd : 0 ≤ d ∧ d ≤ 31) (eo : x / 67108864 = o) (ed : x / 2097152 % 32 = d)
    (hs : 0 ≤ s ∧ s ≤ 31) (es : x / 65536 % 32 = s) (ei : x / 32768 % 2 = 0) (ht : 0 ≤ t ∧ t ≤ 31) (et : x % 32 = t) (hk : Hid (rk o = k)) (k5 : 5 < k) (hv : Hid (eW o d s t false 0 = v)) (hr : Hid (eE o d s t false 0 = 0)) (hb : (v == x) = false) (hb2 : (v != x) = true) :
    Calls Tryz.prog 74 #[.int .u32 x] w fun e w' => e = .returned (.tuple #[.agg #[.int .u8 0, .int .u8 0, .int .u8 0, .int .u8 0, .bool false, .int .i32 0], .bool false]) ∧ Grown w w' := by
  have ho' : 0 ≤ o ∧ o ≤ 255 := by omega
  go_enter Tryz.func74, Tryz.ntmps74
  go_wp2_with (first
    | (go_at_call 135; refine (rkind_is o k _ ho' hk.out).mono ?_; rintro e w1 ⟨rfl, rfl⟩))
  refine (renc_is o d s t false 0 v 0 _ ho' (by omega) (by omega) (by omega) (by omega) hv.out hr.out).mono ?_; rintro e w2 ⟨rfl, g2⟩
  have gA := grown_trans ((Grown.refl (w.alloc (.cells #[.int .u8 0, .int .u8 0, .int .u8 0, .int .u8 0, .bool false, .int .i32 0] 88))).alloc _ _) g2
  have fA := rnew_frozen gA
  obtain ⟨a0, a1, a2, a3, a4, a5, az⟩ := rinst_cells gA
  have i0 := rinst_cells g2
  simp only [size_new] at i0
  obtain ⟨c0, c1, c2, c3, c4, c5, cz⟩ := i0
  have fA0 := fA 0
  have fA1 := fA 1
  have fA2 := fA 2
  have fA3 := fA 3
  have fA4 := fA 4
  have fA5 := fA 5
  have G : Grown w w2 := grown_trans ((Grown.refl _).alloc _ _) gA
  clear fA gA g2
  go_wp2_with fail
  refine bodyPost_ret (v := .tuple #[.agg #[.int .u8 0, .int .u8 0, .int .u8 0, .int .u8 0, .bool false, .int .i32 0], .bool false]) ?_ rfl ⟨rfl, ?_⟩
  · simp [results, Tryz.results74, go_sem, a0, a1, a2, a3, a4, a5]
  · clear a0 a1 a2 a3 a4 a5 c0 c1 c2 c3 c4 c5
    exact Grown.mk2 (by have G := G.lib; go_grown) (by have G := G.bel; go_grown)
set_option maxHeartbeats 1000000 in
theorem rdec_fg_yes (x o d s t k : Int) (w : World) (hx : 0 ≤ x ∧ x < 4294967296) (ho : 0 ≤ o ∧ o ≤ 63) (hd : 0 ≤ d ∧ d ≤ 31) (eo : x / 67108864 = o) (ed : x / 2097152 % 32 = d)
    (hs : 0 ≤ s ∧ s ≤ 31) (es : x / 65536 % 32 = s) (ei : x / 32768 % 2 = 0) (ht : 0 ≤ t ∧ t ≤ 31) (et : x % 32 = t) (hk : Hid (rk o = k)) (k5 : 5 < k) (hv : Hid (eW o d s t false 0 = x)) (hr : Hid (eE o d s t false 0 = 0)) :
    Calls Tryz.prog 74 #[.int .u32 x] w fun e w' => e = .returned (.tuple #[.agg #[.int .u8 o, .int .u8 d, .int .u8 s, .int .u8 t, .bool false, .int .i32 0], .bool true]) ∧ Grown w w' := by
  have ho' : 0 ≤ o ∧ o ≤ 255 := by omega
  go_enter Tryz.func74, Tryz.ntmps74
  go_wp2_with (first
    | (go_at_call 135; refine (rkind_is o k _ ho' hk.out).mono ?_; rintro e w1 ⟨rfl, rfl⟩))
  refine (renc_is o d s t false 0 x 0 _ ho' (by omega) (by omega) (by omega) (by omega) hv.out hr.out).mono ?_; rintro e w2 ⟨rfl, g2⟩
  have gA := grown_trans ((Grown.refl (w.alloc (.cells #[.int .u8 0, .int .u8 0, .int .u8 0, .int .u8 0, .bool false, .int .i32 0] 88))).alloc _ _) g2
  have fA := rnew_frozen gA
  obtain ⟨a0, a1, a2, a3, a4, a5, az⟩ := rinst_cells gA
  have i0 := rinst_cells g2
  simp only [size_new] at i0
  obtain ⟨c0, c1, c2, c3, c4, c5, cz⟩ := i0
  have fA0 := fA 0
  have fA1 := fA 1
  have fA2 := fA 2
  have fA3 := fA 3
  have fA4 := fA 4
  have fA5 := fA 5
  have G : Grown w w2 := grown_trans ((Grown.refl _).alloc _ _) gA
  clear fA gA g2
  go_wp2_with fail
  refine bodyPost_ret (v := .tuple #[.agg #[.int .u8 o, .int .u8 d, .int .u8 s, .int .u8 t, .bool false, .int .i32 0], .bool true]) ?_ rfl ⟨rfl, ?_⟩
  · simp [results, Tryz.results74, go_sem, a0, a1, a2, a3, a4, a5]
  · clear a0 a1 a2 a3 a4 a5 c0 c1 c2 c3 c4 c5
    exact Grown.mk2 (by have G := G.lib; go_grown) (by have G := G.bel; go_grown)
theorem dfin_no {x : Int} (h : dk x = false) : dO x = 0 ∧ dD x = 0 ∧ dS x = 0 ∧ dT x = 0 ∧ dB x = false ∧ dN x = 0 := by
  unfold dO dD dS dT dB dN
  rw [h]
  exact ⟨rfl, rfl, rfl, rfl, rfl, rfl⟩
theorem dfin_yes {x : Int} (h : dk x = true) : dO x = cO x ∧ dD x = cD x ∧ dS x = cS x ∧ dT x = cT x ∧ dB x = cB x ∧ dN x = cN x := by
  unfold dO dD dS dT dB dN
  rw [h]
  exact ⟨rfl, rfl, rfl, rfl, by simp, rfl⟩
/-- What the document's Decode comes to, whatever the word. -/
theorem rdec_any (x : Int) (w : World) (hx : 0 ≤ x ∧ x < 4294967296) :
    Calls Tryz.prog 74 #[.int .u32 x] w fun e w' => e = .returned (.tuple #[.agg #[.int .u8 (dO x), .int .u8 (dD x), .int .u8 (dS x), .int .u8 (dT x), .bool (dB x), .int .i32 (dN x)], .bool (dk x)]) ∧ Grown w w' := by
  have ho : 0 ≤ cO x ∧ cO x ≤ 63 := by unfold cO; omega
  have hd : 0 ≤ cD x ∧ cD x ≤ 31 := by unfold cD; omega
  by_cases hw : Wd (cO x)
  · have e1 : cS x = 0 := by unfold cS; rw [if_pos hw]
    have e2 : cT x = 0 := by unfold cT; rw [if_pos hw]
    have e3 : cB x = true := by unfold cB; simp [hw]
    have hw' := hw
    rcases hw with h15 | h15 | h15
    · have e4 : cN x = x % 2097152 := by unfold cN; rw [if_pos hw', if_pos h15]
      have hr : rk (cO x) = 3 := rk3 h15
      have D : dk x = (may (cO x) (cD x) 0 0 true (x % 2097152) && enc (cO x) (cD x) 0 0 true (x % 2097152) == x) := by unfold dk cM cE; rw [e1, e2, e3, e4]
      cases hm : may (cO x) (cD x) 0 0 true (x % 2097152)
      · rw [hm, Bool.false_and] at D
        obtain ⟨f1, f2, f3, f4, f5, f6⟩ := dfin_no D
        rw [D, f1, f2, f3, f4, f5, f6]
        exact rdec_s_no2 x (cO x) (cD x) (x % 2097152) _ w hx ho hd rfl rfl (by omega) rfl hr rfl (eE_no hm)
      · rw [hm, Bool.true_and] at D
        cases hq : enc (cO x) (cD x) 0 0 true (x % 2097152) == x
        · rw [hq] at D
          obtain ⟨f1, f2, f3, f4, f5, f6⟩ := dfin_no D
          rw [D, f1, f2, f3, f4, f5, f6]
          exact rdec_s_no0 x (cO x) (cD x) (x % 2097152) _ w hx ho hd rfl rfl (by omega) rfl hr rfl (eE_yes hm) (by rw [eW_yes hm]; exact hq) (by rw [eW_yes hm]; simpa using hq)
        · rw [hq] at D
          obtain ⟨f1, f2, f3, f4, f5, f6⟩ := dfin_yes D
          rw [D, f1, f2, f3, f4, f5, f6, e1, e2, e3, e4]
          exact rdec_s_yes x (cO x) (cD x) (x % 2097152)  w hx ho hd rfl rfl (by omega) rfl hr ((eW_yes hm).trans (by simpa using hq)) (eE_yes hm)
    · have e4 : cN x = sg (x % 2097152) 1048576 := by unfold cN; rw [if_pos hw', if_neg (by omega)]
      have hr : rk (cO x) = 4 := rk4 h15
      have hn : -2147483648 ≤ sg (x % 2097152) 1048576 ∧ sg (x % 2097152) 1048576 ≤ 2147483647 := by unfold sg; split <;> omega
      have D : dk x = (may (cO x) (cD x) 0 0 true (sg (x % 2097152) 1048576) && enc (cO x) (cD x) 0 0 true (sg (x % 2097152) 1048576) == x) := by unfold dk cM cE; rw [e1, e2, e3, e4]
      cases hm : may (cO x) (cD x) 0 0 true (sg (x % 2097152) 1048576)
      · rw [hm, Bool.false_and] at D
        obtain ⟨f1, f2, f3, f4, f5, f6⟩ := dfin_no D
        rw [D, f1, f2, f3, f4, f5, f6]
        exact rdec_c4_no2 x (cO x) (cD x) (x % 2097152) (sg (x % 2097152) 1048576) _ w hx ho hd rfl rfl (by omega) rfl hr hn rfl rfl (eE_no hm)
      · rw [hm, Bool.true_and] at D
        cases hq : enc (cO x) (cD x) 0 0 true (sg (x % 2097152) 1048576) == x
        · rw [hq] at D
          obtain ⟨f1, f2, f3, f4, f5, f6⟩ := dfin_no D
          rw [D, f1, f2, f3, f4, f5, f6]
          exact rdec_c4_no0 x (cO x) (cD x) (x % 2097152) (sg (x % 2097152) 1048576) _ w hx ho hd rfl rfl (by omega) rfl hr hn rfl rfl (eE_yes hm) (by rw [eW_yes hm]; exact hq) (by rw [eW_yes hm]; simpa using hq)
        · rw [hq] at D
          obtain ⟨f1, f2, f3, f4, f5, f6⟩ := dfin_yes D
          rw [D, f1, f2, f3, f4, f5, f6, e1, e2, e3, e4]
          exact rdec_c4_yes x (cO x) (cD x) (x % 2097152) (sg (x % 2097152) 1048576)  w hx ho hd rfl rfl (by omega) rfl hr hn rfl ((eW_yes hm).trans (by simpa using hq)) (eE_yes hm)
    · have e4 : cN x = sg (x % 2097152) 1048576 := by unfold cN; rw [if_pos hw', if_neg (by omega)]
      have hr : rk (cO x) = 5 := rk5 h15
      have hn : -2147483648 ≤ sg (x % 2097152) 1048576 ∧ sg (x % 2097152) 1048576 ≤ 2147483647 := by unfold sg; split <;> omega
      have D : dk x = (may (cO x) (cD x) 0 0 true (sg (x % 2097152) 1048576) && enc (cO x) (cD x) 0 0 true (sg (x % 2097152) 1048576) == x) := by unfold dk cM cE; rw [e1, e2, e3, e4]
      cases hm : may (cO x) (cD x) 0 0 true (sg (x % 2097152) 1048576)
      · rw [hm, Bool.false_and] at D
        obtain ⟨f1, f2, f3, f4, f5, f6⟩ := dfin_no D
        rw [D, f1, f2, f3, f4, f5, f6]
        exact rdec_c5_no2 x (cO x) (cD x) (x % 2097152) (sg (x % 2097152) 1048576) _ w hx ho hd rfl rfl (by omega) rfl hr hn rfl rfl (eE_no hm)
      · rw [hm, Bool.true_and] at D
        cases hq : enc (cO x) (cD x) 0 0 true (sg (x % 2097152) 1048576) == x
        · rw [hq] at D
          obtain ⟨f1, f2, f3, f4, f5, f6⟩ := dfin_no D
          rw [D, f1, f2, f3, f4, f5, f6]
          exact rdec_c5_no0 x (cO x) (cD x) (x % 2097152) (sg (x % 2097152) 1048576) _ w hx ho hd rfl rfl (by omega) rfl hr hn rfl rfl (eE_yes hm) (by rw [eW_yes hm]; exact hq) (by rw [eW_yes hm]; simpa using hq)
        · rw [hq] at D
          obtain ⟨f1, f2, f3, f4, f5, f6⟩ := dfin_yes D
          rw [D, f1, f2, f3, f4, f5, f6, e1, e2, e3, e4]
          exact rdec_c5_yes x (cO x) (cD x) (x % 2097152) (sg (x % 2097152) 1048576)  w hx ho hd rfl rfl (by omega) rfl hr hn rfl ((eW_yes hm).trans (by simpa using hq)) (eE_yes hm)
  · have e1 : cS x = x / 65536 % 32 := by unfold cS; rw [if_neg hw]
    cases hb : x / 32768 % 2 == 1
    · have hi0 : x / 32768 % 2 = 0 := by have := of_decide_eq_false hb; omega
      have e2 : cT x = x % 32 := by unfold cT; rw [if_neg hw, hb, if_neg (by decide)]
      have e3 : cB x = false := by unfold cB; rw [hb]; simp [hw]
      have e4 : cN x = 0 := by unfold cN; rw [if_neg hw, hb, if_neg (by decide)]
      rcases rk_wd (cO x) with ⟨hw2, _⟩ | ⟨_, k3⟩ | ⟨_, k3⟩
      · exact absurd hw2 hw
      · have D : dk x = (may (cO x) (cD x) (x / 65536 % 32) (x % 32) false 0 && enc (cO x) (cD x) (x / 65536 % 32) (x % 32) false 0 == x) := by unfold dk cM cE; rw [e1, e2, e3, e4]
        cases hm : may (cO x) (cD x) (x / 65536 % 32) (x % 32) false 0
        · rw [hm, Bool.false_and] at D
          obtain ⟨f1, f2, f3, f4, f5, f6⟩ := dfin_no D
          rw [D, f1, f2, f3, f4, f5, f6]
          exact rdec_fl_no2 x (cO x) (cD x) (x / 65536 % 32) (x % 32) (rk (cO x)) _ w hx ho hd rfl rfl (by omega) rfl hi0 (by omega) rfl rfl k3 rfl (eE_no hm)
        · rw [hm, Bool.true_and] at D
          cases hq : enc (cO x) (cD x) (x / 65536 % 32) (x % 32) false 0 == x
          · rw [hq] at D
            obtain ⟨f1, f2, f3, f4, f5, f6⟩ := dfin_no D
            rw [D, f1, f2, f3, f4, f5, f6]
            exact rdec_fl_no0 x (cO x) (cD x) (x / 65536 % 32) (x % 32) (rk (cO x)) _ w hx ho hd rfl rfl (by omega) rfl hi0 (by omega) rfl rfl k3 rfl (eE_yes hm) (by rw [eW_yes hm]; exact hq) (by rw [eW_yes hm]; simpa using hq)
          · rw [hq] at D
            obtain ⟨f1, f2, f3, f4, f5, f6⟩ := dfin_yes D
            rw [D, f1, f2, f3, f4, f5, f6, e1, e2, e3, e4]
            exact rdec_fl_yes x (cO x) (cD x) (x / 65536 % 32) (x % 32) (rk (cO x))  w hx ho hd rfl rfl (by omega) rfl hi0 (by omega) rfl rfl k3 ((eW_yes hm).trans (by simpa using hq)) (eE_yes hm)
      · have D : dk x = (may (cO x) (cD x) (x / 65536 % 32) (x % 32) false 0 && enc (cO x) (cD x) (x / 65536 % 32) (x % 32) false 0 == x) := by unfold dk cM cE; rw [e1, e2, e3, e4]
        cases hm : may (cO x) (cD x) (x / 65536 % 32) (x % 32) false 0
        · rw [hm, Bool.false_and] at D
          obtain ⟨f1, f2, f3, f4, f5, f6⟩ := dfin_no D
          rw [D, f1, f2, f3, f4, f5, f6]
          exact rdec_fg_no2 x (cO x) (cD x) (x / 65536 % 32) (x % 32) (rk (cO x)) _ w hx ho hd rfl rfl (by omega) rfl hi0 (by omega) rfl rfl k3 rfl (eE_no hm)
        · rw [hm, Bool.true_and] at D
          cases hq : enc (cO x) (cD x) (x / 65536 % 32) (x % 32) false 0 == x
          · rw [hq] at D
            obtain ⟨f1, f2, f3, f4, f5, f6⟩ := dfin_no D
            rw [D, f1, f2, f3, f4, f5, f6]
            exact rdec_fg_no0 x (cO x) (cD x) (x / 65536 % 32) (x % 32) (rk (cO x)) _ w hx ho hd rfl rfl (by omega) rfl hi0 (by omega) rfl rfl k3 rfl (eE_yes hm) (by rw [eW_yes hm]; exact hq) (by rw [eW_yes hm]; simpa using hq)
          · rw [hq] at D
            obtain ⟨f1, f2, f3, f4, f5, f6⟩ := dfin_yes D
            rw [D, f1, f2, f3, f4, f5, f6, e1, e2, e3, e4]
            exact rdec_fg_yes x (cO x) (cD x) (x / 65536 % 32) (x % 32) (rk (cO x))  w hx ho hd rfl rfl (by omega) rfl hi0 (by omega) rfl rfl k3 ((eW_yes hm).trans (by simpa using hq)) (eE_yes hm)
    · have hi1 : x / 32768 % 2 = 1 := by simpa using hb
      have e2 : cT x = 0 := by unfold cT; rw [if_neg hw, hb, if_pos rfl]
      have e3 : cB x = true := by unfold cB; rw [hb]; simp
      have e4 : cN x = sg (x % 32768) 16384 := by unfold cN; rw [if_neg hw, hb, if_pos rfl]
      have hn : -2147483648 ≤ sg (x % 32768) 16384 ∧ sg (x % 32768) 16384 ≤ 2147483647 := by unfold sg; split <;> omega
      rcases rk_wd (cO x) with ⟨hw2, _⟩ | ⟨_, k3⟩ | ⟨_, k3⟩
      · exact absurd hw2 hw
      · have D : dk x = (may (cO x) (cD x) (x / 65536 % 32) 0 true (sg (x % 32768) 16384) && enc (cO x) (cD x) (x / 65536 % 32) 0 true (sg (x % 32768) 16384) == x) := by unfold dk cM cE; rw [e1, e2, e3, e4]
        cases hm : may (cO x) (cD x) (x / 65536 % 32) 0 true (sg (x % 32768) 16384)
        · rw [hm, Bool.false_and] at D
          obtain ⟨f1, f2, f3, f4, f5, f6⟩ := dfin_no D
          rw [D, f1, f2, f3, f4, f5, f6]
          exact rdec_tl_no2 x (cO x) (cD x) (x % 32768) (x / 65536 % 32) (rk (cO x)) (sg (x % 32768) 16384) _ w hx ho hd rfl rfl (by omega) rfl (by omega) rfl hi1 rfl k3 hn rfl rfl (eE_no hm)
        · rw [hm, Bool.true_and] at D
          cases hq : enc (cO x) (cD x) (x / 65536 % 32) 0 true (sg (x % 32768) 16384) == x
          · rw [hq] at D
            obtain ⟨f1, f2, f3, f4, f5, f6⟩ := dfin_no D
            rw [D, f1, f2, f3, f4, f5, f6]
            exact rdec_tl_no0 x (cO x) (cD x) (x % 32768) (x / 65536 % 32) (rk (cO x)) (sg (x % 32768) 16384) _ w hx ho hd rfl rfl (by omega) rfl (by omega) rfl hi1 rfl k3 hn rfl rfl (eE_yes hm) (by rw [eW_yes hm]; exact hq) (by rw [eW_yes hm]; simpa using hq)
          · rw [hq] at D
            obtain ⟨f1, f2, f3, f4, f5, f6⟩ := dfin_yes D
            rw [D, f1, f2, f3, f4, f5, f6, e1, e2, e3, e4]
            exact rdec_tl_yes x (cO x) (cD x) (x % 32768) (x / 65536 % 32) (rk (cO x)) (sg (x % 32768) 16384)  w hx ho hd rfl rfl (by omega) rfl (by omega) rfl hi1 rfl k3 hn rfl ((eW_yes hm).trans (by simpa using hq)) (eE_yes hm)
      · have D : dk x = (may (cO x) (cD x) (x / 65536 % 32) 0 true (sg (x % 32768) 16384) && enc (cO x) (cD x) (x / 65536 % 32) 0 true (sg (x % 32768) 16384) == x) := by unfold dk cM cE; rw [e1, e2, e3, e4]
        cases hm : may (cO x) (cD x) (x / 65536 % 32) 0 true (sg (x % 32768) 16384)
        · rw [hm, Bool.false_and] at D
          obtain ⟨f1, f2, f3, f4, f5, f6⟩ := dfin_no D
          rw [D, f1, f2, f3, f4, f5, f6]
          exact rdec_tg_no2 x (cO x) (cD x) (x % 32768) (x / 65536 % 32) (rk (cO x)) (sg (x % 32768) 16384) _ w hx ho hd rfl rfl (by omega) rfl (by omega) rfl hi1 rfl k3 hn rfl rfl (eE_no hm)
        · rw [hm, Bool.true_and] at D
          cases hq : enc (cO x) (cD x) (x / 65536 % 32) 0 true (sg (x % 32768) 16384) == x
          · rw [hq] at D
            obtain ⟨f1, f2, f3, f4, f5, f6⟩ := dfin_no D
            rw [D, f1, f2, f3, f4, f5, f6]
            exact rdec_tg_no0 x (cO x) (cD x) (x % 32768) (x / 65536 % 32) (rk (cO x)) (sg (x % 32768) 16384) _ w hx ho hd rfl rfl (by omega) rfl (by omega) rfl hi1 rfl k3 hn rfl rfl (eE_yes hm) (by rw [eW_yes hm]; exact hq) (by rw [eW_yes hm]; simpa using hq)
          · rw [hq] at D
            obtain ⟨f1, f2, f3, f4, f5, f6⟩ := dfin_yes D
            rw [D, f1, f2, f3, f4, f5, f6, e1, e2, e3, e4]
            exact rdec_tg_yes x (cO x) (cD x) (x % 32768) (x / 65536 % 32) (rk (cO x)) (sg (x % 32768) 16384)  w hx ho hd rfl rfl (by omega) rfl (by omega) rfl hi1 rfl k3 hn rfl ((eW_yes hm).trans (by simpa using hq)) (eE_yes hm)
end Go.Proofs.YtiobgnelhiadbaaGreatDoor.I2
