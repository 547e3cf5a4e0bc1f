/- The walk of layer 2's statement InstUnlike: it returns true, in any world that holds the table of fields; memory has at most new blocks. -/
import Derived.Test.YtpcaffjkiodkkaaDoorInstHead
namespace Go.Proofs.YtpcaffjkiodkkaaDoor
open Go.RowKit
set_option linter.unusedVariables false
/-- Are two instructions the same, field by field. -/
def sm (o d s t : Int) (b : Bool) (n o2 d2 s2 t2 : Int) (b2 : Bool) (n2 : Int) : Bool := o == o2 && (d == d2 && (s == s2 && (t == t2 && (b == b2 && n == n2))))
theorem eq_inst (o d s t : Int) (b : Bool) (n o2 d2 s2 t2 : Int) (b2 : Bool) (n2 : Int) (W : World) :
    (Op.equalIn 10000 23 (.agg #[.int .u8 o, .int .u8 d, .int .u8 s, .int .u8 t, .bool b, .int .i32 n]) (.agg #[.int .u8 o2, .int .u8 d2, .int .u8 s2, .int .u8 t2, .bool b2, .int .i32 n2])).run Tryd.prog W = .ok (sm o d s t b n o2 d2 s2 t2 b2 n2) W := by
  unfold sm
  cases h1 : o == o2
  · go_simp
  cases h2 : d == d2
  · go_simp
  cases h3 : s == s2
  · go_simp
  cases h4 : t == t2
  · go_simp
  cases h5 : b == b2
  · go_simp
  cases h6 : n == n2
  · go_simp
  · go_simp
theorem sm_no {o d s t : Int} {b : Bool} {n o2 d2 s2 t2 : Int} {b2 : Bool} {n2 : Int} (h : ¬ (o = o2 ∧ d = d2 ∧ s = s2 ∧ t = t2 ∧ b = b2 ∧ n = n2)) : sm o d s t b n o2 d2 s2 t2 b2 n2 = false := by
  cases hs : sm o d s t b n o2 d2 s2 t2 b2 n2
  · rfl
  · refine absurd ?_ h
    simpa [sm] using hs
theorem xor_other (v k : Int) (hv : 0 ≤ v ∧ v < 4294967296) (hk : 0 ≤ k ∧ k ≤ 255) : (0 ≤ bits .xor .u32 v (2 ^ (k % 32).toNat % 4294967296) ∧ bits .xor .u32 v (2 ^ (k % 32).toNat % 4294967296) < 4294967296) ∧ bits .xor .u32 v (2 ^ (k % 32).toNat % 4294967296) ≠ v := by
  obtain ⟨a, rfl⟩ := Int.eq_ofNat_of_zero_le hv.1
  have hj : (k % 32).toNat ≤ 31 := by omega
  generalize (k % 32).toNat = j at hj
  have h1 : (1 : Nat) ≤ 2 ^ j := Nat.one_le_two_pow
  have h2 : (2 : Nat) ^ j ≤ 2 ^ 31 := Nat.pow_le_pow_right (by decide) hj
  have h3 : (2 : Nat) ^ 31 = 2147483648 := by decide
  have e : (2 : Int) ^ j % 4294967296 = ((2 ^ j : Nat) : Int) := by
    have e0 : ((2 ^ j : Nat) : Int) = (2 : Int) ^ j := by simp
    rw [← e0]; omega
  rw [e]
  generalize (2 : Nat) ^ j = m at h1 h2
  refine ⟨?_, ?_⟩
  · unfold bits
    rw [IntKind.wrap_u32']
    omega
  · rw [u32_xor_nat a m (by omega) (by omega)]
    intro h
    have h4 : a ^^^ m = a := by omega
    have h5 : a ^^^ (a ^^^ m) = m := by rw [← Nat.xor_assoc, Nat.xor_self, Nat.zero_xor]
    rw [h4, Nat.xor_self] at h5
    omega
set_option maxHeartbeats 2000000 in
theorem unlike_no (o d s t : Int) (b : Bool) (n v o2 d2 s2 t2 : Int) (b2 : Bool) (n2 u q k : Int) (w : World) (hT : Tab w) (ho : 0 ≤ o ∧ o ≤ 255) (hd : 0 ≤ d ∧ d ≤ 255) (hs : 0 ≤ s ∧ s ≤ 255) (ht : 0 ≤ t ∧ t ≤ 255)
    (ho2 : 0 ≤ o2 ∧ o2 ≤ 255) (hd2 : 0 ≤ d2 ∧ d2 ≤ 255) (hs2 : 0 ≤ s2 ∧ s2 ≤ 255) (ht2 : 0 ≤ t2 ∧ t2 ≤ 255)
    (hv : Hid (eW o d s t b n = v)) (hr : Hid (eE o d s t b n = 2)) (hv2 : Hid (eW o2 d2 s2 t2 b2 n2 = u)) (hr2 : Hid (eE o2 d2 s2 t2 b2 n2 = q)) (hk : 0 ≤ k ∧ k ≤ 255) :
    Calls Tryd.prog 5 #[.agg #[.int .u8 o, .int .u8 d, .int .u8 s, .int .u8 t, .bool b, .int .i32 n], .agg #[.int .u8 o2, .int .u8 d2, .int .u8 s2, .int .u8 t2, .bool b2, .int .i32 n2], .int .u8 k] w fun e w' => e = .returned (.bool true) ∧ Grown w w' := by
  go_enter Tryd.func5, Tryd.ntmps5
  go_wp2_with fail
  refine (enc_is o d s t b n v 2 _ (hT.grown (((Grown.refl _).alloc _ _).alloc _ _)) ho hd hs ht hv.out hr.out).mono ?_; rintro e w1 ⟨rfl, g1⟩
  have i0 := inst_cells g1
  simp only [size_new] at i0
  obtain ⟨c0, c1, c2, c3, c4, c5, cz⟩ := i0
  go_wp2_with fail
  refine (enc_is o2 d2 s2 t2 b2 n2 u q _ (hT.grown (grown_trans (((Grown.refl _).alloc _ _).alloc _ _) g1)) ho2 hd2 hs2 ht2 hv2.out hr2.out).mono ?_; rintro e w2 ⟨rfl, g2⟩
  have gA := grown_trans ((Grown.refl (w.alloc (.cells #[.int .u8 o, .int .u8 d, .int .u8 s, .int .u8 t, .bool b, .int .i32 n] 23))).alloc _ _) (grown_trans g1 g2)
  have G2 : Grown w w2 := grown_trans ((Grown.refl _).alloc _ _) gA
  obtain ⟨a0, a1, a2, a3, a4, a5, az⟩ := inst_cells gA
  clear c0 c1 c2 c3 c4 c5 cz
  have i0 := inst_cells (grown_trans g1 g2)
  simp only [size_new] at i0
  obtain ⟨c0, c1, c2, c3, c4, c5, cz⟩ := i0
  clear g1 g2
  go_wp2_with fail
  refine (head_any _ (hT.grown G2)).mono ?_; rintro e w4 ⟨rfl, g4⟩
  go_wp2_with fail
  go_ret
  exact ⟨rfl, grown_trans G2 g4⟩
set_option maxHeartbeats 2000000 in
theorem unlike_bn (o d s t : Int) (b : Bool) (n v o2 d2 s2 t2 : Int) (b2 : Bool) (n2 u k y : Int) (w : World) (hT : Tab w) (ho : 0 ≤ o ∧ o ≤ 255) (hd : 0 ≤ d ∧ d ≤ 255) (hs : 0 ≤ s ∧ s ≤ 255) (ht : 0 ≤ t ∧ t ≤ 255)
    (ho2 : 0 ≤ o2 ∧ o2 ≤ 255) (hd2 : 0 ≤ d2 ∧ d2 ≤ 255) (hs2 : 0 ≤ s2 ∧ s2 ≤ 255) (ht2 : 0 ≤ t2 ∧ t2 ≤ 255)
    (hv : Hid (eW o d s t b n = v)) (hr : Hid (eE o d s t b n = 0)) (hv2 : Hid (eW o2 d2 s2 t2 b2 n2 = u)) (hr2 : Hid (eE o2 d2 s2 t2 b2 n2 = 2)) (hk : 0 ≤ k ∧ k ≤ 255) (hy : 0 ≤ y ∧ y < 4294967296) (ey : bits .xor .u32 v (2 ^ (k % 32).toNat % 4294967296) = y) (h : Hid (dk y = false)) (H1 : Hid (dO y = 0)) (H2 : Hid (dD y = 0)) (H3 : Hid (dS y = 0)) (H4 : Hid (dT y = 0)) (H5 : Hid (dB y = false)) (H6 : Hid (dN y = 0)) :
    Calls Tryd.prog 5 #[.agg #[.int .u8 o, .int .u8 d, .int .u8 s, .int .u8 t, .bool b, .int .i32 n], .agg #[.int .u8 o2, .int .u8 d2, .int .u8 s2, .int .u8 t2, .bool b2, .int .i32 n2], .int .u8 k] w fun e w' => e = .returned (.bool true) ∧ Grown w w' := by
  go_enter Tryd.func5, Tryd.ntmps5
  go_wp2_with fail
  refine (enc_is o d s t b n v 0 _ (hT.grown (((Grown.refl _).alloc _ _).alloc _ _)) ho hd hs ht hv.out hr.out).mono ?_; rintro e w1 ⟨rfl, g1⟩
  have i0 := inst_cells g1
  simp only [size_new] at i0
  obtain ⟨c0, c1, c2, c3, c4, c5, cz⟩ := i0
  go_wp2_with fail
  refine (enc_is o2 d2 s2 t2 b2 n2 u 2 _ (hT.grown (grown_trans (((Grown.refl _).alloc _ _).alloc _ _) g1)) ho2 hd2 hs2 ht2 hv2.out hr2.out).mono ?_; rintro e w2 ⟨rfl, g2⟩
  have gA := grown_trans ((Grown.refl (w.alloc (.cells #[.int .u8 o, .int .u8 d, .int .u8 s, .int .u8 t, .bool b, .int .i32 n] 23))).alloc _ _) (grown_trans g1 g2)
  have G2 : Grown w w2 := grown_trans ((Grown.refl _).alloc _ _) gA
  obtain ⟨a0, a1, a2, a3, a4, a5, az⟩ := inst_cells gA
  clear c0 c1 c2 c3 c4 c5 cz
  have i0 := inst_cells (grown_trans g1 g2)
  simp only [size_new] at i0
  obtain ⟨c0, c1, c2, c3, c4, c5, cz⟩ := i0
  clear g1 g2
  go_wp2_with fail
  clear a0 a1 a2 a3 a4 a5 az c0 c1 c2 c3 c4 c5 cz
  refine (dec_is y 0 0 0 0 false 0 false _ (hT.grown G2) hy h.out H1.out H2.out H3.out H4.out H5.out H6.out).mono ?_; rintro e w3 ⟨rfl, g3⟩
  have gB := grown_trans gA g3
  obtain ⟨a0, a1, a2, a3, a4, a5, az⟩ := inst_cells gB
  have G3 := (grown_trans G2 g3).alloc #[.int .u8 0, .int .u8 0, .int .u8 0, .int .u8 0, .bool false, .int .i32 0] 23
  go_wp2_with fail
  refine (head_any _ (hT.grown G3)).mono ?_; rintro e w4 ⟨rfl, g4⟩
  go_wp2_with fail
  go_ret
  exact ⟨rfl, grown_trans G3 g4⟩
set_option maxHeartbeats 2000000 in
theorem unlike_sn (o d s t : Int) (b : Bool) (n v k y : Int) (w : World) (hT : Tab w) (ho : 0 ≤ o ∧ o ≤ 255) (hd : 0 ≤ d ∧ d ≤ 255) (hs : 0 ≤ s ∧ s ≤ 255) (ht : 0 ≤ t ∧ t ≤ 255)
    
    (hv : Hid (eW o d s t b n = v)) (hr : Hid (eE o d s t b n = 0)) (hk : 0 ≤ k ∧ k ≤ 255) (hy : 0 ≤ y ∧ y < 4294967296) (ey : bits .xor .u32 v (2 ^ (k % 32).toNat % 4294967296) = y) (h : Hid (dk y = false)) (H1 : Hid (dO y = 0)) (H2 : Hid (dD y = 0)) (H3 : Hid (dS y = 0)) (H4 : Hid (dT y = 0)) (H5 : Hid (dB y = false)) (H6 : Hid (dN y = 0)) :
    Calls Tryd.prog 5 #[.agg #[.int .u8 o, .int .u8 d, .int .u8 s, .int .u8 t, .bool b, .int .i32 n], .agg #[.int .u8 o, .int .u8 d, .int .u8 s, .int .u8 t, .bool b, .int .i32 n], .int .u8 k] w fun e w' => e = .returned (.bool true) ∧ Grown w w' := by
  go_enter Tryd.func5, Tryd.ntmps5
  go_wp2_with fail
  refine (enc_is o d s t b n v 0 _ (hT.grown (((Grown.refl _).alloc _ _).alloc _ _)) ho hd hs ht hv.out hr.out).mono ?_; rintro e w1 ⟨rfl, g1⟩
  have i0 := inst_cells g1
  simp only [size_new] at i0
  obtain ⟨c0, c1, c2, c3, c4, c5, cz⟩ := i0
  go_wp2_with fail
  refine (enc_is o d s t b n v 0 _ (hT.grown (grown_trans (((Grown.refl _).alloc _ _).alloc _ _) g1)) ho hd hs ht hv.out hr.out).mono ?_; rintro e w2 ⟨rfl, g2⟩
  have gA := grown_trans ((Grown.refl (w.alloc (.cells #[.int .u8 o, .int .u8 d, .int .u8 s, .int .u8 t, .bool b, .int .i32 n] 23))).alloc _ _) (grown_trans g1 g2)
  have G2 : Grown w w2 := grown_trans ((Grown.refl _).alloc _ _) gA
  obtain ⟨a0, a1, a2, a3, a4, a5, az⟩ := inst_cells gA
  clear c0 c1 c2 c3 c4 c5 cz
  have i0 := inst_cells (grown_trans g1 g2)
  simp only [size_new] at i0
  obtain ⟨c0, c1, c2, c3, c4, c5, cz⟩ := i0
  clear g1 g2
  go_wp2_with fail
  clear a0 a1 a2 a3 a4 a5 az c0 c1 c2 c3 c4 c5 cz
  refine (dec_is y 0 0 0 0 false 0 false _ (hT.grown G2) hy h.out H1.out H2.out H3.out H4.out H5.out H6.out).mono ?_; rintro e w3 ⟨rfl, g3⟩
  have gB := grown_trans gA g3
  obtain ⟨a0, a1, a2, a3, a4, a5, az⟩ := inst_cells gB
  have G3 := (grown_trans G2 g3).alloc #[.int .u8 0, .int .u8 0, .int .u8 0, .int .u8 0, .bool false, .int .i32 0] 23
  go_wp2_with fail
  refine (head_any _ (hT.grown G3)).mono ?_; rintro e w4 ⟨rfl, g4⟩
  go_wp2_with fail
  go_ret
  exact ⟨rfl, grown_trans G3 g4⟩
set_option maxHeartbeats 2000000 in
theorem unlike_dn (o d s t : Int) (b : Bool) (n v o2 d2 s2 t2 : Int) (b2 : Bool) (n2 u k y : Int) (w : World) (hT : Tab w) (ho : 0 ≤ o ∧ o ≤ 255) (hd : 0 ≤ d ∧ d ≤ 255) (hs : 0 ≤ s ∧ s ≤ 255) (ht : 0 ≤ t ∧ t ≤ 255)
    (ho2 : 0 ≤ o2 ∧ o2 ≤ 255) (hd2 : 0 ≤ d2 ∧ d2 ≤ 255) (hs2 : 0 ≤ s2 ∧ s2 ≤ 255) (ht2 : 0 ≤ t2 ∧ t2 ≤ 255)
    (hv : Hid (eW o d s t b n = v)) (hr : Hid (eE o d s t b n = 0)) (hv2 : Hid (eW o2 d2 s2 t2 b2 n2 = u)) (hr2 : Hid (eE o2 d2 s2 t2 b2 n2 = 0)) (hk : 0 ≤ k ∧ k ≤ 255) (hE : sm o d s t b n o2 d2 s2 t2 b2 n2 = false) (hvu : (v == u) = false) (hy : 0 ≤ y ∧ y < 4294967296) (ey : bits .xor .u32 v (2 ^ (k % 32).toNat % 4294967296) = y) (h : Hid (dk y = false)) (H1 : Hid (dO y = 0)) (H2 : Hid (dD y = 0)) (H3 : Hid (dS y = 0)) (H4 : Hid (dT y = 0)) (H5 : Hid (dB y = false)) (H6 : Hid (dN y = 0)) :
    Calls Tryd.prog 5 #[.agg #[.int .u8 o, .int .u8 d, .int .u8 s, .int .u8 t, .bool b, .int .i32 n], .agg #[.int .u8 o2, .int .u8 d2, .int .u8 s2, .int .u8 t2, .bool b2, .int .i32 n2], .int .u8 k] w fun e w' => e = .returned (.bool true) ∧ Grown w w' := by
  have E1 := fun W => (eq_inst o d s t b n o2 d2 s2 t2 b2 n2 W).trans (by rw [hE])
  clear hE
  go_enter Tryd.func5, Tryd.ntmps5
  go_wp2_with fail
  refine (enc_is o d s t b n v 0 _ (hT.grown (((Grown.refl _).alloc _ _).alloc _ _)) ho hd hs ht hv.out hr.out).mono ?_; rintro e w1 ⟨rfl, g1⟩
  have i0 := inst_cells g1
  simp only [size_new] at i0
  obtain ⟨c0, c1, c2, c3, c4, c5, cz⟩ := i0
  go_wp2_with fail
  refine (enc_is o2 d2 s2 t2 b2 n2 u 0 _ (hT.grown (grown_trans (((Grown.refl _).alloc _ _).alloc _ _) g1)) ho2 hd2 hs2 ht2 hv2.out hr2.out).mono ?_; rintro e w2 ⟨rfl, g2⟩
  have gA := grown_trans ((Grown.refl (w.alloc (.cells #[.int .u8 o, .int .u8 d, .int .u8 s, .int .u8 t, .bool b, .int .i32 n] 23))).alloc _ _) (grown_trans g1 g2)
  have G2 : Grown w w2 := grown_trans ((Grown.refl _).alloc _ _) gA
  obtain ⟨a0, a1, a2, a3, a4, a5, az⟩ := inst_cells gA
  clear c0 c1 c2 c3 c4 c5 cz
  have i0 := inst_cells (grown_trans g1 g2)
  simp only [size_new] at i0
  obtain ⟨c0, c1, c2, c3, c4, c5, cz⟩ := i0
  clear g1 g2
  go_wp2_with fail
  clear a0 a1 a2 a3 a4 a5 az c0 c1 c2 c3 c4 c5 cz
  refine (dec_is y 0 0 0 0 false 0 false _ (hT.grown G2) hy h.out H1.out H2.out H3.out H4.out H5.out H6.out).mono ?_; rintro e w3 ⟨rfl, g3⟩
  have gB := grown_trans gA g3
  obtain ⟨a0, a1, a2, a3, a4, a5, az⟩ := inst_cells gB
  have G3 := (grown_trans G2 g3).alloc #[.int .u8 0, .int .u8 0, .int .u8 0, .int .u8 0, .bool false, .int .i32 0] 23
  go_wp2_with fail
  refine (head_any _ (hT.grown G3)).mono ?_; rintro e w4 ⟨rfl, g4⟩
  go_wp2_with fail
  go_ret
  exact ⟨rfl, grown_trans G3 g4⟩
set_option maxHeartbeats 2000000 in
theorem unlike_by (o d s t : Int) (b : Bool) (n v o2 d2 s2 t2 : Int) (b2 : Bool) (n2 u k y o3 d3 s3 t3 : Int) (b3 : Bool) (n3 : Int) (w : World) (hT : Tab w) (ho : 0 ≤ o ∧ o ≤ 255) (hd : 0 ≤ d ∧ d ≤ 255) (hs : 0 ≤ s ∧ s ≤ 255) (ht : 0 ≤ t ∧ t ≤ 255)
    (ho2 : 0 ≤ o2 ∧ o2 ≤ 255) (hd2 : 0 ≤ d2 ∧ d2 ≤ 255) (hs2 : 0 ≤ s2 ∧ s2 ≤ 255) (ht2 : 0 ≤ t2 ∧ t2 ≤ 255)
    (hv : Hid (eW o d s t b n = v)) (hr : Hid (eE o d s t b n = 0)) (hv2 : Hid (eW o2 d2 s2 t2 b2 n2 = u)) (hr2 : Hid (eE o2 d2 s2 t2 b2 n2 = 2)) (hk : 0 ≤ k ∧ k ≤ 255) (hy : 0 ≤ y ∧ y < 4294967296) (ey : bits .xor .u32 v (2 ^ (k % 32).toNat % 4294967296) = y)
    (h : Hid (dk y = true)) (H1 : Hid (dO y = o3)) (H2 : Hid (dD y = d3)) (H3 : Hid (dS y = s3)) (H4 : Hid (dT y = t3)) (H5 : Hid (dB y = b3)) (H6 : Hid (dN y = n3)) (hE3 : sm o3 d3 s3 t3 b3 n3 o d s t b n = false) :
    Calls Tryd.prog 5 #[.agg #[.int .u8 o, .int .u8 d, .int .u8 s, .int .u8 t, .bool b, .int .i32 n], .agg #[.int .u8 o2, .int .u8 d2, .int .u8 s2, .int .u8 t2, .bool b2, .int .i32 n2], .int .u8 k] w fun e w' => e = .returned (.bool true) ∧ Grown w w' := by
  have E3 := fun W => (eq_inst o3 d3 s3 t3 b3 n3 o d s t b n W).trans (by rw [hE3])
  clear hE3
  go_enter Tryd.func5, Tryd.ntmps5
  go_wp2_with fail
  refine (enc_is o d s t b n v 0 _ (hT.grown (((Grown.refl _).alloc _ _).alloc _ _)) ho hd hs ht hv.out hr.out).mono ?_; rintro e w1 ⟨rfl, g1⟩
  have i0 := inst_cells g1
  simp only [size_new] at i0
  obtain ⟨c0, c1, c2, c3, c4, c5, cz⟩ := i0
  go_wp2_with fail
  refine (enc_is o2 d2 s2 t2 b2 n2 u 2 _ (hT.grown (grown_trans (((Grown.refl _).alloc _ _).alloc _ _) g1)) ho2 hd2 hs2 ht2 hv2.out hr2.out).mono ?_; rintro e w2 ⟨rfl, g2⟩
  have gA := grown_trans ((Grown.refl (w.alloc (.cells #[.int .u8 o, .int .u8 d, .int .u8 s, .int .u8 t, .bool b, .int .i32 n] 23))).alloc _ _) (grown_trans g1 g2)
  have G2 : Grown w w2 := grown_trans ((Grown.refl _).alloc _ _) gA
  obtain ⟨a0, a1, a2, a3, a4, a5, az⟩ := inst_cells gA
  clear c0 c1 c2 c3 c4 c5 cz
  have i0 := inst_cells (grown_trans g1 g2)
  simp only [size_new] at i0
  obtain ⟨c0, c1, c2, c3, c4, c5, cz⟩ := i0
  clear g1 g2
  go_wp2_with fail
  clear a0 a1 a2 a3 a4 a5 az c0 c1 c2 c3 c4 c5 cz
  refine (dec_is y o3 d3 s3 t3 b3 n3 true _ (hT.grown G2) hy h.out H1.out H2.out H3.out H4.out H5.out H6.out).mono ?_; rintro e w3 ⟨rfl, g3⟩
  have gB := grown_trans gA g3
  obtain ⟨a0, a1, a2, a3, a4, a5, az⟩ := inst_cells gB
  have G3 := (grown_trans G2 g3).alloc #[.int .u8 o3, .int .u8 d3, .int .u8 s3, .int .u8 t3, .bool b3, .int .i32 n3] 23
  go_wp2_with fail
  refine (head_any _ (hT.grown G3)).mono ?_; rintro e w4 ⟨rfl, g4⟩
  go_wp2_with fail
  go_ret
  exact ⟨rfl, grown_trans G3 g4⟩
set_option maxHeartbeats 2000000 in
theorem unlike_sy (o d s t : Int) (b : Bool) (n v k y o3 d3 s3 t3 : Int) (b3 : Bool) (n3 : Int) (w : World) (hT : Tab w) (ho : 0 ≤ o ∧ o ≤ 255) (hd : 0 ≤ d ∧ d ≤ 255) (hs : 0 ≤ s ∧ s ≤ 255) (ht : 0 ≤ t ∧ t ≤ 255)
    
    (hv : Hid (eW o d s t b n = v)) (hr : Hid (eE o d s t b n = 0)) (hk : 0 ≤ k ∧ k ≤ 255) (hy : 0 ≤ y ∧ y < 4294967296) (ey : bits .xor .u32 v (2 ^ (k % 32).toNat % 4294967296) = y)
    (h : Hid (dk y = true)) (H1 : Hid (dO y = o3)) (H2 : Hid (dD y = d3)) (H3 : Hid (dS y = s3)) (H4 : Hid (dT y = t3)) (H5 : Hid (dB y = b3)) (H6 : Hid (dN y = n3)) (hE3 : sm o3 d3 s3 t3 b3 n3 o d s t b n = false) :
    Calls Tryd.prog 5 #[.agg #[.int .u8 o, .int .u8 d, .int .u8 s, .int .u8 t, .bool b, .int .i32 n], .agg #[.int .u8 o, .int .u8 d, .int .u8 s, .int .u8 t, .bool b, .int .i32 n], .int .u8 k] w fun e w' => e = .returned (.bool true) ∧ Grown w w' := by
  have E3 := fun W => (eq_inst o3 d3 s3 t3 b3 n3 o d s t b n W).trans (by rw [hE3])
  clear hE3
  go_enter Tryd.func5, Tryd.ntmps5
  go_wp2_with fail
  refine (enc_is o d s t b n v 0 _ (hT.grown (((Grown.refl _).alloc _ _).alloc _ _)) ho hd hs ht hv.out hr.out).mono ?_; rintro e w1 ⟨rfl, g1⟩
  have i0 := inst_cells g1
  simp only [size_new] at i0
  obtain ⟨c0, c1, c2, c3, c4, c5, cz⟩ := i0
  go_wp2_with fail
  refine (enc_is o d s t b n v 0 _ (hT.grown (grown_trans (((Grown.refl _).alloc _ _).alloc _ _) g1)) ho hd hs ht hv.out hr.out).mono ?_; rintro e w2 ⟨rfl, g2⟩
  have gA := grown_trans ((Grown.refl (w.alloc (.cells #[.int .u8 o, .int .u8 d, .int .u8 s, .int .u8 t, .bool b, .int .i32 n] 23))).alloc _ _) (grown_trans g1 g2)
  have G2 : Grown w w2 := grown_trans ((Grown.refl _).alloc _ _) gA
  obtain ⟨a0, a1, a2, a3, a4, a5, az⟩ := inst_cells gA
  clear c0 c1 c2 c3 c4 c5 cz
  have i0 := inst_cells (grown_trans g1 g2)
  simp only [size_new] at i0
  obtain ⟨c0, c1, c2, c3, c4, c5, cz⟩ := i0
  clear g1 g2
  go_wp2_with fail
  clear a0 a1 a2 a3 a4 a5 az c0 c1 c2 c3 c4 c5 cz
  refine (dec_is y o3 d3 s3 t3 b3 n3 true _ (hT.grown G2) hy h.out H1.out H2.out H3.out H4.out H5.out H6.out).mono ?_; rintro e w3 ⟨rfl, g3⟩
  have gB := grown_trans gA g3
  obtain ⟨a0, a1, a2, a3, a4, a5, az⟩ := inst_cells gB
  have G3 := (grown_trans G2 g3).alloc #[.int .u8 o3, .int .u8 d3, .int .u8 s3, .int .u8 t3, .bool b3, .int .i32 n3] 23
  go_wp2_with fail
  refine (head_any _ (hT.grown G3)).mono ?_; rintro e w4 ⟨rfl, g4⟩
  go_wp2_with fail
  go_ret
  exact ⟨rfl, grown_trans G3 g4⟩
set_option maxHeartbeats 2000000 in
theorem unlike_dy (o d s t : Int) (b : Bool) (n v o2 d2 s2 t2 : Int) (b2 : Bool) (n2 u k y o3 d3 s3 t3 : Int) (b3 : Bool) (n3 : Int) (w : World) (hT : Tab w) (ho : 0 ≤ o ∧ o ≤ 255) (hd : 0 ≤ d ∧ d ≤ 255) (hs : 0 ≤ s ∧ s ≤ 255) (ht : 0 ≤ t ∧ t ≤ 255)
    (ho2 : 0 ≤ o2 ∧ o2 ≤ 255) (hd2 : 0 ≤ d2 ∧ d2 ≤ 255) (hs2 : 0 ≤ s2 ∧ s2 ≤ 255) (ht2 : 0 ≤ t2 ∧ t2 ≤ 255)
    (hv : Hid (eW o d s t b n = v)) (hr : Hid (eE o d s t b n = 0)) (hv2 : Hid (eW o2 d2 s2 t2 b2 n2 = u)) (hr2 : Hid (eE o2 d2 s2 t2 b2 n2 = 0)) (hk : 0 ≤ k ∧ k ≤ 255) (hE : sm o d s t b n o2 d2 s2 t2 b2 n2 = false) (hvu : (v == u) = false) (hy : 0 ≤ y ∧ y < 4294967296) (ey : bits .xor .u32 v (2 ^ (k % 32).toNat % 4294967296) = y)
    (h : Hid (dk y = true)) (H1 : Hid (dO y = o3)) (H2 : Hid (dD y = d3)) (H3 : Hid (dS y = s3)) (H4 : Hid (dT y = t3)) (H5 : Hid (dB y = b3)) (H6 : Hid (dN y = n3)) (hE3 : sm o3 d3 s3 t3 b3 n3 o d s t b n = false) :
    Calls Tryd.prog 5 #[.agg #[.int .u8 o, .int .u8 d, .int .u8 s, .int .u8 t, .bool b, .int .i32 n], .agg #[.int .u8 o2, .int .u8 d2, .int .u8 s2, .int .u8 t2, .bool b2, .int .i32 n2], .int .u8 k] w fun e w' => e = .returned (.bool true) ∧ Grown w w' := by
  have E1 := fun W => (eq_inst o d s t b n o2 d2 s2 t2 b2 n2 W).trans (by rw [hE])
  clear hE
  have E3 := fun W => (eq_inst o3 d3 s3 t3 b3 n3 o d s t b n W).trans (by rw [hE3])
  clear hE3
  go_enter Tryd.func5, Tryd.ntmps5
  go_wp2_with fail
  refine (enc_is o d s t b n v 0 _ (hT.grown (((Grown.refl _).alloc _ _).alloc _ _)) ho hd hs ht hv.out hr.out).mono ?_; rintro e w1 ⟨rfl, g1⟩
  have i0 := inst_cells g1
  simp only [size_new] at i0
  obtain ⟨c0, c1, c2, c3, c4, c5, cz⟩ := i0
  go_wp2_with fail
  refine (enc_is o2 d2 s2 t2 b2 n2 u 0 _ (hT.grown (grown_trans (((Grown.refl _).alloc _ _).alloc _ _) g1)) ho2 hd2 hs2 ht2 hv2.out hr2.out).mono ?_; rintro e w2 ⟨rfl, g2⟩
  have gA := grown_trans ((Grown.refl (w.alloc (.cells #[.int .u8 o, .int .u8 d, .int .u8 s, .int .u8 t, .bool b, .int .i32 n] 23))).alloc _ _) (grown_trans g1 g2)
  have G2 : Grown w w2 := grown_trans ((Grown.refl _).alloc _ _) gA
  obtain ⟨a0, a1, a2, a3, a4, a5, az⟩ := inst_cells gA
  clear c0 c1 c2 c3 c4 c5 cz
  have i0 := inst_cells (grown_trans g1 g2)
  simp only [size_new] at i0
  obtain ⟨c0, c1, c2, c3, c4, c5, cz⟩ := i0
  clear g1 g2
  go_wp2_with fail
  clear a0 a1 a2 a3 a4 a5 az c0 c1 c2 c3 c4 c5 cz
  refine (dec_is y o3 d3 s3 t3 b3 n3 true _ (hT.grown G2) hy h.out H1.out H2.out H3.out H4.out H5.out H6.out).mono ?_; rintro e w3 ⟨rfl, g3⟩
  have gB := grown_trans gA g3
  obtain ⟨a0, a1, a2, a3, a4, a5, az⟩ := inst_cells gB
  have G3 := (grown_trans G2 g3).alloc #[.int .u8 o3, .int .u8 d3, .int .u8 s3, .int .u8 t3, .bool b3, .int .i32 n3] 23
  go_wp2_with fail
  refine (head_any _ (hT.grown G3)).mono ?_; rintro e w4 ⟨rfl, g4⟩
  go_wp2_with fail
  go_ret
  exact ⟨rfl, grown_trans G3 g4⟩
theorem dzero {x : Int} (h : dk x = false) : dO x = 0 ∧ dD x = 0 ∧ dS x = 0 ∧ dT x = 0 ∧ dB x = false ∧ dN x = 0 := by
  unfold dO dD dS dT dB dN
  rw [h]
  exact ⟨rfl, rfl, rfl, rfl, rfl, rfl⟩
/-- A word other than an instruction's is not that instruction's. -/
theorem sm_other {o d s t : Int} {b : Bool} {n y : Int} (h : dk y = true) (hm : may o d s t b n = true) (hn : y ≠ enc o d s t b n) : sm (dO y) (dD y) (dS y) (dT y) (dB y) (dN y) o d s t b n = false := by
  apply sm_no
  rintro ⟨e1, e2, e3, e4, e5, e6⟩
  apply hn
  have h' := h
  unfold dk at h'
  rw [Bool.and_eq_true] at h'
  have hq : cE y = y := by simpa using h'.2
  have f1 : dO y = cO y := by unfold dO; rw [h]; rfl
  have f2 : dD y = cD y := by unfold dD; rw [h]; rfl
  have f3 : dS y = cS y := by unfold dS; rw [h]; rfl
  have f4 : dT y = cT y := by unfold dT; rw [h]; rfl
  have f5 : dB y = cB y := by unfold dB; rw [h]; simp
  have f6 : dN y = cN y := by unfold dN; rw [h]; rfl
  unfold cE at hq
  rw [← f1, ← f2, ← f3, ← f4, ← f5, ← f6, e1, e2, e3, e4, e5, e6] at hq
  exact hq.symm
theorem unlike_walk (o d s t : Int) (b : Bool) (n o2 d2 s2 t2 : Int) (b2 : Bool) (n2 k : Int) (w : World) (hT : Tab w) (ho : 0 ≤ o ∧ o ≤ 255) (hd : 0 ≤ d ∧ d ≤ 255) (hs : 0 ≤ s ∧ s ≤ 255) (ht : 0 ≤ t ∧ t ≤ 255)
    (ho2 : 0 ≤ o2 ∧ o2 ≤ 255) (hd2 : 0 ≤ d2 ∧ d2 ≤ 255) (hs2 : 0 ≤ s2 ∧ s2 ≤ 255) (ht2 : 0 ≤ t2 ∧ t2 ≤ 255) (hk : 0 ≤ k ∧ k ≤ 255) :
    Calls Tryd.prog 5 #[.agg #[.int .u8 o, .int .u8 d, .int .u8 s, .int .u8 t, .bool b, .int .i32 n], .agg #[.int .u8 o2, .int .u8 d2, .int .u8 s2, .int .u8 t2, .bool b2, .int .i32 n2], .int .u8 k] w fun e w' => e = .returned (.bool true) ∧ Grown w w' := by
  cases hm : may o d s t b n
  · exact unlike_no o d s t b n _ o2 d2 s2 t2 b2 n2 _ _ k w hT ho hd hs ht ho2 hd2 hs2 ht2 rfl (eE_no hm) rfl rfl hk
  have hv := eW_yes hm
  have hb := enc_bd ho hd hs ht hm
  obtain ⟨hy, hne⟩ := xor_other (enc o d s t b n) k (by omega) hk
  generalize ey : bits .xor .u32 (enc o d s t b n) (2 ^ (k % 32).toNat % 4294967296) = y at hy hne
  cases hm2 : may o2 d2 s2 t2 b2 n2
  · cases h : dk y
    · obtain ⟨f1, f2, f3, f4, f5, f6⟩ := dzero h
      exact unlike_bn o d s t b n _ o2 d2 s2 t2 b2 n2 _ k y w hT ho hd hs ht ho2 hd2 hs2 ht2 hv (eE_yes hm) rfl (eE_no hm2) hk hy ey h f1 f2 f3 f4 f5 f6
    · exact unlike_by o d s t b n _ o2 d2 s2 t2 b2 n2 _ k y _ _ _ _ _ _ w hT ho hd hs ht ho2 hd2 hs2 ht2 hv (eE_yes hm) rfl (eE_no hm2) hk hy ey h rfl rfl rfl rfl rfl rfl (sm_other h hm hne)
  · by_cases same : o = o2 ∧ d = d2 ∧ s = s2 ∧ t = t2 ∧ b = b2 ∧ n = n2
    · obtain ⟨rfl, rfl, rfl, rfl, rfl, rfl⟩ := same
      cases h : dk y
      · obtain ⟨f1, f2, f3, f4, f5, f6⟩ := dzero h
        exact unlike_sn o d s t b n _ k y w hT ho hd hs ht hv (eE_yes hm) hk hy ey h f1 f2 f3 f4 f5 f6
      · exact unlike_sy o d s t b n _ k y _ _ _ _ _ _ w hT ho hd hs ht hv (eE_yes hm) hk hy ey h rfl rfl rfl rfl rfl rfl (sm_other h hm hne)
    · have hvu : (enc o d s t b n == enc o2 d2 s2 t2 b2 n2) = false := by
        cases hq : enc o d s t b n == enc o2 d2 s2 t2 b2 n2
        · rfl
        · exact absurd (enc_inj ho hd hs ht hm ho2 hd2 hs2 ht2 hm2 (by simpa using hq)) same
      cases h : dk y
      · obtain ⟨f1, f2, f3, f4, f5, f6⟩ := dzero h
        exact unlike_dn o d s t b n _ o2 d2 s2 t2 b2 n2 _ k y w hT ho hd hs ht ho2 hd2 hs2 ht2 hv (eE_yes hm) (eW_yes hm2) (eE_yes hm2) hk (sm_no same) hvu hy ey h f1 f2 f3 f4 f5 f6
      · exact unlike_dy o d s t b n _ o2 d2 s2 t2 b2 n2 _ k y _ _ _ _ _ _ w hT ho hd hs ht ho2 hd2 hs2 ht2 hv (eE_yes hm) (eW_yes hm2) (eE_yes hm2) hk (sm_no same) hvu hy ey h rfl rfl rfl rfl rfl rfl (sm_other h hm hne)
end Go.Proofs.YtpcaffjkiodkkaaDoor
