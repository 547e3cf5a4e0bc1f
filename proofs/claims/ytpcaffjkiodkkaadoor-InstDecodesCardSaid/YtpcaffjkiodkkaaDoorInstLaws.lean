/- The walks of layer 2's statements InstEncodes, InstDecodes and InstUnlike: each returns true, in any world that holds the table of fields; memory has at most new blocks. -/
import Derived.Test.YtpcaffjkiodkkaaDoorInstHead
import Derived.Test.YtpcaffjkiodkkaaDoorInstRefDec
namespace Go.Proofs.YtpcaffjkiodkkaaDoor
open Go.RowKit
set_option linter.unusedVariables false
theorem rdec_is (x o d s t : Int) (b : Bool) (n : Int) (k : Bool) (w : World) (hx : 0 ≤ x ∧ x < 4294967296) (h0 : dk x = k) (h1 : dO x = o) (h2 : dD x = d) (h3 : dS x = s) (h4 : dT x = t) (h5 : dB x = b) (h6 : dN x = n) :
    Calls Tryd.prog 10 #[.int .u32 x] w fun e w' => e = .returned (.tuple #[.agg #[.int .u8 o, .int .u8 d, .int .u8 s, .int .u8 t, .bool b, .int .i32 n], .bool k]) ∧ Grown w w' := by
  subst h0 h1 h2 h3 h4 h5 h6; exact rdec_any x w hx
set_option maxHeartbeats 2000000 in
theorem encodes_no (o d s t : Int) (b : Bool) (n : Int) (w : World) (hT : Tab w) (ho : 0 ≤ o ∧ o ≤ 255) (hd : 0 ≤ d ∧ d ≤ 255) (hs : 0 ≤ s ∧ s ≤ 255) (ht : 0 ≤ t ∧ t ≤ 255) (hn : -2147483648 ≤ n ∧ n ≤ 2147483647) (h : Hid (may o d s t b n = false)) :
    Calls Tryd.prog 3 #[.agg #[.int .u8 o, .int .u8 d, .int .u8 s, .int .u8 t, .bool b, .int .i32 n]] w fun e w' => e = .returned (.bool true) ∧ Grown w w' := by
  go_enter Tryd.func3, Tryd.ntmps3
  go_wp2_with fail
  refine (enc_is o d s t b n 0 2 _ (hT.grown ((Grown.refl _).alloc _ _)) ho hd hs ht (eW_no h.out) (eE_no h.out)).mono ?_; rintro e w1 ⟨rfl, g1⟩
  obtain ⟨c0, c1, c2, c3, c4, c5, cz⟩ := inst_cells g1
  go_wp2_with fail
  refine (renc_is o d s t b n 0 2 _ ho hd hs ht hn (eW_no h.out) (eE_no h.out)).mono ?_; rintro e w2 ⟨rfl, g2⟩
  go_wp2_with fail
  refine (head_any _ (hT.grown (grown_trans (grown_trans ((Grown.refl _).alloc _ _) g1) g2))).mono ?_; rintro e w3 ⟨rfl, g3⟩
  go_wp2_with fail
  go_ret
  exact ⟨rfl, grown_trans (grown_trans (grown_trans ((Grown.refl _).alloc _ _) g1) g2) g3⟩
set_option maxHeartbeats 2000000 in
theorem encodes_yes (o d s t : Int) (b : Bool) (n v : Int) (w : World) (hT : Tab w) (ho : 0 ≤ o ∧ o ≤ 255) (hd : 0 ≤ d ∧ d ≤ 255) (hs : 0 ≤ s ∧ s ≤ 255) (ht : 0 ≤ t ∧ t ≤ 255) (hn : -2147483648 ≤ n ∧ n ≤ 2147483647) (h : Hid (may o d s t b n = true)) (hv : Hid (enc o d s t b n = v)) :
    Calls Tryd.prog 3 #[.agg #[.int .u8 o, .int .u8 d, .int .u8 s, .int .u8 t, .bool b, .int .i32 n]] w fun e w' => e = .returned (.bool true) ∧ Grown w w' := by
  have hb := enc_bd ho hd hs ht h.out
  rw [hv.out] at hb
  have h0 : (v == 0) = false := by simp; omega
  have h00 : (v != 0) = true := by simp; omega
  have K := back_enc ho hd hs ht h.out
  rw [hv.out] at K
  obtain ⟨k0, k1, k2, k3, k4, k5, k6⟩ := K
  have H0 : Hid (dk v = true) := k0
  have H1 : Hid (dO v = o) := k1
  have H2 : Hid (dD v = d) := k2
  have H3 : Hid (dS v = s) := k3
  have H4 : Hid (dT v = t) := k4
  have H5 : Hid (dB v = b) := k5
  have H6 : Hid (dN v = n) := k6
  clear k0 k1 k2 k3 k4 k5 k6
  have hx : 0 ≤ v ∧ v < 4294967296 := by omega
  go_enter Tryd.func3, Tryd.ntmps3
  go_wp2_with fail
  refine (enc_is o d s t b n v 0 _ (hT.grown ((Grown.refl _).alloc _ _)) ho hd hs ht ((eW_yes h.out).trans hv.out) (eE_yes h.out)).mono ?_; rintro e w1 ⟨rfl, g1⟩
  obtain ⟨c0, c1, c2, c3, c4, c5, cz⟩ := inst_cells g1
  go_wp2_with fail
  clear c0 c1 c2 c3 c4 c5 cz
  refine (renc_is o d s t b n v 0 _ ho hd hs ht hn ((eW_yes h.out).trans hv.out) (eE_yes h.out)).mono ?_; rintro e w2 ⟨rfl, g2⟩
  have T2 := hT.grown (grown_trans (grown_trans ((Grown.refl _).alloc _ _) g1) g2)
  go_wp2_with fail
  refine (dec_is v o d s t b n true _ T2 hx H0.out H1.out H2.out H3.out H4.out H5.out H6.out).mono ?_; rintro e w3 ⟨rfl, g3⟩
  have G := grown_trans (grown_trans g1 g2) g3
  obtain ⟨c0, c1, c2, c3, c4, c5, cz⟩ := inst_cells G
  go_wp2_with fail
  clear c0 c1 c2 c3 c4 c5 cz
  have G3 := (grown_trans ((Grown.refl w).alloc _ _) G).alloc #[.int .u8 o, .int .u8 d, .int .u8 s, .int .u8 t, .bool b, .int .i32 n] 23
  refine (head_any _ (hT.grown G3)).mono ?_; rintro e w4 ⟨rfl, g4⟩
  go_wp2_with fail
  go_ret
  exact ⟨rfl, grown_trans G3 g4⟩
theorem encodes_walk (o d s t : Int) (b : Bool) (n : Int) (w : World) (hT : Tab w) (ho : 0 ≤ o ∧ o ≤ 255) (hd : 0 ≤ d ∧ d ≤ 255) (hs : 0 ≤ s ∧ s ≤ 255) (ht : 0 ≤ t ∧ t ≤ 255) (hn : -2147483648 ≤ n ∧ n ≤ 2147483647) :
    Calls Tryd.prog 3 #[.agg #[.int .u8 o, .int .u8 d, .int .u8 s, .int .u8 t, .bool b, .int .i32 n]] w fun e w' => e = .returned (.bool true) ∧ Grown w w' := by
  cases h : may o d s t b n
  · exact encodes_no o d s t b n w hT ho hd hs ht hn h
  · exact encodes_yes o d s t b n _ w hT ho hd hs ht hn h rfl

/-! InstDecodes. -/
set_option maxHeartbeats 2000000 in
theorem decodes_no (x : Int) (w : World) (hT : Tab w) (hx : 0 ≤ x ∧ x < 4294967296) (h : Hid (dk x = false)) :
    Calls Tryd.prog 4 #[.int .u32 x] w fun e w' => e = .returned (.bool true) ∧ Grown w w' := by
  obtain ⟨f1, f2, f3, f4, f5, f6⟩ := dfin_no h.out
  have H1 : Hid (dO x = 0) := f1
  have H2 : Hid (dD x = 0) := f2
  have H3 : Hid (dS x = 0) := f3
  have H4 : Hid (dT x = 0) := f4
  have H5 : Hid (dB x = false) := f5
  have H6 : Hid (dN x = 0) := f6
  clear f1 f2 f3 f4 f5 f6
  go_enter Tryd.func4, Tryd.ntmps4
  go_wp2_with fail
  refine (dec_is x 0 0 0 0 false 0 false _ hT hx h.out H1.out H2.out H3.out H4.out H5.out H6.out).mono ?_; rintro e w1 ⟨rfl, g1⟩
  have G1 := g1.alloc #[.int .u8 0, .int .u8 0, .int .u8 0, .int .u8 0, .bool false, .int .i32 0] 23
  go_wp2_with fail
  refine (rdec_is x 0 0 0 0 false 0 false _ hx h.out H1.out H2.out H3.out H4.out H5.out H6.out).mono ?_; rintro e w2 ⟨rfl, g2⟩
  obtain ⟨c0, c1, c2, c3, c4, c5, cz⟩ := inst_cells g2
  have G2 := (grown_trans G1 g2).alloc #[.int .u8 0, .int .u8 0, .int .u8 0, .int .u8 0, .bool false, .int .i32 0] 23
  go_wp2_with fail
  refine (head_any _ (hT.grown G2)).mono ?_; rintro e w3 ⟨rfl, g3⟩
  go_wp2_with fail
  go_ret
  exact ⟨rfl, grown_trans G2 g3⟩
set_option maxHeartbeats 2000000 in
theorem decodes_yes (x o d s t : Int) (b : Bool) (n : Int) (w : World) (hT : Tab w) (hx : 0 ≤ x ∧ x < 4294967296) (ho : 0 ≤ o ∧ o ≤ 255) (hd : 0 ≤ d ∧ d ≤ 255) (hs : 0 ≤ s ∧ s ≤ 255) (ht : 0 ≤ t ∧ t ≤ 255)
    (h : Hid (dk x = true)) (H1 : Hid (dO x = o)) (H2 : Hid (dD x = d)) (H3 : Hid (dS x = s)) (H4 : Hid (dT x = t)) (H5 : Hid (dB x = b)) (H6 : Hid (dN x = n)) (hv : Hid (eW o d s t b n = x)) (hr : Hid (eE o d s t b n = 0)) :
    Calls Tryd.prog 4 #[.int .u32 x] w fun e w' => e = .returned (.bool true) ∧ Grown w w' := by
  go_enter Tryd.func4, Tryd.ntmps4
  go_wp2_with fail
  refine (dec_is x o d s t b n true _ hT hx h.out H1.out H2.out H3.out H4.out H5.out H6.out).mono ?_; rintro e w1 ⟨rfl, g1⟩
  have G1 := g1.alloc #[.int .u8 o, .int .u8 d, .int .u8 s, .int .u8 t, .bool b, .int .i32 n] 23
  go_wp2_with fail
  refine (rdec_is x o d s t b n true _ hx h.out H1.out H2.out H3.out H4.out H5.out H6.out).mono ?_; rintro e w2 ⟨rfl, g2⟩
  obtain ⟨c0, c1, c2, c3, c4, c5, cz⟩ := inst_cells g2
  have G2 := (grown_trans G1 g2).alloc #[.int .u8 o, .int .u8 d, .int .u8 s, .int .u8 t, .bool b, .int .i32 n] 23
  go_wp2_with fail
  refine (enc_is o d s t b n x 0 _ (hT.grown G2) ho hd hs ht hv.out hr.out).mono ?_; rintro e w3 ⟨rfl, g3⟩
  have G3 := grown_trans G2 g3
  go_wp2_with fail
  refine (head_any _ (hT.grown G3)).mono ?_; rintro e w4 ⟨rfl, g4⟩
  go_wp2_with fail
  go_ret
  exact ⟨rfl, grown_trans G3 g4⟩
theorem decodes_walk (x : Int) (w : World) (hT : Tab w) (hx : 0 ≤ x ∧ x < 4294967296) :
    Calls Tryd.prog 4 #[.int .u32 x] w fun e w' => e = .returned (.bool true) ∧ Grown w w' := by
  cases h : dk x
  · exact decodes_no x w hT hx h
  · obtain ⟨f1, f2, f3, f4, f5, f6⟩ := dfin_yes h
    obtain ⟨ko, kd, ks, kt⟩ := c_bd hx
    have h' := h
    unfold dk at h'
    rw [Bool.and_eq_true] at h'
    have hm : may (cO x) (cD x) (cS x) (cT x) (cB x) (cN x) = true := h'.1
    have hq : enc (cO x) (cD x) (cS x) (cT x) (cB x) (cN x) = x := by have := h'.2; simpa [cE] using this
    exact decodes_yes x (cO x) (cD x) (cS x) (cT x) (cB x) (cN x) w hT hx ko kd ks kt h f1 f2 f3 f4 f5 f6 ((eW_yes hm).trans hq) (eE_yes hm)
end Go.Proofs.YtpcaffjkiodkkaaDoor
