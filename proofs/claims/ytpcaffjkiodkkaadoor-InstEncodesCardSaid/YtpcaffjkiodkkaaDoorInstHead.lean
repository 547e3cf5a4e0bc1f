/- What the heads of layer 2's statements come to: the calls with known answers are answered so. -/
import Derived.Test.YtpcaffjkiodkkaaDoorInstDecode
namespace Go.Proofs.YtpcaffjkiodkkaaDoor
open Go.RowKit
set_option linter.unusedVariables false
theorem dec_is (x o d s t : Int) (b : Bool) (n : Int) (k : Bool) (w : World) (hT : Tab w) (hx : 0 ≤ x ∧ x < 4294967296) (h0 : dk x = k) (h1 : dO x = o) (h2 : dD x = d) (h3 : dS x = s) (h4 : dT x = t) (h5 : dB x = b) (h6 : dN x = n) :
    Calls Tryd.prog 9 #[.int .u32 x] w fun e w' => e = .returned (.tuple #[.agg #[.int .u8 o, .int .u8 d, .int .u8 s, .int .u8 t, .bool b, .int .i32 n], .bool k]) ∧ Grown w w' := by
  subst h0 h1 h2 h3 h4 h5 h6; exact dec_any x w hT hx
set_option maxHeartbeats 1000000 in
theorem is_yes (o d s t : Int) (b : Bool) (n x : Int) (w : World) (hT : Tab w) (hx : 0 ≤ x ∧ x < 4294967296) (ho : 0 ≤ o ∧ o ≤ 255) (hd : 0 ≤ d ∧ d ≤ 255) (hs : 0 ≤ s ∧ s ≤ 255) (ht : 0 ≤ t ∧ t ≤ 255)
    (hv : Hid (eW o d s t b n = x)) (hr : Hid (eE o d s t b n = 0)) (h0 : Hid (dk x = true)) (h1 : Hid (dO x = o)) (h2 : Hid (dD x = d)) (h3 : Hid (dS x = s)) (h4 : Hid (dT x = t)) (h5 : Hid (dB x = b)) (h6 : Hid (dN x = n)) :
    Calls Tryd.prog 17 #[.agg #[.int .u8 o, .int .u8 d, .int .u8 s, .int .u8 t, .bool b, .int .i32 n], .int .u32 x] w fun e w' => e = .returned (.bool true) ∧ Grown w w' := by
  go_enter Tryd.func17, Tryd.ntmps17
  go_wp2_with fail
  refine (enc_is o d s t b n x 0 _ (hT.grown ((Grown.refl _).alloc _ _)) ho hd hs ht hv.out hr.out).mono ?_; rintro e w1 ⟨rfl, g1⟩
  go_wp2_with fail
  refine (dec_is x o d s t b n true _ (hT.grown (grown_trans ((Grown.refl _).alloc _ _) g1)) hx h0.out h1.out h2.out h3.out h4.out h5.out h6.out).mono ?_; rintro e w2 ⟨rfl, g2⟩
  obtain ⟨c0, c1, c2, c3, c4, c5, cz⟩ := inst_cells (grown_trans g1 g2)
  go_wp2_with fail
  go_ret
  exact ⟨rfl, (grown_trans (grown_trans ((Grown.refl _).alloc _ _) g1) g2).alloc _ _⟩
theorem is_at (o d s t : Int) (b : Bool) (n x : Int) (w : World) (hT : Tab w) (hx : 0 ≤ x ∧ x < 4294967296) (ho : 0 ≤ o ∧ o ≤ 255) (hd : 0 ≤ d ∧ d ≤ 255) (hs : 0 ≤ s ∧ s ≤ 255) (ht : 0 ≤ t ∧ t ≤ 255)
    (hv : eW o d s t b n = x) (hr : eE o d s t b n = 0) (h0 : dk x = true) (h1 : dO x = o) (h2 : dD x = d) (h3 : dS x = s) (h4 : dT x = t) (h5 : dB x = b) (h6 : dN x = n) :
    Calls Tryd.prog 17 #[.agg #[.int .u8 o, .int .u8 d, .int .u8 s, .int .u8 t, .bool b, .int .i32 n], .int .u32 x] w fun e w' => e = .returned (.bool true) ∧ Grown w w' :=
  is_yes o d s t b n x w hT hx ho hd hs ht hv hr h0 h1 h2 h3 h4 h5 h6
theorem hd0 (w : World) (hT : Tab w) : Calls Tryd.prog 17 #[.agg #[.int .u8 1, .int .u8 9, .int .u8 8, .int .u8 0, .bool true, .int .i32 (-1)], .int .u32 86573055] w fun e w' => e = .returned (.bool true) ∧ Grown w w' :=
  is_at 1 9 8 0 true (-1) 86573055 w hT (by decide) (by decide) (by decide) (by decide) (by decide) (by kernel_rfl) (by kernel_rfl) (by kernel_rfl) (by kernel_rfl) (by kernel_rfl) (by kernel_rfl) (by kernel_rfl) (by kernel_rfl) (by kernel_rfl)
theorem hd1 (w : World) (hT : Tab w) : Calls Tryd.prog 17 #[.agg #[.int .u8 2, .int .u8 1, .int .u8 2, .int .u8 3, .bool false, .int .i32 0], .int .u32 136445955] w fun e w' => e = .returned (.bool true) ∧ Grown w w' :=
  is_at 2 1 2 3 false 0 136445955 w hT (by decide) (by decide) (by decide) (by decide) (by decide) (by kernel_rfl) (by kernel_rfl) (by kernel_rfl) (by kernel_rfl) (by kernel_rfl) (by kernel_rfl) (by kernel_rfl) (by kernel_rfl) (by kernel_rfl)
theorem hd2 (w : World) (hT : Tab w) : Calls Tryd.prog 17 #[.agg #[.int .u8 15, .int .u8 5, .int .u8 0, .int .u8 0, .bool true, .int .i32 1], .int .u32 1017118721] w fun e w' => e = .returned (.bool true) ∧ Grown w w' :=
  is_at 15 5 0 0 true 1 1017118721 w hT (by decide) (by decide) (by decide) (by decide) (by decide) (by kernel_rfl) (by kernel_rfl) (by kernel_rfl) (by kernel_rfl) (by kernel_rfl) (by kernel_rfl) (by kernel_rfl) (by kernel_rfl) (by kernel_rfl)
theorem hd3 (w : World) (hT : Tab w) : Calls Tryd.prog 17 #[.agg #[.int .u8 17, .int .u8 2, .int .u8 0, .int .u8 0, .bool true, .int .i32 (-2)], .int .u32 1147142142] w fun e w' => e = .returned (.bool true) ∧ Grown w w' :=
  is_at 17 2 0 0 true (-2) 1147142142 w hT (by decide) (by decide) (by decide) (by decide) (by decide) (by kernel_rfl) (by kernel_rfl) (by kernel_rfl) (by kernel_rfl) (by kernel_rfl) (by kernel_rfl) (by kernel_rfl) (by kernel_rfl) (by kernel_rfl)
theorem hd4 (w : World) (hT : Tab w) : Calls Tryd.prog 17 #[.agg #[.int .u8 32, .int .u8 0, .int .u8 0, .int .u8 0, .bool false, .int .i32 0], .int .u32 2147483648] w fun e w' => e = .returned (.bool true) ∧ Grown w w' :=
  is_at 32 0 0 0 false 0 2147483648 w hT (by decide) (by decide) (by decide) (by decide) (by decide) (by kernel_rfl) (by kernel_rfl) (by kernel_rfl) (by kernel_rfl) (by kernel_rfl) (by kernel_rfl) (by kernel_rfl) (by kernel_rfl) (by kernel_rfl)
theorem hd5 (w : World) (hT : Tab w) : Calls Tryd.prog 17 #[.agg #[.int .u8 33, .int .u8 0, .int .u8 0, .int .u8 0, .bool true, .int .i32 3], .int .u32 2214625283] w fun e w' => e = .returned (.bool true) ∧ Grown w w' :=
  is_at 33 0 0 0 true 3 2214625283 w hT (by decide) (by decide) (by decide) (by decide) (by decide) (by kernel_rfl) (by kernel_rfl) (by kernel_rfl) (by kernel_rfl) (by kernel_rfl) (by kernel_rfl) (by kernel_rfl) (by kernel_rfl) (by kernel_rfl)
theorem hd6 (w : World) (hT : Tab w) : Calls Tryd.prog 6 #[.agg #[.int .u8 33, .int .u8 0, .int .u8 0, .int .u8 0, .bool true, .int .i32 5]] w fun e w' => e = .returned (.tuple #[.int .u32 0, .int .i64 2]) ∧ Grown w w' :=
  enc_is 33 0 0 0 true 5 0 2 w hT (by decide) (by decide) (by decide) (by decide) (by kernel_rfl) (by kernel_rfl)
theorem hd7 (w : World) (hT : Tab w) : Calls Tryd.prog 6 #[.agg #[.int .u8 32, .int .u8 1, .int .u8 0, .int .u8 0, .bool false, .int .i32 0]] w fun e w' => e = .returned (.tuple #[.int .u32 0, .int .i64 2]) ∧ Grown w w' :=
  enc_is 32 1 0 0 false 0 0 2 w hT (by decide) (by decide) (by decide) (by decide) (by kernel_rfl) (by kernel_rfl)
theorem hd8 (w : World) (hT : Tab w) : Calls Tryd.prog 9 #[.int .u32 1] w fun e w' => e = .returned (.tuple #[.agg #[.int .u8 0, .int .u8 0, .int .u8 0, .int .u8 0, .bool false, .int .i32 0], .bool false]) ∧ Grown w w' :=
  dec_is 1 0 0 0 0 false 0 false w hT (by decide) (by kernel_rfl) (by kernel_rfl) (by kernel_rfl) (by kernel_rfl) (by kernel_rfl) (by kernel_rfl) (by kernel_rfl)
set_option maxHeartbeats 4000000 in
theorem head_any (w : World) (hT : Tab w) : Calls Tryd.prog 8 #[] w fun e w' => e = .returned (.bool true) ∧ Grown w w' := by
  go_enter Tryd.func8, Tryd.ntmps8
  go_wp2_with fail
  refine (hd6 _ hT).mono ?_; rintro e w1 ⟨rfl, g1⟩
  have T1 := hT.grown g1
  go_wp2_with fail
  refine (hd7 _ T1).mono ?_; rintro e w2 ⟨rfl, g2⟩
  have T2 := T1.grown g2
  go_wp2_with fail
  refine (hd8 _ T2).mono ?_; rintro e w3 ⟨rfl, g3⟩
  have G3 := (grown_trans (grown_trans g1 g2) g3).alloc #[.int .u8 0, .int .u8 0, .int .u8 0, .int .u8 0, .bool false, .int .i32 0] 23
  clear g1 g2 g3
  go_wp2_with fail
  refine (hd0 _ (hT.grown G3)).mono ?_; rintro e x0 ⟨rfl, g⟩
  have H0 := grown_trans G3 g
  clear g
  go_wp2_with fail
  refine (hd1 _ (hT.grown H0)).mono ?_; rintro e x1 ⟨rfl, g⟩
  have H1 := grown_trans H0 g
  clear g
  go_wp2_with fail
  refine (hd2 _ (hT.grown H1)).mono ?_; rintro e x2 ⟨rfl, g⟩
  have H2 := grown_trans H1 g
  clear g
  go_wp2_with fail
  refine (hd3 _ (hT.grown H2)).mono ?_; rintro e x3 ⟨rfl, g⟩
  have H3 := grown_trans H2 g
  clear g
  go_wp2_with fail
  refine (hd4 _ (hT.grown H3)).mono ?_; rintro e x4 ⟨rfl, g⟩
  have H4 := grown_trans H3 g
  clear g
  go_wp2_with fail
  refine (hd5 _ (hT.grown H4)).mono ?_; rintro e x5 ⟨rfl, g⟩
  have H5 := grown_trans H4 g
  clear g
  go_wp2_with fail
  go_ret
  exact ⟨rfl, H5⟩
end Go.Proofs.YtpcaffjkiodkkaaDoor
