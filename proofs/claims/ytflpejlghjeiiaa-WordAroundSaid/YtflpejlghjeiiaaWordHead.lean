/- What the heads of layer 1's statements come to: the calls with known answers are answered so. -/
import Derived.Test.YtflpejlghjeiiaaWordDo
import Derived.Test.YtflpejlghjeiiaaWordFlags
namespace Go.Proofs.Ytflpejlghjeiiaa
open Go.RowKit
set_option linter.unusedVariables false
theorem do_is (op a b v : Int) (k : Bool) (w : World) (h : 0 ≤ op ∧ op ≤ 255) (ha : 0 ≤ a ∧ a < 4294967296) (hb : 0 ≤ b ∧ b < 4294967296) (hv : dv op a b = v) (hk : dok op b = k) :
    Calls Try.prog 9 #[.int .u8 op, .int .u32 a, .int .u32 b] w fun e w' => e = .returned (.tuple #[.int .u32 v, .bool k]) ∧ Grown w w' := by
  subst hv hk; exact do_any op a b w h ha hb
theorem flags_is (a b v : Int) (w : World) (ha : 0 ≤ a ∧ a < 4294967296) (hb : 0 ≤ b ∧ b < 4294967296) (hv : fl a b = v) :
    Calls Try.prog 12 #[.int .u32 a, .int .u32 b] w fun e w' => e = .returned (.int .u8 v) ∧ Grown w w' := by
  subst hv; exact flags_any a b w ha hb
theorem holds_is (c f : Int) (v : Bool) (w : World) (hc : 0 ≤ c ∧ c ≤ 255) (hf : 0 ≤ f ∧ f ≤ 255) (h : hv c f = v) :
    Calls Try.prog 14 #[.int .u8 c, .int .u8 f] w fun e w' => e = .returned (.bool v) ∧ w = w' := by
  subst h; exact holds_any c f w hc hf
theorem makes_is (op a b v : Int) (w : World) (h : 0 ≤ op ∧ op ≤ 255) (ha : 0 ≤ a ∧ a < 4294967296) (hb : 0 ≤ b ∧ b < 4294967296) (hv : dv op a b = v) (hk : dok op b = true) :
    Calls Try.prog 22 #[.int .u8 op, .int .u32 a, .int .u32 b, .int .u32 v] w fun e w' => e = .returned (.bool true) ∧ Grown w w' := by
  have H : Hid (dv op a b = v) := hv
  clear hv
  go_enter Try.func22, Try.ntmps22
  go_wp2_with (go_at_call 9; refine (do_is op a b v true _ h ha hb H.out hk).mono ?_; rintro e w1 ⟨rfl, hg⟩)
  go_ret
  exact ⟨rfl, hg⟩
theorem hd0 (w : World) : Calls Try.prog 9 #[.int .u8 3, .int .u32 1, .int .u32 0] w fun e w' => e = .returned (.tuple #[.int .u32 0, .bool false]) ∧ Grown w w' :=
  do_is 3 1 0 0 false w (by decide) (by decide) (by decide) rfl rfl
theorem hd1 (w : World) : Calls Try.prog 22 #[.int .u8 1, .int .u32 3, .int .u32 5, .int .u32 4294967294] w fun e w' => e = .returned (.bool true) ∧ Grown w w' :=
  makes_is 1 3 5 4294967294 w (by decide) (by decide) (by decide) (by kernel_rfl) (by kernel_rfl)
theorem hd2 (w : World) : Calls Try.prog 22 #[.int .u8 3, .int .u32 4294967289, .int .u32 2, .int .u32 4294967293] w fun e w' => e = .returned (.bool true) ∧ Grown w w' :=
  makes_is 3 4294967289 2 4294967293 w (by decide) (by decide) (by decide) (by kernel_rfl) (by kernel_rfl)
theorem hd3 (w : World) : Calls Try.prog 22 #[.int .u8 4, .int .u32 4294967289, .int .u32 2, .int .u32 4294967295] w fun e w' => e = .returned (.bool true) ∧ Grown w w' :=
  makes_is 4 4294967289 2 4294967295 w (by decide) (by decide) (by decide) (by kernel_rfl) (by kernel_rfl)
theorem hd4 (w : World) : Calls Try.prog 22 #[.int .u8 3, .int .u32 2147483648, .int .u32 4294967295, .int .u32 2147483648] w fun e w' => e = .returned (.bool true) ∧ Grown w w' :=
  makes_is 3 2147483648 4294967295 2147483648 w (by decide) (by decide) (by decide) (by kernel_rfl) (by kernel_rfl)
theorem hd5 (w : World) : Calls Try.prog 22 #[.int .u8 10, .int .u32 2147483648, .int .u32 33, .int .u32 3221225472] w fun e w' => e = .returned (.bool true) ∧ Grown w w' :=
  makes_is 10 2147483648 33 3221225472 w (by decide) (by decide) (by decide) (by kernel_rfl) (by kernel_rfl)
theorem hd6 (w : World) : Calls Try.prog 22 #[.int .u8 11, .int .u32 4294967295, .int .u32 1, .int .u32 1] w fun e w' => e = .returned (.bool true) ∧ Grown w w' :=
  makes_is 11 4294967295 1 1 w (by decide) (by decide) (by decide) (by kernel_rfl) (by kernel_rfl)
theorem hd7 (w : World) : Calls Try.prog 22 #[.int .u8 12, .int .u32 4294967295, .int .u32 1, .int .u32 0] w fun e w' => e = .returned (.bool true) ∧ Grown w w' :=
  makes_is 12 4294967295 1 0 w (by decide) (by decide) (by decide) (by kernel_rfl) (by kernel_rfl)
theorem hd8 (w : World) : Calls Try.prog 12 #[.int .u32 3, .int .u32 5] w fun e w' => e = .returned (.int .u8 9) ∧ Grown w w' :=
  flags_is 3 5 9 w (by decide) (by decide) (by kernel_rfl)
theorem hd9 (w : World) : Calls Try.prog 12 #[.int .u32 5, .int .u32 5] w fun e w' => e = .returned (.int .u8 4) ∧ Grown w w' :=
  flags_is 5 5 4 w (by decide) (by decide) (by kernel_rfl)
theorem hd10 (w : World) : Calls Try.prog 12 #[.int .u32 2147483648, .int .u32 1] w fun e w' => e = .returned (.int .u8 2) ∧ Grown w w' :=
  flags_is 2147483648 1 2 w (by decide) (by decide) (by kernel_rfl)
theorem hd11 (w : World) : Calls Try.prog 14 #[.int .u8 3, .int .u8 9] w fun e w' => e = .returned (.bool true) ∧ w = w' :=
  holds_is 3 9 true w (by decide) (by decide) (by kernel_rfl)
theorem hd12 (w : World) : Calls Try.prog 14 #[.int .u8 3, .int .u8 2] w fun e w' => e = .returned (.bool true) ∧ w = w' :=
  holds_is 3 2 true w (by decide) (by decide) (by kernel_rfl)
theorem hd13 (w : World) : Calls Try.prog 14 #[.int .u8 6, .int .u8 9] w fun e w' => e = .returned (.bool false) ∧ w = w' :=
  holds_is 6 9 false w (by decide) (by decide) (by kernel_rfl)
theorem hd14 (w : World) : Calls Try.prog 14 #[.int .u8 7, .int .u8 0] w fun e w' => e = .returned (.bool false) ∧ w = w' :=
  holds_is 7 0 false w (by decide) (by decide) (by kernel_rfl)
set_option maxHeartbeats 1000000 in
theorem head_any (w : World) :
    Calls Try.prog 11 #[] w fun e w' => e = .returned (.bool true) ∧ Grown w w' := by
  go_enter Try.func11, Try.ntmps11
  go_wp2_with fail
  refine (hd0 _).mono ?_; rintro e w1 ⟨rfl, hg1⟩
  go_wp2_with fail
  refine (hd1 _).mono ?_; rintro e w2 ⟨rfl, hg2⟩
  go_wp2_with fail
  refine (hd2 _).mono ?_; rintro e w3 ⟨rfl, hg3⟩
  go_wp2_with fail
  refine (hd3 _).mono ?_; rintro e w4 ⟨rfl, hg4⟩
  go_wp2_with fail
  refine (hd4 _).mono ?_; rintro e w5 ⟨rfl, hg5⟩
  go_wp2_with fail
  refine (hd5 _).mono ?_; rintro e w6 ⟨rfl, hg6⟩
  go_wp2_with fail
  refine (hd6 _).mono ?_; rintro e w7 ⟨rfl, hg7⟩
  go_wp2_with fail
  refine (hd7 _).mono ?_; rintro e w8 ⟨rfl, hg8⟩
  go_wp2_with fail
  refine (hd8 _).mono ?_; rintro e w9 ⟨rfl, hg9⟩
  go_wp2_with fail
  refine (hd9 _).mono ?_; rintro e w10 ⟨rfl, hg10⟩
  go_wp2_with fail
  refine (hd10 _).mono ?_; rintro e w11 ⟨rfl, hg11⟩
  go_wp2_with fail
  refine (hd11 _).mono ?_; rintro e _ ⟨rfl, rfl⟩
  go_wp2_with fail
  refine (hd12 _).mono ?_; rintro e _ ⟨rfl, rfl⟩
  go_wp2_with fail
  refine (hd13 _).mono ?_; rintro e _ ⟨rfl, rfl⟩
  go_wp2_with fail
  refine (hd14 _).mono ?_; rintro e _ ⟨rfl, rfl⟩
  go_wp2
  go_ret
  exact ⟨rfl, grown_trans (grown_trans (grown_trans (grown_trans (grown_trans (grown_trans (grown_trans (grown_trans (grown_trans (grown_trans hg1 hg2) hg3) hg4) hg5) hg6) hg7) hg8) hg9) hg10) hg11⟩
end Go.Proofs.Ytflpejlghjeiiaa
