/- The head that layer 3's statements end with: known registers of a file of three windows; it answers true. -/
import Derived.Test.YthhkecdcgalcbaaFileRows
namespace Go.Proofs.Ythhkecdcgalcbaa
open Go.RowKit
set_option linter.unusedVariables false
theorem get_is (b : Nat) (n x k r v : Int) (R : Nat → Int) (w : World) (hF : FileAt w b n R) (hn : 2 ≤ n) (hn' : n ≤ 32) (h : Named n x k r) (hv : R (loc n x k r) = v) :
    Calls Try.prog 16 #[.pointer (some ⟨b, 0, none⟩), .int .i64 x, .int .i64 k, .int .i64 r] w fun e w' => e = .returned (.tuple #[.int .u32 v, .int .i64 0]) ∧ Below w.heap.size w w' := by
  subst hv; exact get_at b n x k r R w hF hn hn' h
def hR1 : Nat → Int := setR (fun _ => 0) 3 1 0 8 7
def hR2 : Nat → Int := setR hR1 3 0 0 9 9
def hR3 : Nat → Int := setR hR2 3 0 4 1 3
def hR4 : Nat → Int := setR hR3 3 0 0 0 5
theorem named3 {x k r : Int} (h : 0 ≤ x ∧ x < 3 ∧ 0 ≤ k ∧ k < 17 ∧ 0 ≤ r ∧ r < 32) : Named 3 x k r := h
theorem not3 {x k r : Int} (h : 3 ≤ x ∨ 17 ≤ k ∨ 32 ≤ r) : ¬ Named 3 x k r := by unfold Named; omega
set_option maxHeartbeats 1000000 in
theorem head_any (w : World) : Calls Try.prog 9 #[] w fun e w' => e = .returned (.bool true) ∧ Below w.heap.size w w' := by
  go_enter Try.func9, Try.ntmps9
  go_wp2_with fail
  refine (new_at 3 _ (by decide) (by decide)).mono ?_; rintro e w1 ⟨rfl, g1, F0⟩
  generalize hz : w.heap.size = z at F0
  have hb : w.heap.size ≤ z := by omega
  clear hz
  go_wp2_with fail
  refine (set_at z 3 1 0 8 7 _ _ F0 (by decide) (by decide) (named3 (by decide))).mono ?_; rintro e w2 ⟨rfl, k2, F1⟩
  have g2 := only_bel g1 k2 hb
  clear k2 g1 F0
  go_wp2_with fail
  refine (set_at z 3 0 0 9 9 hR1 _ F1 (by decide) (by decide) (named3 (by decide))).mono ?_; rintro e w3 ⟨rfl, k3, F2⟩
  have g3 := only_bel g2 k3 hb
  clear k3 g2 F1
  go_wp2_with fail
  refine (set_at z 3 0 4 1 3 hR2 _ F2 (by decide) (by decide) (named3 (by decide))).mono ?_; rintro e w4 ⟨rfl, k4, F3⟩
  have g4 := only_bel g3 k4 hb
  clear k4 g3 F2
  go_wp2_with fail
  refine (set_at z 3 0 0 0 5 hR3 _ F3 (by decide) (by decide) (named3 (by decide))).mono ?_; rintro e w5 ⟨rfl, k5, F⟩
  have g5 := only_bel g4 k5 hb
  clear k5 g4 F3
  go_wp2_with fail
  refine (get_is z 3 0 5 24 7 hR4 _ F (by decide) (by decide) (named3 (by decide)) (by decide)).mono ?_; rintro e v1 ⟨rfl, x1⟩
  have F := F.bel x1
  have g6 := bel_trans g5 x1
  go_wp2_with fail
  refine (get_is z 3 2 0 24 0 hR4 _ F (by decide) (by decide) (named3 (by decide)) (by decide)).mono ?_; rintro e v2 ⟨rfl, x2⟩
  have F := F.bel x2
  have g6 := bel_trans g6 x2
  go_wp2_with fail
  refine (get_is z 3 2 0 25 9 hR4 _ F (by decide) (by decide) (named3 (by decide)) (by decide)).mono ?_; rintro e v3 ⟨rfl, x3⟩
  have F := F.bel x3
  have g6 := bel_trans g6 x3
  go_wp2_with fail
  refine (get_is z 3 2 4 1 3 hR4 _ F (by decide) (by decide) (named3 (by decide)) (by decide)).mono ?_; rintro e v4 ⟨rfl, x4⟩
  have F := F.bel x4
  have g6 := bel_trans g6 x4
  go_wp2_with fail
  refine (get_is z 3 0 5 1 0 hR4 _ F (by decide) (by decide) (named3 (by decide)) (by decide)).mono ?_; rintro e v5 ⟨rfl, x5⟩
  have F := F.bel x5
  have g6 := bel_trans g6 x5
  go_wp2_with fail
  refine (get_is z 3 0 0 0 0 hR4 _ F (by decide) (by decide) (named3 (by decide)) (by decide)).mono ?_; rintro e v6 ⟨rfl, x6⟩
  have F := F.bel x6
  have g6 := bel_trans g6 x6
  go_wp2_with fail
  refine (get_bad z 3 3 0 1 hR4 _ F (by decide) (not3 (by decide))).mono ?_; rintro e v7 ⟨rfl, rfl⟩
  go_wp2_with fail
  refine (get_bad z 3 0 17 1 hR4 _ F (by decide) (not3 (by decide))).mono ?_; rintro e v8 ⟨rfl, rfl⟩
  go_wp2_with fail
  refine (get_bad z 3 0 0 32 hR4 _ F (by decide) (not3 (by decide))).mono ?_; rintro e v9 ⟨rfl, rfl⟩
  go_wp2
  go_ret
  exact ⟨rfl, g6⟩
end Go.Proofs.Ythhkecdcgalcbaa
