/- What the document's New and Place of layer 3 come to, for any arguments. -/
import Derived.Test.YthhkecdcgalcbaaFileWords
namespace Go.Proofs.Ythhkecdcgalcbaa
open Go.RowKit
set_option linter.unusedVariables false
theorem refNew_bad (n : Int) (w : World) (h : n < 2 ∨ 32 < n) : Calls Try.prog 8 #[.int .i64 n] w fun e w' => e = .returned (.tuple #[.agg #[.int .i64 0, .slice none 0 0], .int .i64 2]) ∧ Below w.heap.size w w' := by
  by_cases h2 : n < 2
  · clear h
    go_enter Try.func8, Try.ntmps8
    go_wp2
    exact bodyPost_ret (v := .tuple #[.agg #[.int .i64 0, .slice none 0 0], .int .i64 2]) (by simp [results, Try.results8, go_sem]) rfl ⟨rfl, by go_grown⟩
  · have h3 : 32 < n := by omega
    clear h
    go_enter Try.func8, Try.ntmps8
    go_wp2
    exact bodyPost_ret (v := .tuple #[.agg #[.int .i64 0, .slice none 0 0], .int .i64 2]) (by simp [results, Try.results8, go_sem]) rfl ⟨rfl, by go_grown⟩
theorem refNew_at (n : Int) (w : World) (h : 2 ≤ n) (h' : n ≤ 32) : Calls Try.prog 8 #[.int .i64 n] w fun e w' => e = .returned (.tuple #[.agg #[.int .i64 n, .slice none 0 0], .int .i64 0]) ∧ Below w.heap.size w w' := by
  have h2 : ¬ n < 2 := by omega
  have h3 : ¬ 32 < n := by omega
  go_enter Try.func8, Try.ntmps8
  go_wp2
  exact bodyPost_ret (v := .tuple #[.agg #[.int .i64 n, .slice none 0 0], .int .i64 0]) (by simp [results, Try.results8, go_sem]) rfl ⟨rfl, by go_grown⟩
def celV (c : Cel) : Value := .agg #[.int .i64 c.1, .int .i64 c.2.1, .int .i64 c.2.2]
set_option maxHeartbeats 1000000 in
theorem place_bad (n x k r : Int) (s : Value) (w : World) (h : ¬ Named n x k r) :
    Calls Try.prog 24 #[.agg #[.int .i64 n, s], .int .i64 x, .int .i64 k, .int .i64 r] w fun e w' => e = .returned (.tuple #[celV (0, 0, 0), .int .i64 2]) ∧ Below w.heap.size w w' := by
  unfold Named at h
  unfold celV
  by_cases h1 : x < 0
  · clear h
    go_enter Try.func24, Try.ntmps24
    go_wp2
    exact bodyPost_ret (v := .tuple #[.agg #[.int .i64 0, .int .i64 0, .int .i64 0], .int .i64 2]) (by simp [results, Try.results24, go_sem]) rfl ⟨rfl, by go_grown⟩
  by_cases h2 : n ≤ x
  · clear h
    go_enter Try.func24, Try.ntmps24
    go_wp2
    exact bodyPost_ret (v := .tuple #[.agg #[.int .i64 0, .int .i64 0, .int .i64 0], .int .i64 2]) (by simp [results, Try.results24, go_sem]) rfl ⟨rfl, by go_grown⟩
  by_cases h3 : k < 0
  · clear h
    go_enter Try.func24, Try.ntmps24
    go_wp2
    exact bodyPost_ret (v := .tuple #[.agg #[.int .i64 0, .int .i64 0, .int .i64 0], .int .i64 2]) (by simp [results, Try.results24, go_sem]) rfl ⟨rfl, by go_grown⟩
  by_cases h4 : 16 < k
  · clear h
    go_enter Try.func24, Try.ntmps24
    go_wp2
    exact bodyPost_ret (v := .tuple #[.agg #[.int .i64 0, .int .i64 0, .int .i64 0], .int .i64 2]) (by simp [results, Try.results24, go_sem]) rfl ⟨rfl, by go_grown⟩
  by_cases h5 : r < 0
  · clear h
    go_enter Try.func24, Try.ntmps24
    go_wp2
    exact bodyPost_ret (v := .tuple #[.agg #[.int .i64 0, .int .i64 0, .int .i64 0], .int .i64 2]) (by simp [results, Try.results24, go_sem]) rfl ⟨rfl, by go_grown⟩
  · have h6 : 31 < r := by omega
    clear h
    go_enter Try.func24, Try.ntmps24
    go_wp2
    exact bodyPost_ret (v := .tuple #[.agg #[.int .i64 0, .int .i64 0, .int .i64 0], .int .i64 2]) (by simp [results, Try.results24, go_sem]) rfl ⟨rfl, by go_grown⟩
set_option maxHeartbeats 1000000 in
theorem place_at (n x k r : Int) (s : Value) (w : World) (hn : 2 ≤ n) (hn' : n ≤ 32) (h : Named n x k r) :
    Calls Try.prog 24 #[.agg #[.int .i64 n, s], .int .i64 x, .int .i64 k, .int .i64 r] w fun e w' => e = .returned (.tuple #[celV (place n x k r), .int .i64 0]) ∧ Below w.heap.size w w' := by
  obtain ⟨h0, h1, h2, h3, h4, h5⟩ := h
  have g1 : ¬ x < 0 := by omega
  have g2 : ¬ n ≤ x := by omega
  have g3 : ¬ k < 0 := by omega
  have g4 : ¬ 16 < k := by omega
  have g5 : ¬ r < 0 := by omega
  have g6 : ¬ 31 < r := by omega
  unfold place celV
  by_cases c1 : r < 8
  · rw [if_pos c1]
    go_enter Try.func24, Try.ntmps24
    go_wp2
    exact bodyPost_ret (v := .tuple #[.agg #[.int .i64 0, .int .i64 k, .int .i64 r], .int .i64 0]) (by simp [results, Try.results24, go_sem]) rfl ⟨rfl, by go_grown⟩
  rw [if_neg c1]
  by_cases c2 : r < 16
  · rw [if_pos c2]
    go_enter Try.func24, Try.ntmps24
    go_wp2
    exact bodyPost_ret (v := .tuple #[.agg #[.int .i64 2, .int .i64 ((x + n - 1) % n), .int .i64 (r - 8)], .int .i64 0]) (by simp [results, Try.results24, go_sem]) rfl ⟨rfl, by go_grown⟩
  rw [if_neg c2]
  by_cases c3 : r < 24
  · rw [if_pos c3]
    go_enter Try.func24, Try.ntmps24
    go_wp2
    exact bodyPost_ret (v := .tuple #[.agg #[.int .i64 1, .int .i64 x, .int .i64 (r - 16)], .int .i64 0]) (by simp [results, Try.results24, go_sem]) rfl ⟨rfl, by go_grown⟩
  · rw [if_neg c3]
    go_enter Try.func24, Try.ntmps24
    go_wp2
    exact bodyPost_ret (v := .tuple #[.agg #[.int .i64 2, .int .i64 x, .int .i64 (r - 24)], .int .i64 0]) (by simp [results, Try.results24, go_sem]) rfl ⟨rfl, by go_grown⟩
end Go.Proofs.Ythhkecdcgalcbaa
