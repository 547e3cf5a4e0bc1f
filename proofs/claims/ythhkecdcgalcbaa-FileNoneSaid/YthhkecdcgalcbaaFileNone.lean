/- The walk of layer 3's statement FileNone: it returns true; of what was there nothing has turned. -/
import Derived.Test.YthhkecdcgalcbaaFileHead
namespace Go.Proofs.Ythhkecdcgalcbaa
open Go.RowKit
set_option linter.unusedVariables false
set_option maxHeartbeats 1000000 in
set_option maxRecDepth 100000 in
theorem fileNone_walk (x r : Int) (w0 : (Lit.int .i64 x).wf = true) (w1 : (Lit.int .i64 r).wf = true) (w : World) :
    Calls Try.prog 5 #[.int .i64 x, .int .i64 r] w fun e w' => e = .returned (.bool true) ∧ Below w.heap.size w w' := by
  have hx := w0
  clear hx
  have G : Below w.heap.size w ((w.alloc (.cells (fcells 0 fun _ => 0) 57)).alloc (.cells #[.pointer none, .pointer (some ⟨w.heap.size, 0, none⟩)] 23)) := ((Below.refl _ _).alloc (Nat.le_refl _) _).alloc (by simp) _
  have HP : Hid (∀ k : Nat, k < 2 → ∃ p, ((w.alloc (.cells (fcells 0 fun _ => 0) 57)).alloc (.cells #[.pointer none, .pointer (some ⟨w.heap.size, 0, none⟩)] 23)).cell? ⟨w.heap.size + 1, k, none⟩ = some (.pointer p)
      ∧ NoFile ((w.alloc (.cells (fcells 0 fun _ => 0) 57)).alloc (.cells #[.pointer none, .pointer (some ⟨w.heap.size, 0, none⟩)] 23)) p) := by
    intro k hk
    have hl : ∀ j, ((w.alloc (.cells (fcells 0 fun _ => 0) 57)).alloc (.cells #[.pointer none, .pointer (some ⟨w.heap.size, 0, none⟩)] 23)).cell? ⟨w.heap.size + 1, j, none⟩ = (#[.pointer none, .pointer (some ⟨w.heap.size, 0, none⟩)] : Array Value)[j]? := fun j =>
      cell_of_row _ _ _ _ _ _ (heap_alloc2_new w _ _)
    have hf : ((w.alloc (.cells (fcells 0 fun _ => 0) 57)).alloc (.cells #[.pointer none, .pointer (some ⟨w.heap.size, 0, none⟩)] 23)).cell? ⟨w.heap.size, 0, none⟩ = some (.int .i64 0) :=
      (cell_of_row _ _ _ _ _ _ (heap_alloc2_old w _ _)).trans (fcells_nw _ _)
    rcases (by omega : k = 0 ∨ k = 1) with rfl | rfl
    · exact ⟨none, hl 0, .inl rfl⟩
    · exact ⟨some ⟨w.heap.size, 0, none⟩, hl 1, .inr ⟨_, rfl, hf⟩⟩
  go_enter Try.func5, Try.ntmps5
  go_wp2_with (first
    | (refine Great.wpList_boxTo rfl 57 (.tmp 14) rfl (some 15) rfl w.heap.size rfl (fcells 0 fun _ => 0) rfl ?_)
    | (refine wpList_buildTo rfl 57 #[] rfl (some 14) rfl (fcells 0 fun _ => 0) (by simpa [go_sem] using fcells_zero) ?_))
  generalize ((w.alloc (.cells (fcells 0 fun _ => 0) 57)).alloc (.cells #[.pointer none, .pointer (some ⟨w.heap.size, 0, none⟩)] 23)) = v at G HP ⊢
  go_loop [7] (fun i => ∃ k : Nat, k ≤ 2 ∧ i = .int .i64 (k : Int)) (fun i => 2 - (intOf i).toNat)
  case atStart => exact ⟨0, by decide, rfl⟩
  case round =>
    obtain ⟨k, hk, rfl⟩ := hrel
    by_cases h2 : k < 2
    · obtain ⟨p, hc, hN⟩ := HP.out k h2
      go_wp2_with fail
      refine (get_no _ _ _ _ _ hN).mono ?_; rintro e v1 ⟨rfl, rfl⟩
      go_wp2_with fail
      refine (window_no _ _ _ hN).mono ?_; rintro e v1 ⟨rfl, rfl⟩
      go_wp2_with fail
      refine (set_no _ _ _ _ _ _ hN).mono ?_; rintro e v1 ⟨rfl, rfl⟩
      go_wp2_with fail
      refine (put_no _ _ _ _ hN).mono ?_; rintro e v1 ⟨rfl, rfl⟩
      go_wp2_with fail
      refine (nw_no _ _ hN).mono ?_; rintro e v1 ⟨rfl, rfl⟩
      go_wp2_with fail
      refine (copy_no _ _ hN).mono ?_; rintro e v1 ⟨rfl, rfl⟩
      go_wp2
      go_round
      case rel => exact ⟨k + 1, by omega, by go_num⟩
      case measure => simp [intOf]; omega
    · go_wp2_with fail
      refine (head_any _).mono ?_; rintro e v1 ⟨rfl, g1⟩
      go_wp2
      go_ret
      exact ⟨rfl, bel_trans G g1⟩
end Go.Proofs.Ythhkecdcgalcbaa
