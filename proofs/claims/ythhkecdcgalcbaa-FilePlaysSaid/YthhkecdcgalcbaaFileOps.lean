/- What New, Get, Set, NW and Copy of package file come to, for any arguments. -/
import Derived.Test.YthhkecdcgalcbaaFileFind
namespace Go.Proofs.Ythhkecdcgalcbaa
open Go.RowKit
set_option linter.unusedVariables false
theorem new_bad (n : Int) (w : World) (h : n < 2 ∨ 32 < n) : Calls Try.prog 7 #[.int .i64 n] w fun e w' => e = .returned (.tuple #[.pointer none, .int .i64 2]) ∧ w = w' := by
  by_cases h2 : n < 2
  · clear h
    go_enter Try.func7, Try.ntmps7
    go_wp2
    go_ret2
    exact ⟨rfl, rfl⟩
  · have h3 : 32 < n := by omega
    clear h
    go_enter Try.func7, Try.ntmps7
    go_wp2
    go_ret2
    exact ⟨rfl, rfl⟩
set_option maxRecDepth 100000 in
theorem new_at (n : Int) (w : World) (h : 2 ≤ n) (h' : n ≤ 32) :
    Calls Try.prog 7 #[.int .i64 n] w fun e w' => e = .returned (.tuple #[.pointer (some ⟨w.heap.size, 0, none⟩), .int .i64 0]) ∧ Below w.heap.size w w' ∧ FileAt w' w.heap.size n (fun _ => 0) := by
  have h2 : ¬ n < 2 := by omega
  have h3 : ¬ 32 < n := by omega
  have G : Below w.heap.size w (w.alloc (.cells (fcells n fun _ => 0) 57)) := (Below.refl _ _).alloc (Nat.le_refl _) _
  have F : FileAt (w.alloc (.cells (fcells n fun _ => 0) 57)) w.heap.size n (fun _ => 0) := heap_alloc_last _ _
  go_enter Try.func7, Try.ntmps7
  go_wp2_with (first
    | (refine Great.wpList_boxTo rfl 57 (.tmp 11) rfl (some 12) rfl w.heap.size rfl (fcells n fun _ => 0) rfl ?_)
    | (refine wpList_buildTo rfl 57 #[(0, .tmp 10)] rfl (some 11) rfl (fcells n fun _ => 0) (by simpa [go_sem] using fcells_new n) ?_))
  go_ret2
  exact ⟨rfl, G, F⟩
theorem get_no (p : Option Addr) (x k r : Int) (w : World) (h : NoFile w p) :
    Calls Try.prog 16 #[.pointer p, .int .i64 x, .int .i64 k, .int .i64 r] w fun e w' => e = .returned (.tuple #[.int .u32 0, .int .i64 1]) ∧ w = w' := by
  go_enter Try.func16, Try.ntmps16
  go_wp2_with fail
  refine (find_no _ _ _ _ _ h).mono ?_; rintro e w1 ⟨rfl, rfl⟩
  go_wp2_with fail
  go_ret2
  exact ⟨rfl, rfl⟩
theorem get_bad (b : Nat) (n x k r : Int) (R : Nat → Int) (w : World) (hF : FileAt w b n R) (hn : 2 ≤ n) (h : ¬ Named n x k r) :
    Calls Try.prog 16 #[.pointer (some ⟨b, 0, none⟩), .int .i64 x, .int .i64 k, .int .i64 r] w fun e w' => e = .returned (.tuple #[.int .u32 0, .int .i64 2]) ∧ w = w' := by
  go_enter Try.func16, Try.ntmps16
  go_wp2_with fail
  refine (find_bad _ n _ _ _ _ hF.nw hn h).mono ?_; rintro e w1 ⟨rfl, rfl⟩
  go_wp2_with fail
  go_ret2
  exact ⟨rfl, rfl⟩
theorem get_at (b : Nat) (n x k r : Int) (R : Nat → Int) (w : World) (hF : FileAt w b n R) (hn : 2 ≤ n) (hn' : n ≤ 32) (h : Named n x k r) :
    Calls Try.prog 16 #[.pointer (some ⟨b, 0, none⟩), .int .i64 x, .int .i64 k, .int .i64 r] w fun e w' => e = .returned (.tuple #[.int .u32 (R (loc n x k r)), .int .i64 0]) ∧ Below w.heap.size w w' := by
  have hl := loc_lt hn' h
  go_enter Try.func16, Try.ntmps16
  go_wp2_with fail
  refine (find_at _ n _ _ _ _ hF.nw hn hn' h).mono ?_; rintro e w1 ⟨rfl, g1⟩
  have hc := bel_cell g1 (hF.reg hl)
  go_wp2_with fail
  go_ret2
  exact ⟨rfl, g1⟩
theorem set_no (p : Option Addr) (x k r v : Int) (w : World) (h : NoFile w p) :
    Calls Try.prog 15 #[.pointer p, .int .i64 x, .int .i64 k, .int .i64 r, .int .u32 v] w fun e w' => e = .returned (.int .i64 1) ∧ w = w' := by
  go_enter Try.func15, Try.ntmps15
  go_wp2_with fail
  refine (find_no _ _ _ _ _ h).mono ?_; rintro e w1 ⟨rfl, rfl⟩
  go_wp2_with fail
  go_ret
  exact ⟨rfl, rfl⟩
theorem set_bad (b : Nat) (n x k r v : Int) (R : Nat → Int) (w : World) (hF : FileAt w b n R) (hn : 2 ≤ n) (h : ¬ Named n x k r) :
    Calls Try.prog 15 #[.pointer (some ⟨b, 0, none⟩), .int .i64 x, .int .i64 k, .int .i64 r, .int .u32 v] w fun e w' => e = .returned (.int .i64 2) ∧ w = w' := by
  go_enter Try.func15, Try.ntmps15
  go_wp2_with fail
  refine (find_bad _ n _ _ _ _ hF.nw hn h).mono ?_; rintro e w1 ⟨rfl, rfl⟩
  go_wp2_with fail
  go_ret
  exact ⟨rfl, rfl⟩
theorem set_at (b : Nat) (n x k r v : Int) (R : Nat → Int) (w : World) (hF : FileAt w b n R) (hn : 2 ≤ n) (hn' : n ≤ 32) (h : Named n x k r) :
    Calls Try.prog 15 #[.pointer (some ⟨b, 0, none⟩), .int .i64 x, .int .i64 k, .int .i64 r, .int .u32 v] w fun e w' => e = .returned (.int .i64 0) ∧ w.grownBy w' (some b) ∧ FileAt w' b n (setR R n x k r v) := by
  have hl := loc_lt hn' h
  by_cases h0 : r = 0
  · subst h0
    have e : setR R n x k 0 v = R := rfl
    rw [e]; clear e
    go_enter Try.func15, Try.ntmps15
    go_wp2_with fail
    refine (find_at _ n _ _ _ _ hF.nw hn hn' h).mono ?_; rintro e w1 ⟨rfl, g1⟩
    go_wp2_with fail
    go_ret
    exact ⟨rfl, bel_only g1 b, hF.bel g1⟩
  · have e : setR R n x k r v = upd R (loc n x k r) v := by unfold setR; rw [if_neg h0]
    rw [e]; clear e
    have h0' : (r != 0) = true := by simpa using h0
    go_enter Try.func15, Try.ntmps15
    go_wp2_with fail
    refine (find_at _ n _ _ _ _ hF.nw hn hn' h).mono ?_; rintro e w1 ⟨rfl, g1⟩
    have F1 := hF.bel g1
    have hc := F1.reg hl
    have hf := F1.frozen (1 + loc n x k r)
    have F2 := F1.set hl v
    have g2 := only_cell (bel_only g1 b) (1 + loc n x k r) (.int .u32 v)
    go_wp2_with fail
    go_ret
    exact ⟨rfl, g2, F2⟩
theorem nw_no (p : Option Addr) (w : World) (h : NoFile w p) : Calls Try.prog 20 #[.pointer p] w fun e w' => e = .returned (.int .i64 0) ∧ w = w' := by
  go_enter Try.func20, Try.ntmps20
  go_wp2_with fail
  refine (isObject_no _ _ h).mono ?_; rintro e w1 ⟨rfl, rfl⟩
  go_wp2_with fail
  go_ret
  exact ⟨rfl, rfl⟩
theorem nw_at (b : Nat) (n : Int) (w : World) (hc : w.cell? ⟨b, 0, none⟩ = some (.int .i64 n)) (hn : 2 ≤ n) : Calls Try.prog 20 #[.pointer (some ⟨b, 0, none⟩)] w fun e w' => e = .returned (.int .i64 n) ∧ w = w' := by
  go_enter Try.func20, Try.ntmps20
  go_wp2_with fail
  refine (isObject_yes _ n _ hc hn).mono ?_; rintro e w1 ⟨rfl, rfl⟩
  go_wp2_with fail
  go_ret
  exact ⟨rfl, rfl⟩
theorem copy_no (p : Option Addr) (w : World) (h : NoFile w p) : Calls Try.prog 10 #[.pointer p] w fun e w' => e = .returned (.pointer none) ∧ w = w' := by
  go_enter Try.func10, Try.ntmps10
  go_wp2_with fail
  refine (isObject_no _ _ h).mono ?_; rintro e w1 ⟨rfl, rfl⟩
  go_wp2_with fail
  go_ret
  exact ⟨rfl, rfl⟩
theorem fcells_under : Try.prog.underlying 57 = some (Try.prog.underlying 57 |>.get (by kernel_rfl)) := by simp
set_option maxRecDepth 100000 in
theorem copy_at (b : Nat) (n : Int) (R : Nat → Int) (w : World) (hF : FileAt w b n R) (hn : 2 ≤ n) :
    Calls Try.prog 10 #[.pointer (some ⟨b, 0, none⟩)] w fun e w' => e = .returned (.pointer (some ⟨w.heap.size, 0, none⟩)) ∧ Below w.heap.size w w' ∧ FileAt w' w.heap.size n R := by
  have G : Below w.heap.size w (w.alloc (.cells (fcells n R) 57)) := (Below.refl _ _).alloc (Nat.le_refl _) _
  have F : FileAt (w.alloc (.cells (fcells n R) 57)) w.heap.size n R := heap_alloc_last _ _
  go_enter Try.func10, Try.ntmps10
  go_wp2_with fail
  refine (isObject_yes _ n _ hF.nw hn).mono ?_; rintro e w1 ⟨rfl, rfl⟩
  go_wp2_with (first
    | (refine wpList_load_row rfl 57 (.tmp 8) rfl b rfl 57 (fcells n R) (0, 0) _ hF fcells_under rfl (fcells_info n R) ?_)
    | (refine Great.wpList_allocTo rfl (some 3) rfl (.pointer (some ⟨w.heap.size, 0, none⟩)) (.cells (fcells 0 fun _ => 0) 57) (by kernel_rfl) ?_)
    | (refine wpList_store_row rfl 57 (.tmp 3) (.tmp 9) rfl w.heap.size (fcells n R) rfl rfl 57 _ (heap_alloc_last _ _) (fcells_info n R) ((fcells_size _ _).trans (fcells_size _ _).symm) (fcells_one n R) ?_; rw [World.setRow_alloc_new]))
  go_ret
  exact ⟨rfl, G, F⟩
end Go.Proofs.Ythhkecdcgalcbaa
