/- The block in which a file lies; worlds of which the old blocks have not turned, or only one has. What the small functions of package file come to, for any arguments. Where package file finds a register, for any arguments. What New, Get, Set, NW and Copy of package file come to, for any arguments. What Window and Put of package file come to, for any arguments. -/
import Derived.Test.YtiobgnelhiadbaaGreatDoorVBaseG
import Derived.Below
import Derived.Laws.AppendOwn
import Derived.Laws.Rows
import Derived.Great.BuildSlice
import Derived.Great.Walk
import Derived.Deep.WholeRow
import Derived.Lib.Hide
import Derived.WalkSpells
import Derived.WalkLawsBesides
import Derived.Handy
import Derived.Deep.RegionWith
import Derived.BigQuiet
import Derived.Deep.QuietTactic
import Derived.Laws.CopyOwn
namespace Go.Proofs.YtiobgnelhiadbaaGreatDoor.F3
open Go.RowKit
set_option linter.unusedVariables false

/-! A file's block. -/
def wcells (m : Nat) (n : Int) (R : Nat → Int) : Array Value := (Value.int .i64 n :: (List.range m).map fun j => Value.int .u32 (R j)).toArray
theorem wcells_nw (m : Nat) (n : Int) (R : Nat → Int) : (wcells m n R)[0]? = some (.int .i64 n) := by simp [wcells]
theorem wcells_reg (m : Nat) (n : Int) (R : Nat → Int) {j : Nat} (h : j < m) : (wcells m n R)[1 + j]? = some (.int .u32 (R j)) := by
  rw [Nat.add_comm]; simp [wcells, h]
theorem wcells_set (m : Nat) (n : Int) (R : Nat → Int) {j : Nat} (h : j < m) (v : Int) : (wcells m n R).setIfInBounds (1 + j) (.int .u32 v) = wcells m n (upd R j v) := by
  rw [Nat.add_comm]
  apply Array.ext
  · simp [wcells]
  · intro i h1 h2
    have hi : i < m + 1 := by simpa [wcells] using h2
    cases i with
    | zero => simp [wcells]
    | succ i =>
      by_cases e : i = j
      · subst e; simp [wcells, upd]
      · have e' : j ≠ i := fun h => e h.symm
        simp [wcells, upd, e, e']
def fcells (n : Int) (R : Nat → Int) : Array Value := wcells 648 n R
theorem fcells_nw (n : Int) (R : Nat → Int) : (fcells n R)[0]? = some (.int .i64 n) := wcells_nw 648 n R
theorem fcells_reg (n : Int) (R : Nat → Int) {j : Nat} (h : j < 648) : (fcells n R)[1 + j]? = some (.int .u32 (R j)) := wcells_reg 648 n R h
theorem fcells_set (n : Int) (R : Nat → Int) {j : Nat} (h : j < 648) (v : Int) : (fcells n R).setIfInBounds (1 + j) (.int .u32 v) = fcells n (upd R j v) := wcells_set 648 n R h v
theorem fcells_new (n : Int) : Tryz.prog.built 180 [(0, .int .i64 n)] = some (fcells n fun _ => 0) := by kernel_rfl
/-- A file of n windows, which holds the words R, lies in block b. -/
def FileAt (w : World) (b : Nat) (n : Int) (R : Nat → Int) : Prop := w.heap[b]? = some (.cells (fcells n R) 180 (0, 0))
theorem FileAt.nw {w : World} {b : Nat} {n : Int} {R : Nat → Int} (h : FileAt w b n R) : w.cell? ⟨b, 0, none⟩ = some (.int .i64 n) := (cell_of_row _ _ _ _ _ _ h).trans (fcells_nw n R)
theorem FileAt.reg {w : World} {b : Nat} {n : Int} {R : Nat → Int} (h : FileAt w b n R) {j : Nat} (hj : j < 648) : w.cell? ⟨b, 1 + j, none⟩ = some (.int .u32 (R j)) := (cell_of_row _ _ _ _ _ _ h).trans (fcells_reg n R hj)
theorem FileAt.frozen {w : World} {b : Nat} {n : Int} {R : Nat → Int} (h : FileAt w b n R) (j : Nat) : w.frozen? ⟨b, j, none⟩ = false := frozen_of_row _ _ _ _ _ h
theorem FileAt.lt {w : World} {b : Nat} {n : Int} {R : Nat → Int} (h : FileAt w b n R) : b < w.heap.size := block_lt_of_cell (a := ⟨b, 0, none⟩) h.nw
theorem FileAt.bel {w w' : World} {b : Nat} {n : Int} {R : Nat → Int} (h : FileAt w b n R) (g : Below w.heap.size w w') : FileAt w' b n R := bel_heap g h
theorem FileAt.set {w : World} {b : Nat} {n : Int} {R : Nat → Int} (h : FileAt w b n R) {j : Nat} (hj : j < 648) (v : Int) : FileAt (w.setCell ⟨b, 1 + j, none⟩ (.int .u32 v)) b n (upd R j v) := by
  have := heap_setCell_same w b (1 + j) _ _ (.int .u32 v) h
  rw [fcells_set n R hj v] at this
  exact this
end Go.Proofs.YtiobgnelhiadbaaGreatDoor.F3
namespace Go.Proofs.YtiobgnelhiadbaaGreatDoor.F3
open Go.RowKit
set_option linter.unusedVariables false

theorem below_in (x n : Int) (w : World) (h0 : 0 ≤ x) (h1 : x < n) : Calls Tryz.prog 159 #[.int .i64 x, .int .i64 n] w fun e w' => e = .returned (.bool true) ∧ w = w' := by
  go_enter Tryz.func159, Tryz.ntmps159
  go_wp2
  go_ret
  exact ⟨rfl, rfl⟩
theorem isObject_yes (b : Nat) (n : Int) (w : World) (hc : w.cell? ⟨b, 0, none⟩ = some (.int .i64 n)) (hn : 2 ≤ n) : Calls Tryz.prog 130 #[.pointer (some ⟨b, 0, none⟩)] w fun e w' => e = .returned (.bool true) ∧ w = w' := by
  have h0 : (n != 0) = true := by simp; omega
  go_enter Tryz.func130, Tryz.ntmps130
  go_wp2
  go_ret
  exact ⟨rfl, rfl⟩
theorem check_in (b : Nat) (n x : Int) (w : World) (hc : w.cell? ⟨b, 0, none⟩ = some (.int .i64 n)) (hn : 2 ≤ n) (h0 : 0 ≤ x) (h1 : x < n) : Calls Tryz.prog 106 #[.pointer (some ⟨b, 0, none⟩), .int .i64 x] w fun e w' => e = .returned (.int .i64 0) ∧ w = w' := by
  go_enter Tryz.func106, Tryz.ntmps106
  go_wp2_with fail
  refine (isObject_yes _ n _ hc hn).mono ?_; rintro e w1 ⟨rfl, rfl⟩
  go_wp2_with fail
  refine (below_in _ _ _ h0 h1).mono ?_; rintro e w1 ⟨rfl, rfl⟩
  go_wp2_with fail
  go_ret
  exact ⟨rfl, rfl⟩
theorem before_zero (b : Nat) (n : Int) (w : World) (hc : w.cell? ⟨b, 0, none⟩ = some (.int .i64 n)) (hn : 2 ≤ n) (hn' : n ≤ 32) : Calls Tryz.prog 231 #[.pointer (some ⟨b, 0, none⟩), .int .i64 0] w fun e w' => e = .returned (.int .i64 (n - 1)) ∧ w = w' := by
  go_enter Tryz.func231, Tryz.ntmps231
  go_wp2
  go_ret
  exact ⟨rfl, rfl⟩
theorem before_more (b : Nat) (x : Int) (w : World) (h0 : 1 ≤ x) (h1 : x < 32) : Calls Tryz.prog 231 #[.pointer (some ⟨b, 0, none⟩), .int .i64 x] w fun e w' => e = .returned (.int .i64 (x - 1)) ∧ w = w' := by
  have hx : ¬ x = 0 := by omega
  go_enter Tryz.func231, Tryz.ntmps231
  go_wp2
  go_ret
  exact ⟨rfl, rfl⟩
/-! A register's location, of the block in which the file lies; 'o' is the place of the window, or of the bank. -/
theorem ptr_eq {b o o' : Nat} (h : o = o') : Ending.returned (.pointer (some ⟨b, o, none⟩)) = Ending.returned (.pointer (some ⟨b, o', none⟩)) := by rw [h]
theorem own_any (b o : Nat) (r : Int) (w : World) (h0 : 16 ≤ r) (h1 : r < 32) : Calls Tryz.prog 233 #[.pointer (some ⟨b, o, none⟩), .int .i64 r] w fun e w' => e = .returned (.pointer (some ⟨b, o + (r - 16).toNat, none⟩)) ∧ w = w' := by
  go_enter Tryz.func233, Tryz.ntmps233
  go_wp2
  go_ret
  exact ⟨ptr_eq (by omega), rfl⟩
theorem out_any (b o : Nat) (r : Int) (w : World) (h0 : 8 ≤ r) (h1 : r < 16) : Calls Tryz.prog 232 #[.pointer (some ⟨b, o, none⟩), .int .i64 r] w fun e w' => e = .returned (.pointer (some ⟨b, o + r.toNat, none⟩)) ∧ w = w' := by
  go_enter Tryz.func232, Tryz.ntmps232
  go_wp2
  go_ret
  exact ⟨ptr_eq (by omega), rfl⟩
theorem global_any (b o : Nat) (r : Int) (w : World) (h0 : 0 ≤ r) (h1 : r < 8) : Calls Tryz.prog 230 #[.pointer (some ⟨b, o, none⟩), .int .i64 r] w fun e w' => e = .returned (.pointer (some ⟨b, o + r.toNat, none⟩)) ∧ w = w' := by
  go_enter Tryz.func230, Tryz.ntmps230
  go_wp2
  go_ret
  exact ⟨ptr_eq (by omega), rfl⟩
end Go.Proofs.YtiobgnelhiadbaaGreatDoor.F3
namespace Go.Proofs.YtiobgnelhiadbaaGreatDoor.F3
open Go.RowKit
set_option linter.unusedVariables false
theorem fn_eq {f : Fn} {b o o' : Nat} (h : o = o') : Ending.returned (.func f #[.pointer (some ⟨b, o, none⟩)] #[]) = Ending.returned (.func f #[.pointer (some ⟨b, o', none⟩)] #[]) := by rw [h]
theorem home_global (b : Nat) (x k r : Int) (w : World) (h0 : 0 ≤ k) (h1 : k < 17) (hr : r < 8) :
    Calls Tryz.prog 160 #[.pointer (some ⟨b, 0, none⟩), .int .i64 x, .int .i64 k, .int .i64 r] w fun e w' => e = .returned (.func (.func 230) #[.pointer (some ⟨b, 513 + k.toNat * 8, none⟩)] #[]) ∧ Below w.heap.size w w' := by
  go_enter Tryz.func160, Tryz.ntmps160
  go_wp2
  go_ret
  exact ⟨fn_eq (by omega), by go_grown⟩
theorem home_own (b : Nat) (x k r : Int) (w : World) (h0 : 0 ≤ x) (h1 : x < 32) (hr : 16 ≤ r) :
    Calls Tryz.prog 160 #[.pointer (some ⟨b, 0, none⟩), .int .i64 x, .int .i64 k, .int .i64 r] w fun e w' => e = .returned (.func (.func 233) #[.pointer (some ⟨b, 1 + x.toNat * 16, none⟩)] #[]) ∧ Below w.heap.size w w' := by
  have h8 : ¬ r < 8 := by omega
  have h16 : ¬ r < 16 := by omega
  go_enter Tryz.func160, Tryz.ntmps160
  go_wp2
  go_ret
  exact ⟨fn_eq (by omega), by go_grown⟩
theorem home_out (b : Nat) (n x k r y : Int) (w : World) (hc : w.cell? ⟨b, 0, none⟩ = some (.int .i64 n)) (hn : 2 ≤ n) (hn' : n ≤ 32) (h0 : 0 ≤ x) (h1 : x < n) (h8 : 8 ≤ r) (hr : r < 16) (hy0 : 0 ≤ y) (hy1 : y < 32)
    (hb : ∀ W : World, W.cell? ⟨b, 0, none⟩ = some (.int .i64 n) → Calls Tryz.prog 231 #[.pointer (some ⟨b, 0, none⟩), .int .i64 x] W fun e w' => e = .returned (.int .i64 y) ∧ W = w') :
    Calls Tryz.prog 160 #[.pointer (some ⟨b, 0, none⟩), .int .i64 x, .int .i64 k, .int .i64 r] w fun e w' => e = .returned (.func (.func 232) #[.pointer (some ⟨b, 1 + y.toNat * 16, none⟩)] #[]) ∧ Below w.heap.size w w' := by
  have h8' : ¬ r < 8 := by omega
  have HB := Lib.hid hb; clear hb
  go_enter Tryz.func160, Tryz.ntmps160
  go_wp2_with fail
  go_region_with (go_at_call 231; refine (HB.out _ (by simpa using hc)).mono ?_; rintro e w1 ⟨rfl, rfl⟩)
  all_goals
    go_wp2
    go_ret
    exact ⟨fn_eq (by omega), by go_grown⟩

theorem pair_eq {b o o' : Nat} (h : o = o') : Ending.returned (.tuple #[.pointer (some ⟨b, o, none⟩), .int .i64 0]) = Ending.returned (.tuple #[.pointer (some ⟨b, o', none⟩), .int .i64 0]) := by rw [h]
theorem find_at (b : Nat) (n x k r : Int) (w : World) (hc : w.cell? ⟨b, 0, none⟩ = some (.int .i64 n)) (hn : 2 ≤ n) (hn' : n ≤ 32) (h : Named n x k r) :
    Calls Tryz.prog 105 #[.pointer (some ⟨b, 0, none⟩), .int .i64 x, .int .i64 k, .int .i64 r] w fun e w' => e = .returned (.tuple #[.pointer (some ⟨b, 1 + loc n x k r, none⟩), .int .i64 0]) ∧ Below w.heap.size w w' := by
  obtain ⟨h0, h1, h2, h3, h4, h5⟩ := h
  by_cases h8 : r < 8
  · have HL := Lib.hid (loc_global (n := n) (win := x) (bank := k) h8)
    go_enter Tryz.func105, Tryz.ntmps105
    go_wp2_with fail
    refine (check_in _ n _ _ hc hn h0 h1).mono ?_; rintro e w1 ⟨rfl, rfl⟩
    go_wp2_with fail
    refine (below_in _ _ _ h2 h3).mono ?_; rintro e w1 ⟨rfl, rfl⟩
    go_wp2_with fail
    refine (below_in _ _ _ h4 h5).mono ?_; rintro e w1 ⟨rfl, rfl⟩
    go_wp2_with fail
    refine (home_global b x k r _ h2 h3 h8).mono ?_; rintro e w1 ⟨rfl, g1⟩
    go_wp2_with fail
    refine (global_any b _ r _ h4 h8).mono ?_; rintro e w2 ⟨rfl, rfl⟩
    go_wp2_with fail
    go_ret2
    exact ⟨pair_eq (by rw [HL.out]; omega), g1⟩
  by_cases h16 : r < 16
  · have h8' : 8 ≤ r := by omega
    by_cases hz : x = 0
    · subst hz
      have HL := Lib.hid (loc_out0 (n := n) (bank := k) h8' h16)
      go_enter Tryz.func105, Tryz.ntmps105
      go_wp2_with fail
      refine (check_in _ n _ _ hc hn h0 h1).mono ?_; rintro e w1 ⟨rfl, rfl⟩
      go_wp2_with fail
      refine (below_in _ _ _ h2 h3).mono ?_; rintro e w1 ⟨rfl, rfl⟩
      go_wp2_with fail
      refine (below_in _ _ _ h4 h5).mono ?_; rintro e w1 ⟨rfl, rfl⟩
      go_wp2_with fail
      refine (home_out b n 0 k r (n - 1) _ hc hn hn' h0 h1 h8' h16 (by omega) (by omega) (fun W hW => before_zero b n W hW hn hn')).mono ?_; rintro e w1 ⟨rfl, g1⟩
      go_wp2_with fail
      refine (out_any b _ r _ h8' h16).mono ?_; rintro e w2 ⟨rfl, rfl⟩
      go_wp2_with fail
      go_ret2
      exact ⟨pair_eq (by rw [HL.out]; omega), g1⟩
    · have HL := Lib.hid (loc_out (n := n) (bank := k) h8' h16 hz)
      have hx : 1 ≤ x := by omega
      clear hz
      go_enter Tryz.func105, Tryz.ntmps105
      go_wp2_with fail
      refine (check_in _ n _ _ hc hn h0 h1).mono ?_; rintro e w1 ⟨rfl, rfl⟩
      go_wp2_with fail
      refine (below_in _ _ _ h2 h3).mono ?_; rintro e w1 ⟨rfl, rfl⟩
      go_wp2_with fail
      refine (below_in _ _ _ h4 h5).mono ?_; rintro e w1 ⟨rfl, rfl⟩
      go_wp2_with fail
      refine (home_out b n x k r (x - 1) _ hc hn hn' h0 h1 h8' h16 (by omega) (by omega) (fun W _ => before_more b x W hx (by omega))).mono ?_; rintro e w1 ⟨rfl, g1⟩
      go_wp2_with fail
      refine (out_any b _ r _ h8' h16).mono ?_; rintro e w2 ⟨rfl, rfl⟩
      go_wp2_with fail
      go_ret2
      exact ⟨pair_eq (by rw [HL.out]; omega), g1⟩
  · have h16' : 16 ≤ r := by omega
    have HL := Lib.hid (loc_own (n := n) (win := x) (bank := k) h16')
    go_enter Tryz.func105, Tryz.ntmps105
    go_wp2_with fail
    refine (check_in _ n _ _ hc hn h0 h1).mono ?_; rintro e w1 ⟨rfl, rfl⟩
    go_wp2_with fail
    refine (below_in _ _ _ h2 h3).mono ?_; rintro e w1 ⟨rfl, rfl⟩
    go_wp2_with fail
    refine (below_in _ _ _ h4 h5).mono ?_; rintro e w1 ⟨rfl, rfl⟩
    go_wp2_with fail
    refine (home_own b x k r _ h0 (by omega) h16').mono ?_; rintro e w1 ⟨rfl, g1⟩
    go_wp2_with fail
    refine (own_any b _ r _ h16' h5).mono ?_; rintro e w2 ⟨rfl, rfl⟩
    go_wp2_with fail
    go_ret2
    exact ⟨pair_eq (by rw [HL.out]; omega), g1⟩
end Go.Proofs.YtiobgnelhiadbaaGreatDoor.F3
namespace Go.Proofs.YtiobgnelhiadbaaGreatDoor.F3
open Go.RowKit
set_option linter.unusedVariables false
set_option maxRecDepth 100000 in
theorem new_at (n : Int) (w : World) (h : 2 ≤ n) (h' : n ≤ 32) :
    Calls Tryz.prog 123 #[.int .i64 n] w fun e w' => e = .returned (.tuple #[.pointer (some ⟨w.heap.size, 0, none⟩), .int .i64 0]) ∧ Below w.heap.size w w' ∧ FileAt w' w.heap.size n (fun _ => 0) := by
  have h2 : ¬ n < 2 := by omega
  have h3 : ¬ 32 < n := by omega
  have G : Below w.heap.size w (w.alloc (.cells (fcells n fun _ => 0) 180)) := (Below.refl _ _).alloc (Nat.le_refl _) _
  have F : FileAt (w.alloc (.cells (fcells n fun _ => 0) 180)) w.heap.size n (fun _ => 0) := heap_alloc_last _ _
  go_enter Tryz.func123, Tryz.ntmps123
  go_wp2_with (first
    | (refine Great.wpList_boxTo rfl 180 (.tmp 11) rfl (some 12) rfl w.heap.size rfl (fcells n fun _ => 0) rfl ?_)
    | (refine wpList_buildTo rfl 180 #[(0, .tmp 10)] rfl (some 11) rfl (fcells n fun _ => 0) (by simpa [go_sem] using fcells_new n) ?_))
  go_ret2
  exact ⟨rfl, G, F⟩
theorem get_at (b : Nat) (n x k r : Int) (R : Nat → Int) (w : World) (hF : FileAt w b n R) (hn : 2 ≤ n) (hn' : n ≤ 32) (h : Named n x k r) :
    Calls Tryz.prog 26 #[.pointer (some ⟨b, 0, none⟩), .int .i64 x, .int .i64 k, .int .i64 r] w fun e w' => e = .returned (.tuple #[.int .u32 (R (loc n x k r)), .int .i64 0]) ∧ Below w.heap.size w w' := by
  have hl := loc_lt hn' h
  go_enter Tryz.func26, Tryz.ntmps26
  go_wp2_with fail
  refine (find_at _ n _ _ _ _ hF.nw hn hn' h).mono ?_; rintro e w1 ⟨rfl, g1⟩
  have hc := bel_cell g1 (hF.reg hl)
  go_wp2_with fail
  go_ret2
  exact ⟨rfl, g1⟩
theorem set_at (b : Nat) (n x k r v : Int) (R : Nat → Int) (w : World) (hF : FileAt w b n R) (hn : 2 ≤ n) (hn' : n ≤ 32) (h : Named n x k r) :
    Calls Tryz.prog 63 #[.pointer (some ⟨b, 0, none⟩), .int .i64 x, .int .i64 k, .int .i64 r, .int .u32 v] w fun e w' => e = .returned (.int .i64 0) ∧ w.grownBy w' (some b) ∧ FileAt w' b n (setR R n x k r v) := by
  have hl := loc_lt hn' h
  by_cases h0 : r = 0
  · subst h0
    have e : setR R n x k 0 v = R := rfl
    rw [e]; clear e
    go_enter Tryz.func63, Tryz.ntmps63
    go_wp2_with fail
    refine (find_at _ n _ _ _ _ hF.nw hn hn' h).mono ?_; rintro e w1 ⟨rfl, g1⟩
    go_wp2_with fail
    go_ret
    exact ⟨rfl, bel_only g1 b, hF.bel g1⟩
  · have e : setR R n x k r v = upd R (loc n x k r) v := by unfold setR; rw [if_neg h0]
    rw [e]; clear e
    have h0' : (r != 0) = true := by simpa using h0
    go_enter Tryz.func63, Tryz.ntmps63
    go_wp2_with fail
    refine (find_at _ n _ _ _ _ hF.nw hn hn' h).mono ?_; rintro e w1 ⟨rfl, g1⟩
    have F1 := hF.bel g1
    have hc := F1.reg hl
    have hf := F1.frozen (1 + loc n x k r)
    have F2 := F1.set hl v
    have g2 := only_cell (bel_only g1 b) (1 + loc n x k r) (.int .u32 v)
    go_wp2_with fail
    go_ret
    exact ⟨rfl, g2, F2⟩
theorem nw_at (b : Nat) (n : Int) (w : World) (hc : w.cell? ⟨b, 0, none⟩ = some (.int .i64 n)) (hn : 2 ≤ n) : Calls Tryz.prog 127 #[.pointer (some ⟨b, 0, none⟩)] w fun e w' => e = .returned (.int .i64 n) ∧ w = w' := by
  go_enter Tryz.func127, Tryz.ntmps127
  go_wp2_with fail
  refine (isObject_yes _ n _ hc hn).mono ?_; rintro e w1 ⟨rfl, rfl⟩
  go_wp2_with fail
  go_ret
  exact ⟨rfl, rfl⟩
end Go.Proofs.YtiobgnelhiadbaaGreatDoor.F3
namespace Go.Proofs.YtiobgnelhiadbaaGreatDoor.F3
open Go.RowKit
set_option linter.unusedVariables false
/-- Sixteen words as cells. -/
def wl (f : Nat → Int) : List Value := (List.range 16).map fun i => Value.int .u32 (f i)
theorem wl_len (f : Nat → Int) : (wl f).length = 16 := by simp [wl]
theorem wl_get (f : Nat → Int) {i : Nat} (h : i < 16) : (wl f)[i]? = some (.int .u32 (f i)) := by simp [wl, h]
theorem wl_some (f : Nat → Int) {i : Nat} {v : Value} (h : (wl f)[i]? = some v) : i < 16 ∧ v = .int .u32 (f i) := by
  have hi : i < 16 := by have := (List.getElem?_eq_some_iff.1 h).1; rwa [wl_len] at this
  rw [wl_get f hi] at h
  exact ⟨hi, by cases h; rfl⟩
theorem wl_one (f : Nat → Int) : ∀ v ∈ wl f, v.oneCell' = true := by
  intro v hv
  simp only [wl, List.mem_map] at hv
  obtain ⟨i, _, rfl⟩ := hv
  rfl
/-- Sixteen words of a file's words, replaced. -/
def putF (R : Nat → Int) (o : Nat) (f : Nat → Int) : Nat → Int := fun j => if o ≤ j ∧ j < o + 16 then f (j - o) else R j
theorem splice_whole (f g : Nat → Int) : splice (wl f) 0 (wl g) = wl g := by simp [splice, wl]
theorem u32_under : Tryz.prog.underlying 25 = some (.slice 22) := by kernel_rfl
theorem u32_size : (Tryz.prog.info? 22).map (·.size) = some 1 := by kernel_rfl
set_option maxHeartbeats 1000000 in
theorem window_at (b : Nat) (n x : Int) (R : Nat → Int) (w : World) (hF : FileAt w b n R) (hn : 2 ≤ n) (hn' : n ≤ 32) (h0 : 0 ≤ x) (h1 : x < n) :
    Calls Tryz.prog 31 #[.pointer (some ⟨b, 0, none⟩), .int .i64 x] w fun e w' => e = .returned (.tuple #[.slice (some ⟨w.heap.size, 0, none⟩) 16 16, .int .i64 0]) ∧ Below w.heap.size w w' ∧ w'.heap[w.heap.size]? = some (.cells (wl fun i => R (x.toNat * 16 + i)).toArray 22 (0, 0)) := by
  have hx : x.toNat < 32 := by omega
  have G : Below w.heap.size w (w.alloc (.cells (wl fun _ => 0).toArray 22)) := (Below.refl _ _).alloc (Nat.le_refl _) _
  have F1 := hF.bel G
  have HS : Hid (∀ j v, (wl fun i => R (x.toNat * 16 + i))[j]? = some v → (w.alloc (.cells (wl fun _ => 0).toArray 22)).cell? ((⟨b, 1 + x.toNat * 16, none⟩ : Addr).add j) = some v) := by
    intro j v hv
    obtain ⟨hj, rfl⟩ := wl_some _ hv
    rw [add_at, show 1 + x.toNat * 16 + j = 1 + (x.toNat * 16 + j) by omega]
    exact F1.reg (by omega)
  go_enter Tryz.func31, Tryz.ntmps31
  go_wp2_with fail
  refine (check_in _ n _ _ hF.nw hn h0 h1).mono ?_; rintro e w1 ⟨rfl, rfl⟩
  go_wp2_with (first
    | (refine Great.wpList_allocTo rfl (some 20) rfl (.slice (some ⟨w.heap.size, 0, none⟩) 16 16) (.cells (wl fun _ => 0).toArray 22) (by kernel_rfl) ?_)
    | (refine wpList_copy_splice rfl (.tmp 21) (.tmp 24) 25 25 rfl 22 u32_under u32_size _ _ _ _ _ _ rfl rfl w.heap.size 0 (wl fun _ => 0) 22 (heap_alloc_last _ _) (wl fun i => R (x.toNat * 16 + i)) (wl_len _) (fun _ => ⟨rfl, _, rfl, HS.out⟩) (by rw [wl_len, wl_len]; omega) (wl_one _) w.heap.size w G (Nat.le_refl _) ?_; intro w2 hg2 hb2; rw [splice_whole] at hg2))
  go_ret2
  exact ⟨rfl, hb2, hg2.out⟩
end Go.Proofs.YtiobgnelhiadbaaGreatDoor.F3
