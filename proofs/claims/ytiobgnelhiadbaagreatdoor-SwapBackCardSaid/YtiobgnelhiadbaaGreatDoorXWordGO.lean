/- The table of word's operations and what each of its closures comes to, for any two words: walks that end in the plain arithmetic of WordMath. -/
import Derived.Test.YtiobgnelhiadbaaGreatDoorXBaseG
import Derived.WalkKit
import Derived.ProofKit
import Derived.OpenShut
import Derived.WalkSpells
import Derived.WalkLawsBesides
import Derived.Laws.EntriesVeiled
import Derived.Deep.WholeRow
namespace Go.Proofs.YtiobgnelhiadbaaGreatDoor.W1
open Go.RowKit
set_option linter.unusedVariables false

/-- The table of operations, cell by cell. -/
def opsRow : Array Value := #[.func (.func 316) #[] #[], .bool false, .func (.func 317) #[] #[], .bool false, .func (.func 318) #[] #[], .bool false, .func (.func 319) #[] #[], .bool true, .func (.func 320) #[] #[], .bool true, .func (.func 321) #[] #[], .bool false, .func (.func 322) #[] #[], .bool false, .func (.func 323) #[] #[], .bool false, .func (.func 324) #[] #[], .bool false, .func (.func 326) #[] #[], .bool false, .func (.func 327) #[] #[], .bool false, .func (.func 328) #[] #[], .bool false, .func (.func 330) #[] #[], .bool false, .func (.func 331) #[] #[], .bool false]
theorem opsInfo : (Tryz.prog.info? 353).map (·.size) = some opsRow.size := by kernel_rfl
theorem opsUnder : Tryz.prog.underlying 353 = some (.array 14 352) := by kernel_rfl
theorem opsOne : opsRow.all (·.oneCell') = true := by kernel_rfl
theorem ops_cell (w : World) (j : Nat) : (w.alloc (.cells opsRow 353)).cell? ⟨w.heap.size, j, none⟩ = opsRow[j]? :=
  cell_of_row _ _ _ _ _ _ (heap_alloc_last _ _)
theorem wpList_store_new {P : Program} {ops : Array Oper} {rest : List Oper} {o : Oper} {a : Act} {w : World} {Q : Exit → Act → World → Prop} (hgd : o.guard = none) (t : TypeId) (x y : Operand) (ho : o.op = .store t x y)
    (c cells : Array Value) (hx : a.eval x = .pointer (some ⟨w.heap.size, 0, none⟩)) (hy : a.eval y = .agg cells) (hi : (P.info? t).map (·.size) = some cells.size)
    (hold : c.size = cells.size) (h1 : cells.all (·.oneCell') = true)
    (h : wpList P ops Q rest (a.put o.dst undef) (w.alloc (.cells cells t))) : wpList P ops Q (o :: rest) a (w.alloc (.cells c t)) := by
  refine wpList_store_row hgd t x y ho w.heap.size cells hx hy t c (heap_alloc_last _ _) hi hold h1 ?_
  rw [World.setRow_alloc_new]; exact h
set_option maxRecDepth 100000 in
theorem ops_any (w : World) :
    Calls Tryz.prog 294 #[] w fun e w' => e = .returned (.agg opsRow) ∧ Grown w w' := by
  go_enter Tryz.func294, Tryz.ntmps294
  go_wp2_with (refine wpList_store_row rfl 353 (.tmp 0) (.tmp 15) rfl w.heap.size opsRow rfl rfl 353 _ (heap_alloc_last _ _) opsInfo rfl opsOne ?_)
  refine bodyPost_ret (v := .agg opsRow) ?_ rfl ⟨rfl, ?_⟩
  · refine results_cell_row (p := 0) (ty := 353) Tryz.results294 _ _ w.heap.size 353 opsRow (0,0) (.array 14 352) rfl ?_ opsUnder rfl opsInfo
    exact setRow_heap _ _ _ _ _ _ (heap_alloc_last _ _)
  · rw [World.setRow_alloc_new]; exact (Grown.refl w).alloc _ _

/-! The small ones. -/
theorem places_any (b : Int) (w : World) (hb : 0 ≤ b ∧ b < 4294967296) :
    Calls Tryz.prog 325 #[.int .u32 b] w fun e w' => e = .returned (.int .u32 (b % 32)) ∧ w = w' := by
  have h := and31 b hb
  go_enter Tryz.func325, Tryz.ntmps325
  go_wp2
  go_ret
  exact ⟨rfl, rfl⟩
theorem truth_any (p : Bool) (w : World) :
    Calls Tryz.prog 329 #[.bool p] w fun e w' => e = .returned (.int .u32 (tr p)) ∧ w = w' := by
  cases p
  · go_enter Tryz.func329, Tryz.ntmps329
    go_wp2
    go_ret
    exact ⟨rfl, rfl⟩
  · go_enter Tryz.func329, Tryz.ntmps329
    go_wp2
    go_ret
    exact ⟨rfl, rfl⟩
theorem cl0 (a b : Int) (w : World) (ha : 0 ≤ a ∧ a < 4294967296) (hb : 0 ≤ b ∧ b < 4294967296) :
    Calls Tryz.prog 316 #[.int .u32 a, .int .u32 b] w fun e w' => e = .returned (.int .u32 (dv 0 a b)) ∧ w = w' := by
  go_enter Tryz.func316, Tryz.ntmps316
  go_wp2
  go_ret
  exact ⟨rfl, rfl⟩
theorem cl1 (a b : Int) (w : World) (ha : 0 ≤ a ∧ a < 4294967296) (hb : 0 ≤ b ∧ b < 4294967296) :
    Calls Tryz.prog 317 #[.int .u32 a, .int .u32 b] w fun e w' => e = .returned (.int .u32 (dv 1 a b)) ∧ w = w' := by
  go_enter Tryz.func317, Tryz.ntmps317
  go_wp2
  go_ret
  exact ⟨rfl, rfl⟩
theorem cl2 (a b : Int) (w : World) (ha : 0 ≤ a ∧ a < 4294967296) (hb : 0 ≤ b ∧ b < 4294967296) :
    Calls Tryz.prog 318 #[.int .u32 a, .int .u32 b] w fun e w' => e = .returned (.int .u32 (dv 2 a b)) ∧ w = w' := by
  go_enter Tryz.func318, Tryz.ntmps318
  go_wp2
  go_ret
  exact ⟨rfl, rfl⟩
theorem cl3 (a b : Int) (w : World) (ha : 0 ≤ a ∧ a < 4294967296) (hb : 0 ≤ b ∧ b < 4294967296) (h0 : b ≠ 0) :
    Calls Tryz.prog 319 #[.int .u32 a, .int .u32 b] w fun e w' => e = .returned (.int .u32 (dv 3 a b)) ∧ w = w' := by
  have hz : wrap32 b ≠ 0 := fun h => h0 ((wrap32_zero b hb).1 h)
  go_enter Tryz.func319, Tryz.ntmps319
  go_wp2
  go_ret
  refine ⟨?_, rfl⟩
  rw [dv_3 a b h0]
  first | rfl | (rw [wrap32_mod]; rfl)
theorem cl4 (a b : Int) (w : World) (ha : 0 ≤ a ∧ a < 4294967296) (hb : 0 ≤ b ∧ b < 4294967296) (h0 : b ≠ 0) :
    Calls Tryz.prog 320 #[.int .u32 a, .int .u32 b] w fun e w' => e = .returned (.int .u32 (dv 4 a b)) ∧ w = w' := by
  have hz : wrap32 b ≠ 0 := fun h => h0 ((wrap32_zero b hb).1 h)
  go_enter Tryz.func320, Tryz.ntmps320
  go_wp2
  go_ret
  refine ⟨?_, rfl⟩
  rw [dv_4 a b h0]; rfl
theorem cl5 (a b : Int) (w : World) (ha : 0 ≤ a ∧ a < 4294967296) (hb : 0 ≤ b ∧ b < 4294967296) :
    Calls Tryz.prog 321 #[.int .u32 a, .int .u32 b] w fun e w' => e = .returned (.int .u32 (dv 5 a b)) ∧ w = w' := by
  go_enter Tryz.func321, Tryz.ntmps321
  go_wp2
  go_ret
  exact ⟨rfl, rfl⟩
theorem cl6 (a b : Int) (w : World) (ha : 0 ≤ a ∧ a < 4294967296) (hb : 0 ≤ b ∧ b < 4294967296) :
    Calls Tryz.prog 322 #[.int .u32 a, .int .u32 b] w fun e w' => e = .returned (.int .u32 (dv 6 a b)) ∧ w = w' := by
  go_enter Tryz.func322, Tryz.ntmps322
  go_wp2
  go_ret
  exact ⟨rfl, rfl⟩
theorem cl7 (a b : Int) (w : World) (ha : 0 ≤ a ∧ a < 4294967296) (hb : 0 ≤ b ∧ b < 4294967296) :
    Calls Tryz.prog 323 #[.int .u32 a, .int .u32 b] w fun e w' => e = .returned (.int .u32 (dv 7 a b)) ∧ w = w' := by
  go_enter Tryz.func323, Tryz.ntmps323
  go_wp2
  go_ret
  exact ⟨rfl, rfl⟩
theorem cl8 (a b : Int) (w : World) (ha : 0 ≤ a ∧ a < 4294967296) (hb : 0 ≤ b ∧ b < 4294967296) :
    Calls Tryz.prog 324 #[.int .u32 a, .int .u32 b] w fun e w' => e = .returned (.int .u32 (dv 8 a b)) ∧ w = w' := by
  go_enter Tryz.func324, Tryz.ntmps324
  go_wp2_with (go_at_call 325; refine (places_any _ _ hb).mono ?_; rintro e w1 ⟨rfl, rfl⟩)
  go_ret
  exact ⟨rfl, rfl⟩
theorem cl9 (a b : Int) (w : World) (ha : 0 ≤ a ∧ a < 4294967296) (hb : 0 ≤ b ∧ b < 4294967296) :
    Calls Tryz.prog 326 #[.int .u32 a, .int .u32 b] w fun e w' => e = .returned (.int .u32 (dv 9 a b)) ∧ w = w' := by
  go_enter Tryz.func326, Tryz.ntmps326
  go_wp2_with (go_at_call 325; refine (places_any _ _ hb).mono ?_; rintro e w1 ⟨rfl, rfl⟩)
  go_ret
  exact ⟨rfl, rfl⟩
theorem cl10 (a b : Int) (w : World) (ha : 0 ≤ a ∧ a < 4294967296) (hb : 0 ≤ b ∧ b < 4294967296) :
    Calls Tryz.prog 327 #[.int .u32 a, .int .u32 b] w fun e w' => e = .returned (.int .u32 (dv 10 a b)) ∧ w = w' := by
  go_enter Tryz.func327, Tryz.ntmps327
  go_wp2_with (go_at_call 325; refine (places_any _ _ hb).mono ?_; rintro e w1 ⟨rfl, rfl⟩)
  go_ret
  exact ⟨rfl, rfl⟩
theorem cl11 (a b : Int) (w : World) (ha : 0 ≤ a ∧ a < 4294967296) (hb : 0 ≤ b ∧ b < 4294967296) :
    Calls Tryz.prog 328 #[.int .u32 a, .int .u32 b] w fun e w' => e = .returned (.int .u32 (dv 11 a b)) ∧ w = w' := by
  go_enter Tryz.func328, Tryz.ntmps328
  go_wp2_with (go_at_call 329; refine (truth_any _ _).mono ?_; rintro e w1 ⟨rfl, rfl⟩)
  go_ret
  exact ⟨rfl, rfl⟩
theorem cl12 (a b : Int) (w : World) (ha : 0 ≤ a ∧ a < 4294967296) (hb : 0 ≤ b ∧ b < 4294967296) :
    Calls Tryz.prog 330 #[.int .u32 a, .int .u32 b] w fun e w' => e = .returned (.int .u32 (dv 12 a b)) ∧ w = w' := by
  go_enter Tryz.func330, Tryz.ntmps330
  go_wp2_with (go_at_call 329; refine (truth_any _ _).mono ?_; rintro e w1 ⟨rfl, rfl⟩)
  go_ret
  exact ⟨rfl, rfl⟩
theorem cl13 (a b : Int) (w : World) (ha : 0 ≤ a ∧ a < 4294967296) (hb : 0 ≤ b ∧ b < 4294967296) :
    Calls Tryz.prog 331 #[.int .u32 a, .int .u32 b] w fun e w' => e = .returned (.int .u32 (dv 13 a b)) ∧ w = w' := by
  go_enter Tryz.func331, Tryz.ntmps331
  go_wp2_with (go_at_call 329; refine (truth_any _ _).mono ?_; rintro e w1 ⟨rfl, rfl⟩)
  go_ret
  exact ⟨rfl, rfl⟩
end Go.Proofs.YtiobgnelhiadbaaGreatDoor.W1
