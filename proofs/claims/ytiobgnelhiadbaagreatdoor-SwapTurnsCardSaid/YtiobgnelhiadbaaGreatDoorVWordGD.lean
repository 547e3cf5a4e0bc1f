/- What a call of word.Do comes to, for any operation and any two words: its result and whether there is one; memory has at most new blocks. -/
import Derived.Test.YtiobgnelhiadbaaGreatDoorVWordG
namespace Go.Proofs.YtiobgnelhiadbaaGreatDoor.W1
open Go.RowKit
set_option linter.unusedVariables false

/-! Do, operation by operation. -/
set_option maxHeartbeats 1000000 in
set_option maxRecDepth 100000 in
theorem do0 (a b : Int) (w : World) (ha : 0 ≤ a ∧ a < 4294967296) (hb : 0 ≤ b ∧ b < 4294967296) :
    Calls Tryz.prog 262 #[.int .u8 0, .int .u32 a, .int .u32 b] w fun e w' => e = .returned (.tuple #[.int .u32 (dv 0 a b), .bool true]) ∧ Grown w w' := by
  have hc0 : ∀ w : World, (w.alloc (.cells opsRow 353)).cell? ⟨w.heap.size, 0, none⟩ = some (.func (.func 316) #[] #[]) := fun w => (ops_cell w 0).trans rfl
  have hc1 : ∀ w : World, (w.alloc (.cells opsRow 353)).cell? ⟨w.heap.size, 1, none⟩ = some (.bool false) := fun w => (ops_cell w 1).trans rfl
  go_enter Tryz.func262, Tryz.ntmps262
  go_wp2_with (first | (go_at_call 294; refine (ops_any _).mono ?_; rintro e w1 ⟨rfl, hg⟩) | (refine wpList_store_new rfl 353 (.tmp 8) (.tmp 10) rfl _ opsRow rfl rfl opsInfo rfl opsOne ?_) | (go_at_call 316; refine (cl0 _ _ _ ha hb).mono ?_; rintro e w2 ⟨rfl, rfl⟩))
  go_ret2
  exact ⟨rfl, (hg.alloc _ _).alloc _ _⟩
set_option maxHeartbeats 1000000 in
set_option maxRecDepth 100000 in
theorem do1 (a b : Int) (w : World) (ha : 0 ≤ a ∧ a < 4294967296) (hb : 0 ≤ b ∧ b < 4294967296) :
    Calls Tryz.prog 262 #[.int .u8 1, .int .u32 a, .int .u32 b] w fun e w' => e = .returned (.tuple #[.int .u32 (dv 1 a b), .bool true]) ∧ Grown w w' := by
  have hc0 : ∀ w : World, (w.alloc (.cells opsRow 353)).cell? ⟨w.heap.size, 2, none⟩ = some (.func (.func 317) #[] #[]) := fun w => (ops_cell w 2).trans rfl
  have hc1 : ∀ w : World, (w.alloc (.cells opsRow 353)).cell? ⟨w.heap.size, 3, none⟩ = some (.bool false) := fun w => (ops_cell w 3).trans rfl
  go_enter Tryz.func262, Tryz.ntmps262
  go_wp2_with (first | (go_at_call 294; refine (ops_any _).mono ?_; rintro e w1 ⟨rfl, hg⟩) | (refine wpList_store_new rfl 353 (.tmp 8) (.tmp 10) rfl _ opsRow rfl rfl opsInfo rfl opsOne ?_) | (go_at_call 317; refine (cl1 _ _ _ ha hb).mono ?_; rintro e w2 ⟨rfl, rfl⟩))
  go_ret2
  exact ⟨rfl, (hg.alloc _ _).alloc _ _⟩
set_option maxHeartbeats 1000000 in
set_option maxRecDepth 100000 in
theorem do2 (a b : Int) (w : World) (ha : 0 ≤ a ∧ a < 4294967296) (hb : 0 ≤ b ∧ b < 4294967296) :
    Calls Tryz.prog 262 #[.int .u8 2, .int .u32 a, .int .u32 b] w fun e w' => e = .returned (.tuple #[.int .u32 (dv 2 a b), .bool true]) ∧ Grown w w' := by
  have hc0 : ∀ w : World, (w.alloc (.cells opsRow 353)).cell? ⟨w.heap.size, 4, none⟩ = some (.func (.func 318) #[] #[]) := fun w => (ops_cell w 4).trans rfl
  have hc1 : ∀ w : World, (w.alloc (.cells opsRow 353)).cell? ⟨w.heap.size, 5, none⟩ = some (.bool false) := fun w => (ops_cell w 5).trans rfl
  go_enter Tryz.func262, Tryz.ntmps262
  go_wp2_with (first | (go_at_call 294; refine (ops_any _).mono ?_; rintro e w1 ⟨rfl, hg⟩) | (refine wpList_store_new rfl 353 (.tmp 8) (.tmp 10) rfl _ opsRow rfl rfl opsInfo rfl opsOne ?_) | (go_at_call 318; refine (cl2 _ _ _ ha hb).mono ?_; rintro e w2 ⟨rfl, rfl⟩))
  go_ret2
  exact ⟨rfl, (hg.alloc _ _).alloc _ _⟩
set_option maxHeartbeats 1000000 in
set_option maxRecDepth 100000 in
theorem do3 (a b : Int) (w : World) (ha : 0 ≤ a ∧ a < 4294967296) (hb : 0 ≤ b ∧ b < 4294967296) (h0 : b ≠ 0) :
    Calls Tryz.prog 262 #[.int .u8 3, .int .u32 a, .int .u32 b] w fun e w' => e = .returned (.tuple #[.int .u32 (dv 3 a b), .bool true]) ∧ Grown w w' := by
  have hc0 : ∀ w : World, (w.alloc (.cells opsRow 353)).cell? ⟨w.heap.size, 6, none⟩ = some (.func (.func 319) #[] #[]) := fun w => (ops_cell w 6).trans rfl
  have hc1 : ∀ w : World, (w.alloc (.cells opsRow 353)).cell? ⟨w.heap.size, 7, none⟩ = some (.bool true) := fun w => (ops_cell w 7).trans rfl
  have hz : (b == 0) = false := by simpa using h0
  go_enter Tryz.func262, Tryz.ntmps262
  go_wp2_with (first | (go_at_call 294; refine (ops_any _).mono ?_; rintro e w1 ⟨rfl, hg⟩) | (refine wpList_store_new rfl 353 (.tmp 8) (.tmp 10) rfl _ opsRow rfl rfl opsInfo rfl opsOne ?_) | (go_at_call 319; refine (cl3 _ _ _ ha hb h0).mono ?_; rintro e w2 ⟨rfl, rfl⟩))
  go_ret2
  exact ⟨rfl, (hg.alloc _ _).alloc _ _⟩
set_option maxHeartbeats 1000000 in
set_option maxRecDepth 100000 in
theorem do4 (a b : Int) (w : World) (ha : 0 ≤ a ∧ a < 4294967296) (hb : 0 ≤ b ∧ b < 4294967296) (h0 : b ≠ 0) :
    Calls Tryz.prog 262 #[.int .u8 4, .int .u32 a, .int .u32 b] w fun e w' => e = .returned (.tuple #[.int .u32 (dv 4 a b), .bool true]) ∧ Grown w w' := by
  have hc0 : ∀ w : World, (w.alloc (.cells opsRow 353)).cell? ⟨w.heap.size, 8, none⟩ = some (.func (.func 320) #[] #[]) := fun w => (ops_cell w 8).trans rfl
  have hc1 : ∀ w : World, (w.alloc (.cells opsRow 353)).cell? ⟨w.heap.size, 9, none⟩ = some (.bool true) := fun w => (ops_cell w 9).trans rfl
  have hz : (b == 0) = false := by simpa using h0
  go_enter Tryz.func262, Tryz.ntmps262
  go_wp2_with (first | (go_at_call 294; refine (ops_any _).mono ?_; rintro e w1 ⟨rfl, hg⟩) | (refine wpList_store_new rfl 353 (.tmp 8) (.tmp 10) rfl _ opsRow rfl rfl opsInfo rfl opsOne ?_) | (go_at_call 320; refine (cl4 _ _ _ ha hb h0).mono ?_; rintro e w2 ⟨rfl, rfl⟩))
  go_ret2
  exact ⟨rfl, (hg.alloc _ _).alloc _ _⟩
set_option maxHeartbeats 1000000 in
set_option maxRecDepth 100000 in
theorem do5 (a b : Int) (w : World) (ha : 0 ≤ a ∧ a < 4294967296) (hb : 0 ≤ b ∧ b < 4294967296) :
    Calls Tryz.prog 262 #[.int .u8 5, .int .u32 a, .int .u32 b] w fun e w' => e = .returned (.tuple #[.int .u32 (dv 5 a b), .bool true]) ∧ Grown w w' := by
  have hc0 : ∀ w : World, (w.alloc (.cells opsRow 353)).cell? ⟨w.heap.size, 10, none⟩ = some (.func (.func 321) #[] #[]) := fun w => (ops_cell w 10).trans rfl
  have hc1 : ∀ w : World, (w.alloc (.cells opsRow 353)).cell? ⟨w.heap.size, 11, none⟩ = some (.bool false) := fun w => (ops_cell w 11).trans rfl
  go_enter Tryz.func262, Tryz.ntmps262
  go_wp2_with (first | (go_at_call 294; refine (ops_any _).mono ?_; rintro e w1 ⟨rfl, hg⟩) | (refine wpList_store_new rfl 353 (.tmp 8) (.tmp 10) rfl _ opsRow rfl rfl opsInfo rfl opsOne ?_) | (go_at_call 321; refine (cl5 _ _ _ ha hb).mono ?_; rintro e w2 ⟨rfl, rfl⟩))
  go_ret2
  exact ⟨rfl, (hg.alloc _ _).alloc _ _⟩
set_option maxHeartbeats 1000000 in
set_option maxRecDepth 100000 in
theorem do6 (a b : Int) (w : World) (ha : 0 ≤ a ∧ a < 4294967296) (hb : 0 ≤ b ∧ b < 4294967296) :
    Calls Tryz.prog 262 #[.int .u8 6, .int .u32 a, .int .u32 b] w fun e w' => e = .returned (.tuple #[.int .u32 (dv 6 a b), .bool true]) ∧ Grown w w' := by
  have hc0 : ∀ w : World, (w.alloc (.cells opsRow 353)).cell? ⟨w.heap.size, 12, none⟩ = some (.func (.func 322) #[] #[]) := fun w => (ops_cell w 12).trans rfl
  have hc1 : ∀ w : World, (w.alloc (.cells opsRow 353)).cell? ⟨w.heap.size, 13, none⟩ = some (.bool false) := fun w => (ops_cell w 13).trans rfl
  go_enter Tryz.func262, Tryz.ntmps262
  go_wp2_with (first | (go_at_call 294; refine (ops_any _).mono ?_; rintro e w1 ⟨rfl, hg⟩) | (refine wpList_store_new rfl 353 (.tmp 8) (.tmp 10) rfl _ opsRow rfl rfl opsInfo rfl opsOne ?_) | (go_at_call 322; refine (cl6 _ _ _ ha hb).mono ?_; rintro e w2 ⟨rfl, rfl⟩))
  go_ret2
  exact ⟨rfl, (hg.alloc _ _).alloc _ _⟩
set_option maxHeartbeats 1000000 in
set_option maxRecDepth 100000 in
theorem do7 (a b : Int) (w : World) (ha : 0 ≤ a ∧ a < 4294967296) (hb : 0 ≤ b ∧ b < 4294967296) :
    Calls Tryz.prog 262 #[.int .u8 7, .int .u32 a, .int .u32 b] w fun e w' => e = .returned (.tuple #[.int .u32 (dv 7 a b), .bool true]) ∧ Grown w w' := by
  have hc0 : ∀ w : World, (w.alloc (.cells opsRow 353)).cell? ⟨w.heap.size, 14, none⟩ = some (.func (.func 323) #[] #[]) := fun w => (ops_cell w 14).trans rfl
  have hc1 : ∀ w : World, (w.alloc (.cells opsRow 353)).cell? ⟨w.heap.size, 15, none⟩ = some (.bool false) := fun w => (ops_cell w 15).trans rfl
  go_enter Tryz.func262, Tryz.ntmps262
  go_wp2_with (first | (go_at_call 294; refine (ops_any _).mono ?_; rintro e w1 ⟨rfl, hg⟩) | (refine wpList_store_new rfl 353 (.tmp 8) (.tmp 10) rfl _ opsRow rfl rfl opsInfo rfl opsOne ?_) | (go_at_call 323; refine (cl7 _ _ _ ha hb).mono ?_; rintro e w2 ⟨rfl, rfl⟩))
  go_ret2
  exact ⟨rfl, (hg.alloc _ _).alloc _ _⟩
set_option maxHeartbeats 1000000 in
set_option maxRecDepth 100000 in
theorem do8 (a b : Int) (w : World) (ha : 0 ≤ a ∧ a < 4294967296) (hb : 0 ≤ b ∧ b < 4294967296) :
    Calls Tryz.prog 262 #[.int .u8 8, .int .u32 a, .int .u32 b] w fun e w' => e = .returned (.tuple #[.int .u32 (dv 8 a b), .bool true]) ∧ Grown w w' := by
  have hc0 : ∀ w : World, (w.alloc (.cells opsRow 353)).cell? ⟨w.heap.size, 16, none⟩ = some (.func (.func 324) #[] #[]) := fun w => (ops_cell w 16).trans rfl
  have hc1 : ∀ w : World, (w.alloc (.cells opsRow 353)).cell? ⟨w.heap.size, 17, none⟩ = some (.bool false) := fun w => (ops_cell w 17).trans rfl
  go_enter Tryz.func262, Tryz.ntmps262
  go_wp2_with (first | (go_at_call 294; refine (ops_any _).mono ?_; rintro e w1 ⟨rfl, hg⟩) | (refine wpList_store_new rfl 353 (.tmp 8) (.tmp 10) rfl _ opsRow rfl rfl opsInfo rfl opsOne ?_) | (go_at_call 324; refine (cl8 _ _ _ ha hb).mono ?_; rintro e w2 ⟨rfl, rfl⟩))
  go_ret2
  exact ⟨rfl, (hg.alloc _ _).alloc _ _⟩
set_option maxHeartbeats 1000000 in
set_option maxRecDepth 100000 in
theorem do9 (a b : Int) (w : World) (ha : 0 ≤ a ∧ a < 4294967296) (hb : 0 ≤ b ∧ b < 4294967296) :
    Calls Tryz.prog 262 #[.int .u8 9, .int .u32 a, .int .u32 b] w fun e w' => e = .returned (.tuple #[.int .u32 (dv 9 a b), .bool true]) ∧ Grown w w' := by
  have hc0 : ∀ w : World, (w.alloc (.cells opsRow 353)).cell? ⟨w.heap.size, 18, none⟩ = some (.func (.func 326) #[] #[]) := fun w => (ops_cell w 18).trans rfl
  have hc1 : ∀ w : World, (w.alloc (.cells opsRow 353)).cell? ⟨w.heap.size, 19, none⟩ = some (.bool false) := fun w => (ops_cell w 19).trans rfl
  go_enter Tryz.func262, Tryz.ntmps262
  go_wp2_with (first | (go_at_call 294; refine (ops_any _).mono ?_; rintro e w1 ⟨rfl, hg⟩) | (refine wpList_store_new rfl 353 (.tmp 8) (.tmp 10) rfl _ opsRow rfl rfl opsInfo rfl opsOne ?_) | (go_at_call 326; refine (cl9 _ _ _ ha hb).mono ?_; rintro e w2 ⟨rfl, rfl⟩))
  go_ret2
  exact ⟨rfl, (hg.alloc _ _).alloc _ _⟩
set_option maxHeartbeats 1000000 in
set_option maxRecDepth 100000 in
theorem do10 (a b : Int) (w : World) (ha : 0 ≤ a ∧ a < 4294967296) (hb : 0 ≤ b ∧ b < 4294967296) :
    Calls Tryz.prog 262 #[.int .u8 10, .int .u32 a, .int .u32 b] w fun e w' => e = .returned (.tuple #[.int .u32 (dv 10 a b), .bool true]) ∧ Grown w w' := by
  have hc0 : ∀ w : World, (w.alloc (.cells opsRow 353)).cell? ⟨w.heap.size, 20, none⟩ = some (.func (.func 327) #[] #[]) := fun w => (ops_cell w 20).trans rfl
  have hc1 : ∀ w : World, (w.alloc (.cells opsRow 353)).cell? ⟨w.heap.size, 21, none⟩ = some (.bool false) := fun w => (ops_cell w 21).trans rfl
  go_enter Tryz.func262, Tryz.ntmps262
  go_wp2_with (first | (go_at_call 294; refine (ops_any _).mono ?_; rintro e w1 ⟨rfl, hg⟩) | (refine wpList_store_new rfl 353 (.tmp 8) (.tmp 10) rfl _ opsRow rfl rfl opsInfo rfl opsOne ?_) | (go_at_call 327; refine (cl10 _ _ _ ha hb).mono ?_; rintro e w2 ⟨rfl, rfl⟩))
  go_ret2
  exact ⟨rfl, (hg.alloc _ _).alloc _ _⟩
set_option maxHeartbeats 1000000 in
set_option maxRecDepth 100000 in
theorem do11 (a b : Int) (w : World) (ha : 0 ≤ a ∧ a < 4294967296) (hb : 0 ≤ b ∧ b < 4294967296) :
    Calls Tryz.prog 262 #[.int .u8 11, .int .u32 a, .int .u32 b] w fun e w' => e = .returned (.tuple #[.int .u32 (dv 11 a b), .bool true]) ∧ Grown w w' := by
  have hc0 : ∀ w : World, (w.alloc (.cells opsRow 353)).cell? ⟨w.heap.size, 22, none⟩ = some (.func (.func 328) #[] #[]) := fun w => (ops_cell w 22).trans rfl
  have hc1 : ∀ w : World, (w.alloc (.cells opsRow 353)).cell? ⟨w.heap.size, 23, none⟩ = some (.bool false) := fun w => (ops_cell w 23).trans rfl
  go_enter Tryz.func262, Tryz.ntmps262
  go_wp2_with (first | (go_at_call 294; refine (ops_any _).mono ?_; rintro e w1 ⟨rfl, hg⟩) | (refine wpList_store_new rfl 353 (.tmp 8) (.tmp 10) rfl _ opsRow rfl rfl opsInfo rfl opsOne ?_) | (go_at_call 328; refine (cl11 _ _ _ ha hb).mono ?_; rintro e w2 ⟨rfl, rfl⟩))
  go_ret2
  exact ⟨rfl, (hg.alloc _ _).alloc _ _⟩
set_option maxHeartbeats 1000000 in
set_option maxRecDepth 100000 in
theorem do12 (a b : Int) (w : World) (ha : 0 ≤ a ∧ a < 4294967296) (hb : 0 ≤ b ∧ b < 4294967296) :
    Calls Tryz.prog 262 #[.int .u8 12, .int .u32 a, .int .u32 b] w fun e w' => e = .returned (.tuple #[.int .u32 (dv 12 a b), .bool true]) ∧ Grown w w' := by
  have hc0 : ∀ w : World, (w.alloc (.cells opsRow 353)).cell? ⟨w.heap.size, 24, none⟩ = some (.func (.func 330) #[] #[]) := fun w => (ops_cell w 24).trans rfl
  have hc1 : ∀ w : World, (w.alloc (.cells opsRow 353)).cell? ⟨w.heap.size, 25, none⟩ = some (.bool false) := fun w => (ops_cell w 25).trans rfl
  go_enter Tryz.func262, Tryz.ntmps262
  go_wp2_with (first | (go_at_call 294; refine (ops_any _).mono ?_; rintro e w1 ⟨rfl, hg⟩) | (refine wpList_store_new rfl 353 (.tmp 8) (.tmp 10) rfl _ opsRow rfl rfl opsInfo rfl opsOne ?_) | (go_at_call 330; refine (cl12 _ _ _ ha hb).mono ?_; rintro e w2 ⟨rfl, rfl⟩))
  go_ret2
  exact ⟨rfl, (hg.alloc _ _).alloc _ _⟩
set_option maxHeartbeats 1000000 in
set_option maxRecDepth 100000 in
theorem do13 (a b : Int) (w : World) (ha : 0 ≤ a ∧ a < 4294967296) (hb : 0 ≤ b ∧ b < 4294967296) :
    Calls Tryz.prog 262 #[.int .u8 13, .int .u32 a, .int .u32 b] w fun e w' => e = .returned (.tuple #[.int .u32 (dv 13 a b), .bool true]) ∧ Grown w w' := by
  have hc0 : ∀ w : World, (w.alloc (.cells opsRow 353)).cell? ⟨w.heap.size, 26, none⟩ = some (.func (.func 331) #[] #[]) := fun w => (ops_cell w 26).trans rfl
  have hc1 : ∀ w : World, (w.alloc (.cells opsRow 353)).cell? ⟨w.heap.size, 27, none⟩ = some (.bool false) := fun w => (ops_cell w 27).trans rfl
  go_enter Tryz.func262, Tryz.ntmps262
  go_wp2_with (first | (go_at_call 294; refine (ops_any _).mono ?_; rintro e w1 ⟨rfl, hg⟩) | (refine wpList_store_new rfl 353 (.tmp 8) (.tmp 10) rfl _ opsRow rfl rfl opsInfo rfl opsOne ?_) | (go_at_call 331; refine (cl13 _ _ _ ha hb).mono ?_; rintro e w2 ⟨rfl, rfl⟩))
  go_ret2
  exact ⟨rfl, (hg.alloc _ _).alloc _ _⟩
set_option maxHeartbeats 1000000 in
set_option maxRecDepth 100000 in
theorem do30 (a : Int) (w : World) :
    Calls Tryz.prog 262 #[.int .u8 3, .int .u32 a, .int .u32 0] w fun e w' => e = .returned (.tuple #[.int .u32 0, .bool false]) ∧ Grown w w' := by
  have hc0 : ∀ w : World, (w.alloc (.cells opsRow 353)).cell? ⟨w.heap.size, 6, none⟩ = some (.func (.func 319) #[] #[]) := fun w => (ops_cell w 6).trans rfl
  have hc1 : ∀ w : World, (w.alloc (.cells opsRow 353)).cell? ⟨w.heap.size, 7, none⟩ = some (.bool true) := fun w => (ops_cell w 7).trans rfl
  go_enter Tryz.func262, Tryz.ntmps262
  go_wp2_with (first | (go_at_call 294; refine (ops_any _).mono ?_; rintro e w1 ⟨rfl, hg⟩) | (refine wpList_store_new rfl 353 (.tmp 8) (.tmp 10) rfl _ opsRow rfl rfl opsInfo rfl opsOne ?_))
  go_ret2
  exact ⟨rfl, (hg.alloc _ _).alloc _ _⟩
set_option maxHeartbeats 1000000 in
set_option maxRecDepth 100000 in
theorem do40 (a : Int) (w : World) :
    Calls Tryz.prog 262 #[.int .u8 4, .int .u32 a, .int .u32 0] w fun e w' => e = .returned (.tuple #[.int .u32 0, .bool false]) ∧ Grown w w' := by
  have hc0 : ∀ w : World, (w.alloc (.cells opsRow 353)).cell? ⟨w.heap.size, 8, none⟩ = some (.func (.func 320) #[] #[]) := fun w => (ops_cell w 8).trans rfl
  have hc1 : ∀ w : World, (w.alloc (.cells opsRow 353)).cell? ⟨w.heap.size, 9, none⟩ = some (.bool true) := fun w => (ops_cell w 9).trans rfl
  go_enter Tryz.func262, Tryz.ntmps262
  go_wp2_with (first | (go_at_call 294; refine (ops_any _).mono ?_; rintro e w1 ⟨rfl, hg⟩) | (refine wpList_store_new rfl 353 (.tmp 8) (.tmp 10) rfl _ opsRow rfl rfl opsInfo rfl opsOne ?_))
  go_ret2
  exact ⟨rfl, (hg.alloc _ _).alloc _ _⟩
set_option maxHeartbeats 1000000 in
set_option maxRecDepth 100000 in
theorem do_none (op a b : Int) (w : World) (h : 14 ≤ op ∧ op ≤ 255) :
    Calls Tryz.prog 262 #[.int .u8 op, .int .u32 a, .int .u32 b] w fun e w' => e = .returned (.tuple #[.int .u32 0, .bool false]) ∧ Grown w w' := by
  go_enter Tryz.func262, Tryz.ntmps262
  go_wp2_with (first | (go_at_call 294; refine (ops_any _).mono ?_; rintro e w1 ⟨rfl, hg⟩) | (refine wpList_store_new rfl 353 (.tmp 8) (.tmp 10) rfl _ opsRow rfl rfl opsInfo rfl opsOne ?_))
  go_ret2
  exact ⟨rfl, hg.alloc _ _⟩

/-- What Do comes to, whatever the operation. -/
theorem do_any (op a b : Int) (w : World) (h : 0 ≤ op ∧ op ≤ 255) (ha : 0 ≤ a ∧ a < 4294967296) (hb : 0 ≤ b ∧ b < 4294967296) :
    Calls Tryz.prog 262 #[.int .u8 op, .int .u32 a, .int .u32 b] w fun e w' => e = .returned (.tuple #[.int .u32 (dv op a b), .bool (dok op b)]) ∧ Grown w w' := by
  by_cases h14 : 14 ≤ op
  · rw [dv_no op a b h14, dok_no op b h14]; exact do_none op a b w ⟨h14, h.2⟩
  have hcases : op = 0 ∨ op = 1 ∨ op = 2 ∨ op = 3 ∨ op = 4 ∨ op = 5 ∨ op = 6 ∨ op = 7 ∨ op = 8 ∨ op = 9 ∨ op = 10 ∨ op = 11 ∨ op = 12 ∨ op = 13 := by omega
  clear h14 h
  rcases hcases with rfl | rfl | rfl | rfl | rfl | rfl | rfl | rfl | rfl | rfl | rfl | rfl | rfl | rfl
  · exact do0 a b w ha hb
  · exact do1 a b w ha hb
  · exact do2 a b w ha hb
  · by_cases h0 : b = 0
    · subst h0; exact do30 a w
    · rw [dok_div 3 b (by decide) h0]; exact do3 a b w ha hb h0
  · by_cases h0 : b = 0
    · subst h0; exact do40 a w
    · rw [dok_div 4 b (by decide) h0]; exact do4 a b w ha hb h0
  · exact do5 a b w ha hb
  · exact do6 a b w ha hb
  · exact do7 a b w ha hb
  · exact do8 a b w ha hb
  · exact do9 a b w ha hb
  · exact do10 a b w ha hb
  · exact do11 a b w ha hb
  · exact do12 a b w ha hb
  · exact do13 a b w ha hb
end Go.Proofs.YtiobgnelhiadbaaGreatDoor.W1
