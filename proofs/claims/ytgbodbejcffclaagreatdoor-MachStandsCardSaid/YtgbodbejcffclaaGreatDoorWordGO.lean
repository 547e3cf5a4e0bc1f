/- The table of word's operations and what each of its closures comes to, for any two words: walks that end in the plain arithmetic of WordMath. -/
import Derived.Test.YtgbodbejcffclaaGreatDoorBaseG
import Derived.WalkKit
import Derived.ProofKit
import Derived.OpenShut
import Derived.WalkSpells
import Derived.WalkLawsBesides
import Derived.Laws.EntriesVeiled
import Derived.Deep.WholeRow
namespace Go.Proofs.YtgbodbejcffclaaGreatDoor.W1
open Go.RowKit
set_option linter.unusedVariables false

/-- The table of operations, cell by cell. -/
def opsRow : Array Value := #[.func (.func 248) #[] #[], .bool false, .func (.func 249) #[] #[], .bool false, .func (.func 250) #[] #[], .bool false, .func (.func 251) #[] #[], .bool true, .func (.func 252) #[] #[], .bool true, .func (.func 253) #[] #[], .bool false, .func (.func 254) #[] #[], .bool false, .func (.func 255) #[] #[], .bool false, .func (.func 256) #[] #[], .bool false, .func (.func 258) #[] #[], .bool false, .func (.func 259) #[] #[], .bool false, .func (.func 260) #[] #[], .bool false, .func (.func 262) #[] #[], .bool false, .func (.func 263) #[] #[], .bool false]
theorem opsInfo : (Tryz.prog.info? 285).map (·.size) = some opsRow.size := by kernel_rfl
theorem opsUnder : Tryz.prog.underlying 285 = some (.array 14 284) := by kernel_rfl
theorem opsOne : opsRow.all (·.oneCell') = true := by kernel_rfl
theorem ops_cell (w : World) (j : Nat) : (w.alloc (.cells opsRow 285)).cell? ⟨w.heap.size, j, none⟩ = opsRow[j]? :=
  cell_of_row _ _ _ _ _ _ (heap_alloc_last _ _)
theorem wpList_store_new {P : Program} {ops : Array Oper} {rest : List Oper} {o : Oper} {a : Act} {w : World} {Q : Exit → Act → World → Prop} (hgd : o.guard = none) (t : TypeId) (x y : Operand) (ho : o.op = .store t x y)
    (c cells : Array Value) (hx : a.eval x = .pointer (some ⟨w.heap.size, 0, none⟩)) (hy : a.eval y = .agg cells) (hi : (P.info? t).map (·.size) = some cells.size)
    (hold : c.size = cells.size) (h1 : cells.all (·.oneCell') = true)
    (h : wpList P ops Q rest (a.put o.dst undef) (w.alloc (.cells cells t))) : wpList P ops Q (o :: rest) a (w.alloc (.cells c t)) := by
  refine wpList_store_row hgd t x y ho w.heap.size cells hx hy t c (heap_alloc_last _ _) hi hold h1 ?_
  rw [World.setRow_alloc_new]; exact h
set_option maxRecDepth 100000 in
theorem ops_any (w : World) :
    Calls Tryz.prog 239 #[] w fun e w' => e = .returned (.agg opsRow) ∧ Grown w w' := by
  go_enter Tryz.func239, Tryz.ntmps239
  go_wp2_with (refine wpList_store_row rfl 285 (.tmp 0) (.tmp 15) rfl w.heap.size opsRow rfl rfl 285 _ (heap_alloc_last _ _) opsInfo rfl opsOne ?_)
  refine bodyPost_ret (v := .agg opsRow) ?_ rfl ⟨rfl, ?_⟩
  · refine results_cell_row (p := 0) (ty := 285) Tryz.results239 _ _ w.heap.size 285 opsRow (0,0) (.array 14 284) rfl ?_ opsUnder rfl opsInfo
    exact setRow_heap _ _ _ _ _ _ (heap_alloc_last _ _)
  · rw [World.setRow_alloc_new]; exact (Grown.refl w).alloc _ _

/-! The small ones. -/
theorem places_any (b : Int) (w : World) (hb : 0 ≤ b ∧ b < 4294967296) :
    Calls Tryz.prog 257 #[.int .u32 b] w fun e w' => e = .returned (.int .u32 (b % 32)) ∧ w = w' := by
  have h := and31 b hb
  go_enter Tryz.func257, Tryz.ntmps257
  go_wp2
  go_ret
  exact ⟨rfl, rfl⟩
theorem truth_any (p : Bool) (w : World) :
    Calls Tryz.prog 261 #[.bool p] w fun e w' => e = .returned (.int .u32 (tr p)) ∧ w = w' := by
  cases p
  · go_enter Tryz.func261, Tryz.ntmps261
    go_wp2
    go_ret
    exact ⟨rfl, rfl⟩
  · go_enter Tryz.func261, Tryz.ntmps261
    go_wp2
    go_ret
    exact ⟨rfl, rfl⟩
theorem cl0 (a b : Int) (w : World) (ha : 0 ≤ a ∧ a < 4294967296) (hb : 0 ≤ b ∧ b < 4294967296) :
    Calls Tryz.prog 248 #[.int .u32 a, .int .u32 b] w fun e w' => e = .returned (.int .u32 (dv 0 a b)) ∧ w = w' := by
  go_enter Tryz.func248, Tryz.ntmps248
  go_wp2
  go_ret
  exact ⟨rfl, rfl⟩
theorem cl1 (a b : Int) (w : World) (ha : 0 ≤ a ∧ a < 4294967296) (hb : 0 ≤ b ∧ b < 4294967296) :
    Calls Tryz.prog 249 #[.int .u32 a, .int .u32 b] w fun e w' => e = .returned (.int .u32 (dv 1 a b)) ∧ w = w' := by
  go_enter Tryz.func249, Tryz.ntmps249
  go_wp2
  go_ret
  exact ⟨rfl, rfl⟩
theorem cl2 (a b : Int) (w : World) (ha : 0 ≤ a ∧ a < 4294967296) (hb : 0 ≤ b ∧ b < 4294967296) :
    Calls Tryz.prog 250 #[.int .u32 a, .int .u32 b] w fun e w' => e = .returned (.int .u32 (dv 2 a b)) ∧ w = w' := by
  go_enter Tryz.func250, Tryz.ntmps250
  go_wp2
  go_ret
  exact ⟨rfl, rfl⟩
theorem cl3 (a b : Int) (w : World) (ha : 0 ≤ a ∧ a < 4294967296) (hb : 0 ≤ b ∧ b < 4294967296) (h0 : b ≠ 0) :
    Calls Tryz.prog 251 #[.int .u32 a, .int .u32 b] w fun e w' => e = .returned (.int .u32 (dv 3 a b)) ∧ w = w' := by
  have hz : wrap32 b ≠ 0 := fun h => h0 ((wrap32_zero b hb).1 h)
  go_enter Tryz.func251, Tryz.ntmps251
  go_wp2
  go_ret
  refine ⟨?_, rfl⟩
  rw [dv_3 a b h0]
  first | rfl | (rw [wrap32_mod]; rfl)
theorem cl4 (a b : Int) (w : World) (ha : 0 ≤ a ∧ a < 4294967296) (hb : 0 ≤ b ∧ b < 4294967296) (h0 : b ≠ 0) :
    Calls Tryz.prog 252 #[.int .u32 a, .int .u32 b] w fun e w' => e = .returned (.int .u32 (dv 4 a b)) ∧ w = w' := by
  have hz : wrap32 b ≠ 0 := fun h => h0 ((wrap32_zero b hb).1 h)
  go_enter Tryz.func252, Tryz.ntmps252
  go_wp2
  go_ret
  refine ⟨?_, rfl⟩
  rw [dv_4 a b h0]; rfl
theorem cl5 (a b : Int) (w : World) (ha : 0 ≤ a ∧ a < 4294967296) (hb : 0 ≤ b ∧ b < 4294967296) :
    Calls Tryz.prog 253 #[.int .u32 a, .int .u32 b] w fun e w' => e = .returned (.int .u32 (dv 5 a b)) ∧ w = w' := by
  go_enter Tryz.func253, Tryz.ntmps253
  go_wp2
  go_ret
  exact ⟨rfl, rfl⟩
theorem cl6 (a b : Int) (w : World) (ha : 0 ≤ a ∧ a < 4294967296) (hb : 0 ≤ b ∧ b < 4294967296) :
    Calls Tryz.prog 254 #[.int .u32 a, .int .u32 b] w fun e w' => e = .returned (.int .u32 (dv 6 a b)) ∧ w = w' := by
  go_enter Tryz.func254, Tryz.ntmps254
  go_wp2
  go_ret
  exact ⟨rfl, rfl⟩
theorem cl7 (a b : Int) (w : World) (ha : 0 ≤ a ∧ a < 4294967296) (hb : 0 ≤ b ∧ b < 4294967296) :
    Calls Tryz.prog 255 #[.int .u32 a, .int .u32 b] w fun e w' => e = .returned (.int .u32 (dv 7 a b)) ∧ w = w' := by
  go_enter Tryz.func255, Tryz.ntmps255
  go_wp2
  go_ret
  exact ⟨rfl, rfl⟩
theorem cl8 (a b : Int) (w : World) (ha : 0 ≤ a ∧ a < 4294967296) (hb : 0 ≤ b ∧ b < 4294967296) :
    Calls Tryz.prog 256 #[.int .u32 a, .int .u32 b] w fun e w' => e = .returned (.int .u32 (dv 8 a b)) ∧ w = w' := by
  go_enter Tryz.func256, Tryz.ntmps256
  go_wp2_with (go_at_call 257; refine (places_any _ _ hb).mono ?_; rintro e w1 ⟨rfl, rfl⟩)
  go_ret
  exact ⟨rfl, rfl⟩
theorem cl9 (a b : Int) (w : World) (ha : 0 ≤ a ∧ a < 4294967296) (hb : 0 ≤ b ∧ b < 4294967296) :
    Calls Tryz.prog 258 #[.int .u32 a, .int .u32 b] w fun e w' => e = .returned (.int .u32 (dv 9 a b)) ∧ w = w' := by
  go_enter Tryz.func258, Tryz.ntmps258
  go_wp2_with (go_at_call 257; refine (places_any _ _ hb).mono ?_; rintro e w1 ⟨rfl, rfl⟩)
  go_ret
  exact ⟨rfl, rfl⟩
theorem cl10 (a b : Int) (w : World) (ha : 0 ≤ a ∧ a < 4294967296) (hb : 0 ≤ b ∧ b < 4294967296) :
    Calls Tryz.prog 259 #[.int .u32 a, .int .u32 b] w fun e w' => e = .returned (.int .u32 (dv 10 a b)) ∧ w = w' := by
  go_enter Tryz.func259, Tryz.ntmps259
  go_wp2_with (go_at_call 257; refine (places_any _ _ hb).mono ?_; rintro e w1 ⟨rfl, rfl⟩)
  go_ret
  exact ⟨rfl, rfl⟩
theorem cl11 (a b : Int) (w : World) (ha : 0 ≤ a ∧ a < 4294967296) (hb : 0 ≤ b ∧ b < 4294967296) :
    Calls Tryz.prog 260 #[.int .u32 a, .int .u32 b] w fun e w' => e = .returned (.int .u32 (dv 11 a b)) ∧ w = w' := by
  go_enter Tryz.func260, Tryz.ntmps260
  go_wp2_with (go_at_call 261; refine (truth_any _ _).mono ?_; rintro e w1 ⟨rfl, rfl⟩)
  go_ret
  exact ⟨rfl, rfl⟩
theorem cl12 (a b : Int) (w : World) (ha : 0 ≤ a ∧ a < 4294967296) (hb : 0 ≤ b ∧ b < 4294967296) :
    Calls Tryz.prog 262 #[.int .u32 a, .int .u32 b] w fun e w' => e = .returned (.int .u32 (dv 12 a b)) ∧ w = w' := by
  go_enter Tryz.func262, Tryz.ntmps262
  go_wp2_with (go_at_call 261; refine (truth_any _ _).mono ?_; rintro e w1 ⟨rfl, rfl⟩)
  go_ret
  exact ⟨rfl, rfl⟩
theorem cl13 (a b : Int) (w : World) (ha : 0 ≤ a ∧ a < 4294967296) (hb : 0 ≤ b ∧ b < 4294967296) :
    Calls Tryz.prog 263 #[.int .u32 a, .int .u32 b] w fun e w' => e = .returned (.int .u32 (dv 13 a b)) ∧ w = w' := by
  go_enter Tryz.func263, Tryz.ntmps263
  go_wp2_with (go_at_call 261; refine (truth_any _ _).mono ?_; rintro e w1 ⟨rfl, rfl⟩)
  go_ret
  exact ⟨rfl, rfl⟩
end Go.Proofs.YtgbodbejcffclaaGreatDoor.W1
