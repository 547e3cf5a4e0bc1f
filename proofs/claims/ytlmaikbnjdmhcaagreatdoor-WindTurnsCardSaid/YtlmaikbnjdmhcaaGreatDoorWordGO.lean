/- The table of word's operations and what each of its closures comes to, for any two words: walks that end in the plain arithmetic of WordMath. -/
import Derived.Test.YtlmaikbnjdmhcaaGreatDoorBaseG
import Derived.WalkKit
import Derived.ProofKit
import Derived.OpenShut
import Derived.WalkSpells
import Derived.WalkLawsBesides
import Derived.Laws.EntriesVeiled
import Derived.Deep.WholeRow
namespace Go.Proofs.YtlmaikbnjdmhcaaGreatDoor.W1
open Go.RowKit
set_option linter.unusedVariables false

/-- The table of operations, cell by cell. -/
def opsRow : Array Value := #[.func (.func 226) #[] #[], .bool false, .func (.func 227) #[] #[], .bool false, .func (.func 228) #[] #[], .bool false, .func (.func 229) #[] #[], .bool true, .func (.func 230) #[] #[], .bool true, .func (.func 231) #[] #[], .bool false, .func (.func 232) #[] #[], .bool false, .func (.func 233) #[] #[], .bool false, .func (.func 234) #[] #[], .bool false, .func (.func 236) #[] #[], .bool false, .func (.func 237) #[] #[], .bool false, .func (.func 238) #[] #[], .bool false, .func (.func 240) #[] #[], .bool false, .func (.func 241) #[] #[], .bool false]
theorem opsInfo : (Tryz.prog.info? 275).map (·.size) = some opsRow.size := by kernel_rfl
theorem opsUnder : Tryz.prog.underlying 275 = some (.array 14 274) := by kernel_rfl
theorem opsOne : opsRow.all (·.oneCell') = true := by kernel_rfl
theorem ops_cell (w : World) (j : Nat) : (w.alloc (.cells opsRow 275)).cell? ⟨w.heap.size, j, none⟩ = opsRow[j]? :=
  cell_of_row _ _ _ _ _ _ (heap_alloc_last _ _)
theorem wpList_store_new {P : Program} {ops : Array Oper} {rest : List Oper} {o : Oper} {a : Act} {w : World} {Q : Exit → Act → World → Prop} (hgd : o.guard = none) (t : TypeId) (x y : Operand) (ho : o.op = .store t x y)
    (c cells : Array Value) (hx : a.eval x = .pointer (some ⟨w.heap.size, 0, none⟩)) (hy : a.eval y = .agg cells) (hi : (P.info? t).map (·.size) = some cells.size)
    (hold : c.size = cells.size) (h1 : cells.all (·.oneCell') = true)
    (h : wpList P ops Q rest (a.put o.dst undef) (w.alloc (.cells cells t))) : wpList P ops Q (o :: rest) a (w.alloc (.cells c t)) := by
  refine wpList_store_row hgd t x y ho w.heap.size cells hx hy t c (heap_alloc_last _ _) hi hold h1 ?_
  rw [World.setRow_alloc_new]; exact h
set_option maxRecDepth 100000 in
theorem ops_any (w : World) :
    Calls Tryz.prog 221 #[] w fun e w' => e = .returned (.agg opsRow) ∧ Grown w w' := by
  go_enter Tryz.func221, Tryz.ntmps221
  go_wp2_with (refine wpList_store_row rfl 275 (.tmp 0) (.tmp 15) rfl w.heap.size opsRow rfl rfl 275 _ (heap_alloc_last _ _) opsInfo rfl opsOne ?_)
  refine bodyPost_ret (v := .agg opsRow) ?_ rfl ⟨rfl, ?_⟩
  · refine results_cell_row (p := 0) (ty := 275) Tryz.results221 _ _ w.heap.size 275 opsRow (0,0) (.array 14 274) rfl ?_ opsUnder rfl opsInfo
    exact setRow_heap _ _ _ _ _ _ (heap_alloc_last _ _)
  · rw [World.setRow_alloc_new]; exact (Grown.refl w).alloc _ _

/-! The small ones. -/
theorem places_any (b : Int) (w : World) (hb : 0 ≤ b ∧ b < 4294967296) :
    Calls Tryz.prog 235 #[.int .u32 b] w fun e w' => e = .returned (.int .u32 (b % 32)) ∧ w = w' := by
  have h := and31 b hb
  go_enter Tryz.func235, Tryz.ntmps235
  go_wp2
  go_ret
  exact ⟨rfl, rfl⟩
theorem truth_any (p : Bool) (w : World) :
    Calls Tryz.prog 239 #[.bool p] w fun e w' => e = .returned (.int .u32 (tr p)) ∧ w = w' := by
  cases p
  · go_enter Tryz.func239, Tryz.ntmps239
    go_wp2
    go_ret
    exact ⟨rfl, rfl⟩
  · go_enter Tryz.func239, Tryz.ntmps239
    go_wp2
    go_ret
    exact ⟨rfl, rfl⟩
theorem cl0 (a b : Int) (w : World) (ha : 0 ≤ a ∧ a < 4294967296) (hb : 0 ≤ b ∧ b < 4294967296) :
    Calls Tryz.prog 226 #[.int .u32 a, .int .u32 b] w fun e w' => e = .returned (.int .u32 (dv 0 a b)) ∧ w = w' := by
  go_enter Tryz.func226, Tryz.ntmps226
  go_wp2
  go_ret
  exact ⟨rfl, rfl⟩
theorem cl1 (a b : Int) (w : World) (ha : 0 ≤ a ∧ a < 4294967296) (hb : 0 ≤ b ∧ b < 4294967296) :
    Calls Tryz.prog 227 #[.int .u32 a, .int .u32 b] w fun e w' => e = .returned (.int .u32 (dv 1 a b)) ∧ w = w' := by
  go_enter Tryz.func227, Tryz.ntmps227
  go_wp2
  go_ret
  exact ⟨rfl, rfl⟩
theorem cl2 (a b : Int) (w : World) (ha : 0 ≤ a ∧ a < 4294967296) (hb : 0 ≤ b ∧ b < 4294967296) :
    Calls Tryz.prog 228 #[.int .u32 a, .int .u32 b] w fun e w' => e = .returned (.int .u32 (dv 2 a b)) ∧ w = w' := by
  go_enter Tryz.func228, Tryz.ntmps228
  go_wp2
  go_ret
  exact ⟨rfl, rfl⟩
theorem cl3 (a b : Int) (w : World) (ha : 0 ≤ a ∧ a < 4294967296) (hb : 0 ≤ b ∧ b < 4294967296) (h0 : b ≠ 0) :
    Calls Tryz.prog 229 #[.int .u32 a, .int .u32 b] w fun e w' => e = .returned (.int .u32 (dv 3 a b)) ∧ w = w' := by
  have hz : wrap32 b ≠ 0 := fun h => h0 ((wrap32_zero b hb).1 h)
  go_enter Tryz.func229, Tryz.ntmps229
  go_wp2
  go_ret
  refine ⟨?_, rfl⟩
  rw [dv_3 a b h0]
  first | rfl | (rw [wrap32_mod]; rfl)
theorem cl4 (a b : Int) (w : World) (ha : 0 ≤ a ∧ a < 4294967296) (hb : 0 ≤ b ∧ b < 4294967296) (h0 : b ≠ 0) :
    Calls Tryz.prog 230 #[.int .u32 a, .int .u32 b] w fun e w' => e = .returned (.int .u32 (dv 4 a b)) ∧ w = w' := by
  have hz : wrap32 b ≠ 0 := fun h => h0 ((wrap32_zero b hb).1 h)
  go_enter Tryz.func230, Tryz.ntmps230
  go_wp2
  go_ret
  refine ⟨?_, rfl⟩
  rw [dv_4 a b h0]; rfl
theorem cl5 (a b : Int) (w : World) (ha : 0 ≤ a ∧ a < 4294967296) (hb : 0 ≤ b ∧ b < 4294967296) :
    Calls Tryz.prog 231 #[.int .u32 a, .int .u32 b] w fun e w' => e = .returned (.int .u32 (dv 5 a b)) ∧ w = w' := by
  go_enter Tryz.func231, Tryz.ntmps231
  go_wp2
  go_ret
  exact ⟨rfl, rfl⟩
theorem cl6 (a b : Int) (w : World) (ha : 0 ≤ a ∧ a < 4294967296) (hb : 0 ≤ b ∧ b < 4294967296) :
    Calls Tryz.prog 232 #[.int .u32 a, .int .u32 b] w fun e w' => e = .returned (.int .u32 (dv 6 a b)) ∧ w = w' := by
  go_enter Tryz.func232, Tryz.ntmps232
  go_wp2
  go_ret
  exact ⟨rfl, rfl⟩
theorem cl7 (a b : Int) (w : World) (ha : 0 ≤ a ∧ a < 4294967296) (hb : 0 ≤ b ∧ b < 4294967296) :
    Calls Tryz.prog 233 #[.int .u32 a, .int .u32 b] w fun e w' => e = .returned (.int .u32 (dv 7 a b)) ∧ w = w' := by
  go_enter Tryz.func233, Tryz.ntmps233
  go_wp2
  go_ret
  exact ⟨rfl, rfl⟩
theorem cl8 (a b : Int) (w : World) (ha : 0 ≤ a ∧ a < 4294967296) (hb : 0 ≤ b ∧ b < 4294967296) :
    Calls Tryz.prog 234 #[.int .u32 a, .int .u32 b] w fun e w' => e = .returned (.int .u32 (dv 8 a b)) ∧ w = w' := by
  go_enter Tryz.func234, Tryz.ntmps234
  go_wp2_with (go_at_call 235; refine (places_any _ _ hb).mono ?_; rintro e w1 ⟨rfl, rfl⟩)
  go_ret
  exact ⟨rfl, rfl⟩
theorem cl9 (a b : Int) (w : World) (ha : 0 ≤ a ∧ a < 4294967296) (hb : 0 ≤ b ∧ b < 4294967296) :
    Calls Tryz.prog 236 #[.int .u32 a, .int .u32 b] w fun e w' => e = .returned (.int .u32 (dv 9 a b)) ∧ w = w' := by
  go_enter Tryz.func236, Tryz.ntmps236
  go_wp2_with (go_at_call 235; refine (places_any _ _ hb).mono ?_; rintro e w1 ⟨rfl, rfl⟩)
  go_ret
  exact ⟨rfl, rfl⟩
theorem cl10 (a b : Int) (w : World) (ha : 0 ≤ a ∧ a < 4294967296) (hb : 0 ≤ b ∧ b < 4294967296) :
    Calls Tryz.prog 237 #[.int .u32 a, .int .u32 b] w fun e w' => e = .returned (.int .u32 (dv 10 a b)) ∧ w = w' := by
  go_enter Tryz.func237, Tryz.ntmps237
  go_wp2_with (go_at_call 235; refine (places_any _ _ hb).mono ?_; rintro e w1 ⟨rfl, rfl⟩)
  go_ret
  exact ⟨rfl, rfl⟩
theorem cl11 (a b : Int) (w : World) (ha : 0 ≤ a ∧ a < 4294967296) (hb : 0 ≤ b ∧ b < 4294967296) :
    Calls Tryz.prog 238 #[.int .u32 a, .int .u32 b] w fun e w' => e = .returned (.int .u32 (dv 11 a b)) ∧ w = w' := by
  go_enter Tryz.func238, Tryz.ntmps238
  go_wp2_with (go_at_call 239; refine (truth_any _ _).mono ?_; rintro e w1 ⟨rfl, rfl⟩)
  go_ret
  exact ⟨rfl, rfl⟩
theorem cl12 (a b : Int) (w : World) (ha : 0 ≤ a ∧ a < 4294967296) (hb : 0 ≤ b ∧ b < 4294967296) :
    Calls Tryz.prog 240 #[.int .u32 a, .int .u32 b] w fun e w' => e = .returned (.int .u32 (dv 12 a b)) ∧ w = w' := by
  go_enter Tryz.func240, Tryz.ntmps240
  go_wp2_with (go_at_call 239; refine (truth_any _ _).mono ?_; rintro e w1 ⟨rfl, rfl⟩)
  go_ret
  exact ⟨rfl, rfl⟩
theorem cl13 (a b : Int) (w : World) (ha : 0 ≤ a ∧ a < 4294967296) (hb : 0 ≤ b ∧ b < 4294967296) :
    Calls Tryz.prog 241 #[.int .u32 a, .int .u32 b] w fun e w' => e = .returned (.int .u32 (dv 13 a b)) ∧ w = w' := by
  go_enter Tryz.func241, Tryz.ntmps241
  go_wp2_with (go_at_call 239; refine (truth_any _ _).mono ?_; rintro e w1 ⟨rfl, rfl⟩)
  go_ret
  exact ⟨rfl, rfl⟩
end Go.Proofs.YtlmaikbnjdmhcaaGreatDoor.W1
