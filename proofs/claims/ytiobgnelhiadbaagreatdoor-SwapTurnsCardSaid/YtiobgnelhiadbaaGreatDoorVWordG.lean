/- The table of word's operations and what each of its closures comes to, for any two words: walks that end in the plain arithmetic of WordMath. Plain arithmetic for the document's answer of layer 1: its loops bit by bit and shift by shift come to what WordMath says. What the document's answer of layer 1 (its Do) comes to: the same plain arithmetic of WordMath as the program's. What calls of word.Flags and word.Holds, and the document's answers of the same names, come to: the plain arithmetic of WordMath. -/
import Derived.Test.YtiobgnelhiadbaaGreatDoorVBaseG
import Derived.WalkKit
import Derived.ProofKit
import Derived.OpenShut
import Derived.WalkSpells
import Derived.WalkLawsBesides
import Derived.Laws.EntriesVeiled
import Derived.Deep.WholeRow
namespace Go.Proofs.YtiobgnelhiadbaaGreatDoor.W1
open Go.RowKit
set_option linter.unusedVariables false

/-- The table of operations, cell by cell. -/
def opsRow : Array Value := #[.func (.func 316) #[] #[], .bool false, .func (.func 317) #[] #[], .bool false, .func (.func 318) #[] #[], .bool false, .func (.func 319) #[] #[], .bool true, .func (.func 320) #[] #[], .bool true, .func (.func 321) #[] #[], .bool false, .func (.func 322) #[] #[], .bool false, .func (.func 323) #[] #[], .bool false, .func (.func 324) #[] #[], .bool false, .func (.func 326) #[] #[], .bool false, .func (.func 327) #[] #[], .bool false, .func (.func 328) #[] #[], .bool false, .func (.func 330) #[] #[], .bool false, .func (.func 331) #[] #[], .bool false]
theorem opsInfo : (Tryz.prog.info? 353).map (·.size) = some opsRow.size := by kernel_rfl
theorem opsUnder : Tryz.prog.underlying 353 = some (.array 14 352) := by kernel_rfl
theorem opsOne : opsRow.all (·.oneCell') = true := by kernel_rfl
theorem ops_cell (w : World) (j : Nat) : (w.alloc (.cells opsRow 353)).cell? ⟨w.heap.size, j, none⟩ = opsRow[j]? :=
  cell_of_row _ _ _ _ _ _ (heap_alloc_last _ _)
theorem wpList_store_new {P : Program} {ops : Array Oper} {rest : List Oper} {o : Oper} {a : Act} {w : World} {Q : Exit → Act → World → Prop} (hgd : o.guard = none) (t : TypeId) (x y : Operand) (ho : o.op = .store t x y)
    (c cells : Array Value) (hx : a.eval x = .pointer (some ⟨w.heap.size, 0, none⟩)) (hy : a.eval y = .agg cells) (hi : (P.info? t).map (·.size) = some cells.size)
    (hold : c.size = cells.size) (h1 : cells.all (·.oneCell') = true)
    (h : wpList P ops Q rest (a.put o.dst undef) (w.alloc (.cells cells t))) : wpList P ops Q (o :: rest) a (w.alloc (.cells c t)) := by
  refine wpList_store_row hgd t x y ho w.heap.size cells hx hy t c (heap_alloc_last _ _) hi hold h1 ?_
  rw [World.setRow_alloc_new]; exact h
set_option maxRecDepth 100000 in
theorem ops_any (w : World) :
    Calls Tryz.prog 294 #[] w fun e w' => e = .returned (.agg opsRow) ∧ Grown w w' := by
  go_enter Tryz.func294, Tryz.ntmps294
  go_wp2_with (refine wpList_store_row rfl 353 (.tmp 0) (.tmp 15) rfl w.heap.size opsRow rfl rfl 353 _ (heap_alloc_last _ _) opsInfo rfl opsOne ?_)
  refine bodyPost_ret (v := .agg opsRow) ?_ rfl ⟨rfl, ?_⟩
  · refine results_cell_row (p := 0) (ty := 353) Tryz.results294 _ _ w.heap.size 353 opsRow (0,0) (.array 14 352) rfl ?_ opsUnder rfl opsInfo
    exact setRow_heap _ _ _ _ _ _ (heap_alloc_last _ _)
  · rw [World.setRow_alloc_new]; exact (Grown.refl w).alloc _ _

/-! The small ones. -/
theorem places_any (b : Int) (w : World) (hb : 0 ≤ b ∧ b < 4294967296) :
    Calls Tryz.prog 325 #[.int .u32 b] w fun e w' => e = .returned (.int .u32 (b % 32)) ∧ w = w' := by
  have h := and31 b hb
  go_enter Tryz.func325, Tryz.ntmps325
  go_wp2
  go_ret
  exact ⟨rfl, rfl⟩
theorem truth_any (p : Bool) (w : World) :
    Calls Tryz.prog 329 #[.bool p] w fun e w' => e = .returned (.int .u32 (tr p)) ∧ w = w' := by
  cases p
  · go_enter Tryz.func329, Tryz.ntmps329
    go_wp2
    go_ret
    exact ⟨rfl, rfl⟩
  · go_enter Tryz.func329, Tryz.ntmps329
    go_wp2
    go_ret
    exact ⟨rfl, rfl⟩
theorem cl0 (a b : Int) (w : World) (ha : 0 ≤ a ∧ a < 4294967296) (hb : 0 ≤ b ∧ b < 4294967296) :
    Calls Tryz.prog 316 #[.int .u32 a, .int .u32 b] w fun e w' => e = .returned (.int .u32 (dv 0 a b)) ∧ w = w' := by
  go_enter Tryz.func316, Tryz.ntmps316
  go_wp2
  go_ret
  exact ⟨rfl, rfl⟩
theorem cl1 (a b : Int) (w : World) (ha : 0 ≤ a ∧ a < 4294967296) (hb : 0 ≤ b ∧ b < 4294967296) :
    Calls Tryz.prog 317 #[.int .u32 a, .int .u32 b] w fun e w' => e = .returned (.int .u32 (dv 1 a b)) ∧ w = w' := by
  go_enter Tryz.func317, Tryz.ntmps317
  go_wp2
  go_ret
  exact ⟨rfl, rfl⟩
theorem cl2 (a b : Int) (w : World) (ha : 0 ≤ a ∧ a < 4294967296) (hb : 0 ≤ b ∧ b < 4294967296) :
    Calls Tryz.prog 318 #[.int .u32 a, .int .u32 b] w fun e w' => e = .returned (.int .u32 (dv 2 a b)) ∧ w = w' := by
  go_enter Tryz.func318, Tryz.ntmps318
  go_wp2
  go_ret
  exact ⟨rfl, rfl⟩
theorem cl3 (a b : Int) (w : World) (ha : 0 ≤ a ∧ a < 4294967296) (hb : 0 ≤ b ∧ b < 4294967296) (h0 : b ≠ 0) :
    Calls Tryz.prog 319 #[.int .u32 a, .int .u32 b] w fun e w' => e = .returned (.int .u32 (dv 3 a b)) ∧ w = w' := by
  have hz : wrap32 b ≠ 0 := fun h => h0 ((wrap32_zero b hb).1 h)
  go_enter Tryz.func319, Tryz.ntmps319
  go_wp2
  go_ret
  refine ⟨?_, rfl⟩
  rw [dv_3 a b h0]
  first | rfl | (rw [wrap32_mod]; rfl)
theorem cl4 (a b : Int) (w : World) (ha : 0 ≤ a ∧ a < 4294967296) (hb : 0 ≤ b ∧ b < 4294967296) (h0 : b ≠ 0) :
    Calls Tryz.prog 320 #[.int .u32 a, .int .u32 b] w fun e w' => e = .returned (.int .u32 (dv 4 a b)) ∧ w = w' := by
  have hz : wrap32 b ≠ 0 := fun h => h0 ((wrap32_zero b hb).1 h)
  go_enter Tryz.func320, Tryz.ntmps320
  go_wp2
  go_ret
  refine ⟨?_, rfl⟩
  rw [dv_4 a b h0]; rfl
theorem cl5 (a b : Int) (w : World) (ha : 0 ≤ a ∧ a < 4294967296) (hb : 0 ≤ b ∧ b < 4294967296) :
    Calls Tryz.prog 321 #[.int .u32 a, .int .u32 b] w fun e w' => e = .returned (.int .u32 (dv 5 a b)) ∧ w = w' := by
  go_enter Tryz.func321, Tryz.ntmps321
  go_wp2
  go_ret
  exact ⟨rfl, rfl⟩
theorem cl6 (a b : Int) (w : World) (ha : 0 ≤ a ∧ a < 4294967296) (hb : 0 ≤ b ∧ b < 4294967296) :
    Calls Tryz.prog 322 #[.int .u32 a, .int .u32 b] w fun e w' => e = .returned (.int .u32 (dv 6 a b)) ∧ w = w' := by
  go_enter Tryz.func322, Tryz.ntmps322
  go_wp2
  go_ret
  exact ⟨rfl, rfl⟩
theorem cl7 (a b : Int) (w : World) (ha : 0 ≤ a ∧ a < 4294967296) (hb : 0 ≤ b ∧ b < 4294967296) :
    Calls Tryz.prog 323 #[.int .u32 a, .int .u32 b] w fun e w' => e = .returned (.int .u32 (dv 7 a b)) ∧ w = w' := by
  go_enter Tryz.func323, Tryz.ntmps323
  go_wp2
  go_ret
  exact ⟨rfl, rfl⟩
theorem cl8 (a b : Int) (w : World) (ha : 0 ≤ a ∧ a < 4294967296) (hb : 0 ≤ b ∧ b < 4294967296) :
    Calls Tryz.prog 324 #[.int .u32 a, .int .u32 b] w fun e w' => e = .returned (.int .u32 (dv 8 a b)) ∧ w = w' := by
  go_enter Tryz.func324, Tryz.ntmps324
  go_wp2_with (go_at_call 325; refine (places_any _ _ hb).mono ?_; rintro e w1 ⟨rfl, rfl⟩)
  go_ret
  exact ⟨rfl, rfl⟩
theorem cl9 (a b : Int) (w : World) (ha : 0 ≤ a ∧ a < 4294967296) (hb : 0 ≤ b ∧ b < 4294967296) :
    Calls Tryz.prog 326 #[.int .u32 a, .int .u32 b] w fun e w' => e = .returned (.int .u32 (dv 9 a b)) ∧ w = w' := by
  go_enter Tryz.func326, Tryz.ntmps326
  go_wp2_with (go_at_call 325; refine (places_any _ _ hb).mono ?_; rintro e w1 ⟨rfl, rfl⟩)
  go_ret
  exact ⟨rfl, rfl⟩
theorem cl10 (a b : Int) (w : World) (ha : 0 ≤ a ∧ a < 4294967296) (hb : 0 ≤ b ∧ b < 4294967296) :
    Calls Tryz.prog 327 #[.int .u32 a, .int .u32 b] w fun e w' => e = .returned (.int .u32 (dv 10 a b)) ∧ w = w' := by
  go_enter Tryz.func327, Tryz.ntmps327
  go_wp2_with (go_at_call 325; refine (places_any _ _ hb).mono ?_; rintro e w1 ⟨rfl, rfl⟩)
  go_ret
  exact ⟨rfl, rfl⟩
theorem cl11 (a b : Int) (w : World) (ha : 0 ≤ a ∧ a < 4294967296) (hb : 0 ≤ b ∧ b < 4294967296) :
    Calls Tryz.prog 328 #[.int .u32 a, .int .u32 b] w fun e w' => e = .returned (.int .u32 (dv 11 a b)) ∧ w = w' := by
  go_enter Tryz.func328, Tryz.ntmps328
  go_wp2_with (go_at_call 329; refine (truth_any _ _).mono ?_; rintro e w1 ⟨rfl, rfl⟩)
  go_ret
  exact ⟨rfl, rfl⟩
theorem cl12 (a b : Int) (w : World) (ha : 0 ≤ a ∧ a < 4294967296) (hb : 0 ≤ b ∧ b < 4294967296) :
    Calls Tryz.prog 330 #[.int .u32 a, .int .u32 b] w fun e w' => e = .returned (.int .u32 (dv 12 a b)) ∧ w = w' := by
  go_enter Tryz.func330, Tryz.ntmps330
  go_wp2_with (go_at_call 329; refine (truth_any _ _).mono ?_; rintro e w1 ⟨rfl, rfl⟩)
  go_ret
  exact ⟨rfl, rfl⟩
theorem cl13 (a b : Int) (w : World) (ha : 0 ≤ a ∧ a < 4294967296) (hb : 0 ≤ b ∧ b < 4294967296) :
    Calls Tryz.prog 331 #[.int .u32 a, .int .u32 b] w fun e w' => e = .returned (.int .u32 (dv 13 a b)) ∧ w = w' := by
  go_enter Tryz.func331, Tryz.ntmps331
  go_wp2_with (go_at_call 329; refine (truth_any _ _).mono ?_; rintro e w1 ⟨rfl, rfl⟩)
  go_ret
  exact ⟨rfl, rfl⟩
end Go.Proofs.YtiobgnelhiadbaaGreatDoor.W1
namespace Go.Proofs.YtiobgnelhiadbaaGreatDoor.W1
open Go.RowKit
def bz (op : Int) (x y : Int) : Int := if op = 5 then x * y else if op = 6 then max x y else (x + y) % 2
theorem two_pow_pos (k : Nat) : (0 : Int) < 2 ^ k := Int.pow_pos (by decide)
end Go.Proofs.YtiobgnelhiadbaaGreatDoor.W1
namespace Go.Proofs.YtiobgnelhiadbaaGreatDoor.W1
open Go.RowKit
set_option linter.unusedVariables false
/-! The document's Do. -/
end Go.Proofs.YtiobgnelhiadbaaGreatDoor.W1
namespace Go.Proofs.YtiobgnelhiadbaaGreatDoor.W1
open Go.RowKit
set_option linter.unusedVariables false
theorem when_any (p : Bool) (k : Int) (w : World) :
    Calls Tryz.prog 296 #[.bool p, .int .u8 k] w fun e w' => e = .returned (.int .u8 (wh p k)) ∧ w = w' := by
  cases p
  · go_enter Tryz.func296, Tryz.ntmps296
    go_wp2
    go_ret
    exact ⟨rfl, rfl⟩
  · go_enter Tryz.func296, Tryz.ntmps296
    go_wp2
    go_ret
    exact ⟨rfl, rfl⟩
theorem combine_any (b n : Nat) (xs : List Int) (w : World) (hl : (n : Int) ≤ 1000) (hc : ∀ k, k < n → w.cell? ⟨b, k, none⟩ = some (.int .u8 (xs.getD k 0))) :
    Calls Tryz.prog 295 #[.slice (some ⟨b, 0, none⟩) n n] w fun e w' => e = .returned (.int .u8 (orTo xs n)) ∧ w = w' := by
  have HC : Hid (∀ k, k < n → w.cell? ⟨b, k, none⟩ = some (.int .u8 (xs.getD k 0))) := hc
  clear hc
  go_enter Tryz.func295, Tryz.ntmps295
  go_wp2
  go_loop [3, 8] (fun t i => ∃ k : Nat, k ≤ n ∧ i = .int .i64 (k : Int) ∧ t = .int .u8 (orTo xs k)) (fun _ i => n - (intOf i).toNat)
  case atStart => exact ⟨0, Nat.zero_le _, rfl, rfl⟩
  case round =>
    obtain ⟨k, hk, rfl, rfl⟩ := hrel
    by_cases hlt : k < n
    · have hcell : w.cell? ⟨b, k, none⟩ = some (.int .u8 (xs.getD k 0)) := HC.out k hlt
      have H : Hid (orTo xs (k + 1) = bits .or .u8 (orTo xs k) (xs.getD k 0)) := by unfold Hid; rfl
      generalize xs.getD k 0 = x at hcell H
      go_wp2
      refine ⟨⟨k + 1, by omega, rfl, ?_⟩, ?_⟩
      · rw [H.out]
      · simp only [intOf]; omega
    · have hkn : k = n := by omega
      subst hkn
      go_wp2
      go_ret
      exact ⟨rfl, rfl⟩
theorem combine4 (p q r s : Bool) (w : World) :
    Calls Tryz.prog 295 #[.slice (some ⟨w.heap.size, 0, none⟩) 4 4] (w.alloc (.cells #[.int .u8 (wh p 8), .int .u8 (wh q 4), .int .u8 (wh r 2), .int .u8 (wh s 1)] 5))
      fun e w' => e = .returned (.int .u8 (8 * tr p + 4 * tr q + 2 * tr r + tr s)) ∧ w.alloc (.cells #[.int .u8 (wh p 8), .int .u8 (wh q 4), .int .u8 (wh r 2), .int .u8 (wh s 1)] 5) = w' := by
  rw [← orTo_4]
  refine combine_any w.heap.size 4 _ _ (by decide) ?_
  intro k hk
  rw [cell_of_row _ _ _ _ _ _ (heap_alloc_last _ _)]
  rcases (by omega : k = 0 ∨ k = 1 ∨ k = 2 ∨ k = 3) with rfl | rfl | rfl | rfl <;> rfl
theorem flags_any (a b : Int) (w : World) (ha : 0 ≤ a ∧ a < 4294967296) (hb : 0 ≤ b ∧ b < 4294967296) :
    Calls Tryz.prog 264 #[.int .u32 a, .int .u32 b] w fun e w' => e = .returned (.int .u8 (fl a b)) ∧ Grown w w' := by
  have b1 := wrap32_bd a
  have b2 := wrap32_bd b
  have b3 := wrap32_bd ((a - b) % 4294967296)
  go_enter Tryz.func264, Tryz.ntmps264
  go_wp2_with (first | (go_at_call 296; refine (when_any _ _ _).mono ?_; rintro e w1 ⟨rfl, rfl⟩) | (go_at_call 295; refine (combine4 _ _ _ _ _).mono ?_; rintro e w1 ⟨rfl, rfl⟩))
  go_ret
  exact ⟨rfl, (Grown.refl _).alloc _ _⟩
/-! Conditions. -/
theorem hv_no (c f : Int) (h : 7 ≤ c) : hv c f = false := by
  unfold hv
  repeat' rw [if_neg (by omega)]
theorem holds0 (f : Int) (w : World) (hf : 0 ≤ f ∧ f ≤ 255) :
    Calls Tryz.prog 266 #[.int .u8 0, .int .u8 f] w fun e w' => e = .returned (.bool (hv 0 f)) ∧ w = w' := by
  have e8 := and8 f hf
  have e4 := and4 f hf
  have e2 := and2 f hf
  have e1 := and1 f hf
  go_enter Tryz.func266, Tryz.ntmps266
  go_wp2
  go_ret
  exact ⟨rfl, rfl⟩
theorem holds1 (f : Int) (w : World) (hf : 0 ≤ f ∧ f ≤ 255) :
    Calls Tryz.prog 266 #[.int .u8 1, .int .u8 f] w fun e w' => e = .returned (.bool (hv 1 f)) ∧ w = w' := by
  have e8 := and8 f hf
  have e4 := and4 f hf
  have e2 := and2 f hf
  have e1 := and1 f hf
  go_enter Tryz.func266, Tryz.ntmps266
  go_wp2
  go_ret
  exact ⟨rfl, rfl⟩
theorem holds2 (f : Int) (w : World) (hf : 0 ≤ f ∧ f ≤ 255) :
    Calls Tryz.prog 266 #[.int .u8 2, .int .u8 f] w fun e w' => e = .returned (.bool (hv 2 f)) ∧ w = w' := by
  have e8 := and8 f hf
  have e4 := and4 f hf
  have e2 := and2 f hf
  have e1 := and1 f hf
  go_enter Tryz.func266, Tryz.ntmps266
  go_wp2
  go_ret
  exact ⟨rfl, rfl⟩
theorem holds3 (f : Int) (w : World) (hf : 0 ≤ f ∧ f ≤ 255) :
    Calls Tryz.prog 266 #[.int .u8 3, .int .u8 f] w fun e w' => e = .returned (.bool (hv 3 f)) ∧ w = w' := by
  have e8 := and8 f hf
  have e4 := and4 f hf
  have e2 := and2 f hf
  have e1 := and1 f hf
  go_enter Tryz.func266, Tryz.ntmps266
  go_wp2
  go_ret
  exact ⟨rfl, rfl⟩
theorem holds4 (f : Int) (w : World) (hf : 0 ≤ f ∧ f ≤ 255) :
    Calls Tryz.prog 266 #[.int .u8 4, .int .u8 f] w fun e w' => e = .returned (.bool (hv 4 f)) ∧ w = w' := by
  have e8 := and8 f hf
  have e4 := and4 f hf
  have e2 := and2 f hf
  have e1 := and1 f hf
  go_enter Tryz.func266, Tryz.ntmps266
  go_wp2
  go_ret
  exact ⟨rfl, rfl⟩
theorem holds5 (f : Int) (w : World) (hf : 0 ≤ f ∧ f ≤ 255) :
    Calls Tryz.prog 266 #[.int .u8 5, .int .u8 f] w fun e w' => e = .returned (.bool (hv 5 f)) ∧ w = w' := by
  have e8 := and8 f hf
  have e4 := and4 f hf
  have e2 := and2 f hf
  have e1 := and1 f hf
  go_enter Tryz.func266, Tryz.ntmps266
  go_wp2
  go_ret
  exact ⟨rfl, rfl⟩
theorem holds6 (f : Int) (w : World) (hf : 0 ≤ f ∧ f ≤ 255) :
    Calls Tryz.prog 266 #[.int .u8 6, .int .u8 f] w fun e w' => e = .returned (.bool (hv 6 f)) ∧ w = w' := by
  have e8 := and8 f hf
  have e4 := and4 f hf
  have e2 := and2 f hf
  have e1 := and1 f hf
  go_enter Tryz.func266, Tryz.ntmps266
  go_wp2
  go_ret
  exact ⟨rfl, rfl⟩
theorem holds_none (c f : Int) (w : World) (hc : 7 ≤ c ∧ c ≤ 255) :
    Calls Tryz.prog 266 #[.int .u8 c, .int .u8 f] w fun e w' => e = .returned (.bool false) ∧ w = w' := by
  go_enter Tryz.func266, Tryz.ntmps266
  go_wp2
  go_ret
  exact ⟨rfl, rfl⟩
/-- What Holds comes to, whatever the condition and the flags. -/
theorem holds_any (c f : Int) (w : World) (hc : 0 ≤ c ∧ c ≤ 255) (hf : 0 ≤ f ∧ f ≤ 255) :
    Calls Tryz.prog 266 #[.int .u8 c, .int .u8 f] w fun e w' => e = .returned (.bool (hv c f)) ∧ w = w' := by
  by_cases h7 : 7 ≤ c
  · rw [hv_no c f h7]; exact holds_none c f w ⟨h7, hc.2⟩
  have hcases : c = 0 ∨ c = 1 ∨ c = 2 ∨ c = 3 ∨ c = 4 ∨ c = 5 ∨ c = 6 := by omega
  clear h7 hc
  rcases hcases with rfl | rfl | rfl | rfl | rfl | rfl | rfl
  · exact holds0 f w hf
  · exact holds1 f w hf
  · exact holds2 f w hf
  · exact holds3 f w hf
  · exact holds4 f w hf
  · exact holds5 f w hf
  · exact holds6 f w hf
end Go.Proofs.YtiobgnelhiadbaaGreatDoor.W1
