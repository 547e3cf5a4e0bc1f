/- lex (layer 12): the rows of the kinds of words, and a word's token. -/
import Derived.Test.YthhbhfpdabiclaaGreatDoorLexTok
namespace Go.Proofs.YthhbhfpdabiclaaGreatDoor.L12
open Go.RowKit Go.Shelf
set_option linter.unusedVariables false
def labL (l : List UInt8) : Bool := Lib.hasSuffix l [58] && nameL (l.take (l.length - 1))
theorem isLabel_at (l : List UInt8) (hl : l.length ≤ 65536) (w : World) : Calls Tryz.prog 35 #[.string (St l)] w fun e w' => e = .returned (.bool (labL l)) ∧ Below w.heap.size w w' := by
  have C := Lib.hid (fun W => CutSuffix_at l 58 (by omega) W)
  rcases suffix_cases l 58 with ⟨a, h1, h2, h3⟩ | ⟨h2, h3, h4⟩
  · rw [h2, h3] at C
    have HL : Hid (labL l = nameL a) := by
      unfold Hid labL
      rw [h2, h1]
      simp
    have N := Lib.hid (Name_at a (by rw [h1] at hl; simp at hl; omega) w)
    clear h1 h2 h3
    go_enter Tryz.func35, Tryz.ntmps35
    go_wp2_with fail
    refine (C.out _).mono ?_; rintro e w1 ⟨rfl, rfl⟩
    go_wp2_with fail
    refine N.out.mono ?_; rintro e w1 ⟨rfl, g1⟩
    have G1 := Lib.hid g1
    clear g1
    go_wp2_with fail
    go_ret
    exact ⟨by rw [HL.out]; rfl, G1.out⟩
  · rw [h2, h3] at C
    have HL : Hid (labL l = false) := by
      unfold Hid labL
      rw [h2]
      rfl
    clear h2 h3 h4
    go_enter Tryz.func35, Tryz.ntmps35
    go_wp2_with fail
    refine (C.out _).mono ?_; rintro e w1 ⟨rfl, rfl⟩
    go_wp2_with fail
    go_ret
    exact ⟨by rw [HL.out]; rfl, Below.refl _ _⟩
/-- What a row says of a word. -/
def readR (l : List UInt8) : Nat → Option Nat
  | 0 => if l = [123] then some 0 else none
  | 1 => if l = [125] then some 0 else none
  | 2 => regL l
  | 3 => numberL l
  | 4 => if labL l then some 0 else none
  | _ => if nameL l then some 0 else none
def kindR : Nat → Nat
  | 0 => 4 | 1 => 5 | 2 => 2 | 3 => 3 | 4 => 1 | _ => 0
theorem open_at (l : List UInt8) (w : World) : Calls Tryz.prog 30 #[.string (St l)] w fun e w' => e = .returned (optV (readR l 0)) ∧ Below w.heap.size w w' := by
  have hs : (⟨#[123]⟩ : ByteArray).toList = [123] := by rw [Lib.toList_data]
  by_cases h : l = [123]
  · have hb : ((St l).toList == [123]) = true := by rw [St_toList, h]; rfl
    have HR : Hid (readR l 0 = some 0) := if_pos h
    clear h
    go_enter Tryz.func30, Tryz.ntmps30
    go_wp2_with fail
    go_ret2
    exact ⟨by rw [HR.out]; rfl, Below.refl _ _⟩
  · have hb : ((St l).toList == [123]) = false := by rw [St_toList]; simpa using h
    have HR : Hid (readR l 0 = none) := if_neg h
    clear h
    go_enter Tryz.func30, Tryz.ntmps30
    go_wp2_with fail
    go_ret2
    exact ⟨by rw [HR.out]; rfl, Below.refl _ _⟩
theorem close_at (l : List UInt8) (w : World) : Calls Tryz.prog 31 #[.string (St l)] w fun e w' => e = .returned (optV (readR l 1)) ∧ Below w.heap.size w w' := by
  have hs : (⟨#[125]⟩ : ByteArray).toList = [125] := by rw [Lib.toList_data]
  by_cases h : l = [125]
  · have hb : ((St l).toList == [125]) = true := by rw [St_toList, h]; rfl
    have HR : Hid (readR l 1 = some 0) := if_pos h
    clear h
    go_enter Tryz.func31, Tryz.ntmps31
    go_wp2_with fail
    go_ret2
    exact ⟨by rw [HR.out]; rfl, Below.refl _ _⟩
  · have hb : ((St l).toList == [125]) = false := by rw [St_toList]; simpa using h
    have HR : Hid (readR l 1 = none) := if_neg h
    clear h
    go_enter Tryz.func31, Tryz.ntmps31
    go_wp2_with fail
    go_ret2
    exact ⟨by rw [HR.out]; rfl, Below.refl _ _⟩
theorem label_at (l : List UInt8) (hl : l.length ≤ 65536) (w : World) : Calls Tryz.prog 34 #[.string (St l)] w fun e w' => e = .returned (optV (readR l 4)) ∧ Below w.heap.size w w' := by
  have N := Lib.hid (isLabel_at l hl w)
  have HR : Hid (optV (readR l 4) = .tuple #[.int .u32 0, .bool (labL l)]) := by
    unfold Hid readR
    cases labL l <;> rfl
  go_enter Tryz.func34, Tryz.ntmps34
  go_wp2_with fail
  refine N.out.mono ?_; rintro e w1 ⟨rfl, g1⟩
  have G1 := Lib.hid g1
  clear g1
  go_wp2_with fail
  go_ret2
  exact ⟨by rw [HR.out]; rfl, G1.out⟩
theorem name_at (l : List UInt8) (hl : l.length ≤ 65536) (w : World) : Calls Tryz.prog 36 #[.string (St l)] w fun e w' => e = .returned (optV (readR l 5)) ∧ Below w.heap.size w w' := by
  have N := Lib.hid (Name_at l hl w)
  have HR : Hid (optV (readR l 5) = .tuple #[.int .u32 0, .bool (nameL l)]) := by
    unfold Hid readR
    cases nameL l <;> rfl
  go_enter Tryz.func36, Tryz.ntmps36
  go_wp2_with fail
  refine N.out.mono ?_; rintro e w1 ⟨rfl, g1⟩
  have G1 := Lib.hid g1
  clear g1
  go_wp2_with fail
  go_ret2
  exact ⟨by rw [HR.out]; rfl, G1.out⟩
/-- The rows in the memory. -/
def fnR : Nat → Nat
  | 0 => 30 | 1 => 31 | 2 => 32 | 3 => 33 | 4 => 34 | _ => 36
def Rows6 (w : World) (g : Nat) : Prop := ∀ j : Nat, j < 6 → w.cell? ⟨g, 2 * j, none⟩ = some (.int .u8 (kindR j : Nat)) ∧ w.cell? ⟨g, 2 * j + 1, none⟩ = some (.func (.func (fnR j)) #[] #[])
theorem Rows6.bel {w w' : World} {g : Nat} (h : Rows6 w g) (k : Below w.heap.size w w') : Rows6 w' g := fun j hj => ⟨bel_cell k (h j hj).1, bel_cell k (h j hj).2⟩
theorem rows_at (w : World) : Calls Tryz.prog 15 #[] w fun e w' => e = .returned (.slice (some ⟨w.heap.size, 0, none⟩) 6 6) ∧ Rows6 w' w.heap.size ∧ Below w.heap.size w w' := by
  go_enter Tryz.func15, Tryz.ntmps15
  go_wp2_with fail
  go_ret
  refine ⟨rfl, fun j hj => ?_, (Below.refl _ _).alloc (Nat.le_refl _) _⟩
  have h := heap_alloc_last w (.cells #[.int .u8 4, .func (.func 30) #[] #[], .int .u8 5, .func (.func 31) #[] #[], .int .u8 2, .func (.func 32) #[] #[], .int .u8 3, .func (.func 33) #[] #[], .int .u8 1, .func (.func 34) #[] #[], .int .u8 0, .func (.func 36) #[] #[]] 60)
  rcases (by omega : j = 0 ∨ j = 1 ∨ j = 2 ∨ j = 3 ∨ j = 4 ∨ j = 5) with rfl | rfl | rfl | rfl | rfl | rfl
  all_goals exact ⟨row_cell h rfl, row_cell h rfl⟩
end Go.Proofs.YthhbhfpdabiclaaGreatDoor.L12
