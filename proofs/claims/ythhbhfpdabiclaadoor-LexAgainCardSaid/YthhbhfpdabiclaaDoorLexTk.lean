/- lex (layer 12): the rows of the kinds of words, and a word's token. -/
import Derived.Test.YthhbhfpdabiclaaDoorLexTok
namespace Go.Proofs.YthhbhfpdabiclaaDoor.L12
open Go.RowKit Go.Shelf
set_option linter.unusedVariables false
def labL (l : List UInt8) : Bool := Lib.hasSuffix l [58] && nameL (l.take (l.length - 1))
theorem isLabel_at (l : List UInt8) (hl : l.length ≤ 65536) (w : World) : Calls Tryd.prog 25 #[.string (St l)] w fun e w' => e = .returned (.bool (labL l)) ∧ Below w.heap.size w w' := by
  have C := Lib.hid (fun W => CutSuffix_at l 58 (by omega) W)
  rcases suffix_cases l 58 with ⟨a, h1, h2, h3⟩ | ⟨h2, h3, h4⟩
  · rw [h2, h3] at C
    have HL : Hid (labL l = nameL a) := by
      unfold Hid labL
      rw [h2, h1]
      simp
    have N := Lib.hid (Name_at a (by rw [h1] at hl; simp at hl; omega) w)
    clear h1 h2 h3
    go_enter Tryd.func25, Tryd.ntmps25
    go_wp2_with fail
    refine (C.out _).mono ?_; rintro e w1 ⟨rfl, rfl⟩
    go_wp2_with fail
    refine N.out.mono ?_; rintro e w1 ⟨rfl, g1⟩
    have G1 := Lib.hid g1
    clear g1
    go_wp2_with fail
    go_ret
    exact ⟨by rw [HL.out]; rfl, G1.out⟩
  · rw [h2, h3] at C
    have HL : Hid (labL l = false) := by
      unfold Hid labL
      rw [h2]
      rfl
    clear h2 h3 h4
    go_enter Tryd.func25, Tryd.ntmps25
    go_wp2_with fail
    refine (C.out _).mono ?_; rintro e w1 ⟨rfl, rfl⟩
    go_wp2_with fail
    go_ret
    exact ⟨by rw [HL.out]; rfl, Below.refl _ _⟩
/-- What a row says of a word. -/
def readR (l : List UInt8) : Nat → Option Nat
  | 0 => if l = [123] then some 0 else none
  | 1 => if l = [125] then some 0 else none
  | 2 => regL l
  | 3 => numberL l
  | 4 => if labL l then some 0 else none
  | _ => if nameL l then some 0 else none
def kindR : Nat → Nat
  | 0 => 4 | 1 => 5 | 2 => 2 | 3 => 3 | 4 => 1 | _ => 0
theorem open_at (l : List UInt8) (w : World) : Calls Tryd.prog 20 #[.string (St l)] w fun e w' => e = .returned (optV (readR l 0)) ∧ Below w.heap.size w w' := by
  have hs : (⟨#[123]⟩ : ByteArray).toList = [123] := by rw [Lib.toList_data]
  by_cases h : l = [123]
  · have hb : ((St l).toList == [123]) = true := by rw [St_toList, h]; rfl
    have HR : Hid (readR l 0 = some 0) := if_pos h
    clear h
    go_enter Tryd.func20, Tryd.ntmps20
    go_wp2_with fail
    go_ret2
    exact ⟨by rw [HR.out]; rfl, Below.refl _ _⟩
  · have hb : ((St l).toList == [123]) = false := by rw [St_toList]; simpa using h
    have HR : Hid (readR l 0 = none) := if_neg h
    clear h
    go_enter Tryd.func20, Tryd.ntmps20
    go_wp2_with fail
    go_ret2
    exact ⟨by rw [HR.out]; rfl, Below.refl _ _⟩
theorem close_at (l : List UInt8) (w : World) : Calls Tryd.prog 21 #[.string (St l)] w fun e w' => e = .returned (optV (readR l 1)) ∧ Below w.heap.size w w' := by
  have hs : (⟨#[125]⟩ : ByteArray).toList = [125] := by rw [Lib.toList_data]
  by_cases h : l = [125]
  · have hb : ((St l).toList == [125]) = true := by rw [St_toList, h]; rfl
    have HR : Hid (readR l 1 = some 0) := if_pos h
    clear h
    go_enter Tryd.func21, Tryd.ntmps21
    go_wp2_with fail
    go_ret2
    exact ⟨by rw [HR.out]; rfl, Below.refl _ _⟩
  · have hb : ((St l).toList == [125]) = false := by rw [St_toList]; simpa using h
    have HR : Hid (readR l 1 = none) := if_neg h
    clear h
    go_enter Tryd.func21, Tryd.ntmps21
    go_wp2_with fail
    go_ret2
    exact ⟨by rw [HR.out]; rfl, Below.refl _ _⟩
theorem label_at (l : List UInt8) (hl : l.length ≤ 65536) (w : World) : Calls Tryd.prog 24 #[.string (St l)] w fun e w' => e = .returned (optV (readR l 4)) ∧ Below w.heap.size w w' := by
  have N := Lib.hid (isLabel_at l hl w)
  have HR : Hid (optV (readR l 4) = .tuple #[.int .u32 0, .bool (labL l)]) := by
    unfold Hid readR
    cases labL l <;> rfl
  go_enter Tryd.func24, Tryd.ntmps24
  go_wp2_with fail
  refine N.out.mono ?_; rintro e w1 ⟨rfl, g1⟩
  have G1 := Lib.hid g1
  clear g1
  go_wp2_with fail
  go_ret2
  exact ⟨by rw [HR.out]; rfl, G1.out⟩
theorem name_at (l : List UInt8) (hl : l.length ≤ 65536) (w : World) : Calls Tryd.prog 26 #[.string (St l)] w fun e w' => e = .returned (optV (readR l 5)) ∧ Below w.heap.size w w' := by
  have N := Lib.hid (Name_at l hl w)
  have HR : Hid (optV (readR l 5) = .tuple #[.int .u32 0, .bool (nameL l)]) := by
    unfold Hid readR
    cases nameL l <;> rfl
  go_enter Tryd.func26, Tryd.ntmps26
  go_wp2_with fail
  refine N.out.mono ?_; rintro e w1 ⟨rfl, g1⟩
  have G1 := Lib.hid g1
  clear g1
  go_wp2_with fail
  go_ret2
  exact ⟨by rw [HR.out]; rfl, G1.out⟩
/-- The rows in the memory. -/
def fnR : Nat → Nat
  | 0 => 20 | 1 => 21 | 2 => 22 | 3 => 23 | 4 => 24 | _ => 26
def Rows6 (w : World) (g : Nat) : Prop := ∀ j : Nat, j < 6 → w.cell? ⟨g, 2 * j, none⟩ = some (.int .u8 (kindR j : Nat)) ∧ w.cell? ⟨g, 2 * j + 1, none⟩ = some (.func (.func (fnR j)) #[] #[])
theorem Rows6.bel {w w' : World} {g : Nat} (h : Rows6 w g) (k : Below w.heap.size w w') : Rows6 w' g := fun j hj => ⟨bel_cell k (h j hj).1, bel_cell k (h j hj).2⟩
theorem rows_at (w : World) : Calls Tryd.prog 13 #[] w fun e w' => e = .returned (.slice (some ⟨w.heap.size, 0, none⟩) 6 6) ∧ Rows6 w' w.heap.size ∧ Below w.heap.size w w' := by
  go_enter Tryd.func13, Tryd.ntmps13
  go_wp2_with fail
  go_ret
  refine ⟨rfl, fun j hj => ?_, (Below.refl _ _).alloc (Nat.le_refl _) _⟩
  have h := heap_alloc_last w (.cells #[.int .u8 4, .func (.func 20) #[] #[], .int .u8 5, .func (.func 21) #[] #[], .int .u8 2, .func (.func 22) #[] #[], .int .u8 3, .func (.func 23) #[] #[], .int .u8 1, .func (.func 24) #[] #[], .int .u8 0, .func (.func 26) #[] #[]] 59)
  rcases (by omega : j = 0 ∨ j = 1 ∨ j = 2 ∨ j = 3 ∨ j = 4 ∨ j = 5) with rfl | rfl | rfl | rfl | rfl | rfl
  all_goals exact ⟨row_cell h rfl, row_cell h rfl⟩
end Go.Proofs.YthhbhfpdabiclaaDoor.L12
