/- lex (layer 12): the library's functions that it calls, over lists of bytes. -/
import Derived.Test.YthhbhfpdabiclaaGreatDoorLexShelf
import Derived.Test.YthhbhfpdabiclaaGreatDoorLexMath
import Derived.WalkKit
import Derived.Lib.RuneLoops
namespace Go.Proofs.YthhbhfpdabiclaaGreatDoor.L12
open Go.RowKit Go.Shelf
set_option linter.unusedVariables false
/-- A string of these bytes. -/
def St (l : List UInt8) : ByteArray := ⟨l.toArray⟩
@[simp] theorem St_list (l : List UInt8) : (St l).data.toList = l := rfl
theorem St_size (l : List UInt8) : (St l).size = l.length := rfl
theorem St_of (s : ByteArray) : St s.data.toList = s := Lib.mk_data s
def ws : ByteArray := ⟨#[32, 9, 13]⟩
theorem set116 : (Tryz.prog.info? 80).map (fun i => (i.zero, i.size)) = some (some (.agg (Array.replicate 256 (.bool false))), 256) := by kernel_rfl
theorem ascii_ws : ∀ (j : Nat) b, ws.data.toList[j]? = some b → b.toNat < 128 := fun j b h => by
  have hm : b ∈ ([32, 9, 13] : List UInt8) := List.mem_of_getElem? h
  simp at hm
  rcases hm with rfl | rfl | rfl <;> decide
theorem TrimLeft_at (l : List UInt8) (w : World) : Calls Tryz.prog 42 #[.string (St l), .string ws] w fun e w' => e = .returned (.string (St (Lib.trimLeftS l [32, 9, 13]))) ∧ Below w.heap.size w w' :=
  Any.strings_TrimLeft_laid shTrimLeft set116 (St l) ws w (by decide) ascii_ws
def decs : ByteArray := ⟨#[48, 49, 50, 51, 52, 53, 54, 55, 56, 57]⟩
theorem ascii_decs : ∀ (j : Nat) b, decs.data.toList[j]? = some b → b.toNat < 128 := fun j b h => by
  have hm : b ∈ ([48, 49, 50, 51, 52, 53, 54, 55, 56, 57] : List UInt8) := List.mem_of_getElem? h
  simp at hm
  rcases hm with rfl | rfl | rfl | rfl | rfl | rfl | rfl | rfl | rfl | rfl <;> decide
theorem Trim_at (l : List UInt8) (hl : l.length ≤ 4294967280) (w : World) : Calls Tryz.prog 48 #[.string (St l), .string decs] w fun e w' => e = .returned (.string (St (Lib.trimS l [48, 49, 50, 51, 52, 53, 54, 55, 56, 57]))) ∧ Below w.heap.size w w' :=
  Any.strings_Trim_laid shTrim set116 (St l) decs w (by rw [St_size]; omega) (by decide) ascii_decs
theorem HasPrefix_at (l : List UInt8) (c : UInt8) (w : World) : Calls Tryz.prog 55 #[.string (St l), .string ⟨#[c]⟩] w fun e w' => e = .returned (.bool (Lib.hasPrefix l [c])) ∧ w' = w :=
  Any.strings_HasPrefix shHasPrefix (St l) ⟨#[c]⟩ w
theorem TrimSuffix_at (l : List UInt8) (c : UInt8) (hl : l.length ≤ 4294967280) (w : World) : Calls Tryz.prog 39 #[.string (St l), .string ⟨#[c]⟩] w fun e w' => e = .returned (.string (St (Lib.trimSuffix l [c]))) ∧ w' = w :=
  Any.strings_TrimSuffix shTrimSuffix (St l) ⟨#[c]⟩ w (by rw [St_size]; omega)
theorem CutPrefix_at (l : List UInt8) (c : UInt8) (w : World) : Calls Tryz.prog 47 #[.string (St l), .string ⟨#[c]⟩] w fun e w' => e = .returned (.tuple #[.string (St (Lib.trimPrefix l [c])), .bool (Lib.hasPrefix l [c])]) ∧ w' = w :=
  Any.strings_CutPrefix shCutPrefix (St l) ⟨#[c]⟩ w
theorem CutSuffix_at (l : List UInt8) (c : UInt8) (hl : l.length ≤ 4294967280) (w : World) : Calls Tryz.prog 51 #[.string (St l), .string ⟨#[c]⟩] w fun e w' => e = .returned (.tuple #[.string (St (Lib.trimSuffix l [c])), .bool (Lib.hasSuffix l [c])]) ∧ w' = w :=
  Any.strings_CutSuffix shCutSuffix (St l) ⟨#[c]⟩ w (by rw [St_size]; omega)
theorem IndexByte_at (l : List UInt8) (w : World) : Calls Tryz.prog 53 #[.string (St l), .int .u8 10] w fun e w' => e = .returned (.int .i64 (Lib.indexByte l 10)) ∧ w' = w :=
  Any.strings_IndexByte shIndexByte (St l) 10 w
theorem CloneL_at (l : List UInt8) (hl : l.length ≤ 4294967280) (w : World) : Calls Tryz.prog 63 #[.string (St l)] w fun e w' => e = .returned (.string (St l)) ∧ Below w.heap.size w w' :=
  Any.stringslite_Clone shClone (St l) w (by rw [St_size]; omega)
theorem Clone_at (l : List UInt8) (hl : l.length ≤ 4294967280) (w : World) : Calls Tryz.prog 44 #[.string (St l)] w fun e w' => e = .returned (.string (St l)) ∧ Below w.heap.size w w' := by
  have C := Lib.hid (CloneL_at l hl w)
  go_enter Tryz.func44, Tryz.ntmps44
  go_wp2_with fail
  refine C.out.mono ?_; rintro e w1 ⟨rfl, g1⟩
  go_wp2_with fail
  go_ret
  exact ⟨rfl, g1⟩
end Go.Proofs.YthhbhfpdabiclaaGreatDoor.L12
