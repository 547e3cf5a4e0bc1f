/- lex (layer 12): is a line empty. -/
import Derived.Test.YthhbhfpdabiclaaGreatDoorLexWord
namespace Go.Proofs.YthhbhfpdabiclaaGreatDoor.L12
open Go.RowKit Go.Shelf
set_option linter.unusedVariables false
set_option maxRecDepth 100000 in
set_option maxHeartbeats 4000000 in
theorem isEmpty_at (l : List UInt8) (w : World) : Calls Tryz.prog 40 #[.string (St l)] w fun e w' => e = .returned (.bool (emptyL l)) ∧ Below w.heap.size w w' := by
  have C := Lib.hid (TrimLeft_at l w)
  have hE : emptyL l = match Lib.trimLeftS l [32, 9, 13] with | [] => true | b :: _ => b == 35 := rfl
  have HE := Lib.hid hE
  clear hE
  generalize Lib.trimLeftS l [32, 9, 13] = x at C HE
  cases x with
  | nil =>
    have hz : (St []).toList = [] := by rw [St_toList]
    go_enter Tryz.func40, Tryz.ntmps40
    go_wp2_with fail
    refine C.out.mono ?_; rintro e w1 ⟨rfl, g1⟩
    go_wp2_with fail
    go_ret
    exact ⟨by rw [HE.out]; rfl, g1⟩
  | cons b t =>
    have K := fun w => Lib.hid (HasPrefix_at (b :: t) 35 w)
    have hb : Lib.hasPrefix (b :: t) [35] = (b == 35) := by
      show ((35 : UInt8) == b && true) = (b == 35)
      rw [Bool.and_true, Bool.beq_comm]
    rw [hb] at K
    have hz : (St (b :: t)).toList.isEmpty = false := by rw [St_toList]; rfl
    have HE2 : Hid (emptyL l = (b == 35)) := HE
    clear HE
    generalize b :: t = y at C K hz
    go_enter Tryz.func40, Tryz.ntmps40
    go_wp2_with fail
    refine C.out.mono ?_; rintro e w1 ⟨rfl, g1⟩
    go_wp2_with (refine (K _).out.mono ?_; rintro e w2 ⟨rfl, rfl⟩)
    go_ret
    exact ⟨by rw [HE2.out]; rfl, g1⟩
end Go.Proofs.YthhbhfpdabiclaaGreatDoor.L12
