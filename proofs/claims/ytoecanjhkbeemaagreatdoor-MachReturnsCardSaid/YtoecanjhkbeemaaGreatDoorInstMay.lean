/- What the document's May comes to, whatever the instruction. -/
import Derived.Test.YtoecanjhkbeemaaGreatDoorInstMayA
import Derived.Test.YtoecanjhkbeemaaGreatDoorInstMayB
import Derived.Test.YtoecanjhkbeemaaGreatDoorInstMayC
import Derived.Test.YtoecanjhkbeemaaGreatDoorInstMayD
namespace Go.Proofs.YtoecanjhkbeemaaGreatDoor.I2
open Go.RowKit
/-- What May comes to, whatever the instruction. -/
theorem rmay_any (o d s t : Int) (b : Bool) (n : Int) (w : World) (ho : 0 ≤ o ∧ o ≤ 255) (hd : 0 ≤ d ∧ d ≤ 255) (hs : 0 ≤ s ∧ s ≤ 255) (ht : 0 ≤ t ∧ t ≤ 255) :
    Calls Tryz.prog 93 #[.agg #[.int .u8 o, .int .u8 d, .int .u8 s, .int .u8 t, .bool b, .int .i32 n]] w fun e w' => e = .returned (.bool (may o d s t b n)) ∧ Grown w w' := by
  rcases kinds o with h | h | h | h | h | h | h | h | h | h | h | h | h
  · cases b
    · exact rmayKa_f o d s t n w ho hd hs ht h
    · exact rmayKa_t o d s t n w ho hd hs ht h
  · cases b
    · exact rmayKb_f o d s t n w ho hd hs ht h
    · exact rmayKb_t o d s t n w ho hd hs ht h
  · cases b
    · exact rmay3_f o d s t n w ho hd hs ht h
    · exact rmay3_t o d s t n w ho hd hs ht h
  · cases b
    · exact rmay4_f o d s t n w ho hd hs ht h
    · exact rmay4_t o d s t n w ho hd hs ht h
  · cases b
    · exact rmay5_f o d s t n w ho hd hs ht h
    · exact rmay5_t o d s t n w ho hd hs ht h
  · cases b
    · exact rmay6_f o d s t n w ho hd hs ht h
    · exact rmay6_t o d s t n w ho hd hs ht h
  · cases b
    · exact rmay7_f o d s t n w ho hd hs ht h
    · exact rmay7_t o d s t n w ho hd hs ht h
  · cases b
    · exact rmay8_f o d s t n w ho hd hs ht h
    · exact rmay8_t o d s t n w ho hd hs ht h
  · cases b
    · exact rmay9_f o d s t n w ho hd hs ht h
    · exact rmay9_t o d s t n w ho hd hs ht h
  · cases b
    · exact rmay10_f o d s t n w ho hd hs ht h
    · exact rmay10_t o d s t n w ho hd hs ht h
  · cases b
    · exact rmay11_f o d s t n w ho hd hs ht h
    · exact rmay11_t o d s t n w ho hd hs ht h
  · cases b
    · exact rmay12_f o d s t n w ho hd hs ht h
    · exact rmay12_t o d s t n w ho hd hs ht h
  · cases b
    · exact rmay0_f o d s t n w ho hd hs ht h
    · exact rmay0_t o d s t n w ho hd hs ht h
end Go.Proofs.YtoecanjhkbeemaaGreatDoor.I2
