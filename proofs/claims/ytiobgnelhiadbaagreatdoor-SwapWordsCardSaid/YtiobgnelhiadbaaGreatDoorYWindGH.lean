/- What the laws of layer 8 share: may a case be looked at; the document's example. -/
import Derived.Test.YtiobgnelhiadbaaGreatDoorYWindGW
namespace Go.Proofs.YtiobgnelhiadbaaGreatDoor.K6
open Go.RowKit W8
set_option linter.unusedVariables false
section
variable {w : World} {b fb mb g x : Nat} {cs os : Value} {G : Nat → Prop} {m : MS}
theorem get_c (h : MachP w b fb mb g x cs os G m) (c : Int) (c0 : 0 ≤ c) (c1 : c < m.nw) {v : Int} (hv : m.R (F3.loc m.nw c 0 14) = v) :
    Calls Tryz.prog 26 #[.pointer (some ⟨fb, 0, none⟩), .int .i64 c, .int .i64 0, .int .i64 14] w fun e w' => e = .returned (.tuple #[.int .u32 v, .int .i64 0]) ∧ Below w.heap.size w w' := by
  rw [← hv]
  exact F3.get_at fb m.nw c 0 14 m.R w h.file h.ok.n2 h.ok.n32 ⟨c0, c1, by decide, by decide, by decide, by decide⟩
end
/-- The document's example. -/
def hS : CS := ⟨3, 0, 48, fun i => if i < 48 then 1000 + (i : Int) else 0, 3, fun i => if i = 1 then 100 else if i = 2 then 200 else 0, 0, 0, 0, fun _ => 0, 0, false⟩
def hrow (k j : Nat) : Value := .int .u32 (if j < k then 1000 + (j : Int) else 0)
end Go.Proofs.YtiobgnelhiadbaaGreatDoor.K6
