/- The document's answers for layer 4, for any arguments: windows, May, Pack, Unpack, Next, Ahead. Which windows are resident: package psr's Resident, for any arguments; rows of windows. The document's answers for layer 4, for any arguments: Wim, Invalid, Resident; when two rows are the same. -/
import Derived.Test.YtiobgnelhiadbaaGreatDoorXPsrG
import Derived.OwnWalk
import Derived.Laws.AppendOwn
import Derived.IntWalk
namespace Go.Proofs.YtiobgnelhiadbaaGreatDoor.P4
open Go.RowKit
set_option linter.unusedVariables false
end Go.Proofs.YtiobgnelhiadbaaGreatDoor.P4
namespace Go.Proofs.YtiobgnelhiadbaaGreatDoor.P4
open Go.RowKit
set_option linter.unusedVariables false
/-- The window that is k on from x. -/
def win (x n : Int) (k : Nat) : Int := (x + (k : Int)) % n
/-- A slice's length. -/
def lenOf : Value → Nat | .slice _ m _ => m | _ => 0
end Go.Proofs.YtiobgnelhiadbaaGreatDoor.P4
namespace Go.Proofs.YtiobgnelhiadbaaGreatDoor.P4
open Go.RowKit
set_option linter.unusedVariables false
theorem pw_inj {a b : Nat} (h : pw a = pw b) : a = b := by
  unfold pw at h
  have h' : 2 ^ a = 2 ^ b := by omega
  rcases Nat.lt_trichotomy a b with hh | hh | hh
  · have := Nat.pow_lt_pow_right (a := 2) (by decide) hh; omega
  · exact hh
  · have := Nat.pow_lt_pow_right (a := 2) (by decide) hh; omega
/-! Two rows that are the same. -/
def Ints (w : World) (s : Value) (m : Nat) (f : Nat → Int) : Prop := ∃ p c, s = .slice p m c ∧ (0 < m → ∃ b, p = some ⟨b, 0, none⟩ ∧ ∀ i, i < m → w.cell? ⟨b, i, none⟩ = some (.int .i64 (f i)))
theorem Ints.bel {w w' : World} {s : Value} {m : Nat} {f : Nat → Int} (h : Ints w s m f) (g : Below w.heap.size w w') : Ints w' s m f := by
  obtain ⟨p, c, rfl, h⟩ := h
  exact ⟨p, c, rfl, fun hm => by obtain ⟨b, rfl, hc⟩ := h hm; exact ⟨b, rfl, fun i hi => bel_cell g (hc i hi)⟩⟩
end Go.Proofs.YtiobgnelhiadbaaGreatDoor.P4
