/- Which windows are resident: package psr's Resident, for any arguments; rows of windows. -/
import Derived.Test.YtbkhhfffgmappaaGreatDoorPsrOps
import Derived.OwnWalk
import Derived.Laws.AppendOwn
import Derived.IntWalk
namespace Go.Proofs.YtbkhhfffgmappaaGreatDoor.P4
open Go.RowKit
set_option linter.unusedVariables false
/-- How far it is from one window on to another. -/
def dist (x y n : Int) : Int := if x ≤ y then y - x else y - x + n
theorem dist_in {x y n : Int} (hx : 0 ≤ x ∧ x < n) (hy : 0 ≤ y ∧ y < n) : 0 ≤ dist x y n ∧ dist x y n < n := by unfold dist; split <;> omega
theorem turn_mod {t n : Int} (h0 : 0 ≤ t) (h1 : t < 2 * n) : t % n = if t < n then t else t - n := by
  split
  · exact Int.emod_eq_of_lt h0 (by omega)
  · rw [show t = (t - n) + n by omega, Int.add_emod_right, Int.emod_eq_of_lt (by omega) (by omega)]; omega
theorem dist_mod {x y n : Int} (hx : 0 ≤ x ∧ x < n) (hy : 0 ≤ y ∧ y < n) : (y - x + n) % n = dist x y n := by
  rw [turn_mod (by omega) (by omega)]; unfold dist; split <;> split <;> omega
/-- The window that is k on from x. -/
def win (x n : Int) (k : Nat) : Int := (x + (k : Int)) % n
theorem win_in {x n : Int} (hn : 0 < n) (k : Nat) : 0 ≤ win x n k ∧ win x n k < n := ⟨Int.emod_nonneg _ (by omega), Int.emod_lt_of_pos _ hn⟩
theorem win_zero {x n : Int} (hx : 0 ≤ x ∧ x < n) : win x n 0 = x := by unfold win; simp; exact Int.emod_eq_of_lt hx.1 hx.2
theorem win_succ (x n : Int) (k : Nat) : (win x n k + 1) % n = win x n (k + 1) := by unfold win; rw [Int.emod_add_emod]; congr 1; omega
theorem win_eq {x y n : Int} (hx : 0 ≤ x ∧ x < n) (hy : 0 ≤ y ∧ y < n) {k : Nat} (hk : (k : Int) ≤ dist x y n) : win x n k = y ↔ (k : Int) = dist x y n := by
  have := dist_in hx hy
  unfold win
  rw [turn_mod (by omega) (by omega)]
  unfold dist at *
  split <;> split at * <;> omega
/-- The windows from x on. -/
def rl (x n : Int) (m : Nat) : List Value := (List.range m).map fun i => Value.int .i64 (win x n i)
theorem rl_succ (x n : Int) (m : Nat) : rl x n (m + 1) = rl x n m ++ [.int .i64 (win x n m)] := by simp [rl, List.range_succ]
theorem rl_get (x n : Int) (m i : Nat) (h : i < m) : (rl x n m)[i]? = some (.int .i64 (win x n i)) := by simp [rl, h]
theorem rl_len (x n : Int) (m : Nat) : (rl x n m).length = m := by simp [rl]
/-- A slice's length. -/
def lenOf : Value → Nat | .slice _ m _ => m | _ => 0
theorem own_len {w : World} {B : Nat} {t : TypeId} {s : Value} {m : Nat} {xs : List Value} (h : w.ownsRow B t 1 s m xs) : lenOf s = m := by
  obtain ⟨h0, h | ⟨g, cap, cur, rfl, _⟩⟩ := h
  · obtain ⟨rfl, rfl⟩ := h; rfl
  · rfl
theorem int_parts : (Tryz.prog.info? 3).map (fun i => (i.zero, i.size, i.bytes)) = some (some (.int .i64 0), 1, 8) := by kernel_rfl
/-- A row of the windows from x on, as a slice. -/
def Row (w : World) (B : Nat) (s : Value) (x n : Int) (m : Nat) : Prop := w.ownsRow B 3 1 s m (rl x n m)
end Go.Proofs.YtbkhhfffgmappaaGreatDoor.P4
