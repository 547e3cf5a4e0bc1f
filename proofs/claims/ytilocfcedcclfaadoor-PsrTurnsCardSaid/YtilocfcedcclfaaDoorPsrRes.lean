/- Which windows are resident: package psr's Resident, for any arguments; rows of windows. -/
import Derived.Test.YtilocfcedcclfaaDoorPsrOps
import Derived.OwnWalk
import Derived.Laws.AppendOwn
import Derived.IntWalk
namespace Go.Proofs.YtilocfcedcclfaaDoor
open Go.RowKit
set_option linter.unusedVariables false
/-- How far it is from one window on to another. -/
def dist (x y n : Int) : Int := if x ≤ y then y - x else y - x + n
theorem dist_in {x y n : Int} (hx : 0 ≤ x ∧ x < n) (hy : 0 ≤ y ∧ y < n) : 0 ≤ dist x y n ∧ dist x y n < n := by unfold dist; split <;> omega
theorem turn_mod {t n : Int} (h0 : 0 ≤ t) (h1 : t < 2 * n) : t % n = if t < n then t else t - n := by
  split
  · exact Int.emod_eq_of_lt h0 (by omega)
  · rw [show t = (t - n) + n by omega, Int.add_emod_right, Int.emod_eq_of_lt (by omega) (by omega)]; omega
theorem dist_mod {x y n : Int} (hx : 0 ≤ x ∧ x < n) (hy : 0 ≤ y ∧ y < n) : (y - x + n) % n = dist x y n := by
  rw [turn_mod (by omega) (by omega)]; unfold dist; split <;> split <;> omega
/-- The window that is k on from x. -/
def win (x n : Int) (k : Nat) : Int := (x + (k : Int)) % n
theorem win_in {x n : Int} (hn : 0 < n) (k : Nat) : 0 ≤ win x n k ∧ win x n k < n := ⟨Int.emod_nonneg _ (by omega), Int.emod_lt_of_pos _ hn⟩
theorem win_zero {x n : Int} (hx : 0 ≤ x ∧ x < n) : win x n 0 = x := by unfold win; simp; exact Int.emod_eq_of_lt hx.1 hx.2
theorem win_succ (x n : Int) (k : Nat) : (win x n k + 1) % n = win x n (k + 1) := by unfold win; rw [Int.emod_add_emod]; congr 1; omega
theorem win_eq {x y n : Int} (hx : 0 ≤ x ∧ x < n) (hy : 0 ≤ y ∧ y < n) {k : Nat} (hk : (k : Int) ≤ dist x y n) : win x n k = y ↔ (k : Int) = dist x y n := by
  have := dist_in hx hy
  unfold win
  rw [turn_mod (by omega) (by omega)]
  unfold dist at *
  split <;> split at * <;> omega
/-- The windows from x on. -/
def rl (x n : Int) (m : Nat) : List Value := (List.range m).map fun i => Value.int .i64 (win x n i)
theorem rl_succ (x n : Int) (m : Nat) : rl x n (m + 1) = rl x n m ++ [.int .i64 (win x n m)] := by simp [rl, List.range_succ]
theorem rl_get (x n : Int) (m i : Nat) (h : i < m) : (rl x n m)[i]? = some (.int .i64 (win x n i)) := by simp [rl, h]
theorem rl_len (x n : Int) (m : Nat) : (rl x n m).length = m := by simp [rl]
/-- A slice's length. -/
def lenOf : Value → Nat | .slice _ m _ => m | _ => 0
theorem own_len {w : World} {B : Nat} {t : TypeId} {s : Value} {m : Nat} {xs : List Value} (h : w.ownsRow B t 1 s m xs) : lenOf s = m := by
  obtain ⟨h0, h | ⟨g, cap, cur, rfl, _⟩⟩ := h
  · obtain ⟨rfl, rfl⟩ := h; rfl
  · rfl
theorem int_parts : (Tryd.prog.info? 3).map (fun i => (i.zero, i.size, i.bytes)) = some (some (.int .i64 0), 1, 8) := by kernel_rfl
theorem int_under : Tryd.prog.underlying 45 = some (.slice 3) := by kernel_rfl
theorem Resident_arg (x v n : Int) (w : World) (h : ¬ (2 ≤ n ∧ n ≤ 32 ∧ 0 ≤ x ∧ x < n)) : Calls Tryd.prog 20 #[.int .i64 x, .int .u32 v, .int .i64 n] w fun e w' => e = .returned (.tuple #[.slice none 0 0, .int .i64 2]) ∧ Below w.heap.size w w' := by
  go_enter Tryd.func20, Tryd.ntmps20
  go_wp2_with fail
  refine (isWindow_no x n _ h).mono ?_; rintro e w1 ⟨rfl, g1⟩
  go_wp2_with fail
  go_ret2
  exact ⟨rfl, g1⟩
theorem Resident_form (x v n : Int) (w : World) (hT : TabAt w) (hv : 0 ≤ v ∧ v < 4294967296) (hn : 2 ≤ n) (hn' : n ≤ 32) (h0 : 0 ≤ x) (h1 : x < n) (h : ∀ y : Nat, (y : Int) < n → v ≠ pw y) :
    Calls Tryd.prog 20 #[.int .i64 x, .int .u32 v, .int .i64 n] w fun e w' => e = .returned (.tuple #[.slice none 0 0, .int .i64 5]) ∧ Below w.heap.size w w' := by
  have H := Lib.hid h
  have HT := Lib.hid hT
  clear h hT
  go_enter Tryd.func20, Tryd.ntmps20
  go_wp2_with fail
  refine (isWindow_yes x n _ hn hn' h0 h1).mono ?_; rintro e w1 ⟨rfl, g1⟩
  go_wp2_with fail
  refine (Invalid_form v n _ (HT.out.bel g1) hv hn hn' H.out).mono ?_; rintro e w2 ⟨rfl, g2⟩
  go_wp2_with fail
  go_ret2
  exact ⟨rfl, bel_trans g1 g2⟩
/-- A row of the windows from x on, as a slice. -/
def Row (w : World) (B : Nat) (s : Value) (x n : Int) (m : Nat) : Prop := w.ownsRow B 3 1 s m (rl x n m)
set_option maxHeartbeats 1000000 in
theorem Resident_yes (x n : Int) (y : Nat) (w : World) (hT : TabAt w) (hn : 2 ≤ n) (hn' : n ≤ 32) (h0 : 0 ≤ x) (h1 : x < n) (hy : (y : Int) < n) :
    Calls Tryd.prog 20 #[.int .i64 x, .int .u32 (pw y), .int .i64 n] w fun e w' => ∃ s, e = .returned (.tuple #[s, .int .i64 0]) ∧ Row w' w.heap.size s x n (dist x y n).toNat ∧ Below w.heap.size w w' := by
  have HT := Lib.hid hT
  clear hT
  have hd := dist_in ⟨h0, h1⟩ ⟨Int.natCast_nonneg y, hy⟩
  obtain ⟨d, hdd⟩ : ∃ d : Nat, dist x y n = d := ⟨(dist x y n).toNat, by omega⟩
  have HW : Hid (∀ k : Nat, k ≤ d → (win x n k = y ↔ k = d)) := fun k hk => (win_eq ⟨h0, h1⟩ ⟨Int.natCast_nonneg y, hy⟩ (by omega)).trans (by omega)
  have HI : Hid (∀ k : Nat, 0 ≤ win x n k ∧ win x n k < n) := fun k => win_in (by omega) k
  have HZ := Lib.hid (win_zero ⟨h0, h1⟩)
  rw [hdd, Int.toNat_natCast]
  have hdn : (d : Int) < 32 := by omega
  clear hdd hd
  obtain ⟨i0, hi, hz0, hz1, hz2⟩ := info_parts int_parts
  have HV := Lib.hid (fun W (t : TabAt W) => Invalid_yes y n W t hn hn' hy)
  generalize pw y = v at *
  go_enter Tryd.func20, Tryd.ntmps20
  go_wp2_with fail
  refine (isWindow_yes x n _ hn hn' h0 h1).mono ?_; rintro e w1 ⟨rfl, g1⟩
  go_wp2_with fail
  refine (HV.out _ (HT.out.bel g1)).mono ?_; rintro e w2 ⟨rfl, g2⟩
  have G2 := bel_trans g1 g2
  clear g1 g2 HV HT
  go_wp2_with fail
  go_loopw [10, 11] (fun s i wr => ∃ k : Nat, k ≤ d ∧ i = .int .i64 (win x n k) ∧ wr.ownsRow w.heap.size 3 1 s k (rl x n k) ∧ Below w.heap.size w wr) (fun s _ _ => d - lenOf s)
  case atStart => exact ⟨0, by omega, by rw [HZ.out], World.ownsRow_nil _ _ _ _, G2⟩
  case round =>
    clear G2
    obtain ⟨k, hk, rfl, hown, hg⟩ := hrel
    have hlen := Lib.hid (own_len hown)
    have hu0 := (HI.out k).1
    have hu1 := (HI.out k).2
    have hs1 := Lib.hid (win_succ x n k)
    by_cases hlt : k < d
    · have hne : (win x n k != y) = true := by have := HW.out k hk; simp; omega
      have hsz := hg.size
      have hrl := Lib.hid (rl_succ x n k)
      generalize win x n k = u at *
      have hk32 : k < 32 := by omega
      go_wp2_with (at_builtin; refine wpList_append_own _ rfl _ _ 45 rfl w.heap.size 3 i0 (.int .i64 0) 1 8 int_under hi hz0 hz1 hz2 rfl (by decide) _ _ _ rfl (hown.alloc _) ⟨wr.heap.size, 0, none⟩ 1 1 [.int .i64 u] rfl rfl (one_new _ _ _) (fun x hx => by simp at hx; subst hx; rfl) (by unfold maxLen; omega) (by omega) (by simp; omega) ?_; intro s' w3 hown' hgrow hnil
                   have X : Hid (w3.ownsRow w.heap.size 3 1 s' (k + 1) (rl x n (k + 1)) ∧ Below w.heap.size w w3) := ⟨by rw [hrl.out]; exact hown', Below.grown (hg.alloc (by omega) _) hgrow (by simp; omega) (fun j hj => (hown.lt _ hj).1)⟩
                   clear hown' hgrow hnil)
      refine (after_any u n _ hu0 hu1 hn').mono ?_; rintro e w4 ⟨rfl, rfl⟩
      go_wp2_with fail
      go_roundw
      case rel => exact ⟨k + 1, by omega, by rw [hs1.out], X.out.1, X.out.2⟩
      case measure =>
        have h1 := own_len X.out.1
        have h2 := hlen.out
        simp
        omega
    · obtain rfl : k = d := by omega
      rw [(HW.out k hk).2 rfl]
      go_wp2_with fail
      go_ret2
      exact ⟨_, rfl, hown, hg⟩
end Go.Proofs.YtilocfcedcclfaaDoor
