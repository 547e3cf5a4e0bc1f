/- Plain arithmetic of layer 5 (mem), which imports nothing of the translation: bytes as a function of their place, what a store makes of them, what a load says, which error an access gets. -/
import Derived.RowKit
namespace Go.Proofs.YtgbodbejcffclaaDoor
/-- Bytes: each from 0 to 255. -/
def Bytes (f : Nat → Int) : Prop := ∀ i, 0 ≤ f i ∧ f i < 256
/-- What a store of m bytes at a makes of the bytes; the first byte is the most significant. -/
def stB (f : Nat → Int) (a m : Nat) (v : Int) : Nat → Int := fun j => if a ≤ j ∧ j < a + m then v / 256 ^ (a + m - 1 - j) % 256 else f j
/-- After t of its bytes, from the last one on. -/
def stT (f : Nat → Int) (a m : Nat) (v : Int) (t : Nat) : Nat → Int := fun j => if a + m - t ≤ j ∧ j < a + m then v / 256 ^ (a + m - 1 - j) % 256 else f j
def updB (f : Nat → Int) (j : Nat) (v : Int) : Nat → Int := fun i => if i = j then v else f i
theorem stT_zero (f : Nat → Int) (a m : Nat) (v : Int) : stT f a m v 0 = f := by funext j; unfold stT; rw [if_neg (by omega)]
theorem stT_all (f : Nat → Int) (a m : Nat) (v : Int) : stT f a m v m = stB f a m v := by funext j; unfold stT stB; rw [Nat.add_sub_cancel]
theorem stT_succ (f : Nat → Int) (a m : Nat) (v : Int) {t : Nat} (h : t < m) : updB (stT f a m v t) (a + (m - 1 - t)) (v / 256 ^ t % 256) = stT f a m v (t + 1) := by
  funext j
  unfold updB stT
  by_cases e : j = a + (m - 1 - t)
  · rw [if_pos e, if_pos (by omega), show a + m - 1 - j = t by omega]
  · rw [if_neg e]
    by_cases hj : a + m - t ≤ j ∧ j < a + m
    · rw [if_pos hj, if_pos (by omega)]
    · rw [if_neg hj, if_neg (by omega)]
theorem stB_bytes {f : Nat → Int} (h : Bytes f) (a m : Nat) (v : Int) : Bytes (stB f a m v) := fun i => by
  unfold stB
  split
  · exact ⟨Int.emod_nonneg _ (by omega), Int.emod_lt_of_pos _ (by omega)⟩
  · exact h i
/-- What a load of m bytes says. -/
def ldB (f : Nat → Int) (a : Nat) : Nat → Int
  | 0 => 0
  | k + 1 => 256 * ldB f a k + f (a + k)
theorem ldB_in {f : Nat → Int} (h : Bytes f) (a : Nat) : ∀ k, 0 ≤ ldB f a k ∧ ldB f a k < 256 ^ k
  | 0 => ⟨Int.le_refl _, by simp [ldB]⟩
  | k + 1 => by
    obtain ⟨h0, h1⟩ := ldB_in h a k
    obtain ⟨h2, h3⟩ := h (a + k)
    unfold ldB
    rw [Int.pow_succ]
    generalize (256 : Int) ^ k = p at *
    omega
theorem ldB_small {f : Nat → Int} {a k : Nat} (h : ∀ k, 0 ≤ ldB f a k ∧ ldB f a k < 256 ^ k) (hk : k ≤ 3) : 0 ≤ ldB f a k ∧ ldB f a k < 16777216 := by
  obtain ⟨h0, h1⟩ := h k
  have : (256 : Int) ^ k ≤ 16777216 := by
    rcases (by omega : k = 0 ∨ k = 1 ∨ k = 2 ∨ k = 3) with rfl | rfl | rfl | rfl <;> decide
  exact ⟨h0, by omega⟩
theorem div_pow_in {v : Int} (h0 : 0 ≤ v) (h1 : v < 4294967296) (t : Nat) : 0 ≤ v / 256 ^ t ∧ v / 256 ^ t < 4294967296 := by
  have hp : (0 : Int) < 256 ^ t := Int.pow_pos (by decide)
  refine ⟨Int.ediv_nonneg h0 (by omega), Int.lt_of_le_of_lt (Int.ediv_le_self _ h0) h1⟩
theorem div_pow_succ (v : Int) (t : Nat) : v / 256 ^ t / 256 = v / 256 ^ (t + 1) := by
  have hp : (0 : Int) < 256 ^ t := Int.pow_pos (by decide)
  rw [Int.pow_succ]
  exact Int.ediv_ediv_of_nonneg (Int.le_of_lt hp)
/-- The error of an access to m bytes at a. -/
def thE (n a m : Int) : Int := if m ≠ 1 ∧ m ≠ 4 then 2 else if m = 4 ∧ a % 4 ≠ 0 then 51 else if n < a + m then 50 else 0
/-- The error of an access to m words at a. -/
def spE (n a m : Int) : Int := if m < 0 then 2 else if a % 4 ≠ 0 then 51 else if n < a ∨ (n - a) / 4 < m then 50 else 0
theorem thE_ok {n a m : Int} (h : thE n a m = 0) : (m = 1 ∨ m = 4) ∧ a + m ≤ n := by
  unfold thE at h; repeat (split at h <;> try omega)
theorem spE_ok {n a m : Int} (h : spE n a m = 0) : 0 ≤ m ∧ a % 4 = 0 ∧ a ≤ n ∧ a + 4 * m ≤ n := by
  unfold spE at h; repeat (split at h <;> try omega)
/-- What a Put of words makes of the bytes. -/
def ptB (f : Nat → Int) (a : Nat) (g : Nat → Int) : Nat → Nat → Int
  | 0 => f
  | k + 1 => stB (ptB f a g k) (a + 4 * k) 4 (g k)
theorem ptB_bytes {f : Nat → Int} (h : Bytes f) (a : Nat) (g : Nat → Int) : ∀ k, Bytes (ptB f a g k)
  | 0 => h
  | k + 1 => stB_bytes (ptB_bytes h a g k) _ _ _
/-! A row of numbers of one kind, as a list of cells. -/
def bsL (k : IntKind) (f : Nat → Int) (n : Nat) : List Value := (List.range n).map fun i => .int k (f i)
theorem bsL_len (k : IntKind) (f : Nat → Int) (n : Nat) : (bsL k f n).length = n := by simp [bsL]
theorem bsL_get (k : IntKind) (f : Nat → Int) {n i : Nat} (h : i < n) : (bsL k f n)[i]? = some (.int k (f i)) := by simp [bsL, h]
theorem bsL_succ (k : IntKind) (f : Nat → Int) (n : Nat) : bsL k f (n + 1) = bsL k f n ++ [.int k (f n)] := by simp [bsL, List.range_succ]
theorem bsL_set (k : IntKind) (f : Nat → Int) (n j : Nat) (v : Int) : (bsL k f n).set j (.int k v) = bsL k (updB f j v) n := by
  apply List.ext_getElem?
  intro i
  rw [List.getElem?_set]
  by_cases hi : i < n
  · rw [bsL_get k _ hi, bsL_len, bsL_get k _ hi]
    unfold updB
    by_cases e : j = i
    · subst e; simp [hi]
    · rw [if_neg e, if_neg (fun h => e h.symm)]
  · rw [List.getElem?_eq_none (by rw [bsL_len]; omega), List.getElem?_eq_none (by rw [bsL_len]; omega)]
    split
    · rw [bsL_len, if_neg (by omega)]
    · rfl
theorem bsL_one (k : IntKind) (f : Nat → Int) (n : Nat) : ∀ u ∈ bsL k f n, u.oneCell' = true := by
  intro u hu
  simp only [bsL, List.mem_map] at hu
  obtain ⟨i, _, rfl⟩ := hu
  rfl
end Go.Proofs.YtgbodbejcffclaaDoor
