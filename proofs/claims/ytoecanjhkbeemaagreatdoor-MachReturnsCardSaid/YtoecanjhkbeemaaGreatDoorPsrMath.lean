/- Plain arithmetic of layer 4 (psr), which imports nothing of the translation. -/
import Derived.RowKit
import Derived.Laws.BitsAllLaws
import Derived.Lib.TrailingZeros
namespace Go.Proofs.YtoecanjhkbeemaaGreatDoor.P4
/-- A part's width. -/
def wid (k : Fin 4) : Int := if k.val % 2 = 0 then 5 else 4
/-- How many bits the parts take that have come. -/
def ja (l : List (Fin 4)) : Int := l.foldl (fun a k => a + wid k) 0
/-- The word of the parts that have come, by the code's own operations. -/
def jstep (P : Fin 4 → Int) (s : Int × Int) (k : Fin 4) : Int × Int := (bits .or .u32 s.1 (P k * 2 ^ s.2.toNat % 4294967296), s.2 + wid k)
def jw (P : Fin 4 → Int) (l : List (Fin 4)) : Int := (l.foldl (jstep P) (0, 0)).1
theorem snoc_ind {α : Type} {p : List α → Prop} (h0 : p []) (h1 : ∀ l a, p l → p (l ++ [a])) (l : List α) : p l := by
  rw [← List.reverse_reverse l]
  induction l.reverse with
  | nil => exact h0
  | cons a r ih => rw [List.reverse_cons]; exact h1 _ _ ih
theorem wid_nonneg (k : Fin 4) : 0 ≤ wid k := by unfold wid; split <;> decide
theorem wid_le (k : Fin 4) : wid k ≤ 5 := by unfold wid; split <;> decide
theorem ja_snoc (l : List (Fin 4)) (k : Fin 4) : ja (l ++ [k]) = ja l + wid k := by simp [ja, List.foldl_append]
theorem ja_nonneg (l : List (Fin 4)) : 0 ≤ ja l := by
  refine snoc_ind (p := fun l => 0 ≤ ja l) (by simp [ja]) (fun l k ih => ?_) l
  rw [ja_snoc]; have := wid_nonneg k; omega
theorem ja_le (l : List (Fin 4)) : ja l ≤ 5 * l.length := by
  refine snoc_ind (p := fun l => ja l ≤ 5 * l.length) (by simp [ja]) (fun l k ih => ?_) l
  rw [ja_snoc]; have := wid_le k; simp; omega
theorem jstep_at (P : Fin 4 → Int) (l : List (Fin 4)) : (l.foldl (jstep P) (0, 0)).2 = ja l := by
  refine snoc_ind (p := fun l => (l.foldl (jstep P) (0, 0)).2 = ja l) (by simp [ja]) (fun l k ih => ?_) l
  rw [List.foldl_append, ja_snoc, ← ih]; simp [jstep]
theorem jw_snoc (P : Fin 4 → Int) (l : List (Fin 4)) (k : Fin 4) : jw P (l ++ [k]) = bits .or .u32 (jw P l) (P k * 2 ^ (ja l).toNat % 4294967296) := by
  rw [← jstep_at P]; simp [jw, jstep, List.foldl_append]
/-- What is left of a word, and the parts that have come of it. -/
def sstep (s : Int × (Fin 4 → Int)) (k : Fin 4) : Int × (Fin 4 → Int) :=
  (s.1 / 2 ^ (wid k).toNat, fun j => if j = k then bits .and .u32 s.1 (2 ^ (wid k).toNat - 1) % 256 else s.2 j)
def sSt (v : Int) (l : List (Fin 4)) : Int × (Fin 4 → Int) := l.foldl sstep (v, fun _ => 0)
def sR (v : Int) (l : List (Fin 4)) : Int := (sSt v l).1
def sQ (v : Int) (l : List (Fin 4)) (k : Fin 4) : Int := (sSt v l).2 k
theorem wid_or (k : Fin 4) : wid k = 5 ∨ wid k = 4 := by unfold wid; split <;> simp
theorem sSt_snoc (v : Int) (l : List (Fin 4)) (k : Fin 4) : sSt v (l ++ [k]) = sstep (sSt v l) k := by simp [sSt, List.foldl_append]
theorem sR_snoc (v : Int) (l : List (Fin 4)) (k : Fin 4) : sR v (l ++ [k]) = sR v l / 2 ^ (wid k).toNat := by unfold sR; rw [sSt_snoc]; rfl
theorem sQ_snoc (v : Int) (l : List (Fin 4)) (k j : Fin 4) : sQ v (l ++ [k]) j = if j = k then bits .and .u32 (sR v l) (2 ^ (wid k).toNat - 1) % 256 else sQ v l j := by unfold sQ; rw [sSt_snoc]; rfl
theorem sR_nonneg {v : Int} (h : 0 ≤ v) (l : List (Fin 4)) : 0 ≤ sR v l := by
  refine snoc_ind (p := fun l => 0 ≤ sR v l) h (fun l k ih => ?_) l
  rw [sR_snoc]; rcases wid_or k with e | e <;> rw [e] <;> simp <;> omega
theorem sR_le {v : Int} (h : 0 ≤ v) (l : List (Fin 4)) : sR v l ≤ v := by
  refine snoc_ind (p := fun l => sR v l ≤ v) (Int.le_refl _) (fun l k ih => ?_) l
  have := sR_nonneg h l
  rw [sR_snoc]; rcases wid_or k with e | e <;> rw [e] <;> simp <;> omega
theorem or_low (i : Nat) (p x y : Int) (hp : (2 : Int) ^ i = p) (hx : 0 ≤ x ∧ x < p) (hm : y % p = 0) (hy : 0 ≤ y ∧ y < 4294967296) (hs : x < 4294967296) : bits .or .u32 x y = x + y := by
  obtain ⟨a, rfl⟩ : ∃ a : Nat, x = a := ⟨x.toNat, by omega⟩
  obtain ⟨b, rfl⟩ : ∃ b : Nat, y = b := ⟨y.toNat, by omega⟩
  rw [u32_or_nat a b (by omega) (by omega)]
  have h2 : ((2 ^ i : Nat) : Int) = p := by rw [← hp]; simp
  have hb : b % 2 ^ i = 0 := by
    have : ((b % 2 ^ i : Nat) : Int) = 0 := by rw [Int.natCast_emod, h2]; exact hm
    omega
  have ha : a < 2 ^ i := by omega
  have hq : b = 2 ^ i * (b / 2 ^ i) := by have := Nat.div_add_mod b (2 ^ i); omega
  have : a ||| b = a + b := by
    rw [Nat.or_comm, hq, ← Nat.two_pow_add_eq_or_of_lt ha, Nat.add_comm]
  rw [this]; simp
theorem jw_all (P : Fin 4 → Int) (h0 : 0 ≤ P 0 ∧ P 0 < 32) (h1 : 0 ≤ P 1 ∧ P 1 < 16) (h2 : 0 ≤ P 2 ∧ P 2 < 32) (h3 : 0 ≤ P 3 ∧ P 3 < 16) : jw P [0, 1, 2, 3] = P 0 + 32 * P 1 + 512 * P 2 + 16384 * P 3 := by
  have e : jw P [0, 1, 2, 3] = bits .or .u32 (bits .or .u32 (bits .or .u32 (bits .or .u32 0 (P 0 * 1 % 4294967296)) (P 1 * 32 % 4294967296)) (P 2 * 512 % 4294967296)) (P 3 * 16384 % 4294967296) := rfl
  have e1 : bits .or .u32 0 (P 0 * 1 % 4294967296) = P 0 := by rw [or_low 0 1 0 _ rfl (by omega) (by omega) (by omega) (by omega)]; omega
  have e2 : bits .or .u32 (P 0) (P 1 * 32 % 4294967296) = P 0 + 32 * P 1 := by rw [or_low 5 32 _ _ rfl (by omega) (by omega) (by omega) (by omega)]; omega
  have e3 : bits .or .u32 (P 0 + 32 * P 1) (P 2 * 512 % 4294967296) = P 0 + 32 * P 1 + 512 * P 2 := by rw [or_low 9 512 _ _ rfl (by omega) (by omega) (by omega) (by omega)]; omega
  have e4 : bits .or .u32 (P 0 + 32 * P 1 + 512 * P 2) (P 3 * 16384 % 4294967296) = P 0 + 32 * P 1 + 512 * P 2 + 16384 * P 3 := by rw [or_low 14 16384 _ _ rfl (by omega) (by omega) (by omega) (by omega)]; omega
  rw [e, e1, e2, e3, e4]
theorem and_mask (i : Nat) (m p v : Int) (hm : (2 : Int) ^ i - 1 = m) (hp : (2 : Int) ^ i = p) (hl : p ≤ 4294967296) (hv : 0 ≤ v ∧ v < 4294967296) : bits .and .u32 v m = v % p := by
  obtain ⟨a, rfl⟩ : ∃ a : Nat, v = a := ⟨v.toNat, by omega⟩
  have h2 : ((2 ^ i : Nat) : Int) = p := by rw [← hp]; simp
  have h1 : 1 ≤ 2 ^ i := Nat.one_le_two_pow
  have h3 : m = ((2 ^ i - 1 : Nat) : Int) := by omega
  rw [h3, u32_and_nat a _ (by omega) (by omega), Nat.and_two_pow_sub_one_eq_mod, ← h2, Int.natCast_emod]
theorem sQ_0 {v : Int} (h : 0 ≤ v ∧ v < 4294967296) : sQ v [0, 1, 2, 3] 0 = v % 32 := by
  have e : sQ v [0, 1, 2, 3] 0 = bits .and .u32 v 31 % 256 := rfl
  rw [e, and_mask 5 31 32 _ rfl rfl (by omega) h]; omega
theorem sQ_1 {v : Int} (h : 0 ≤ v ∧ v < 4294967296) : sQ v [0, 1, 2, 3] 1 = v / 32 % 16 := by
  have e : sQ v [0, 1, 2, 3] 1 = bits .and .u32 (v / 32) 15 % 256 := rfl
  rw [e, and_mask 4 15 16 _ rfl rfl (by omega) (by omega)]; omega
theorem sQ_2 {v : Int} (h : 0 ≤ v ∧ v < 4294967296) : sQ v [0, 1, 2, 3] 2 = v / 512 % 32 := by
  have e : sQ v [0, 1, 2, 3] 2 = bits .and .u32 (v / 32 / 16) 31 % 256 := rfl
  rw [e, and_mask 5 31 32 _ rfl rfl (by omega) (by omega)]; omega
theorem sQ_3 {v : Int} (h : 0 ≤ v ∧ v < 4294967296) : sQ v [0, 1, 2, 3] 3 = v / 16384 % 16 := by
  have e : sQ v [0, 1, 2, 3] 3 = bits .and .u32 (v / 32 / 16 / 32) 15 % 256 := rfl
  rw [e, and_mask 4 15 16 _ rfl rfl (by omega) (by omega)]; omega
end Go.Proofs.YtoecanjhkbeemaaGreatDoor.P4
