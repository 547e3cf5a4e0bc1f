/- What layer 5's statements want of package mem, as one bundle of contracts: 'At w v g n f' says that in world w the value v is a memory of n bytes, byte i being f i, which lie in block g. -/
import Derived.Test.YtbjnnlemgfbgnaaMemRef
import Derived.Deep.RegionHeld3
namespace Go.Proofs.Ytbjnnlemgfbgnaa
open Go.RowKit
set_option linter.unusedVariables false
/-- What a load says: the word or byte, or 0 with an error. -/
def ldV (n : Nat) (f : Nat → Int) (a m : Int) : Int := if thE n a m = 0 then ldB f a.toNat m.toNat else 0
structure MemC where
  At : World → Value → Nat → Nat → (Nat → Int) → Prop
  bel : ∀ {w w' : World} {v : Value} {g n : Nat} {f : Nat → Int}, At w v g n f → Below w.heap.size w w' → At w' v g n f
  only : ∀ {w w' : World} {v v' : Value} {g g' n n' : Nat} {f f' : Nat → Int}, At w v g n f → At w v' g' n' f' → g ≠ g' → w.grownBy w' (some g') → At w' v g n f
  lt : ∀ {w : World} {v : Value} {g n : Nat} {f : Nat → Int}, At w v g n f → g < w.heap.size
  bytes : ∀ {w : World} {v : Value} {g n : Nat} {f : Nat → Int}, At w v g n f → Bytes f
  size : ∀ {w : World} {v : Value} {g n : Nat} {f : Nat → Int}, At w v g n f → n ≤ 4194304
  ptr : ∀ {w : World} {v : Value} {g n : Nat} {f : Nat → Int}, At w v g n f → ∃ a, v = .pointer (some a)
  congr : ∀ {w : World} {v : Value} {g n : Nat} {f f' : Nat → Int}, At w v g n f → (∀ i, f i = f' i) → At w v g n f'
  new_yes : ∀ (n : Nat) (w : World), MaySize n → Calls Try.prog 8 #[.int .i64 n] w fun e w' => ∃ v g, e = .returned (.tuple #[v, .int .i64 0]) ∧ At w' v g n (fun _ => 0) ∧ w.heap.size ≤ g ∧ Below w.heap.size w w'
  new_no : ∀ (n : Int) (w : World), -9223372036854775808 ≤ n ∧ n ≤ 9223372036854775807 → ¬ MaySize n → Calls Try.prog 8 #[.int .i64 n] w fun e w' => e = .returned (.tuple #[.pointer none, .int .i64 2]) ∧ Below w.heap.size w w'
  load : ∀ {w : World} {v : Value} {g n : Nat} {f : Nat → Int} (a m : Int), At w v g n f → 0 ≤ a ∧ a < 4294967296 → -9223372036854775808 ≤ m ∧ m ≤ 9223372036854775807 →
    Calls Try.prog 20 #[v, .int .u32 a, .int .i64 m] w fun e w' => e = .returned (.tuple #[.int .u32 (ldV n f a m), .int .i64 (thE n a m)]) ∧ Below w.heap.size w w'
  store_yes : ∀ {w : World} {v : Value} {g n : Nat} {f : Nat → Int} (a m : Nat) (x : Int), At w v g n f → 0 ≤ x ∧ x < 4294967296 → thE n a m = 0 →
    Calls Try.prog 14 #[v, .int .u32 a, .int .i64 m, .int .u32 x] w fun e w' => e = .returned (.int .i64 0) ∧ At w' v g n (stB f a m x) ∧ w.grownBy w' (some g)
  store_no : ∀ {w : World} {v : Value} {g n : Nat} {f : Nat → Int} (a m x : Int), At w v g n f → 0 ≤ a ∧ a < 4294967296 → -9223372036854775808 ≤ m ∧ m ≤ 9223372036854775807 → 0 ≤ x ∧ x < 4294967296 → thE n a m ≠ 0 →
    Calls Try.prog 14 #[v, .int .u32 a, .int .i64 m, .int .u32 x] w fun e w' => e = .returned (.int .i64 (thE n a m)) ∧ Below w.heap.size w w'
  put_yes : ∀ {w : World} {v t : Value} {g n l : Nat} {f h : Nat → Int} (a : Nat), At w v g n f → Sl .u32 w t l h → (∀ i, 0 ≤ h i ∧ h i < 4294967296) → spE n a l = 0 →
    Calls Try.prog 16 #[v, .int .u32 a, t] w fun e w' => e = .returned (.int .i64 0) ∧ At w' v g n (ptB f a h l) ∧ w.grownBy w' (some g)
  put_no : ∀ {w : World} {v t : Value} {g n l : Nat} {f h : Nat → Int} (a : Int), At w v g n f → Sl .u32 w t l h → 0 ≤ a ∧ a < 4294967296 → (l : Int) ≤ 9223372036854775807 → spE n a l ≠ 0 →
    Calls Try.prog 16 #[v, .int .u32 a, t] w fun e w' => e = .returned (.int .i64 (spE n a l)) ∧ Below w.heap.size w w'
  words_yes : ∀ {w : World} {v : Value} {g n : Nat} {f : Nat → Int} (a m : Nat), At w v g n f → spE n a m = 0 →
    Calls Try.prog 17 #[v, .int .u32 a, .int .i64 m] w fun e w' => ∃ s, e = .returned (.tuple #[s, .int .i64 0]) ∧ Sl .u32 w' s m (wdB f a) ∧ Below w.heap.size w w'
  words_no : ∀ {w : World} {v : Value} {g n : Nat} {f : Nat → Int} (a m : Int), At w v g n f → 0 ≤ a ∧ a < 4294967296 → -9223372036854775808 ≤ m ∧ m ≤ 9223372036854775807 → spE n a m ≠ 0 →
    Calls Try.prog 17 #[v, .int .u32 a, .int .i64 m] w fun e w' => ∃ s, e = .returned (.tuple #[s, .int .i64 (spE n a m)]) ∧ Sl .u32 w' s 0 (fun _ => 0) ∧ Below w.heap.size w w'
  size_at : ∀ {w : World} {v : Value} {g n : Nat} {f : Nat → Int}, At w v g n f → Calls Try.prog 11 #[v] w fun e w' => e = .returned (.int .i64 n) ∧ Below w.heap.size w w'
  copy : ∀ {w : World} {v : Value} {g n : Nat} {f : Nat → Int}, At w v g n f → Calls Try.prog 12 #[v] w fun e w' => ∃ v' g', e = .returned v' ∧ At w' v' g' n f ∧ w.heap.size ≤ g' ∧ Below w.heap.size w w'
/-! Two rows of words that are the same. -/
set_option maxHeartbeats 1000000 in
theorem words_same (s t : Value) (m : Nat) (f g : Nat → Int) (w : World) (hm : m ≤ 4194304) (h1 : Sl .u32 w s m f) (h2 : Sl .u32 w t m g) (he : ∀ i, i < m → f i = g i) :
    Calls Try.prog 19 #[s, t] w fun e w' => e = .returned (.bool true) ∧ Below w.heap.size w w' := by
  obtain ⟨p, c, rfl, h1⟩ := h1
  obtain ⟨q, d, rfl, h2⟩ := h2
  have H1 := Lib.hid h1
  have H2 := Lib.hid h2
  have HE := Lib.hid he
  clear h1 h2 he
  go_enter Try.func19, Try.ntmps19
  go_wp2
  go_loopw [5] (fun i wr => ∃ k : Nat, k ≤ m ∧ i = .int .i64 k ∧ Below w.heap.size w wr) (fun i _ => m - (intOf i).toNat)
  case atStart => exact ⟨0, by omega, rfl, Below.refl _ _⟩
  case round =>
    obtain ⟨k, hk, rfl, hg⟩ := hrel
    by_cases hlt : k < m
    · obtain ⟨a, o, rfl, ha⟩ := H1.out (by omega)
      obtain ⟨b, r, rfl, hb⟩ := H2.out (by omega)
      have ca := bel_cell hg (ha k hlt)
      have cb := bel_cell hg (hb k hlt)
      rw [← HE.out k hlt] at cb
      have hk32 : k < 4194304 := by omega
      clear ha hb H1 H2
      go_wp2
      go_quiet (fail)
      go_wp2
      go_roundw
      case rel => exact ⟨k + 1, by omega, by go_num, bel_drewN hg _⟩
      case measure => simp [intOf]; omega
    · obtain rfl : k = m := by omega
      go_wp2
      go_ret
      exact ⟨rfl, hg⟩
theorem thE_byte {n k : Nat} (h : k < n) : thE n k 1 = 0 := by unfold thE; rw [if_neg (by omega), if_neg (by omega), if_neg (by omega)]
theorem ldV_byte {n k : Nat} (f : Nat → Int) (h : k < n) : ldV n f k 1 = f k := by
  unfold ldV; rw [if_pos (thE_byte h)]; simp [ldB]
theorem load_byte (M : MemC) {v : Value} {g n : Nat} {f : Nat → Int} {w : World} (hA : M.At w v g n f) {k : Nat} (hk : k < n) (W : World) (hW : Below w.heap.size w W) :
    Calls Try.prog 20 #[v, .int .u32 k, .int .i64 1] W fun e w' => e = .returned (.tuple #[.int .u32 (f k), .int .i64 0]) ∧ Below W.heap.size W w' := by
  have := M.size hA
  have h := M.load (k : Int) 1 (M.bel hA hW) (by omega) (by omega)
  rw [thE_byte hk, ldV_byte f hk] at h
  exact h
/-- A memory has the document's bytes. -/
theorem same_at (M : MemC) (v q : Value) (g n : Nat) (f : Nat → Int) (w : World) (hA : M.At w v g n f) (hq : Sl .u8 w q n f) :
    Calls Try.prog 22 #[v, q] w fun e w' => e = .returned (.bool true) ∧ Below w.heap.size w w' := by
  obtain ⟨p, c, rfl, hq⟩ := hq
  have HQ := Lib.hid hq
  have HA := Lib.hid hA
  have hn := M.size hA
  have HB := Lib.hid (M.bytes hA)
  clear hq hA
  go_enter Try.func22, Try.ntmps22
  go_wp2_with fail
  go_loopw [5] (fun i wr => ∃ k : Nat, k ≤ n ∧ i = .int .i64 k ∧ Below w.heap.size w wr) (fun i _ => n - (intOf i).toNat)
  case atStart => exact ⟨0, by omega, rfl, Below.refl _ _⟩
  case round =>
    obtain ⟨k, hk, rfl, hx⟩ := hrel
    by_cases hlt : k < n
    · have HLd := Lib.hid (load_byte M HA.out hlt)
      obtain ⟨b, o, rfl, hc⟩ := HQ.out (by omega)
      have hcc : Hid (∀ W, Below wr.heap.size wr W → W.cell? ⟨b, o + k, none⟩ = some (.int .u8 (f k))) := fun W hW => bel_cell hW (bel_cell hx (hc k hlt))
      obtain ⟨f0, f1⟩ := HB.out k
      have hk32 : k < 4194304 := by omega
      clear hc HQ
      generalize f k = y at *
      go_wp2_with fail
      refine (HLd.out _ hx).mono ?_; rintro e w2 ⟨rfl, g2⟩
      have c2 := hcc.out _ g2
      have G2 := bel_trans hx g2
      clear hcc HLd g2 hx
      go_wp2_with fail
      go_roundw
      case rel => exact ⟨k + 1, by omega, by go_num, G2⟩
      case measure => simp [intOf]; omega
    · obtain rfl : k = n := by omega
      have HSz := Lib.hid (M.size_at (M.bel HA.out hx))
      go_wp2_with fail
      refine (HSz.out).mono ?_; rintro e w2 ⟨rfl, g2⟩
      go_wp2_with fail
      go_ret
      exact ⟨rfl, bel_trans hx g2⟩
end Go.Proofs.Ytbjnnlemgfbgnaa
