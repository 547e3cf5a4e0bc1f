/- Package mem as it has landed: where a memory lies, and what its inner functions come to (isObject, find, join, split, wordOf). -/
import Derived.Test.YtbjnnlemgfbgnaaMemC
namespace Go.Proofs.Ytbjnnlemgfbgnaa
open Go.RowKit
set_option linter.unusedVariables false
/-- A row of bytes. -/
def brow (f : Nat → Int) (n : Nat) : Array Value := (bsL .u8 f n).toArray
theorem brow_size (f : Nat → Int) (n : Nat) : (brow f n).size = n := by simp [brow, bsL_len]
theorem brow_get (f : Nat → Int) {n i : Nat} (h : i < n) : (brow f n)[i]? = some (.int .u8 (f i)) := by simpa [brow] using bsL_get .u8 f h
theorem brow_set (f : Nat → Int) (n j : Nat) (v : Int) : (brow f n).setIfInBounds j (.int .u8 v) = brow (updB f j v) n := by
  unfold brow
  rw [← bsL_set .u8 f n j v]
  simp
/-- In world w the block g holds n bytes, byte i being f i. -/
def RowAt (w : World) (g n : Nat) (f : Nat → Int) : Prop := w.heap[g]? = some (.cells (brow f n) 5 (0, 0))
theorem RowAt.cell {w : World} {g n : Nat} {f : Nat → Int} (h : RowAt w g n f) {i : Nat} (hi : i < n) : w.cell? ⟨g, i, none⟩ = some (.int .u8 (f i)) := row_cell h (brow_get f hi)
theorem RowAt.frozen {w : World} {g n : Nat} {f : Nat → Int} (h : RowAt w g n f) (i : Nat) : w.frozen? ⟨g, i, none⟩ = false := row_frozen h
theorem RowAt.bel {w w' : World} {g n : Nat} {f : Nat → Int} (h : RowAt w g n f) (k : Below w.heap.size w w') : RowAt w' g n f := bel_heap k h
theorem RowAt.set {w : World} {g n : Nat} {f : Nat → Int} (h : RowAt w g n f) (j : Nat) (v : Int) : RowAt (w.setCell ⟨g, j, none⟩ (.int .u8 v)) g n (updB f j v) := by
  have := heap_setCell_same w g j _ _ (.int .u8 v) h
  rw [brow_set] at this
  exact this
/-- In world w the value v is a memory of n bytes, byte i being f i, which lie in block g. -/
structure MemAt (w : World) (v : Value) (g n : Nat) (f : Nat → Int) : Prop where
  box : ∃ b, v = .pointer (some ⟨b, 0, none⟩) ∧ w.heap[b]? = some (.cells #[.slice (some ⟨g, 0, none⟩) n n] 55 (0, 0))
  row : RowAt w g n f
  bytes : Bytes f
  size : n ≤ 4194304
theorem heap_lt {w : World} {b : Nat} {o : Obj} (hb : w.heap[b]? = some o) : b < w.heap.size := by
  rcases Nat.lt_or_ge b w.heap.size with hh | hh
  · exact hh
  · rw [Array.getElem?_eq_none hh] at hb; cases hb
theorem MemAt.bel {w w' : World} {v : Value} {g n : Nat} {f : Nat → Int} (h : MemAt w v g n f) (k : Below w.heap.size w w') : MemAt w' v g n f := by
  obtain ⟨⟨b, rfl, hb⟩, hr, h3, h4⟩ := h
  exact ⟨⟨b, rfl, bel_heap k hb⟩, bel_heap k hr, h3, h4⟩
/-- A box and a row of bytes are not the same block. -/
theorem box_row {w : World} {b g n : Nat} {f : Nat → Int} {s : Value} (hb : w.heap[b]? = some (.cells #[s] 55 (0, 0))) (hr : RowAt w g n f) : b ≠ g := by
  rintro rfl
  unfold RowAt at hr
  rw [hb] at hr
  simp at hr
theorem MemAt.only {w w' : World} {v v' : Value} {g g' n n' : Nat} {f f' : Nat → Int} (h : MemAt w v g n f) (h' : MemAt w v' g' n' f') (hg : g ≠ g') (k : w.grownBy w' (some g')) : MemAt w' v g n f := by
  obtain ⟨⟨b, rfl, hb⟩, hr, h3, h4⟩ := h
  exact ⟨⟨b, rfl, only_heap k (box_row hb h'.row) hb⟩, only_heap k hg hr, h3, h4⟩
/-- What a store into a memory's own bytes leaves. -/
theorem MemAt.stored {w w' : World} {v : Value} {g n : Nat} {f f' : Nat → Int} (h : MemAt w v g n f) (k : w.grownBy w' (some g)) (hr : RowAt w' g n f') (hf : Bytes f') : MemAt w' v g n f' := by
  obtain ⟨⟨b, rfl, hb⟩, hr0, h3, h4⟩ := h
  exact ⟨⟨b, rfl, only_heap k (box_row hb hr0) hb⟩, hr, hf, h4⟩
/-- No memory: nil, or one that no call made. -/
def NoMem (w : World) (p : Option Addr) : Prop := p = none ∨ ∃ b, p = some ⟨b, 0, none⟩ ∧ w.cell? ⟨b, 0, none⟩ = some (.slice none 0 0)
theorem isObject_no (p : Option Addr) (w : World) (h : NoMem w p) : Calls Try.prog 23 #[.pointer p] w fun e w' => e = .returned (.bool false) ∧ w = w' := by
  rcases h with rfl | ⟨b, rfl, hc⟩
  · go_enter Try.func23, Try.ntmps23
    go_wp2
    go_ret
    exact ⟨rfl, rfl⟩
  · go_enter Try.func23, Try.ntmps23
    go_wp2
    go_ret
    exact ⟨rfl, rfl⟩
theorem isObject_yes (b g n : Nat) (w : World) (hc : w.cell? ⟨b, 0, none⟩ = some (.slice (some ⟨g, 0, none⟩) n n)) : Calls Try.prog 23 #[.pointer (some ⟨b, 0, none⟩)] w fun e w' => e = .returned (.bool true) ∧ w = w' := by
  go_enter Try.func23, Try.ntmps23
  go_wp2
  go_ret
  exact ⟨rfl, rfl⟩
theorem find_none (p : Option Addr) (a u k : Int) (w : World) (h : NoMem w p) : Calls Try.prog 25 #[.pointer p, .int .u32 a, .int .i64 u, .int .i64 k] w fun e w' => e = .returned (.tuple #[.slice none 0 0, .int .i64 1]) ∧ w = w' := by
  go_enter Try.func25, Try.ntmps25
  go_wp2_with fail
  refine (isObject_no _ _ h).mono ?_; rintro e w1 ⟨rfl, rfl⟩
  go_wp2_with fail
  go_ret2
  exact ⟨rfl, rfl⟩
/-- The error of an access to k units, each of u bytes, at a. -/
def fdE (n a u k : Int) : Int := if (u ≠ 1 ∧ u ≠ 4) ∨ k < 0 then 2 else if a % u ≠ 0 then 51 else if n < a ∨ (n - a) / u < k then 50 else 0
theorem fdE_th (n a m : Int) : fdE n a m 1 = thE n a m := by
  by_cases h : m ≠ 1 ∧ m ≠ 4
  · unfold fdE thE
    rw [if_pos (.inl h), if_pos h]
  · rcases (by omega : m = 1 ∨ m = 4) with rfl | rfl
    · unfold fdE thE
      repeat' split
      all_goals omega
    · unfold fdE thE
      repeat' split
      all_goals omega
theorem fdE_sp (n a k : Int) : fdE n a 4 k = spE n a k := by
  unfold fdE spE
  by_cases h : k < 0
  · rw [if_pos (.inr h), if_pos h]
  · rw [if_neg (by omega), if_neg h]
set_option maxHeartbeats 1000000 in
theorem find_no (b g n : Nat) (a u k : Int) (w : World) (hc : w.cell? ⟨b, 0, none⟩ = some (.slice (some ⟨g, 0, none⟩) n n)) (hn : n ≤ 4194304) (ha : 0 ≤ a ∧ a < 4294967296) (h : fdE n a u k ≠ 0) :
    Calls Try.prog 25 #[.pointer (some ⟨b, 0, none⟩), .int .u32 a, .int .i64 u, .int .i64 k] w fun e w' => e = .returned (.tuple #[.slice none 0 0, .int .i64 (fdE n a u k)]) ∧ w = w' := by
  obtain ⟨ha0, ha1⟩ := ha
  have HO := Lib.hid (fun W hW => isObject_yes b g n W hW)
  by_cases hu : u ≠ 1 ∧ u ≠ 4
  · have e : fdE n a u k = 2 := by unfold fdE; rw [if_pos (.inl hu)]
    rw [e]
    have h1' : (u != 1) = true := by simpa using hu.1
    have h4' : (u != 4) = true := by simpa using hu.2
    clear hu h e
    go_enter Try.func25, Try.ntmps25
    go_wp2_with fail
    refine (HO.out _ hc).mono ?_; rintro e w1 ⟨rfl, rfl⟩
    go_wp2_with fail
    go_ret2
    exact ⟨rfl, rfl⟩
  have hu' : u = 1 ∨ u = 4 := by omega
  clear hu
  by_cases hk : k < 0
  · have e : fdE n a u k = 2 := by unfold fdE; rw [if_pos (.inr hk)]
    rw [e]
    clear h e
    rcases hu' with rfl | rfl
    · go_enter Try.func25, Try.ntmps25
      go_wp2_with fail
      refine (HO.out _ hc).mono ?_; rintro e w1 ⟨rfl, rfl⟩
      go_wp2_with fail
      go_ret2
      exact ⟨rfl, rfl⟩
    · go_enter Try.func25, Try.ntmps25
      go_wp2_with fail
      refine (HO.out _ hc).mono ?_; rintro e w1 ⟨rfl, rfl⟩
      go_wp2_with fail
      go_ret2
      exact ⟨rfl, rfl⟩
  have hk0 : 0 ≤ k := by omega
  rcases hu' with rfl | rfl
  · have hr : (n : Int) < a ∨ ((n : Int) - a) < k := by
      unfold fdE at h
      rw [if_neg (by omega), if_neg (by omega)] at h
      by_cases hh : (n : Int) < a ∨ ((n : Int) - a) < k
      · exact hh
      · rw [if_neg (by omega)] at h; exact absurd rfl h
    have e : fdE n a 1 k = 50 := by unfold fdE; rw [if_neg (by omega), if_neg (by omega), if_pos (by omega)]
    rw [e]
    clear h e
    by_cases h1 : (n : Int) < a
    · clear hr
      go_enter Try.func25, Try.ntmps25
      go_wp2_with fail
      refine (HO.out _ hc).mono ?_; rintro e w1 ⟨rfl, rfl⟩
      go_wp2_with fail
      go_ret2
      exact ⟨rfl, rfl⟩
    · have h2 : (n : Int) - a < k := by omega
      clear hr
      go_enter Try.func25, Try.ntmps25
      go_wp2_with fail
      refine (HO.out _ hc).mono ?_; rintro e w1 ⟨rfl, rfl⟩
      go_wp2_with fail
      go_ret2
      exact ⟨rfl, rfl⟩
  · by_cases h3 : a % 4 = 0
    · have hr : (n : Int) < a ∨ ((n : Int) - a) / 4 < k := by
        unfold fdE at h
        rw [if_neg (by omega), if_neg (by omega)] at h
        by_cases hh : (n : Int) < a ∨ ((n : Int) - a) / 4 < k
        · exact hh
        · rw [if_neg hh] at h; exact absurd rfl h
      have e : fdE n a 4 k = 50 := by unfold fdE; rw [if_neg (by omega), if_neg (by omega), if_pos hr]
      rw [e]
      have h3' : (a % 4 != 0) = false := by simpa using h3
      clear h e h3
      by_cases h1 : (n : Int) < a
      · clear hr
        go_enter Try.func25, Try.ntmps25
        go_wp2_with fail
        refine (HO.out _ hc).mono ?_; rintro e w1 ⟨rfl, rfl⟩
        go_wp2_with fail
        go_ret2
        exact ⟨rfl, rfl⟩
      · have h2 : ((n : Int) - a) / 4 < k := by omega
        clear hr
        go_enter Try.func25, Try.ntmps25
        go_wp2_with fail
        refine (HO.out _ hc).mono ?_; rintro e w1 ⟨rfl, rfl⟩
        go_wp2_with fail
        go_ret2
        exact ⟨rfl, rfl⟩
    · have e : fdE n a 4 k = 51 := by unfold fdE; rw [if_neg (by omega), if_pos h3]
      rw [e]
      have h3' : (a % 4 != 0) = true := by simpa using h3
      clear h e h3
      go_enter Try.func25, Try.ntmps25
      go_wp2_with fail
      refine (HO.out _ hc).mono ?_; rintro e w1 ⟨rfl, rfl⟩
      go_wp2_with fail
      go_ret2
      exact ⟨rfl, rfl⟩
/-- The place of k bytes at a. -/
theorem find_bytes (b g n : Nat) (a k : Int) (w : World) (hc : w.cell? ⟨b, 0, none⟩ = some (.slice (some ⟨g, 0, none⟩) n n)) (hn : n ≤ 4194304) (ha : 0 ≤ a) (hk : 0 ≤ k) (hak : a + k ≤ n) :
    Calls Try.prog 25 #[.pointer (some ⟨b, 0, none⟩), .int .u32 a, .int .i64 1, .int .i64 k] w fun e w' => (∃ p, e = .returned (.tuple #[.slice p k.toNat k.toNat, .int .i64 0]) ∧ (0 < k → p = some ⟨g, a.toNat, none⟩)) ∧ w = w' := by
  have HO := Lib.hid (fun W hW => isObject_yes b g n W hW)
  have h1 : ¬ (n : Int) < a := by omega
  have h2 : ¬ (n : Int) - a < k := by omega
  have h3 : a < 4294967296 := by omega
  have h4 : k ≤ 4194304 := by omega
  go_enter Try.func25, Try.ntmps25
  go_wp2_with fail
  refine (HO.out _ hc).mono ?_; rintro e w1 ⟨rfl, rfl⟩
  go_wp2_with fail
  · go_ret2
    exact ⟨⟨some ⟨g, 0, none⟩, by rw [show k.toNat = 0 by omega]; rfl, fun hh => by omega⟩, rfl⟩
  · go_ret2
    exact ⟨⟨some ⟨g, a.toNat, none⟩, by rw [show (a + k).toNat - a.toNat = k.toNat by omega]; rfl, fun _ => rfl⟩, rfl⟩
/-- The place of k words at a. -/
theorem find_words (b g n : Nat) (a k : Int) (w : World) (hc : w.cell? ⟨b, 0, none⟩ = some (.slice (some ⟨g, 0, none⟩) n n)) (hn : n ≤ 4194304) (ha : 0 ≤ a) (ha4 : a % 4 = 0) (hk : 0 ≤ k) (hak : a + k * 4 ≤ n) :
    Calls Try.prog 25 #[.pointer (some ⟨b, 0, none⟩), .int .u32 a, .int .i64 4, .int .i64 k] w fun e w' => (∃ p, e = .returned (.tuple #[.slice p (k * 4).toNat (k * 4).toNat, .int .i64 0]) ∧ (0 < k → p = some ⟨g, a.toNat, none⟩)) ∧ w = w' := by
  have HO := Lib.hid (fun W hW => isObject_yes b g n W hW)
  have h1 : ¬ (n : Int) < a := by omega
  have h2 : ¬ ((n : Int) - a) / 4 < k := by omega
  have h3 : a < 4294967296 := by omega
  have h4 : k ≤ 4194304 := by omega
  have h3' : (a % 4 != 0) = false := by simpa using ha4
  clear ha4
  go_enter Try.func25, Try.ntmps25
  go_wp2_with fail
  refine (HO.out _ hc).mono ?_; rintro e w1 ⟨rfl, rfl⟩
  go_wp2_with fail
  · go_ret2
    exact ⟨⟨some ⟨g, 0, none⟩, by rw [show (k * 4).toNat = 0 by omega]; rfl, fun hh => by omega⟩, rfl⟩
  · go_ret2
    exact ⟨⟨some ⟨g, a.toNat, none⟩, by rw [show (a + k * 4).toNat - a.toNat = (k * 4).toNat by omega]; rfl, fun _ => rfl⟩, rfl⟩
theorem or_byte (x y : Int) (hx : 0 ≤ x ∧ x < 16777216) (hy : 0 ≤ y ∧ y < 256) : bits .or .u32 (x * 256) y = 256 * x + y := by
  obtain ⟨a, rfl⟩ := Int.eq_ofNat_of_zero_le hx.1
  obtain ⟨c, rfl⟩ := Int.eq_ofNat_of_zero_le hy.1
  have h1 : (a : Int) * 256 = ((a * 256 : Nat) : Int) := by simp
  rw [h1, u32_or_nat (a * 256) c (by omega) (by omega)]
  have h2 : a * 256 ||| c = a * 256 + c := by
    have := Nat.shiftLeft_add_eq_or_of_lt (b := c) (i := 8) (by omega) a
    rw [Nat.shiftLeft_eq] at this
    exact this.symm
  rw [h2]
  omega
/-- The bytes of the word with the index i. -/
theorem wordOf_at (g a m c : Nat) (i : Int) (w : World) (hi : 0 ≤ i) (him : i * 4 + 4 ≤ m) (hc : m ≤ c) (hm : c ≤ 4194304) :
    Calls Try.prog 28 #[.slice (some ⟨g, a, none⟩) m c, .int .i64 i] w fun e w' => (∃ c', e = .returned (.slice (some ⟨g, a + (i * 4).toNat, none⟩) 4 c')) ∧ w = w' := by
  have h1 : i ≤ 4194304 := by omega
  go_enter Try.func28, Try.ntmps28
  go_wp2_with fail
  go_ret
  exact ⟨⟨4, by rw [show (i * 4 + 4).toNat - (i * 4).toNat = 4 by omega]; rfl⟩, rfl⟩
/-- What bytes one behind the other say. -/
theorem join_at (g a m c n : Nat) (f : Nat → Int) (w : World) (hr : RowAt w g n f) (hf : Bytes f) (hm : m ≤ 4) (ham : a + m ≤ n) (hn : n ≤ 4194304) :
    Calls Try.prog 29 #[.slice (some ⟨g, a, none⟩) m c] w fun e w' => e = .returned (.int .u32 (ldB f a m)) ∧ Below w.heap.size w w' := by
  have HR := Lib.hid hr
  have HF := Lib.hid hf
  have HL := Lib.hid (ldB_in hf a)
  clear hr hf
  go_enter Try.func29, Try.ntmps29
  go_wp2_with fail
  go_loop [3, 7] (fun v i => ∃ k : Nat, k ≤ m ∧ i = .int .i64 k ∧ v = .int .u32 (ldB f a k)) (fun _ i => m - (intOf i).toNat)
  case atStart => exact ⟨0, by omega, rfl, rfl⟩
  case round =>
    obtain ⟨k, hk, rfl, rfl⟩ := hrel
    by_cases hlt : k < m
    · have hc := HR.out.cell (i := a + k) (by omega)
      obtain ⟨f0, f1⟩ := HF.out (a + k)
      obtain ⟨l0, l1⟩ := ldB_small HL.out (k := k) (by omega)
      have hs : Hid (256 * ldB f a k + f (a + k) = ldB f a (k + 1)) := rfl
      have hk4 : (k : Int) < 4 := by omega
      generalize ldB f a k = x at *
      generalize f (a + k) = y at *
      have hb : 256 * x + y < 4294967296 := by omega
      go_wp2_with fail
      go_round
      case rel => exact ⟨k + 1, by omega, by go_num, by rw [or_byte x y ⟨l0, l1⟩ ⟨f0, f1⟩, ← hs.out]⟩
      case measure => simp [intOf]; omega
    · obtain rfl : k = m := by omega
      go_wp2_with fail
      go_ret
      exact ⟨rfl, Below.refl _ _⟩
/-- What the bytes of a number, laid one behind the other, leave. -/
theorem split_at (g a m c n : Nat) (f : Nat → Int) (v : Int) (w : World) (hr : RowAt w g n f) (hm : m = 1 ∨ m = 4) (ham : a + m ≤ n) (hn : n ≤ 4194304) (hv : 0 ≤ v ∧ v < 4294967296) :
    Calls Try.prog 26 #[.slice (some ⟨g, a, none⟩) m c, .int .u32 v] w fun e w' => e = .returned (.tuple #[]) ∧ RowAt w' g n (stB f a m v) ∧ w.grownBy w' (some g) := by
  have HR := Lib.hid hr
  obtain ⟨hv0, hv1⟩ := hv
  clear hr
  go_enter Try.func26, Try.ntmps26
  go_wp2_with fail
  go_loopw [1, 7] (fun x i wr => ∃ t : Nat, t ≤ m ∧ i = .int .i64 t ∧ x = .int .u32 (v / 256 ^ t) ∧ RowAt wr g n (stT f a m v t) ∧ w.grownBy wr (some g)) (fun _ i _ => m - (intOf i).toNat)
  case atStart => exact ⟨0, by omega, rfl, by simp, by rw [stT_zero]; exact HR.out, ⟨rfl, rfl, rfl, Nat.le_refl _, fun _ _ _ => rfl⟩⟩
  case round =>
    clear HR
    obtain ⟨t, ht, rfl, rfl, hrow, hg⟩ := hrel
    obtain ⟨x0, x1⟩ := div_pow_in hv0 hv1 t
    by_cases hlt : t < m
    · have hs1 := stT_succ f a m v hlt
      have HQ : Hid (v / 256 ^ t / 256 = v / 256 ^ (t + 1)) := div_pow_succ v t
      obtain ⟨i, hi1⟩ : ∃ i : Nat, m - 1 - t = i := ⟨_, rfl⟩
      rw [hi1] at hs1
      have hc := hrow.cell (i := a + i) (by omega)
      have hfz := hrow.frozen (a + i)
      have R1 := hrow.set (a + i) (v / 256 ^ t % 256)
      rw [hs1] at R1
      have RR := Lib.hid R1
      have GG := Lib.hid (only_cell hg (a + i) (.int .u8 (v / 256 ^ t % 256)))
      clear R1 hrow hg hs1
      generalize v / 256 ^ t = x at *
      rcases hm with rfl | rfl
      · obtain rfl : t = 0 := by omega
        obtain rfl : i = 0 := by omega
        simp only [Nat.add_zero] at hc hfz RR GG
        go_wp2_with fail
        go_roundw
        case rel => exact ⟨1, by omega, by go_num, by rw [← HQ.out], RR.out, GG.out⟩
        case measure => simp [intOf]
      · rcases (by omega : t = 0 ∨ t = 1 ∨ t = 2 ∨ t = 3) with rfl | rfl | rfl | rfl
        · obtain rfl : i = 3 := by omega
          go_wp2_with fail
          go_roundw
          case rel => exact ⟨1, by omega, by go_num, by rw [← HQ.out], RR.out, GG.out⟩
          case measure => simp [intOf]
        · obtain rfl : i = 2 := by omega
          go_wp2_with fail
          go_roundw
          case rel => exact ⟨2, by omega, by go_num, by rw [← HQ.out], RR.out, GG.out⟩
          case measure => simp [intOf]
        · obtain rfl : i = 1 := by omega
          go_wp2_with fail
          go_roundw
          case rel => exact ⟨3, by omega, by go_num, by rw [← HQ.out], RR.out, GG.out⟩
          case measure => simp [intOf]
        · obtain rfl : i = 0 := by omega
          simp only [Nat.add_zero] at hc hfz RR GG
          go_wp2_with fail
          go_roundw
          case rel => exact ⟨4, by omega, by go_num, by rw [← HQ.out], RR.out, GG.out⟩
          case measure => simp [intOf]
    · obtain rfl : t = m := by omega
      rw [stT_all] at hrow
      go_wp2_with fail
      go_end0
      exact ⟨rfl, hrow, hg⟩
end Go.Proofs.Ytbjnnlemgfbgnaa
