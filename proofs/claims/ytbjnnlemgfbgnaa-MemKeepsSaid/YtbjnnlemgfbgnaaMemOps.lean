/- Package mem as it has landed: New, Load, Store, Put, Words, Size, Copy, of any memory and of none; and all of it as one term of MemC. -/
import Derived.Test.YtbjnnlemgfbgnaaMemIs
import Derived.Laws.CopyOwn
import Derived.Great.BuildSlice
import Derived.Deep.RegionLaw
import Derived.Deep.OwnRows
namespace Go.Proofs.Ytbjnnlemgfbgnaa
open Go.RowKit
set_option linter.unusedVariables false
theorem made_bytes (n : Nat) : madeCells #[.int .u8 0] n = brow (fun _ => 0) n := by
  apply Array.ext
  · rw [size_madeCells, brow_size]
  · intro i h1 h2
    simp [madeCells, brow, bsL, Nat.mod_one]
theorem made_words (n : Nat) : madeCells #[.int .u32 0] n = (bsL .u32 (fun _ => 0) n).toArray := by
  apply Array.ext
  · rw [size_madeCells]; simp [bsL_len]
  · intro i h1 h2
    simp [madeCells, bsL, Nat.mod_one]
theorem u32_parts' : (Try.prog.info? 31).map (fun i => (i.zero, i.size, i.bytes)) = some (some (.int .u32 0), 1, 4) := by kernel_rfl
theorem bytes_zero : Bytes fun _ => 0 := fun _ => ⟨Int.le_refl _, by show (0 : Int) < 256; decide⟩
theorem born_bel (w : World) (o : Obj) : Below w.heap.size w (w.alloc o) := (Below.refl _ _).alloc (Nat.le_refl _) _
/-- New that makes a memory. -/
theorem new_yes (n : Nat) (w : World) (h : MaySize n) : Calls Try.prog 8 #[.int .i64 n] w fun e w' => ∃ v g, e = .returned (.tuple #[v, .int .i64 0]) ∧ MemAt w' v g n (fun _ => 0) ∧ w.heap.size ≤ g ∧ Below w.heap.size w w' := by
  obtain ⟨h0, h1, h2⟩ := h
  have h3 : (Int.tmod (n : Int) 4 != 0) = false := by rw [Int.tmod_eq_emod_of_nonneg h0, h2]; rfl
  have hmk := run_make_row' (P := Try.prog) 30 5 (.int .u8 0) 1 Try.underlying30 byte_parts rfl .i64 .i64 n (by omega) (by omega) w
  rw [made_bytes] at hmk
  have hr : RowAt (w.alloc (.cells (brow (fun _ => 0) n) 5)) w.heap.size n (fun _ => 0) := heap_alloc_last _ _
  have G := born_bel w (.cells (brow (fun _ => 0) n) 5)
  have hmx : (n : Int) ≤ 4194304 := h1
  have hm4 : ((n : Int) % 4 != 0) = false := by simpa using h2
  generalize brow (fun _ => 0) n = B at *
  clear h2
  go_enter Try.func8, Try.ntmps8
  go_wp2_with fail
  have hs : (w.alloc (.cells B 5)).heap.size = w.heap.size + 1 := by simp
  have G2 := (born_bel (w.alloc (.cells B 5)) (.cells #[.slice (some ⟨w.heap.size, 0, none⟩) n n] 55))
  go_ret2
  exact ⟨_, _, rfl, ⟨⟨w.heap.size + 1, rfl, row_born hs⟩, hr.bel G2, bytes_zero, by omega⟩, Nat.le_refl _, bel_trans G G2⟩
theorem new_no (n : Int) (w : World) (h : ¬ MaySize n) : Calls Try.prog 8 #[.int .i64 n] w fun e w' => e = .returned (.tuple #[.pointer none, .int .i64 2]) ∧ Below w.heap.size w w' := by
  unfold MaySize at h
  by_cases h0 : 0 ≤ n
  · by_cases h1 : n ≤ 4194304
    · have h2 : (n % 4 != 0) = true := by simp; omega
      clear h
      go_enter Try.func8, Try.ntmps8
      go_wp2
      go_ret2
      exact ⟨rfl, Below.refl _ _⟩
    · clear h
      go_enter Try.func8, Try.ntmps8
      go_wp2
      go_ret2
      exact ⟨rfl, Below.refl _ _⟩
  · clear h
    go_enter Try.func8, Try.ntmps8
    go_wp2
    go_ret2
    exact ⟨rfl, Below.refl _ _⟩
/-! No memory. -/
theorem load_none (p : Option Addr) (a m : Int) (w : World) (h : NoMem w p) : Calls Try.prog 20 #[.pointer p, .int .u32 a, .int .i64 m] w fun e w' => e = .returned (.tuple #[.int .u32 0, .int .i64 1]) ∧ w = w' := by
  go_enter Try.func20, Try.ntmps20
  go_wp2_with fail
  refine (find_none _ _ _ _ _ h).mono ?_; rintro e w1 ⟨rfl, rfl⟩
  go_wp2_with fail
  go_ret2
  exact ⟨rfl, rfl⟩
theorem store_none (p : Option Addr) (a m x : Int) (w : World) (h : NoMem w p) : Calls Try.prog 14 #[.pointer p, .int .u32 a, .int .i64 m, .int .u32 x] w fun e w' => e = .returned (.int .i64 1) ∧ w = w' := by
  go_enter Try.func14, Try.ntmps14
  go_wp2_with fail
  refine (find_none _ _ _ _ _ h).mono ?_; rintro e w1 ⟨rfl, rfl⟩
  go_wp2_with fail
  go_ret
  exact ⟨rfl, rfl⟩
theorem put_none (p q : Option Addr) (a : Int) (m c : Nat) (w : World) (h : NoMem w p) : Calls Try.prog 16 #[.pointer p, .int .u32 a, .slice q m c] w fun e w' => e = .returned (.int .i64 1) ∧ w = w' := by
  go_enter Try.func16, Try.ntmps16
  go_wp2_with fail
  refine (find_none _ _ _ _ _ h).mono ?_; rintro e w1 ⟨rfl, rfl⟩
  go_wp2_with fail
  go_ret
  exact ⟨rfl, rfl⟩
theorem words_none (p : Option Addr) (a m : Int) (w : World) (h : NoMem w p) : Calls Try.prog 17 #[.pointer p, .int .u32 a, .int .i64 m] w fun e w' => e = .returned (.tuple #[.slice none 0 0, .int .i64 1]) ∧ w = w' := by
  go_enter Try.func17, Try.ntmps17
  go_wp2_with fail
  refine (find_none _ _ _ _ _ h).mono ?_; rintro e w1 ⟨rfl, rfl⟩
  go_wp2_with fail
  go_ret2
  exact ⟨rfl, rfl⟩
theorem size_none (p : Option Addr) (w : World) (h : NoMem w p) : Calls Try.prog 11 #[.pointer p] w fun e w' => e = .returned (.int .i64 0) ∧ w = w' := by
  go_enter Try.func11, Try.ntmps11
  go_wp2_with fail
  refine (isObject_no _ _ h).mono ?_; rintro e w1 ⟨rfl, rfl⟩
  go_wp2_with fail
  go_ret
  exact ⟨rfl, rfl⟩
theorem copy_none (p : Option Addr) (w : World) (h : NoMem w p) : Calls Try.prog 12 #[.pointer p] w fun e w' => e = .returned (.pointer none) ∧ w = w' := by
  go_enter Try.func12, Try.ntmps12
  go_wp2_with fail
  refine (isObject_no _ _ h).mono ?_; rintro e w1 ⟨rfl, rfl⟩
  go_wp2_with fail
  go_ret
  exact ⟨rfl, rfl⟩
/-! A memory. -/
theorem thE_al {n a m : Int} (h : thE n a m = 0) : m = 4 → a % 4 = 0 := fun hh => by
  subst hh
  unfold thE at h
  repeat (split at h <;> try omega)
theorem load_at {w : World} {v : Value} {g n : Nat} {f : Nat → Int} (a m : Int) (hA : MemAt w v g n f) (ha : 0 ≤ a ∧ a < 4294967296) :
    Calls Try.prog 20 #[v, .int .u32 a, .int .i64 m] w fun e w' => e = .returned (.tuple #[.int .u32 (ldV n f a m), .int .i64 (thE n a m)]) ∧ Below w.heap.size w w' := by
  obtain ⟨⟨b, rfl, hb⟩, hr, hf, hn⟩ := hA
  have hc : w.cell? ⟨b, 0, none⟩ = some (.slice (some ⟨g, 0, none⟩) n n) := row_cell hb rfl
  obtain ⟨ha0, ha1⟩ := ha
  by_cases h : thE n a m = 0
  · have hm := thE_ok h
    obtain ⟨hm1, ham⟩ := hm
    have hal : m = 4 → a % 4 = 0 := thE_al h
    have e : ldV n f a m = ldB f a.toNat m.toNat := by unfold ldV; rw [if_pos h]
    have HJ := Lib.hid (join_at g a.toNat m.toNat m.toNat n f w hr hf (by omega) (by omega) hn)
    have HF : Hid (Calls Try.prog 25 #[.pointer (some ⟨b, 0, none⟩), .int .u32 a, .int .i64 m, .int .i64 1] w fun e w' => e = .returned (.tuple #[.slice (some ⟨g, a.toNat, none⟩) m.toNat m.toNat, .int .i64 0]) ∧ w = w') := by
      rcases hm1 with rfl | rfl
      · exact (find_bytes b g n a 1 w hc hn ha0 (by decide) ham).mono fun e w' ⟨⟨p, h1, h2⟩, h3⟩ => ⟨by rw [h1, h2 (by decide)], h3⟩
      · exact (find_words b g n a 1 w hc hn ha0 (hal rfl) (by decide) (by omega)).mono fun e w' ⟨⟨p, h1, h2⟩, h3⟩ => ⟨by rw [h1, h2 (by decide)]; rfl, h3⟩
    rw [h, e]
    clear h e hal hm1 ham hr hf hb hc
    go_enter Try.func20, Try.ntmps20
    go_wp2_with fail
    refine (HF.out).mono ?_; rintro e w1 ⟨rfl, rfl⟩
    go_wp2_with fail
    refine (HJ.out).mono ?_; rintro e w1 ⟨rfl, g1⟩
    go_wp2_with fail
    go_ret2
    exact ⟨rfl, g1⟩
  · have e : ldV n f a m = 0 := by unfold ldV; rw [if_neg h]
    rw [e]
    rw [← fdE_th] at h ⊢
    have HF := Lib.hid (find_no b g n a m 1 w hc hn ⟨ha0, ha1⟩ h)
    have h' : (fdE n a m 1 != 0) = true := by simpa using h
    clear h e hr hf hb hc
    generalize fdE n a m 1 = k at *
    go_enter Try.func20, Try.ntmps20
    go_wp2_with fail
    refine (HF.out).mono ?_; rintro e w1 ⟨rfl, rfl⟩
    go_wp2_with fail
    go_ret2
    exact ⟨rfl, Below.refl _ _⟩
theorem store_yes {w : World} {v : Value} {g n : Nat} {f : Nat → Int} (a m : Nat) (x : Int) (hA : MemAt w v g n f) (hx : 0 ≤ x ∧ x < 4294967296) (h : thE n a m = 0) :
    Calls Try.prog 14 #[v, .int .u32 a, .int .i64 m, .int .u32 x] w fun e w' => e = .returned (.int .i64 0) ∧ MemAt w' v g n (stB f a m x) ∧ w.grownBy w' (some g) := by
  have HA := Lib.hid hA
  obtain ⟨⟨b, rfl, hb⟩, hr, hf, hn⟩ := hA
  have hc : w.cell? ⟨b, 0, none⟩ = some (.slice (some ⟨g, 0, none⟩) n n) := row_cell hb rfl
  obtain ⟨hm1, ham⟩ := thE_ok h
  have hal : (m : Int) = 4 → (a : Int) % 4 = 0 := thE_al h
  have HS := Lib.hid (split_at g a m m n f x w hr (by omega) (by omega) hn hx)
  have HB := Lib.hid (stB_bytes hf a m x)
  have HF : Hid (Calls Try.prog 25 #[.pointer (some ⟨b, 0, none⟩), .int .u32 a, .int .i64 m, .int .i64 1] w fun e w' => e = .returned (.tuple #[.slice (some ⟨g, a, none⟩) m m, .int .i64 0]) ∧ w = w') := by
    rcases (by omega : m = 1 ∨ m = 4) with rfl | rfl
    · exact (find_bytes b g n a 1 w hc hn (by omega) (by decide) (by omega)).mono fun e w' ⟨⟨p, h1, h2⟩, h3⟩ => ⟨by rw [h1, h2 (by decide)]; rfl, h3⟩
    · exact (find_words b g n a 1 w hc hn (by omega) (hal rfl) (by decide) (by omega)).mono fun e w' ⟨⟨p, h1, h2⟩, h3⟩ => ⟨by rw [h1, h2 (by decide)]; rfl, h3⟩
  clear h hal hm1 ham hr hf hb hc hn
  go_enter Try.func14, Try.ntmps14
  go_wp2_with fail
  refine (HF.out).mono ?_; rintro e w1 ⟨rfl, rfl⟩
  go_wp2_with fail
  refine (HS.out).mono ?_; rintro e w1 ⟨rfl, r1, g1⟩
  go_wp2_with fail
  go_ret
  exact ⟨rfl, HA.out.stored g1 r1 HB.out, g1⟩
theorem store_no {w : World} {v : Value} {g n : Nat} {f : Nat → Int} (a m x : Int) (hA : MemAt w v g n f) (ha : 0 ≤ a ∧ a < 4294967296) (h : thE n a m ≠ 0) :
    Calls Try.prog 14 #[v, .int .u32 a, .int .i64 m, .int .u32 x] w fun e w' => e = .returned (.int .i64 (thE n a m)) ∧ Below w.heap.size w w' := by
  obtain ⟨⟨b, rfl, hb⟩, hr, hf, hn⟩ := hA
  have hc : w.cell? ⟨b, 0, none⟩ = some (.slice (some ⟨g, 0, none⟩) n n) := row_cell hb rfl
  rw [← fdE_th] at h ⊢
  have HF := Lib.hid (find_no b g n a m 1 w hc hn ha h)
  have h' : (fdE n a m 1 != 0) = true := by simpa using h
  clear h hr hf hb hc ha
  generalize fdE n a m 1 = k at *
  go_enter Try.func14, Try.ntmps14
  go_wp2_with fail
  refine (HF.out).mono ?_; rintro e w1 ⟨rfl, rfl⟩
  go_wp2_with fail
  go_ret
  exact ⟨rfl, Below.refl _ _⟩
theorem size_at {w : World} {v : Value} {g n : Nat} {f : Nat → Int} (hA : MemAt w v g n f) : Calls Try.prog 11 #[v] w fun e w' => e = .returned (.int .i64 n) ∧ Below w.heap.size w w' := by
  obtain ⟨⟨b, rfl, hb⟩, hr, hf, hn⟩ := hA
  have hc : w.cell? ⟨b, 0, none⟩ = some (.slice (some ⟨g, 0, none⟩) n n) := row_cell hb rfl
  clear hr hf hb
  go_enter Try.func11, Try.ntmps11
  go_wp2_with fail
  refine (isObject_yes b g n w hc).mono ?_; rintro e w1 ⟨rfl, rfl⟩
  go_wp2_with fail
  go_ret
  exact ⟨rfl, Below.refl _ _⟩
theorem not_word {w : World} {g n j : Nat} {f : Nat → Int} {x : Int} (hr : RowAt w g n f) : w.cell? ⟨g, j, none⟩ ≠ some (.int .u32 x) := fun h => by
  have h2 : w.cell? ⟨g, j, none⟩ = (brow f n)[j]? := cell_of_row _ _ _ _ _ _ hr
  rw [h2] at h
  by_cases hj : j < n
  · rw [brow_get f hj] at h; simp at h
  · rw [Array.getElem?_eq_none (by rw [brow_size]; omega)] at h; cases h
theorem cell_kept {w w' : World} {b g j : Nat} {v : Value} (k : w.grownBy w' (some g)) (hb : b ≠ g) (hc : w.cell? ⟨b, j, none⟩ = some v) : w'.cell? ⟨b, j, none⟩ = some v := by
  rw [← hc]
  simp only [World.cell?]
  rw [k.block b (block_lt_of_cell hc) (fun e => hb (by cases e; rfl))]
/-- The place of l words, at a that they may have. -/
theorem find_span {w : World} {b g n : Nat} (a l : Nat) (hc : w.cell? ⟨b, 0, none⟩ = some (.slice (some ⟨g, 0, none⟩) n n)) (hn : n ≤ 4194304) (h : spE n a l = 0) :
    Calls Try.prog 25 #[.pointer (some ⟨b, 0, none⟩), .int .u32 a, .int .i64 4, .int .i64 l] w fun e w' => (∃ p, e = .returned (.tuple #[.slice p (4 * l) (4 * l), .int .i64 0]) ∧ (0 < l → p = some ⟨g, a, none⟩)) ∧ w = w' := by
  obtain ⟨_, ha4, han, hal⟩ := spE_ok h
  exact (find_words b g n a l w hc hn (by omega) ha4 (by omega) (by omega)).mono fun e w' ⟨⟨p, h1, h2⟩, h3⟩ => ⟨⟨p, by rw [h1, show ((l : Int) * 4).toNat = 4 * l by omega], fun hl => h2 (by omega)⟩, h3⟩
theorem put_yes {w : World} {v t : Value} {g n l : Nat} {f h : Nat → Int} (a : Nat) (hA : MemAt w v g n f) (hs : Sl .u32 w t l h) (hh : ∀ i, 0 ≤ h i ∧ h i < 4294967296) (he : spE n a l = 0) :
    Calls Try.prog 16 #[v, .int .u32 a, t] w fun e w' => e = .returned (.int .i64 0) ∧ MemAt w' v g n (ptB f a h l) ∧ w.grownBy w' (some g) := by
  have HA := Lib.hid hA
  obtain ⟨⟨b, rfl, hb⟩, hr, hf, hn⟩ := hA
  have hc : w.cell? ⟨b, 0, none⟩ = some (.slice (some ⟨g, 0, none⟩) n n) := row_cell hb rfl
  obtain ⟨_, ha4, han, hal⟩ := spE_ok he
  have HF := Lib.hid (find_span a l hc hn he)
  have HB := Lib.hid (fun k => ptB_bytes hf a h k)
  have HH := Lib.hid hh
  have HR := Lib.hid hr
  obtain ⟨q, c, rfl, hcs⟩ := hs
  have HC : Hid (0 < l → ∃ z o, q = some ⟨z, o, none⟩ ∧ z ≠ g ∧ ∀ i, i < l → w.cell? ⟨z, o + i, none⟩ = some (.int .u32 (h i))) := fun hl => by
    obtain ⟨z, o, hq, hi⟩ := hcs hl
    exact ⟨z, o, hq, fun e => not_word hr (e ▸ hi 0 hl), hi⟩
  have hln : (l : Int) ≤ 4194304 := by omega
  clear he hcs hr hf hb hc hh
  go_enter Try.func16, Try.ntmps16
  go_wp2_with fail
  refine (HF.out).mono ?_; rintro e w1 ⟨⟨p, rfl, hp⟩, rfl⟩
  have HP := Lib.hid hp
  clear hp HF
  go_wp2_with fail
  go_loopw [24] (fun i wr => ∃ k : Nat, k ≤ l ∧ i = .int .i64 k ∧ RowAt wr g n (ptB f a h k) ∧ w.grownBy wr (some g)) (fun i _ => l - (intOf i).toNat)
  case atStart => exact ⟨0, by omega, rfl, HR.out, ⟨rfl, rfl, rfl, Nat.le_refl _, fun _ _ _ => rfl⟩⟩
  case round =>
    clear HR
    obtain ⟨k, hk, rfl, hrow, hg⟩ := hrel
    by_cases hlt : k < l
    · obtain ⟨z, o, rfl, hz, hci⟩ := HC.out (by omega)
      obtain rfl := HP.out (by omega)
      have hc := cell_kept hg hz (hci k hlt)
      have HW := Lib.hid (wordOf_at g a (4 * l) (4 * l) k wr (by omega) (by omega) (Nat.le_refl _) (by omega))
      rw [show ((k : Int) * 4).toNat = 4 * k by omega] at HW
      have HS := Lib.hid (fun c' => split_at g (a + 4 * k) 4 c' n (ptB f a h k) (h k) wr hrow (.inr rfl) (by omega) hn (HH.out k))
      have HG := Lib.hid hg
      clear hci hz hrow hg HC HP
      have hk32 : (k : Int) < 4194304 := by omega
      go_wp2_with fail
      refine (HW.out).mono ?_; rintro e w1 ⟨⟨c', rfl⟩, rfl⟩
      go_wp2_with fail
      refine (HS.out c').mono ?_; rintro e w1 ⟨rfl, r1, g1⟩
      have R1 := Lib.hid r1
      have G1 := Lib.hid (only_trans HG.out g1)
      clear r1 g1 HG HS HW
      go_wp2_with fail
      go_roundw
      case rel => exact ⟨k + 1, by omega, by go_num, R1.out, G1.out⟩
      case measure => simp [intOf]; omega
    · obtain rfl : k = l := by omega
      have R1 := Lib.hid hrow
      have G1 := Lib.hid hg
      clear hrow hg
      go_wp2_with fail
      go_ret
      exact ⟨rfl, HA.out.stored G1.out R1.out (HB.out k), G1.out⟩
theorem put_no {w : World} {v t : Value} {g n l : Nat} {f h : Nat → Int} (a : Int) (hA : MemAt w v g n f) (hs : Sl .u32 w t l h) (ha : 0 ≤ a ∧ a < 4294967296) (he : spE n a l ≠ 0) :
    Calls Try.prog 16 #[v, .int .u32 a, t] w fun e w' => e = .returned (.int .i64 (spE n a l)) ∧ Below w.heap.size w w' := by
  obtain ⟨⟨b, rfl, hb⟩, hr, hf, hn⟩ := hA
  have hc : w.cell? ⟨b, 0, none⟩ = some (.slice (some ⟨g, 0, none⟩) n n) := row_cell hb rfl
  obtain ⟨q, c, rfl, hcs⟩ := hs
  rw [← fdE_sp] at he ⊢
  have HF := Lib.hid (find_no b g n a 4 l w hc hn ha he)
  have h' : (fdE n a 4 l != 0) = true := by simpa using he
  clear he hr hf hb hc ha hcs
  generalize fdE n a 4 l = k at *
  go_enter Try.func16, Try.ntmps16
  go_wp2_with fail
  refine (HF.out).mono ?_; rintro e w1 ⟨rfl, rfl⟩
  go_wp2_with fail
  go_ret
  exact ⟨rfl, Below.refl _ _⟩
theorem words_no {w : World} {v : Value} {g n : Nat} {f : Nat → Int} (a m : Int) (hA : MemAt w v g n f) (ha : 0 ≤ a ∧ a < 4294967296) (he : spE n a m ≠ 0) :
    Calls Try.prog 17 #[v, .int .u32 a, .int .i64 m] w fun e w' => ∃ s, e = .returned (.tuple #[s, .int .i64 (spE n a m)]) ∧ Sl .u32 w' s 0 (fun _ => 0) ∧ Below w.heap.size w w' := by
  obtain ⟨⟨b, rfl, hb⟩, hr, hf, hn⟩ := hA
  have hc : w.cell? ⟨b, 0, none⟩ = some (.slice (some ⟨g, 0, none⟩) n n) := row_cell hb rfl
  rw [← fdE_sp] at he ⊢
  have HF := Lib.hid (find_no b g n a 4 m w hc hn ha he)
  have h' : (fdE n a 4 m != 0) = true := by simpa using he
  clear he hr hf hb hc ha
  generalize fdE n a 4 m = k at *
  go_enter Try.func17, Try.ntmps17
  go_wp2_with fail
  refine (HF.out).mono ?_; rintro e w1 ⟨rfl, rfl⟩
  go_wp2_with fail
  go_ret2
  exact ⟨_, rfl, Sl.nil _ _ _ _ _, Below.refl _ _⟩
/-- The first k words told, the others not yet. -/
def toldTo (f : Nat → Int) (a k : Nat) : Nat → Int := fun i => if i < k then wdB f a i else 0
theorem toldTo_succ (f : Nat → Int) (a k : Nat) : updB (toldTo f a k) k (wdB f a k) = toldTo f a (k + 1) := by
  funext i
  unfold updB toldTo
  by_cases e : i = k
  · subst e; rw [if_pos rfl, if_pos (by omega)]
  · rw [if_neg e]
    by_cases h : i < k
    · rw [if_pos h, if_pos (by omega)]
    · rw [if_neg h, if_neg (by omega)]
theorem words_yes {w : World} {v : Value} {g n : Nat} {f : Nat → Int} (a m : Nat) (hA : MemAt w v g n f) (he : spE n a m = 0) :
    Calls Try.prog 17 #[v, .int .u32 a, .int .i64 m] w fun e w' => ∃ s, e = .returned (.tuple #[s, .int .i64 0]) ∧ Sl .u32 w' s m (wdB f a) ∧ Below w.heap.size w w' := by
  have HA := Lib.hid hA
  obtain ⟨⟨b, rfl, hb⟩, hr, hf, hn⟩ := hA
  have hc : w.cell? ⟨b, 0, none⟩ = some (.slice (some ⟨g, 0, none⟩) n n) := row_cell hb rfl
  obtain ⟨_, ha4, han, hal⟩ := spE_ok he
  have HF := Lib.hid (find_span a m hc hn he)
  have HR := Lib.hid hr
  have HBf := Lib.hid hf
  have hmk := run_make_row' (P := Try.prog) 32 31 (.int .u32 0) 4 Try.underlying32 u32_parts' rfl .i64 .i64 m (by omega) (by omega) w
  rw [made_words] at hmk
  have H0 : Hid ((w.alloc (.cells (bsL .u32 (fun _ => 0) m).toArray 31)).heap[w.heap.size]? = some (.cells (bsL .u32 (toldTo f a 0) m).toArray 31 (0, 0))) := heap_alloc_last _ _
  have G0 := born_bel w (.cells (bsL .u32 (fun _ => 0) m).toArray 31)
  have hmn : (m : Int) ≤ 4194304 := by omega
  clear he hr hf hb hc
  go_enter Try.func17, Try.ntmps17
  go_wp2_with fail
  refine (HF.out).mono ?_; rintro e w1 ⟨⟨p, rfl, hp⟩, rfl⟩
  have HP := Lib.hid hp
  clear hp HF
  generalize hW : w.alloc (.cells (bsL .u32 (fun _ => 0) m).toArray 31) = W at *
  clear hW
  go_wp2_with fail
  go_loopw [26] (fun i wr => ∃ k : Nat, k ≤ m ∧ i = .int .i64 k ∧ wr.heap[w.heap.size]? = some (.cells (bsL .u32 (toldTo f a k) m).toArray 31 (0, 0)) ∧ Below w.heap.size w wr) (fun i _ => m - (intOf i).toNat)
  case atStart => exact ⟨0, by omega, rfl, H0.out, G0⟩
  case round =>
    clear H0 G0
    obtain ⟨k, hk, rfl, hrow, hg⟩ := hrel
    by_cases hlt : k < m
    · obtain rfl := HP.out (by omega)
      have HW := Lib.hid (wordOf_at g a (4 * m) (4 * m) k wr (by omega) (by omega) (Nat.le_refl _) (by omega))
      rw [show ((k : Int) * 4).toNat = 4 * k by omega] at HW
      have HJ := Lib.hid (fun c' => join_at g (a + 4 * k) 4 c' n f wr (HR.out.bel hg) HBf.out (Nat.le_refl _) (by omega) hn)
      have HRow := Lib.hid hrow
      have HG := Lib.hid hg
      clear hrow hg HP
      have hk32 : (k : Int) < 4194304 := by omega
      go_wp2_with fail
      refine (HW.out).mono ?_; rintro e w1 ⟨⟨c', rfl⟩, rfl⟩
      go_wp2_with fail
      refine (HJ.out c').mono ?_; rintro e w1 ⟨rfl, g1⟩
      have r1 := bel_heap g1 HRow.out
      have hcell : w1.cell? ⟨w.heap.size, k, none⟩ = some (.int .u32 (toldTo f a k k)) := row_cell r1 (by simpa using bsL_get .u32 _ hlt)
      have hfz : w1.frozen? ⟨w.heap.size, k, none⟩ = false := row_frozen r1
      have R1 : Hid ((w1.setCell ⟨w.heap.size, k, none⟩ (.int .u32 (ldB f (a + 4 * k) 4))).heap[w.heap.size]? = some (.cells (bsL .u32 (toldTo f a (k + 1)) m).toArray 31 (0, 0))) := by
        have := heap_setCell_same w1 w.heap.size k _ _ (.int .u32 (ldB f (a + 4 * k) 4)) r1
        rw [← toldTo_succ f a k, ← bsL_set]
        exact Lib.hid (by simpa [wdB] using this)
      have G1 := Lib.hid (only_bel HG.out (only_cell (bel_only g1 w.heap.size) k (.int .u32 (ldB f (a + 4 * k) 4))) (Nat.le_refl _))
      clear r1 g1 HG HW HJ HRow
      go_wp2_with fail
      go_roundw
      case rel => exact ⟨k + 1, by omega, by go_num, R1.out, G1.out⟩
      case measure => simp [intOf]; omega
    · obtain rfl : k = m := by omega
      have R1 := Lib.hid hrow
      have G1 := Lib.hid hg
      clear hrow hg
      go_wp2_with fail
      go_ret2
      exact ⟨_, rfl, ⟨_, _, rfl, fun _ => ⟨_, 0, rfl, fun i hi => by
        rw [Nat.zero_add]
        refine row_cell R1.out ?_
        have := bsL_get .u32 (toldTo f a k) hi
        rw [show toldTo f a k i = wdB f a i by unfold toldTo; rw [if_pos hi]] at this
        simpa using this⟩⟩, G1.out⟩
theorem byte_size : (Try.prog.info? 5).map (·.size) = some 1 := by kernel_rfl
/-- A copy of a whole row of bytes over another, in a region that draws its order: of the old blocks that one alone turns. -/
theorem step_copy_bytes {ops : Array Oper} {o : Oper} {a : Act} {w : World} {K : Act → World → Prop} {Q : Exit → Act → World → Prop} {E : Prop} (hgd : o.guard = none) (d s : Operand)
    (ho : o.op = .call { callee := .builtin .copy, args := #[d, s], argTypes := #[30, 30] }) (x z n : Nat) (f h : Nat → Int) (hd : a.eval d = .slice (some ⟨z, 0, none⟩) n n) (hs : a.eval s = .slice (some ⟨x, 0, none⟩) n n)
    (hz : w.heap[z]? = some (.cells (bsL .u8 h n).toArray 5 (0, 0))) (hx : ∀ j v, (bsL .u8 f n)[j]? = some v → w.cell? ((⟨x, 0, none⟩ : Addr).add j) = some v)
    (hK : ∀ w', w.grownBy w' (some z) → RowAt w' z n f → K (a.put o.dst (goInt n)) w') : if Region.wanted o (yielded ops a.tmps) = true then Oper.wp Try.prog o a w K Q else E := by
  rw [if_pos (by simp [Region.wanted, hgd])]
  by_cases h0 : n = 0
  · subst h0
    have hrun := run_copy_none (P := Try.prog) w 30 30 o.type 5 (some ⟨z, 0, none⟩) (some ⟨x, 0, none⟩) 0 0 0 0 Try.underlying30 byte_size rfl
    unfold Oper.wp
    simp [execOp, ho, resolve, invoke, builtin, hd, hs, hrun, Result.andThen]
    exact hK w ⟨rfl, rfl, rfl, Nat.le_refl _, fun _ _ _ => rfl⟩ hz
  · have hrun := run_copy_row (P := Try.prog) w 30 30 o.type 5 z 0 n n ⟨x, 0, none⟩ n n (bsL .u8 h n).toArray 5 (bsL .u8 f n) Try.underlying30 byte_size hz (by rw [bsL_len]; exact (Nat.min_self n).symm) hx (by rw [bsL_len]; simp [bsL_len]) (bsL_one _ _ _)
    unfold Oper.wp
    simp [execOp, ho, resolve, invoke, builtin, hd, hs, hrun, Result.andThen, bsL_len]
    rw [show bsL .u8 f n ++ List.drop n (bsL .u8 h n) = bsL .u8 f n by rw [List.drop_of_length_le (by rw [bsL_len]; exact Nat.le_refl _), List.append_nil]]
    exact hK _ (only_row ⟨rfl, rfl, rfl, Nat.le_refl _, fun _ _ _ => rfl⟩ rfl) (setRow_heap _ _ _ _ _ _ hz)
set_option maxHeartbeats 1000000 in
theorem copy_at {w : World} {v : Value} {g n : Nat} {f : Nat → Int} (hA : MemAt w v g n f) : Calls Try.prog 12 #[v] w fun e w' => ∃ v' g', e = .returned v' ∧ MemAt w' v' g' n f ∧ w.heap.size ≤ g' ∧ Below w.heap.size w w' := by
  obtain ⟨⟨b, rfl, hb⟩, hr, hf, hn⟩ := hA
  have hc : w.cell? ⟨b, 0, none⟩ = some (.slice (some ⟨g, 0, none⟩) n n) := row_cell hb rfl
  have hmk := run_make_row' (P := Try.prog) 30 5 (.int .u8 0) 1 Try.underlying30 byte_parts rfl .i64 .i64 n (by omega) (by omega) w
  rw [made_bytes] at hmk
  have h1 : (w.alloc (.cells (brow (fun _ => 0) n) 5)).heap[w.heap.size]? = some (.cells (bsL .u8 (fun _ => 0) n).toArray 5 (0, 0)) := heap_alloc_last _ _
  have hs : (w.alloc (.cells (brow (fun _ => 0) n) 5)).heap.size = w.heap.size + 1 := by simp
  have G1 := born_bel w (.cells (brow (fun _ => 0) n) 5)
  have HF := Lib.hid hf
  generalize w.alloc (.cells (brow (fun _ => 0) n) 5) = W at *
  have G2 := born_bel W (.cells #[.slice (some ⟨w.heap.size, 0, none⟩) n n] 55)
  have h2 := bel_heap G2 h1
  have h3 : (W.alloc (.cells #[.slice (some ⟨w.heap.size, 0, none⟩) n n] 55)).heap[w.heap.size + 1]? = some (.cells #[.slice (some ⟨w.heap.size, 0, none⟩) n n] 55 (0, 0)) := row_born hs
  have G3 := bel_trans G1 G2
  have c1 := bel_cell G1 hc
  have c3 := row_cell (j := 0) (v := .slice (some ⟨w.heap.size, 0, none⟩) n n) h3 rfl
  have c2 := bel_cell G3 hc
  have HS : Hid (∀ j v, (bsL .u8 f n)[j]? = some v → (W.alloc (.cells #[.slice (some ⟨w.heap.size, 0, none⟩) n n] 55)).cell? ((⟨g, 0, none⟩ : Addr).add j) = some v) := by
    intro j v hv
    have hj : j < n := by
      rcases Nat.lt_or_ge j n with hh | hh
      · exact hh
      · rw [List.getElem?_eq_none (by rw [bsL_len]; omega)] at hv; cases hv
    rw [bsL_get _ _ hj] at hv
    rw [add_at, Nat.zero_add, ← hv]
    exact (hr.bel G3).cell hj
  have H2 := Lib.hid h2
  have H3 := Lib.hid h3
  clear h1 h2 h3 hr hb hf G2
  go_enter Try.func12, Try.ntmps12
  go_wp2_with fail
  refine (isObject_yes b g n w hc).mono ?_; rintro e w1 ⟨rfl, rfl⟩
  go_wp2_with fail
  generalize W.alloc (.cells #[.slice (some ⟨w.heap.size, 0, none⟩) n n] 55) = V at *
  go_region_law (refine step_copy_bytes rfl (.tmp 18) (.tmp 22) rfl g w.heap.size n f (fun _ => 0) rfl rfl H2.out HS.out ?_; intro w2 g2 r2)
  all_goals (
    have GV : Below w.heap.size w V.drew := bel_drewN G3 1
    have G4 := only_bel GV g2 (Nat.le_refl _)
    have H4 := only_heap g2 (show w.heap.size + 1 ≠ w.heap.size by omega) (show V.drew.heap[w.heap.size + 1]? = _ from H3.out)
    go_wp2_with fail
    go_ret
    exact ⟨_, _, rfl, ⟨⟨_, rfl, H4⟩, r2, HF.out, hn⟩, Nat.le_refl _, G4⟩)
/-- Package mem keeps what the walks ask of it. -/
def memC : MemC where
  At := MemAt
  bel := MemAt.bel
  only := MemAt.only
  lt h := heap_lt h.row
  bytes h := h.bytes
  size h := h.size
  ptr h := by obtain ⟨b, e, _⟩ := h.box; exact ⟨_, e⟩
  congr h e := by obtain rfl := funext e; exact h
  new_yes := new_yes
  new_no n w _ h := new_no n w h
  load a m hA ha _ := load_at a m hA ha
  store_yes := store_yes
  store_no a m x hA ha _ _ h := store_no a m x hA ha h
  put_yes := put_yes
  put_no a hA hs ha _ h := put_no a hA hs ha h
  words_yes := words_yes
  words_no a m hA ha _ h := words_no a m hA ha h
  size_at := size_at
  copy := copy_at
end Go.Proofs.Ytbjnnlemgfbgnaa
