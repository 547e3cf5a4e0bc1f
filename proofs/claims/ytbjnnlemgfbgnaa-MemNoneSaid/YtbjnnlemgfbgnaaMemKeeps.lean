/- The walk of layer 5's statement MemKeeps, over the contracts wanted of package mem. -/
import Derived.Test.YtbjnnlemgfbgnaaMemHead
import Derived.Deep.DeepCutAuto
namespace Go.Proofs.Ytbjnnlemgfbgnaa
open Go.RowKit
set_option linter.unusedVariables false
/-- The bytes after the first k of the statement's stores. -/
def kpB (k : Nat) : Nat → Int := fun j => if j < k then (3 * (j : Int) + 1) % 256 else 0
theorem kpB_succ (k : Nat) : ∀ j, stB (kpB k) k 1 (3 * (k : Int) + 1) j = kpB (k + 1) j := fun j => by
  unfold stB kpB
  by_cases e : j = k
  · subst e; rw [if_pos (by omega), if_pos (by omega), show j + 1 - 1 - j = 0 by omega]; simp
  · by_cases h : j < k
    · rw [if_neg (by omega), if_pos h, if_pos (by omega)]
    · rw [if_neg (by omega), if_neg h, if_neg (by omega)]
theorem ld4 (f : Nat → Int) (a : Nat) : ldB f a 4 = 256 * (256 * (256 * (256 * 0 + f (a + 0)) + f (a + 1)) + f (a + 2)) + f (a + 3) := rfl
theorem ld_st4 (f : Nat → Int) (a : Nat) {v : Int} (hv : 0 ≤ v ∧ v < 4294967296) : ldB (stB f a 4 v) a 4 = v := by
  rw [ld4]
  have e0 : stB f a 4 v (a + 0) = v / 16777216 % 256 := by unfold stB; rw [if_pos (by omega), show a + 4 - 1 - (a + 0) = 3 by omega]; rfl
  have e1 : stB f a 4 v (a + 1) = v / 65536 % 256 := by unfold stB; rw [if_pos (by omega), show a + 4 - 1 - (a + 1) = 2 by omega]; rfl
  have e2 : stB f a 4 v (a + 2) = v / 256 % 256 := by unfold stB; rw [if_pos (by omega), show a + 4 - 1 - (a + 2) = 1 by omega]; rfl
  have e3 : stB f a 4 v (a + 3) = v % 256 := by unfold stB; rw [if_pos (by omega), show a + 4 - 1 - (a + 3) = 0 by omega]; simp
  rw [e0, e1, e2, e3]
  omega
theorem ld_st1 (f : Nat → Int) (a : Nat) (v : Int) : ldB (stB f a 1 v) a 1 = v % 256 := by
  have e : stB f a 1 v (a + 0) = v % 256 := by unfold stB; rw [if_pos (by omega), show a + 1 - 1 - (a + 0) = 0 by omega]; simp
  show 256 * 0 + stB f a 1 v (a + 0) = _
  rw [e]; omega
/-- The bits that the statement shifts away. -/
theorem shift_byte (v : Int) (e : Nat) : v / 2 ^ (8 * e) = v / 256 ^ e := by
  rw [Int.pow_mul]; rfl
theorem act_at {w : World} {z : Nat} {t : TypeId} {a b c d e : Value} (h : w.heap[z]? = some (.cells #[a, b, c, d, e] t (0, 0))) : w.cell? ⟨z, 1, none⟩ = some b ∧ w.cell? ⟨z, 2, none⟩ = some c ∧ w.cell? ⟨z, 3, none⟩ = some d := ⟨row_cell h rfl, row_cell h rfl, row_cell h rfl⟩
/-- The store and the load that the statement tries: what each answers, and what the bytes are then. -/
theorem keeps_ops (M : MemC) {v : Value} {g n : Nat} {w : World} (hA : M.At w v g n (kpB n)) (ad m : Nat) (x : Int) (hm : m = 1 ∨ m = 4) (had : (ad : Int) < 4294967296) (hx : 0 ≤ x ∧ x < 4294967296) :
    ∃ (kk bb : Int) (F : Nat → Int), (kk = 0 ∧ bb = (if m = 4 then x else x % 256) ∧ (∀ i, F i = stB (kpB n) ad m x i) ∨ (kk != 0) = true ∧ (kk == 0) = false ∧ ∀ i, F i = kpB n i) ∧
      Calls Try.prog 14 #[v, .int .u32 ad, .int .i64 m, .int .u32 x] w (fun e w' => e = .returned (.int .i64 kk) ∧ M.At w' v g n F ∧ w.grownBy w' (some g)) ∧
      (∀ W, M.At W v g n F → Calls Try.prog 20 #[v, .int .u32 ad, .int .i64 m] W fun e w' => e = .returned (.tuple #[.int .u32 bb, .int .i64 kk]) ∧ Below W.heap.size W w') := by
  by_cases h : thE n ad m = 0
  · refine ⟨0, if m = 4 then x else x % 256, stB (kpB n) ad m x, .inl ⟨rfl, rfl, fun _ => rfl⟩, M.store_yes ad m x hA hx h, fun W hW => ?_⟩
    have hl := M.load (ad : Int) (m : Int) hW (by omega) (by omega)
    have e : ldV n (stB (kpB n) ad m x) ad m = if m = 4 then x else x % 256 := by
      unfold ldV
      rw [if_pos h, Int.toNat_natCast, Int.toNat_natCast]
      rcases hm with rfl | rfl
      · rw [if_neg (by decide), ld_st1]
      · rw [if_pos rfl, ld_st4 _ _ hx]
    rw [e, h] at hl
    exact hl
  · refine ⟨thE n ad m, 0, kpB n, .inr ⟨by simpa using h, by simpa using h, fun _ => rfl⟩, (M.store_no (ad : Int) (m : Int) x hA (by omega) (by omega) hx h).mono (fun e w' ⟨h1, h2⟩ => ⟨h1, M.bel hA h2, bel_only h2 g⟩), fun W hW => ?_⟩
    have hl := M.load (ad : Int) (m : Int) hW (by omega) (by omega)
    have e : ldV n (kpB n) ad m = 0 := by unfold ldV; rw [if_neg h]
    rw [e] at hl
    exact hl
set_option maxHeartbeats 4000000 in
set_option maxRecDepth 100000 in
theorem keeps_walk (M : MemC) (sz wh ad mn x : Int) (L : Value) (hs : 0 ≤ sz ∧ sz < 256) (ha : 0 ≤ ad ∧ ad < 4294967296) (hm : -9223372036854775808 ≤ mn ∧ mn ≤ 9223372036854775807) (hx : 0 ≤ x ∧ x < 4294967296) (hL : ∃ p l c, L = .slice p l c) (w : World) :
    Calls Try.prog 4 #[.int .u8 sz, .agg #[.int .u8 wh, .int .u32 ad, .int .i64 mn, .int .u32 x, L]] w fun e w' => e = .returned (.bool true) ∧ Below w.heap.size w w' := by
  obtain ⟨p, l, c, rfl⟩ := hL
  go_enter Try.func4, Try.ntmps4
  go_wp2_with fail
  obtain ⟨n, hn⟩ : ∃ n : Nat, sz % 50 * 4 = (n : Int) := ⟨(sz % 50 * 4).toNat, by omega⟩
  rw [hn]
  have hn200 : n < 200 := by omega
  have hn4 : n % 4 = 0 := by omega
  clear hn hs
  refine (M.new_yes n _ ⟨by omega, by omega, by omega⟩).mono ?_; rintro e w1 ⟨v, g, rfl, A1, hgB, g1⟩
  obtain ⟨q, rfl⟩ := M.ptr A1
  have R1 : w1.heap[w.heap.size]? = some (.cells #[.int .u8 wh, .int .u32 ad, .int .i64 mn, .int .u32 x, .slice p l c] 34 (0, 0)) := bel_heap g1 (row_born rfl)
  have G1 : Below w.heap.size w w1 := bel_trans (alloc_bel _ _) g1
  have hzg : w.heap.size < g := by simp at hgB; omega
  clear g1 hgB
  go_wp2_with fail
  go_loopw [8] (fun i wr => ∃ k : Nat, k ≤ n ∧ i = .int .i64 k ∧ M.At wr (.pointer (some q)) g n (kpB k) ∧ wr.heap[w.heap.size]? = some (.cells #[.int .u8 wh, .int .u32 ad, .int .i64 mn, .int .u32 x, .slice p l c] 34 (0, 0)) ∧ Below w.heap.size w wr) (fun i _ => n - (intOf i).toNat)
  case atStart => exact ⟨0, by omega, rfl, M.congr A1 (fun i => rfl), R1, G1⟩
  case round =>
    clear A1 R1 G1
    obtain ⟨k, hk, rfl, A, R, G⟩ := hrel
    by_cases hlt : k < n
    · have hk200 : (k : Int) < 200 := by omega
      have HSt := Lib.hid (M.store_yes k 1 (3 * (k : Int) + 1) A (by omega) (thE_byte hlt))
      have HR := Lib.hid R
      clear R A
      go_wp2_with fail
      refine (HSt.out).mono ?_; rintro e w2 ⟨rfl, A2, k2⟩
      have A2 := Lib.hid (M.congr A2 (kpB_succ k))
      have R2 := Lib.hid (only_heap k2 (Nat.ne_of_lt hzg) HR.out)
      have G2 := only_bel G k2 (Nat.le_of_lt hzg)
      clear HSt HR k2 G
      go_wp2_with fail
      go_roundw
      case rel => exact ⟨k + 1, by omega, by go_num, A2.out, R2.out, G2⟩
      case measure => simp [intOf]; omega
    · obtain rfl : k = n := by omega
      obtain ⟨ad, rfl⟩ : ∃ a : Nat, ad = a := ⟨ad.toNat, by omega⟩
      have had := ha.2
      clear ha
      by_cases he : (mn.tmod 2 == 0) = true
      · -- four bytes
        have H0 := keeps_ops M A ad 4 x (by decide) had hx
        obtain ⟨kk, bb, F, hcase, hst, hld⟩ := H0
        have HC := Lib.hid hcase
        have HSt := Lib.hid hst
        have HLd := Lib.hid hld
        clear hcase hst hld A
        have HR := Lib.hid R
        obtain ⟨c1, c2, c3⟩ := act_at R
        clear R
        go_wp2_with fail
        refine (HSt.out).mono ?_; rintro e w2 ⟨rfl, A2, k2⟩
        have R2 := only_heap k2 (Nat.ne_of_lt hzg) HR.out
        have G2 := only_bel G k2 (Nat.le_of_lt hzg)
        obtain ⟨c1, c2, c3⟩ := act_at R2
        clear HSt HR k2 G
        go_wp2_with fail
        refine (HLd.out _ A2).mono ?_; rintro e w3 ⟨rfl, g3⟩
        have A3 := M.bel A2 g3
        have R3 := bel_heap g3 R2
        have G3 := bel_trans G2 g3
        clear HLd g3 A2 R2 G2 c1 c2 c3
        go_wp2_with fail
        go_loopw [13] (fun i wr => ∃ j : Nat, j ≤ k ∧ i = .int .i64 j ∧ Below w3.heap.size w3 wr) (fun i _ => k - (intOf i).toNat)
        case atStart => exact ⟨0, by omega, rfl, Below.refl _ _⟩
        case round =>
          obtain ⟨j, hj, rfl, hX⟩ := hrel
          by_cases hlt : j < k
          · have HLb := Lib.hid (load_byte M (M.bel A3 hX) hlt)
            have R4 := bel_heap hX R3
            have HR := Lib.hid R4
            have hj200 : (j : Int) < 200 := by omega
            have hFj : F j = (if kk = 0 ∧ ad ≤ j ∧ j < ad + 4 then x / 256 ^ (ad + 4 - 1 - j) % 256 else (3 * (j : Int) + 1) % 256) := by
              rcases HC.out with ⟨e1, _, e3⟩ | ⟨e1, _, e3⟩
              · rw [e3]; unfold stB kpB; rw [if_pos hlt]; by_cases hin : ad ≤ j ∧ j < ad + 4
                · rw [if_pos hin, if_pos ⟨e1, hin⟩]
                · rw [if_neg hin, if_neg (fun h => hin h.2)]
              · rw [e3]; unfold kpB; rw [if_pos hlt, if_neg (fun h => by simp [h.1] at e1)]
            have HFj := Lib.hid hFj
            clear R4 hFj
            generalize F j = y at *
            go_wp2_with fail
            refine (HLb.out _ (Below.refl _ _)).mono ?_; rintro e w4 ⟨rfl, g4⟩
            have X4 := bel_trans hX g4
            obtain ⟨c1, c2, c3⟩ := act_at (bel_heap g4 HR.out)
            clear HLb HR g4 hX
            go_upto_region 20 with (fail)
            generalize hu : (j : Int) - (ad : Int) = u
            have HU := Lib.hid hu
            by_cases hin : kk = 0 ∧ ad ≤ j ∧ j < ad + 4
            · have hy := HFj.out
              rw [if_pos hin] at hy
              obtain ⟨rfl, i1, i2⟩ := hin
              obtain ⟨e, he1⟩ : ∃ e : Nat, ad + 4 - 1 - j = e := ⟨_, rfl⟩
              rw [he1, ← shift_byte] at hy
              have hm4 : (4 : Int) ≤ 4 := by decide
              have hu03 : 0 ≤ u ∧ u < 4 := by omega
              have hue : u = 4 - 1 - (e : Int) := by omega
              clear HFj he1 i1 i2 hu HU
              have fin : Hid (∀ d : Int, (d = 2 ^ (8 * e)) → (y != x / d % 256) = false) := fun d hd => by rw [hd, hy]; simp
              clear hy
              rcases (by omega : u = 0 ∨ u = 1 ∨ u = 2 ∨ u = 3) with rfl | rfl | rfl | rfl
              · obtain rfl : e = 3 := by omega
                have hyv : (y != x / 16777216 % 256) = false := by have := fin.out 16777216 rfl; simpa using this
                clear fin hue hu03
                go_wp2_with fail
                go_roundw
                case rel => exact ⟨j + 1, by omega, by go_num, X4⟩
                case measure => simp [intOf]; omega
              · obtain rfl : e = 2 := by omega
                have hyv : (y != x / 65536 % 256) = false := by have := fin.out 65536 rfl; simpa using this
                clear fin hue hu03
                go_wp2_with fail
                go_roundw
                case rel => exact ⟨j + 1, by omega, by go_num, X4⟩
                case measure => simp [intOf]; omega
              · obtain rfl : e = 1 := by omega
                have hyv : (y != x / 256 % 256) = false := by have := fin.out 256 rfl; simpa using this
                clear fin hue hu03
                go_wp2_with fail
                go_roundw
                case rel => exact ⟨j + 1, by omega, by go_num, X4⟩
                case measure => simp [intOf]; omega
              · obtain rfl : e = 0 := by omega
                have hyv : (y != x % 256) = false := by have := fin.out 1 rfl; simpa using this
                clear fin hue hu03
                go_wp2_with fail
                go_roundw
                case rel => exact ⟨j + 1, by omega, by go_num, X4⟩
                case measure => simp [intOf]; omega
            · have hy := HFj.out
              rw [if_neg hin] at hy
              have hy' : (y != (3 * (j : Int) + 1) % 256) = false := by simpa using hy
              clear hy HFj
              by_cases hk0 : kk = 0
              · subst hk0
                by_cases i1 : ad ≤ j
                · have i2 : ¬ j < ad + 4 := fun h => hin ⟨rfl, i1, h⟩
                  have a0 : 0 ≤ u := by omega
                  have a1 : ¬ u < 4 := by omega
                  clear hin i1 i2 hu
                  go_wp2_with fail
                  go_roundw
                  case rel => exact ⟨j + 1, by omega, by go_num, X4⟩
                  case measure => simp [intOf]; omega
                · have a0 : ¬ 0 ≤ u := by omega
                  clear hin i1 hu
                  go_wp2_with fail
                  go_roundw
                  case rel => exact ⟨j + 1, by omega, by go_num, X4⟩
                  case measure => simp [intOf]; omega
              · have hk1 : (kk == 0) = false := by simpa using hk0
                clear hin hk0 hu
                go_wp2_with fail
                go_roundw
                case rel => exact ⟨j + 1, by omega, by go_num, X4⟩
                case measure => simp [intOf]; omega
          · obtain rfl : j = k := by omega
            have G5 := bel_trans G3 hX
            obtain ⟨c1, c2, c3⟩ := act_at (bel_heap hX R3)
            clear A3 R3 G3 hX
            rcases HC.out with ⟨rfl, rfl, _⟩ | ⟨e1, _, _⟩
            · clear HC
              go_wp2_with fail
              refine (head_any M _).mono ?_; rintro e w5 ⟨rfl, g5⟩
              go_wp2_with fail
              go_ret
              exact ⟨rfl, bel_trans G5 g5⟩
            · clear HC
              go_wp2_with fail
              refine (head_any M _).mono ?_; rintro e w5 ⟨rfl, g5⟩
              go_wp2_with fail
              go_ret
              exact ⟨rfl, bel_trans G5 g5⟩
      · have he : (mn.tmod 2 == 0) = false := by simpa using he
        have H0 := keeps_ops M A ad 1 x (by decide) had hx
        obtain ⟨kk, bb, F, hcase, hst, hld⟩ := H0
        have HC := Lib.hid hcase
        have HSt := Lib.hid hst
        have HLd := Lib.hid hld
        clear hcase hst hld A
        have HR := Lib.hid R
        obtain ⟨c1, c2, c3⟩ := act_at R
        clear R
        go_wp2_with fail
        refine (HSt.out).mono ?_; rintro e w2 ⟨rfl, A2, k2⟩
        have R2 := only_heap k2 (Nat.ne_of_lt hzg) HR.out
        have G2 := only_bel G k2 (Nat.le_of_lt hzg)
        obtain ⟨c1, c2, c3⟩ := act_at R2
        clear HSt HR k2 G
        go_wp2_with fail
        refine (HLd.out _ A2).mono ?_; rintro e w3 ⟨rfl, g3⟩
        have A3 := M.bel A2 g3
        have R3 := bel_heap g3 R2
        have G3 := bel_trans G2 g3
        clear HLd g3 A2 R2 G2 c1 c2 c3
        go_wp2_with fail
        go_loopw [13] (fun i wr => ∃ j : Nat, j ≤ k ∧ i = .int .i64 j ∧ Below w3.heap.size w3 wr) (fun i _ => k - (intOf i).toNat)
        case atStart => exact ⟨0, by omega, rfl, Below.refl _ _⟩
        case round =>
          obtain ⟨j, hj, rfl, hX⟩ := hrel
          by_cases hlt : j < k
          · have HLb := Lib.hid (load_byte M (M.bel A3 hX) hlt)
            have R4 := bel_heap hX R3
            have HR := Lib.hid R4
            have hj200 : (j : Int) < 200 := by omega
            have hFj : F j = (if kk = 0 ∧ ad ≤ j ∧ j < ad + 1 then x / 256 ^ (ad + 1 - 1 - j) % 256 else (3 * (j : Int) + 1) % 256) := by
              rcases HC.out with ⟨e1, _, e3⟩ | ⟨e1, _, e3⟩
              · rw [e3]; unfold stB kpB; rw [if_pos hlt]; by_cases hin : ad ≤ j ∧ j < ad + 1
                · rw [if_pos hin, if_pos ⟨e1, hin⟩]
                · rw [if_neg hin, if_neg (fun h => hin h.2)]
              · rw [e3]; unfold kpB; rw [if_pos hlt, if_neg (fun h => by simp [h.1] at e1)]
            have HFj := Lib.hid hFj
            clear R4 hFj
            generalize F j = y at *
            go_wp2_with fail
            refine (HLb.out _ (Below.refl _ _)).mono ?_; rintro e w4 ⟨rfl, g4⟩
            have X4 := bel_trans hX g4
            obtain ⟨c1, c2, c3⟩ := act_at (bel_heap g4 HR.out)
            clear HLb HR g4 hX
            go_upto_region 20 with (fail)
            generalize hu : (j : Int) - (ad : Int) = u
            have HU := Lib.hid hu
            by_cases hin : kk = 0 ∧ ad ≤ j ∧ j < ad + 1
            · have hy := HFj.out
              rw [if_pos hin] at hy
              obtain ⟨rfl, i1, i2⟩ := hin
              obtain ⟨e, he1⟩ : ∃ e : Nat, ad + 1 - 1 - j = e := ⟨_, rfl⟩
              rw [he1, ← shift_byte] at hy
              have hm4 : (1 : Int) ≤ 4 := by decide
              have hu03 : 0 ≤ u ∧ u < 1 := by omega
              have hue : u = 1 - 1 - (e : Int) := by omega
              clear HFj he1 i1 i2 hu HU
              have fin : Hid (∀ d : Int, (d = 2 ^ (8 * e)) → (y != x / d % 256) = false) := fun d hd => by rw [hd, hy]; simp
              clear hy
              obtain rfl : u = 0 := by omega
              · obtain rfl : e = 0 := by omega
                have hyv : (y != x % 256) = false := by have := fin.out 1 rfl; simpa using this
                clear fin hue hu03
                go_wp2_with fail
                go_roundw
                case rel => exact ⟨j + 1, by omega, by go_num, X4⟩
                case measure => simp [intOf]; omega
            · have hy := HFj.out
              rw [if_neg hin] at hy
              have hy' : (y != (3 * (j : Int) + 1) % 256) = false := by simpa using hy
              clear hy HFj
              by_cases hk0 : kk = 0
              · subst hk0
                by_cases i1 : ad ≤ j
                · have i2 : ¬ j < ad + 1 := fun h => hin ⟨rfl, i1, h⟩
                  have a0 : 0 ≤ u := by omega
                  have a1 : ¬ u < 1 := by omega
                  clear hin i1 i2 hu
                  go_wp2_with fail
                  go_roundw
                  case rel => exact ⟨j + 1, by omega, by go_num, X4⟩
                  case measure => simp [intOf]; omega
                · have a0 : ¬ 0 ≤ u := by omega
                  clear hin i1 hu
                  go_wp2_with fail
                  go_roundw
                  case rel => exact ⟨j + 1, by omega, by go_num, X4⟩
                  case measure => simp [intOf]; omega
              · have hk1 : (kk == 0) = false := by simpa using hk0
                clear hin hk0 hu
                go_wp2_with fail
                go_roundw
                case rel => exact ⟨j + 1, by omega, by go_num, X4⟩
                case measure => simp [intOf]; omega
          · obtain rfl : j = k := by omega
            have G5 := bel_trans G3 hX
            obtain ⟨c1, c2, c3⟩ := act_at (bel_heap hX R3)
            clear A3 R3 G3 hX
            rcases HC.out with ⟨rfl, rfl, _⟩ | ⟨e1, _, _⟩
            · clear HC
              go_wp2_with fail
              refine (head_any M _).mono ?_; rintro e w5 ⟨rfl, g5⟩
              go_wp2_with fail
              go_ret
              exact ⟨rfl, bel_trans G5 g5⟩
            · clear HC
              go_wp2_with fail
              refine (head_any M _).mono ?_; rintro e w5 ⟨rfl, g5⟩
              go_wp2_with fail
              go_ret
              exact ⟨rfl, bel_trans G5 g5⟩
end Go.Proofs.Ytbjnnlemgfbgnaa
