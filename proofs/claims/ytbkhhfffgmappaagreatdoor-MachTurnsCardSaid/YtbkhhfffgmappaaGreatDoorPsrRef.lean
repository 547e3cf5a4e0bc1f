/- The document's answers for layer 4, for any arguments: windows, May, Pack, Unpack, Next, Ahead. -/
import Derived.Test.YtbkhhfffgmappaaGreatDoorPsrOps
namespace Go.Proofs.YtbkhhfffgmappaaGreatDoor.P4
open Go.RowKit
set_option linter.unusedVariables false
theorem rwin_yes (n : Int) (w : World) (hn : 2 ≤ n) (hn' : n ≤ 32) : Calls Tryz.prog 140 #[.int .i64 n] w fun e w' => e = .returned (.bool true) ∧ w = w' := by
  go_enter Tryz.func140, Tryz.ntmps140
  go_wp2
  go_ret
  exact ⟨rfl, rfl⟩
theorem rwin_no (n : Int) (w : World) (h : ¬ (2 ≤ n ∧ n ≤ 32)) : Calls Tryz.prog 140 #[.int .i64 n] w fun e w' => e = .returned (.bool false) ∧ w = w' := by
  by_cases h2 : 2 ≤ n
  · have h3 : ¬ n ≤ 32 := by omega
    clear h
    go_enter Tryz.func140, Tryz.ntmps140
    go_wp2
    go_ret
    exact ⟨rfl, rfl⟩
  · clear h
    go_enter Tryz.func140, Tryz.ntmps140
    go_wp2
    go_ret
    exact ⟨rfl, rfl⟩
/-- May a state be? (of which the number of windows is asked elsewhere) -/
def May4 (a b c d n : Int) : Prop := a < n ∧ b ≤ 15 ∧ c ≤ 16 ∧ d ≤ 15
theorem may_yes (a b c d n : Int) (w : World) (ha : Byte a) (hb : Byte b) (hc : Byte c) (hd : Byte d) (h : May4 a b c d n) :
    Calls Tryz.prog 141 #[.agg #[.int .u8 a, .int .u8 b, .int .u8 c, .int .u8 d], .int .i64 n] w fun e w' => e = .returned (.bool true) ∧ Below w.heap.size w w' := by
  obtain ⟨ha0, ha1⟩ := ha
  obtain ⟨hb0, hb1⟩ := hb
  obtain ⟨hc0, hc1⟩ := hc
  obtain ⟨hd0, hd1⟩ := hd
  obtain ⟨h0, h1, h2, h3⟩ := h
  go_enter Tryz.func141, Tryz.ntmps141
  go_wp2
  go_ret
  exact ⟨rfl, by go_grown⟩
theorem may_no (a b c d n : Int) (w : World) (ha : Byte a) (hb : Byte b) (hc : Byte c) (hd : Byte d) (h : ¬ May4 a b c d n) :
    Calls Tryz.prog 141 #[.agg #[.int .u8 a, .int .u8 b, .int .u8 c, .int .u8 d], .int .i64 n] w fun e w' => e = .returned (.bool false) ∧ Below w.heap.size w w' := by
  obtain ⟨ha0, ha1⟩ := ha
  obtain ⟨hb0, hb1⟩ := hb
  obtain ⟨hc0, hc1⟩ := hc
  obtain ⟨hd0, hd1⟩ := hd
  unfold May4 at h
  by_cases h0 : a < n
  · by_cases h1 : b ≤ 15
    · by_cases h2 : c ≤ 16
      · have h3 : ¬ d ≤ 15 := by omega
        clear h
        go_enter Tryz.func141, Tryz.ntmps141
        go_wp2
        go_ret
        exact ⟨rfl, by go_grown⟩
      · clear h
        go_enter Tryz.func141, Tryz.ntmps141
        go_wp2
        go_ret
        exact ⟨rfl, by go_grown⟩
    · clear h
      go_enter Tryz.func141, Tryz.ntmps141
      go_wp2
      go_ret
      exact ⟨rfl, by go_grown⟩
  · clear h
    go_enter Tryz.func141, Tryz.ntmps141
    go_wp2
    go_ret
    exact ⟨rfl, by go_grown⟩
theorem rPack_no (a b c d n : Int) (w : World) (ha : Byte a) (hb : Byte b) (hc : Byte c) (hd : Byte d) (h : ¬ State a b c d n) :
    Calls Tryz.prog 104 #[.agg #[.int .u8 a, .int .u8 b, .int .u8 c, .int .u8 d], .int .i64 n] w fun e w' => e = .returned (.tuple #[.int .u32 0, .int .i64 2]) ∧ Below w.heap.size w w' := by
  by_cases hn : 2 ≤ n ∧ n ≤ 32
  · have hm : Hid (¬ May4 a b c d n) := fun m => h ⟨hn.1, hn.2, m⟩
    obtain ⟨hn, hn'⟩ := hn
    clear h
    go_enter Tryz.func104, Tryz.ntmps104
    go_wp2_with fail
    refine (rwin_yes n _ hn hn').mono ?_; rintro e w1 ⟨rfl, rfl⟩
    go_wp2_with fail
    refine (may_no a b c d n _ ha hb hc hd hm.out).mono ?_; rintro e w1 ⟨rfl, g1⟩
    go_wp2_with fail
    go_ret2
    exact ⟨rfl, bel_trans ((Below.refl _ _).alloc (Nat.le_refl _) _) g1⟩
  · have H := Lib.hid hn
    clear h hn
    go_enter Tryz.func104, Tryz.ntmps104
    go_wp2_with fail
    refine (rwin_no n _ H.out).mono ?_; rintro e w1 ⟨rfl, rfl⟩
    go_wp2_with fail
    go_ret2
    exact ⟨rfl, by go_grown⟩
theorem rPack_yes (a b c d n : Int) (w : World) (ha : Byte a) (hb : Byte b) (hc : Byte c) (hd : Byte d) (h : State a b c d n) :
    Calls Tryz.prog 104 #[.agg #[.int .u8 a, .int .u8 b, .int .u8 c, .int .u8 d], .int .i64 n] w fun e w' => e = .returned (.tuple #[.int .u32 (pword a b c d), .int .i64 0]) ∧ Below w.heap.size w w' := by
  have hm : Hid (May4 a b c d n) := h.2.2
  obtain ⟨hn, hn', h0, h1, h2, h3⟩ := h
  go_enter Tryz.func104, Tryz.ntmps104
  go_wp2_with fail
  refine (rwin_yes n _ hn hn').mono ?_; rintro e w1 ⟨rfl, rfl⟩
  go_wp2_with fail
  refine (may_yes a b c d n _ ha hb hc hd hm.out).mono ?_; rintro e w1 ⟨rfl, g1⟩
  have S1 : SB w w.heap.size #[.int .u8 a, .int .u8 b, .int .u8 c, .int .u8 d] 24 w1 := SB.more ⟨row_born rfl, (Below.refl _ _).alloc (Nat.le_refl _) _⟩ g1
  clear g1
  obtain ⟨c0, c1, c2, c3, S1⟩ := S1.all4
  have g1 := S1.bel
  clear S1
  obtain ⟨ha0, ha1⟩ := ha
  obtain ⟨hb0, hb1⟩ := hb
  obtain ⟨hc0, hc1⟩ := hc
  obtain ⟨hd0, hd1⟩ := hd
  go_wp2
  go_ret2
  exact ⟨by unfold pword; rfl, g1⟩
/-- The state of any word, by the document's own sums. -/
theorem rUnpack_arg (v n : Int) (w : World) (h : ¬ (2 ≤ n ∧ n ≤ 32)) : Calls Tryz.prog 119 #[.int .u32 v, .int .i64 n] w fun e w' => e = .returned (.tuple #[.agg #[.int .u8 0, .int .u8 0, .int .u8 0, .int .u8 0], .int .i64 2]) ∧ Below w.heap.size w w' := by
  have H := Lib.hid h
  clear h
  go_enter Tryz.func119, Tryz.ntmps119
  go_wp2_with fail
  refine (rwin_no n _ H.out).mono ?_; rintro e w1 ⟨rfl, rfl⟩
  go_wp2_with fail
  refine bodyPost_ret (v := .tuple #[.agg #[.int .u8 0, .int .u8 0, .int .u8 0, .int .u8 0], .int .i64 2]) ?_ rfl ⟨rfl, by go_grown⟩
  simp [results, Tryz.results119, go_sem]
theorem rUnpack_yes (v n : Int) (w : World) (hv : 0 ≤ v ∧ v < 262144) (h : WState v n) : Calls Tryz.prog 119 #[.int .u32 v, .int .i64 n] w fun e w' => e = .returned (.tuple #[.agg #[.int .u8 (v % 32), .int .u8 (v / 32 % 16), .int .u8 (v / 512 % 32), .int .u8 (v / 16384 % 16)], .int .i64 0]) ∧ Below w.heap.size w w' := by
  obtain ⟨b0, b1, b2, b3⟩ := parts_byte v
  have hm : Hid (May4 (v % 32) (v / 32 % 16) (v / 512 % 32) (v / 16384 % 16) n) := h.2.2
  obtain ⟨hn, hn', _⟩ := h
  obtain ⟨hv0, hv1⟩ := hv
  have hge : ¬ 262144 ≤ v := by omega
  go_enter Tryz.func119, Tryz.ntmps119
  go_wp2_with fail
  refine (rwin_yes n _ hn hn').mono ?_; rintro e w1 ⟨rfl, rfl⟩
  go_wp2_with fail
  refine (may_yes _ _ _ _ n _ b0 b1 b2 b3 hm.out).mono ?_; rintro e w1 ⟨rfl, g1⟩
  have R1 : w1.heap[w.heap.size]? = some (.cells #[.int .u8 0, .int .u8 0, .int .u8 0, .int .u8 0] 24 (0, 0)) := bel_heap g1 (row_alloc (row_born rfl))
  have G1 := bel_trans (bel_trans ((Below.refl _ _).alloc (Nat.le_refl _) _) ((Below.refl _ _).alloc (Nat.le_refl _) _)) g1
  have P1 : w1.heap[w.heap.size + 1]? = some (.cells #[.int .u8 (v % 32), .int .u8 (v / 32 % 16), .int .u8 (v / 512 % 32), .int .u8 (v / 16384 % 16)] 24 (0, 0)) := bel_heap g1 (row_born (by simp))
  clear g1 hm b0 b1 b2 b3
  obtain ⟨⟨c0, c1, c2, c3⟩, f0, f1, f2, f3⟩ := four_at R1
  obtain ⟨⟨d0, d1, d2, d3⟩, _⟩ := four_at P1
  go_wp2_with fail
  have G5 := put4_bel (y0 := .int .u8 (v % 32)) (y1 := .int .u8 (v / 32 % 16)) (y2 := .int .u8 (v / 512 % 32)) (y3 := .int .u8 (v / 16384 % 16)) G1 (Nat.le_refl _)
  obtain ⟨⟨q0, q1, q2, q3⟩, _⟩ := four_at (put4_row (y0 := .int .u8 (v % 32)) (y1 := .int .u8 (v / 32 % 16)) (y2 := .int .u8 (v / 512 % 32)) (y3 := .int .u8 (v / 16384 % 16)) R1)
  clear c0 c1 c2 c3 d0 d1 d2 d3 f0 f1 f2 f3 R1 G1 P1
  refine bodyPost_ret (v := .tuple #[.agg #[.int .u8 (v % 32), .int .u8 (v / 32 % 16), .int .u8 (v / 512 % 32), .int .u8 (v / 16384 % 16)], .int .i64 0]) ?_ rfl ⟨rfl, G5⟩
  simp [results, Tryz.results119, go_sem, q0, q1, q2, q3]
theorem rUnpack_form (v n : Int) (w : World) (hn : 2 ≤ n) (hn' : n ≤ 32) (hv : 0 ≤ v ∧ v < 4294967296) (h : ¬ (v < 262144 ∧ WState v n)) : Calls Tryz.prog 119 #[.int .u32 v, .int .i64 n] w fun e w' => e = .returned (.tuple #[.agg #[.int .u8 0, .int .u8 0, .int .u8 0, .int .u8 0], .int .i64 5]) ∧ Below w.heap.size w w' := by
  obtain ⟨b0, b1, b2, b3⟩ := parts_byte v
  obtain ⟨hv0, hv1⟩ := hv
  by_cases hge : 262144 ≤ v
  · clear h b0 b1 b2 b3
    go_enter Tryz.func119, Tryz.ntmps119
    go_wp2_with fail
    refine (rwin_yes n _ hn hn').mono ?_; rintro e w1 ⟨rfl, rfl⟩
    go_wp2_with fail
    refine bodyPost_ret (v := .tuple #[.agg #[.int .u8 0, .int .u8 0, .int .u8 0, .int .u8 0], .int .i64 5]) ?_ rfl ⟨rfl, by go_grown⟩
    simp [results, Tryz.results119, go_sem]
  · have hm : Hid (¬ May4 (v % 32) (v / 32 % 16) (v / 512 % 32) (v / 16384 % 16) n) := fun m => h ⟨by omega, hn, hn', m⟩
    clear h
    go_enter Tryz.func119, Tryz.ntmps119
    go_wp2_with fail
    refine (rwin_yes n _ hn hn').mono ?_; rintro e w1 ⟨rfl, rfl⟩
    go_wp2_with fail
    refine (may_no _ _ _ _ n _ b0 b1 b2 b3 hm.out).mono ?_; rintro e w1 ⟨rfl, g1⟩
    have R1 : w1.heap[w.heap.size]? = some (.cells #[.int .u8 0, .int .u8 0, .int .u8 0, .int .u8 0] 24 (0, 0)) := bel_heap g1 (row_alloc (row_born rfl))
    have G1 := bel_trans (bel_trans ((Below.refl _ _).alloc (Nat.le_refl _) _) ((Below.refl _ _).alloc (Nat.le_refl _) _)) g1
    clear g1 hm b0 b1 b2 b3
    obtain ⟨⟨c0, c1, c2, c3⟩, f0, f1, f2, f3⟩ := four_at R1
    go_wp2_with fail
    have G5 := put4_bel (y0 := .int .u8 0) (y1 := .int .u8 0) (y2 := .int .u8 0) (y3 := .int .u8 0) G1 (Nat.le_refl _)
    obtain ⟨⟨q0, q1, q2, q3⟩, _⟩ := four_at (put4_row (y0 := .int .u8 0) (y1 := .int .u8 0) (y2 := .int .u8 0) (y3 := .int .u8 0) R1)
    clear c0 c1 c2 c3 f0 f1 f2 f3 R1 G1
    refine bodyPost_ret (v := .tuple #[.agg #[.int .u8 0, .int .u8 0, .int .u8 0, .int .u8 0], .int .i64 5]) ?_ rfl ⟨rfl, G5⟩
    simp [results, Tryz.results119, go_sem, q0, q1, q2, q3]
theorem rNext_no (x n k : Int) (w : World) (h : ¬ (2 ≤ n ∧ n ≤ 32 ∧ 0 ≤ x ∧ x < n)) : Calls Tryz.prog 116 #[.int .i64 x, .int .i64 n, .int .i64 k] w fun e w' => e = .returned (.tuple #[.int .i64 0, .int .i64 2]) ∧ w = w' := by
  by_cases hn : 2 ≤ n ∧ n ≤ 32
  · by_cases h0 : x < 0
    · obtain ⟨hn, hn'⟩ := hn
      clear h
      go_enter Tryz.func116, Tryz.ntmps116
      go_wp2_with fail
      refine (rwin_yes n _ hn hn').mono ?_; rintro e w1 ⟨rfl, rfl⟩
      go_wp2_with fail
      go_ret2
      exact ⟨rfl, rfl⟩
    · have h1 : n ≤ x := by omega
      obtain ⟨hn, hn'⟩ := hn
      clear h
      go_enter Tryz.func116, Tryz.ntmps116
      go_wp2_with fail
      refine (rwin_yes n _ hn hn').mono ?_; rintro e w1 ⟨rfl, rfl⟩
      go_wp2_with fail
      go_ret2
      exact ⟨rfl, rfl⟩
  · have H := Lib.hid hn
    clear h hn
    go_enter Tryz.func116, Tryz.ntmps116
    go_wp2_with fail
    refine (rwin_no n _ H.out).mono ?_; rintro e w1 ⟨rfl, rfl⟩
    go_wp2_with fail
    go_ret2
    exact ⟨rfl, rfl⟩
theorem rNext_yes (x n k : Int) (w : World) (hn : 2 ≤ n) (hn' : n ≤ 32) (h0 : 0 ≤ x) (h1 : x < n) (hk : 0 ≤ k) (hk' : k < 32) : Calls Tryz.prog 116 #[.int .i64 x, .int .i64 n, .int .i64 k] w fun e w' => e = .returned (.tuple #[.int .i64 ((x + k) % n), .int .i64 0]) ∧ w = w' := by
  have h2 : ¬ x < 0 := by omega
  have h3 : ¬ n ≤ x := by omega
  go_enter Tryz.func116, Tryz.ntmps116
  go_wp2_with fail
  refine (rwin_yes n _ hn hn').mono ?_; rintro e w1 ⟨rfl, rfl⟩
  go_wp2_with fail
  go_ret2
  exact ⟨rfl, rfl⟩
theorem rAhead_no (x n : Int) (w : World) (hin : -9223372036854775808 ≤ n) (h : ¬ (2 ≤ n ∧ n ≤ 32 ∧ 0 ≤ x ∧ x < n)) : Calls Tryz.prog 115 #[.int .i64 x, .int .i64 n] w fun e w' => e = .returned (.tuple #[.int .i64 0, .int .i64 2]) ∧ w = w' := by
  have H := Lib.hid h
  clear h
  go_enter Tryz.func115, Tryz.ntmps115
  go_wp2_with fail
  refine (rNext_no x n _ _ H.out).mono ?_; rintro e w1 ⟨rfl, rfl⟩
  go_wp2_with fail
  go_ret2
  exact ⟨rfl, rfl⟩
theorem rAhead_yes (x n : Int) (w : World) (hn : 2 ≤ n) (hn' : n ≤ 32) (h0 : 0 ≤ x) (h1 : x < n) : Calls Tryz.prog 115 #[.int .i64 x, .int .i64 n] w fun e w' => e = .returned (.tuple #[.int .i64 ((x + (n - 1)) % n), .int .i64 0]) ∧ w = w' := by
  go_enter Tryz.func115, Tryz.ntmps115
  go_wp2_with fail
  refine (rNext_yes x n (n - 1) _ hn hn' h0 h1 (by omega) (by omega)).mono ?_; rintro e w1 ⟨rfl, rfl⟩
  go_wp2_with fail
  go_ret2
  exact ⟨rfl, rfl⟩
end Go.Proofs.YtbkhhfffgmappaaGreatDoor.P4
