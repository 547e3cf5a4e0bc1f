/- The walk of layer 4's statement PsrWindows: it returns true; of what was there nothing has turned. -/
import Derived.Test.YtilocfcedcclfaaDoorPsrHead
namespace Go.Proofs.YtilocfcedcclfaaDoor
open Go.RowKit
set_option linter.unusedVariables false
def Win (x n : Int) : Prop := 2 ≤ n ∧ n ≤ 32 ∧ 0 ≤ x ∧ x < n
theorem next_both (x n : Int) : ∃ y k : Int,
    (∀ W : World, Calls Tryd.prog 12 #[.int .i64 x, .int .i64 n] W fun e w' => e = .returned (.tuple #[.int .i64 y, .int .i64 k]) ∧ Below W.heap.size W w') ∧
    (∀ W : World, Calls Tryd.prog 13 #[.int .i64 x, .int .i64 n, .int .i64 1] W fun e w' => e = .returned (.tuple #[.int .i64 y, .int .i64 k]) ∧ W = w') := by
  by_cases h : Win x n
  · exact ⟨(x + 1) % n, 0, fun W => Next_yes x n W h.1 h.2.1 h.2.2.1 h.2.2.2, fun W => rNext_yes x n 1 W h.1 h.2.1 h.2.2.1 h.2.2.2 (by decide) (by decide)⟩
  · exact ⟨0, 2, fun W => Next_no x n W h, fun W => rNext_no x n 1 W h⟩
theorem ahead_both (x n : Int) (hn : -9223372036854775808 ≤ n) : ∃ y k : Int,
    (∀ W : World, Calls Tryd.prog 14 #[.int .i64 x, .int .i64 n] W fun e w' => e = .returned (.tuple #[.int .i64 y, .int .i64 k]) ∧ Below W.heap.size W w') ∧
    (∀ W : World, Calls Tryd.prog 15 #[.int .i64 x, .int .i64 n] W fun e w' => e = .returned (.tuple #[.int .i64 y, .int .i64 k]) ∧ W = w') := by
  by_cases h : Win x n
  · refine ⟨(x + n - 1) % n, 0, fun W => Ahead_yes x n W h.1 h.2.1 h.2.2.1 h.2.2.2, fun W => ?_⟩
    rw [show x + n - 1 = x + (n - 1) by omega]
    exact rAhead_yes x n W h.1 h.2.1 h.2.2.1 h.2.2.2
  · exact ⟨0, 2, fun W => Ahead_no x n W h, fun W => rAhead_no x n W hn h⟩
theorem wim_both (x n : Int) : ∃ y k : Int,
    (∀ W : World, Calls Tryd.prog 16 #[.int .i64 x, .int .i64 n] W fun e w' => e = .returned (.tuple #[.int .u32 y, .int .i64 k]) ∧ Below W.heap.size W w') ∧
    (∀ W : World, Calls Tryd.prog 17 #[.int .i64 x, .int .i64 n] W fun e w' => e = .returned (.tuple #[.int .u32 y, .int .i64 k]) ∧ W = w') := by
  by_cases h : Win x n
  · obtain ⟨hn, hn', h0, h1⟩ := h
    obtain ⟨m, rfl⟩ : ∃ m : Nat, x = m := ⟨x.toNat, by omega⟩
    exact ⟨pw m, 0, fun W => Wim_yes m n W hn hn' h1, fun W => rWim_yes m n W hn hn' h1⟩
  · exact ⟨0, 2, fun W => Wim_no x n W h, fun W => rWim_no x n W h⟩
theorem invalid_both (v n : Int) (hv : 0 ≤ v ∧ v < 4294967296) : ∃ y k : Int,
    (∀ W : World, TabAt W → Calls Tryd.prog 18 #[.int .u32 v, .int .i64 n] W fun e w' => e = .returned (.tuple #[.int .i64 y, .int .i64 k]) ∧ Below W.heap.size W w') ∧
    (∀ W : World, Calls Tryd.prog 19 #[.int .u32 v, .int .i64 n] W fun e w' => e = .returned (.tuple #[.int .i64 y, .int .i64 k]) ∧ W = w') := by
  by_cases hn : 2 ≤ n ∧ n ≤ 32
  · by_cases h : ∃ x : Nat, (x : Int) < n ∧ v = pw x
    · obtain ⟨x, hx, rfl⟩ := h
      exact ⟨x, 0, fun W hT => Invalid_yes x n W hT hn.1 hn.2 hx, fun W => rInvalid_yes x n W hn.1 hn.2 hx⟩
    · have hh : ∀ x : Nat, (x : Int) < n → v ≠ pw x := fun x hx e => h ⟨x, hx, e⟩
      exact ⟨0, 5, fun W hT => Invalid_form v n W hT hv hn.1 hn.2 hh, fun W => rInvalid_form v n W hv hn.1 hn.2 hh⟩
  · exact ⟨0, 2, fun W _ => Invalid_arg v n W hn, fun W => rInvalid_arg v n W hn⟩
theorem ints_none (w : World) (f : Nat → Int) : Ints w (.slice none 0 0) 0 f := ⟨none, 0, rfl, fun h => absurd h (by decide)⟩
theorem resident_both (x v n : Int) (hv : 0 ≤ v ∧ v < 4294967296) : ∃ (m : Nat) (f : Nat → Int) (k : Int), m ≤ 32 ∧
    (∀ W : World, TabAt W → Calls Tryd.prog 20 #[.int .i64 x, .int .u32 v, .int .i64 n] W fun e w' => ∃ s, e = .returned (.tuple #[s, .int .i64 k]) ∧ Ints w' s m f ∧ Below W.heap.size W w') ∧
    (∀ W : World, Calls Tryd.prog 21 #[.int .i64 x, .int .u32 v, .int .i64 n] W fun e w' => ∃ s, e = .returned (.tuple #[s, .int .i64 k]) ∧ Ints w' s m f ∧ Below W.heap.size W w') := by
  by_cases h : Win x n
  · obtain ⟨hn, hn', h0, h1⟩ := h
    by_cases hy : ∃ y : Nat, (y : Int) < n ∧ v = pw y
    · obtain ⟨y, hy, rfl⟩ := hy
      have hd := dist_in ⟨h0, h1⟩ ⟨Int.natCast_nonneg y, hy⟩
      exact ⟨(dist x y n).toNat, win x n, 0, by omega, fun W hT => (Resident_yes x n y W hT hn hn' h0 h1 hy).mono (fun e w' ⟨s, h1, h2, h3⟩ => ⟨s, h1, row_ints h2, h3⟩), fun W => (rResident_yes x n y W hn hn' h0 h1 hy).mono (fun e w' ⟨s, h1, h2, h3⟩ => ⟨s, h1, row_ints h2, h3⟩)⟩
    · have hh : ∀ x : Nat, (x : Int) < n → v ≠ pw x := fun x hx e => hy ⟨x, hx, e⟩
      exact ⟨0, fun _ => 0, 5, by decide, fun W hT => (Resident_form x v n W hT hv hn hn' h0 h1 hh).mono (fun e w' ⟨h1, h2⟩ => ⟨_, h1, ints_none _ _, h2⟩), fun W => (rResident_form x v n W hv hn hn' h0 h1 hh).mono (fun e w' ⟨h1, h2⟩ => ⟨_, h1, ints_none _ _, h2 ▸ Below.refl _ _⟩)⟩
  · exact ⟨0, fun _ => 0, 2, by decide, fun W hT => (Resident_arg x v n W h).mono (fun e w' ⟨h1, h2⟩ => ⟨_, h1, ints_none _ _, h2⟩), fun W => (rResident_arg x v n W h).mono (fun e w' ⟨h1, h2⟩ => ⟨_, h1, ints_none _ _, h2 ▸ Below.refl _ _⟩)⟩
set_option maxHeartbeats 4000000 in
set_option maxRecDepth 100000 in
theorem windows_walk (x v n : Int) (hn : -9223372036854775808 ≤ n) (hv : 0 ≤ v ∧ v < 4294967296) (w : World) (hT : TabAt w) :
    Calls Tryd.prog 4 #[.int .i64 x, .int .u32 v, .int .i64 n] w fun e w' => e = .returned (.bool true) ∧ Below w.heap.size w w' := by
  obtain ⟨y0, k0, hA, hA'⟩ := next_both x n
  obtain ⟨y1, k1, hB, hB'⟩ := ahead_both x n hn
  obtain ⟨y2, k2, hC, hC'⟩ := wim_both x n
  obtain ⟨y3, k3, hD, hD'⟩ := invalid_both v n hv
  obtain ⟨m, f, k4, hm, hE, hE'⟩ := resident_both x v n hv
  have HA := Lib.hid hA
  have HA' := Lib.hid hA'
  have HB := Lib.hid hB
  have HB' := Lib.hid hB'
  have HC := Lib.hid hC
  have HC' := Lib.hid hC'
  have HD := Lib.hid hD
  have HD' := Lib.hid hD'
  have HE := Lib.hid hE
  have HE' := Lib.hid hE'
  have HM := Lib.hid hm
  have HT := Lib.hid hT
  clear hA hA' hB hB' hC hC' hD hD' hE hE' hm hT hn hv
  go_enter Tryd.func4, Tryd.ntmps4
  go_wp2_with fail
  refine (HA.out _).mono ?_; rintro e w1 ⟨rfl, g1⟩
  go_wp2_with fail
  refine (HA'.out _).mono ?_; rintro e w2 ⟨rfl, rfl⟩
  go_wp2_with fail
  refine (HB.out _).mono ?_; rintro e w2 ⟨rfl, g2⟩
  have G2 := bel_trans g1 g2
  clear g1 g2
  go_wp2_with fail
  refine (HB'.out _).mono ?_; rintro e w3 ⟨rfl, rfl⟩
  go_wp2_with fail
  refine (HC.out _).mono ?_; rintro e w3 ⟨rfl, g3⟩
  have G3 := bel_trans G2 g3
  clear G2 g3
  go_wp2_with fail
  refine (HC'.out _).mono ?_; rintro e w4 ⟨rfl, rfl⟩
  go_wp2_with fail
  refine (HD.out _ (HT.out.bel G3)).mono ?_; rintro e w4 ⟨rfl, g4⟩
  have G4 := bel_trans G3 g4
  clear G3 g4
  go_wp2_with fail
  refine (HD'.out _).mono ?_; rintro e w5 ⟨rfl, rfl⟩
  go_wp2_with fail
  refine (HE.out _ (HT.out.bel G4)).mono ?_; rintro e w5 ⟨s, rfl, hs, g5⟩
  have G5 := bel_trans G4 g5
  have HS := Lib.hid hs
  clear G4 g5 hs
  go_wp2_with fail
  refine (HE'.out _).mono ?_; rintro e w6 ⟨t, rfl, ht, g6⟩
  have G6 := bel_trans G5 g6
  have HS' := Lib.hid (HS.out.bel g6)
  have HL := Lib.hid ht
  clear G5 g6 ht HS
  go_wp2_with fail
  refine (ints_same s t m f f _ HM.out HS'.out HL.out (fun _ _ => rfl)).mono ?_; rintro e w7 ⟨rfl, g7⟩
  have G7 := bel_trans G6 g7
  clear G6 g7
  go_wp2_with fail
  refine (head_any _ (HT.out.bel G7)).mono ?_; rintro e w8 ⟨rfl, g8⟩
  go_wp2_with fail
  go_ret
  exact ⟨rfl, bel_trans G7 g8⟩
end Go.Proofs.YtilocfcedcclfaaDoor
