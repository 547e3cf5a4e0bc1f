/- The walk of layer 5's statement MemWords, over the contracts wanted of package mem. -/
import Derived.Test.YtbjnnlemgfbgnaaMemKeeps
namespace Go.Proofs.Ytbjnnlemgfbgnaa
open Go.RowKit
set_option linter.unusedVariables false
theorem ldB_congr {f f' : Nat → Int} (a : Nat) : ∀ m, (∀ j, j < m → f (a + j) = f' (a + j)) → ldB f a m = ldB f' a m
  | 0, _ => rfl
  | m + 1, h => by
    unfold ldB
    rw [ldB_congr a m (fun j hj => h j (by omega)), h m (by omega)]
theorem ld_pt (f : Nat → Int) (a : Nat) (h : Nat → Int) (hh : ∀ i, 0 ≤ h i ∧ h i < 4294967296) : ∀ n i, i < n → ldB (ptB f a h n) (a + 4 * i) 4 = h i
  | 0, _, hi => absurd hi (by omega)
  | n + 1, i, hi => by
    unfold ptB
    by_cases e : i = n
    · subst e; exact ld_st4 _ _ (hh i)
    · rw [← ld_pt f a h hh n i (by omega)]
      exact ldB_congr _ 4 (fun j hj => by unfold stB; rw [if_neg (by omega)])
theorem words_thE {n a m : Nat} (h : a + m ≤ n) (hm : m = 1 ∨ m = 4 ∧ a % 4 = 0) : thE n a m = 0 := by unfold thE; rw [if_neg (by omega), if_neg (by omega), if_neg (by omega)]
theorem words_spE {n a m : Nat} (h : a + 4 * m ≤ n) (ha : a % 4 = 0) : spE n a m = 0 := by unfold spE; rw [if_neg (by omega), if_neg (by omega), if_neg (by omega)]
theorem words_spE_no {n a m : Int} (h : n < a + 4 * m) (h0 : 0 ≤ m) (ha : a % 4 = 0) : spE n a m = 50 := by unfold spE; rw [if_neg (by omega), if_neg (by omega), if_pos (by omega)]
set_option maxHeartbeats 4000000 in
set_option maxRecDepth 100000 in
theorem words_walk (M : MemC) (p : Option Addr) (n c : Nat) (h : Nat → Int) (at0 fr : Int) (hat : 0 ≤ at0 ∧ at0 < 256) (hfr : 0 ≤ fr ∧ fr < 256) (hh : ∀ i, 0 ≤ h i ∧ h i < 4294967296) (hnc : n ≤ c) (hc : (n : Int) ≤ 9223372036854775807) (w : World) (hl : Sl .u32 w (.slice p n c) n h) :
    Calls Try.prog 6 #[.slice p n c, .int .u8 at0, .int .u8 fr] w fun e w' => e = .returned (.bool true) ∧ Below w.heap.size w w' := by
  have HL := Lib.hid hl
  have HH := Lib.hid hh
  clear hl hh
  by_cases h60 : (60 : Int) < n
  · go_enter Try.func6, Try.ntmps6
    go_wp2_with fail
    refine (head_any M _).mono ?_; rintro e w5 ⟨rfl, g5⟩
    go_wp2_with fail
    go_ret
    exact ⟨rfl, g5⟩
  obtain ⟨a, rfl⟩ : ∃ a : Nat, at0 = a := ⟨at0.toNat, by omega⟩
  have hn60 : n ≤ 60 := by omega
  have ha256 : (a : Int) < 256 := by omega
  clear hat hc
  go_enter Try.func6, Try.ntmps6
  go_wp2_with fail
  obtain ⟨N, hN⟩ : ∃ N : Nat, 4 * ((a : Int) + (n : Int)) = N := ⟨4 * (a + n), by omega⟩
  obtain ⟨A, hA⟩ : ∃ A : Nat, 4 * (a : Int) = A := ⟨4 * a, by omega⟩
  have hNA : N = A + 4 * n := by omega
  have hA4 : A % 4 = 0 := by omega
  have hA1024 : A < 1024 := by omega
  have HN := Lib.hid hN
  have HA4 := Lib.hid hA
  rw [hN]
  have HNA := Lib.hid hNA
  have hN1300 : N < 1300 := by omega
  have hmay : MaySize N := ⟨by omega, by omega, by omega⟩
  clear hN hA hNA
  refine (M.new_yes N _ hmay).mono ?_; rintro e w1 ⟨v, g, rfl, A1, hgB, G1⟩
  obtain ⟨q, rfl⟩ := M.ptr A1
  have L1 := HL.out.bel G1
  go_wp2_with fail
  rw [HA4.out]
  refine (M.put_yes A A1 L1 HH.out (words_spE (by have := HNA.out; omega) hA4)).mono ?_; rintro e w2 ⟨rfl, A2, k2⟩
  have L2 := Lib.hid (HL.out.bel (only_bel G1 k2 hgB))
  have G2 := only_bel G1 k2 hgB
  clear A1 L1 G1 k2 hgB
  have HF : Hid (∀ i, i < n → ldB (ptB (fun _ => 0) A h n) (A + 4 * i) 4 = h i) := fun i hi => ld_pt _ A h HH.out n i hi
  generalize ptB (fun _ => 0) A h n = F at *
  by_cases hn0 : n = 0
  · subst hn0
    have s2 : spE N (A : Int) 1 = 50 := words_spE_no (by have := HNA.out; omega) (by omega) (by omega)
    have S2 := Lib.hid s2
    clear s2
    go_wp2_with fail
    rw [HA4.out]
    refine (M.words_yes A 0 A2 (words_spE (by have := HNA.out; omega) hA4)).mono ?_; rintro e w3 ⟨s, rfl, hs, g3⟩
    have A3 := M.bel A2 g3
    have G3 := bel_trans G2 g3
    have HS := Lib.hid hs
    clear A2 G2 g3 hs
    go_wp2_with fail
    refine (words_same s _ 0 _ h _ (by decide) HS.out (Sl.nil _ _ _ _ _) (fun i hi => absurd hi (by omega))).mono ?_; rintro e w4 ⟨rfl, g4⟩
    have A4' := M.bel A3 g4
    have G4 := bel_trans G3 g4
    clear A3 G3 g4 HS
    go_wp2_with fail
    go_loopw [13] (fun i wr => i = .int .i64 0 ∧ Below w4.heap.size w4 wr) (fun _ _ => 0)
    case atStart => exact ⟨rfl, Below.refl _ _⟩
    case round =>
      obtain ⟨rfl, hX⟩ := hrel
      have A5 := M.bel A4' hX
      have G5 := bel_trans G4 hX
      clear A4' G4 hX
      go_wp2_with fail
      rw [HA4.out]
      refine (M.words_yes A 0 A5 (words_spE (by have := HNA.out; omega) hA4)).mono ?_; rintro e w6 ⟨s6, rfl, hs6, g6⟩
      have A7 := M.bel A5 g6
      have G7 := bel_trans G5 g6
      have HS7 := Lib.hid hs6
      clear A5 G5 g6 hs6
      go_wp2_with fail
      rw [HA4.out]
      refine (M.words_no (A : Int) 1 A7 (by omega) (by omega) (by rw [S2.out]; decide)).mono ?_; rintro e w7 ⟨s7, rfl, hs7, g7⟩
      rw [S2.out]
      have G8 := bel_trans G7 g7
      have HS8 := Lib.hid (HS7.out.bel g7)
      clear A7 G7 g7 hs7 HS7
      go_wp2_with fail
      refine (words_same s6 _ 0 _ h _ (by decide) HS8.out (Sl.nil _ _ _ _ _) (fun i hi => absurd hi (by omega))).mono ?_; rintro e w8 ⟨rfl, g8⟩
      have G9 := bel_trans G8 g8
      clear G8 g8 HS8
      go_wp2_with fail
      refine (head_any M _).mono ?_; rintro e w9 ⟨rfl, g9⟩
      go_wp2_with fail
      go_ret
      exact ⟨rfl, bel_trans G9 g9⟩
  · have hnp : (0 : Int) < n := by omega
    obtain ⟨k, hk⟩ : ∃ k : Nat, fr % (n : Int) = k := ⟨(fr % (n : Int)).toNat, (Int.toNat_of_nonneg (Int.emod_nonneg _ (by omega))).symm⟩
    have hkn : k < n := by have := Int.emod_lt_of_pos fr hnp; omega
    have hk60 : (k : Int) < 60 := by omega
    have hkn' : (k : Int) < n := by omega
    have hak : (a : Int) + (k : Int) < 316 := by omega
    go_wp2_with fail
    obtain ⟨r, hr⟩ : ∃ r : Nat, (n : Int) - (k : Int) = r := ⟨n - k, by omega⟩
    have hB : 4 * ((a : Int) + (k : Int)) = ((A + 4 * k : Nat) : Int) := by have := HA4.out; omega
    rw [hr, hB]
    refine (M.words_yes (A + 4 * k) r A2 (words_spE (by have := HNA.out; omega) (by omega))).mono ?_; rintro e w3 ⟨s, rfl, hs, g3⟩
    have A3 := M.bel A2 g3
    have L3 := Lib.hid (L2.out.bel g3)
    have HS := Lib.hid hs
    have G3 := bel_trans G2 g3
    clear A2 L2 G2 g3 hs
    have HR := Lib.hid hr
    have HBk := Lib.hid hB
    clear hr hB
    obtain ⟨p', c', hpc, hcs⟩ := L3.out
    obtain ⟨rfl, rfl⟩ : p = p' ∧ c = c' := by simp only [Value.slice.injEq, true_and] at hpc; exact hpc
    obtain ⟨b, o, rfl, hcc⟩ := hcs (by omega)
    have HCC := Lib.hid hcc
    have hc60 : k ≤ c := by omega
    clear hcs hpc hcc
    go_wp2_with fail
    obtain rfl : r = n - k := by have := HR.out; omega
    refine (words_same s _ (n - k) _ (fun i => h (k + i)) _ (by omega) HS.out ⟨_, _, rfl, fun _ => ⟨b, o + k, rfl, fun i hi => by rw [Nat.add_assoc]; exact HCC.out (k + i) (by omega)⟩⟩ (fun i hi => by
      unfold wdB; rw [show A + 4 * k + 4 * i = A + 4 * (k + i) by omega]; exact HF.out (k + i) (by omega))).mono ?_; rintro e w4 ⟨rfl, g4⟩
    have A4' := M.bel A3 g4
    have G4 := bel_trans G3 g4
    have HC4 : Hid (∀ i, i < n → w4.cell? ⟨b, o + i, none⟩ = some (.int .u32 (h i))) := fun i hi => bel_cell g4 (HCC.out i hi)
    clear A3 G3 g4 HCC HS L3 HR HBk
    have HBy := Lib.hid (M.bytes A4')
    go_wp2_with fail
    go_loopw [13] (fun i wr => ∃ j : Nat, j ≤ n ∧ i = .int .i64 j ∧ Below w4.heap.size w4 wr) (fun i _ => n - (intOf i).toNat)
    case atStart => exact ⟨0, by omega, rfl, Below.refl _ _⟩
    case round =>
      obtain ⟨j, hj, rfl, hX⟩ := hrel
      by_cases hlt : j < n
      · have hj60 : (j : Int) < 60 := by omega
        generalize hV : wr = V at *
        clear hV wr
        go_wp2_with fail
        go_loopw [14, 15] (fun x i wr => ∃ t : Nat, t ≤ 4 ∧ i = .int .i64 t ∧ x = .int .u32 (ldB F (A + 4 * j) t) ∧ Below w4.heap.size w4 wr) (fun _ i _ => 4 - (intOf i).toNat)
        case atStart => exact ⟨0, by omega, rfl, rfl, hX⟩
        case round =>
          obtain ⟨t, ht, rfl, rfl, hY⟩ := hrel
          by_cases hlt4 : t < 4
          · have ht4 : (t : Int) < 4 := by omega
            have HLb := Lib.hid (load_byte M (M.bel A4' hY) (k := A + 4 * j + t) (by have := HNA.out; omega) wr (Below.refl _ _))
            obtain ⟨l0, l1⟩ := ldB_small (ldB_in HBy.out (A + 4 * j)) (k := t) (by omega)
            obtain ⟨f0, f1⟩ := HBy.out (A + 4 * j + t)
            have hsx : Hid (256 * ldB F (A + 4 * j) t + F (A + 4 * j + t) = ldB F (A + 4 * j) (t + 1)) := rfl
            generalize ldB F (A + 4 * j) t = x at *
            generalize F (A + 4 * j + t) = y at *
            have hb : 256 * x + y < 4294967296 := by omega
            go_wp2_with fail
            rw [show 4 * (a : Int) + (4 * (j : Int) + (t : Int)) = ((A + 4 * j + t : Nat) : Int) by have := HA4.out; omega]
            refine (HLb.out).mono ?_; rintro e w5 ⟨rfl, g5⟩
            have Y5 := bel_trans hY g5
            clear HLb g5 hY
            go_wp2_with fail
            go_roundw
            case rel => exact ⟨t + 1, by omega, by go_num, by rw [← hsx.out], Y5⟩
            case measure => simp [intOf]; omega
          · obtain rfl : t = 4 := by omega
            rw [HF.out j hlt]
            have cj := bel_cell hY (HC4.out j hlt)
            obtain ⟨h0, h1⟩ := HH.out j
            generalize h j = x at *
            go_wp2_with fail
            go_roundw
            case rel => exact ⟨j + 1, by omega, by go_num, hY⟩
            case measure => simp [intOf]; omega
      · obtain rfl : j = n := by omega
        have A5 := M.bel A4' hX
        have G5 := bel_trans G4 hX
        have L5 : Hid (Sl .u32 wr (.slice (some ⟨b, o, none⟩) j c) j h) := ⟨_, _, rfl, fun _ => ⟨b, o, rfl, fun i hi => bel_cell hX (HC4.out i hi)⟩⟩
        clear A4' G4 hX HC4
        have hj60 : (j : Int) < 60 ∨ (j : Int) = 60 := by omega
        have s1 : spE N ((A + 4 : Nat) : Int) j = 50 := words_spE_no (by have := HNA.out; omega) (by omega) (by omega)
        have s2 : spE N (A : Int) ((j : Int) + 1) = 50 := words_spE_no (by have := HNA.out; omega) (by omega) (by omega)
        have HP := Lib.hid (M.put_no ((A + 4 : Nat) : Int) A5 L5.out (by omega) (by omega) (by rw [s1]; decide))
        rw [s1] at HP
        have S2 := Lib.hid s2
        have hA4' : 4 * (a : Int) + 4 = ((A + 4 : Nat) : Int) := by have := HA4.out; omega
        have HA44 := Lib.hid hA4'
        clear s1 s2 hA4'
        go_wp2_with fail
        rw [HA44.out]
        refine (HP.out).mono ?_; rintro e w5 ⟨rfl, g5⟩
        have A6 := M.bel A5 g5
        have G6 := bel_trans G5 g5
        have L6 := Lib.hid (L5.out.bel g5)
        clear HP A5 G5 L5 g5
        go_wp2_with fail
        rw [HA4.out]
        refine (M.words_yes A j A6 (words_spE (by have := HNA.out; omega) hA4)).mono ?_; rintro e w6 ⟨s6, rfl, hs6, g6⟩
        have A7 := M.bel A6 g6
        have G7 := bel_trans G6 g6
        have L7 := Lib.hid (L6.out.bel g6)
        have HS7 := Lib.hid hs6
        clear A6 G6 L6 g6 hs6
        go_wp2_with fail
        rw [HA4.out]
        refine (M.words_no (A : Int) ((j : Int) + 1) A7 (by omega) (by omega) (by rw [S2.out]; decide)).mono ?_; rintro e w7 ⟨s7, rfl, hs7, g7⟩
        rw [S2.out]
        have G8 := bel_trans G7 g7
        have L8 := Lib.hid (L7.out.bel g7)
        have HS8 := Lib.hid (HS7.out.bel g7)
        clear A7 G7 L7 g7 hs7 HS7
        go_wp2_with fail
        refine (words_same s6 _ j _ h _ (by omega) HS8.out L8.out (fun i hi => HF.out i hi)).mono ?_; rintro e w8 ⟨rfl, g8⟩
        have G9 := bel_trans G8 g8
        clear G8 g8 HS8 L8
        go_wp2_with fail
        refine (head_any M _).mono ?_; rintro e w9 ⟨rfl, g9⟩
        go_wp2_with fail
        go_ret
        exact ⟨rfl, bel_trans G9 g9⟩
end Go.Proofs.Ytbjnnlemgfbgnaa
