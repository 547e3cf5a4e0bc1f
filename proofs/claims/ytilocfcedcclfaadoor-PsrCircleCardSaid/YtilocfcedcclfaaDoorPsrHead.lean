/- The head of layer 4's statements: its calls' answers are the document's. -/
import Derived.Test.YtilocfcedcclfaaDoorPsrRefB
import Derived.Deep.RegionHeld3
namespace Go.Proofs.YtilocfcedcclfaaDoor
open Go.RowKit
set_option linter.unusedVariables false
theorem pw_small (v : Int) (h : ∀ x : Fin 32, v ≠ pw x.val) (n : Int) (hn : n ≤ 32) : ∀ x : Nat, (x : Int) < n → v ≠ pw x := fun x hx => h ⟨x, by omega⟩
theorem nine_not : ∀ x : Nat, (x : Int) < 8 → (9 : Int) ≠ pw x := pw_small 9 (by decide +kernel) 8 (by decide)
theorem big_not : ∀ x : Nat, (x : Int) < 8 → (256 : Int) ≠ pw x := fun x hx => by
  have : ∀ x : Fin 8, (256 : Int) ≠ pw x.val := by decide +kernel
  exact this ⟨x, by omega⟩
set_option maxHeartbeats 2000000 in
set_option maxRecDepth 100000 in
theorem head_any (w : World) (hT : TabAt w) : Calls Tryd.prog 11 #[] w fun e w' => e = .returned (.bool true) ∧ Below w.heap.size w w' := by
  have HT := Lib.hid hT
  clear hT
  go_enter Tryd.func11, Tryd.ntmps11
  go_wp2_with fail
  refine (Pack_yes 3 2 16 9 8 _ ⟨by decide, by decide⟩ ⟨by decide, by decide⟩ ⟨by decide, by decide⟩ ⟨by decide, by decide⟩ (by unfold State; omega)).mono ?_; rintro e w1 ⟨rfl, g1⟩
  rw [show pword 3 2 16 9 = 155715 from rfl]
  go_wp2_with fail
  refine (Unpack_yes 155715 8 _ (by omega) (by unfold WState State; omega)).mono ?_; rintro e w2 ⟨rfl, g2⟩
  have G2 := bel_trans g1 g2
  clear g1 g2
  rw [show (155715 : Int) % 32 = 3 from rfl, show (155715 : Int) / 32 % 16 = 2 from rfl, show (155715 : Int) / 512 % 32 = 16 from rfl, show (155715 : Int) / 16384 % 16 = 9 from rfl]
  go_wp2_with fail
  refine (Unpack_form 155715 3 _ (by omega) (by omega) (by omega) (by unfold WState State; omega)).mono ?_; rintro e w3 ⟨rfl, g3⟩
  have R3 : w3.heap[w2.heap.size]? = some (.cells #[.int .u8 3, .int .u8 2, .int .u8 16, .int .u8 9] 23 (0, 0)) := bel_heap g3 (row_born rfl)
  have G3 := bel_trans (bel_trans G2 ((Below.refl _ _).alloc (Nat.le_refl _) _)) g3
  generalize w2.heap.size = z at R3 ⊢
  clear g3 G2 w1 w2
  go_wp2_with fail
  refine (Unpack_form 262144 8 _ (by omega) (by omega) (by omega) (by omega)).mono ?_; rintro e w4 ⟨rfl, g4⟩
  have R4 := bel_heap g4 (row_alloc R3)
  have G4 := bel_trans (bel_trans G3 ((Below.refl _ _).alloc (Nat.le_refl _) _)) g4
  clear g4 R3 G3
  go_wp2_with fail
  refine (Next_yes 7 8 _ (by omega) (by omega) (by omega) (by omega)).mono ?_; rintro e w5 ⟨rfl, g5⟩
  rw [show ((7 : Int) + 1) % 8 = 0 from rfl]
  have R5 := bel_heap g5 (row_alloc R4)
  have G5 := bel_trans (bel_trans G4 ((Below.refl _ _).alloc (Nat.le_refl _) _)) g5
  clear g5 R4 G4
  go_wp2_with fail
  refine (Ahead_yes 0 8 _ (by omega) (by omega) (by omega) (by omega)).mono ?_; rintro e w6 ⟨rfl, g6⟩
  rw [show ((0 : Int) + 8 - 1) % 8 = 7 from rfl]
  have R6 := bel_heap g6 R5
  have G6 := bel_trans G5 g6
  clear g6 R5 G5 w5
  go_wp2_with fail
  refine (Invalid_yes 3 8 _ (HT.out.bel G6) (by omega) (by omega) (by decide)).mono ?_; rintro e w7 ⟨rfl, g7⟩
  have R7 := bel_heap g7 R6
  have G7 := bel_trans G6 g7
  clear g7 R6 G6 w6
  go_wp2_with fail
  refine (Invalid_form 9 8 _ (HT.out.bel G7) (by omega) (by omega) (by omega) nine_not).mono ?_; rintro e w8 ⟨rfl, g8⟩
  have R8 := bel_heap g8 R7
  have G8 := bel_trans G7 g8
  clear g8 R7 G7 w7
  go_wp2_with fail
  refine (Invalid_form 256 8 _ (HT.out.bel G8) (by omega) (by omega) (by omega) big_not).mono ?_; rintro e w9 ⟨rfl, g9⟩
  have R9 := bel_heap g9 R8
  have G9 := bel_trans G8 g9
  clear g9 R8 G8 w8
  go_wp2_with fail
  refine (Resident_yes 6 8 3 _ (HT.out.bel G9) (by omega) (by omega) (by omega) (by omega) (by decide)).mono ?_; rintro e wa ⟨r, rfl, hr, ga⟩
  have hr5 : Hid (Ints wa r 5 (win 6 8)) := row_ints hr
  clear hr
  have Ra := bel_heap ga R9
  have Ga := bel_trans G9 ga
  clear ga R9 G9 w9
  go_wp2_with fail
  refine (Resident_yes 1 2 0 _ (HT.out.bel Ga) (by omega) (by omega) (by omega) (by omega) (by decide)).mono ?_; rintro e wb ⟨s, rfl, hs, gb⟩
  have hs1 : Hid (Ints wb s 1 (win 1 2)) := row_ints hs
  clear hs
  have hr := Lib.hid (hr5.out.bel gb)
  clear hr5
  have Rb := bel_heap gb Ra
  have Gb := bel_trans Ga gb
  clear gb Ra Ga wa
  obtain ⟨⟨c0, c1, c2, c3⟩, _⟩ := four_at Rb
  go_wp2_with fail
  have t5 : Ints (wb.alloc (.cells #[.int .i64 6, .int .i64 7, .int .i64 0, .int .i64 1, .int .i64 2] 3)) (.slice (some ⟨wb.heap.size, 0, none⟩) 5 5) 5 (win 6 8) := ⟨_, _, rfl, fun _ => ⟨_, rfl, fun i hi => by
    match i, hi with
    | 0, _ => exact row_cell (row_born rfl) rfl
    | 1, _ => exact row_cell (row_born rfl) rfl
    | 2, _ => exact row_cell (row_born rfl) rfl
    | 3, _ => exact row_cell (row_born rfl) rfl
    | 4, _ => exact row_cell (row_born rfl) rfl⟩⟩
  refine (ints_same _ _ 5 _ _ _ (by decide) (hr.out.bel ((Below.refl _ _).alloc (Nat.le_refl _) _)) t5 (fun _ _ => rfl)).mono ?_; rintro e wc ⟨rfl, gc⟩
  have Gc := bel_trans (bel_trans Gb ((Below.refl _ _).alloc (Nat.le_refl _) _)) gc
  have hs := Lib.hid ((hs1.out.bel ((Below.refl _ _).alloc (Nat.le_refl _) _)).bel gc)
  clear t5 gc hr hs1
  go_wp2_with fail
  have t1 : Ints (wc.alloc (.cells #[.int .i64 1] 3)) (.slice (some ⟨wc.heap.size, 0, none⟩) 1 1) 1 (win 1 2) := ⟨_, _, rfl, fun _ => ⟨_, rfl, fun i hi => by
    match i, hi with
    | 0, _ => exact row_cell (row_born rfl) rfl⟩⟩
  refine (ints_same _ _ 1 _ _ _ (by decide) (hs.out.bel ((Below.refl _ _).alloc (Nat.le_refl _) _)) t1 (fun _ _ => rfl)).mono ?_; rintro e wd ⟨rfl, gd⟩
  have Gd := bel_trans (bel_trans Gc ((Below.refl _ _).alloc (Nat.le_refl _) _)) gd
  go_wp2_with fail
  go_ret
  exact ⟨rfl, Gd⟩
end Go.Proofs.YtilocfcedcclfaaDoor
