/- The head of layer 5's statements, over the contracts wanted of package mem. -/
import Derived.Test.YtbjnnlemgfbgnaaMemC
namespace Go.Proofs.Ytbjnnlemgfbgnaa
open Go.RowKit
set_option linter.unusedVariables false
/-- A load from a memory whose bytes are known, as the statements' heads call it. -/
theorem load_is (M : MemC) {v : Value} {g n : Nat} {f : Nat → Int} {w : World} (hA : M.At w v g n f) (a m x k : Int) (ha : 0 ≤ a ∧ a < 4294967296) (hm : 0 ≤ m ∧ m ≤ 4) (hx : ldV n f a m = x) (hk : thE n a m = k) :
    Calls Try.prog 20 #[v, .int .u32 a, .int .i64 m] w fun e w' => e = .returned (.tuple #[.int .u32 x, .int .i64 k]) ∧ Below w.heap.size w w' := by
  have h := M.load a m hA ha (by omega)
  rw [hx, hk] at h
  exact h
/-- Two words. -/
def two (x y : Int) : Nat → Int := fun i => match i with | 0 => x | _ => y
theorem two_sl (w : World) (x y : Int) (t : TypeId) : Sl .u32 (w.alloc (.cells #[.int .u32 x, .int .u32 y] t)) (.slice (some ⟨w.heap.size, 0, none⟩) 2 2) 2 (two x y) :=
  ⟨_, _, rfl, fun _ => ⟨_, 0, rfl, fun i hi => by
    rw [Nat.zero_add]
    match i, hi with
    | 0, _ => exact row_cell (row_born rfl) rfl
    | 1, _ => exact row_cell (row_born rfl) rfl⟩⟩
theorem two_in {x y : Int} (hx : 0 ≤ x ∧ x < 4294967296) (hy : 0 ≤ y ∧ y < 4294967296) : ∀ i, 0 ≤ two x y i ∧ two x y i < 4294967296 := fun i => by
  match i with
  | 0 => exact hx
  | _ + 1 => exact hy
theorem alloc_bel (w : World) (o : Obj) : Below w.heap.size w (w.alloc o) := (Below.refl _ _).alloc (Nat.le_refl _) _
set_option maxHeartbeats 2000000 in
set_option maxRecDepth 100000 in
theorem head_any (M : MemC) (w : World) : Calls Try.prog 10 #[] w fun e w' => e = .returned (.bool true) ∧ Below w.heap.size w w' := by
  go_enter Try.func10, Try.ntmps10
  go_wp2_with fail
  refine (M.new_yes 16 _ ⟨by decide, by decide, by decide⟩).mono ?_; rintro e w1 ⟨v, g, rfl, A1, hgB, G1⟩
  obtain ⟨p, rfl⟩ := M.ptr A1
  go_wp2_with fail
  refine (M.store_yes 4 4 16909060 A1 (by decide) rfl).mono ?_; rintro e w2 ⟨rfl, A2, k2⟩
  have G2 := only_bel G1 k2 hgB
  clear A1 G1 k2
  go_wp2_with fail
  refine (load_is M A2 4 1 1 0 (by decide) (by decide) rfl rfl).mono ?_; rintro e w3 ⟨rfl, g3⟩
  have A3 := M.bel A2 g3
  have G3 := bel_trans G2 g3
  clear A2 G2 g3
  go_wp2_with fail
  refine (load_is M A3 7 1 4 0 (by decide) (by decide) rfl rfl).mono ?_; rintro e w4 ⟨rfl, g4⟩
  have A4 := M.bel A3 g4
  have G4 := bel_trans G3 g4
  clear A3 G3 g4
  go_wp2_with fail
  refine (M.store_yes 5 1 511 A4 (by decide) rfl).mono ?_; rintro e w5 ⟨rfl, A5, k5⟩
  have G5 := only_bel G4 k5 hgB
  clear A4 G4 k5
  go_wp2_with fail
  refine (load_is M A5 4 4 33489668 0 (by decide) (by decide) rfl rfl).mono ?_; rintro e w6 ⟨rfl, g6⟩
  have A6 := M.bel A5 g6
  have G6 := bel_trans G5 g6
  clear A5 G5 g6
  go_wp2_with fail
  refine (load_is M A6 6 4 0 51 (by decide) (by decide) rfl rfl).mono ?_; rintro e w7 ⟨rfl, g7⟩
  have A7 := M.bel A6 g7
  have G7 := bel_trans G6 g7
  clear A6 G6 g7
  go_wp2_with fail
  refine (load_is M A7 16 4 0 50 (by decide) (by decide) rfl rfl).mono ?_; rintro e w8 ⟨rfl, g8⟩
  have A8 := M.bel A7 g8
  have G8 := bel_trans G7 g8
  clear A7 G7 g8
  go_wp2_with fail
  refine (load_is M A8 0 2 0 2 (by decide) (by decide) rfl rfl).mono ?_; rintro e w9 ⟨rfl, g9⟩
  have A9 := M.bel A8 g9
  have G9 := bel_trans G8 g9
  clear A8 G8 g9
  go_wp2_with fail
  refine (load_is M A9 4294967292 4 0 50 (by decide) (by decide) rfl rfl).mono ?_; rintro e wa ⟨rfl, ga⟩
  have Aa := M.bel A9 ga
  have Ga := bel_trans G9 ga
  clear A9 G9 ga
  go_wp2_with fail
  refine (M.put_yes 8 (M.bel Aa (alloc_bel _ _)) (two_sl wa 5 6 _) (two_in (by decide) (by decide)) rfl).mono ?_; rintro e wb ⟨rfl, Ab, kb⟩
  have Gb := only_bel (bel_trans Ga (alloc_bel _ _)) kb hgB
  clear Aa Ga kb
  go_wp2_with fail
  refine (M.put_no 12 (M.bel Ab (alloc_bel _ _)) (two_sl wb 1 2 _) (by decide) (by decide) (by decide)).mono ?_; rintro e wc ⟨rfl, gc⟩
  rw [show spE ((16 : Nat) : Int) 12 ((2 : Nat) : Int) = 50 from rfl]
  have Ac := M.bel (M.bel Ab (alloc_bel _ _)) gc
  have Gc := bel_trans (bel_trans Gb (alloc_bel _ _)) gc
  clear Ab Gb gc
  go_wp2_with fail
  refine (M.words_yes 8 2 Ac rfl).mono ?_; rintro e wd ⟨s, rfl, hs, gd⟩
  have HS := Lib.hid hs
  have Gd := bel_trans Gc gd
  clear Ac Gc gd hs
  go_wp2_with fail
  refine (words_same s _ 2 _ (two 5 6) _ (by decide) (HS.out.bel (alloc_bel _ _)) (two_sl wd 5 6 _) (fun i hi => by
    match i, hi with
    | 0, _ => rfl
    | 1, _ => rfl)).mono ?_; rintro e we ⟨rfl, ge⟩
  have Ge := bel_trans (bel_trans Gd (alloc_bel _ _)) ge
  clear Gd ge HS
  go_wp2_with fail
  go_ret
  exact ⟨rfl, Ge⟩
end Go.Proofs.Ytbjnnlemgfbgnaa
