/- boot (layer 11): the document's example. -/
import Derived.Test.YtmpagjijjahohaaGreatDoorBootGL
import Derived.Test.YtmpagjijjahohaaGreatDoorMemG
namespace Go.Proofs.YtmpagjijjahohaaGreatDoor.B11
open Go.RowKit
set_option linter.unusedVariables false
theorem tab_pos {w : World} (h : I2.Tab w) : 0 < w.heap.size := block_lt_of_cell (a := ⟨0, 0 * 5 + 0, none⟩) (h 0 (by decide) 0 (by decide))
/-- A kit turns, and nothing else that lay. -/
theorem tab_only {w w' : World} {kb : Nat} (h : I2.Tab w) (g : w.grownBy w' (some kb)) (dT : kb ≠ 0) : I2.Tab w' := fun a ha b hb => by
  have hc := h a ha b hb
  have hl := block_lt_of_cell hc
  unfold World.cell? at hc ⊢
  rw [g.block 0 hl (fun e => dT (Option.some.inj e).symm)]
  exact hc
theorem bF_0 : bF 2 0 = 0 := rfl
theorem bF_64 : bF 2 64 = 2147483648 := by
  show bW 2 0 = _
  rw [bW_vec 2 (by decide)]; rfl
theorem bF_68 : bF 2 68 = 1140850812 := by
  show bW 2 4 = _
  rw [bW_vec 2 (by decide)]; rfl
theorem own_cells {w : World} {B n : Nat} {p : Option Addr} {c : Nat} {f : Nat → Int} (h : w.ownsRow B 32 1 (.slice p n c) n (bsL .u32 f n)) (hn : 0 < n) : ∃ g, p = some ⟨g, 0, none⟩ ∧ ∀ i, i < n → w.cell? ⟨g, i, none⟩ = some (.int .u32 (f i)) := by
  obtain ⟨_, ⟨_, h0⟩ | ⟨g, c, cur, e, _, hg, q1, q2, q3, q4⟩⟩ := h
  · omega
  · injection e with e _ _
    refine ⟨g, e, fun i hi => row_cell hg ?_⟩
    have h1 := bsL_get .u32 f hi
    rw [← q4, List.getElem?_take_of_lt (by omega)] at h1
    simpa using h1
theorem bump_none : bump none = 1 := rfl
set_option maxRecDepth 100000 in
set_option maxHeartbeats 4000000 in
theorem bhead_at (w : World) (hT : I2.Tab w) : Calls Tryz.prog 9 #[] w fun e w' => e = .returned (.bool true) ∧ Below w.heap.size w w' := by
  have HT := Lib.hid hT
  have DK : Hid (w.heap.size ≠ 0) := by have := tab_pos hT; unfold Hid; omega
  clear hT
  go_enter Tryz.func9, Tryz.ntmps9
  go_wp2_with fail
  refine (new_at w).mono ?_; rintro e w1 ⟨rfl, K1, g1⟩
  have K1 := Lib.hid K1
  have T1 := Lib.hid (A7.tab_bel HT.out g1)
  have G1 := Lib.hid g1
  clear g1
  go_wp2_with fail
  refine (words_of w.heap.size 0 (by decide) _ 0 (by decide) w1 T1.out K1.out DK.out).mono ?_; rintro e w2 ⟨v2, rfl, o2, S2, n2, K2, s2, u2, m2, g2⟩
  obtain ⟨a2, c2, rfl⟩ := own_form o2 (by decide)
  have K2 := Lib.hid K2
  have T2 := Lib.hid (tab_only T1.out g2 DK.out)
  have O2 := Lib.hid o2
  have G2 := Lib.hid (only_bel G1.out g2 (Nat.le_refl _))
  have S20 := Lib.hid s2
  have S21 : Hid (S2 1 = none) := u2 1 (by decide)
  have N2 : Hid (n2 = 1) := by rw [m2]; rfl
  clear K1 T1 G1 o2 s2 u2 m2 g2
  go_wp2_with fail
  refine (words_of w.heap.size 0 (by decide) _ n2 (by rw [N2.out]; decide) w2 T2.out K2.out DK.out).mono ?_; rintro e w3 ⟨v3, rfl, o3, S3, n3, K3, s3, u3, m3, g3⟩
  obtain ⟨a3, c3, rfl⟩ := own_form o3 (by decide)
  have O2 := Lib.hid (World.ownsRow.kept O2.out g3 (.inr (own_far K2.out.box O2.out)))
  have O3 := Lib.hid o3
  have K3 := Lib.hid K3
  have T3 := Lib.hid (tab_only T2.out g3 DK.out)
  have G3 : Hid (Below w.heap.size w w3) := only_bel G2.out g3 (Nat.le_refl _)
  have S31 : Hid (S3 1 = none) := (u3 1 (by decide)).trans S21.out
  have N3 : Hid (n3 = 1) := by
    obtain ⟨x, hx⟩ := Option.isSome_iff_exists.1 S20.out
    rw [m3, N2.out, hx]; rfl
  clear K2 T2 G2 o3 s3 u3 m3 g3 S20 S21 N2
  go_wp2_with fail
  refine (start_of w.heap.size 1 (by decide) _ n3 (by rw [N3.out]; decide) w3 T3.out K3.out DK.out).mono ?_; rintro e w4 ⟨rfl, S4, n4, K4, s4, u4, m4, g4⟩
  have O2 := Lib.hid (World.ownsRow.kept O2.out g4 (.inr (own_far K3.out.box O2.out)))
  have O3 := Lib.hid (World.ownsRow.kept O3.out g4 (.inr (own_far K3.out.box O3.out)))
  have K4 := Lib.hid K4
  have G4 : Hid (Below w.heap.size w w4) := only_bel G3.out g4 (Nat.le_refl _)
  have N4 : Hid (n4 = 2) := by rw [m4, N3.out, S31.out]; rfl
  clear K3 T3 G3 s4 u4 m4 g4 S31 N3
  go_wp2_with fail
  refine (words_arg w.heap.size 1 (by decide) _ n4 w4 K4.out).mono ?_; rintro e w5 ⟨rfl, g5⟩
  have K5 := Lib.hid (K4.out.bel g5)
  have G5 := Lib.hid (bel_trans G4.out g5)
  have O2 := Lib.hid (A7.own_same O2.out fun j hj => g5.block j (O2.out.lt j hj).2)
  have O3 := Lib.hid (A7.own_same O3.out fun j hj => g5.block j (O3.out.lt j hj).2)
  clear g5 K4 G4
  go_wp2_with fail
  refine (start_arg w.heap.size 33 (by decide) _ n4 w5 K5.out).mono ?_; rintro e w6 ⟨rfl, g6⟩
  have K6 := Lib.hid (K5.out.bel g6)
  have G6 := Lib.hid (bel_trans G5.out g6)
  have O2 := Lib.hid (A7.own_same O2.out fun j hj => g6.block j (O2.out.lt j hj).2)
  have O3 := Lib.hid (A7.own_same O3.out fun j hj => g6.block j (O3.out.lt j hj).2)
  clear g6 K5 G5
  go_wp2_with fail
  refine (M5.words_same _ _ 405 (bF 2) (bF 2) _ (by decide) (own_sl O2.out) (own_sl O3.out) (fun _ _ => rfl)).mono ?_; rintro e w7 ⟨rfl, g7⟩
  have K7 := Lib.hid (K6.out.bel g7)
  have G7 := Lib.hid (bel_trans G6.out g7)
  have O2 := Lib.hid (A7.own_same O2.out fun j hj => g7.block j (O2.out.lt j hj).2)
  obtain ⟨g9, e9, hc⟩ := own_cells O2.out (by decide)
  injection e9 with e9
  injection e9 with e9 _ _
  subst e9
  have q0 : w7.cell? ⟨a2, 0, none⟩ = some (.int .u32 0) := (hc 0 (by decide)).trans (congrArg (fun x => some (Value.int .u32 x)) bF_0)
  have q1 : w7.cell? ⟨a2, 64, none⟩ = some (.int .u32 2147483648) := (hc 64 (by decide)).trans (congrArg (fun x => some (Value.int .u32 x)) bF_64)
  have q2 : w7.cell? ⟨a2, 68, none⟩ = some (.int .u32 1140850812) := (hc 68 (by decide)).trans (congrArg (fun x => some (Value.int .u32 x)) bF_68)
  clear g7 K6 G6 O3 hc
  go_wp2_with fail
  refine (count_is K7.out).mono ?_; rintro e w8 ⟨rfl, rfl⟩
  have n4 := N4.out
  go_wp2_with fail
  go_ret
  exact ⟨rfl, G7.out⟩
end Go.Proofs.YtmpagjijjahohaaGreatDoor.B11
