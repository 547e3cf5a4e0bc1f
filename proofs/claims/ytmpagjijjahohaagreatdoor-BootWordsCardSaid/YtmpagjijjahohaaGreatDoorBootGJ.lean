/- boot (layer 11): Do in a kit. -/
import Derived.Test.YtmpagjijjahohaaGreatDoorBootGI
namespace Go.Proofs.YtmpagjijjahohaaGreatDoor.B11
open Go.RowKit
set_option linter.unusedVariables false
/-- A runtime is built. -/
theorem kC_set (p : Value) (S : Nat → Option Value) (n : Int) (i : Nat) (hi : i < 31) (v : Value) (hS : S i = none) : ∀ j, j < 188 →
    updK (updK (updK (updK (updK (updK (updK (kC p S n) (1 + 6 * i + 1) (.int .i32 1)) (1 + 6 * i + 3) v) (1 + 6 * i + 4) (.int .u32 1600)) (1 + 6 * i + 5) (.int .i64 0)) 187 (.int .i64 (n + 1))) (1 + 6 * i) (.int .u32 1)) (1 + 6 * i + 1) (.int .i32 0) j = kC p (fun k => if k = i then some v else S k) (n + 1) j := fun j hj => by
  unfold updK kC
  by_cases e0 : j = 0
  · subst e0
    rw [if_neg (by omega), if_neg (by omega), if_neg (by omega), if_neg (by omega), if_neg (by omega), if_neg (by omega), if_neg (by omega), if_pos rfl, if_pos rfl]
  by_cases e7 : j = 187
  · subst e7
    rw [if_neg (by omega), if_neg (by omega), if_pos rfl, if_neg (by omega), if_pos rfl]
  by_cases eq : (j - 1) / 6 = i
  · rcases (by omega : j = 1 + 6 * i ∨ j = 1 + 6 * i + 1 ∨ j = 1 + 6 * i + 2 ∨ j = 1 + 6 * i + 3 ∨ j = 1 + 6 * i + 4 ∨ j = 1 + 6 * i + 5) with e | e | e | e | e | e
    all_goals
      have hd : (j - 1) / 6 = i := eq
      rw [hd]
    · have hm : (j - 1) % 6 = 0 := by omega
      rw [if_neg (by omega), if_pos e, if_neg e0, if_neg e7, if_pos hm]; simp
    · have hm : (j - 1) % 6 = 1 := by omega
      rw [if_pos e, if_neg e0, if_neg e7, if_neg (by omega), if_pos hm]
    · have hm : (j - 1) % 6 = 2 := by omega
      rw [if_neg (by omega), if_neg (by omega), if_neg (by omega), if_neg (by omega), if_neg (by omega), if_neg (by omega), if_neg (by omega), if_neg e0, if_neg e7, if_neg (by omega), if_neg (by omega), if_pos hm, if_neg e0, if_neg e7, if_neg (by omega), if_neg (by omega), if_pos hm]
    · have hm : (j - 1) % 6 = 3 := by omega
      rw [if_neg (by omega), if_neg (by omega), if_neg (by omega), if_neg (by omega), if_neg (by omega), if_pos e, if_neg e0, if_neg e7, if_neg (by omega), if_neg (by omega), if_neg (by omega), if_pos hm]; simp
    · have hm : (j - 1) % 6 = 4 := by omega
      rw [if_neg (by omega), if_neg (by omega), if_neg (by omega), if_neg (by omega), if_pos e, if_neg e0, if_neg e7, if_neg (by omega), if_neg (by omega), if_neg (by omega), if_neg (by omega), if_pos hm]; simp
    · have hm : (j - 1) % 6 = 5 := by omega
      rw [if_neg (by omega), if_neg (by omega), if_neg (by omega), if_pos e, if_neg e0, if_neg e7, if_neg (by omega), if_neg (by omega), if_neg (by omega), if_neg (by omega), if_neg (by omega)]
  · rw [if_neg (by omega), if_neg (by omega), if_neg e7, if_neg (by omega), if_neg (by omega), if_neg (by omega), if_neg (by omega), if_neg e0, if_neg e7, if_neg e0, if_neg e7]; simp only [if_neg eq]
theorem own_far {w : World} {kb B n : Nat} {C : Nat → Value} {v : Value} {xs : List Value} (hk : KBox w kb C) (h : w.ownsRow B 32 1 v n xs) : v.ownBlock ≠ some kb := fun e => by
  obtain ⟨cur, hc⟩ := A7.own_typ h e
  rw [show w.heap[kb]? = _ from hk] at hc
  injection hc with hc
  injection hc with _ hc _
  exact absurd hc (by decide)
set_option maxRecDepth 100000 in
set_option maxHeartbeats 1600000 in
theorem once_at (z2 z3 z8 kb i : Nat) (nw : Int) (hi : nw = i + 2) (h31 : i < 31) (S : Nat → Option Value) (hS : S i = none) (n : Int) (n1 : n < 100) (w : World) (hT : I2.Tab w) (h : KitAt w kb S n)
    (c2 : w.cell? ⟨z2, 0, none⟩ = some (.pointer (some ⟨kb, 0, none⟩))) (c3 : w.cell? ⟨z3, 0, none⟩ = some (.int .i64 nw)) (c8 : w.cell? ⟨z8, 0, none⟩ = some (.pointer (some ⟨kb, 1 + 6 * i, none⟩))) (d2 : z2 ≠ kb) (d3 : z3 ≠ kb) (d8 : z8 ≠ kb) (dT : kb ≠ 0) :
    Calls Tryz.prog 69 #[.pointer (some ⟨kb, 1 + 6 * i, none⟩), .func (.func 70) #[] #[.pointer (some ⟨z3, 0, none⟩), .pointer (some ⟨z8, 0, none⟩), .pointer (some ⟨z2, 0, none⟩)]] w fun e w' => e = .returned (.tuple #[]) ∧ ∃ v, KitAt w' kb (fun k => if k = i then some v else S k) (n + 1) ∧ w.grownBy w' (some kb) := by
  have n0 := h.n0
  have far : ∀ b j, b ≠ kb → (w.setCell ⟨kb, 1 + 6 * i + 1, none⟩ (.int .i32 1)).cell? ⟨b, j, none⟩ = w.cell? ⟨b, j, none⟩ := fun b j hb => World.cell?_setCell_other _ _ _ _ (fun e => hb (by cases e; rfl))
  have hT' : I2.Tab (w.setCell ⟨kb, 1 + 6 * i + 1, none⟩ (.int .i32 1)) := fun a ha b hb => (far _ _ dT.symm).trans (hT a ha b hb)
  have hr : (1 + 6 * i - 1) / 6 = i := by omega
  have k0 : kC (.pointer (some ⟨kb, 0, none⟩)) S n (1 + 6 * i) = .int .u32 0 := by
    unfold kC
    rw [if_neg (by omega), if_neg (by omega), if_pos (by omega), hr, hS]
    rfl
  have k1 : kC (.pointer (some ⟨kb, 0, none⟩)) S n (1 + 6 * i + 1) = .int .i32 0 := by
    unfold kC
    rw [if_neg (by omega), if_neg (by omega), if_neg (by omega), if_pos (by omega)]
  have hF := built_at z2 z3 z8 kb (1 + 6 * i) nw (by omega) (by omega) n n0 (by omega) (updK (kC (.pointer (some ⟨kb, 0, none⟩)) S n) (1 + 6 * i + 1) (.int .i32 1)) (w.setCell ⟨kb, 1 + 6 * i + 1, none⟩ (.int .i32 1)) hT' (h.box.set _ _) (by omega)
    (by unfold updK kC; rw [if_neg (by omega), if_neg (by omega), if_pos rfl]) ((far _ _ d2).trans c2) ((far _ _ d3).trans c3) ((far _ _ d8).trans c8) d2 d3 d8
  refine (do_first kb (1 + 6 * i) _ w _ (by rw [h.box.cell (by omega), k0]) (by rw [h.box.cell (by omega), k1]) (h.box.frozen _) hF ?_).mono ?_
  · rintro w1 ⟨v, hK, _, _⟩
    refine ⟨?_, ?_, hK.frozen _, hK.frozen _⟩
    · rw [hK.cell (by omega)]
      unfold updK
      rw [if_neg (by omega), if_neg (by omega), if_neg (by omega), if_neg (by omega), if_neg (by omega), k0]
    · rw [hK.cell (by omega)]
      unfold updK
      rw [if_neg (by omega), if_neg (by omega), if_neg (by omega), if_neg (by omega), if_pos rfl]
  · rintro e w' ⟨rfl, w1, ⟨v, hK, hO, hg⟩, rfl⟩
    have g1 : w.grownBy w1 (some kb) := by
      have := only_cell (⟨rfl, rfl, rfl, Nat.le_refl _, fun _ _ _ => rfl⟩ : w.grownBy w (some kb)) (1 + 6 * i + 1) (.int .i32 1)
      exact ⟨hg.os.trans this.os, hg.tape.trans this.tape, hg.output.trans this.output, Nat.le_trans this.size hg.size, fun x hx hn => (hg.block x (Nat.lt_of_lt_of_le hx this.size) hn).trans (this.block x hx hn)⟩
    have b1 : Below w1.heap.size w1 w1.drew := Below.drew (Below.refl _ _)
    have g2 : w1.grownBy ((w1.drew.setCell ⟨kb, 1 + 6 * i, none⟩ (.int .u32 1)).setCell ⟨kb, 1 + 6 * i + 1, none⟩ (.int .i32 0)) (some kb) := only_cell (only_cell ⟨b1.os, b1.tape, b1.output, b1.size, fun x hx _ => b1.block x hx⟩ _ _) _ _
    have lk := A7.heap_lt h.box
    refine ⟨rfl, v, ⟨(((hK.bel b1).set _ _).set _ _).congr (kC_set _ S n i h31 v hS), fun x u hx => ?_, by omega, by omega⟩, ?_⟩
    · by_cases ex : x = i
      · subst ex
        rw [if_pos rfl] at hx
        obtain rfl : v = u := Option.some.inj hx
        rw [← hi]
        exact World.ownsRow.kept (own_lessD hO (Nat.zero_le _)) g2 (.inr (own_far hK hO))
      · rw [if_neg ex] at hx
        have h0 := h.words x u hx
        exact World.ownsRow.kept (World.ownsRow.kept h0 g1 (.inr (own_far h.box h0))) g2 (.inr (own_far h.box h0))
    · exact ⟨g2.os.trans g1.os, g2.tape.trans g1.tape, g2.output.trans g1.output, Nat.le_trans g1.size g2.size, fun x hx hn => (g2.block x (Nat.lt_of_lt_of_le hx g1.size) hn).trans (g1.block x hx hn)⟩
end Go.Proofs.YtmpagjijjahohaaGreatDoor.B11
