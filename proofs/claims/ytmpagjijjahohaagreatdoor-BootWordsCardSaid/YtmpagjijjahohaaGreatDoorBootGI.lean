/- boot (layer 11): what Do calls: a runtime is built, and counted. -/
import Derived.Test.YtmpagjijjahohaaGreatDoorBootGH
import Derived.Deep.RegionHeld3
import Derived.Deep.RegionLaw
namespace Go.Proofs.YtmpagjijjahohaaGreatDoor.B11
open Go.RowKit
set_option linter.unusedVariables false
theorem own_form {w : World} {B n : Nat} {E : TypeId} {v : Value} {xs : List Value} (h : w.ownsRow B E 1 v n xs) (hn : 0 < n) : ∃ g c, v = .slice (some ⟨g, 0, none⟩) n c := by
  obtain ⟨_, ⟨_, h0⟩ | ⟨g, c, _, e, _⟩⟩ := h
  · omega
  · exact ⟨g, c, e⟩
/-- What is laid while a runtime is filled in. -/
structure RH (z3 z8 kb o : Nat) (nw : Int) (V W : World) : Prop where
  a : W.cell? ⟨z8, 0, none⟩ = some (.pointer (some ⟨kb, o, none⟩))
  n : W.cell? ⟨z3, 0, none⟩ = some (.int .i64 nw)
  s3 : (W.cell? ⟨kb, o + 3, none⟩).isSome = true
  s4 : (W.cell? ⟨kb, o + 4, none⟩).isSome = true
  s5 : (W.cell? ⟨kb, o + 5, none⟩).isSome = true
  f3 : W.frozen? ⟨kb, o + 3, none⟩ = false
  f4 : W.frozen? ⟨kb, o + 4, none⟩ = false
  f5 : W.frozen? ⟨kb, o + 5, none⟩ = false
  lt : kb < V.heap.size ∧ z3 < V.heap.size ∧ z8 < V.heap.size ∧ z3 ≠ kb ∧ z8 ≠ kb
  only : V.grownBy W (some kb)
section
variable {z3 z8 kb o : Nat} {nw : Int} {V W W' : World}
theorem RH.all (h : RH z3 z8 kb o nw V W) : W.cell? ⟨z8, 0, none⟩ = some (.pointer (some ⟨kb, o, none⟩)) ∧ W.cell? ⟨z3, 0, none⟩ = some (.int .i64 nw) ∧ RH z3 z8 kb o nw V W := ⟨h.a, h.n, h⟩
theorem RH.more (h : RH z3 z8 kb o nw V W) (g : Below V.heap.size W W') : RH z3 z8 kb o nw V W' :=
  ⟨(g.cell (p := ⟨z8, 0, none⟩) h.lt.2.2.1).trans h.a, (g.cell (p := ⟨z3, 0, none⟩) h.lt.2.1).trans h.n,
    by rw [g.cell (p := ⟨kb, o + 3, none⟩) h.lt.1]; exact h.s3, by rw [g.cell (p := ⟨kb, o + 4, none⟩) h.lt.1]; exact h.s4, by rw [g.cell (p := ⟨kb, o + 5, none⟩) h.lt.1]; exact h.s5,
    (g.frozen (p := ⟨kb, o + 3, none⟩) h.lt.1).trans h.f3, (g.frozen (p := ⟨kb, o + 4, none⟩) h.lt.1).trans h.f4, (g.frozen (p := ⟨kb, o + 5, none⟩) h.lt.1).trans h.f5, h.lt,
    ⟨g.os.trans h.only.os, g.tape.trans h.only.tape, g.output.trans h.only.output, Nat.le_trans h.only.size g.size, fun i hi hn => (g.block i hi).trans (h.only.block i hi hn)⟩⟩
theorem RH.cells (h : RH z3 z8 kb o nw V W) : ∃ u3 u4 u5, W.cell? ⟨kb, o + 3, none⟩ = some u3 ∧ W.cell? ⟨kb, o + 4, none⟩ = some u4 ∧ W.cell? ⟨kb, o + 5, none⟩ = some u5 ∧ W.frozen? ⟨kb, o + 3, none⟩ = false ∧ W.frozen? ⟨kb, o + 4, none⟩ = false ∧ W.frozen? ⟨kb, o + 5, none⟩ = false := by
  obtain ⟨u3, h3⟩ := Option.isSome_iff_exists.1 h.s3
  obtain ⟨u4, h4⟩ := Option.isSome_iff_exists.1 h.s4
  obtain ⟨u5, h5⟩ := Option.isSome_iff_exists.1 h.s5
  exact ⟨u3, u4, u5, h3, h4, h5, h.f3, h.f4, h.f5⟩
theorem RH.cell (h : RH z3 z8 kb o nw V W) (j : Nat) (u : Value) : RH z3 z8 kb o nw V (W.setCell ⟨kb, j, none⟩ u) := by
  have far : ∀ b i, b ≠ kb → (W.setCell ⟨kb, j, none⟩ u).cell? ⟨b, i, none⟩ = W.cell? ⟨b, i, none⟩ := fun b i hb => World.cell?_setCell_other _ _ _ _ (fun e => hb (by cases e; rfl))
  have some' : ∀ i, (W.cell? ⟨kb, i, none⟩).isSome = true → ((W.setCell ⟨kb, j, none⟩ u).cell? ⟨kb, i, none⟩).isSome = true := fun i hi => by
    obtain ⟨x, hx⟩ := Option.isSome_iff_exists.1 hi
    by_cases e : j = i
    · subst e; rw [World.cell?_setCell_same _ _ _ hx]; rfl
    · rw [World.cell?_setCell_other _ _ _ _ (fun e' => e (by cases e'; rfl)), hx]; rfl
  exact ⟨(far z8 0 h.lt.2.2.2.2).trans h.a, (far z3 0 h.lt.2.2.2.1).trans h.n, some' _ h.s3, some' _ h.s4, some' _ h.s5,
    (World.frozen?_setCell _ _ _ _).trans h.f3, (World.frozen?_setCell _ _ _ _).trans h.f4, (World.frozen?_setCell _ _ _ _).trans h.f5, h.lt, only_cell h.only j u⟩
end
set_option maxRecDepth 100000 in
set_option maxHeartbeats 4000000 in
theorem built_at (z2 z3 z8 kb o : Nat) (nw : Int) (h2 : 2 ≤ nw) (h32 : nw ≤ 32) (n : Int) (n0 : 0 ≤ n) (n1 : n < 1000) (C : Nat → Value) (w : World) (hT : I2.Tab w) (h : KBox w kb C) (ho : o + 5 < 187) (hn : C 187 = .int .i64 n)
    (c2 : w.cell? ⟨z2, 0, none⟩ = some (.pointer (some ⟨kb, 0, none⟩))) (c3 : w.cell? ⟨z3, 0, none⟩ = some (.int .i64 nw)) (c8 : w.cell? ⟨z8, 0, none⟩ = some (.pointer (some ⟨kb, o, none⟩))) (d2 : z2 ≠ kb) (d3 : z3 ≠ kb) (d8 : z8 ≠ kb) :
    Calls Tryz.prog 70 #[.pointer (some ⟨z3, 0, none⟩), .pointer (some ⟨z8, 0, none⟩), .pointer (some ⟨z2, 0, none⟩)] w fun e w' => e = .returned (.tuple #[]) ∧ ∃ v, KBox w' kb (updK (updK (updK (updK C (o + 3) v) (o + 4) (.int .u32 1600)) (o + 5) (.int .i64 0)) 187 (.int .i64 (n + 1))) ∧ w'.ownsRow w.heap.size 32 1 v 405 (bsL .u32 (bF nw) 405) ∧ w.grownBy w' (some kb) := by
  have HB : Hid (∀ W, Below w.heap.size w W → Calls Tryz.prog 71 #[.int .i64 nw] W fun e w' => ∃ v, e = .returned (.tuple #[v, .int .u32 1600, .int .i64 0]) ∧ w'.ownsRow W.heap.size 32 1 v 405 (bsL .u32 (bF nw) 405) ∧ Below W.heap.size W w') := fun W k => build_at nw h2 h32 W (A7.tab_bel hT k)
  have S0 : RH z3 z8 kb o nw w w := ⟨c8, c3, by rw [h.cell (by omega)]; rfl, by rw [h.cell (by omega)]; rfl, by rw [h.cell (by omega)]; rfl, h.frozen _, h.frozen _, h.frozen _, ⟨A7.heap_lt h, block_lt_of_cell (a := ⟨z3, 0, none⟩) c3, block_lt_of_cell (a := ⟨z8, 0, none⟩) c8, d3, d8⟩, ⟨rfl, rfl, rfl, Nat.le_refl _, fun _ _ _ => rfl⟩⟩
  have H := Lib.hid h
  clear h hT c3 c8
  go_enter Tryz.func70, Tryz.ntmps70
  go_upto_region 0 with (fail)
  go_region_held3 (fun w' => w'.cell? ⟨z8, 0, none⟩ = some (.pointer (some ⟨kb, o, none⟩)) ∧ w'.cell? ⟨z3, 0, none⟩ = some (.int .i64 nw) ∧ RH z3 z8 kb o nw w w')
    (first
      | with_reducible exact (S0.more (Below.refl _ _).drew).all
      | with_reducible exact SZ.all
      | with_reducible exact (RH.cell SZ _ _).all
      | with_reducible exact (RH.cell (RH.cell SZ _ _) _ _).all
      | with_reducible exact (RH.cell (RH.cell (RH.cell SZ _ _) _ _) _ _).all)
    (first
      | (go_at_call 71; go_split_ands; refine (HB.out _ (Below.drew (Below.refl _ _))).mono ?_; rintro e wb ⟨v, rfl, ho, gb⟩; obtain ⟨g9, c9, rfl⟩ := own_form ho (by decide); have gz : Below w.heap.size w wb := (Below.drew (Below.refl _ _)).trans gb; have SZ := S0.more gz; obtain ⟨u3, u4, u5, k3, k4, k5, z3', z4', z5'⟩ := SZ.cells))
  have K4 : Hid (KBox (((wb.setCell ⟨kb, o + 3, none⟩ (.slice (some ⟨g9, 0, none⟩) 405 c9)).setCell ⟨kb, o + 4, none⟩ (.int .u32 1600)).setCell ⟨kb, o + 5, none⟩ (.int .i64 0)) kb (updK (updK (updK C (o + 3) (.slice (some ⟨g9, 0, none⟩) 405 c9)) (o + 4) (.int .u32 1600)) (o + 5) (.int .i64 0))) := (((KBox.bel H.out gz).set (o + 3) _).set (o + 4) _).set (o + 5) _
  have g4 : Hid (wb.grownBy (((wb.setCell ⟨kb, o + 3, none⟩ (.slice (some ⟨g9, 0, none⟩) 405 c9)).setCell ⟨kb, o + 4, none⟩ (.int .u32 1600)).setCell ⟨kb, o + 5, none⟩ (.int .i64 0)) (some kb)) := only_cell (only_cell (only_cell ⟨rfl, rfl, rfl, Nat.le_refl _, fun _ _ _ => rfl⟩ _ _) _ _) _ _
  have c2' : Hid ((((wb.setCell ⟨kb, o + 3, none⟩ (.slice (some ⟨g9, 0, none⟩) 405 c9)).setCell ⟨kb, o + 4, none⟩ (.int .u32 1600)).setCell ⟨kb, o + 5, none⟩ (.int .i64 0)).cell? ⟨z2, 0, none⟩ = some (.pointer (some ⟨kb, 0, none⟩))) := by
    unfold Hid
    rw [World.cell?_setCell_other _ _ _ _ (fun e => by cases e), World.cell?_setCell_other _ _ _ _ (fun e => by cases e), World.cell?_setCell_other _ _ _ _ (fun e => by cases e)]
    exact (gz.cell (p := ⟨z2, 0, none⟩) (block_lt_of_cell (a := ⟨z2, 0, none⟩) c2)).trans c2
  have GZ := Lib.hid gz
  have HO := Lib.hid ho
  have LK : Hid (kb < w.heap.size) := A7.heap_lt H.out
  have HN := Lib.hid hn
  clear gz ho c2 SZ S0 k3 k4 k5 z3' z4' z5' HB hn
  generalize (((wb.setCell ⟨kb, o + 3, none⟩ (.slice (some ⟨g9, 0, none⟩) 405 c9)).setCell ⟨kb, o + 4, none⟩ (.int .u32 1600)).setCell ⟨kb, o + 5, none⟩ (.int .i64 0)) = V4 at K4 g4 c2' ⊢
  have k187 : Hid (V4.cell? ⟨kb, 187, none⟩ = some (.int .i64 n)) := by
    have := K4.out.cell (j := 187) (by decide)
    unfold updK at this
    rw [if_neg (by omega), if_neg (by omega), if_neg (by omega), HN.out] at this
    exact this
  have c2'' := c2'.out
  go_wp2_with fail
  refine (add_at kb 187 n n0 (by omega) _ k187.out (K4.out.frozen _)).mono ?_; rintro e w5 ⟨rfl, rfl⟩
  go_wp2_with fail
  go_end0
  refine ⟨rfl, _, K4.out.set 187 _, ?_, ?_⟩
  · refine World.ownsRow.kept (own_lessD HO.out (Nat.le_refl _)) (only_cell g4.out 187 _) (.inr fun e => ?_)
    have := HO.out.lt kb e
    have := LK.out
    simp at *
    omega
  · exact only_cell ⟨g4.out.os.trans GZ.out.os, g4.out.tape.trans GZ.out.tape, g4.out.output.trans GZ.out.output, Nat.le_trans GZ.out.size g4.out.size, fun i hi hn => (g4.out.block i (Nat.lt_of_lt_of_le hi GZ.out.size) hn).trans (GZ.out.block i hi)⟩ 187 _
end Go.Proofs.YtmpagjijjahohaaGreatDoor.B11
