/- boot (layer 11): a runtime of a kit, asked for. -/
import Derived.Test.YtmpagjijjahohaaGreatDoorBootGJ
import Derived.Test.YtmpagjijjahohaaGreatDoorPsrG
namespace Go.Proofs.YtmpagjijjahohaaGreatDoor.B11
open Go.RowKit
set_option linter.unusedVariables false
/-- How many more were made. -/
def bump (s : Option Value) : Int := if s.isSome then 0 else 1
/-- The worlds behind the two boxes of the parameters. -/
theorem two_in (w : World) (kb : Nat) (nw : Int) : ((w.alloc (.cells #[.pointer (some ⟨kb, 0, none⟩)] 23)).alloc (.cells #[.int .i64 nw] 3)).cell? ⟨w.heap.size, 0, none⟩ = some (.pointer (some ⟨kb, 0, none⟩))
    ∧ ((w.alloc (.cells #[.pointer (some ⟨kb, 0, none⟩)] 23)).alloc (.cells #[.int .i64 nw] 3)).cell? ⟨w.heap.size + 1, 0, none⟩ = some (.int .i64 nw)
    ∧ Below w.heap.size w ((w.alloc (.cells #[.pointer (some ⟨kb, 0, none⟩)] 23)).alloc (.cells #[.int .i64 nw] 3)) := by
  refine ⟨?_, ?_, ((Below.refl _ _).alloc (Nat.le_refl _) _).alloc (by simp) _⟩
  · rw [World.cell?_alloc_past _ _ _ (by simp)]
    exact row_cell (heap_alloc_last _ _) rfl
  · have := row_cell (heap_alloc_last (w.alloc (.cells #[.pointer (some ⟨kb, 0, none⟩)] 23)) (.cells #[.int .i64 nw] 3)) (j := 0) (v := .int .i64 nw) rfl
    simp
set_option maxRecDepth 100000 in
set_option maxHeartbeats 4000000 in
theorem runtime_at (kb i : Nat) (h31 : i < 31) (S : Nat → Option Value) (n : Int) (n1 : n < 100) (w : World) (hT : I2.Tab w) (h : KitAt w kb S n) (dT : kb ≠ 0) :
    Calls Tryz.prog 36 #[.pointer (some ⟨kb, 0, none⟩), .int .i64 ((i : Int) + 2)] w fun e w' => e = .returned (.tuple #[.pointer (some ⟨kb, 1 + 6 * i, none⟩), .int .i64 0]) ∧ ∃ S' n', KitAt w' kb S' n' ∧ (S' i).isSome = true ∧ (∀ k, k ≠ i → S' k = S k) ∧ (n' = n + bump (S i)) ∧ w.grownBy w' (some kb) := by
  have LK : Hid (kb < w.heap.size) := A7.heap_lt h.box
  obtain ⟨t1, t2, t3⟩ := two_in w kb ((i : Int) + 2)
  have T1 := Lib.hid t1
  have T2 := Lib.hid t2
  have G1 := Lib.hid t3
  have H := Lib.hid (h.bel t3)
  have HT := Lib.hid (A7.tab_bel hT t3)
  clear t1 t2 t3 h hT
  go_enter Tryz.func36, Tryz.ntmps36
  go_upto_region 1 with (fail)
  change Code.wp _ _ _ _ ((w.alloc (.cells #[.pointer (some ⟨kb, 0, none⟩)] 23)).alloc (.cells #[.int .i64 ((i : Int) + 2)] 3))
  generalize ((w.alloc (.cells #[.pointer (some ⟨kb, 0, none⟩)] 23)).alloc (.cells #[.int .i64 ((i : Int) + 2)] 3)) = V at T1 T2 G1 H HT ⊢
  have c2 := T1.out
  have c3 := T2.out
  go_wp2_with fail
  refine (isObject_yes _ _ (H.out.box.cell (j := 0) (by decide))).mono ?_; rintro e w1 ⟨rfl, rfl⟩
  go_wp2_with fail
  refine (P4.Wim_yes 0 _ _ (by omega) (by omega) (by omega)).mono ?_; rintro e w2 ⟨rfl, g2⟩
  have G2 := Lib.hid g2
  have H2 := Lib.hid (H.out.bel g2)
  have c2' := bel_cell g2 c2
  have c3' := bel_cell g2 c3
  have i1 : IntKind.i64.wrap ((i : Int) + 2 - 2) = (i : Int) := by rw [IntWalk.i64_in _ (by omega)]; omega
  have i2 : IntKind.i64.wrap (i : Int) = (i : Int) := IntWalk.i64_in _ (by omega)
  have h31' : (i : Int) < 31 := by omega
  clear g2 c2 c3
  go_upto_region 6 with (fail)
  have GD : Below w2.heap.size w2 w2.drew := Below.drew (Below.refl _ _)
  have GA : ∀ o, Below w2.heap.size w2 (w2.alloc o) := fun o => (Below.refl _ _).alloc (Nat.le_refl _) _
  have SS : ∀ W, Below w2.heap.size w2 W → W.cell? ⟨w.heap.size, 0, none⟩ = some (.pointer (some ⟨kb, 0, none⟩)) ∧ W.cell? ⟨w.heap.size + 1, 0, none⟩ = some (.int .i64 ((i : Int) + 2)) := fun W k => ⟨bel_cell k c2', bel_cell k c3'⟩
  go_region_held3 (fun W => W.cell? ⟨w.heap.size, 0, none⟩ = some (.pointer (some ⟨kb, 0, none⟩)) ∧ W.cell? ⟨w.heap.size + 1, 0, none⟩ = some (.int .i64 ((i : Int) + 2)))
    (first
      | with_reducible exact SS _ GD
      | with_reducible exact SS _ (Below.drew (GA _))
      | with_reducible exact SS _ (Below.drew ((GA _).setCell (p := ⟨w2.heap.size, 0, none⟩) (Nat.le_refl _) _))
      | with_reducible exact SS _ ((Below.drew (GA _)).setCell (p := ⟨w2.heap.size, 0, none⟩) (Nat.le_refl _) _))
    (fail)
  rw [show 1 + i * 6 = 1 + 6 * i by omega]
  have G4 : Hid (Below w2.heap.size w2 (w2.alloc (.cells #[.pointer (some ⟨kb, 1 + 6 * i, none⟩)] 95)).drew) := Below.drew (GA _)
  have c8 : Hid ((w2.alloc (.cells #[.pointer (some ⟨kb, 1 + 6 * i, none⟩)] 95)).drew.cell? ⟨w2.heap.size, 0, none⟩ = some (.pointer (some ⟨kb, 1 + 6 * i, none⟩))) := by
    unfold Hid
    rw [World.cell?_drew]
    exact row_cell (heap_alloc_last _ _) rfl
  have c8r : Hid ((w2.alloc (.cells #[.pointer (some ⟨kb, 1 + 6 * i, none⟩)] 95)).drew.heap[w2.heap.size]? = some (.cells #[.pointer (some ⟨kb, 1 + 6 * i, none⟩)] 95 (0, 0))) := heap_alloc_last _ _
  have c9 := Lib.hid (SS _ G4.out)
  have LZ : Hid (w.heap.size ≤ w2.heap.size) := Nat.le_trans G1.out.size G2.out.size
  have H4 := Lib.hid (H2.out.bel G4.out)
  have HT4 := Lib.hid (A7.tab_bel (A7.tab_bel HT.out G2.out) G4.out)
  have G24 := Lib.hid (bel_trans G1.out (bel_trans G2.out G4.out))
  clear GD GA SS c2' c3' H H2 HT G1 G2 T1 T2
  generalize (w2.alloc (.cells #[.pointer (some ⟨kb, 1 + 6 * i, none⟩)] 95)).drew = W4 at G4 c8 c8r c9 H4 HT4 G24 ⊢
  generalize w2.heap.size = z8 at c8 c8r LZ ⊢
  have d2 : w.heap.size ≠ kb := by have := LK.out; omega
  have d3 : w.heap.size + 1 ≠ kb := by have := LK.out; omega
  have d8 : z8 ≠ kb := by have := LK.out; have := LZ.out; omega
  have hmf : ∀ (fn : Fn) (first cap : Array Value) (w : World), (Instr.makeFunc fn first cap).run Tryz.prog w = .ok (.func fn first cap) w := fun _ _ _ _ => rfl
  have hr : (1 + 6 * i - 1) / 6 = i := by omega
  obtain ⟨p2, p3⟩ := c9.out
  have p8 := c8.out
  clear G4 i1 i2 h31'
  cases hS : S i with
  | none =>
    go_wp2_with fail
    refine (once_at w.heap.size (w.heap.size + 1) z8 kb i _ rfl h31 S hS n n1 W4 HT4.out H4.out p2 p3 p8 d2 d3 d8 dT).mono ?_; rintro e w5 ⟨rfl, v, K5, g5⟩
    clear p2 p3 p8
    have q8 : Hid (∀ W, Below w5.heap.size w5 W → W.cell? ⟨z8, 0, none⟩ = some (.pointer (some ⟨kb, 1 + 6 * i, none⟩)) ∧ W.cell? ⟨kb, 1 + 6 * i + 5, none⟩ = some (.int .i64 0)) := fun W k => ⟨bel_cell k (row_cell (only_heap g5 d8 c8r.out) rfl), by
      rw [(K5.bel k).box.cell (by omega)]
      unfold kC
      rw [if_neg (by omega), if_neg (by omega), if_neg (by omega), if_neg (by omega), if_neg (by omega), if_neg (by omega), if_neg (by omega)]⟩
    go_upto_region 8 with (fail)
    have GD : Below w5.heap.size w5 w5.drew := Below.drew (Below.refl _ _)
    have DD := q8.out _ GD
    go_region_held3 (fun W => W.cell? ⟨z8, 0, none⟩ = some (.pointer (some ⟨kb, 1 + 6 * i, none⟩)) ∧ W.cell? ⟨kb, 1 + 6 * i + 5, none⟩ = some (.int .i64 0)) (with_reducible exact DD) (fail)
    go_wp2_with fail
    go_ret2
    refine ⟨rfl, _, _, K5.bel GD, by simp, fun k hk => by simp [hk], by rw [hS]; rfl, ?_⟩
    exact ⟨GD.os.trans (g5.os.trans G24.out.os), GD.tape.trans (g5.tape.trans G24.out.tape), GD.output.trans (g5.output.trans G24.out.output), Nat.le_trans G24.out.size (Nat.le_trans g5.size GD.size), fun x hx hn => (GD.block x (Nat.lt_of_lt_of_le hx (Nat.le_trans G24.out.size g5.size))).trans ((g5.block x (Nat.lt_of_lt_of_le hx G24.out.size) hn).trans (G24.out.block x hx))⟩
  | some v =>
    go_wp2_with fail
    refine (do_done kb (1 + 6 * i) _ W4 ?_).mono ?_
    · rw [H4.out.box.cell (by omega)]
      unfold kC
      rw [if_neg (by omega), if_neg (by omega), if_pos (by omega), hr, hS]
      rfl
    rintro e w5 ⟨rfl, rfl⟩
    clear p2 p3 p8
    have q8 : Hid (∀ W, Below W4.heap.size W4 W → W.cell? ⟨z8, 0, none⟩ = some (.pointer (some ⟨kb, 1 + 6 * i, none⟩)) ∧ W.cell? ⟨kb, 1 + 6 * i + 5, none⟩ = some (.int .i64 0)) := fun W k => ⟨bel_cell k (row_cell c8r.out rfl), by
      rw [(H4.out.bel k).box.cell (by omega)]
      unfold kC
      rw [if_neg (by omega), if_neg (by omega), if_neg (by omega), if_neg (by omega), if_neg (by omega), if_neg (by omega), if_neg (by omega)]⟩
    go_upto_region 8 with (fail)
    have GD : Below W4.heap.size W4 W4.drew := Below.drew (Below.refl _ _)
    have DD := q8.out _ GD
    go_region_held3 (fun W => W.cell? ⟨z8, 0, none⟩ = some (.pointer (some ⟨kb, 1 + 6 * i, none⟩)) ∧ W.cell? ⟨kb, 1 + 6 * i + 5, none⟩ = some (.int .i64 0)) (with_reducible exact DD) (fail)
    go_wp2_with fail
    go_ret2
    refine ⟨rfl, S, n, H4.out.bel GD, by rw [hS]; rfl, fun _ _ => rfl, by rw [hS]; simp [bump], ?_⟩
    exact ⟨GD.os.trans G24.out.os, GD.tape.trans G24.out.tape, GD.output.trans G24.out.output, Nat.le_trans G24.out.size GD.size, fun x hx _ => (GD.block x (Nat.lt_of_lt_of_le hx G24.out.size)).trans (G24.out.block x hx)⟩
end Go.Proofs.YtmpagjijjahohaaGreatDoor.B11
