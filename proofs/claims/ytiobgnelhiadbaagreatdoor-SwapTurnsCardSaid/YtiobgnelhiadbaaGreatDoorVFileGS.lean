/- What the document's Put of layer 3 comes to, for any arguments. What the document's Window of layer 3 comes to; and that a file which keeps step with a list is found to be the same. -/
import Derived.Test.YtiobgnelhiadbaaGreatDoorVFileGR
import Derived.Deep.RegionWith
import Derived.OneCell
import Derived.Deep.QuietTactic
import Derived.BigQuiet
namespace Go.Proofs.YtiobgnelhiadbaaGreatDoor.F3
open Go.RowKit
set_option linter.unusedVariables false
/-- The entries that a Put of k words makes. -/
def entF (o : Nat) (f : Nat → Int) (k : Nat) : List Ent := (List.range k).map fun i => (cellOf (o + i), f i)
theorem entF_succ (o : Nat) (f : Nat → Int) (k : Nat) : entF o f (k + 1) = entF o f k ++ [(cellOf (o + k), f k)] := by simp [entF, List.range_succ]
theorem entF_len (o : Nat) (f : Nat → Int) (k : Nat) : (entF o f k).length = k := by simp [entF]
def putG (R : Nat → Int) (o : Nat) (f : Nat → Int) (k : Nat) : Nat → Int := fun j => if o ≤ j ∧ j < o + k then f (j - o) else R j
theorem step_putG {R : Nat → Int} {l : List Ent} (h : Step R l) {o : Nat} (ho : o + 16 ≤ 512) (f : Nat → Int) : ∀ k, k ≤ 16 → Step (putG R o f k) (l ++ entF o f k)
  | 0, _ => by
    have e : putG R o f 0 = R := by funext j; unfold putG; rw [if_neg (by omega)]
    rw [e]; simpa [entF] using h
  | k + 1, hk => by
    have ih := step_putG h ho f k (by omega)
    have := step_upd ih (k := o + k) (by omega) (by omega) (f k)
    rw [entF_succ, ← List.append_assoc]
    have e : putG R o f (k + 1) = upd (putG R o f k) (o + k) (f k) := by
      funext j
      unfold putG upd
      by_cases e : j = o + k
      · subst e; rw [if_pos rfl, if_pos (by omega), show o + k - o = k by omega]
      · rw [if_neg e]
        show (if _ then _ else _) = (if _ then _ else _)
        by_cases c : o ≤ j ∧ j < o + k
        · rw [if_pos c, if_pos (by omega)]
        · rw [if_neg c, if_neg (by omega)]
    rw [e]; exact this
theorem step_putF {R : Nat → Int} {l : List Ent} (h : Step R l) {x : Int} (h0 : 0 ≤ x) (h1 : x < 32) (f : Nat → Int) : Step (putF R (x.toNat * 16) f) (l ++ entF (x.toNat * 16) f 16) := step_putG h (by omega) f 16 (Nat.le_refl _)
theorem place_ent {n x : Int} (h0 : 0 ≤ x) (h1 : x < n) (hn : n ≤ 32) {k : Nat} (hk : k < 16) : place n x 0 (16 + k) = cellOf (x.toNat * 16 + k) := by
  rw [place_put h0 h1 hn hk]; congr 1; omega
theorem LAt.drew {w : World} {s : Value} {l : List Ent} (h : LAt w s l) : LAt w.drew s l := h
theorem only_cell_far {w w' : World} {z b j : Nat} {v : Value} (h : w.grownBy w' (some z)) (hc : w.cell? ⟨b, j, none⟩ = some v) (hb : b ≠ z) : w'.cell? ⟨b, j, none⟩ = some v :=
  h.cell hc (fun e => hb (by cases e; rfl))
theorem only_frozen_far {w w' : World} {z b j : Nat} {v : Value} (h : w.grownBy w' (some z)) (hc : w.cell? ⟨b, j, none⟩ = some v) (hf : w.frozen? ⟨b, j, none⟩ = false) (hb : b ≠ z) : w'.frozen? ⟨b, j, none⟩ = false :=
  (World.frozen?_of_block (a := ⟨b, j, none⟩) (h.block b (block_lt_of_cell (a := ⟨b, j, none⟩) hc) (fun e => hb (by cases e; rfl)))).trans hf
theorem LAtB.slice {B : Nat} {w : World} {s : Value} {l : List Ent} (h : LAtB B w s l) : ∃ p m c, s = .slice p m c := by
  obtain ⟨p, c, h, _⟩ := h.at.form
  exact ⟨p, _, c, h⟩
theorem LAtB.far {B : Nat} {w : World} {s : Value} {l : List Ent} (h : LAtB B w s l) {z : Nat} (hz : z < B) (o : Nat) (u : Value) : LAtB B (w.setCell ⟨z, o, none⟩ u) s l := ownsRow_setCell_below h (a := ⟨z, o, none⟩) hz u
set_option maxHeartbeats 1000000 in
theorem refPut_bad (n x : Int) (p q : Option Addr) (m c m2 c2 : Nat) (w : World) (hm : m2 ≤ 16) (h : x < 0 ∨ n ≤ x ∨ m2 < 16) :
    Calls Tryz.prog 94 #[.agg #[.int .i64 n, .slice p m c], .int .i64 x, .slice q m2 c2] w fun e w' => e = .returned (.tuple #[.agg #[.int .i64 n, .slice p m c], .int .i64 2]) ∧ Below w.heap.size w w' := by
  by_cases h0 : x < 0
  · clear h
    go_enter Tryz.func94, Tryz.ntmps94
    go_wp2
    refine bodyPost_ret (v := .tuple #[.agg #[.int .i64 n, .slice p m c], .int .i64 2]) (by simp [results, Tryz.results94, go_sem]) rfl ⟨rfl, by go_grown⟩
  by_cases h1 : n ≤ x
  · clear h
    go_enter Tryz.func94, Tryz.ntmps94
    go_wp2
    refine bodyPost_ret (v := .tuple #[.agg #[.int .i64 n, .slice p m c], .int .i64 2]) (by simp [results, Tryz.results94, go_sem]) rfl ⟨rfl, by go_grown⟩
  · have h2 : ((m2 : Int) != 16) = true := by simp; omega
    clear h
    go_enter Tryz.func94, Tryz.ntmps94
    go_wp2
    refine bodyPost_ret (v := .tuple #[.agg #[.int .i64 n, .slice p m c], .int .i64 2]) (by simp [results, Tryz.results94, go_sem]) rfl ⟨rfl, by go_grown⟩
set_option maxHeartbeats 1000000 in
theorem refPut_at (n x : Int) (p : Option Addr) (m c g c2 : Nat) (l : List Ent) (f : Nat → Int) (w : World) (hn : 2 ≤ n) (hn' : n ≤ 32) (h0 : 0 ≤ x) (h1 : x < n) (hl : l.length ≤ 800) (hL : LAt w (.slice p m c) l)
    (hs : ∀ i, i < 16 → w.cell? ⟨g, i, none⟩ = some (.int .u32 (f i))) :
    Calls Tryz.prog 94 #[.agg #[.int .i64 n, .slice p m c], .int .i64 x, .slice (some ⟨g, 0, none⟩) 16 c2] w fun e w' => ∃ s', e = .returned (.tuple #[.agg #[.int .i64 n, s'], .int .i64 0]) ∧ LAtB w.heap.size w' s' (l ++ entF (x.toNat * 16) f 16) ∧ Below w.heap.size w w' := by
  have HS := Lib.hid hs
  clear hs
  have g1 : ¬ x < 0 := by omega
  have g2 : ¬ n ≤ x := by omega
  have G : Below w.heap.size w ((w.alloc (.cells #[.int .i64 n, .slice p m c] 35)).alloc (.cells #[.int .i64 0, .slice none 0 0] 35)) := ((Below.refl _ _).alloc (Nat.le_refl _) _).alloc (by simp) _
  have HB := Lib.hid (two_boxes w #[.int .i64 n, .slice p m c] #[.int .i64 0, .slice none 0 0] 35 35)
  go_enter Tryz.func94, Tryz.ntmps94
  go_wp2
  generalize (w.alloc (.cells #[.int .i64 n, .slice p m c] 35)).alloc (.cells #[.int .i64 0, .slice none 0 0] 35) = W at G HB ⊢
  go_loopw [8] (fun i wr => ∃ (k : Nat) (p' : Option Addr) (m' c' : Nat), k ≤ 16 ∧ i = .int .i64 (k : Int) ∧ LAt wr (.slice p' m' c') (l ++ entF (x.toNat * 16) f k) ∧ wr.cell? ⟨w.heap.size, 0, none⟩ = some (.int .i64 n) ∧ wr.cell? ⟨w.heap.size, 1, none⟩ = some (.slice p' m' c')
      ∧ wr.frozen? ⟨w.heap.size, 0, none⟩ = false ∧ wr.frozen? ⟨w.heap.size, 1, none⟩ = false ∧ Hid ((Value.slice p' m' c').ownBlock ≠ some (w.heap.size + 1)) ∧ Hid (0 < k → LAtB w.heap.size wr (.slice p' m' c') (l ++ entF (x.toNat * 16) f k)) ∧ W.grownBy wr (some w.heap.size)) (fun i _ => 16 - (intOf i).toNat)
  case atStart => exact ⟨0, p, m, c, by omega, rfl, (by simpa [entF] using hL.bel G), HB.out.1 0 _ rfl, HB.out.1 1 _ rfl, HB.out.2.2.1 0, HB.out.2.2.1 1, (fun e => by have := (hL.lt _ e).2; omega), (fun hk => absurd hk (by decide)), ⟨rfl, rfl, rfl, Nat.le_refl _, fun _ _ _ => rfl⟩⟩
  case round =>
    obtain ⟨k, p', m', c', hk, rfl, hLk, b0, b1, f0, f1, hne, hLB, hg⟩ := hrel
    have GW := only_bel G hg (Nat.le_refl _)
    by_cases hlt : k < 16
    · have hc := bel_cell GW (HS.out k hlt)
      have HP := Lib.hid (place_ent h0 h1 hn' hlt)
      have HE := Lib.hid (entF_succ (x.toNat * 16) f k)
      have hlen : (l ++ entF (x.toNat * 16) f k).length ≤ 900 := by rw [List.length_append, entF_len]; omega
      have HL := Lib.hid hLk.drew
      have HG := Lib.hid hg
      have hz := block_lt_of_cell (a := ⟨w.heap.size, 0, none⟩) b0
      have hz1 : w.heap.size + 1 < wr.heap.size := Nat.lt_of_lt_of_le (block_lt_of_cell (a := ⟨w.heap.size + 1, 0, none⟩) (HB.out.2.1 0 _ rfl)) hg.size
      clear hLk hg hL HB hne hLB
      have B0 : Hid (wr.drew.cell? ⟨w.heap.size, 0, none⟩ = some (.int .i64 n)) := b0
      have B1 : Hid (wr.drew.cell? ⟨w.heap.size, 1, none⟩ = some (.slice p' m' c')) := b1
      have F0 : Hid (wr.drew.frozen? ⟨w.heap.size, 0, none⟩ = false) := f0
      have F1 : Hid (wr.drew.frozen? ⟨w.heap.size, 1, none⟩ = false) := f1
      go_wp2
      have hsum : IntKind.i64.wrap (16 + (k : Int)) = 16 + (k : Int) := IntWalk.i64_in _ (by omega)
      go_region_with (go_at_call 64; refine (refSet_at n x 0 (16 + (k : Int)) (f k) p' m' c' (l ++ entF (x.toNat * 16) f k) _ hn hn' hlen HL.out ⟨h0, h1, by decide, by decide, by omega, by omega⟩).mono ?_; rintro e w3 ⟨s', rfl, hL3, g3⟩; obtain ⟨p3, m3, c3, rfl⟩ := hL3.slice; have b0' := bel_cell g3 B0.out; have b1' := bel_cell g3 B1.out; have f0' := bel_frozen g3 B0.out F0.out; have f1' := bel_frozen g3 B0.out F1.out)
      all_goals
        have L4 := ((hL3.far (z := w.heap.size) hz 0 (.int .i64 n)).far (z := w.heap.size) hz 1 (.slice p3 m3 c3)).at
        rw [HP.out, List.append_assoc, ← HE.out] at L4
        have k4 := only_cell (only_cell (only_trans HG.out (bel_only (Below.trans (Below.refl _ _).drew g3) w.heap.size)) 0 (.int .i64 n)) 1 (.slice p3 m3 c3)
        have c0 : ((w3.setCell ⟨w.heap.size, 0, none⟩ (.int .i64 n)).setCell ⟨w.heap.size, 1, none⟩ (.slice p3 m3 c3)).cell? ⟨w.heap.size, 0, none⟩ = some (.int .i64 n) := by
          rw [World.cell?_setCell_other _ _ _ _ (by simp), World.cell?_setCell_same _ _ _ b0']
        have c1 : ((w3.setCell ⟨w.heap.size, 0, none⟩ (.int .i64 n)).setCell ⟨w.heap.size, 1, none⟩ (.slice p3 m3 c3)).cell? ⟨w.heap.size, 1, none⟩ = some (.slice p3 m3 c3) := by
          exact World.cell?_setCell_same _ _ _ ((World.cell?_setCell_other _ _ _ _ (by simp)).trans b1')
        have z0 : ((w3.setCell ⟨w.heap.size, 0, none⟩ (.int .i64 n)).setCell ⟨w.heap.size, 1, none⟩ (.slice p3 m3 c3)).frozen? ⟨w.heap.size, 0, none⟩ = false := by rw [World.frozen?_setCell, World.frozen?_setCell]; exact f0'
        have z1 : ((w3.setCell ⟨w.heap.size, 0, none⟩ (.int .i64 n)).setCell ⟨w.heap.size, 1, none⟩ (.slice p3 m3 c3)).frozen? ⟨w.heap.size, 1, none⟩ = false := by rw [World.frozen?_setCell, World.frozen?_setCell]; exact f1'
        have B4 := ((hL3.far (z := w.heap.size) hz 0 (.int .i64 n)).far (z := w.heap.size) hz 1 (.slice p3 m3 c3)).less (C := w.heap.size) (Nat.le_of_lt hz)
        rw [HP.out, List.append_assoc, ← HE.out] at B4
        have n4 : Hid ((Value.slice p3 m3 c3).ownBlock ≠ some (w.heap.size + 1)) := fun e => by
          have h : wr.heap.size ≤ w.heap.size + 1 := (World.ownsRow.lt hL3 _ e).1
          omega
        clear hL3 b0' b1' f0' f1' b0 b1 f0 f1 hc hsum
        generalize (w3.setCell ⟨w.heap.size, 0, none⟩ (.int .i64 n)).setCell ⟨w.heap.size, 1, none⟩ (.slice p3 m3 c3) = w4 at L4 B4 k4 c0 c1 z0 z1 ⊢
        go_wp2
        go_roundw
        case rel => exact ⟨k + 1, p3, m3, c3, by omega, by go_num, L4, c0, c1, z0, z1, n4, (fun _ => B4), k4⟩
        case measure => simp [intOf]; omega
    · obtain rfl : k = 16 := by omega
      have r0 : wr.cell? ⟨w.heap.size + 1, 0, none⟩ = some (.int .i64 0) := only_cell_far hg (HB.out.2.1 0 _ rfl) (by omega)
      have r1 : wr.cell? ⟨w.heap.size + 1, 1, none⟩ = some (.slice none 0 0) := only_cell_far hg (HB.out.2.1 1 _ rfl) (by omega)
      have y0 : wr.frozen? ⟨w.heap.size + 1, 0, none⟩ = false := only_frozen_far hg (HB.out.2.1 0 _ rfl) (HB.out.2.2.2 0) (by omega)
      have y1 : wr.frozen? ⟨w.heap.size + 1, 1, none⟩ = false := only_frozen_far hg (HB.out.2.1 1 _ rfl) (HB.out.2.2.2 1) (by omega)
      have hz := block_lt_of_cell (a := ⟨w.heap.size + 1, 0, none⟩) r0
      have hsz := GW.size
      have L5 : LAtB w.heap.size ((wr.setCell ⟨w.heap.size + 1, 0, none⟩ (.int .i64 n)).setCell ⟨w.heap.size + 1, 1, none⟩ (.slice p' m' c')) (.slice p' m' c') (l ++ entF (x.toNat * 16) f 16) :=
        ownsRow_setCell_other (ownsRow_setCell_other (hLB.out (by decide)) (a := ⟨w.heap.size + 1, 0, none⟩) hne.out _) (a := ⟨w.heap.size + 1, 1, none⟩) hne.out _
      have G5 : Below w.heap.size w ((wr.setCell ⟨w.heap.size + 1, 0, none⟩ (.int .i64 n)).setCell ⟨w.heap.size + 1, 1, none⟩ (.slice p' m' c')) := (GW.setCell (p := ⟨w.heap.size + 1, 0, none⟩) (Nat.le_succ _) _).setCell (p := ⟨w.heap.size + 1, 1, none⟩) (Nat.le_succ _) _
      go_wp2
      refine bodyPost_ret (v := .tuple #[.agg #[.int .i64 n, .slice p' m' c'], .int .i64 0]) ?_ rfl ⟨_, rfl, L5, G5⟩
      simp [results, Tryz.results94, go_sem, r0, r1]
end Go.Proofs.YtiobgnelhiadbaaGreatDoor.F3
namespace Go.Proofs.YtiobgnelhiadbaaGreatDoor.F3
open Go.RowKit
set_option linter.unusedVariables false
def wlk (f : Nat → Int) (k : Nat) : List Value := (List.range k).map fun i => Value.int .u32 (f i)
theorem wlk_succ (f : Nat → Int) (k : Nat) : wlk f (k + 1) = wlk f k ++ [.int .u32 (f k)] := by simp [wlk, List.range_succ]
theorem one_box (w : World) (A : Array Value) (t : TypeId) : (∀ j v, A[j]? = some v → (w.alloc (.cells A t)).cell? ⟨w.heap.size, j, none⟩ = some v) :=
  fun j v h => (cell_of_row _ _ _ _ _ _ (heap_alloc_last _ _)).trans h
set_option maxHeartbeats 1000000 in
theorem refWindow_at (n x : Int) (p : Option Addr) (m c : Nat) (l : List Ent) (w : World) (hn : 2 ≤ n) (hn' : n ≤ 32) (h0 : 0 ≤ x) (h1 : x < n) (hl : l.length ≤ 1000) (hL : LAt w (.slice p m c) l) :
    Calls Tryz.prog 86 #[.agg #[.int .i64 n, .slice p m c], .int .i64 x] w fun e w' => ∃ s', e = .returned (.tuple #[s', .int .i64 0]) ∧ w'.ownsRow w.heap.size 22 1 s' 16 (wlk (fun i => atL l (place n x 0 (16 + (i : Int)))) 16) ∧ Below w.heap.size w w' := by
  obtain ⟨i0, hi, hz0, hz1, hz2⟩ := info_parts u32_parts
  have G : Below w.heap.size w (w.alloc (.cells #[.int .i64 n, .slice p m c] 35)) := (Below.refl _ _).alloc (Nat.le_refl _) _
  have HB := Lib.hid (one_box w #[.int .i64 n, .slice p m c] 35)
  have L0 := hL.bel G
  go_enter Tryz.func86, Tryz.ntmps86
  go_wp2
  generalize w.alloc (.cells #[.int .i64 n, .slice p m c] 35) = W at G HB L0 ⊢
  go_loopw [6, 7] (fun s i wr => ∃ k : Nat, k ≤ 16 ∧ i = .int .i64 (16 + (k : Int)) ∧ wr.ownsRow W.heap.size 22 1 s k (wlk (fun i => atL l (place n x 0 (16 + (i : Int)))) k) ∧ Below W.heap.size W wr) (fun _ i _ => 32 - (intOf i).toNat)
  case atStart => exact ⟨0, by omega, rfl, World.ownsRow_nil _ _ _ _, Below.refl _ _⟩
  case round =>
    obtain ⟨k, hk, rfl, hown, hg⟩ := hrel
    have GW := bel_trans G hg
    by_cases hlt : k < 16
    · have b0 : wr.cell? ⟨w.heap.size, 0, none⟩ = some (.int .i64 n) := bel_cell hg (HB.out 0 _ rfl)
      have b1 : wr.cell? ⟨w.heap.size, 1, none⟩ = some (.slice p m c) := bel_cell hg (HB.out 1 _ rfl)
      have L1 := Lib.hid (L0.bel hg)
      have ht : (16 + (k : Int)) < 32 := by omega
      go_wp2_with fail
      refine (refGet_at n x 0 (16 + (k : Int)) _ l _ hn hn' hl L1.out ⟨h0, h1, by decide, by decide, by omega, by omega⟩).mono ?_; rintro e w2 ⟨rfl, g2⟩
      have hown2 : w2.ownsRow W.heap.size 22 1 u6 k (wlk (fun i => atL l (place n x 0 (16 + (i : Int)))) k) := by
        cases hs : u6.ownBlock with
        | none => exact hown.kept (row := none) ⟨g2.os, g2.tape, g2.output, g2.size, fun i hi _ => g2.block i hi⟩ (.inl hs)
        | some b => exact hown.kept (row := none) ⟨g2.os, g2.tape, g2.output, g2.size, fun i hi _ => g2.block i hi⟩ (.inr (by rw [hs]; simp))
      have hg2 := bel_trans hg g2
      have hsW := hg2.size
      clear hown hg GW g2 b0 b1 L1 HB L0 hL
      go_wp2_with (at_builtin; refine wpList_append_own _ rfl _ _ 25 rfl W.heap.size 22 i0 (.int .u32 0) 1 4 u32_under hi hz0 hz1 hz2 rfl (by decide) _ _ _ rfl (hown2.alloc _) ⟨w2.heap.size, 0, none⟩ 1 1 [.int .u32 (atL l (place n x 0 (16 + (k : Int))))] rfl rfl (one_new _ _ _) (fun x hx => by simp at hx; subst hx; rfl) (by unfold maxLen; omega) (by omega) (by simp; omega) ?_; intro s' w3 hown' hgrow hnil
                   have X : Hid (w3.ownsRow W.heap.size 22 1 s' (k + 1) (wlk (fun i => atL l (place n x 0 (16 + (i : Int)))) (k + 1)) ∧ Below W.heap.size W w3) := ⟨by rw [wlk_succ]; exact hown', Below.grown (hg2.alloc (by omega) _) hgrow (by simp; omega) (fun j hj => (hown2.lt _ hj).1)⟩
                   clear hown' hgrow hnil)
      go_roundw
      case rel => exact ⟨k + 1, by omega, by go_num, X.out.1, X.out.2⟩
      case measure => simp [intOf]; omega
    · obtain rfl : k = 16 := by omega
      have hown3 : wr.ownsRow w.heap.size 22 1 u6 16 (wlk (fun i => atL l (place n x 0 (16 + (i : Int)))) 16) := by
        obtain ⟨q1, q2 | ⟨g, cap, cur, q3, q4, q5⟩⟩ := hown
        · exact ⟨q1, .inl q2⟩
        · exact ⟨q1, .inr ⟨g, cap, cur, q3, Nat.le_trans G.size q4, q5⟩⟩
      go_wp2
      go_ret2
      exact ⟨_, rfl, hown3, GW⟩
end Go.Proofs.YtiobgnelhiadbaaGreatDoor.F3
