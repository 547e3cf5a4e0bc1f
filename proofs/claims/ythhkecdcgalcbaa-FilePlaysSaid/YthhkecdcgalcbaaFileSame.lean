/- A file that keeps step with a list of all that was set is found to be the same as the document's. -/
import Derived.Test.YthhkecdcgalcbaaFileRefE
namespace Go.Proofs.Ythhkecdcgalcbaa
open Go.RowKit
set_option linter.unusedVariables false
theorem quiet_eq {P : Program} {f : FuncId} {args : Array Value} {w : World} {n : Nat} {v : Value} (h : Calls P f args (w.drewN n) fun e w' => e = .returned v ∧ w.drewN n = w') :
    Calls P f args (w.drewN n) fun e w'' => e = .returned v ∧ ∃ m, w'' = w.drewN m := h.mono fun _ _ hh => ⟨hh.1, n, hh.2.symm⟩
theorem wlk_form {w : World} {B m : Nat} {s : Value} {f : Nat → Int} (h : w.ownsRow B 34 1 s m (wlk f m)) (hm : 0 < m) : ∃ g c, s = .slice (some ⟨g, 0, none⟩) m c ∧ ∀ i, i < m → w.cell? ⟨g, i, none⟩ = some (.int .u32 (f i)) := by
  obtain ⟨_, h | ⟨g, cap, cur, rfl, hB, hg, h1, h2, h3, h4⟩⟩ := h
  · omega
  · refine ⟨g, cap, rfl, fun i hi => ?_⟩
    rw [cell_of_row _ _ _ _ _ _ hg]
    have : (wlk f m)[i]? = some (.int .u32 (f i)) := by simp [wlk, hi]
    rw [← h4, List.getElem?_take_of_lt (by omega)] at this
    simpa using this
theorem get_step (b : Nat) (n x k r : Int) (R : Nat → Int) (l : List Ent) (w : World) (hF : FileAt w b n R) (hn : 2 ≤ n) (hn' : n ≤ 32) (h : Named n x k r) (hS : Step R l) :
    Calls Try.prog 16 #[.pointer (some ⟨b, 0, none⟩), .int .i64 x, .int .i64 k, .int .i64 r] w fun e w' => e = .returned (.tuple #[.int .u32 (atL l (place n x k r)), .int .i64 0]) ∧ Below w.heap.size w w' := by
  rw [← cellOf_loc hn' h, ← hS _ (loc_lt hn' h)]
  exact get_at b n x k r R w hF hn hn' h
/-- What the rounds hand on: the document's file in its box, the list, the file, and that they keep step. -/
structure Kept (z b : Nat) (n : Int) (R : Nat → Int) (p : Option Addr) (m c : Nat) (l : List Ent) (w : World) : Prop where
  b0 : w.cell? ⟨z, 0, none⟩ = some (.int .i64 n)
  b1 : w.cell? ⟨z, 1, none⟩ = some (.slice p m c)
  file : FileAt w b n R
  list : LAt w (.slice p m c) l
theorem Kept.bel {z b : Nat} {n : Int} {R : Nat → Int} {p : Option Addr} {m c : Nat} {l : List Ent} {w w' : World} (h : Kept z b n R p m c l w) (g : Below w.heap.size w w') : Kept z b n R p m c l w' :=
  ⟨bel_cell g h.b0, bel_cell g h.b1, h.file.bel g, h.list.bel g⟩
theorem row_step {n x : Int} {R : Nat → Int} {l : List Ent} (hS : Step R l) (hn' : n ≤ 32) (h0 : 0 ≤ x) (h1 : x < n) {i : Nat} (hi : i < 16) : R (x.toNat * 16 + i) = atL l (place n x 0 (16 + (i : Int))) := by
  rw [place_put h0 h1 hn' hi, hS _ (by omega)]
  congr 2; omega
set_option maxHeartbeats 4000000 in
set_option maxRecDepth 100000 in
theorem same_step (b : Nat) (n : Int) (R : Nat → Int) (p : Option Addr) (m c : Nat) (l : List Ent) (w : World) (hF : FileAt w b n R) (hL : LAt w (.slice p m c) l) (hS : Step R l) (hn : 2 ≤ n) (hn' : n ≤ 32) (hl : l.length ≤ 1000) :
    Calls Try.prog 18 #[.pointer (some ⟨b, 0, none⟩), .agg #[.int .i64 n, .slice p m c]] w fun e w' => e = .returned (.bool true) ∧ Below w.heap.size w w' := by
  have HS := Lib.hid hS
  have G : Below w.heap.size w (w.alloc (.cells #[.int .i64 n, .slice p m c] 29)) := (Below.refl _ _).alloc (Nat.le_refl _) _
  have HB := Lib.hid (one_box w #[.int .i64 n, .slice p m c] 29)
  have L0 := hL.bel G
  have F0 := hF.bel G
  clear hS hL hF
  go_enter Try.func18, Try.ntmps18
  go_wp2
  generalize w.alloc (.cells #[.int .i64 n, .slice p m c] 29) = W at G HB L0 F0 ⊢
  have b0 : W.cell? ⟨w.heap.size, 0, none⟩ = some (.int .i64 n) := HB.out 0 _ rfl
  have hnn : (n != n) = false := by simp
  go_quiet ((go_at_call 20; exact quiet_eq (nw_at b n _ (F0.bel (bel_drewN (Below.refl _ _) _)).nw hn)))
  have K0 : Kept w.heap.size b n R p m c l (W.drewN nq) := (⟨b0, HB.out 1 _ rfl, F0, L0⟩ : Kept w.heap.size b n R p m c l W).bel (bel_drewN (Below.refl _ _) _)
  have G0 : Below w.heap.size w (W.drewN nq) := bel_drewN G _
  clear HB L0 F0 b0 G
  generalize W.drewN nq = Q at K0 G0 ⊢
  go_wp2_with fail
  go_loopw [5] (fun i wr => ∃ I : Int, 0 ≤ I ∧ I ≤ n ∧ i = .int .i64 I ∧ Below Q.heap.size Q wr) (fun i _ => (n - intOf i).toNat)
  case atStart => exact ⟨0, by omega, by omega, rfl, Below.refl _ _⟩
  case round =>
    obtain ⟨I, hI, hI', rfl, hg⟩ := hrel
    have KW := K0.bel hg
    have b0 := KW.b0
    by_cases hlt : I < n
    · go_wp2_with fail
      refine (window_at b n I R _ KW.file hn hn' hI hlt).mono ?_; rintro e w2 ⟨rfl, g2, hrow⟩
      have K2 := KW.bel g2
      have b0' := K2.b0
      have b1' := K2.b1
      have R2 : Hid (∀ i, i < 16 → w2.cell? ⟨wr.heap.size, i, none⟩ = some (.int .u32 (atL l (place n I 0 (16 + (i : Int)))))) := fun i hi => by
        rw [cell_of_row _ _ _ _ _ _ hrow, ← row_step HS.out hn' hI hlt hi]
        simpa using wl_get (fun i => R (I.toNat * 16 + i)) hi
      have hg2 := bel_trans hg g2
      clear hrow
      generalize wr.heap.size = q1 at R2 ⊢
      clear KW b0 hg g2
      go_wp2_with fail
      refine (refWindow_at n I p m c l _ hn hn' hI hlt hl K2.list).mono ?_; rintro e w3 ⟨s', rfl, ho, g3⟩
      obtain ⟨g', c', rfl, hcells⟩ := wlk_form ho (by decide)
      have HC := Lib.hid hcells
      have R3 : Hid (∀ i, i < 16 → w3.cell? ⟨q1, i, none⟩ = some (.int .u32 (atL l (place n I 0 (16 + (i : Int)))))) := fun i hi => bel_cell g3 (R2.out i hi)
      have K3 := K2.bel g3
      have hg3 := bel_trans hg2 g3
      clear hcells ho R2 K2 b0' b1' hg2 g3
      go_wp2_with fail
      refine (same_yes _ _ 16 _ _ (fun i => atL l (place n I 0 (16 + (i : Int)))) _ (by omega) ⟨_, rfl, R3.out⟩ ⟨_, rfl, HC.out⟩).mono ?_; rintro e w4 ⟨rfl, g4⟩
      have K4 := K3.bel g4
      have hg4 := bel_trans hg3 g4
      clear K3 hg3 g4 R3 HC
      go_wp2_with fail
      go_loopw [10] (fun j ws => ∃ J : Int, 8 ≤ J ∧ J ≤ 16 ∧ j = .int .i64 J ∧ Below w4.heap.size w4 ws) (fun j _ => (16 - intOf j).toNat)
      case atStart => exact ⟨8, by omega, by omega, rfl, Below.refl _ _⟩
      case round =>
        obtain ⟨J, hJ, hJ', rfl, hx⟩ := hrel
        have KX := K4.bel hx
        by_cases hj : J < 16
        · have hN : Named n I 0 J := ⟨hI, hlt, by decide, by decide, by omega, by omega⟩
          go_wp2_with fail
          refine (get_step b n I 0 J R l _ KX.file hn hn' hN HS.out).mono ?_; rintro e w5 ⟨rfl, g5⟩
          have K5 := KX.bel g5
          have b0' := K5.b0
          have b1' := K5.b1
          go_wp2_with fail
          refine (refGet_at n I 0 J _ l _ hn hn' hl K5.list hN).mono ?_; rintro e w6 ⟨rfl, g6⟩
          have hx6 := bel_trans (bel_trans hx g5) g6
          clear KX K5 b0' b1' g5 g6 hx
          go_wp2
          go_roundw
          case rel => exact ⟨J + 1, by omega, by omega, rfl, hx6⟩
          case measure => simp [intOf]; omega
        · obtain rfl : J = 16 := by omega
          go_wp2
          go_roundw
          case rel => exact ⟨I + 1, by omega, by omega, rfl, bel_trans hg4 hx⟩
          case measure => simp [intOf]; omega
    · obtain rfl : I = n := by omega
      go_wp2_with fail
      have GW := bel_trans G0 hg
      clear hg b0 K0 G0
      generalize wr = V at KW GW ⊢
      go_loopw [15] (fun i ws => ∃ B : Int, 0 ≤ B ∧ B ≤ 17 ∧ i = .int .i64 B ∧ Below V.heap.size V ws) (fun i _ => (17 - intOf i).toNat)
      case atStart => exact ⟨0, by omega, by omega, rfl, Below.refl _ _⟩
      case round =>
        obtain ⟨B, hB, hB', rfl, hg⟩ := hrel
        by_cases hlt : B < 17
        · go_wp2_with fail
          go_loopw [16] (fun j wt => ∃ J : Int, 0 ≤ J ∧ J ≤ 8 ∧ j = .int .i64 J ∧ Below V.heap.size V wt) (fun j _ => (8 - intOf j).toNat)
          case atStart => exact ⟨0, by omega, by omega, rfl, hg⟩
          case round =>
            obtain ⟨J, hJ, hJ', rfl, hx⟩ := hrel
            have KX := KW.bel hx
            by_cases hj : J < 8
            · have hN : Named I 0 B J := ⟨by omega, by omega, hB, hlt, hJ, by omega⟩
              go_wp2_with fail
              refine (get_step b I 0 B J R l _ KX.file hn hn' hN HS.out).mono ?_; rintro e w5 ⟨rfl, g5⟩
              have K5 := KX.bel g5
              have b0' := K5.b0
              have b1' := K5.b1
              go_wp2_with fail
              refine (refGet_at I 0 B J _ l _ hn hn' hl K5.list hN).mono ?_; rintro e w6 ⟨rfl, g6⟩
              have hx6 := bel_trans (bel_trans hx g5) g6
              clear KX K5 b0' b1' g5 g6 hx
              go_wp2
              go_roundw
              case rel => exact ⟨J + 1, by omega, by omega, rfl, hx6⟩
              case measure => simp [intOf]; omega
            · obtain rfl : J = 8 := by omega
              go_wp2
              go_roundw
              case rel => exact ⟨B + 1, by omega, by omega, rfl, hx⟩
              case measure => simp [intOf]; omega
        · go_wp2
          go_ret
          exact ⟨rfl, bel_trans GW hg⟩
end Go.Proofs.Ythhkecdcgalcbaa
