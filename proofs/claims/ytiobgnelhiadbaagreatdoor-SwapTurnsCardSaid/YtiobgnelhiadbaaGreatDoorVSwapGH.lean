/- The document's example of layer 10, walked. -/
import Derived.Test.YtiobgnelhiadbaaGreatDoorVSwapGW
import Derived.Test.YtiobgnelhiadbaaGreatDoorVWindGU
namespace Go.Proofs.YtiobgnelhiadbaaGreatDoor.S10
open Go.RowKit K6
open A7 (XI XB AS AJ)
open W8 (gX gX_mem sFr sBr)
set_option linter.unusedVariables false
/-- Something turns that is none of the machines'. -/
theorem AllM_off {a w w' : World} {L : List ME} {x : Nat} (h : AllM a w L) (k : Turns (fun i => i = x) w w') (hx : a.heap.size ≤ x) (ht : ¬ isTab x) (hn : ∀ (j : Nat) (e : ME), L[j]? = some e → ¬ e.G x) : AllM a w' L :=
  ⟨Turns.bel h.bel k (fun i e => e ▸ hx), h.tab.turns k (fun i e => e ▸ ht), fun j e hj => (h.at' j e hj).turns k (fun i hi e' => hn j e hj (e' ▸ hi)) (fun i e => e ▸ ht), h.low, h.dis⟩
theorem wd_5 : W32 5 := ⟨by decide, by decide⟩
theorem wd_0 : W32 0 := ⟨by decide, by decide⟩
theorem wd_1 : W32 1 := ⟨by decide, by decide⟩
theorem wd_1540 : W32 1540 := ⟨by decide, by decide⟩
/-- The document's example: a yield, and an end. -/
def hC (en : Bool) (ch : Int) : TC := ⟨3, 1, 0, 0, fun _ => 0, 3, fun i => if i = 1 then 100 else if i = 2 then 200 else 0, 2, 0, fun i => i == 0 || i == 1, fun i => if i = 1 then 1000 else 0, ch, 0, 0, 0, en⟩
theorem hC_may (en : Bool) (ch : Int) : (hC en ch).May := ⟨by show (2 : Int) ≤ 3; decide, by show (3 : Int) ≤ 32; decide, by show (0 : Int) ≤ 1; decide, by show (1 : Int) < 3; decide, by show (0 : Int) ≤ 0; decide, by show (0 : Int) < 3; decide, by show (0 : Int) ≠ 1; decide, by show (1 : Int) ≤ 2; decide, by show (2 : Int) ≤ 4; decide, by show (0 : Int) ≤ 0; decide, by show (0 : Int) < 2; decide, by show (0 : Int) ≤ 15; decide, by show (0 : Int) ≤ 15; decide, by show 0 ≤ 512; decide, by show 3 ≤ 64; decide⟩
theorem hC_b (en : Bool) (ch : Int) (h : W32 ch) : TCB (hC en ch) :=
  ⟨fun i => ⟨Int.le_refl _, by show (0 : Int) < 4294967296; decide⟩,
   fun i => by show 0 ≤ (if i = 1 then (100 : Int) else if i = 2 then 200 else 0) ∧ (if i = 1 then (100 : Int) else if i = 2 then 200 else 0) < 65536; split; omega; split <;> omega,
   fun i => by show 0 ≤ (if i = 1 then (1000 : Int) else 0) ∧ (if i = 1 then (1000 : Int) else 0) < 65536; split <;> omega,
   h, ⟨by show (0 : Int) ≤ 0; decide, by show (0 : Int) < 256; decide⟩, ⟨by show (0 : Int) ≤ 0; decide, by show (0 : Int) < 256; decide⟩, ⟨by show (0 : Int) ≤ 0; decide, by show (0 : Int) < 4294967296; decide⟩⟩
theorem hC_run (en : Bool) (ch : Int) (h : W32 ch) (hx : cntA (hC en ch).la 1 = ch % cntA (hC en ch).la 2) (hp : 0 < cntA (hC en ch).la 2) :
    ∃ e k, Zn (mZ (hC en ch)) 4 1704 (nxF (hC en ch).fH 1) (nxR 3 1 (hC en ch).fH (hC en ch).R 1) e ∧ Runs 1704 k (mZ (hC en ch)) e ∧ k ≤ 260 := by
  have l1 : (hC en ch).la 1 = 1 := by
    show (if (hC en ch).en = true ∧ ((1 : Nat) : Int) = 0 then (0 : Int) else 1) = 1
    rw [if_neg (fun e => absurd e.2 (by decide))]
  obtain ⟨e, k, z, r, hk⟩ := whole (hC_may en ch) (hC_b en ch h) (T := 1) (by show ((1 : Nat) : Int) < 2; decide) l1 hx hp
  have e1 : ldB (hC en ch).fH (64 + 16 * 1) 4 = 1704 := by
    rw [fH_far (hC_may en ch) (hC_b en ch h) (by decide) (.inr (by show 80 + 16 * 0 ≤ 64 + 16 * 1; decide)), mem_pc (hC_may en ch) (by decide)]; rfl
  rw [e1] at z r
  have hd : ((hC en ch).d : Int) = 2 := rfl
  rw [hd] at hk
  exact ⟨e, k, z, r, by omega⟩
/-- Where the thread's SP is. -/
theorem nxR_sp {n c : Int} {f R : Nat → Int} {T : Nat} (n2 : 2 ≤ n) (c0 : 0 ≤ c) (c1 : c < n) (hb : Nat) : nxR n c f R T (F3.loc n c hb 14) = ldB f (68 + 16 * T) 4 := by
  have e : F3.loc n c hb 14 = F3.loc n c 16 14 := by
    unfold F3.loc
    simp only [show ¬ ((14 : Int) < 8) by decide, show (14 : Int) < 16 by decide, if_true, if_false]
  rw [e]
  unfold nxR ldR
  rw [if_neg, F3.upd_same]
  unfold F3.loc
  rw [if_neg (by decide), if_pos (by decide)]
  split <;> omega
/-- The case of the example lies in block x, its frames in y. -/
structure HA (w V : World) (c : TC) (x y : Nat) : Prop where
  X : V.heap[x]? = some (.cells (zrow c (.slice none 0 0) (.slice (some ⟨y, 0, none⟩) 3 3)) 54 (0, 0))
  Y : V.heap[y]? = some (.cells #[.int .u16 0, .int .u16 100, .int .u16 200] 51 (0, 0))
  lx : w.heap.size ≤ x
  xy : x ≠ y
  g : Below w.heap.size w V
theorem HA.case {w V : World} {en : Bool} {ch : Int} {x y : Nat} (h : HA w V (hC en ch) x y) : TCAt V (hC en ch) (.slice none 0 0) (.slice (some ⟨y, 0, none⟩) 3 3) :=
  ⟨Sl.nil _ _ _ _ _, ⟨_, _, rfl, fun _ => ⟨y, 0, rfl, fun i (hi : i < 3) => by
      rw [Nat.zero_add]
      match i, hi with
      | 0, _ => exact row_cell h.Y rfl
      | 1, _ => exact row_cell h.Y rfl
      | 2, _ => exact row_cell h.Y rfl⟩⟩⟩
theorem HA.bel {w V V' : World} {c : TC} {x y : Nat} (h : HA w V c x y) (k : Below V.heap.size V V') : HA w V' c x y := ⟨bel_heap k h.X, bel_heap k h.Y, h.lx, h.xy, bel_trans h.g k⟩
theorem zrow_under : Tryz.prog.underlying 54 = some (Tryz.prog.underlying 54 |>.get (by kernel_rfl)) := by simp
theorem zrow_info (s : TC) (a b : Value) : (Tryz.prog.info? 54).map (·.size) = some (zrow s a b).size := by show _ = some 20; kernel_rfl
def z0 : Array Value := #[.int .i64 0, .int .i64 0, .int .i64 0, .slice none 0 0, .slice none 0 0, .int .i64 0, .int .i64 0, .bool false, .bool false, .bool false, .bool false, .int .u16 0, .int .u16 0, .int .u16 0, .int .u16 0, .int .u32 0, .int .u8 0, .int .u8 0, .int .u32 0, .bool false]
def wA (w : World) : World := w.alloc (.cells #[.int .u16 0, .int .u16 100, .int .u16 200] 51)
theorem wA_z (w : World) : ((wA w).alloc (.cells z0 54)).heap[w.heap.size + 1]? = some (.cells z0 54 (0, 0)) := by
  have s1 : (wA w).heap.size = w.heap.size + 1 := by simp [wA]
  rw [← s1]; exact heap_alloc_last _ _
def rA (w : World) : Array Value := zrow (hC false 5) (.slice none 0 0) (.slice (some ⟨w.heap.size, 0, none⟩) 3 3)
theorem rA_one (w : World) : (rA w).all (·.oneCell') = true := by
  rw [Array.all_eq_true_iff_forall_mem]; intro v hv; simp [rA, zrow] at hv; rcases hv with rfl | rfl | rfl | rfl | rfl | rfl | rfl | rfl | rfl | rfl | rfl | rfl | rfl | rfl | rfl | rfl | rfl | rfl | rfl | rfl <;> rfl
theorem HA.start (w : World) : HA w (((wA w).alloc (.cells z0 54)).setRow (w.heap.size + 1) (rA w)) (hC false 5) (w.heap.size + 1) w.heap.size := by
  have g : ∀ (V : World) (o : Obj), Below V.heap.size V (V.alloc o) := fun V o => bel_alK (Below.refl _ _)
  have hr := wA_z w
  have o : ((wA w).alloc (.cells z0 54)).grownBy (((wA w).alloc (.cells z0 54)).setRow (w.heap.size + 1) (rA w)) (some (w.heap.size + 1)) := only_row ⟨rfl, rfl, rfl, Nat.le_refl _, fun _ _ _ => rfl⟩ rfl
  have hy : ((wA w).alloc (.cells z0 54)).heap[w.heap.size]? = some (.cells #[.int .u16 0, .int .u16 100, .int .u16 200] 51 (0, 0)) := bel_heap (g _ _) (heap_alloc_last _ _)
  exact ⟨setRow_heap _ _ _ _ _ _ hr, only_heap o (by omega) hy, by omega, by omega, only_bel (bel_trans (g _ _) (g _ _)) o (by omega)⟩
theorem HA.turn {w V : World} {x y : Nat} (h : HA w V (hC false 5) x y) : HA w ((V.setCell ⟨x, 19, none⟩ (.bool true)).setCell ⟨x, 15, none⟩ (.int .u32 0)) (hC true 0) x y := by
  have h1 := heap_setCell_same V x 19 _ _ (.bool true) h.X
  have h2 := heap_setCell_same _ x 15 _ _ (.int .u32 0) h1
  exact ⟨h2, by rw [heap_setCell_other _ _ _ _ (fun e => h.xy e.symm), heap_setCell_other _ _ _ _ (fun e => h.xy e.symm)]; exact h.Y, h.lx, h.xy, (h.g.setCell (p := ⟨x, 19, none⟩) h.lx _).setCell (p := ⟨x, 15, none⟩) h.lx _⟩
theorem HA.all {w V : World} {c : TC} {x y : Nat} (h : HA w V c x y) : V.cell? ⟨x, 0, none⟩ = some (.int .i64 c.nw) ∧ V.cell? ⟨x, 1, none⟩ = some (.int .i64 c.c) ∧ V.cell? ⟨x, 2, none⟩ = some (.int .i64 c.iv) ∧ V.cell? ⟨x, 3, none⟩ = some (.slice none 0 0) ∧ V.cell? ⟨x, 4, none⟩ = some (.slice (some ⟨y, 0, none⟩) 3 3) ∧ V.cell? ⟨x, 5, none⟩ = some (.int .i64 c.th) ∧ V.cell? ⟨x, 6, none⟩ = some (.int .i64 c.ru) ∧ V.cell? ⟨x, 7, none⟩ = some (.bool (c.al 0)) ∧ V.cell? ⟨x, 8, none⟩ = some (.bool (c.al 1)) ∧ V.cell? ⟨x, 9, none⟩ = some (.bool (c.al 2)) ∧ V.cell? ⟨x, 10, none⟩ = some (.bool (c.al 3)) ∧ V.cell? ⟨x, 11, none⟩ = some (.int .u16 (c.sk 0)) ∧ V.cell? ⟨x, 12, none⟩ = some (.int .u16 (c.sk 1)) ∧ V.cell? ⟨x, 13, none⟩ = some (.int .u16 (c.sk 2)) ∧ V.cell? ⟨x, 14, none⟩ = some (.int .u16 (c.sk 3)) ∧ V.cell? ⟨x, 15, none⟩ = some (.int .u32 c.ch) ∧ V.cell? ⟨x, 16, none⟩ = some (.int .u8 c.fl) ∧ V.cell? ⟨x, 17, none⟩ = some (.int .u8 c.pl) ∧ V.cell? ⟨x, 18, none⟩ = some (.int .u32 c.fill) ∧ V.cell? ⟨x, 19, none⟩ = some (.bool c.en) :=
  ⟨row_cell h.X rfl, row_cell h.X rfl, row_cell h.X rfl, row_cell h.X rfl, row_cell h.X rfl, row_cell h.X rfl, row_cell h.X rfl, row_cell h.X rfl, row_cell h.X rfl, row_cell h.X rfl, row_cell h.X rfl, row_cell h.X rfl, row_cell h.X rfl, row_cell h.X rfl, row_cell h.X rfl, row_cell h.X rfl, row_cell h.X rfl, row_cell h.X rfl, row_cell h.X rfl, row_cell h.X rfl⟩
theorem load_is {w : World} {b fb mb g x : Nat} {cs os : Value} {G : Nat → Prop} {m : MS} (h : MachP w b fb mb g x cs os G m) (a : Nat) (v : Int) (ha : a % 4 = 0 ∧ a + 4 ≤ 8192) (hz : m.sz = 8192) (hv : ldB m.f a 4 = v) :
    Calls Tryz.prog 53 #[.pointer (some ⟨mb, 0, none⟩), .int .u32 (a : Int), .int .i64 4] w fun e w' => e = .returned (.tuple #[.int .u32 v, .int .i64 0]) ∧ Below w.heap.size w w' := by
  have ht : thE m.sz (a : Int) 4 = 0 := by rw [hz]; exact th_80 (by omega) (by omega) (by omega)
  have hl : M5.ldV m.sz m.f (a : Int) 4 = v := by unfold M5.ldV; rw [if_pos ht, ← hv]; rfl
  have := M5.load_at (a : Int) 4 h.mem ⟨by omega, by omega⟩
  rw [ht, hl] at this
  exact this
set_option maxRecDepth 100000 in
set_option maxHeartbeats 8000000 in
theorem zhead_at (w : World) (hT : Tabs w) :
    Calls Tryz.prog 19 #[] w fun e w' => e = .returned (.bool true) ∧ Below w.heap.size w w' := by
  have HT := Lib.hid hT
  clear hT
  go_enter Tryz.func19, Tryz.ntmps19
  go_upto_region 2 with (refine wpList_store_row rfl 54 (.tmp 1) (.tmp 15) rfl (w.heap.size + 1) (rA w) rfl rfl 54 z0 (wA_z w) (zrow_info _ _ _) rfl (rA_one w) ?_)
  have E0 := Lib.hid (HA.start w)
  change Code.wp _ _ _ _ (((wA w).alloc (.cells z0 54)).setRow (w.heap.size + 1) (rA w))
  generalize ((wA w).alloc (.cells z0 54)).setRow (w.heap.size + 1) (rA w) = V at E0 ⊢
  generalize w.heap.size + 1 = x at E0 ⊢
  generalize w.heap.size = y at E0 ⊢
  as_aux_lemma =>
    go_wp2_with (refine wpList_load_row rfl 54 (.tmp 1) rfl x rfl 54 (zrow (hC false 5) (.slice none 0 0) (.slice (some ⟨y, 0, none⟩) 3 3)) (0, 0) _ E0.out.X zrow_under rfl (zrow_info _ _ _) ?_)
    refine (zmade_at (hC false 5) (hC_may _ _) (hC_b _ _ wd_5) E0.out.case (HT.out.bel E0.out.g)).mono ?_; rintro e w1 ⟨b, G, rfl, B1, g1, low1⟩
    have A1 : Hid (AllM w w1 [⟨b, G, mZ (hC false 5)⟩]) := ((AllM.none HT.out).more E0.out.g).add g1 B1 low1
    have NG : Hid (¬ G x) := fun e => absurd (A7.heap_lt E0.out.X) (Nat.not_lt.2 (low1 x e))
    have NT : Hid (¬ isTab x) := fun e => absurd (HT.out.lt e) (Nat.not_lt.2 E0.out.lx)
    have E1 := Lib.hid (E0.out.bel g1)
    have f19 : w1.frozen? ⟨x, 19, none⟩ = false := row_frozen E1.out.X
    have f15 : w1.frozen? ⟨x, 15, none⟩ = false := row_frozen E1.out.X
    have c19 := E1.out.all.2.2.2.2.2.2.2.2.2.2.2.2.2.2.2.2.2.2.2
    have c15 := E1.out.all.2.2.2.2.2.2.2.2.2.2.2.2.2.2.2.1
    clear B1 g1 low1
    as_aux_lemma =>
      go_upto_region 5 with (fail)
      have E2 := Lib.hid E1.out.turn
      have A2 : Hid (AllM w ((w1.setCell ⟨x, 19, none⟩ (.bool true)).setCell ⟨x, 15, none⟩ (.int .u32 0)) [⟨b, G, mZ (hC false 5)⟩]) :=
        AllM_off A1.out ((Turns.of_only (G := fun i => i = x) (only_cell (bel_only (Below.refl _ _) x) _ _) rfl).trans (Turns.of_only (G := fun i => i = x) (only_cell (bel_only (Below.refl _ _) x) _ _) rfl) (fun _ e => .inl e)) E0.out.lx NT.out (fun j e hj => by
          cases j with
          | zero => simp at hj; subst hj; exact NG.out
          | succ j => simp at hj)
      generalize (w1.setCell ⟨x, 19, none⟩ (.bool true)).setCell ⟨x, 15, none⟩ (.int .u32 0) = V2 at E2 A2 ⊢
      clear f19 f15 c19 c15 A1 E1 E0 NG NT
      as_aux_lemma =>
        go_wp2_with (refine wpList_load_row rfl 54 (.tmp 1) rfl x rfl 54 (zrow (hC true 0) (.slice none 0 0) (.slice (some ⟨y, 0, none⟩) 3 3)) (0, 0) _ E2.out.X zrow_under rfl (zrow_info _ _ _) ?_)
        refine (zmade_at (hC true 0) (hC_may _ _) (hC_b _ _ wd_0) E2.out.case A2.out.tab).mono ?_; rintro e w3 ⟨b2, G2, rfl, B3, g3, low3⟩
        have A3 : Hid (AllM w w3 [⟨b, G, mZ (hC false 5)⟩, ⟨b2, G2, mZ (hC true 0)⟩]) := A2.out.add g3 B3 low3
        clear B3 g3 low3 A2 E2
        as_aux_lemma =>
          obtain ⟨e1, k1, Z1, R1, hk1⟩ := hC_run false 5 wd_5 (by decide) (by decide)
          obtain ⟨e2, k2, Z2, R2, hk2⟩ := hC_run true 0 wd_0 (by decide) (by decide)
          have Z1 := Lib.hid Z1
          have Z2 := Lib.hid Z2
          have R1 := Lib.hid R1
          have R2 := Lib.hid R2
          have KK := Lib.hid (And.intro hk1 hk2)
          clear hk1 hk2
          go_wp2_with fail
          refine (runsZ_at (M := 260) A3.out (p := 0) rfl R1.out KK.out.1 (by decide) (by show (0 : Nat) ≤ 1000; decide) 260 rfl).mono ?_; rintro e w4 ⟨rfl, G4, A4, _⟩
          have A4 : Hid (AllM w w4 [⟨b, G4, e1⟩, ⟨b2, G2, mZ (hC true 0)⟩]) := A4
          clear A3 R1
          go_wp2_with fail
          refine (runsZ_at (M := 260) A4.out (p := 1) rfl R2.out KK.out.2 (by decide) (by show (0 : Nat) ≤ 1000; decide) 260 rfl).mono ?_; rintro e w5 ⟨rfl, G5, A5, _⟩
          have A5 : Hid (AllM w w5 [⟨b, G4, e1⟩, ⟨b2, G5, e2⟩]) := A5
          clear A4 R2 KK
          as_aux_lemma =>
            obtain ⟨fb, mb, gb, xb, cs, os, P⟩ := A5.out.at' 0 _ rfl
            obtain ⟨fb2, mb2, gb2, xb2, cs2, os2, P2⟩ := A5.out.at' 1 _ rfl
            have P := Lib.hid P
            have P2 := Lib.hid P2
            have L1 := Lib.hid (fun W (k : Below w5.heap.size w5 W) => load_is (P.out.bel k) 128 1 (by decide) Z1.out.sz (by rw [Z1.out.f]; unfold nxF; rw [ld_far (by decide)]; exact ld_st wd_1))
            have L2 := Lib.hid (fun W (k : Below w5.heap.size w5 W) => load_is (P.out.bel k) 64 1540 (by decide) Z1.out.sz (by
              rw [Z1.out.f, nxF_far (by decide)]
              unfold TC.fH
              rw [if_neg (by show ¬ (false = true); decide)]
              show ldB (stB (stB _ 64 4 1540) 68 4 _) 64 4 = 1540
              rw [ld_far (by decide)]
              exact ld_st wd_1540))
            have L3 := Lib.hid (fun W (k : Below w5.heap.size w5 W) => load_is (P2.out.bel k) 76 0 (by decide) Z2.out.sz (by
              rw [Z2.out.f, nxF_far (by decide)]
              unfold TC.fH
              rw [if_pos (by show true = true; rfl)]
              show ldB (stB _ 76 4 0) 76 4 = 0
              exact ld_st wd_0))
            have L4 := Lib.hid (fun W (k : Below w5.heap.size w5 W) => get_c (P.out.bel k) 1 (by decide) (by rw [Z1.out.nw]; show (1 : Int) < 3; decide) (v := frm 1000) (by
              rw [Z1.out.nw, Z1.out.R _ (.inl (by show F3.loc 3 1 0 14 < 641; decide))]
              show nxR 3 1 _ _ 1 (F3.loc 3 1 ((0 : Nat) : Int) 14) = _
              rw [nxR_sp (by decide) (by decide) (by decide)]
              rw [fH_far (hC_may _ _) (hC_b _ _ wd_5) (by decide) (.inr (by show 80 + 16 * 0 ≤ 68 + 16 * 1; decide)), mem_sp (hC_may _ _) (by decide)]
              rfl))
            have L5 := Lib.hid (fun W (k : Below w5.heap.size w5 W) => (Wim_get (P.out.bel k)).mono fun e w' hh => (show e = .returned (.int .u32 4) ∧ W = w' from ⟨by rw [hh.1, Z1.out.wim], hh.2⟩))
            clear Z1 Z2
            as_aux_lemma =>
              go_wp2_with fail
              refine (Mem_get P.out).mono ?_; rintro e w6 ⟨rfl, rfl⟩
              go_wp2_with fail
              refine (L1.out _ (Below.refl _ _)).mono ?_; rintro e w7 ⟨rfl, g7⟩
              have g7 := Lib.hid g7
              go_wp2_with fail
              refine (Mem_get (P.out.bel g7.out)).mono ?_; rintro e w8 ⟨rfl, rfl⟩
              go_wp2_with fail
              refine (L2.out _ g7.out).mono ?_; rintro e w9 ⟨rfl, g9⟩
              have g9 := Lib.hid (bel_trans g7.out g9)
              go_wp2_with fail
              refine (Mem_get (P2.out.bel g9.out)).mono ?_; rintro e w10 ⟨rfl, rfl⟩
              go_wp2_with fail
              refine (L3.out _ g9.out).mono ?_; rintro e w11 ⟨rfl, g11⟩
              have g11 := Lib.hid (bel_trans g9.out g11)
              as_aux_lemma =>
                go_wp2_with fail
                refine (File_get (P.out.bel g11.out)).mono ?_; rintro e w12 ⟨rfl, rfl⟩
                go_wp2_with fail
                refine (L4.out _ g11.out).mono ?_; rintro e w13 ⟨rfl, g13⟩
                have g13 := Lib.hid (bel_trans g11.out g13)
                clear g7 g9 g11
                as_aux_lemma =>
                  have FR := Lib.hid (fun W => frame_at 1000 W (by decide))
                  generalize frm 1000 = sp at FR ⊢
                  go_wp2_with fail
                  refine (FR.out _).mono ?_; rintro e w14 ⟨rfl, rfl⟩
                  go_wp2_with fail
                  refine (L5.out _ g13.out).mono ?_; rintro e w15 ⟨rfl, rfl⟩
                  go_wp2_with fail
                  refine (All_nil (.pointer none) 3 _ (.inl rfl)).mono ?_; rintro e w16 ⟨rfl, rfl⟩
                  as_aux_lemma =>
                    have A13 := Lib.hid (A5.out.more g13.out)
                    clear A5 g13 L1 L2 L3 L4 L5 P P2
                    go_wp2_with fail
                    refine (A7.New_at (K := fun _ => False) _ A13.out.tab.i (fun _ e => e.elim)).mono ?_; rintro e w17 ⟨a, Ga, rfl, A17, g17, low17⟩
                    have H17 := Lib.hid (A7.Has.start A17)
                    have G17 := Lib.hid (bel_trans A13.out.bel g17)
                    have L17 : Hid (∀ i, Ga i → w.heap.size ≤ i) := fun i hi => Nat.le_trans A13.out.bel.size (low17 i hi)
                    clear A17 g17 low17 A13
                    go_wp2_with fail
                    refine (All_arg 33 (.inr (by decide)) H17.out).mono ?_; rintro e w18 ⟨rfl, H18⟩
                    have G18 := Lib.hid (Turns.bel G17.out (wturns_of H18.turns) L17.out)
                    clear H18 H17
                    go_wp2_with fail
                    go_ret
                    exact ⟨rfl, G18.out⟩
end Go.Proofs.YtiobgnelhiadbaaGreatDoor.S10
