/- WindBack (layer 8), walked: a SAVE that traps, and a RESTORE of it. -/
import Derived.Test.YtlmaikbnjdmhcaaGreatDoorWindGH
namespace Go.Proofs.YtlmaikbnjdmhcaaGreatDoor.K6
open Go.RowKit W8
set_option linter.unusedVariables false
theorem crow_down (s : CS) (vr vf vg : Value) : (crow s vr vf vg).setIfInBounds 8 (.bool false) = crow { s with up := false } vr vf vg := rfl
set_option maxRecDepth 100000 in
set_option maxHeartbeats 8000000 in
theorem back_walk {w : World} (s0 : CS) {vr vf vg vb : Value} (N : Nat) (Bf : Nat → Int) (hB0 : CSB s0) (hC0 : CaseAt w s0 vr vf vg) (hb : Sl .u32 w vb N Bf) (hbw : ∀ i, W32 (Bf i)) (hT : Tabs w) :
    Calls Tryz.prog 6 #[.agg (crow s0 vr vf vg), vb] w fun e w' => e = .returned (.bool true) ∧ Below w.heap.size w w' := by
  obtain ⟨pr, cr, rfl, _⟩ := id hC0.rr
  obtain ⟨pf, cf, rfl, _⟩ := id hC0.rf
  obtain ⟨pg, cg, rfl, _⟩ := id hC0.rg
  obtain ⟨pb, cb, rfl, hcb⟩ := id hb
  have hX : Hid ((w.alloc (.cells (crow s0 (.slice pr s0.lr cr) (.slice pf s0.lf cf) (.slice pg s0.lg cg)) 69)).heap[w.heap.size]? = some (.cells (crow s0 (.slice pr s0.lr cr) (.slice pf s0.lf cf) (.slice pg s0.lg cg)) 69 (0, 0))) := heap_alloc_last _ _
  have gX : Hid (Below w.heap.size w (w.alloc (.cells (crow s0 (.slice pr s0.lr cr) (.slice pf s0.lf cf) (.slice pg s0.lg cg)) 69))) := bel_alK (Below.refl _ _)
  have HB0 := Lib.hid hB0
  have HC0 := Lib.hid hC0
  have HT := Lib.hid hT
  have HBW := Lib.hid hbw
  have HCB : Hid (0 < N → ∃ z o, pb = some ⟨z, o, none⟩ ∧ ∀ W, Below w.heap.size w W → ∀ i, i < N → W.cell? ⟨z, o + i, none⟩ = some (.int .u32 (Bf i))) := fun hn => by
    obtain ⟨z, o, e, hc⟩ := hcb hn
    exact ⟨z, o, e, fun W k i hi => bel_cell k (hc i hi)⟩
  have HEAD : Hid (∀ W : World, Below w.heap.size w W → Calls Tryz.prog 28 #[] W fun e w' => e = .returned (.bool true) ∧ Below W.heap.size W w') := fun W k => whead_at W (HT.out.bel k)
  clear hB0 hC0 hb hbw hT hcb
  go_enter Tryz.func6, Tryz.ntmps6
  go_upto_region 1 with (fail)
  change Code.wp _ _ _ _ (w.alloc (.cells (crow s0 (.slice pr s0.lr cr) (.slice pf s0.lf cf) (.slice pg s0.lg cg)) 69))
  generalize w.alloc (.cells (crow s0 (.slice pr s0.lr cr) (.slice pf s0.lf cf) (.slice pg s0.lg cg)) 69) = V at hX gX ⊢
  have x0 : V.cell? ⟨w.heap.size, 0, none⟩ = some (.int .i64 s0.nw) := row_cell hX.out rfl
  have x1 : V.cell? ⟨w.heap.size, 1, none⟩ = some (.int .i64 s0.c) := row_cell hX.out rfl
  have x2 : V.cell? ⟨w.heap.size, 2, none⟩ = some (.slice pr s0.lr cr) := row_cell hX.out rfl
  have x3 : V.cell? ⟨w.heap.size, 3, none⟩ = some (.slice pf s0.lf cf) := row_cell hX.out rfl
  have x4 : V.cell? ⟨w.heap.size, 4, none⟩ = some (.int .u8 s0.fl) := row_cell hX.out rfl
  have x5 : V.cell? ⟨w.heap.size, 5, none⟩ = some (.int .u8 s0.pl) := row_cell hX.out rfl
  have x6 : V.cell? ⟨w.heap.size, 6, none⟩ = some (.slice pg s0.lg cg) := row_cell hX.out rfl
  have x7 : V.cell? ⟨w.heap.size, 7, none⟩ = some (.int .u32 s0.fill) := row_cell hX.out rfl
  have x8 : V.cell? ⟨w.heap.size, 8, none⟩ = some (.bool s0.up) := row_cell hX.out rfl
  go_wp2_with fail
  refine (may_at s0 (HC0.out.bel gX.out)).mono ?_; rintro e w1 ⟨rfl, g1⟩
  have G1 := Lib.hid (bel_trans gX.out g1)
  have X1 : Hid (w1.heap[w.heap.size]? = some (.cells (crow s0 (.slice pr s0.lr cr) (.slice pf s0.lf cf) (.slice pg s0.lg cg)) 69 (0, 0))) := bel_heap g1 hX.out
  clear g1 x0 x1 x2 x3 x4 x5 x6 x7 x8 hX gX
  cases hv : mayB s0
  · go_wp2_with fail
    refine (HEAD.out w1 G1.out).mono ?_; rintro e w2 ⟨rfl, g2⟩
    have G2 := Lib.hid (bel_trans G1.out g2)
    clear g2
    go_wp2_with fail
    go_ret
    exact ⟨rfl, G2.out⟩
  by_cases hN : (N : Int) ≤ 100
  case neg =>
    go_wp2_with fail
    refine (HEAD.out w1 G1.out).mono ?_; rintro e w2 ⟨rfl, g2⟩
    have G2 := Lib.hid (bel_trans G1.out g2)
    clear g2
    go_wp2_with fail
    go_ret
    exact ⟨rfl, G2.out⟩
  have HM0 := Lib.hid (mayB_may hv)
  have x8 : w1.cell? ⟨w.heap.size, 8, none⟩ = some (.bool s0.up) := row_cell X1.out rfl
  have f8 : w1.frozen? ⟨w.heap.size, 8, none⟩ = false := row_frozen X1.out
  clear hv
  go_upto_region 4 with (fail)
  obtain ⟨s, hs⟩ : ∃ s : CS, s = { s0 with up := false } := ⟨_, rfl⟩
  have XV := heap_setCell_same w1 w.heap.size 8 _ _ (.bool false) X1.out
  rw [crow_down, ← hs] at XV
  have XV := Lib.hid XV
  have GV : Hid (Below w.heap.size w (w1.setCell ⟨w.heap.size, 8, none⟩ (.bool false))) := G1.out.setCell (p := ⟨w.heap.size, 8, none⟩) (Nat.le_refl _) _
  have HM : Hid s.May := by rw [hs]; exact ⟨HM0.out.n2, HM0.out.n32, HM0.out.c0, HM0.out.c1, HM0.out.pl, HM0.out.fl, HM0.out.lr, HM0.out.lf, HM0.out.lg⟩
  have HB : Hid (CSB s) := by rw [hs]; exact ⟨HB0.out.rg, HB0.out.fr, HB0.out.fl, HB0.out.pl, HB0.out.gl, HB0.out.fill⟩
  have HC : Hid (CaseAt w s (.slice pr s0.lr cr) (.slice pf s0.lf cf) (.slice pg s0.lg cg)) := by rw [hs]; exact ⟨HC0.out.rr, HC0.out.rf, HC0.out.rg⟩
  have HUP : Hid (s.up = false) := by rw [hs]; rfl
  clear hs HM0 HB0 HC0 X1 G1 x8 f8
  change Code.wp _ _ _ _ (w1.setCell ⟨w.heap.size, 8, none⟩ (.bool false))
  generalize w1.setCell ⟨w.heap.size, 8, none⟩ (.bool false) = V1 at XV GV ⊢
  have RX : Hid (∀ W : World, Below V1.heap.size V1 W → W.cell? ⟨w.heap.size, 0, none⟩ = some (.int .i64 s.nw) ∧ W.cell? ⟨w.heap.size, 1, none⟩ = some (.int .i64 s.c)) := fun W k => ⟨row_cell (bel_heap k XV.out) rfl, row_cell (bel_heap k XV.out) rfl⟩
  have x0 : V1.cell? ⟨w.heap.size, 0, none⟩ = some (.int .i64 s.nw) := row_cell XV.out rfl
  have x1 : V1.cell? ⟨w.heap.size, 1, none⟩ = some (.int .i64 s.c) := row_cell XV.out rfl
  have x2 : V1.cell? ⟨w.heap.size, 2, none⟩ = some (.slice pr s0.lr cr) := row_cell XV.out rfl
  have x3 : V1.cell? ⟨w.heap.size, 3, none⟩ = some (.slice pf s0.lf cf) := row_cell XV.out rfl
  have x4 : V1.cell? ⟨w.heap.size, 4, none⟩ = some (.int .u8 s.fl) := row_cell XV.out rfl
  have x5 : V1.cell? ⟨w.heap.size, 5, none⟩ = some (.int .u8 s.pl) := row_cell XV.out rfl
  have x6 : V1.cell? ⟨w.heap.size, 6, none⟩ = some (.slice pg s0.lg cg) := row_cell XV.out rfl
  have x7 : V1.cell? ⟨w.heap.size, 7, none⟩ = some (.int .u32 s.fill) := row_cell XV.out rfl
  have x8 : V1.cell? ⟨w.heap.size, 8, none⟩ = some (.bool s.up) := row_cell XV.out rfl
  go_wp2_with fail
  refine (wmade_at s HM.out HB.out (HC.out.bel GV.out) (HT.out.bel GV.out)).mono ?_; rintro e w2 ⟨b, G, rfl, B2, g2, low2⟩
  have A1 : Hid (AllM V1 w2 [⟨b, G, mW s⟩]) := (AllM.none (HT.out.bel GV.out)).add g2 B2 low2
  have c0 := HM.out.c0
  have c1 := HM.out.c1
  have n2 := HM.out.n2
  have n32 := HM.out.n32
  clear B2 g2 low2 x0 x1 x2 x3 x4 x5 x6 x7 x8 XV HC
  obtain ⟨fb3, mb3, gb3, xb3, cs3, os3, P3⟩ := A1.out.at' 0 _ rfl
  have P3 := Lib.hid P3
  have x1 := (RX.out _ A1.out.bel).2
  go_wp2_with fail
  have GD3 : Below w2.heap.size w2 w2.drew := Below.drew (Below.refl _ _)
  have HD3 : Hid (∀ W, Below w2.heap.size w2 W → W.cell? ⟨w.heap.size, 1, none⟩ = some (.int .i64 s.c)) := fun W k => (RX.out W (bel_trans A1.out.bel k)).2
  have DD3 := HD3.out _ GD3
  have CF3 := Lib.hid (fun (W : World) (k : Below w2.heap.size w2 W) => file_bel (P3.out.bel k))
  have CW3 := Lib.hid (fun (W : World) (k : Below w2.heap.size w2 W) => window_c P3.out s.c c0 c1 k)
  clear x1
  go_region_held3 (fun W => W.cell? ⟨w.heap.size, 1, none⟩ = some (.int .i64 s.c))
    (first
      | exact DD3
      | exact DA3
      | exact DB3)
    (first
      | (go_at_call 15; refine (CF3.out _ ?_).mono ?_; exact GD3; rintro e WA3 ⟨rfl, ga⟩; have GA3 := bel_trans GD3 ga; have DA3 := HD3.out _ GA3; clear ga)
      | (go_at_call 16; refine (CW3.out _ ?_).mono ?_; exact GA3; rintro e W3 ⟨sb, rfl, hrow, hng, gz⟩; have GB3 := bel_trans GA3 gz; have DB3 := HD3.out _ GB3; clear gz))
  have A3 := Lib.hid (A1.out.more GB3)
  obtain ⟨F, hF⟩ : ∃ F : Nat → Int, F = fun i => (mW s).R ((16 * s.c).toNat + i) := ⟨_, rfl⟩
  rw [← hF] at hrow
  have HF := Lib.hid hF
  have SP : Hid (Spect W3 [⟨b, G, mW s⟩] sb (.cells (F3.wl F).toArray 22 (0, 0))) := spect_one hrow hng
  clear hrow hng hF
  clear A1 P3 GD3 HD3 DD3 CF3 CW3 GA3 DA3 GB3 DB3
  obtain ⟨fa, hfa⟩ : ∃ fa : Nat, fa = s.fa s.c := ⟨_, rfl⟩
  have HFA := Lib.hid hfa
  have FA : Hid ((mW s).R (F3.loc (mW s).nw s.c 0 14) = ((fa : Nat) : Int) ∧ fa % 4 = 0 ∧ 2048 ≤ fa ∧ fa + 64 ≤ 4096) := by
    obtain ⟨h1, h2, h3, h4⟩ := fa_is HM.out c0 c1
    rw [← hfa] at h1 h2 h3 h4
    refine ⟨?_, h2, h3, h4⟩
    rw [← h1, (loc14 (b := 16) HM.out c0 c1).2]
    rfl
  clear hfa
  obtain ⟨fb4, mb4, gb4, xb4, cs4, os4, P4⟩ := A3.out.at' 0 _ rfl
  have P4 := Lib.hid P4
  have x1 := (RX.out _ A3.out.bel).2
  go_wp2_with fail
  have GD4 : Below W3.heap.size W3 W3.drew := Below.drew (Below.refl _ _)
  have HD4 : Hid (∀ W, Below W3.heap.size W3 W → W.cell? ⟨w.heap.size, 1, none⟩ = some (.int .i64 s.c)) := fun W k => (RX.out W (bel_trans A3.out.bel k)).2
  have DD4 := HD4.out _ GD4
  have CF4 := Lib.hid (fun (W : World) (k : Below W3.heap.size W3 W) => file_bel (P4.out.bel k))
  have CW4 := Lib.hid (fun (W : World) (k : Below W3.heap.size W3 W) => get_c (P4.out.bel k) s.c c0 c1 FA.out.1)
  clear x1
  go_region_held3 (fun W => W.cell? ⟨w.heap.size, 1, none⟩ = some (.int .i64 s.c))
    (first
      | exact DD4
      | exact DA4
      | exact DB4)
    (first
      | (go_at_call 15; refine (CF4.out _ ?_).mono ?_; exact GD4; rintro e WA4 ⟨rfl, ga⟩; have GA4 := bel_trans GD4 ga; have DA4 := HD4.out _ GA4; clear ga)
      | (go_at_call 18; refine (CW4.out _ ?_).mono ?_; exact GA4; rintro e W4 ⟨rfl, gz⟩; have GB4 := bel_trans GA4 gz; have DB4 := HD4.out _ GB4; clear gz))
  have A4 := Lib.hid (A3.out.more GB4)
  have SP := Lib.hid (SP.out.more GB4)
  clear A3 P4 GD4 HD4 DD4 CF4 CW4 GA4 DA4 GB4 DB4
  obtain ⟨er, HE⟩ := enc_w (sTr 21) (sTr_b (.inr rfl))
  have HE := Lib.hid HE
  go_wp2_with fail
  refine (HE.out _).mono ?_; rintro e w5 ⟨rfl, g5⟩
  have A5 := Lib.hid (A4.out.more g5)
  have SP := Lib.hid (SP.out.more g5)
  clear A4 g5 HE
  obtain ⟨fb, mb, gb, xb, cs, os, P⟩ := A5.out.at' 0 _ rfl
  have P5 := Lib.hid P
  clear P
  go_wp2_with fail
  refine (Mem_get P5.out).mono ?_; rintro e w6 ⟨rfl, rfl⟩
  go_wp2_with fail
  refine (wstore P5.out 1540 (sTr 21).word (xw_w (sTr_b (.inr rfl))) (th_40 (by decide) (by decide) (by decide))).mono ?_; rintro e w7 ⟨rfl, P7, g7⟩
  obtain ⟨G7, A7, K7⟩ := A5.out.left (j := 0) rfl (Left.only P7 g7 P5.out.gg)
  have A7 : Hid (AllM V1 w7 [⟨b, G7, mB s⟩]) := A7
  have SP : Hid (Spect w7 [⟨b, G7, mB s⟩] sb (.cells (F3.wl F).toArray 22 (0, 0))) := K7 _ _ SP.out
  clear A5 P5 P7 g7 K7
  obtain ⟨e1, D1, R1⟩ := back_one HM.out HB.out HUP.out
  have D1 := Lib.hid D1
  have R1 := Lib.hid R1
  go_wp2_with fail
  refine (runs_at A7.out R1.out (by decide) (by show (0 : Nat) ≤ 1000; decide)).mono ?_; rintro e w8 ⟨rfl, G8, A8, K8⟩
  have A8 := Lib.hid A8
  have SP := Lib.hid (K8 _ _ SP.out)
  clear A7 K8 R1
  obtain ⟨u, hu⟩ : ∃ u, u = (s.c + s.nw - 1) % s.nw := ⟨_, rfl⟩
  have u0 : 0 ≤ u := by rw [hu]; exact Int.emod_nonneg _ (by omega)
  have u1 : u < s.nw := by rw [hu]; exact Int.emod_lt_of_pos _ (by omega)
  have HU := Lib.hid hu
  have HR1 : Hid (∀ j, W32 (e1.R j)) := by
    obtain ⟨_, _, _, _, _, _, P⟩ := A8.out.at' 0 _ rfl
    exact P.ok.R
  have ecw : Hid (e1.cwp = u) := by rw [hu]; exact D1.out.cwp
  have enw : Hid (e1.nw = s.nw) := D1.out.nw
  have hk3 := wpsr_cwp
  clear hu
  go_wp2_with fail
  refine (all_psr A8.out (j := 0) rfl ecw.out rfl D1.out.bank rfl).mono ?_; rintro e w9 ⟨rfl, A9, g9⟩
  have A9 : Hid (AllM V1 w9 [⟨b, G8, { e1 with R := bR e1.R s.nw u Bf 0 }⟩]) := A9
  have SP : Hid (Spect w9 [⟨b, G8, { e1 with R := bR e1.R s.nw u Bf 0 }⟩] sb (.cells (F3.wl F).toArray 22 (0, 0))) := SP.out.more g9
  clear A8 g9
  have wu : IntKind.i64.wrap u = u := IntWalk.i64_in _ (by omega)
  generalize e1.pil = pil1
  generalize e1.fl = fl1
  go_wp2_with fail
  go_loopw [13] (fun i wr => ∃ (k : Nat) (G : Nat → Prop), k ≤ N ∧ i = .int .i64 k ∧ AllM V1 wr [⟨b, G, { e1 with R := bR e1.R s.nw u Bf k }⟩] ∧ Spect wr [⟨b, G, { e1 with R := bR e1.R s.nw u Bf k }⟩] sb (.cells (F3.wl F).toArray 22 (0, 0))) (fun i _ => N - (intOf i).toNat)
  case atStart => exact ⟨0, G8, Nat.zero_le _, rfl, A9.out, SP.out⟩
  case round =>
    obtain ⟨k, G9, hk, rfl, A, SPr⟩ := hrel
    have A := Lib.hid A
    have SPr := Lib.hid SPr
    clear A9 SP
    by_cases hlt : k < N
    · obtain ⟨z, o, rfl, hcz⟩ := HCB.out (by omega)
      have HCZ := Lib.hid hcz
      have e2 : Int.tmod (k : Int) 24 = (k : Int) % 24 := Int.tmod_eq_emod_of_nonneg (by omega)
      have HK := Lib.hid hlt
      clear hcz
      by_cases h30 : 8 + (k : Int) % 24 = 30
      · have eR : bR e1.R s.nw u Bf (k + 1) = bR e1.R s.nw u Bf k := by
          show (if 8 + (k : Int) % 24 = 30 ∨ 8 + (k : Int) % 24 = 14 then _ else _) = _
          rw [if_pos (.inl h30)]
        have ER := Lib.hid eR
        have hb30 : (8 + (k : Int) % 24 != 30) = false := by simpa using h30
        clear eR
        go_wp2_with fail
        go_roundw
        case rel => exact ⟨k + 1, G9, HK.out, by go_num, by rw [ER.out]; exact A.out, by rw [ER.out]; exact SPr.out⟩
        case measure => simp only [intOf]; have := HK.out; omega
      · have hb30 : (8 + (k : Int) % 24 != 30) = true := by simpa using h30
        by_cases h14 : 8 + (k : Int) % 24 = 14
        · have eR : bR e1.R s.nw u Bf (k + 1) = bR e1.R s.nw u Bf k := by
            show (if 8 + (k : Int) % 24 = 30 ∨ 8 + (k : Int) % 24 = 14 then _ else _) = _
            rw [if_pos (.inr h14)]
          have ER := Lib.hid eR
          have hb14 : (8 + (k : Int) % 24 != 14) = false := by simpa using h14
          clear eR
          go_wp2_with fail
          go_roundw
          case rel => exact ⟨k + 1, G9, HK.out, by go_num, by rw [ER.out]; exact A.out, by rw [ER.out]; exact SPr.out⟩
          case measure => simp only [intOf]; have := HK.out; omega
        · have eR : bR e1.R s.nw u Bf (k + 1) = F3.setR (bR e1.R s.nw u Bf k) s.nw u 0 (8 + (k : Int) % 24) (Bf k) := by
            show (if 8 + (k : Int) % 24 = 30 ∨ 8 + (k : Int) % 24 = 14 then _ else _) = _
            rw [if_neg (by omega)]
          have ER := Lib.hid eR
          have hb14 : (8 + (k : Int) % 24 != 14) = true := by simpa using h14
          clear eR
          obtain ⟨fb, mb, gb, xb, cs, os, P⟩ := A.out.at' 0 _ rfl
          have PA := Lib.hid P
          clear P
          have HCk : Hid (∀ W, Below V1.heap.size V1 W → W.cell? ⟨z, o + k, none⟩ = some (.int .u32 (Bf k))) := fun W kk => HCZ.out W (bel_trans GV.out kk) k HK.out
          have cz := HCk.out _ A.out.bel
          go_wp2_with fail
          have GD : Below wr.heap.size wr wr.drew := Below.drew (Below.refl _ _)
          have AD := Lib.hid (A.out.more GD)
          have PD := Lib.hid (PA.out.bel GD)
          have DD := HCk.out _ AD.out.bel
          have HS : Hid (∀ r : Int, r = 8 + (k : Int) % 24 → Calls Tryz.prog 38 #[.pointer (some ⟨fb, 0, none⟩), .int .i64 u, .int .i64 0, .int .i64 r, .int .u32 (Bf k)] wr.drew fun e w' => e = .returned (.int .i64 0) ∧ ∃ G', AllM V1 w' [⟨b, G', { e1 with R := bR e1.R s.nw u Bf (k + 1) }⟩] ∧ Spect w' [⟨b, G', { e1 with R := bR e1.R s.nw u Bf (k + 1) }⟩] sb (.cells (F3.wl F).toArray 22 (0, 0))) := by
            rintro _ rfl
            refine (set_yes PD.out u 0 (8 + (k : Int) % 24) (Bf k) (HBW.out k) ⟨u0, by show u < e1.nw; rw [enw.out]; exact u1, by decide, by decide, by omega, by omega⟩).mono ?_
            rintro e w' ⟨h1, h2, h3⟩
            have ee : F3.setR (bR e1.R s.nw u Bf k) e1.nw u 0 (8 + (k : Int) % 24) (Bf k) = bR e1.R s.nw u Bf (k + 1) := by rw [ER.out, enw.out]
            obtain ⟨G', h4, h5⟩ := AD.out.left (j := 0) rfl (Left.only h2 h3 PD.out.gf)
            refine ⟨h1, G', ?_⟩
            rw [← ee]
            exact ⟨h4, h5 _ _ (SPr.out.more GD)⟩
          clear cz
          go_region_held3 (fun W => W.cell? ⟨z, o + k, none⟩ = some (.int .u32 (Bf k)))
            (first
              | exact DD
              | exact D2)
            (first
              | (go_at_call 15; refine (File_get PD.out).mono ?_; rintro e V2 ⟨rfl, hV2⟩; subst hV2)
              | (go_at_call 38; refine (HS.out _ rfl).mono ?_; rintro e V3 ⟨rfl, G3, A3, SP3⟩; have D2 := HCk.out _ A3.bel))
          have A3 := Lib.hid A3
          have SP3 := Lib.hid SP3
          clear AD PD DD HS A SPr PA D2 GD
          go_wp2_with fail
          go_roundw
          case rel => exact ⟨k + 1, G3, HK.out, by go_num, A3.out, SP3.out⟩
          case measure => simp only [intOf]; have := HK.out; omega
    · obtain rfl : k = N := by omega
      have x0 := (RX.out _ A.out.bel).1
      obtain ⟨fb, mb, gb, xb, cs, os, P⟩ := A.out.at' 0 _ rfl
      have PA := Lib.hid P
      have EW : Hid (s.nw = 2 → ∀ i, i < 16 → M5.wdB e1.f fa i = F i) := fun hn i hi => by
        have hl : (s.c + (s.nw - 2)) % s.nw = s.c := by rw [hn]; omega
        have hf := D1.out.f
        rw [hl, ← HFA.out] at hf
        show ldB e1.f (fa + 4 * i) 4 = F i
        rw [hf, ld_ptw _ _ _ (fun i => (w0_back HM.out HB.out).RW _) 16 i hi, HF.out]
        rfl
      clear P hk hlt
      go_upto_if 93 with (fail)
      go_cut [15, 16] (fun _ _ wx => Below wr.heap.size wr wx)
      case first =>
        by_cases hn : s.nw = 2
        · have EW2 := Lib.hid (EW.out hn)
          have hn' : (s.nw == 2) = true := by rw [hn]; rfl
          clear hn EW
          go_wp2_with fail
          refine (Mem_get PA.out).mono ?_; rintro e w11 ⟨rfl, rfl⟩
          go_wp2_with fail
          refine (M5.words_yes fa 16 PA.out.mem ?_).mono ?_
          · show spE (e1.sz : Int) (fa : Int) ((16 : Nat) : Int) = 0
            rw [show e1.sz = 4096 from D1.out.sz]
            have := FA.out.2
            unfold spE
            rw [if_neg (by omega), if_neg (by omega), if_neg (by omega)]
          rintro e w12 ⟨sw, rfl, SW, g12⟩
          obtain ⟨pq, cq, rfl, _⟩ := id SW
          have SM := Lib.hid (M5.words_same _ _ 16 _ _ _ (by decide) SW (wl_sl (SPr.out.more g12).1) EW2.out)
          have G12 := Lib.hid g12
          clear SW g12 x0
          go_wp2_with fail
          refine SM.out.mono ?_; rintro e w13 ⟨rfl, g13⟩
          have G13 := Lib.hid (bel_trans G12.out g13)
          clear g13 SM
          go_wp2_with fail
          go_meet
          exact G13.out
        · have hn' : (s.nw == 2) = false := by simpa using hn
          clear hn
          go_wp2_with fail
          go_meet
          exact Below.refl _ _
      case rest =>
        have A12 := Lib.hid (A.out.more hcut)
        have SP12 := Lib.hid (SPr.out.more hcut)
        have NX := back_two HM.out HB.out HUP.out D1.out HR1.out Bf HBW.out k
        rw [← HU.out] at NX
        obtain ⟨n3, e3, hn3, R3, B3⟩ := NX
        have R3 := Lib.hid R3
        have B3 := Lib.hid B3
        clear A SPr PA EW x0 hcut
        go_wp2_with fail
        refine (runs_at A12.out R3.out (Nat.le_trans hn3 (by decide)) (by show e1.ol ≤ 1000; rw [show e1.ol = 0 from D1.out.ol]; decide)).mono ?_; rintro e w14 ⟨rfl, G14, A14, K14⟩
        have A14 := Lib.hid A14
        have SP14 := Lib.hid (K14 _ _ SP12.out)
        have c3 : s.c < e3.nw := by rw [B3.out.nw]; exact c1
        clear A12 SP12 R3 K14
        obtain ⟨fb5, mb5, gb5, xb5, cs5, os5, P5⟩ := A14.out.at' 0 _ rfl
        have P5 := Lib.hid P5
        have x1 := (RX.out _ A14.out.bel).2
        go_wp2_with fail
        have GD5 : Below w14.heap.size w14 w14.drew := Below.drew (Below.refl _ _)
        have HD5 : Hid (∀ W, Below w14.heap.size w14 W → W.cell? ⟨w.heap.size, 1, none⟩ = some (.int .i64 s.c)) := fun W k => (RX.out W (bel_trans A14.out.bel k)).2
        have DD5 := HD5.out _ GD5
        have CF5 := Lib.hid (fun (W : World) (k : Below w14.heap.size w14 W) => file_bel (P5.out.bel k))
        have CW5 := Lib.hid (fun (W : World) (k : Below w14.heap.size w14 W) => window_c P5.out s.c c0 c3 k)
        clear x1
        go_region_held3 (fun W => W.cell? ⟨w.heap.size, 1, none⟩ = some (.int .i64 s.c))
          (first
            | exact DD5
            | exact DA5
            | exact DB5)
          (first
            | (go_at_call 15; refine (CF5.out _ ?_).mono ?_; exact GD5; rintro e WA5 ⟨rfl, ga⟩; have GA5 := bel_trans GD5 ga; have DA5 := HD5.out _ GA5; clear ga)
            | (go_at_call 16; refine (CW5.out _ ?_).mono ?_; exact GA5; rintro e W5 ⟨sb2, rfl, hrow, hng, gz⟩; have GB5 := bel_trans GA5 gz; have DB5 := HD5.out _ GB5; clear gz))
        have A15 := Lib.hid (A14.out.more GB5)
        have SP15 := Lib.hid (SP14.out.more GB5)
        have HROW := Lib.hid hrow
        have FB : Hid (e3.R (F3.loc e3.nw s.c 0 14) = ((fa : Nat) : Int)) := by rw [B3.out.nw, B3.out.sp]; exact FA.out.1
        clear A14 SP14 P5 GD5 HD5 DD5 CF5 CW5 GA5 DA5 GB5 DB5 hrow hng
        obtain ⟨fb6, mb6, gb6, xb6, cs6, os6, P6⟩ := A15.out.at' 0 _ rfl
        have P6 := Lib.hid P6
        have x1 := (RX.out _ A15.out.bel).2
        go_wp2_with fail
        have GD6 : Below W5.heap.size W5 W5.drew := Below.drew (Below.refl _ _)
        have HD6 : Hid (∀ W, Below W5.heap.size W5 W → W.cell? ⟨w.heap.size, 1, none⟩ = some (.int .i64 s.c)) := fun W k => (RX.out W (bel_trans A15.out.bel k)).2
        have DD6 := HD6.out _ GD6
        have CF6 := Lib.hid (fun (W : World) (k : Below W5.heap.size W5 W) => file_bel (P6.out.bel k))
        have CW6 := Lib.hid (fun (W : World) (k : Below W5.heap.size W5 W) => get_c (P6.out.bel k) s.c c0 c3 FB.out)
        clear x1
        go_region_held3 (fun W => W.cell? ⟨w.heap.size, 1, none⟩ = some (.int .i64 s.c))
          (first
            | exact DD6
            | exact DA6
            | exact DB6)
          (first
            | (go_at_call 15; refine (CF6.out _ ?_).mono ?_; exact GD6; rintro e WA6 ⟨rfl, ga⟩; have GA6 := bel_trans GD6 ga; have DA6 := HD6.out _ GA6; clear ga)
            | (go_at_call 18; refine (CW6.out _ ?_).mono ?_; exact GA6; rintro e W6 ⟨rfl, gz⟩; have GB6 := bel_trans GA6 gz; have DB6 := HD6.out _ GB6; clear gz))
        have A16 := Lib.hid (A15.out.more GB6)
        have SP16 := Lib.hid (SP15.out.more GB6)
        have HROW : Hid (W6.heap[sb2]? = some (.cells (F3.wl fun i => e3.R ((16 * s.c).toNat + i)).toArray 22 (0, 0))) := bel_heap GB6 HROW.out
        clear A15 SP15 P6 GD6 HD6 DD6 CF6 CW6 GA6 DA6 GB6 DB6
        obtain ⟨fb7, mb7, gb7, xb7, cs7, os7, P7⟩ := A16.out.at' 0 _ rfl
        have P7 := Lib.hid P7
        have x1 := (RX.out _ A16.out.bel).2
        have wsc : IntKind.i64.wrap s.c = s.c := IntWalk.i64_in _ (by omega)
        go_wp2_with fail
        have GD : Below W6.heap.size W6 W6.drew := Below.drew (Below.refl _ _)
        have HD : Hid (∀ W, Below W6.heap.size W6 W → W.cell? ⟨w.heap.size, 1, none⟩ = some (.int .i64 s.c)) := fun W k => (RX.out W (bel_trans A16.out.bel k)).2
        have DD := HD.out _ GD
        have CP := Lib.hid (fun (W : World) (k : Below W6.heap.size W6 W) => psr_bel (P7.out.bel k) B3.out.cwp B3.out.pil B3.out.bank B3.out.fl)
        have CS := Lib.hid (fun (W : World) (k : Below W6.heap.size W6 W) => M5.words_same _ _ 16 _ _ W (by decide) (wl_sl (SP16.out.more k).1) (wl_sl (bel_heap k HROW.out)) (fun i hi => by rw [HF.out]; exact (B3.out.R i hi).symm))
        have CH := Lib.hid (fun (W : World) (k : Below W6.heap.size W6 W) => HEAD.out W (bel_trans GV.out (bel_trans A16.out.bel k)))
        clear x1
        go_region_held3 (fun W => W.cell? ⟨w.heap.size, 1, none⟩ = some (.int .i64 s.c))
          (first
            | exact DD
            | exact DP
            | exact DS
            | exact DH)
          (first
            | (go_at_call 34; refine (CP.out _ ?_).mono ?_; exact GD; rintro e WP ⟨rfl, gz⟩; have GP := bel_trans GD gz; have DP := HD.out _ GP; clear gz)
            | (go_at_call 24; refine (CS.out _ ?_).mono ?_; exact GP; rintro e WS ⟨rfl, gz⟩; have GS := bel_trans GP gz; have DS := HD.out _ GS; clear gz)
            | (go_at_call 28; refine (CH.out _ ?_).mono ?_; exact GS; rintro e WE ⟨rfl, gz⟩; have GH := bel_trans GS gz; have DH := HD.out _ GH; clear gz))
        have G17 := Lib.hid (bel_trans GV.out (bel_trans A16.out.bel GH))
        clear GD HD DD CP CS CH GP DP GS DS GH DH
        go_wp2_with fail
        go_ret
        exact ⟨rfl, G17.out⟩
end Go.Proofs.YtlmaikbnjdmhcaaGreatDoor.K6
