/- MachLess (layer 6), walked: how much a step changes. -/
import Derived.Test.YtlmaikbnjdmhcaaGreatDoorMachGRw
import Derived.Test.YtlmaikbnjdmhcaaGreatDoorMachGLo
namespace Go.Proofs.YtlmaikbnjdmhcaaGreatDoor.K6
open Go.RowKit
set_option linter.unusedVariables false
theorem lstop_kind (k v : Int) (W : World) : Sem.run Tryz.prog (Instr.field 37 (.agg #[.int .u8 k, .int .u32 v]) 0) W = .ok (.int .u8 k) W := by kernel_rfl
/-- How many banks' words differ. -/
def cntB (m o : MS) : Nat → Nat
  | 0 => 0
  | n + 1 => cntB m o n + if m.tpc (n + 1) = o.tpc (n + 1) ∧ m.tps (n + 1) = o.tps (n + 1) then 0 else 1
theorem cntB_zero {m o : MS} : ∀ {n : Nat}, (∀ i, i ≤ n → m.tpc i = o.tpc i ∧ m.tps i = o.tps i) → cntB m o n = 0
  | 0, _ => rfl
  | n + 1, h => by
    show cntB m o n + (if _ then 0 else 1) = 0
    rw [cntB_zero fun i hi => h i (by omega), if_pos (h (n + 1) (Nat.le_refl _))]
theorem cntB_one {m o : MS} {j : Nat} (h : ∀ i, i ≠ j → m.tpc i = o.tpc i ∧ m.tps i = o.tps i) : ∀ n, cntB m o n ≤ 1
  | 0 => Nat.zero_le _
  | n + 1 => by
    show cntB m o n + (if _ then 0 else 1) ≤ 1
    by_cases e : n + 1 = j
    · rw [cntB_zero fun i hi => h i (by omega)]
      split <;> omega
    · rw [if_pos (h (n + 1) e)]
      exact cntB_one h n
theorem cntB_bd (m o : MS) : ∀ n, cntB m o n ≤ n
  | 0 => Nat.le_refl _
  | n + 1 => by
    have := cntB_bd m o n
    show cntB m o n + (if _ then 0 else 1) ≤ n + 1
    split <;> omega
theorem up_one {e1 e2 : ME} {j : Nat} {e : ME} (h : [e1][j]? = some e) : [e1, e2][j]? = some e := by
  match j, h with
  | 0, h => exact h
  | j + 1, h => simp at h
theorem AllM.first {a W : World} {e1 e2 : ME} (h : AllM a W [e1, e2]) : AllM a W [e1] :=
  ⟨h.bel, h.tab, fun j e hj => h.at' j e (up_one hj), fun j e hj => h.low j e (up_one hj), fun j k e e' hjk hj hk => h.dis j k e e' hjk (up_one hj) (up_one hk)⟩
theorem Spect.first {W : World} {e1 e2 : ME} {x : Nat} {o : Obj} (h : Spect W [e1, e2] x o) : Spect W [e1] x o := ⟨h.1, fun j e hj => h.2 j e (up_one hj)⟩
theorem sl_prefix {W : World} {p : Option Addr} {n k q : Nat} {f : Nat → Int} (h : Sl .u32 W (.slice p n q) n f) (hk : k ≤ n) : Sl .u32 W (.slice p k q) k f := by
  obtain ⟨p', c', e, hh⟩ := h
  cases e
  exact ⟨p, q, rfl, fun h0 => by obtain ⟨b, o, e, hc⟩ := hh (by omega); exact ⟨b, o, e, fun i hi => hc i (by omega)⟩⟩
set_option maxRecDepth 100000 in
set_option maxHeartbeats 16000000 in
theorem less_walk {w : World} (s : ST) {vw vr vc : Value} (v : Value) (N : Nat) (L : Nat → Nat) (hb : STB s) (hs : StAt w s vw vr vc) (hT : Tabs w) (hv : Sl .u8 w v N (fun i => (L i : Int))) (hL : ∀ i, L i < 256) :
    Calls Tryz.prog 4 #[.agg (srow s vw vr vc), v] w fun e w' => e = .returned (.bool true) ∧ Below w.heap.size w w' := by
  obtain ⟨pv, cv, rfl, hcv⟩ := id hv
  obtain ⟨pw, cw, rfl, _⟩ := id hs.sw
  obtain ⟨pr, cr, rfl, _⟩ := id hs.sr
  obtain ⟨pc, cc, rfl⟩ : ∃ p c, vc = .slice p s.lc c := by
    rcases hs.sc with ⟨rfl, h0⟩ | ⟨a, c, rfl, _⟩
    · exact ⟨none, 0, by rw [h0]⟩
    · exact ⟨_, _, rfl⟩
  have hX : Hid ((w.alloc (.cells (srow s (.slice pw s.lw cw) (.slice pr s.lr cr) (.slice pc s.lc cc)) 28)).heap[w.heap.size]? = some (.cells (srow s (.slice pw s.lw cw) (.slice pr s.lr cr) (.slice pc s.lc cc)) 28 (0, 0))) := heap_alloc_last _ _
  have gX : Hid (Below w.heap.size w (w.alloc (.cells (srow s (.slice pw s.lw cw) (.slice pr s.lr cr) (.slice pc s.lc cc)) 28))) := bel_alK (Below.refl _ _)
  have HB := Lib.hid hb
  have HS := Lib.hid (hs.bel gX.out)
  have HT := Lib.hid (hT.bel gX.out)
  have HC : Hid (0 < N → ∃ b o, pv = some ⟨b, o, none⟩ ∧ ∀ (W : World), Below w.heap.size w W → ∀ i, i < N → W.cell? ⟨b, o + i, none⟩ = some (.int .u8 (L i))) := fun hn => by
    obtain ⟨b, o, e, hc⟩ := hcv hn
    exact ⟨b, o, e, fun W k i hi => bel_cell k (hc i hi)⟩
  have HL := Lib.hid hL
  have hk1 := lstop_kind
  clear hb hs hT hv hcv hL
  go_enter Tryz.func4, Tryz.ntmps4
  go_upto_region 1 with (fail)
  change Code.wp _ _ _ _ (w.alloc (.cells (srow s (.slice pw s.lw cw) (.slice pr s.lr cr) (.slice pc s.lc cc)) 28))
  generalize w.alloc (.cells (srow s (.slice pw s.lw cw) (.slice pr s.lr cr) (.slice pc s.lc cc)) 28) = V at hX gX HS HT ⊢
  have rx : ∀ W : World, Below V.heap.size V W → W.cell? ⟨w.heap.size, 0, none⟩ = some (.int .i64 s.n) ∧ W.cell? ⟨w.heap.size, 1, none⟩ = some (.int .i64 s.sz) ∧ W.cell? ⟨w.heap.size, 2, none⟩ = some (.int .u32 s.pc) ∧ W.cell? ⟨w.heap.size, 3, none⟩ = some (.int .u8 s.c) ∧ W.cell? ⟨w.heap.size, 4, none⟩ = some (.int .u8 s.p) ∧ W.cell? ⟨w.heap.size, 5, none⟩ = some (.int .u8 s.k) ∧ W.cell? ⟨w.heap.size, 6, none⟩ = some (.int .u8 s.f) ∧ W.cell? ⟨w.heap.size, 7, none⟩ = some (.int .u32 s.wim) ∧ W.cell? ⟨w.heap.size, 8, none⟩ = some (.slice pw s.lw cw) ∧ W.cell? ⟨w.heap.size, 9, none⟩ = some (.slice pr s.lr cr) ∧ W.cell? ⟨w.heap.size, 10, none⟩ = some (.slice pc s.lc cc) := fun W k => by
    have h := bel_heap k hX.out
    exact ⟨row_cell h rfl, row_cell h rfl, row_cell h rfl, row_cell h rfl, row_cell h rfl, row_cell h rfl, row_cell h rfl, row_cell h rfl, row_cell h rfl, row_cell h rfl, row_cell h rfl⟩
  have RX := Lib.hid rx
  clear rx
  obtain ⟨x0, x1, x2, x3, x4, x5, x6, x7, x8, x9, x10⟩ := RX.out V (Below.refl _ _)
  go_wp2_with fail
  refine (great6_at s HS.out).mono ?_; rintro e w1 ⟨rfl, g1⟩
  have G1 := Lib.hid g1
  clear g1 x0 x1 x2 x3 x4 x5 x6 x7 x8 x9 x10
  have HEAD : Hid (∀ W : World, Below V.heap.size V W → Calls Tryz.prog 8 #[] W fun e w' => e = .returned (.bool true) ∧ Below w.heap.size w w') := fun W k => (head_at W (HT.out.bel k)).mono fun e w' ⟨h1, h2⟩ => ⟨h1, bel_trans gX.out (bel_trans k h2)⟩
  cases hgr : great6 s
  · have hb9 := of_decide_eq_false hgr
    by_cases hN : N ≤ 40
    · have hN' : (N : Int) ≤ 40 := by omega
      obtain ⟨x0, x1, x2, x3, x4, x5, x6, x7, x8, x9, x10⟩ := RX.out w1 G1.out
      by_cases hm : s.may
      · go_wp2_with fail
        refine (made_yes s HB.out (HS.out.bel G1.out) hm (HT.out.bel G1.out) (by omega) (by omega) (by omega)).mono ?_; rintro e w2 ⟨b, fb, mb, g, x, cs, os, G, q, rfl, qok, hqn, P2, g2, low2⟩
        have A2 : Hid (AllM V w2 [⟨b, G, mMade s⟩]) := (AllM.none HT.out).add (bel_trans G1.out g2) P2.b (fun i hi => Nat.le_trans G1.out.size (low2 i hi))
        have LG : Hid (∀ i, G i → i < w2.heap.size) := P2.lt
        have HQ := Lib.hid qok
        have HQN := Lib.hid hqn
        clear g2 low2 x0 x1 x2 x3 x4 x5 x6 x7 x8 x9 x10 qok P2 hqn
        go_upto_region 4 with (first
          | (refine q_alloc rfl (some 6) rfl (by kernel_rfl) ?_; intro V4 r4 b4 s4)
          | (refine q_whole rfl (.tmp 6) (.tmp 45) rfl w2.heap.size rzero q rfl rfl r4.out HQ.out ?_; intro V5 z5 g5))
        have k5 := only_bel b4 g5.out (Nat.le_refl _)
        have A5 := Lib.hid (A2.out.more k5)
        have SQ : Hid (Spect V5 [⟨b, G, mMade s⟩] w2.heap.size (.cells (rrow q) 39 (0, 0))) := ⟨z5.out, fun l e he hx => by
          match l, he with
          | 0, he => cases he; exact absurd (LG.out _ hx) (Nat.lt_irrefl _)
          | l + 1, he => simp at he⟩
        clear r4 b4 s4 z5 g5 k5 HQ A2 LG
        obtain ⟨e1, e2, e3, e4, e5⟩ := mMade_is s
        obtain ⟨σ, hσ⟩ : ∃ σ, σ = mMade s := ⟨_, rfl⟩
        rw [← hσ] at A5 SQ e1 e2 e3 e4 e5
        have HE := Lib.hid (And.intro e1 (And.intro e2 (And.intro e4 e5)))
        clear e1 e2 e3 e4 e5 hσ
        generalize w2.heap.size = zq at *
        go_wp2_with fail
        go_loopw [7] (fun i wr => ∃ (j : Nat) (G : Nat → Prop) (m : MS), j ≤ N ∧ i = .int .i64 j ∧ AllM V wr [⟨b, G, m⟩] ∧ Spect wr [⟨b, G, m⟩] zq (.cells (rrow q) 39 (0, 0)) ∧ m.ol ≤ j ∧ m.nw = s.n ∧ m.cl ≤ 40) (fun i _ => N - (intOf i).toNat)
        case atStart => exact ⟨0, G, σ, Nat.zero_le _, rfl, A5.out, SQ.out, by rw [HE.out.2.2.1]; exact Nat.le_refl _, HE.out.1, by rw [HE.out.2.2.2]; omega⟩
        case round =>
          obtain ⟨j, G, m, hj, rfl, A, SQ, hol, hnw, hcl⟩ := hrel
          have A := Lib.hid A
          have SQ := Lib.hid SQ
          have ME := Lib.hid (And.intro hol (And.intro hnw hcl))
          clear A5 hol hnw hcl
          by_cases hlt : j < N
          · as_aux_lemma =>
              obtain ⟨lb, lo, rfl, hcell⟩ := HC.out (by omega)
              have HCL : Hid (∀ W, Below V.heap.size V W → W.cell? ⟨lb, lo + j, none⟩ = some (.int .u8 (L j))) := fun W k => hcell _ (bel_trans gX.out k) j hlt
              have hlv := HL.out j
              generalize L j = lv at *
              clear hcell
              obtain ⟨fa, ma, ga, xa, ca, oa, PA⟩ := A.out.at' 0 _ rfl
              go_wp2_with fail
              refine (Copy_at PA (by have := ME.out.2.2; omega) (by have := ME.out.1; omega)).mono ?_; rintro e w3 ⟨c, fb', mb', g', x', cs', os', G2, rfl, P3, _, g3, lo3⟩
              have A3 : Hid (AllM V w3 [⟨b, G, m⟩, ⟨c, G2, m⟩]) := A.out.add g3 P3.b lo3
              have S3 : Hid (Spect w3 [⟨b, G, m⟩, ⟨c, G2, m⟩] zq (.cells (rrow q) 39 (0, 0))) := ⟨(SQ.out.more g3).1, fun l e he hx => by
                match l, he with
                | 0, he => exact SQ.out.2 0 e he hx
                | 1, he => cases he; exact absurd (M5.heap_lt SQ.out.1) (Nat.not_lt.2 (lo3 _ hx))
                | l + 2, he => simp at he⟩
              have cL := HCL.out _ A3.out.bel
              clear A SQ PA P3 g3 lo3
              obtain ⟨μ, hμ⟩ : ∃ μ, μ = mstep m lv := ⟨_, rfl⟩
              have CH : Hid (Chg m μ) := by rw [hμ]; exact mstep_chg m lv
              have SK : Hid (m.sk ≠ 0 → μ = m) := fun h => by rw [hμ]; exact mstep_stopped h lv
              have CL : Hid (μ.cl ≤ 40) := by rw [hμ]; exact Nat.le_trans (mstep_cl m lv) ME.out.2.2
              go_wp2_with fail
              refine (all_step (lv : Int) A3.out (j := 0) rfl (by omega) (by omega) (by have := ME.out.1; omega) (fun _ _ _ => trivial) rfl rfl).mono ?_; rintro e w4 ⟨rfl, G4, A4, S4⟩
              rw [← hμ] at A4
              have S4 := S4 _ _ S3.out
              rw [← hμ] at S4 ⊢
              have A4 : Hid (AllM V w4 [⟨b, G4, μ⟩, ⟨c, G2, m⟩]) := A4
              have S4 : Hid (Spect w4 [⟨b, G4, μ⟩, ⟨c, G2, m⟩] zq (.cells (rrow q) 39 (0, 0))) := S4
              clear A3 S3 hμ cL
              have hn32 : s.n ≤ 32 := hm.2.1
              have hn2 : 2 ≤ s.n := hm.1
              go_wp2_with fail
              go_loopw [9, 12] (fun t9 i wr => ∃ k : Nat, (k : Int) ≤ s.n ∧ t9 = .int .i64 (cnt m.R μ.R (16 * k)) ∧ i = .int .i64 k ∧ AllM V wr [⟨b, G4, μ⟩, ⟨c, G2, m⟩] ∧ Spect wr [⟨b, G4, μ⟩, ⟨c, G2, m⟩] zq (.cells (rrow q) 39 (0, 0))) (fun _ i _ => s.n.toNat - (intOf i).toNat)
              case atStart => exact ⟨0, by omega, rfl, rfl, A4.out, S4.out⟩
              case round =>
                obtain ⟨k, hk, rfl, rfl, A, SQ⟩ := hrel
                have A := Lib.hid A
                have SQ := Lib.hid SQ
                clear A4 S4
                have qc : wr.cell? ⟨zq, 0, none⟩ = some (.int .i64 s.n) := by rw [← HQN.out]; exact row_cell (j := 0) SQ.out.1 rfl
                by_cases hkn : (k : Int) < s.n
                · as_aux_lemma =>
                    have hk32 : k < 32 := by omega
                    have ec : Hid (cnt m.R μ.R (16 * (k + 1)) = cnt m.R μ.R (16 * k) + cnt (fun i => m.R (k * 16 + i)) (fun i => μ.R (k * 16 + i)) 16) := by
                      have := cnt_add m.R μ.R (16 * k) 16
                      rw [show 16 * (k + 1) = 16 * k + 16 by omega, show k * 16 = 16 * k by omega]
                      exact this
                    have b1 := cnt_bd m.R μ.R (16 * k)
                    have b2 := cnt_bd (fun i => m.R (k * 16 + i)) (fun i => μ.R (k * 16 + i)) 16
                    generalize hc1 : cnt m.R μ.R (16 * k) = y1 at *
                    obtain ⟨y2, hc2⟩ : ∃ y2, y2 = cnt (fun i => m.R (k * 16 + i)) (fun i => μ.R (k * 16 + i)) 16 := ⟨_, rfl⟩
                    rw [← hc2] at b2 ec
                    have HC2 := Lib.hid hc2
                    have hy1 : y1 ≤ 512 := by omega
                    clear hc1 hc2 b1
                    obtain ⟨fa, ma, ga, xa, ca, oa, PA⟩ := A.out.at' 1 _ rfl
                    go_wp2_with fail
                    refine (File_get PA).mono ?_; rintro e W ⟨rfl, rfl⟩
                    go_wp2_with fail
                    refine (window_k PA k (by rw [ME.out.2.1]; exact hkn)).mono ?_; rintro e v1 ⟨sb, rfl, S1, k1⟩
                    have S1 := Lib.hid S1
                    have B1 := Lib.hid (A.out.more k1)
                    have SQ := Lib.hid (SQ.out.more k1)
                    clear PA k1 A qc
                    obtain ⟨fa, ma, ga, xa, ca, oa, PA⟩ := B1.out.at' 0 _ rfl
                    go_wp2_with fail
                    refine (File_get PA).mono ?_; rintro e W ⟨rfl, rfl⟩
                    go_wp2_with fail
                    refine (window_k PA k (by rw [CH.out.nw, ME.out.2.1]; exact hkn)).mono ?_; rintro e v2 ⟨sc, rfl, S2, k2⟩
                    have S2 := Lib.hid S2
                    have S1 := Lib.hid (S1.out.bel k2)
                    have B2 := Lib.hid (B1.out.more k2)
                    have SQ := Lib.hid (SQ.out.more k2)
                    clear PA k2 B1
                    have CU := unlike_at _ _ 16 _ _ _ (by decide) S1.out S2.out
                    rw [← HC2.out] at CU
                    go_wp2_with fail
                    refine CU.mono ?_; rintro e v3 ⟨rfl, k3⟩
                    have B3 := Lib.hid (B2.out.more k3)
                    have SQ := Lib.hid (SQ.out.more k3)
                    clear CU S1 S2 B2 k3
                    go_wp2_with fail
                    go_roundw
                    case rel => exact ⟨k + 1, by omega, by rw [ec.out]; push_cast; rfl, by go_num, B3.out, SQ.out⟩
                    case measure => simp [intOf]; omega
                · as_aux_lemma =>
                    have hk32 : k ≤ 32 := by omega
                    obtain ⟨y9, hy9⟩ : ∃ y9, y9 = cnt m.R μ.R (16 * k) := ⟨_, rfl⟩
                    rw [← hy9]
                    have Y9 := Lib.hid hy9
                    clear hy9
                    go_wp2_with fail
                    clear qc
                    go_loopw [10, 11, 17] (fun t10 t11 i wr => ∃ n : Nat, n ≤ 17 ∧ t10 = .int .i64 (cnt (fun i => m.R (512 + i)) (fun i => μ.R (512 + i)) (8 * n)) ∧ t11 = .int .i64 (cntB m μ (n - 1)) ∧ i = .int .i64 n ∧ AllM V wr [⟨b, G4, μ⟩, ⟨c, G2, m⟩] ∧ Spect wr [⟨b, G4, μ⟩, ⟨c, G2, m⟩] zq (.cells (rrow q) 39 (0, 0))) (fun _ _ i _ => 17 - (intOf i).toNat)
                    case atStart => exact ⟨0, by decide, rfl, rfl, rfl, A.out, SQ.out⟩
                    case round =>
                      obtain ⟨n, hn, rfl, rfl, rfl, A, SQ⟩ := hrel
                      have A := Lib.hid A
                      have SQ := Lib.hid SQ
                      have b1 := cnt_bd (fun i => m.R (512 + i)) (fun i => μ.R (512 + i)) (8 * n)
                      have b2 := cntB_bd m μ (n - 1)
                      by_cases hn17 : n ≤ 16
                      · as_aux_lemma =>
                          have hn17' : (n : Int) ≤ 16 := by omega
                          generalize hy11 : cntB m μ (n - 1) = y11 at *
                          have Y11 := Lib.hid hy11
                          clear hy11
                          go_wp2_with fail
                          go_loopw [10, 18] (fun t10 i wr => ∃ r : Nat, r ≤ 8 ∧ t10 = .int .i64 (cnt (fun i => m.R (512 + i)) (fun i => μ.R (512 + i)) (8 * n + r)) ∧ i = .int .i64 r ∧ AllM V wr [⟨b, G4, μ⟩, ⟨c, G2, m⟩] ∧ Spect wr [⟨b, G4, μ⟩, ⟨c, G2, m⟩] zq (.cells (rrow q) 39 (0, 0))) (fun _ i _ => 8 - (intOf i).toNat)
                          case atStart => exact ⟨0, by decide, rfl, rfl, A.out, SQ.out⟩
                          case round =>
                            obtain ⟨r, hr, rfl, rfl, A, SQ⟩ := hrel
                            have A := Lib.hid A
                            have SQ := Lib.hid SQ
                            by_cases hr8 : r < 8
                            · as_aux_lemma =>
                                have hr8' : (r : Int) < 8 := by omega
                                have hl1 : F3.loc m.nw 0 n r = 512 + (8 * n + r) := by rw [F3.loc_global (by omega)]; omega
                                have hl2 : F3.loc μ.nw 0 n r = 512 + (8 * n + r) := by rw [F3.loc_global (by omega)]; omega
                                have ec : cnt (fun i => m.R (512 + i)) (fun i => μ.R (512 + i)) (8 * n + (r + 1)) = cnt (fun i => m.R (512 + i)) (fun i => μ.R (512 + i)) (8 * n + r) + if m.R (512 + (8 * n + r)) = μ.R (512 + (8 * n + r)) then 0 else 1 := rfl
                                have hb3 := cnt_bd (fun i => m.R (512 + i)) (fun i => μ.R (512 + i)) (8 * n + r)
                                have hy10 : cnt (fun i => m.R (512 + i)) (fun i => μ.R (512 + i)) (8 * n + r) ≤ 144 := by omega
                                have hnm1 : F3.Named m.nw 0 n r := ⟨by decide, by rw [ME.out.2.1]; omega, by omega, by omega, by omega, by omega⟩
                                have hnm2 : F3.Named μ.nw 0 n r := ⟨by decide, by rw [CH.out.nw, ME.out.2.1]; omega, by omega, by omega, by omega, by omega⟩
                                obtain ⟨u1, hu1⟩ : ∃ u1, u1 = m.R (512 + (8 * n + r)) := ⟨_, rfl⟩
                                obtain ⟨u2, hu2⟩ : ∃ u2, u2 = μ.R (512 + (8 * n + r)) := ⟨_, rfl⟩
                                rw [← hu1, ← hu2] at ec
                                generalize hy : cnt (fun i => m.R (512 + i)) (fun i => μ.R (512 + i)) (8 * n + r) = y10 at *
                                have HU := Lib.hid (And.intro hu1 (And.intro hu2 (And.intro hl1 (And.intro hl2 (And.intro hnm1 hnm2)))))
                                have EC := Lib.hid ec
                                clear hu1 hu2 hl1 hl2 hnm1 hnm2 ec hy b1 b2 hb3
                                obtain ⟨fa, ma, ga, xa, ca, oa, PA⟩ := A.out.at' 1 _ rfl
                                go_wp2_with fail
                                refine (File_get PA).mono ?_; rintro e W ⟨rfl, rfl⟩
                                have CG := F3.get_at fa m.nw 0 n r m.R wr PA.file PA.ok.n2 PA.ok.n32 HU.out.2.2.2.2.1
                                rw [HU.out.2.2.1, ← HU.out.1] at CG
                                go_wp2_with fail
                                refine CG.mono ?_; rintro e v1 ⟨rfl, k1⟩
                                have B1 := Lib.hid (A.out.more k1)
                                have SQ := Lib.hid (SQ.out.more k1)
                                clear PA k1 A CG
                                obtain ⟨fa, ma, ga, xa, ca, oa, PA⟩ := B1.out.at' 0 _ rfl
                                go_wp2_with fail
                                refine (File_get PA).mono ?_; rintro e W ⟨rfl, rfl⟩
                                have CG := F3.get_at fa μ.nw 0 n r μ.R v1 PA.file PA.ok.n2 PA.ok.n32 HU.out.2.2.2.2.2
                                rw [HU.out.2.2.2.1, ← HU.out.2.1] at CG
                                go_wp2_with fail
                                refine CG.mono ?_; rintro e v2 ⟨rfl, k2⟩
                                have B2 := Lib.hid (B1.out.more k2)
                                have SQ := Lib.hid (SQ.out.more k2)
                                clear PA k2 B1 CG
                                by_cases he : u1 = u2
                                · have E : Hid (cnt (fun i => m.R (512 + i)) (fun i => μ.R (512 + i)) (8 * n + (r + 1)) = y10) := by have := EC.out; rw [if_pos he] at this; exact this
                                  subst he
                                  go_wp2_with fail
                                  go_roundw
                                  case rel => exact ⟨r + 1, by omega, by rw [E.out], by go_num, B2.out, SQ.out⟩
                                  case measure => simp [intOf]; omega
                                · have E : Hid (cnt (fun i => m.R (512 + i)) (fun i => μ.R (512 + i)) (8 * n + (r + 1)) = y10 + 1) := by have := EC.out; rw [if_neg he] at this; exact this
                                  go_wp2_with fail
                                  go_roundw
                                  case rel => exact ⟨r + 1, by omega, by rw [E.out]; push_cast; rfl, by go_num, B2.out, SQ.out⟩
                                  case measure => simp [intOf]; omega
                            · as_aux_lemma =>
                                obtain rfl : r = 8 := by omega
                                have e8 : 8 * n + 8 = 8 * (n + 1) := by omega
                                rw [e8]
                                obtain ⟨y10, hy10⟩ : ∃ y10, y10 = cnt (fun i => m.R (512 + i)) (fun i => μ.R (512 + i)) (8 * (n + 1)) := ⟨_, rfl⟩
                                rw [← hy10]
                                have Y10 := Lib.hid hy10
                                clear hy10 e8 b1
                                have hy11 : y11 ≤ 17 := by omega
                                by_cases hn0 : n = 0
                                · as_aux_lemma =>
                                    subst hn0
                                    obtain ⟨fa, ma, ga, xa, ca, oa, PA⟩ := A.out.at' 1 _ rfl
                                    go_wp2_with fail
                                    refine (T_zero PA).mono ?_; rintro e v1 ⟨rfl, k1⟩
                                    have B1 := Lib.hid (A.out.more k1)
                                    have SQ := Lib.hid (SQ.out.more k1)
                                    clear PA k1 A
                                    obtain ⟨fa, ma, ga, xa, ca, oa, PA⟩ := B1.out.at' 0 _ rfl
                                    go_wp2_with fail
                                    refine (T_zero PA).mono ?_; rintro e v2 ⟨rfl, k2⟩
                                    have B2 := Lib.hid (B1.out.more k2)
                                    have SQ := Lib.hid (SQ.out.more k2)
                                    clear PA k2 B1
                                    go_wp2_with fail
                                    go_roundw
                                    case rel => exact ⟨1, by omega, by rw [Y10.out], by rw [← Y11.out], by go_num, B2.out, SQ.out⟩
                                    case measure => simp [intOf]
                                · as_aux_lemma =>
                                    have hn1 : 1 ≤ n := by omega
                                    obtain ⟨n', rfl⟩ : ∃ n', n = n' + 1 := ⟨n - 1, by omega⟩
                                    have eB : Hid (cntB m μ (n' + 1) = y11 + if m.tpc (n' + 1) = μ.tpc (n' + 1) ∧ m.tps (n' + 1) = μ.tps (n' + 1) then 0 else 1) := by rw [← Y11.out]; rfl
                                    obtain ⟨p1, hp1⟩ : ∃ p1, p1 = m.tpc (n' + 1) := ⟨_, rfl⟩
                                    obtain ⟨p2, hp2⟩ : ∃ p2, p2 = m.tps (n' + 1) := ⟨_, rfl⟩
                                    obtain ⟨p3, hp3⟩ : ∃ p3, p3 = μ.tpc (n' + 1) := ⟨_, rfl⟩
                                    obtain ⟨p4, hp4⟩ : ∃ p4, p4 = μ.tps (n' + 1) := ⟨_, rfl⟩
                                    rw [← hp1, ← hp2, ← hp3, ← hp4] at eB
                                    have HP := Lib.hid (And.intro hp1 (And.intro hp2 (And.intro hp3 hp4)))
                                    clear hp1 hp2 hp3 hp4
                                    obtain ⟨fa, ma, ga, xa, ca, oa, PA⟩ := A.out.at' 1 _ rfl
                                    have CT := T_get (n' + 1) PA hn1 hn17
                                    rw [← HP.out.1, ← HP.out.2.1] at CT
                                    go_wp2_with fail
                                    refine CT.mono ?_; rintro e v1 ⟨rfl, k1⟩
                                    have B1 := Lib.hid (A.out.more k1)
                                    have SQ := Lib.hid (SQ.out.more k1)
                                    clear PA k1 A CT
                                    obtain ⟨fa, ma, ga, xa, ca, oa, PA⟩ := B1.out.at' 0 _ rfl
                                    have CT := T_get (n' + 1) PA hn1 hn17
                                    rw [← HP.out.2.2.1, ← HP.out.2.2.2] at CT
                                    go_wp2_with fail
                                    refine CT.mono ?_; rintro e v2 ⟨rfl, k2⟩
                                    have B2 := Lib.hid (B1.out.more k2)
                                    have SQ := Lib.hid (SQ.out.more k2)
                                    clear PA k2 B1 CT
                                    by_cases h1 : p1 = p3
                                    · by_cases h2 : p2 = p4
                                      · have E : Hid (cntB m μ (n' + 1) = y11) := by have := eB.out; rw [if_pos ⟨h1, h2⟩] at this; exact this
                                        subst h1 h2
                                        go_wp2_with fail
                                        go_roundw
                                        case rel => exact ⟨n' + 1 + 1, by omega, by rw [Y10.out], by rw [show n' + 1 + 1 - 1 = n' + 1 by omega, E.out], by go_num, B2.out, SQ.out⟩
                                        case measure => simp [intOf]; omega
                                      · have E : Hid (cntB m μ (n' + 1) = y11 + 1) := by have := eB.out; rw [if_neg (fun h => h2 h.2)] at this; exact this
                                        subst h1
                                        go_wp2_with fail
                                        go_roundw
                                        case rel => exact ⟨n' + 1 + 1, by omega, by rw [Y10.out], by rw [show n' + 1 + 1 - 1 = n' + 1 by omega, E.out]; push_cast; rfl, by go_num, B2.out, SQ.out⟩
                                        case measure => simp [intOf]; omega
                                    · have E : Hid (cntB m μ (n' + 1) = y11 + 1) := by have := eB.out; rw [if_neg (fun h => h1 h.1)] at this; exact this
                                      go_wp2_with fail
                                      go_roundw
                                      case rel => exact ⟨n' + 1 + 1, by omega, by rw [Y10.out], by rw [show n' + 1 + 1 - 1 = n' + 1 by omega, E.out]; push_cast; rfl, by go_num, B2.out, SQ.out⟩
                                      case measure => simp [intOf]; omega
                      · as_aux_lemma =>
                          obtain rfl : n = 17 := by omega
                          obtain ⟨y10, hy10⟩ : ∃ y10, y10 = cnt (fun i => m.R (512 + i)) (fun i => μ.R (512 + i)) (8 * 17) := ⟨_, rfl⟩
                          obtain ⟨y11, hy11⟩ : ∃ y11, y11 = cntB m μ (17 - 1) := ⟨_, rfl⟩
                          rw [← hy10, ← hy11]
                          have Y10 := Lib.hid hy10
                          have Y11 := Lib.hid hy11
                          clear hy10 hy11 b1 b2
                          obtain ⟨z4, hz4⟩ : ∃ z4 : Nat, z4 = m.sz / 4 := ⟨_, rfl⟩
                          have hz4b : z4 ≤ 4194304 := by obtain ⟨fa, ma, ga, xa, ca, oa, PA⟩ := A.out.at' 1 _ rfl; have hz : m.sz ≤ 4194304 := PA.ok.sz; omega
                          have hzm : (m.sz : Int) / 4 = (z4 : Int) := by omega
                          have hzt : (m.sz : Int).tdiv 4 = (z4 : Int) := by rw [Int.tdiv_eq_ediv_of_nonneg (by omega)]; omega
                          have HZ := Lib.hid hz4
                          clear hz4
                          obtain ⟨fa, ma, ga, xa, ca, oa, PA⟩ := A.out.at' 1 _ rfl
                          go_wp2_with fail
                          refine (Mem_get PA).mono ?_; rintro e W ⟨rfl, rfl⟩
                          go_wp2_with fail
                          refine (Mem_get PA).mono ?_; rintro e W ⟨rfl, rfl⟩
                          go_wp2_with fail
                          refine (M5.size_at PA.mem).mono ?_; rintro e v1 ⟨rfl, k1⟩
                          have PA := PA.bel k1
                          have B1 := Lib.hid (A.out.more k1)
                          have SQ := Lib.hid (SQ.out.more k1)
                          clear A k1
                          go_wp2_with fail
                          refine (wordsX B1.out (j := 1) rfl PA z4 HZ.out (by first | rfl | exact hzm | exact hzt)).mono ?_; rintro e v2 ⟨lx, rfl, SX, k2⟩
                          have B2 := Lib.hid (B1.out.more k2)
                          have SQ := Lib.hid (SQ.out.more k2)
                          have SX := Lib.hid SX
                          clear PA B1 k2
                          obtain ⟨fa, ma, ga, xa, ca, oa, PA⟩ := B2.out.at' 0 _ rfl
                          have hsz := CH.out.sz
                          go_wp2_with fail
                          refine (Mem_get PA).mono ?_; rintro e W ⟨rfl, rfl⟩
                          go_wp2_with fail
                          refine (Mem_get PA).mono ?_; rintro e W ⟨rfl, rfl⟩
                          go_wp2_with fail
                          have CS := M5.size_at PA.mem
                          rw [show ((μ.sz : Nat) : Int) = ((m.sz : Nat) : Int) by rw [hsz]] at CS
                          refine CS.mono ?_; rintro e v3 ⟨rfl, k3⟩
                          have PA := PA.bel k3
                          have B3 := Lib.hid (B2.out.more k3)
                          have SQ := Lib.hid (SQ.out.more k3)
                          have SX := Lib.hid (SX.out.bel k3)
                          clear B2 k3 CS
                          go_wp2_with fail
                          refine (wordsX B3.out (j := 0) rfl PA z4 (by rw [hsz]; exact HZ.out) (by first | rfl | exact hzm | exact hzt)).mono ?_; rintro e v4 ⟨ly, rfl, SY, k4⟩
                          have B4 := Lib.hid (B3.out.more k4)
                          have SQ := Lib.hid (SQ.out.more k4)
                          have SX := Lib.hid (SX.out.bel k4)
                          have SY := Lib.hid SY
                          clear PA B3 k4 hsz hzm hzt
                          have hR := cnt_two CH.out.R (n := 16 * k) (k := 8 * 17) (by omega)
                          rw [← Y9.out, ← Y10.out] at hR
                          have hB : y11 ≤ 1 := by rw [Y11.out]; obtain ⟨kk, hkk⟩ := CH.out.t; exact cntB_one (fun i hi => ⟨(hkk i hi).1.symm, (hkk i hi).2.symm⟩) _
                          have hW := cnt_words CH.out.f z4
                          have r1 : ¬ (1 : Int) < y9 := by omega
                          have r2 : ¬ (1 : Int) < y10 := by omega
                          have r3 : ¬ (1 : Int) < (y9 : Int) + (y10 : Int) := by omega
                          have r4 : ¬ (1 : Int) < y11 := by omega
                          obtain ⟨y12, hy12⟩ : ∃ y12, y12 = cnt (M5.wdB m.f 0) (M5.wdB μ.f 0) z4 := ⟨_, rfl⟩
                          rw [← hy12] at hW
                          have r5 : ¬ (1 : Int) < y12 := by omega
                          have w1' : IntKind.i64.wrap ((y9 : Int) + (y10 : Int)) = (y9 : Int) + (y10 : Int) := IntWalk.i64_in _ (by omega)
                          have CU : Hid (∀ W : World, Below v4.heap.size v4 W → Calls Tryz.prog 17 #[lx, ly] W fun e W' => e = .returned (.int .i64 y12) ∧ Below v4.heap.size v4 W' ∧ Below W.heap.size W W') := fun W kk => by
                            rw [hy12]
                            exact (unlike_at _ _ z4 _ _ W hz4b (SX.out.bel kk) (SY.out.bel kk)).mono fun e W' ⟨h1, h2⟩ => ⟨h1, bel_trans kk h2, h2⟩
                          have hO := ME.out.1
                          have hO1 := CH.out.o0
                          have hO2 := CH.out.o1
                          have CB : Hid (∀ W : World, Below v4.heap.size v4 W → Calls Tryz.prog 23 #[.pointer (some ⟨b, 0, none⟩)] W fun e W' => ∃ p q, e = .returned (.slice p μ.ol q) ∧ μ.ol ≤ q ∧ Sl .u32 W' (.slice p μ.ol q) μ.ol μ.out ∧ Below v4.heap.size v4 W' ∧ Below W.heap.size W W') := fun W kk =>
                            (outX (B4.out.more kk) (j := 0) rfl (by omega)).mono fun e W' ⟨p, q, h1, h2, h3, h4⟩ => ⟨p, q, h1, h2, h3, bel_trans kk h4, h4⟩
                          have CC : Hid (∀ W : World, Below v4.heap.size v4 W → Calls Tryz.prog 23 #[.pointer (some ⟨c, 0, none⟩)] W fun e W' => ∃ p q, e = .returned (.slice p m.ol q) ∧ m.ol ≤ q ∧ Sl .u32 W' (.slice p m.ol q) m.ol m.out ∧ Below v4.heap.size v4 W' ∧ Below W.heap.size W W') := fun W kk =>
                            (outX (B4.out.more kk) (j := 1) rfl (by omega)).mono fun e W' ⟨p, q, h1, h2, h3, h4⟩ => ⟨p, q, h1, h2, h3, bel_trans kk h4, h4⟩
                          have r6 : ¬ (m.ol : Int) + 1 < (μ.ol : Int) := by omega
                          have r7 : ¬ (μ.ol : Int) < (m.ol : Int) := by omega
                          have w2' : IntKind.i64.wrap ((m.ol : Int) + 1) = (m.ol : Int) + 1 := IntWalk.i64_in _ (by omega)
                          have d1 : decide ((1 : Int) < y9) = false := decide_eq_false r1
                          have d2 : decide ((1 : Int) < y10) = false := decide_eq_false r2
                          have d3 : decide ((1 : Int) < (y9 : Int) + (y10 : Int)) = false := decide_eq_false r3
                          have d4 : decide ((1 : Int) < y11) = false := decide_eq_false r4
                          have d5 : decide ((1 : Int) < y12) = false := decide_eq_false r5
                          have d6 : decide ((m.ol : Int) + 1 < (μ.ol : Int)) = false := decide_eq_false r6
                          have d7 : decide ((μ.ol : Int) < (m.ol : Int)) = false := decide_eq_false r7
                          clear r1 r2 r3 r4 r5 r6 r7
                          obtain ⟨plx, clx, rfl, _⟩ := id SX.out
                          obtain ⟨ply, cly, rfl, _⟩ := id SY.out
                          have hb0 : Below v4.heap.size v4 v4.drew := Below.drew (Below.refl _ _)
                          have HY12 := Lib.hid hy12
                          clear hy12 hR hB hW
                          generalize h9e : (y9 : Int) = a9 at *
                          have E9 := Lib.hid h9e
                          clear h9e
                          generalize h10e : (y10 : Int) = a10 at *
                          have E10 := Lib.hid h10e
                          clear h10e
                          generalize h11e : (y11 : Int) = a11 at *
                          have E11 := Lib.hid h11e
                          clear h11e
                          generalize h12e : (y12 : Int) = a12 at *
                          have E12 := Lib.hid h12e
                          clear h12e
                          generalize hμo : μ.ol = oM at *
                          generalize hmo : m.ol = oW at *
                          have d7n : decide (oM < oW) = false := decide_eq_false (by omega)
                          go_upto_region 34 with (fail)
                          go_region_held3 (fun _ => True)
                            (exact True.intro)
                            (first
                              | (go_at_call 17; refine (CU.out _ hb0).mono ?_; rintro e Va ⟨rfl, ha, hka⟩)
                              | (go_at_call_of 23 (Value.pointer (some ⟨b, 0, none⟩)); refine (CB.out _ (by with_reducible assumption)).mono ?_; rintro e Vb ⟨pb, qb, rfl, hqb, Sb, hb, hk⟩; have hqb' : oW ≤ qb := by omega)
                              | (go_at_call_of 23 (Value.pointer (some ⟨c, 0, none⟩)); refine (CC.out _ (by with_reducible assumption)).mono ?_; rintro e Vc ⟨pc', qc', rfl, hqc, Sc, hb, hk⟩; have Sb := Sb.bel hk)
                              | (go_at_call 24; refine (M5.words_same _ _ oW _ _ _ (by omega) (sl_prefix Sb (by omega)) Sc (fun i hi => CH.out.o2 i (by omega))).mono ?_; rintro e Vd ⟨rfl, hd⟩))
                          all_goals
                            have GZ := Lib.hid (bel_trans hb hd)
                            have B5 := Lib.hid (B4.out.more GZ.out)
                            have SQ := Lib.hid (SQ.out.more GZ.out)
                            clear hb hd hk hb0 CB CC Sb Sc B4
                            obtain ⟨fa, ma, ga, xa, ca, oa, PA⟩ := B5.out.at' 1 _ rfl
                            go_wp2_with fail
                            refine (stop_at PA).mono ?_; rintro e v6 ⟨rfl, k6⟩
                            have GZ := Lib.hid (bel_trans GZ.out k6)
                            have B6 := Lib.hid (B5.out.more k6)
                            have SQ := Lib.hid (SQ.out.more k6)
                            clear PA B5 k6
                            by_cases hsk : m.sk = 0
                            · as_aux_lemma =>
                                rw [hsk]
                                go_wp2_with fail
                                go_roundw
                                case rel => exact ⟨j + 1, G4, μ, by omega, by go_num, B6.out.first, SQ.out.first, by omega, CH.out.nw.trans ME.out.2.1, CL.out⟩
                                case measure => simp [intOf]; omega
                            · as_aux_lemma =>
                                have hskb : (m.sk == 0) = false := by simpa using hsk
                                have hμm := SK.out hsk
                                have z9 : a9 = 0 := by rw [← E9.out, Y9.out, hμm, cnt_zero (fun _ _ => rfl)]; rfl
                                have z10 : a10 = 0 := by rw [← E10.out, Y10.out, hμm, cnt_zero (fun _ _ => rfl)]; rfl
                                have z11 : a11 = 0 := by rw [← E11.out, Y11.out, hμm, cntB_zero (fun _ _ => ⟨rfl, rfl⟩)]; rfl
                                have z12 : a12 = 0 := by rw [← E12.out, HY12.out, hμm, cnt_zero (fun _ _ => rfl)]; rfl
                                have hpc : μ.pc = m.pc := by rw [hμm]
                                have CUz := CU.out v6 GZ.out
                                clear hμm
                                clear E9 E10 E11 E12
                                subst z9 z10 z11 z12
                                clear d1 d2 d3 d4 d5 w1'
                                go_wp2_with fail
                                refine CUz.mono ?_; rintro e v7 ⟨rfl, _, k7⟩
                                have B7 := Lib.hid (B6.out.more k7)
                                have SQ := Lib.hid (SQ.out.more k7)
                                clear B6 CUz
                                obtain ⟨fa, ma, ga, xa, ca, oa, PA⟩ := B7.out.at' 0 _ rfl
                                go_wp2_with fail
                                refine (PC_get PA).mono ?_; rintro e v8 ⟨rfl, rfl⟩
                                obtain ⟨fa, ma, ga, xa, ca, oa, PA⟩ := B7.out.at' 1 _ rfl
                                go_wp2_with fail
                                refine (PC_get PA).mono ?_; rintro e v9 ⟨rfl, rfl⟩
                                go_wp2_with fail
                                go_roundw
                                case rel => exact ⟨j + 1, G4, μ, by omega, by go_num, B7.out.first, SQ.out.first, by omega, CH.out.nw.trans ME.out.2.1, CL.out⟩
                                case measure => simp [intOf]; omega
          · as_aux_lemma =>
              obtain rfl : j = N := by omega
              have B9 := Lib.hid A.out.bel
              clear A SQ
              go_wp2_with fail
              refine (HEAD.out wr B9.out).mono ?_; rintro e W9 ⟨rfl, g9⟩
              go_wp2_with fail
              go_ret
              exact ⟨rfl, g9⟩
      · as_aux_lemma =>
          go_wp2_with fail
          refine (made_no s (HS.out.bel G1.out) hm).mono ?_; rintro e w2 ⟨rfl, g2⟩
          have G2 := Lib.hid (bel_trans G1.out g2)
          clear g2 x0 x1 x2 x3 x4 x5 x6 x7 x8 x9 x10
          go_upto_region 4 with (first
            | (refine q_alloc rfl (some 6) rfl (by kernel_rfl) ?_; intro V4 r4 b4 s4)
            | (refine q_whole rfl (.tmp 6) (.tmp 45) rfl w2.heap.size rzero rzero rfl rfl r4.out rzero_ok ?_; intro V5 z5 g5))
          have G5 := Lib.hid (bel_trans G2.out (only_bel b4 g5.out (Nat.le_refl _)))
          clear r4 b4 s4 z5 g5 G2
          go_simp
          go_wp2_with fail
          refine (HEAD.out V5 G5.out).mono ?_; rintro e w9 ⟨rfl, g9⟩
          go_wp2_with fail
          go_ret
          exact ⟨rfl, g9⟩
    · as_aux_lemma =>
        have hN' : (40 : Int) < N := by omega
        go_wp2_with fail
        refine (HEAD.out w1 G1.out).mono ?_; rintro e w2 ⟨rfl, g2⟩
        go_wp2_with fail
        go_ret
        exact ⟨rfl, g2⟩
  · as_aux_lemma =>
      go_wp2_with fail
      refine (HEAD.out w1 G1.out).mono ?_; rintro e w2 ⟨rfl, g2⟩
      go_wp2_with fail
      go_ret
      exact ⟨rfl, g2⟩
end Go.Proofs.YtlmaikbnjdmhcaaGreatDoor.K6
