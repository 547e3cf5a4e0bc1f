/- SwapTurns (layer 10), walked. -/
import Derived.Test.YtiobgnelhiadbaaGreatDoorVSwapGTa
import Derived.Test.YtiobgnelhiadbaaGreatDoorVSwapGI
import Derived.Test.YtiobgnelhiadbaaGreatDoorVSwapGH
import Derived.Test.YtiobgnelhiadbaaGreatDoorVWindGS
import Derived.Test.YtiobgnelhiadbaaGreatDoorVSwapGC
import Derived.Test.YtiobgnelhiadbaaGreatDoorVSwapGOp
namespace Go.Proofs.YtiobgnelhiadbaaGreatDoor.S10
open Go.RowKit W8 K6
open F3 (LAt LAtB place atL Ent entF)
set_option linter.unusedVariables false
set_option maxRecDepth 100000 in
set_option maxHeartbeats 8000000 in
theorem zturns_walk {w : World} (s : TC) {vr vf : Value} (hB : TCB s) (hC : TCAt w s vr vf) (hT : Tabs w) :
    Calls Tryz.prog 4 #[.agg (zrow s vr vf)] w fun e w' => e = .returned (.bool true) ∧ Below w.heap.size w w' := by
  obtain ⟨pr, cr, rfl, _⟩ := id hC.rr
  obtain ⟨pf, cf, rfl, _⟩ := id hC.rf
  have hX : Hid ((w.alloc (.cells (zrow s (.slice pr s.lr cr) (.slice pf s.lf cf)) 54)).heap[w.heap.size]? = some (.cells (zrow s (.slice pr s.lr cr) (.slice pf s.lf cf)) 54 (0, 0))) := heap_alloc_last _ _
  have gX : Hid (Below w.heap.size w (w.alloc (.cells (zrow s (.slice pr s.lr cr) (.slice pf s.lf cf)) 54))) := bel_alK (Below.refl _ _)
  have HB := Lib.hid hB
  have HC := Lib.hid (hC.bel gX.out)
  have HT := Lib.hid (hT.bel gX.out)
  have HEAD : Hid (∀ W : World, Below w.heap.size w W → Calls Tryz.prog 19 #[] W fun e w' => e = .returned (.bool true) ∧ Below W.heap.size W w') := fun W k => zhead_at W (hT.bel k)
  clear hB hC hT
  go_enter Tryz.func4, Tryz.ntmps4
  go_upto_region 1 with (fail)
  change Code.wp _ _ _ _ (w.alloc (.cells (zrow s (.slice pr s.lr cr) (.slice pf s.lf cf)) 54))
  generalize w.alloc (.cells (zrow s (.slice pr s.lr cr) (.slice pf s.lf cf)) 54) = V at hX gX HC HT ⊢
  have RC : Hid (∀ W : World, Below V.heap.size V W → W.heap[w.heap.size]? = some (.cells (zrow s (.slice pr s.lr cr) (.slice pf s.lf cf)) 54 (0, 0))) := fun W k => bel_heap k hX.out
  have RX : Hid (∀ W : World, Below V.heap.size V W → W.cell? ⟨w.heap.size, 0, none⟩ = some (.int .i64 s.nw) ∧ W.cell? ⟨w.heap.size, 15, none⟩ = some (.int .u32 s.ch) ∧ W.cell? ⟨w.heap.size, 16, none⟩ = some (.int .u8 s.fl) ∧ W.cell? ⟨w.heap.size, 17, none⟩ = some (.int .u8 s.pl) ∧ W.cell? ⟨w.heap.size, 19, none⟩ = some (.bool s.en)) := fun W k => by
    have h := RC.out W k
    exact ⟨row_cell h rfl, row_cell h rfl, row_cell h rfl, row_cell h rfl, row_cell h rfl⟩
  clear hX
  go_wp2_with (refine wpList_load_row rfl 54 (.tmp 1) rfl w.heap.size rfl 54 (zrow s (.slice pr s.lr cr) (.slice pf s.lf cf)) (0, 0) _ (RC.out V (Below.refl _ _)) zrow_under rfl (zrow_info _ _ _) ?_)
  refine (may_at s HC.out).mono ?_; rintro e w1 ⟨rfl, g1⟩
  have G1 := Lib.hid g1
  clear g1
  cases hv : mayZ s
  · go_wp2_with fail
    refine (HEAD.out w1 (bel_trans gX.out G1.out)).mono ?_; rintro e w2 ⟨rfl, g2⟩
    have G2 := Lib.hid (bel_trans gX.out (bel_trans G1.out g2))
    clear g2
    go_wp2_with fail
    go_ret
    exact ⟨rfl, G2.out⟩
  have HM := Lib.hid (mayZ_may hv)
  clear hv
  have hrow := RC.out w1 G1.out
  go_wp2_with (first
    | (refine wpList_load_rowG rfl 54 (.tmp 1) rfl w.heap.size rfl 54 (zrow s (.slice pr s.lr cr) (.slice pf s.lf cf)) (0, 0) _ hrow zrow_under rfl (zrow_info _ _ _) ?_))
  refine (living_at s (HC.out.bel G1.out) HM.out.t1 HM.out.t4).mono ?_; rintro e w2 ⟨rfl, g2⟩
  have G2 := Lib.hid (bel_trans G1.out g2)
  clear g2 hrow G1
  by_cases hz : cntA s.la s.th.toNat = 0
  · go_wp2_with fail
    refine (HEAD.out w2 (bel_trans gX.out G2.out)).mono ?_; rintro e w3 ⟨rfl, g3⟩
    have G3 := Lib.hid (bel_trans gX.out (bel_trans G2.out g3))
    clear g3
    go_wp2_with fail
    go_ret
    exact ⟨rfl, G3.out⟩
  have hpos : Hid (0 < cntA s.la s.th.toNat) := by
    have := (cntA_b (al := s.la) s.th.toNat fun j _ => la_01 j).1
    unfold Hid
    omega
  have hrow := RC.out w2 G2.out
  go_wp2_with (refine wpList_load_row rfl 54 (.tmp 1) rfl w.heap.size rfl 54 (zrow s (.slice pr s.lr cr) (.slice pf s.lf cf)) (0, 0) _ hrow zrow_under rfl (zrow_info _ _ _) ?_)
  refine (zmade_at s HM.out HB.out (HC.out.bel G2.out) (HT.out.bel G2.out)).mono ?_; rintro e w3 ⟨b, G, rfl, B3, g3, low3⟩
  have A3 : Hid (AllM V w3 [⟨b, G, mZ s⟩]) := ((AllM.none HT.out).more G2.out).add g3 B3 low3
  have HG : Hid (∀ i, G i → i < w3.heap.size) := B3.lt
  obtain ⟨fb, mb, gb, xb, cs, os, P⟩ := A3.out.at' 0 _ rfl
  have P3 := Lib.hid P
  clear hz hrow B3 g3 low3 P G2
  obtain ⟨x0, _⟩ := RX.out w3 A3.out.bel
  go_wp2_with fail
  refine (world_z (nw := s.nw) (t := s.iv) (cw := s.c) P3.out rfl rfl HM.out.i0 HM.out.i1 rfl rfl).mono ?_; rintro e w4 ⟨p1, m1, k1, pm1, mk1, l, rfl, hL, hlen, hS, hMB, g4⟩
  have L4 : Hid (DO w3.heap.size w4 ⟨s.nw, .slice p1 m1 k1, .slice pm1 8192 mk1, s.c, s.iv⟩ l s.mem) := ⟨hL, hMB, P3.out.ok.f, g4.size⟩
  have HR : Hid (∀ j, W32 (s.R j)) := P3.out.ok.R
  have LEN := Lib.hid hlen
  have HS := Lib.hid hS
  have G4 := Lib.hid g4
  obtain ⟨q, hq⟩ : ∃ q : DV, q = ⟨s.nw, .slice p1 m1 k1, .slice pm1 8192 mk1, s.c, s.iv⟩ := ⟨_, rfl⟩
  rw [← hq]
  have HQ := Lib.hid hq
  have OKq : Hid q.Ok := by rw [hq]; exact ⟨rfl, rfl⟩
  clear hL hMB hlen hS g4 x0 hq
  go_upto_region 8 with (first
    | (refine d_alloc rfl (some 4) rfl (by kernel_rfl) ?_; intro V4 r4 b4 s4)
    | (refine d_whole rfl (.tmp 4) (.tmp 31) rfl w4.heap.size dzero q rfl rfl r4.out OKq.out ?_; intro V5 r5 g5))
  have k5 := only_bel b4 g5.out (Nat.le_refl _)
  have G5 := Lib.hid (bel_trans G4.out k5)
  have D5 := Lib.hid (L4.out.bel k5)
  have R5 : Hid (RowD V5 w4.heap.size ⟨s.nw, .slice p1 m1 k1, .slice pm1 8192 mk1, s.c, s.iv⟩) := by unfold Hid; rw [← HQ.out]; exact r5.out
  have N4 : Hid (w3.heap.size ≤ w4.heap.size) := G4.out.size
  clear r4 b4 s4 g5 k5 r5 G4 L4
  generalize w4.heap.size = z4 at R5 N4 ⊢
  clear OKq HQ
  obtain ⟨_, _, _, _, x19⟩ := RX.out V5 (bel_trans A3.out.bel G5.out)
  go_upto_if 33 with (fail)
  go_cut [5] (fun v wx => v = .bool true ∧ Below w3.heap.size w3 wx ∧ ∃ vm', RowD wx z4 ⟨s.nw, .slice p1 m1 k1, vm', s.c, s.iv⟩ ∧ DO w3.heap.size wx ⟨s.nw, .slice p1 m1 k1, vm', s.c, s.iv⟩ l s.fH)
  case first =>
    obtain ⟨q0, q1, q2, q3, q4⟩ := R5.out.all
    cases hen : s.en
    · have x19' : V5.cell? ⟨w.heap.size, 19, none⟩ = some (.bool false) := by rw [← hen]; exact x19
      have HEN := Lib.hid hen
      clear x19 hen
      go_wp2_with fail
      refine (y_at HM.out HB.out D5.out (by have := LEN.out; omega) HS.out HR.out HEN.out).mono ?_; rintro e w6 ⟨vm', rfl, hD, g6⟩
      have D6 := Lib.hid hD
      have G6 := Lib.hid (bel_trans G5.out g6)
      have R6 := Lib.hid (R5.out.bel g6)
      have OK6 : Hid (DV.Ok ⟨s.nw, .slice p1 m1 k1, vm', s.c, s.iv⟩) := hD.ok
      clear hD g6 q0 q1 q2 q3 q4 x19'
      go_wp2_with (refine d_whole rfl (.tmp 4) (.tmp 39) rfl z4 _ ⟨s.nw, .slice p1 m1 k1, vm', s.c, s.iv⟩ rfl rfl R6.out OK6.out ?_; intro V7 r7 g7)
      go_meet
      exact ⟨rfl, only_bel G6.out g7.out N4.out, vm', r7.out, D6.out.put R6.out g7.out⟩
    · have x19' : V5.cell? ⟨w.heap.size, 19, none⟩ = some (.bool true) := by rw [← hen]; exact x19
      have HEN := Lib.hid hen
      clear x19 hen
      go_wp2_with fail
      refine (e_at HM.out HB.out D5.out HEN.out).mono ?_; rintro e w6 ⟨vm', rfl, hD, g6⟩
      have D6 := Lib.hid hD
      have G6 := Lib.hid (bel_trans G5.out g6)
      have R6 := Lib.hid (R5.out.bel g6)
      have OK6 : Hid (DV.Ok ⟨s.nw, .slice p1 m1 k1, vm', s.c, s.iv⟩) := hD.ok
      clear hD g6 q0 q1 q2 q3 q4 x19'
      go_wp2_with (refine d_whole rfl (.tmp 4) (.tmp 35) rfl z4 _ ⟨s.nw, .slice p1 m1 k1, vm', s.c, s.iv⟩ rfl rfl R6.out OK6.out ?_; intro V7 r7 g7)
      go_meet
      exact ⟨rfl, only_bel G6.out g7.out N4.out, vm', r7.out, D6.out.put R6.out g7.out⟩
  case rest =>
    obtain ⟨rfl, g7, vm, r7, d7⟩ := hcut
    have G7 := Lib.hid g7
    have R7 := Lib.hid r7
    have D7 := Lib.hid d7
    have A7 := Lib.hid (A3.out.more g7)
    clear g7 r7 d7 D5 R5 G5 P3 x19
    obtain ⟨N, T, i, e1, kk, hN, hN4, hi, hT, hTN, Z, RN, hk⟩ := z_turn HM.out HB.out hpos.out
    obtain ⟨hpc, sp, hsp, hs4, hs2, hs8⟩ := z_pc HM.out HB.out (T := T) (by omega)
    have CN : Hid (∀ W, Below wc.heap.size wc W → Calls Tryz.prog 24 #[.agg (drow ⟨s.nw, .slice p1 m1 k1, vm, s.c, s.iv⟩), .int .u32 s.ch] W fun e w' => ∃ vl' vm', e = .returned (.tuple #[.agg (drow ⟨s.nw, vl', vm', s.c, (s.c + 1) % s.nw⟩), .int .u32 (ldB s.fH (64 + 16 * T) 4), .bool true]) ∧ DO w3.heap.size w' ⟨s.nw, vl', vm', s.c, (s.c + 1) % s.nw⟩ ((l ++ [(place s.nw s.c 0 14, (sp : Int))]) ++ entF (s.c.toNat * 16) (M5.wdB (nxF s.fH T) sp) 16) (nxF s.fH T) ∧ Below W.heap.size W w') :=
      fun W k => n_at HM.out HB.out (D7.out.bel k) hN hN4 hi hT hTN hsp hs4 hs8 (by have := LEN.out; omega)
    have HZ := Lib.hid Z
    have HRN := Lib.hid RN
    have HSP := Lib.hid hsp
    have HK := Lib.hid hk
    have RG : Hid (∀ j, 512 ≤ j → j < 641 → e1.R j = 0) := fun j h1 h2 => nxR_hi HM.out Z h1 h2
    clear hN hN4 hi hT hTN hsp hs4 hs2 hs8 Z RN hk hpos
    obtain ⟨l2, hl2⟩ : ∃ l2 : List Ent, l2 = (l ++ [(place s.nw s.c 0 14, (sp : Int))]) ++ entF (s.c.toNat * 16) (M5.wdB (nxF s.fH T) sp) 16 := ⟨_, rfl⟩
    rw [← hl2] at CN
    have LEN2 : Hid (l2.length ≤ 700) := by
      have := LEN.out
      unfold Hid
      rw [hl2, List.length_append, List.length_append, F3.entF_len]
      simp only [List.length_cons, List.length_nil]
      omega
    have HL2 := Lib.hid hl2
    clear hl2
    go_simp
    obtain ⟨y0, y1, y2, y3, y4⟩ := R7.out.all
    obtain ⟨x0, x15, x16, x17, x19⟩ := RX.out wc A7.out.bel
    go_wp2_with fail
    refine (CN.out _ (Below.refl _ _)).mono ?_; rintro e w8 ⟨vl', vm', rfl, hD, g8⟩
    obtain ⟨p2, m2, k2, e⟩ := hD.vl
    obtain rfl : vl' = .slice p2 m2 k2 := e
    obtain ⟨pm2, mk2, e⟩ := hD.vm
    obtain rfl : vm' = .slice pm2 8192 mk2 := e
    have D8 := Lib.hid hD
    have G8 := Lib.hid (bel_trans G7.out g8)
    have N6 : Hid (w3.heap.size ≤ w8.heap.size) := G8.out.size
    obtain ⟨q2, hq2⟩ : ∃ q2 : DV, q2 = ⟨s.nw, .slice p2 m2 k2, .slice pm2 8192 mk2, s.c, (s.c + 1) % s.nw⟩ := ⟨_, rfl⟩
    rw [← hq2]
    have HQ2 := Lib.hid hq2
    have OK2 : Hid q2.Ok := by rw [hq2]; exact hD.ok
    have hmk : ∀ W, (Instr.makeSlice 25 (.int .i64 7) (.int .i64 7)).run Tryz.prog W = .ok (.slice (some ⟨W.heap.size, 0, none⟩) 7 7) (W.alloc (.cells #[.int .u32 0, .int .u32 0, .int .u32 0, .int .u32 0, .int .u32 0, .int .u32 0, .int .u32 0] 22)) := fun W => by
      rw [← made7]
      exact run_make_row' (P := Tryz.prog) 25 22 (.int .u32 0) 4 Tryz.underlying25 M5.u32_parts' rfl .i64 .i64 7 (by omega) (by omega) W
    clear hD g8 hq2 CN y0 y1 y2 y3 y4 x0 x15 x16 x17 x19 R7 D7 A7
    go_upto_region 14 with (first
      | (refine d_alloc rfl (some 6) rfl (by kernel_rfl) ?_; intro V8 r8 b8 s8)
      | (refine d_whole rfl (.tmp 6) (.tmp 46) rfl w8.heap.size dzero q2 rfl rfl r8.out OK2.out ?_; intro V9 r9 g9))
    have k9 := only_bel b8 g9.out (Nat.le_refl _)
    have G9 := Lib.hid (bel_trans G8.out k9)
    have D9 := Lib.hid (D8.out.bel k9)
    have R9 : Hid (RowD V9 w8.heap.size ⟨s.nw, .slice p2 m2 k2, .slice pm2 8192 mk2, s.c, (s.c + 1) % s.nw⟩) := by unfold Hid; rw [← HQ2.out]; exact r9.out
    clear r8 b8 s8 g9 k9 r9 G8 D8 OK2 HQ2
    generalize w8.heap.size = z6 at R9 N6 ⊢
    go_upto_region 15 with (fail)
    change Code.wp _ _ _ _ (V9.alloc (.cells #[.int .u32 0, .int .u32 0, .int .u32 0, .int .u32 0, .int .u32 0, .int .u32 0, .int .u32 0] 22))
    have kA : Below V9.heap.size V9 (V9.alloc (.cells #[.int .u32 0, .int .u32 0, .int .u32 0, .int .u32 0, .int .u32 0, .int .u32 0, .int .u32 0] 22)) := bel_alK (Below.refl _ _)
    have T10 : Hid (ZT (V9.alloc (.cells #[.int .u32 0, .int .u32 0, .int .u32 0, .int .u32 0, .int .u32 0, .int .u32 0, .int .u32 0] 22)) w3.heap.size z6 V9.heap.size ⟨s.nw, .slice p2 m2 k2, .slice pm2 8192 mk2, s.c, (s.c + 1) % s.nw⟩ l2 (nxF s.fH T)) :=
      ⟨R9.out.bel kA, own_belw D9.out.L kA, own_belw D9.out.M kA, N6.out, G9.out.size, heap_alloc_last _ _⟩
    have A10 : Hid (AllM V (V9.alloc (.cells #[.int .u32 0, .int .u32 0, .int .u32 0, .int .u32 0, .int .u32 0, .int .u32 0, .int .u32 0] 22)) [⟨b, G, mZ s⟩]) := A3.out.more (bel_trans G9.out kA)
    clear kA G9 D9 R9 hmk N6 A3
    generalize (V9.alloc (.cells #[.int .u32 0, .int .u32 0, .int .u32 0, .int .u32 0, .int .u32 0, .int .u32 0, .int .u32 0] 22)) = V10 at T10 A10 ⊢
    generalize V9.heap.size = z9 at T10 ⊢
    obtain ⟨fb, mb, gb, xb, cs, os, P⟩ := A10.out.at' 0 _ rfl
    have P10 := Lib.hid P
    clear P
    have CF : Hid (∀ W, Below V10.heap.size V10 W → Calls Tryz.prog 25 #[.pointer (some ⟨b, 0, none⟩)] W fun e w' => e = .returned (.pointer (some ⟨fb, 0, none⟩)) ∧ W = w') := fun W k => File_get (P10.out.bel k)
    have CG : Hid (∀ (W : World) (j : Nat), j < 7 → Below V10.heap.size V10 W → Calls Tryz.prog 26 #[.pointer (some ⟨fb, 0, none⟩), .int .i64 0, .int .i64 0, .int .i64 ((j : Int) + 1)] W fun e w' => e = .returned (.tuple #[.int .u32 0, .int .i64 0]) ∧ Below W.heap.size W w') := fun W j hj k => by
      have n2 := HM.out.n2
      have n32 := HM.out.n32
      have := F3.get_at fb s.nw 0 0 ((j : Int) + 1) s.R W (P10.out.bel k).file n2 n32 ⟨by decide, by omega, by decide, by decide, by omega, by omega⟩
      rw [F3.loc_global (by omega), R_hi HM.out (by omega)] at this
      exact this
    have ZE : Hid (∀ (W : World) (j : Nat), j < 7 → Below V10.heap.size V10 W → W.cell? ⟨z9, j, none⟩ = some (.int .u32 0) ∧ W.frozen? ⟨z9, j, none⟩ = false ∧ W.setCell ⟨z9, j, none⟩ (.int .u32 0) = W) := fun W j hj k => zeros_at (bel_heap k T10.out.Y) hj
    go_wp2_with fail
    go_loopw [10] (fun i wr => ∃ j : Nat, j ≤ 7 ∧ i = .int .i64 ((j : Int) + 1) ∧ Below V10.heap.size V10 wr) (fun i _ => (8 - intOf i).toNat)
    case atStart => exact ⟨0, by decide, rfl, Below.refl _ _⟩
    case round =>
      obtain ⟨j, hj, rfl, gr⟩ := hrel
      have GR := Lib.hid gr
      clear gr
      by_cases hlt : j < 7
      · as_aux_lemma =>
          have hlt' : (j : Int) + 1 < 8 := by omega
          have i1 : IntKind.i64.wrap ((j : Int) + 1 - 1) = (j : Int) := by rw [IntWalk.i64_in _ (by omega)]; omega
          have i2 : IntKind.i64.wrap (j : Int) = (j : Int) := IntWalk.i64_in _ (by omega)
          have i3 : IntKind.i64.wrap ((j : Int) + 1 + 1) = (j : Int) + 1 + 1 := IntWalk.i64_in _ (by omega)
          go_wp2_with fail
          refine (CF.out _ GR.out).mono ?_; rintro e wf ⟨rfl, rfl⟩
          go_wp2_with fail
          refine (CG.out _ j hlt GR.out).mono ?_; rintro e wg ⟨rfl, gg⟩
          have GG := Lib.hid (bel_trans GR.out gg)
          obtain ⟨c1, c2, c3⟩ := ZE.out wg j hlt GG.out
          clear gg
          go_wp2_with fail
          exact ⟨⟨j + 1, by omega, by push_cast; rfl, GG.out⟩, by simp only [intOf]; omega⟩
      · obtain rfl : j = 7 := by omega
        have A11 := Lib.hid (A10.out.more GR.out)
        have T11 := Lib.hid (T10.out.bel GR.out)
        clear CF CG ZE P10 A10 T10 GR hlt hj
        obtain ⟨x0, x15, x16, x17, x19⟩ := RX.out wr A11.out.bel
        have n2 := HM.out.n2
        have n32 := HM.out.n32
        have m1 : IntKind.i64.wrap (40 * s.nw) = 40 * s.nw := IntWalk.i64_in _ (by omega)
        have m2 : IntKind.i64.wrap (40 * s.nw + 140) = 40 * s.nw + 140 := IntWalk.i64_in _ (by omega)
        go_wp2_with fail
        refine (runsZ_at A11.out (p := 0) rfl HRN.out (M := (40 * s.nw + 140).toNat) (by have := HK.out; omega) (by omega) (by show (0 : Nat) ≤ 1000; decide) _ (by omega)).mono ?_; rintro e w12 ⟨rfl, G12, hA12, K12⟩
        have A12 : Hid (AllM V w12 [⟨b, G12, e1⟩]) := hA12
        have T12 := Lib.hid (T11.out.keep K12 HG.out)
        clear hA12 K12 A11 T11 x0 x15 x16 x17 x19 m1 m2 HRN HK
        obtain ⟨fb, mb, gb, xb, cs, os, P⟩ := A12.out.at' 0 _ rfl
        have P12 := Lib.hid P
        clear P
        have CF : Hid (∀ W, Below w12.heap.size w12 W → Calls Tryz.prog 25 #[.pointer (some ⟨b, 0, none⟩)] W fun e w' => e = .returned (.pointer (some ⟨fb, 0, none⟩)) ∧ W = w') := fun W k => File_get (P12.out.bel k)
        have CG : Hid (∀ (W : World) (j : Nat), j < 7 → Below w12.heap.size w12 W → Calls Tryz.prog 26 #[.pointer (some ⟨fb, 0, none⟩), .int .i64 0, .int .i64 0, .int .i64 ((j : Int) + 1)] W fun e w' => e = .returned (.tuple #[.int .u32 0, .int .i64 0]) ∧ Below W.heap.size W w') := fun W j hj k => by
          have en : e1.nw = s.nw := HZ.out.nw
          have := F3.get_at fb e1.nw 0 0 ((j : Int) + 1) e1.R W (P12.out.bel k).file (by omega) (by omega) ⟨by decide, by omega, by decide, by decide, by omega, by omega⟩
          rw [F3.loc_global (by omega), RG.out _ (by omega) (by omega)] at this
          exact this
        have ZE : Hid (∀ (W : World) (j : Nat), j < 7 → Below w12.heap.size w12 W → W.cell? ⟨z9, j, none⟩ = some (.int .u32 0)) := fun W j hj k => (zeros_at (bel_heap k T12.out.Y) hj).1
        go_wp2_with fail
        go_loopw [11] (fun i wr => ∃ j : Nat, j ≤ 7 ∧ i = .int .i64 ((j : Int) + 1) ∧ Below w12.heap.size w12 wr) (fun i _ => (8 - intOf i).toNat)
        case atStart => exact ⟨0, by decide, rfl, Below.refl _ _⟩
        case round =>
          obtain ⟨j, hj, rfl, gr⟩ := hrel
          have GR := Lib.hid gr
          clear gr
          by_cases hlt : j < 7
          · as_aux_lemma =>
              have hlt' : (j : Int) + 1 < 8 := by omega
              have i1 : IntKind.i64.wrap ((j : Int) + 1 - 1) = (j : Int) := by rw [IntWalk.i64_in _ (by omega)]; omega
              have i2 : IntKind.i64.wrap (j : Int) = (j : Int) := IntWalk.i64_in _ (by omega)
              have i3 : IntKind.i64.wrap ((j : Int) + 1 + 1) = (j : Int) + 1 + 1 := IntWalk.i64_in _ (by omega)
              go_wp2_with fail
              refine (CF.out _ GR.out).mono ?_; rintro e wf ⟨rfl, rfl⟩
              go_wp2_with fail
              refine (CG.out _ j hlt GR.out).mono ?_; rintro e wg ⟨rfl, gg⟩
              have GG := Lib.hid (bel_trans GR.out gg)
              have c1 := ZE.out wg j hlt GG.out
              clear gg
              go_wp2_with fail
              exact ⟨⟨j + 1, by omega, by push_cast; rfl, GG.out⟩, by simp only [intOf]; omega⟩
          · obtain rfl : j = 7 := by omega
            have A13 := Lib.hid (A12.out.more GR.out)
            have T13 := Lib.hid (T12.out.bel GR.out)
            have P13 := Lib.hid (P12.out.bel GR.out)
            clear CF CG ZE P12 A12 T12 GR hlt hj RG HG
            go_wp2_with fail
            refine (psr_bel (c := s.c) (p := s.pl) (k := 0) (f := s.fl) P13.out HZ.out.cwp HZ.out.pil HZ.out.bank HZ.out.fl).mono ?_; rintro e w14 ⟨rfl, g14⟩
            have k14 : Below w14.heap.size w14 (w14.alloc (.cells #[.int .u8 s.c, .int .u8 s.pl, .int .u8 0, .int .u8 s.fl] 24)) := bel_alK (Below.refl _ _)
            go_upto_region 28 with (fail)
            change Code.wp _ _ _ _ (w14.alloc (.cells #[.int .u8 s.c, .int .u8 s.pl, .int .u8 0, .int .u8 s.fl] 24))
            have r7 : Hid ((w14.alloc (.cells #[.int .u8 s.c, .int .u8 s.pl, .int .u8 0, .int .u8 s.fl] 24)).heap[w14.heap.size]? = some (.cells #[.int .u8 s.c, .int .u8 s.pl, .int .u8 0, .int .u8 s.fl] 24 (0, 0))) := heap_alloc_last _ _
            have A15 := Lib.hid (A13.out.more (bel_trans g14 k14))
            have T15 := Lib.hid (T13.out.bel (bel_trans g14 k14))
            have P15 := Lib.hid (P13.out.bel (bel_trans g14 k14))
            clear A13 T13 P13 g14 k14
            generalize w14.alloc (.cells #[.int .u8 s.c, .int .u8 s.pl, .int .u8 0, .int .u8 s.fl] 24) = V15 at r7 A15 T15 P15 ⊢
            generalize w14.heap.size = z7 at r7 ⊢
            have HD : Hid (∀ W, Below V15.heap.size V15 W → W.cell? ⟨w.heap.size, 0, none⟩ = some (.int .i64 s.nw) ∧ W.cell? ⟨w.heap.size, 16, none⟩ = some (.int .u8 s.fl) ∧ W.cell? ⟨w.heap.size, 17, none⟩ = some (.int .u8 s.pl) ∧ W.cell? ⟨z6, 0, none⟩ = some (.int .i64 s.nw) ∧ W.cell? ⟨z6, 1, none⟩ = some (.slice p2 m2 k2) ∧ W.cell? ⟨z6, 2, none⟩ = some (.slice pm2 8192 mk2) ∧ W.cell? ⟨z6, 3, none⟩ = some (.int .i64 s.c) ∧ W.cell? ⟨z6, 4, none⟩ = some (.int .i64 ((s.c + 1) % s.nw)) ∧ W.cell? ⟨z7, 1, none⟩ = some (.int .u8 s.pl) ∧ W.cell? ⟨z7, 3, none⟩ = some (.int .u8 s.fl)) := fun W k => by
              obtain ⟨x0, _, x16, x17, _⟩ := RX.out W (bel_trans A15.out.bel k)
              obtain ⟨y0, y1, y2, y3, y4⟩ := (T15.out.bel k).X.all
              have h7 := bel_heap k r7.out
              exact ⟨x0, x16, x17, y0, y1, y2, y3, y4, row_cell h7 rfl, row_cell h7 rfl⟩
            have CWD : Hid (∀ W : World, Below V15.heap.size V15 W → Calls Tryz.prog 21 #[.pointer (some ⟨b, 0, none⟩), .int .i64 s.nw] W fun e w' => ∃ (p' : Option Addr) (m' k' : Nat) (pm : Option Addr) (mk : Nat) (l : List Ent), e = .returned (.agg (drow ⟨s.nw, .slice p' m' k', .slice pm 8192 mk, s.c, (s.c + 1) % s.nw⟩)) ∧ LAtB W.heap.size w' (.slice p' m' k') l ∧ l.length ≤ 640 ∧ F3.Step (wG e1.R s.nw.toNat 0 0) l ∧ MB W.heap.size w' (.slice pm 8192 mk) 8192 e1.f ∧ Below W.heap.size W w') := fun W k =>
              world_z (P15.out.bel k) HZ.out.nw HZ.out.sz (Int.emod_nonneg _ (by have := HM.out.n2; omega)) (Int.emod_lt_of_pos _ (by have := HM.out.n2; omega)) HZ.out.wim HZ.out.cwp
            have CSM : Hid (∀ (W : World) (p' : Option Addr) (m' k' : Nat) (pm : Option Addr) (mk B : Nat) (la : List Ent), Below V15.heap.size V15 W → LAtB B W (.slice p' m' k') la → la.length ≤ 640 → F3.Step (wG e1.R s.nw.toNat 0 0) la → MB B W (.slice pm 8192 mk) 8192 e1.f → Calls Tryz.prog 29 #[.agg (drow ⟨s.nw, .slice p' m' k', .slice pm 8192 mk, s.c, (s.c + 1) % s.nw⟩), .agg (drow ⟨s.nw, .slice p2 m2 k2, .slice pm2 8192 mk2, s.c, (s.c + 1) % s.nw⟩)] W fun e w' => e = .returned (.bool true) ∧ Below W.heap.size W w') := fun W p' m' k' pm mk B la k hL hl hS' hM => by
              have TT := T15.out.bel k
              obtain ⟨f1, f2⟩ := z_regs HM.out HB.out HSP.out HZ.out HS.out hS'
              rw [← HL2.out] at f1 f2
              exact Same_at s.nw s.c _ p' p2 pm pm2 m' m2 k' k2 mk mk2 8192 la l2 _ _ W HM.out.n2 HM.out.n32 (by decide) (by omega) (by have := LEN2.out; omega) (F3.LAtB.at hL) (F3.LAtB.at TT.L) (MB.sl hM) (MB.sl TT.M) (fun i _ => by rw [HZ.out.f]) f1 f2
            have COU : Hid (∀ W : World, Below V15.heap.size V15 W → Calls Tryz.prog 30 #[.pointer (some ⟨b, 0, none⟩)] W fun e w' => ∃ p' k', e = .returned (.slice p' 0 k') ∧ Below W.heap.size W w') := fun W k => by
              have hol : e1.ol = 0 := HZ.out.ol
              refine (all_out (A15.out.more k) (j := 0) rfl (by show e1.ol ≤ 1000000; rw [hol]; decide)).mono ?_
              rintro e w' ⟨so, rfl, ⟨p', k', e2, _⟩, _, g⟩
              rw [show (ME.m ⟨b, G12, e1⟩).ol = 0 from hol] at e2
              subst e2
              exact ⟨p', k', rfl, g⟩
            have CHD : Hid (∀ W : World, Below V15.heap.size V15 W → Calls Tryz.prog 19 #[] W fun e w' => e = .returned (.bool true) ∧ Below W.heap.size W w') := fun W k => HEAD.out W (bel_trans gX.out (bel_trans A15.out.bel k))
            have hff : (s.fl == s.fl) = true := by simp
            have hpp : (s.pl == s.pl) = true := by simp
            clear T15 P15 HZ HS HL2 LEN LEN2 HSP HR r7
            have GD : Below V15.heap.size V15 V15.drew := Below.drew (Below.refl _ _)
            have DD := HD.out _ GD
            go_region_held3 (fun W => W.cell? ⟨w.heap.size, 0, none⟩ = some (.int .i64 s.nw) ∧ W.cell? ⟨w.heap.size, 16, none⟩ = some (.int .u8 s.fl) ∧ W.cell? ⟨w.heap.size, 17, none⟩ = some (.int .u8 s.pl) ∧ W.cell? ⟨z6, 0, none⟩ = some (.int .i64 s.nw) ∧ W.cell? ⟨z6, 1, none⟩ = some (.slice p2 m2 k2) ∧ W.cell? ⟨z6, 2, none⟩ = some (.slice pm2 8192 mk2) ∧ W.cell? ⟨z6, 3, none⟩ = some (.int .i64 s.c) ∧ W.cell? ⟨z6, 4, none⟩ = some (.int .i64 ((s.c + 1) % s.nw)) ∧ W.cell? ⟨z7, 1, none⟩ = some (.int .u8 s.pl) ∧ W.cell? ⟨z7, 3, none⟩ = some (.int .u8 s.fl))
              (first
                | with_reducible exact DD
                | with_reducible exact DA
                | with_reducible exact DB
                | with_reducible exact DC
                | with_reducible exact DE)
              (first
                | (go_at_call 21; refine (CWD.out _ ?_).mono ?_; exact GD; rintro e WA ⟨pa, ma, ka, pma, mka, la, rfl, hLa, hla, hSa, hMa, gz⟩; have GA := bel_trans GD gz; have DA := HD.out _ GA; clear gz)
                | (go_at_call 29; refine (CSM.out _ _ _ _ _ _ _ la ?_ hLa hla hSa hMa).mono ?_; exact GA; rintro e WB ⟨rfl, gz⟩; have GB := bel_trans GA gz; have DB := HD.out _ GB; clear gz)
                | (go_at_call 30; refine (COU.out _ ?_).mono ?_; exact GB; rintro e WC ⟨po, ko, rfl, gz⟩; have GC := bel_trans GB gz; have DC := HD.out _ GC; clear gz)
                | (go_at_call 19; refine (CHD.out _ ?_).mono ?_; exact GC; rintro e WE ⟨rfl, gz⟩; have GE := bel_trans GC gz; have DE := HD.out _ GE; clear gz))
            have GZ := Lib.hid (bel_trans gX.out (bel_trans A15.out.bel GE))
            clear GD HD DD CWD CSM COU CHD GA DA GB DB GC DC GE DE
            go_wp2_with fail
            go_ret
            exact ⟨rfl, GZ.out⟩
end Go.Proofs.YtiobgnelhiadbaaGreatDoor.S10
