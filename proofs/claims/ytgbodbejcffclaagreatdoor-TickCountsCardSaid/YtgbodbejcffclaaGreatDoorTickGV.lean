/- TickCounts (layer 9), walked. -/
import Derived.Test.YtgbodbejcffclaaGreatDoorTickGW
import Derived.Test.YtgbodbejcffclaaGreatDoorTickGT
namespace Go.Proofs.YtgbodbejcffclaaGreatDoor.K6
open Go.RowKit T9
set_option linter.unusedVariables false
theorem tstop_kind (k v : Int) (W : World) : Sem.run Tryz.prog (Instr.field 37 (.agg #[.int .u8 k, .int .u32 v]) 0) W = .ok (.int .u8 k) W := by kernel_rfl
theorem tpsr_bank (c p k f : Int) (W : World) : Sem.run Tryz.prog (Instr.field 24 (.agg #[.int .u8 c, .int .u8 p, .int .u8 k, .int .u8 f]) 2) W = .ok (.int .u8 k) W := by kernel_rfl
theorem teq_psr (x0 x1 x2 x3 : Int) (W : World) : (Op.equalIn 10000 24 (.agg #[.int .u8 x0, .int .u8 x1, .int .u8 x2, .int .u8 x3]) (.agg #[.int .u8 x0, .int .u8 x1, .int .u8 x2, .int .u8 x3])).run Tryz.prog W = .ok true W := by simp [go_sem]
theorem twindow {w : World} {b fb mb g x : Nat} {cs os : Value} {G : Nat → Prop} {m : MS} (h : MachP w b fb mb g x cs os G m) (k : Nat) (hk : (k : Int) < m.nw) :
    Calls Tryz.prog 28 #[.pointer (some ⟨fb, 0, none⟩), .int .i64 k] w fun e w' => ∃ sb, e = .returned (.tuple #[.slice (some ⟨sb, 0, none⟩) 16 16, .int .i64 0]) ∧ Sl .u32 w' (.slice (some ⟨sb, 0, none⟩) 16 16) 16 (fun i => m.R (k * 16 + i)) ∧ Below w.heap.size w w' := by
  refine (F3.window_at fb m.nw k m.R w h.file h.ok.n2 h.ok.n32 (by omega) hk).mono ?_
  rintro e w' ⟨rfl, gr, hrow⟩
  exact ⟨_, rfl, ⟨_, _, rfl, fun _ => ⟨_, 0, rfl, fun i hi => row_cell hrow (by simp [F3.wl, hi])⟩⟩, gr⟩
theorem twords {w : World} {b fb mb g x : Nat} {cs os : Value} {G : Nat → Prop} {m : MS} (h : MachP w b fb mb g x cs os G m) (hs : m.sz = 2048) :
    Calls Tryz.prog 22 #[.pointer (some ⟨mb, 0, none⟩), .int .u32 0, .int .i64 512] w fun e w' => ∃ s, e = .returned (.tuple #[s, .int .i64 0]) ∧ Sl .u32 w' s 512 (M5.wdB m.f 0) ∧ Below w.heap.size w w' :=
  M5.words_yes 0 512 h.mem (by rw [hs]; decide)
theorem tload {w : World} {b fb mb g x : Nat} {cs os : Value} {G : Nat → Prop} {m : MS} (h : MachP w b fb mb g x cs os G m) (hs : m.sz = 2048) (k : Nat) (hk : k < 16) {v : Int} (hv : ldB m.f (4 * k) 4 = v) :
    Calls Tryz.prog 47 #[.pointer (some ⟨mb, 0, none⟩), .int .u32 (4 * (k : Int)), .int .i64 4] w fun e w' => e = .returned (.tuple #[.int .u32 v, .int .i64 0]) ∧ Below w.heap.size w w' := by
  have ht : thE m.sz (4 * (k : Int)) 4 = 0 := by rw [hs]; exact th_4 (by omega) (by omega) (by omega)
  refine (loads_at 4 h (4 * (k : Int)) ⟨by omega, by omega⟩).mono fun e w' ⟨h1, h2⟩ => ⟨?_, h2⟩
  rw [h1, ht]
  unfold M5.ldV
  rw [if_pos ht, show (4 * (k : Int)).toNat = 4 * k by omega, ← hv]
  rfl
theorem fZ_all {p : Int} {S : AB} {m : MS} (h : TI p fAll S m) : fZ m.f 16 = fAll := funext fun j => ti_back h j
theorem all_pc0 {a w : World} {L : List ME} {j : Nat} {b : Nat} {G : Nat → Prop} {m : MS} (h : AllM a w L) (hj : L[j]? = some ⟨b, G, m⟩) {v : Int} (hv : m.pc = v) :
    Calls Tryz.prog 18 #[.pointer (some ⟨b, 0, none⟩)] w fun e w' => e = .returned (.int .u32 v) ∧ w' = w := by
  obtain ⟨fb, mb, g, x, cs, os, P⟩ := h.at' j _ hj
  rw [← hv]
  exact (PC_get P).mono fun e w' ⟨e1, e2⟩ => ⟨e1, e2.symm⟩
set_option maxRecDepth 100000 in
set_option maxHeartbeats 8000000 in
theorem counts_walk {w : World} (v : Value) (p : Int) (N : Nat) (L : Nat → Nat) (hp : 0 ≤ p ∧ p < 256) (hv : Sl .u8 w v N (fun i => (L i : Int))) (hL : ∀ i, L i < 256) (hT : Tabs w) :
    Calls Tryz.prog 9 #[v, .int .u8 p] w fun e w' => e = .returned (.bool true) ∧ Below w.heap.size w w' := by
  obtain ⟨pv, cv, rfl, hc⟩ := id hv
  have HV := Lib.hid hv
  have HC := Lib.hid hc
  have HL := Lib.hid hL
  have HT := Lib.hid hT
  have hk1 := tstop_kind
  have hk2 := tpsr_bank
  have heq := teq_psr
  have h0 := hp.1
  have HEAD : Hid (∀ W : World, Below w.heap.size w W → Calls Tryz.prog 44 #[] W fun e w' => e = .returned (.bool true) ∧ Below w.heap.size w w') := fun W k => (A7.thead_at W (HT.out.bel k).i).mono fun e w' ⟨h1, h2⟩ => ⟨h1, bel_trans k h2⟩
  clear hv hc hL hT
  go_enter Tryz.func9, Tryz.ntmps9
  by_cases hN : N ≤ 100
  · have hN' : (N : Int) ≤ 100 := by omega
    by_cases h1 : p ≤ 15
    · go_wp2_with fail
      refine (tmade_at p h0 h1 HT.out).mono ?_; rintro e w1 ⟨b, G, rfl, B1, g1, low1⟩
      have A1 : Hid (AllM w w1 [⟨b, G, mT p⟩]) := (AllM.none HT.out).add g1 B1 low1
      clear B1 g1 low1
      go_wp2_with fail
      refine (tmade_at p h0 h1 A1.out.tab).mono ?_; rintro e w2 ⟨c, G2, rfl, B2, g2, low2⟩
      have A2 : Hid (AllM w w2 [⟨b, G, mT p⟩, ⟨c, G2, mT p⟩]) := A1.out.add g2 B2 low2
      clear B2 g2 low2 A1
      go_wp2_with fail
      go_loopw [7] (fun i wr => ∃ (j : Nat) (G : Nat → Prop) (m : MS), j ≤ N ∧ i = .int .i64 j ∧ AllM w wr [⟨b, G, m⟩, ⟨c, G2, mT p⟩] ∧ TI p fAll (asteps p L j) m) (fun i _ => N - (intOf i).toNat)
      case atStart => exact ⟨0, G, mT p, Nat.zero_le _, rfl, A2.out, ti_start⟩
      case round =>
        obtain ⟨j, G, m, hj, rfl, A, I⟩ := hrel
        have A := Lib.hid A
        have I := Lib.hid I
        clear A2
        by_cases hlt : j < N
        · obtain ⟨lb, lo, rfl, hc⟩ := HC.out (by omega)
          have cL := bel_cell A.out.bel (hc j hlt)
          have hlv := HL.out j
          obtain ⟨bi, bc⟩ := asteps_bd (p := p) L j
          have I2 : Hid (TI p fAll (asteps p L (j + 1)) (mstep m (L j))) := ti_step tmem_all I.out h0 h1 (by omega) (fun k => by have := bc k; omega)
          generalize hlj : L j = lv at *
          clear hlj hc bi bc
          go_wp2_with fail
          refine (all_step (lv : Int) A.out (j := 0) rfl (by omega) (by omega) (by rw [I.out.ol]; decide) (fun _ _ _ => trivial) I2.out.sk I2.out.sv).mono ?_; rintro e w3 ⟨rfl, G3, A3, _⟩
          have A3 : Hid (AllM w w3 [⟨b, G3, mstep m lv⟩, ⟨c, G2, mT p⟩]) := A3
          clear A
          go_wp2_with fail
          go_roundw
          case rel => exact ⟨j + 1, G3, _, by omega, by go_num, A3.out, I2.out⟩
          case measure => simp [intOf]; omega
        · obtain rfl : j = N := by omega
          obtain ⟨bi, bc⟩ := asteps_bd (p := p) L j
          have BI := Lib.hid bi
          have BC := Lib.hid bc
          clear bi bc
          go_wp2_with fail
          go_loopw [8] (fun i wr => ∃ (t : Nat) (G : Nat → Prop) (m : MS) (S : AB), i = .int .i64 t ∧ AllM w wr [⟨b, G, m⟩, ⟨c, G2, mT p⟩] ∧ TI p fAll S m ∧ S.c = (asteps p L j).c ∧ S.i = (asteps p L j).i ∧ t + sumF S.op ≤ 75) (fun i _ => 90 - (intOf i).toNat)
          case atStart => exact ⟨0, G, m, asteps p L j, rfl, A.out, I.out, rfl, rfl, by have := sum_75 h0 h1 I.out.opn; omega⟩
          case round =>
            obtain ⟨t, G, m, S, rfl, A, I, ec, ei, ht⟩ := hrel
            have A := Lib.hid A
            have I := Lib.hid I
            have EC := Lib.hid ec
            have EI := Lib.hid ei
            clear ec ei
            have ht90 : (t : Int) < 90 := by omega
            go_wp2_with fail
            refine (all_psr A.out (j := 0) rfl I.out.cwp I.out.pil I.out.bank I.out.fl).mono ?_; rintro e w4 ⟨rfl, A4, _⟩
            have A4 := Lib.hid A4
            clear A
            by_cases hop : S.op = []
            · have hb0 : bkOf S.op = 0 := by rw [hop]; rfl
              have hpc : m.pc = 1536 + 4 * (S.i : Int) := by rw [I.out.pc, hop]; rfl
              have hbk : m.bank = 0 := I.out.bank.trans hb0
              have hpl : m.pil = p := by rw [I.out.pil, hop]; rfl
              have hIi : S.i ≤ 100 := by rw [EI.out]; have := BI.out; omega
              have hge : (1536 : Int) ≤ 1536 + 4 * (S.i : Int) := by omega
              have PP := Lib.hid (And.intro hpc (And.intro hbk hpl))
              have HOP := Lib.hid hop
              rw [hb0]
              clear hb0 hpc hbk hpl hop
              go_wp2_with fail
              refine (all_psr A4.out (j := 0) rfl I.out.cwp PP.out.2.2 PP.out.2.1 I.out.fl).mono ?_; rintro e w5 ⟨rfl, A5, _⟩
              have A5 := Lib.hid A5
              clear A4
              go_wp2_with fail
              refine (all_pc A5.out (j := 0) rfl PP.out.1).mono ?_; rintro e w6 ⟨rfl, A6⟩
              have A6 := Lib.hid A6
              clear A5
              go_wp2_with fail
              go_loopw [9] (fun i wr => ∃ (t : Nat) (G2 : Nat → Prop) (o : MS), t ≤ S.i ∧ i = .int .i64 t ∧ AllM w wr [⟨b, G, m⟩, ⟨c, G2, o⟩] ∧ TI p fAll ⟨[], fun _ => 0, t⟩ o ∧ o.f = fAll) (fun i _ => 130 - (intOf i).toNat)
              case atStart => exact ⟨0, G2, mT p, Nat.zero_le _, rfl, A6.out, ti_start, rfl⟩
              case round =>
                obtain ⟨t2, G2, o, ht2, rfl, A, J, hof⟩ := hrel
                have A := Lib.hid A
                have J := Lib.hid J
                have OF := Lib.hid hof
                clear hof A6
                have h130 : (t2 : Int) < 130 := by omega
                have opc : o.pc = 1536 + 4 * (t2 : Int) := J.out.pc
                go_wp2_with fail
                refine (all_pc A.out (j := 1) rfl opc).mono ?_; rintro e w7 ⟨rfl, A7⟩
                have A7 := Lib.hid A7
                clear A
                go_wp2_with fail
                refine (all_pc A7.out (j := 0) rfl PP.out.1).mono ?_; rintro e w8 ⟨rfl, A8⟩
                have A8 := Lib.hid A8
                clear A7
                by_cases hlt2 : t2 < S.i
                · have hne : ¬ (1536 + 4 * (t2 : Int) = 1536 + 4 * (S.i : Int)) := by omega
                  obtain ⟨E, J2⟩ := ti_go tmem_all J.out h1 rfl (by show t2 < 128; omega) (l := 0) (by rw [J.out.pil]; show ¬ ((0 : Int) ≤ 15 ∧ p < 0); omega)
                  have hf2 : (mstep o 0).f = fAll := by rw [E]; exact OF.out
                  have J2 := Lib.hid J2
                  have OF2 := Lib.hid hf2
                  clear E hf2
                  go_wp2_with fail
                  refine (all_step 0 A8.out (j := 1) rfl (by decide) (by decide) (by rw [J.out.ol]; decide) (fun _ _ _ => trivial) J2.out.sk J2.out.sv).mono ?_; rintro e w9 ⟨rfl, G9, A9, _⟩
                  have A9 : Hid (AllM w w9 [⟨b, G, m⟩, ⟨c, G9, mstep o 0⟩]) := A9
                  clear A8
                  go_wp2_with fail
                  go_roundw
                  case rel => exact ⟨t2 + 1, G9, _, by omega, by go_num, A9.out, J2.out, OF2.out⟩
                  case measure => simp [intOf]; omega
                · obtain rfl : t2 = S.i := by omega
                  go_wp2_with fail
                  refine (Taken_at _ p j L h0 h1 (by omega) (HV.out.bel A8.out.bel) HL.out).mono ?_; rintro e w9 ⟨go, rfl, hgo, hge9, g9⟩
                  have A9 := Lib.hid (A8.out.more g9)
                  have SP : Hid (Spect w9 [⟨b, G, m⟩, ⟨c, G2, o⟩] go (.cells (oc (asteps p L j).c) 22 (0, 0))) := ⟨hgo, fun l e he hx => by have := (A8.out.at' l e he).lt _ hx; omega⟩
                  clear A8 hgo g9 hge9
                  go_wp2_with fail
                  go_loopw [11] (fun i wr => ∃ (k : Nat) (G : Nat → Prop), k ≤ 16 ∧ i = .int .i64 k ∧ AllM w wr [⟨b, G, { m with f := fZ m.f k }⟩, ⟨c, G2, o⟩] ∧ Spect wr [⟨b, G, { m with f := fZ m.f k }⟩, ⟨c, G2, o⟩] go (.cells (oc (asteps p L j).c) 22 (0, 0))) (fun i _ => 16 - (intOf i).toNat)
                  case atStart => exact ⟨0, G, Nat.zero_le _, rfl, A9.out, SP.out⟩
                  case round =>
                    obtain ⟨k, G, hk, rfl, A, SPk⟩ := hrel
                    have A := Lib.hid A
                    have SPk := Lib.hid SPk
                    clear A9 SP
                    by_cases hk16 : k < 16
                    · have hk16' : (k : Int) < 16 := by omega
                      have hld : ldB (fZ m.f k) (4 * k) 4 = ((asteps p L j).c k : Int) := by rw [fZ_ld, ti_ticks I.out HOP.out k (by omega), EC.out]
                      have hLD := Lib.hid hld
                      clear hld
                      obtain ⟨fa, ma, ga, xa, ca, oa, PA⟩ := A.out.at' 0 _ rfl
                      go_wp2_with fail
                      refine (Mem_get PA).mono ?_; rintro e W ⟨rfl, rfl⟩
                      go_wp2_with fail
                      refine (tload PA (by show m.sz = 2048; exact I.out.sz) k hk16 hLD.out).mono ?_; rintro e w10 ⟨rfl, g10⟩
                      have A10 := Lib.hid (A.out.more g10)
                      have S10 := Lib.hid (SPk.out.more g10)
                      have cw := row_cell (j := k) S10.out.1 (oc_get _ hk16)
                      clear A SPk PA g10 hLD
                      go_wp2_with fail
                      obtain ⟨fa, ma, ga, xa, ca, oa, PA⟩ := A10.out.at' 0 _ rfl
                      refine (Mem_get PA).mono ?_; rintro e W ⟨rfl, rfl⟩
                      go_wp2_with fail
                      have CS := tstore PA (4 * k) 0 ⟨by decide, by decide⟩ (by show thE m.sz _ 4 = 0; rw [I.out.sz]; exact th_4 (by omega) (by omega) (by omega))
                      rw [show (((4 * k : Nat)) : Int) = 4 * (k : Int) by omega] at CS
                      refine CS.mono ?_; rintro e w11 ⟨rfl, P11, g11⟩
                      obtain ⟨G11, A11, S11⟩ := A10.out.left (j := 0) rfl (Left.only P11 g11 PA.gg)
                      have A11 : Hid (AllM w w11 [⟨b, G11, { m with f := fZ m.f (k + 1) }⟩, ⟨c, G2, o⟩]) := A11
                      have S11 : Hid (Spect w11 [⟨b, G11, { m with f := fZ m.f (k + 1) }⟩, ⟨c, G2, o⟩] go (.cells (oc (asteps p L j).c) 22 (0, 0))) := S11 _ _ S10.out
                      clear P11 g11 CS PA A10 S10 cw
                      go_wp2_with fail
                      go_roundw
                      case rel => exact ⟨k + 1, G11, by omega, by go_num, A11.out, S11.out⟩
                      case measure => simp [intOf]; omega
                    · obtain rfl : k = 16 := by omega
                      have hfz : Hid (fZ m.f 16 = fAll) := fZ_all I.out
                      obtain ⟨fa, ma, ga, xa, ca, oa, PA⟩ := A.out.at' 0 _ rfl
                      go_wp2_with fail
                      refine (Mem_get PA).mono ?_; rintro e W ⟨rfl, rfl⟩
                      go_wp2_with fail
                      refine (twords PA (by show m.sz = 2048; exact I.out.sz)).mono ?_; rintro e w10 ⟨x, rfl, SX, g10⟩
                      have SX : Hid (Sl .u32 w10 x 512 (M5.wdB fAll 0)) := by rw [← hfz.out]; exact SX
                      have A10 := Lib.hid (A.out.more g10)
                      clear A SPk PA g10 hfz
                      go_wp2_with fail
                      obtain ⟨fa, ma, ga, xa, ca, oa, PA⟩ := A10.out.at' 1 _ rfl
                      refine (Mem_get PA).mono ?_; rintro e W ⟨rfl, rfl⟩
                      go_wp2_with fail
                      refine (twords PA J.out.sz).mono ?_; rintro e w11 ⟨y, rfl, SY, g11⟩
                      have SY : Hid (Sl .u32 w11 y 512 (M5.wdB fAll 0)) := by rw [← OF.out]; exact SY
                      have SX := Lib.hid (SX.out.bel g11)
                      have A11 := Lib.hid (A10.out.more g11)
                      clear A10 PA g11
                      go_wp2_with fail
                      go_loopw [18] (fun i wr => ∃ k : Nat, k ≤ 2 ∧ i = .int .i64 k ∧ AllM w wr [⟨b, G, { m with f := fZ m.f 16 }⟩, ⟨c, G2, o⟩] ∧ Below w11.heap.size w11 wr) (fun i _ => 2 - (intOf i).toNat)
                      case atStart => exact ⟨0, Nat.zero_le _, rfl, A11.out, Below.refl _ _⟩
                      case round =>
                        obtain ⟨k, hk, rfl, A, g⟩ := hrel
                        have A := Lib.hid A
                        have GG := Lib.hid g
                        clear A11 g
                        by_cases hk2 : k < 2
                        · have hk2' : (k : Int) < 2 := by omega
                          obtain ⟨fa, ma, ga, xa, ca, oa, PA⟩ := A.out.at' 0 _ rfl
                          go_wp2_with fail
                          refine (File_get PA).mono ?_; rintro e W ⟨rfl, rfl⟩
                          go_wp2_with fail
                          refine (twindow PA k (by show (k : Int) < m.nw; rw [I.out.nw]; omega)).mono ?_; rintro e v1 ⟨sb, rfl, S1, k1⟩
                          have S1 := Lib.hid S1
                          have B1 := Lib.hid (A.out.more k1)
                          have GG := Lib.hid (bel_trans GG.out k1)
                          clear PA k1 A
                          obtain ⟨fa, ma, ga, xa, ca, oa, PA⟩ := B1.out.at' 1 _ rfl
                          go_wp2_with fail
                          refine (File_get PA).mono ?_; rintro e W ⟨rfl, rfl⟩
                          go_wp2_with fail
                          refine (twindow PA k (by rw [J.out.nw]; omega)).mono ?_; rintro e v2 ⟨sc, rfl, S2, k2⟩
                          have S2 := Lib.hid S2
                          have S1 := Lib.hid (S1.out.bel k2)
                          have B2 := Lib.hid (B1.out.more k2)
                          have GG := Lib.hid (bel_trans GG.out k2)
                          clear PA k2 B1
                          have HSame := Lib.hid (M5.words_same _ _ 16 _ _ _ (by decide) S1.out S2.out (fun i hi => by
                            show m.R (k * 16 + i) = o.R (k * 16 + i)
                            by_cases e24 : k * 16 + i = 24
                            · rw [e24, I.out.o0, J.out.o0]
                            · rw [I.out.R _ (by omega) e24, J.out.R _ (by omega) e24]))
                          go_wp2_with fail
                          refine HSame.out.mono ?_; rintro e v3 ⟨rfl, k3⟩
                          have B3 := Lib.hid (B2.out.more k3)
                          have GG := Lib.hid (bel_trans GG.out k3)
                          clear HSame S1 S2 B2 k3
                          go_wp2_with fail
                          go_roundw
                          case rel => exact ⟨k + 1, by omega, by go_num, B3.out, GG.out⟩
                          case measure => simp [intOf]; omega
                        · obtain rfl : k = 2 := by omega
                          have SX := Lib.hid (SX.out.bel GG.out)
                          have SY := Lib.hid (SY.out.bel GG.out)
                          go_wp2_with fail
                          refine (all_pc0 A.out (j := 0) rfl (v := 1536 + 4 * (S.i : Int)) PP.out.1).mono ?_; rintro e v1 ⟨rfl, rfl⟩
                          go_wp2_with fail
                          refine (all_pc0 A.out (j := 1) rfl opc).mono ?_; rintro e v2 ⟨rfl, rfl⟩
                          go_wp2_with fail
                          refine (all_psr A.out (j := 0) rfl (c := 0) (p := p) (k := 0) (f := 0) I.out.cwp PP.out.2.2 PP.out.2.1 I.out.fl).mono ?_; rintro e v3 ⟨rfl, B3, g3⟩
                          have B3 := Lib.hid B3
                          have G3 := Lib.hid g3
                          clear A g3
                          go_wp2_with fail
                          refine (all_psr B3.out (j := 1) rfl (c := 0) (p := p) (k := 0) (f := 0) J.out.cwp J.out.pil J.out.bank J.out.fl).mono ?_; rintro e v4 ⟨rfl, B4, g4⟩
                          have B4 := Lib.hid B4
                          have SX := Lib.hid ((SX.out.bel G3.out).bel g4)
                          have SY := Lib.hid ((SY.out.bel G3.out).bel g4)
                          clear B3 G3 g4
                          have HSame := Lib.hid (M5.words_same _ _ 512 _ _ _ (by decide) SX.out SY.out (fun i hi => rfl))
                          obtain ⟨px, cx, rfl, _⟩ := id SX.out
                          obtain ⟨py, cy, rfl, _⟩ := id SY.out
                          go_wp2_with fail
                          refine HSame.out.mono ?_; rintro e v5 ⟨rfl, g5⟩
                          have G5 := Lib.hid (bel_trans B4.out.bel g5)
                          clear HSame g5 B4
                          go_wp2_with fail
                          refine (HEAD.out _ G5.out).mono ?_; rintro e v6 ⟨rfl, g6⟩
                          go_wp2_with fail
                          go_ret
                          exact ⟨rfl, g6⟩
            · have hbn : ¬ bkOf S.op = 0 := fun e => hop ((bk_zero I.out.opn).1 e)
              have I2 := Lib.hid (ti_step (lv := 0) tmem_all I.out h0 h1 (by rw [EI.out]; have := BI.out; omega) (fun k => by rw [EC.out]; have := BC.out k; omega))
              obtain ⟨d1, d2, d3⟩ := astep_drain h0 I.out.opn hop
              have DD := Lib.hid (And.intro d1 (And.intro d2 d3))
              clear d1 d2 d3
              go_wp2_with fail
              refine (all_step 0 A4.out (j := 0) rfl (by decide) (by decide) (by rw [I.out.ol]; decide) (fun _ _ _ => trivial) I2.out.sk I2.out.sv).mono ?_; rintro e w5 ⟨rfl, G5, A5, _⟩
              have A5 : Hid (AllM w w5 [⟨b, G5, mstep m 0⟩, ⟨c, G2, mT p⟩]) := A5
              clear A4
              go_wp2_with fail
              go_roundw
              case rel => exact ⟨t + 1, G5, _, astep p S 0, by go_num, A5.out, I2.out, DD.out.2.1.trans EC.out, DD.out.2.2.trans EI.out, by have := DD.out.1; omega⟩
              case measure => simp [intOf]; omega
    · have hq : (15 : Int) < p := by omega
      go_wp2_with fail
      refine (HEAD.out _ (Below.refl _ _)).mono ?_; rintro e w1 ⟨rfl, g1⟩
      go_wp2_with fail
      go_ret
      exact ⟨rfl, g1⟩
  · have hq : (100 : Int) < N := by omega
    go_wp2_with fail
    refine (HEAD.out _ (Below.refl _ _)).mono ?_; rintro e w1 ⟨rfl, g1⟩
    go_wp2_with fail
    go_ret
    exact ⟨rfl, g1⟩
end Go.Proofs.YtgbodbejcffclaaGreatDoor.K6
