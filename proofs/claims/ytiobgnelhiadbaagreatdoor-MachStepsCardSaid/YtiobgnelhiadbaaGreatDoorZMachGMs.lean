/- made (layer 6), walked: a machine out of a start, and the document's. -/
import Derived.Test.YtiobgnelhiadbaaGreatDoorZMachGMr
import Derived.StillTailTactics
namespace Go.Proofs.YtiobgnelhiadbaaGreatDoor.K6
open Go.RowKit
set_option linter.unusedVariables false
theorem MR.widen {F F' : Far} {w V V' : World} {z : Nat} {s : ST} {vw vr vc : Value} {b fb mb g x : Nat} {cs os : Value} {m mq : MS} {L : Nat} {b' fb' mb' g' x' : Nat} {cs' os' : Value} {m' : MS} (h : @MR F w V z s vw vr vc b fb mb g x cs os m mq L) (P' : MachP V' b' fb' mb' g' x' cs' os' F'.G m') (k : Turns F.G V V') (lo : ∀ i, F'.G i → F.G i ∨ V.heap.size ≤ i) (hB : F'.B ≤ V'.heap.size) :
    @MR F' w V' z s vw vr vc b' fb' mb' g' x' cs' os' m' mq L := by
  obtain ⟨_, ⟨q, r, A⟩, X, z2, gz, gx, g2, zx, low, gw, tb⟩ := h
  have no : ∀ i, i < V.heap.size → ¬ F.G i → ¬ F'.G i := fun i hl hn e => (lo i e).elim hn fun h => absurd hl (Nat.not_lt.2 h)
  exact @MR.mk F' _ _ _ _ _ _ _ _ _ _ _ _ _ _ _ _ _ P' ⟨q, k.heap gz r, A.to k lo hB⟩ (k.heap gx X) (k.heap g2 z2) (no z r.lt gz) (no _ (M5.heap_lt X) gx) (no _ z2.lt g2) zx (fun i hi => (lo i hi).elim (low i) fun e => Nat.le_trans gw.size e) (Turns.bel gw k low) tb
variable [Far]
section
variable {w V V' : World} {z : Nat} {s : ST} {vw vr vc : Value} {b fb mb g x : Nat} {cs os : Value} {m mq : MS} {L : Nat} {q : RV}
theorem psr_ref {c p k f : Int} (h : P4.State c p k f mq.nw) (A : RefAt V q mq L) : RefAt V { q with cwp := c, pil := p, bank := k, fl := f } (mPsr mq c p k f) L := by
  unfold mPsr
  rw [if_pos h]
  exact { A with cwp := rfl, pil := rfl, bank := rfl, fl := rfl }
theorem MR.psr {c p k f : Int} (h : MR w V z s vw vr vc b fb mb g x cs os m mq L) (hn : ¬ P4.State c p k f mq.nw) : MR w V z s vw vr vc b fb mb g x cs os m (mPsr mq c p k f) L := by
  unfold mPsr
  rw [if_neg hn]
  exact h
theorem wim_ref {u : Int} (h : (wx u mq.nw).isSome = true) (A : RefAt V q mq L) : RefAt V { q with wim := u } (mWim mq u) L := by
  unfold mWim
  rw [if_pos h]
  exact { A with wim := rfl }
theorem MR.wim {u : Int} (h : MR w V z s vw vr vc b fb mb g x cs os m mq L) (hn : ¬ (wx u mq.nw).isSome = true) : MR w V z s vw vr vc b fb mb g x cs os m (mWim mq u) L := by
  unfold mWim
  rw [if_neg hn]
  exact h
theorem choices_ref {p : Option Addr} {n c B : Nat} {f : Nat → Int} {q0 : RV} (A : RefAt V q mq L) (own : V.ownsRow B 22 1 (.slice p n c) n (bsL .u32 f n)) (hB : Far.B ≤ B) (r : RowQ V z q0) (g : V.grownBy V' (some z)) : RefAt V' { q with ch := .slice p n c } { mq with cl := n, ch := f } L :=
  { A.only r g with ch := (own_slt own).only r g (by decide), fch := (far_row own hB).2 }
end
omit [Far] in
theorem ap_own {ops : Array Oper} {rest : List Oper} {o : Oper} {a : Act} {w : World} {Q : Exit → Act → World → Prop} (hg : o.guard = none) (sl x : Operand)
    (hop : o.op = Op.call { callee := Callee.builtin Builtin.append, args := #[sl, x], argTypes := #[25, 25] }) (B : Nat) (hs : a.eval sl = .slice (some ⟨B, 0, none⟩) 0 0) (own : w.ownsRow B 22 1 (.slice (some ⟨B, 0, none⟩) 0 0) 0 []) (hB : B ≤ w.heap.size)
    (vc : Value) (n : Nat) (f : Nat → Int) (hx : a.eval x = vc) (hv : SlP w vc n f) (hn : n ≤ 1000000) (h : ∀ p' c' w', w'.ownsRow B 22 1 (.slice p' n c') n (bsL .u32 f n) → w.grownBy w' (some B) → wpList Tryz.prog ops Q rest (a.put o.dst (.slice p' n c')) w') : wpList Tryz.prog ops Q (o :: rest) a w := by
  obtain ⟨i0, hi, hz0, hz1, hz2⟩ := info_parts words_parts
  rcases hv with ⟨rfl, rfl⟩ | ⟨ad, c, rfl, hc⟩
  · refine wpList_append_own_none hg sl x 25 hop B 22 i0 1 words_under hi (.slice (some ⟨B, 0, none⟩) 0 0) 0 [] hs own hx ?_
    exact h _ _ _ own ⟨rfl, rfl, rfl, Nat.le_refl _, fun _ _ _ => rfl⟩
  · refine wpList_append_own w hg sl x 25 hop B 22 i0 (.int .u32 0) 1 4 words_under hi hz0 hz1 hz2 rfl (by decide) (.slice (some ⟨B, 0, none⟩) 0 0) 0 [] hs own ad n c (bsL .u32 f n) hx ?_ ?_ ?_ ?_ ?_ ?_ ?_
    · rw [bsL_len]; omega
    · intro j u hu
      have hj : j < n := by
        rcases Nat.lt_or_ge j n with h | h
        · exact h
        · rw [List.getElem?_eq_none (by rw [bsL_len]; exact h)] at hu; cases hu
      obtain ⟨zb, o, rfl, hcc⟩ := hc (by omega)
      rw [add_off, ← hu, bsL_get .u32 f hj]
      exact hcc j hj
    · exact bsL_ones _ _
    · unfold maxLen; omega
    · omega
    · exact hB
    · intro v' w' ho hgrow _
      rw [Nat.zero_add, List.nil_append] at ho
      obtain ⟨p', c', rfl⟩ := lenOf_own ho
      exact h _ _ _ ho hgrow
omit [Far]
set_option maxRecDepth 100000 in
set_option maxHeartbeats 8000000 in
theorem made_ref {w : World} (s : ST) {vw vr vc : Value} (hb : STB s) (hs : StAt w s vw vr vc) (hm : s.may) (hT : Tabs w) (hlr : s.lr ≤ 60) (hlc : s.lc ≤ 1000000) (hlw : s.lw ≤ 1000000) :
    Calls Tryz.prog 11 #[.agg (srow s vw vr vc)] w fun e w' => ∃ (F : Far) (b fb mb g x : Nat) (cs os : Value) (q : RV), e = .returned (.tuple #[.pointer (some ⟨b, 0, none⟩), .agg (rrow q)]) ∧ @RefAt F w' q (mMade s) 60 ∧ MachP w' b fb mb g x cs os F.G (mMade s) ∧ Below w.heap.size w w' ∧ ∀ i, F.G i → w.heap.size ≤ i := by
  obtain ⟨sn, hsn⟩ : ∃ sn : Nat, s.sz = sn := ⟨s.sz.toNat, by have := hm.2.2.1; omega⟩
  have HM : Hid (M5.MaySize (sn : Int)) := by have := hm.2.2; rw [hsn] at this; exact this
  have h2 := hm.1
  have h32 := hm.2.1
  obtain ⟨pw, cw, rfl, _⟩ := id hs.sw
  obtain ⟨pr, cr, rfl, hrg⟩ := id hs.sr
  obtain ⟨pc, cc, rfl⟩ : ∃ p c, vc = .slice p s.lc c := by
    rcases hs.sc with ⟨rfl, h0⟩ | ⟨a, c, rfl, _⟩
    · exact ⟨none, 0, by rw [h0]⟩
    · exact ⟨_, _, rfl⟩
  have HRG := Lib.hid hrg
  have HB := Lib.hid hb
  have HS := Lib.hid hs
  have HT := Lib.hid hT
  have hX : Hid ((w.alloc (.cells (srow s (.slice pw s.lw cw) (.slice pr s.lr cr) (.slice pc s.lc cc)) 28)).heap[w.heap.size]? = some (.cells (srow s (.slice pw s.lw cw) (.slice pr s.lr cr) (.slice pc s.lc cc)) 28 (0, 0))) := heap_alloc_last _ _
  have gX : Hid (Below w.heap.size w (w.alloc (.cells (srow s (.slice pw s.lw cw) (.slice pr s.lr cr) (.slice pc s.lc cc)) 28))) := bel_alK (Below.refl _ _)
  have sX : (w.alloc (.cells (srow s (.slice pw s.lw cw) (.slice pr s.lr cr) (.slice pc s.lc cc)) 28)).heap.size = w.heap.size + 1 := by simp
  clear hb hs hm hT hrg
  go_enter Tryz.func11, Tryz.ntmps11
  go_upto_region 1 with (refine q_alloc rfl (some 3) rfl (by kernel_rfl) ?_; intro V r1 b1 s1)
  have R1 : Hid (RowQ V (w.heap.size + 1) rzero) := by rw [← sX]; exact r1.out
  have X1 : Hid (V.heap[w.heap.size]? = some (.cells (srow s (.slice pw s.lw cw) (.slice pr s.lr cr) (.slice pc s.lc cc)) 28 (0, 0))) := bel_heap b1 hX.out
  have G1 : Hid (Below w.heap.size w V) := bel_trans gX.out b1
  have x0 : V.cell? ⟨w.heap.size, 0, none⟩ = some (.int .i64 s.n) := row_cell X1.out rfl
  have x1 : V.cell? ⟨w.heap.size, 1, none⟩ = some (.int .i64 sn) := by
    have := row_cell X1.out (j := 1) (v := .int .i64 s.sz) rfl
    rw [hsn] at this
    exact this
  clear r1 b1 s1 hX gX
  go_wp2_with fail
  refine (New_at s.n sn V h2 h32 HM.out (HT.out.bel G1.out)).mono ?_; rintro e w2 ⟨b, G, rfl, ⟨fb, mb, g, x, cs, os, M2⟩, g2, low2⟩
  replace x0 := bel_cell g2 x0
  replace x1 := bel_cell g2 x1
  have M2 := Lib.hid M2
  have G2 := Lib.hid g2
  have L2 := Lib.hid low2
  clear g2 low2
  obtain ⟨F, rfl, hFB⟩ : ∃ F : Far, F.G = G ∧ F.B = w2.heap.size := ⟨⟨G, w2.heap.size, M2.out.lt⟩, rfl, rfl⟩
  have HFB : Hid (Far.B ≤ w2.heap.size) := Nat.le_of_eq hFB
  clear hFB
  go_wp2_with fail
  refine (refNew6_yes s.n sn w2 h2 h32 HM.out HFB.out).mono ?_; rintro e w3 ⟨q, rfl, RA, hfs, ⟨b3, lb3, hms, hc3⟩, g3⟩
  have RA := Lib.hid RA
  have G3 := Lib.hid g3
  clear g3 hfs x0 x1 hms hc3
  go_upto_region 3 with (first
    | (refine q_alloc rfl (some 6) rfl (by kernel_rfl) ?_; intro V4 r4 b4 s4)
    | (refine q_whole rfl (.tmp 6) (.tmp 24) rfl w3.heap.size rzero q rfl rfl r4.out RA.out.ok ?_; intro V5 z5 g5))
  have k5 := only_bel b4 g5.out (Nat.le_refl _)
  have Q0 := Lib.hid (MR.start (w := w) (s := s) (sz := sn) (M2.out.bel G3.out) RA.out z5.out k5 (bel_heap G3.out (bel_heap G2.out X1.out)) ((R1.out.bel G2.out).bel G3.out) (bel_trans (bel_trans G1.out G2.out) G3.out) (fun i hi => by have h1 := L2.out i hi; have h3 := R1.out.lt; omega) HT.out)
  have sn4 : sn ≤ 4194304 := by have := HM.out.2.1; omega
  have R5 := Lib.hid (RA.out.bel k5)
  clear r4 b4 s4 g5 M2 RA G2 G3 L2 R1 X1 k5 HFB
  generalize w3.heap.size = z at Q0 z5 ⊢
  obtain ⟨_, _, _, _, _, _, _, _, x8, _, _⟩ := Q0.out.cells
  go_wp2_with fail
  refine (Load_any Q0.out.P (HS.out.sw.bel Q0.out.g) HB.out.fw).mono ?_; rintro e w6 ⟨⟨er, rfl⟩, P6, T6⟩
  have Q6 := Lib.hid (Q0.out.step P6 T6)
  have Z6 : Hid (RowQ w6 z q) := T6.heap Q0.out.gz z5.out
  have R6 : Hid (RefAt w6 q (mnew s.n sn) 0) := R5.out.to T6 (fun _ e => .inl e) (Nat.le_trans R5.out.low T6.size)
  clear P6 T6 Q0 x8 z5 R5
  obtain ⟨_, _, _, _, _, _, _, _, x8, _, _⟩ := Q6.out.cells
  have y3 : w6.cell? ⟨z, 3, none⟩ = some q.ms := row_cell Z6.out rfl
  go_wp2_with fail
  refine (mput_ref R6.out sn4 (HS.out.sw.bel Q6.out.g) HB.out.fw hlw).mono ?_; rintro e w7 ⟨er7, p7, m7, c7, rfl, R7, g7⟩
  have R7 := Lib.hid R7
  have Q7 := Lib.hid (Q6.out.bel g7)
  have Z7 := Lib.hid (Z6.out.bel g7)
  clear g7 Q6 Z6 R6 x8 y3
  go_upto_region 7 with (refine q_store rfl 29 (.tmp 50) (.tmp 48) rfl q { q with ms := .slice p7 m7 c7 } z 3 rfl [.slice p7 m7 c7] rfl Z7.out (by kernel_rfl) (s_one _ _ _) (Nat.le_of_ble_eq_true rfl) rfl ?_; intro V8 r8 g8)
  have Q8 := Lib.hid (Q7.out.put r8.out g8 (R7.out.only Z7.out g8))
  clear r8 g8 Q7 Z7 R7
  have hsz : mnew s.n sn = mnew s.n s.sz.toNat := by rw [hsn]; rfl
  rw [hsz] at Q8
  have Q8 := Lib.hid Q8.out
  clear hsz
  obtain ⟨_, _, x2, _⟩ := Q8.out.cells
  go_wp2_with fail
  refine (PC_set s.pc Q8.out.P HB.out.pc).mono ?_; rintro e w9 ⟨rfl, P9, k9⟩
  have Q9 := Lib.hid (Q8.out.only P9 k9 Q8.out.P.gb)
  clear P9 k9 Q8 x2
  obtain ⟨q9, r9, A9⟩ := id Q9.out.q
  have A9 := Lib.hid A9
  have r9 := Lib.hid r9
  obtain ⟨_, _, x2, _⟩ := Q9.out.cells
  go_upto_region 9 with (refine q_store rfl _ (.tmp 57) (.tmp 56) rfl q9 { q9 with pc := s.pc } _ _ rfl [.int .u32 s.pc] rfl r9.out (by kernel_rfl) (rv_one _ _) (Nat.le_of_ble_eq_true rfl) rfl ?_; intro V10 r10 g10)
  have Q10 := Lib.hid (Q9.out.put r10.out g10 (mq' := (mPut (mnew s.n s.sz.toNat) s.lw s.fw).jmp s.pc) (L' := 0) { A9.out.only r9.out g10 with pc := rfl })
  clear A9 r10 g10 r9 Q9 x2
  obtain ⟨_, _, _, x3, x4, x5, x6, _⟩ := Q10.out.cells
  go_wp2_with fail
  refine (SetPsr_tell Q10.out.P s.c s.p s.k s.f HB.out.c HB.out.p HB.out.k HB.out.f).mono ?_; rintro e w11 ⟨⟨er11, rfl, her⟩, P11, T11⟩
  have HER := Lib.hid her
  clear her
  have Q11 := Lib.hid (Q10.out.step P11 T11)
  clear P11 T11 Q10 x3 x4 x5 x6
  obtain ⟨q11, r11, A11⟩ := id Q11.out.q
  have A11 := Lib.hid A11
  have r11 := Lib.hid r11
  obtain ⟨_, _, _, x3, x4, x5, x6, _⟩ := Q11.out.cells
  go_upto_if 62 with (fail)
  go_cut [4] (fun s4 wx => s4 = .pointer (some ⟨b, 0, none⟩) ∧ MR w wx z s (.slice pw s.lw cw) (.slice pr s.lr cr) (.slice pc s.lc cc) b fb mb g x cs os (mPsr ((mPut (mnew s.n s.sz.toNat) s.lw s.fw).jmp s.pc) s.c s.p s.k s.f) (mPsr ((mPut (mnew s.n s.sz.toNat) s.lw s.fw).jmp s.pc) s.c s.p s.k s.f) 0)
  case first =>
    go_wp2_with (refine q_store rfl _ (.tmp 65) (.tmp 64) rfl q11 { q11 with cwp := s.c, pil := s.p, bank := s.k, fl := s.f } _ _ rfl [.int .u8 s.c, .int .u8 s.p, .int .u8 s.k, .int .u8 s.f] rfl r11.out (by kernel_rfl) (by intro v hv; simp at hv; rcases hv with rfl | rfl | rfl | rfl <;> rfl) (Nat.le_of_ble_eq_true rfl) rfl ?_; intro V12 r12 g12)
    all_goals
      have her := HER.out
      have eQ : (mPut (mnew s.n s.sz.toNat) s.lw s.fw).jmp s.pc = (mPut (mnew s.n s.sz.toNat) s.lw s.fw).jmp s.pc := rfl
      go_meet
      first
        | exact ⟨rfl, Q11.out.put r12.out g12 (psr_ref (her.1 (by first | assumption | simp_all)) (A11.out.only r11.out g12))⟩
        | exact ⟨rfl, Q11.out.psr (fun h => absurd (her.2 h) (by first | assumption | simp_all))⟩
  case rest =>
    obtain ⟨rfl, QB⟩ := hcut
    have QB := Lib.hid QB
    clear Q11 r11 A11 HER
    obtain ⟨_, _, _, _, _, _, _, x7, _⟩ := QB.out.cells
    go_wp2_with fail
    refine (SetWim_tell QB.out.P s.wim HB.out.wim).mono ?_; rintro e w13 ⟨⟨er13, rfl, her⟩, P13, T13⟩
    have HER2 := Lib.hid her
    clear her
    have Q13 := Lib.hid (QB.out.step P13 T13)
    clear P13 T13 QB x7
    obtain ⟨q13, r13, A13⟩ := id Q13.out.q
    have A13 := Lib.hid A13
    have r13 := Lib.hid r13
    obtain ⟨_, _, _, _, _, _, _, x7, _⟩ := Q13.out.cells
    go_upto_if 70 with (fail)
    go_cut [4] (fun s4 wx => s4 = .pointer (some ⟨b, 0, none⟩) ∧ MR w wx z s (.slice pw s.lw cw) (.slice pr s.lr cr) (.slice pc s.lc cc) b fb mb g x cs os (mWim (mPsr ((mPut (mnew s.n s.sz.toNat) s.lw s.fw).jmp s.pc) s.c s.p s.k s.f) s.wim) (mWim (mPsr ((mPut (mnew s.n s.sz.toNat) s.lw s.fw).jmp s.pc) s.c s.p s.k s.f) s.wim) 0)
    case first =>
      go_wp2_with (refine q_store rfl _ (.tmp 73) (.tmp 72) rfl q13 { q13 with wim := s.wim } _ _ rfl [.int .u32 s.wim] rfl r13.out (by kernel_rfl) (rv_one _ _) (Nat.le_of_ble_eq_true rfl) rfl ?_; intro V14 r14 g14)
      all_goals
        have her := HER2.out
        go_meet
        first
          | exact ⟨rfl, Q13.out.put r14.out g14 (wim_ref (her.1 (by first | assumption | simp_all)) (A13.out.only r13.out g14))⟩
          | exact ⟨rfl, Q13.out.wim (fun h => absurd (her.2 h) (by first | assumption | simp_all))⟩
    case rest =>
      obtain ⟨rfl, QC⟩ := hcut
      have QC := Lib.hid QC
      have hnw : Hid (2 ≤ s.n ∧ s.n ≤ 32) := ⟨h2, h32⟩
      clear Q13 r13 A13 HER2
      go_wp2_with fail
      go_loopw [8] (fun i wr => ∃ j : Nat, j ≤ s.lr ∧ i = .int .i64 j ∧ MR w wr z s (.slice pw s.lw cw) (.slice pr s.lr cr) (.slice pc s.lc cc) b fb mb g x cs os (mRegs (mWim (mPsr ((mPut (mnew s.n s.sz.toNat) s.lw s.fw).jmp s.pc) s.c s.p s.k s.f) s.wim) s.A j) (mRegs (mWim (mPsr ((mPut (mnew s.n s.sz.toNat) s.lw s.fw).jmp s.pc) s.c s.p s.k s.f) s.wim) s.A j) j) (fun i _ => s.lr - (intOf i).toNat)
      case atStart => exact ⟨0, Nat.zero_le _, rfl, QC.out⟩
      case round =>
        obtain ⟨j, hj, rfl, qr⟩ := hrel
        have QR := Lib.hid qr
        clear qr QC
        obtain ⟨_, _, _, _, _, _, _, _, _, x9, x10⟩ := QR.out.cells
        by_cases hlt : j < s.lr
        · obtain ⟨rb, ro, rfl, hcell⟩ := HRG.out (by omega)
          obtain ⟨a0, a1, a2, a3⟩ := hcell j hlt
          have gw := QR.out.g
          replace a0 := bel_cell gw a0
          replace a1 := bel_cell gw a1
          replace a2 := bel_cell gw a2
          replace a3 := bel_cell gw a3
          have HV := Lib.hid (HB.out.A j hlt)
          have HLT := Lib.hid hlt
          clear hcell gw
          obtain ⟨ra, hra⟩ : ∃ ra, ra = s.A j := ⟨_, rfl⟩
          rw [← hra] at a0 a1 a2 a3 HV
          have HRA := Lib.hid hra
          clear hra
          have XR : Hid ((wr.alloc (.cells #[.int .i64 ra.x, .int .i64 ra.k, .int .i64 ra.r, .int .u32 ra.v] 124)).heap[wr.heap.size]? = some (.cells #[.int .i64 ra.x, .int .i64 ra.k, .int .i64 ra.r, .int .u32 ra.v] 124 (0, 0))) := heap_alloc_last _ _
          have QX := Lib.hid (QR.out.bel (bel_alK (Below.refl _ _) (o := .cells #[.int .i64 ra.x, .int .i64 ra.k, .int .i64 ra.r, .int .u32 ra.v] 124)))
          have nrx : Hid (¬ Far.G wr.heap.size) := fun e => absurd (QR.out.P.lt _ e) (Nat.lt_irrefl _)
          go_wp2_with fail
          clear a0 a1 a2 a3 x9 x10
          generalize wr.alloc (.cells #[.int .i64 ra.x, .int .i64 ra.k, .int .i64 ra.r, .int .u32 ra.v] 124) = W at XR QX ⊢
          generalize wr.heap.size = y at XR nrx ⊢
          have QD := Lib.hid (QX.out.bel (Below.drew (Below.refl _ _)))
          have DD : W.drew.cell? ⟨y, 0, none⟩ = some (.int .i64 ra.x) ∧ W.drew.cell? ⟨y, 1, none⟩ = some (.int .i64 ra.k) ∧ W.drew.cell? ⟨y, 2, none⟩ = some (.int .i64 ra.r) ∧ W.drew.cell? ⟨y, 3, none⟩ = some (.int .u32 ra.v) := ⟨row_cell XR.out rfl, row_cell XR.out rfl, row_cell XR.out rfl, row_cell XR.out rfl⟩
          go_region_held3 (fun w' => w'.cell? ⟨y, 0, none⟩ = some (.int .i64 ra.x) ∧ w'.cell? ⟨y, 1, none⟩ = some (.int .i64 ra.k) ∧ w'.cell? ⟨y, 2, none⟩ = some (.int .i64 ra.r) ∧ w'.cell? ⟨y, 3, none⟩ = some (.int .u32 ra.v))
            (first
              | exact DD
              | exact D2)
            (first
              | (go_at_call 25; refine (File_get QD.out.P).mono ?_; rintro e V1 ⟨rfl, hV1⟩; subst hV1)
              | (go_at_call 63; refine (set_any QD.out.P ra HV.out).mono ?_; rintro e V2 ⟨⟨er2, rfl⟩, P2, T2⟩; have Q2 := Lib.hid (QD.out.step P2 T2); have XR2 := T2.heap nrx.out XR.out; have D2 : V2.cell? ⟨y, 0, none⟩ = some (.int .i64 ra.x) ∧ V2.cell? ⟨y, 1, none⟩ = some (.int .i64 ra.k) ∧ V2.cell? ⟨y, 2, none⟩ = some (.int .i64 ra.r) ∧ V2.cell? ⟨y, 3, none⟩ = some (.int .u32 ra.v) := ⟨row_cell XR2 rfl, row_cell XR2 rfl, row_cell XR2 rfl, row_cell XR2 rfl⟩))
          all_goals
            obtain ⟨d0, d1, d2, d3⟩ := D2
            obtain ⟨q2, r2, A2⟩ := id Q2.out.q
            have eN : (mRegs (mWim (mPsr ((mPut (mnew s.n s.sz.toNat) s.lw s.fw).jmp s.pc) s.c s.p s.k s.f) s.wim) s.A j).nw = s.n := by rw [mRegs_nw, mWim_nw, mPsr_nw]; exact (mPut_nw _ _ _).1
            have c1 : V2.cell? ⟨z, 1, none⟩ = some (.int .i64 s.n) := by rw [← eN, ← A2.fn]; exact row_cell r2 rfl
            have c2 : V2.cell? ⟨z, 2, none⟩ = some q2.fs := row_cell r2 rfl
            have S2 := Lib.hid (mset_ref ra A2 (by rw [eN]; exact hnw.out.1) (by rw [eN]; exact hnw.out.2) (by omega))
            rw [eN] at S2
            have eq1 : Hid (q2.nw = s.n) := A2.nw.trans eN
            have Z2 := Lib.hid r2
            have eNr : Hid ((mReg (mRegs (mWim (mPsr ((mPut (mnew s.n s.sz.toNat) s.lw s.fw).jmp s.pc) s.c s.p s.k s.f) s.wim) s.A j) ra).nw = s.n) := by unfold Hid; rw [mReg_nw, eN]
            clear P2 T2 XR2 XR DD QD QX QR A2 r2 HV nrx eN
            go_wp2_with fail
            refine S2.out.mono ?_; rintro e V3 ⟨er3, p3, m3, c3, rfl, R3, g3⟩
            have Q3 := Lib.hid (Q2.out.bel g3)
            have Z3 := Lib.hid (Z2.out.bel g3)
            have R3 := Lib.hid R3
            clear g3 d0 d1 d2 d3 c1 c2 Q2 S2 Z2
            go_wp2_with (refine q_store rfl _ (.tmp 111) (.tmp 109) rfl q2 { q2 with fn := s.n, fs := .slice p3 m3 c3 } _ _ rfl [.int .i64 s.n, .slice p3 m3 c3] rfl Z3.out (by kernel_rfl) (by intro v hv; simp at hv; rcases hv with rfl | rfl <;> rfl) (Nat.le_of_ble_eq_true rfl) rfl ?_; intro V4 r4 g4)
            have Q4 := Q3.out.put r4.out g4 (mq' := mReg (mRegs (mWim (mPsr ((mPut (mnew s.n s.sz.toNat) s.lw s.fw).jmp s.pc) s.c s.p s.k s.f) s.wim) s.A j) ra) (L' := j + 1) { R3.out.only Z3.out g4 with fn := eNr.out.symm }
            have eM : mRegs (mWim (mPsr ((mPut (mnew s.n s.sz.toNat) s.lw s.fw).jmp s.pc) s.c s.p s.k s.f) s.wim) s.A (j + 1) = mReg (mRegs (mWim (mPsr ((mPut (mnew s.n s.sz.toNat) s.lw s.fw).jmp s.pc) s.c s.p s.k s.f) s.wim) s.A j) ra := by rw [HRA.out]; rfl
            rw [← eM] at Q4
            have Q4 := Lib.hid Q4
            clear r4 g4 eM Q3 Z3 R3
            go_roundw
            case rel => exact ⟨j + 1, HLT.out, by go_num, Q4.out⟩
            case measure => have h9 := HLT.out; simp only [intOf]; omega
        · obtain rfl : j = s.lr := by omega
          go_wp2_with fail
          refine (Choose_at QR.out.P (HS.out.sc.bel QR.out.g) HB.out.fc hlc).mono ?_; rintro e w15 ⟨rfl, x', cs', G', P15, T15, lo15⟩
          obtain ⟨F', rfl, hF'⟩ : ∃ F' : Far, F'.G = G' ∧ F'.B = w15.heap.size := ⟨⟨G', w15.heap.size, P15.lt⟩, rfl, rfl⟩
          have Q15 := Lib.hid (QR.out.widen (F' := F') P15 T15 lo15 (Nat.le_of_eq hF'))
          clear hF'
          clear P15 T15 lo15 QR x9 x10
          obtain ⟨q15, r15, A15⟩ := id Q15.out.q
          have A15 := Lib.hid A15
          obtain ⟨_, _, _, _, _, _, _, _, _, _, x10⟩ := Q15.out.cells
          have gA : Below w15.heap.size w15 (w15.alloc (.cells #[] 22)) := bel_alK (Below.refl _ _)
          have sA : (w15.alloc (.cells #[] 22)).heap.size = w15.heap.size + 1 := by simp
          have lw15 : w.heap.size < w15.heap.size := M5.heap_lt Q15.out.X
          have r15 := Lib.hid r15
          have SC := Lib.hid ((HS.out.sc.bel Q15.out.g).bel gA)
          go_upto_region 21 with (first
            | (at_builtin; refine ap_own rfl _ _ rfl w15.heap.size rfl (World.ownsRow_made w15 #[] 0 (Nat.le_refl _) (Nat.zero_le _) (by simp)) (by rw [sA]; omega) (.slice pc s.lc cc) s.lc s.fc rfl SC.out hlc ?_; intro p16 c16 w16 own16 gB; have O16 := Lib.hid own16; clear own16; have g16 := Lib.hid (gA.grown gB (by rw [sA]; omega) (fun k hk => by cases hk; exact Nat.le_refl _)); clear gB)
            | (refine q_store rfl _ (.tmp 120) (.tmp 119) rfl q15 { q15 with ch := .slice p16 s.lc c16 } _ _ rfl [.slice p16 s.lc c16] rfl (r15.out.bel g16.out) (by kernel_rfl) (s_one _ _ _) (Nat.le_of_ble_eq_true rfl) rfl ?_; intro V17 r17 g17))
          have Q16 := Lib.hid (Q15.out.bel g16.out)
          have hch := choices_ref (A15.out.bel g16.out) O16.out (by have := A15.out.low; exact this) (r15.out.bel g16.out) g17
          clear x10 SC Q15 gA sA
          go_simp
          have Q17 := Q16.out.put r17.out g17 hch
          have ok17 := Lib.hid hch.ok
          have Q17 := Lib.hid Q17
          clear g17 Q16
          refine wp_region_any (by kernel_rfl) ?_
          change wpAny _ _ _ _ _ _ _ (World.drew _)
          have QE := Lib.hid (Q17.out.bel (Below.drew (Below.refl _ _)))
          have RE := Lib.hid (r17.out.bel (Below.drew (Below.refl _ _)))
          have HCD := Lib.hid (hch.bel (Below.drew (Below.refl _ _)))
          clear hch
          generalize V17.drew = VE at QE RE HCD ⊢
          refine wpAny_take (i := 0) (v := ?_) rfl (by kernel_rfl) (by kernel_rfl) (by kernel_rfl) (fun _ _ _ h => h) (Or.inl ⟨by rfl, ?_⟩) ?_
          rotate_left
          · (intro W; go_simp; try with_reducible rfl)
          refine wpAny_take (i := 2) (v := ?_) rfl (by kernel_rfl) (by kernel_rfl) (by kernel_rfl) (fun _ _ _ h => h) (Or.inl ⟨by rfl, ?_⟩) ?_
          rotate_left
          · (intro W; go_simp; try with_reducible rfl)
          refine wpAny_ready (rs := [1]) (by kernel_rfl) (by simp) ?_
          refine AllReady.cons rfl (fun K hK => ?_) AllReady.nil
          refine step_load rfl (.tmp 6) rfl z { q15 with ch := .slice p16 s.lc c16 } rfl RE.out ?_
          refine hK _ _ ?_
          clear hK K
          refine wpAny_ready (rs := [3]) (by kernel_rfl) (by simp) ?_
          refine AllReady.cons rfl (fun K hK => ?_) AllReady.nil
          refine step_whole rfl (.tmp 3) (.tmp 122) rfl (w.heap.size + 1) rzero { q15 with ch := .slice p16 s.lc c16 } rfl rfl QE.out.z2 ok17.out ?_
          intro V18 r18 g18
          refine hK _ _ ?_
          clear hK K
          refine wpAny_done (by kernel_rfl) ?_ _
          have T18 : Turns (fun i => i = w.heap.size + 1) VE V18 := Turns.of_only g18.out rfl
          have P18 := Lib.hid (QE.out.P.turns T18 (fun i hi e => QE.out.g2 (e ▸ hi)) (fun i e ht => by have h1 := QE.out.t.lt ht; omega))
          have G18 := Lib.hid (Turns.bel QE.out.g T18 (fun i e => by omega))
          have L18 := Lib.hid QE.out.low
          have R18 := Lib.hid ((HCD.out.only QE.out.z2 g18.out).more hlr)
          clear T18 g18 Q17 QE RE
          go_wp2_with fail
          exact q_ret3 rfl rfl r18.out rfl ⟨F', b, fb, mb, g, x', cs', os, _, rfl, R18.out, P18.out, G18.out, L18.out⟩
end Go.Proofs.YtiobgnelhiadbaaGreatDoor.K6
