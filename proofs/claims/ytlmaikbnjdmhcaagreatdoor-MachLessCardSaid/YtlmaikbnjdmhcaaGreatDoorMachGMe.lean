/- made (layer 6), walked: a machine out of a start. -/
import Derived.Test.YtlmaikbnjdmhcaaGreatDoorMachGMm
import Derived.StillTailTactics
namespace Go.Proofs.YtlmaikbnjdmhcaaGreatDoor.K6
open Go.RowKit
set_option linter.unusedVariables false
/-- The document's machine is stored. -/
theorem MQ.start {w V V5 : World} {s : ST} {vw vr vc : Value} {b fb mb g x : Nat} {cs os : Value} {G : Nat → Prop} {m : MS} {q : RV} {sz : Nat} (P : MachP V b fb mb g x cs os G m) (RA : RefAt V q (mnew s.n sz) 0) (hfs : q.fs = .slice none 0 0) (r : RowQ V5 V.heap.size q) (k : Below V.heap.size V V5) (X : V.heap[w.heap.size]? = some (.cells (srow s vw vr vc) 28 (0, 0))) (z2 : RowQ V (w.heap.size + 1) rzero)
    (gw : Below w.heap.size w V) (low : ∀ i, G i → w.heap.size + 2 ≤ i) (t : Tabs w) : MQ w V5 V.heap.size s vw vr vc b fb mb g x cs os G m 0 := by
  obtain ⟨l, hl, _, hlen⟩ := RA.file
  exact ⟨P.bel k, ⟨q, r, RA.ok, RA.nw, RA.fn, ⟨l, hl.bel k, hlen⟩, fun j hj => by rw [hfs] at hj; cases hj⟩, bel_heap k X, z2.bel k, fun e => absurd (P.lt _ e) (Nat.lt_irrefl _), fun e => by have := low _ e; omega, fun e => by have := low _ e; omega, z2.lt, fun i hi => by have := low i hi; omega, bel_trans gw k, t⟩
set_option maxRecDepth 100000 in
theorem step_load {ops : Array Oper} {o : Oper} {a : Act} {w : World} {K : Act → World → Prop} {Q : Exit → Act → World → Prop} {E : Prop} (hg : o.guard = none) (x : Operand) (ho : o.op = .load 39 x) (z : Nat) (q : RV) (hx : a.eval x = .pointer (some ⟨z, 0, none⟩)) (hz : RowQ w z q)
    (hK : K (a.put o.dst (.agg (rrow q))) w) : if Region.wanted o (yielded ops a.tmps) = true then Oper.wp Tryz.prog o a w K Q else E := by
  have hw : Region.wanted o (yielded ops a.tmps) = true := by simp [Region.wanted, hg]
  rw [if_pos hw]
  exact wp_load_row _ x ho z hx 39 (rrow q) (0, 0) _ hz rrow_under rfl (rrow_info _) hK
set_option maxRecDepth 100000 in
theorem q_results3 {fn : Func} {tmps : Array Value} {w : World} {z : Nat} {p u : Tmp} {q : RV} (h : fn.results = #[.tmp u, .cell p 39]) (hp : tmps.getD p undef = .pointer (some ⟨z, 0, none⟩)) (hz : RowQ w z q) : (results fn tmps).run Tryz.prog w = .ok (.tuple #[tmps.getD u undef, .agg (rrow q)]) w := by
  have hp' : tmps[p]?.getD undef = .pointer (some ⟨z, 0, none⟩) := by simpa using hp
  simp [results, h, hp', asAddr, run_loadVar_row w z 39 39 (rrow q) (0, 0) _ hz rrow_under rfl (rrow_info _)]
theorem q_ret3 {fn : Func} {R : Ending → World → Prop} {a : Act} {w : World} {z : Nat} {p u : Tmp} {q : RV} (h : fn.results = #[.tmp u, .cell p 39]) (hp : a.tmps.getD p undef = .pointer (some ⟨z, 0, none⟩)) (hz : RowQ w z q) (hd : a.defers = []) (hR : R (.returned (.tuple #[a.tmps.getD u undef, .agg (rrow q)])) w) : bodyPost Tryz.prog fn R .ret a w :=
  bodyPost_ret (q_results3 h hp hz) hd hR
theorem ap_any {ops : Array Oper} {rest : List Oper} {o : Oper} {a : Act} {w : World} {Q : Exit → Act → World → Prop} (hg : o.guard = none) (sl x : Operand)
    (hop : o.op = Op.call { callee := Callee.builtin Builtin.append, args := #[sl, x], argTypes := #[25, 25] }) (B : Nat) (hs : a.eval sl = .slice (some ⟨B, 0, none⟩) 0 0) (own : w.ownsRow B 22 1 (.slice (some ⟨B, 0, none⟩) 0 0) 0 []) (hB : B ≤ w.heap.size)
    (vc : Value) (n : Nat) (f : Nat → Int) (hx : a.eval x = vc) (hv : SlP w vc n f) (hn : n ≤ 1000000) (h : ∀ p' m' c' w', w.grownBy w' (some B) → wpList Tryz.prog ops Q rest (a.put o.dst (.slice p' m' c')) w') : wpList Tryz.prog ops Q (o :: rest) a w := by
  obtain ⟨i0, hi, hz0, hz1, hz2⟩ := info_parts words_parts
  rcases hv with ⟨rfl, rfl⟩ | ⟨ad, c, rfl, hc⟩
  · refine wpList_append_own_none hg sl x 25 hop B 22 i0 1 words_under hi (.slice (some ⟨B, 0, none⟩) 0 0) 0 [] hs own hx ?_
    exact h _ _ _ _ ⟨rfl, rfl, rfl, Nat.le_refl _, fun _ _ _ => rfl⟩
  · refine wpList_append_own w hg sl x 25 hop B 22 i0 (.int .u32 0) 1 4 words_under hi hz0 hz1 hz2 rfl (by decide) (.slice (some ⟨B, 0, none⟩) 0 0) 0 [] hs own ad n c (bsL .u32 f n) hx ?_ ?_ ?_ ?_ ?_ ?_ ?_
    · rw [bsL_len]; omega
    · intro j u hu
      have hj : j < n := by
        rcases Nat.lt_or_ge j n with h | h
        · exact h
        · rw [List.getElem?_eq_none (by rw [bsL_len]; exact h)] at hu; cases hu
      obtain ⟨zb, o, rfl, hcc⟩ := hc (by omega)
      rw [add_off, ← hu, bsL_get .u32 f hj]
      exact hcc j hj
    · exact bsL_ones _ _
    · unfold maxLen; omega
    · omega
    · exact hB
    · intro v' w' ho hgrow _
      obtain ⟨p', c', rfl⟩ := lenOf_own ho
      exact h _ _ _ _ hgrow
theorem rPut_any {W : World} {b3 n l d : Nat} {q : Option Addr} {f : Nat → Int} (hn : n ≤ 4194304) (hc : ∀ i, i < n → W.cell? ⟨b3, i, none⟩ = some (.int .u8 0)) (hs : Sl .u32 W (.slice q l d) l f) (hf : ∀ i, W32 (f i)) (hl : l ≤ 1000000) :
    Calls Tryz.prog 44 #[.slice (some ⟨b3, 0, none⟩) n n, .int .u32 0, .slice q l d] W fun e w' => (∃ (er : Int) (p' : Option Addr) (m' c' : Nat), e = .returned (.tuple #[.slice p' m' c', .int .i64 er])) ∧ Below W.heap.size W w' := by
  by_cases he : spE n 0 l = 0
  · refine (M5.rput_yes (.slice (some ⟨b3, 0, none⟩) n n) (.slice q l d) n l (fun _ => 0) f 0 W hn ⟨_, _, rfl, fun _ => ⟨b3, 0, rfl, fun i hi => by rw [Nat.zero_add]; exact hc i hi⟩⟩ hs hf he).mono ?_
    rintro e w' ⟨s', rfl, ⟨p', c', rfl, _⟩, g'⟩
    exact ⟨⟨_, p', _, c', rfl⟩, g'⟩
  · refine (M5.rput_no (some ⟨b3, 0, none⟩) n n 0 q l d W hn ⟨by decide, by decide⟩ (by omega) he).mono ?_
    rintro e w' ⟨rfl, rfl⟩
    exact ⟨⟨_, _, _, _, rfl⟩, Below.refl _ _⟩
theorem s_one (p : Option Addr) (n c : Nat) : ∀ v ∈ [Value.slice p n c], v.oneCell' = true := by
  intro v hv
  simp at hv
  subst hv
  rfl
set_option maxRecDepth 100000 in
set_option maxHeartbeats 8000000 in
theorem made_yes {w : World} (s : ST) {vw vr vc : Value} (hb : STB s) (hs : StAt w s vw vr vc) (hm : s.may) (hT : Tabs w) (hlr : s.lr ≤ 60) (hlc : s.lc ≤ 1000000) (hlw : s.lw ≤ 1000000) :
    Calls Tryz.prog 9 #[.agg (srow s vw vr vc)] w fun e w' => ∃ b fb mb g x cs os G q, e = .returned (.tuple #[.pointer (some ⟨b, 0, none⟩), .agg (rrow q)]) ∧ q.Ok ∧ q.nw = s.n ∧ MachP w' b fb mb g x cs os G (mMade s) ∧ Below w.heap.size w w' ∧ ∀ i, G i → w.heap.size ≤ i := by
  obtain ⟨sn, hsn⟩ : ∃ sn : Nat, s.sz = sn := ⟨s.sz.toNat, by have := hm.2.2.1; omega⟩
  have HM : Hid (M5.MaySize (sn : Int)) := by have := hm.2.2; rw [hsn] at this; exact this
  have h2 := hm.1
  have h32 := hm.2.1
  obtain ⟨pw, cw, rfl, _⟩ := id hs.sw
  obtain ⟨pr, cr, rfl, hrg⟩ := id hs.sr
  obtain ⟨pc, cc, rfl⟩ : ∃ p c, vc = .slice p s.lc c := by
    rcases hs.sc with ⟨rfl, h0⟩ | ⟨a, c, rfl, _⟩
    · exact ⟨none, 0, by rw [h0]⟩
    · exact ⟨_, _, rfl⟩
  have HRG := Lib.hid hrg
  have HB := Lib.hid hb
  have HS := Lib.hid hs
  have HT := Lib.hid hT
  have hX : Hid ((w.alloc (.cells (srow s (.slice pw s.lw cw) (.slice pr s.lr cr) (.slice pc s.lc cc)) 28)).heap[w.heap.size]? = some (.cells (srow s (.slice pw s.lw cw) (.slice pr s.lr cr) (.slice pc s.lc cc)) 28 (0, 0))) := heap_alloc_last _ _
  have gX : Hid (Below w.heap.size w (w.alloc (.cells (srow s (.slice pw s.lw cw) (.slice pr s.lr cr) (.slice pc s.lc cc)) 28))) := bel_alK (Below.refl _ _)
  have sX : (w.alloc (.cells (srow s (.slice pw s.lw cw) (.slice pr s.lr cr) (.slice pc s.lc cc)) 28)).heap.size = w.heap.size + 1 := by simp
  clear hb hs hm hT hrg
  go_enter Tryz.func9, Tryz.ntmps9
  go_upto_region 1 with (refine q_alloc rfl (some 3) rfl (by kernel_rfl) ?_; intro V r1 b1 s1)
  have R1 : Hid (RowQ V (w.heap.size + 1) rzero) := by rw [← sX]; exact r1.out
  have X1 : Hid (V.heap[w.heap.size]? = some (.cells (srow s (.slice pw s.lw cw) (.slice pr s.lr cr) (.slice pc s.lc cc)) 28 (0, 0))) := bel_heap b1 hX.out
  have G1 : Hid (Below w.heap.size w V) := bel_trans gX.out b1
  have x0 : V.cell? ⟨w.heap.size, 0, none⟩ = some (.int .i64 s.n) := row_cell X1.out rfl
  have x1 : V.cell? ⟨w.heap.size, 1, none⟩ = some (.int .i64 sn) := by
    have := row_cell X1.out (j := 1) (v := .int .i64 s.sz) rfl
    rw [hsn] at this
    exact this
  clear r1 b1 s1 hX gX
  go_wp2_with fail
  refine (New_at s.n sn V h2 h32 HM.out (HT.out.bel G1.out)).mono ?_; rintro e w2 ⟨b, G, rfl, ⟨fb, mb, g, x, cs, os, M2⟩, g2, low2⟩
  replace x0 := bel_cell g2 x0
  replace x1 := bel_cell g2 x1
  have M2 := Lib.hid M2
  have G2 := Lib.hid g2
  have L2 := Lib.hid low2
  clear g2 low2
  go_wp2_with fail
  refine (refNew6_yes s.n sn w2 h2 h32 HM.out).mono ?_; rintro e w3 ⟨q, rfl, RA, hfs, ⟨b3, lb3, hms, hc3⟩, g3⟩
  have RA := Lib.hid RA
  have HF := Lib.hid hfs
  have G3 := Lib.hid g3
  have HMS := Lib.hid hms
  have HC3 := Lib.hid hc3
  have NG : Hid (¬ G b3) := fun e => by have := M2.out.lt _ e; omega
  clear g3 hfs x0 x1 hms hc3
  go_upto_region 3 with (first
    | (refine q_alloc rfl (some 6) rfl (by kernel_rfl) ?_; intro V4 r4 b4 s4)
    | (refine q_whole rfl (.tmp 6) (.tmp 24) rfl w3.heap.size rzero q rfl rfl r4.out RA.out.ok ?_; intro V5 z5 g5))
  have k5 := only_bel b4 g5.out (Nat.le_refl _)
  have Q0 := Lib.hid (MQ.start (w := w) (s := s) (sz := sn) (M2.out.bel G3.out) RA.out HF.out z5.out k5 (bel_heap G3.out (bel_heap G2.out X1.out)) ((R1.out.bel G2.out).bel G3.out) (bel_trans (bel_trans G1.out G2.out) G3.out) (fun i hi => by have h1 := L2.out i hi; have h3 := R1.out.lt; omega) HT.out)
  have C5 : Hid (∀ i, i < sn → V5.cell? ⟨b3, i, none⟩ = some (.int .u8 0)) := fun i hi => bel_cell k5 (HC3.out i hi)
  have z5' := Lib.hid (And.intro RA.out.ok (And.intro RA.out.nw RA.out.fn))
  have sn4 : sn ≤ 4194304 := by have := HM.out.2.1; omega
  clear r4 b4 s4 g5 M2 RA G2 G3 L2 R1 X1 k5 HC3
  generalize w3.heap.size = z at Q0 z5 ⊢
  obtain ⟨_, _, _, _, _, _, _, _, x8, _, _⟩ := Q0.out.cells
  go_wp2_with fail
  refine (Load_any Q0.out.P (HS.out.sw.bel Q0.out.g) HB.out.fw).mono ?_; rintro e w6 ⟨⟨er, rfl⟩, P6, T6⟩
  have Q6 := Lib.hid (Q0.out.step P6 T6 fun _ e => .inl e)
  have Z6 : Hid (RowQ w6 z q) := T6.heap Q0.out.gz z5.out
  have C6 : Hid (∀ i, i < sn → w6.cell? ⟨b3, i, none⟩ = some (.int .u8 0)) := fun i hi => T6.cell NG.out (C5.out i hi)
  clear P6 T6 Q0 x8 C5 z5
  obtain ⟨_, _, _, _, _, _, _, _, x8, _, _⟩ := Q6.out.cells
  have y3 : w6.cell? ⟨z, 3, none⟩ = some (.slice (some ⟨b3, 0, none⟩) sn sn) := by rw [← HMS.out]; exact row_cell Z6.out rfl
  go_wp2_with fail
  refine (rPut_any sn4 C6.out (HS.out.sw.bel Q6.out.g) HB.out.fw hlw).mono ?_; rintro e w7 ⟨⟨er7, p7, m7, c7, rfl⟩, g7⟩
  have Q7 := Lib.hid (Q6.out.bel g7)
  have Z7 := Lib.hid (Z6.out.bel g7)
  clear g7 Q6 Z6 C6 x8 y3
  go_upto_region 7 with (refine q_store rfl 29 (.tmp 50) (.tmp 48) rfl q { q with ms := .slice p7 m7 c7 } z 3 rfl [.slice p7 m7 c7] rfl Z7.out (by kernel_rfl) (s_one _ _ _) (Nat.le_of_ble_eq_true rfl) rfl ?_; intro V8 r8 g8)
  have Q8 := Lib.hid (Q7.out.put r8.out g8 ⟨z5'.out.1.fs, rfl, z5'.out.1.tp, z5'.out.1.ts, z5'.out.1.ch, z5'.out.1.ot⟩ z5'.out.2.1 z5'.out.2.2 (L' := 0) ⟨[], by show F3.LAt w7 q.fs []; rw [HF.out]; exact F3.LAt.nil _, Nat.le_refl _⟩ (fun j hj => by have hj : q.fs.ownBlock = some j := hj; rw [HF.out] at hj; cases hj))
  clear r8 g8 Q7 Z7 HF HMS z5' NG
  have hsz : mnew s.n sn = mnew s.n s.sz.toNat := by rw [hsn]; rfl
  rw [hsz] at Q8
  have Q8 := Lib.hid Q8.out
  clear hsz
  obtain ⟨_, _, x2, _⟩ := Q8.out.cells
  go_wp2_with fail
  refine (PC_set s.pc Q8.out.P HB.out.pc).mono ?_; rintro e w9 ⟨rfl, P9, k9⟩
  have Q9 := Lib.hid (Q8.out.only P9 k9 Q8.out.P.gb)
  clear P9 k9 Q8 x2
  obtain ⟨q9, r9, ok9, e19, e29, hl9, far9⟩ := id Q9.out.q
  have HQ9 := Lib.hid (And.intro ok9 (And.intro e19 (And.intro e29 (And.intro hl9 far9))))
  have r9 := Lib.hid r9
  obtain ⟨_, _, x2, _⟩ := Q9.out.cells
  clear ok9 e19 e29 hl9 far9
  go_upto_region 9 with (refine q_store rfl _ (.tmp 57) (.tmp 56) rfl q9 { q9 with pc := s.pc } _ _ rfl [.int .u32 s.pc] rfl r9.out (by kernel_rfl) (rv_one _ _) (Nat.le_of_ble_eq_true rfl) rfl ?_; intro V10 r10 g10)
  obtain ⟨ok9, e19, e29, hl9, far9⟩ := HQ9.out
  have Q10 := Lib.hid (Q9.out.put r10.out g10 ⟨ok9.fs, ok9.ms, ok9.tp, ok9.ts, ok9.ch, ok9.ot⟩ e19 e29 (L' := 0) hl9 far9)
  clear ok9 e19 e29 hl9 far9 HQ9 r10 g10 r9 Q9 x2
  obtain ⟨_, _, _, x3, x4, x5, x6, _⟩ := Q10.out.cells
  go_wp2_with fail
  refine (SetPsr_any Q10.out.P s.c s.p s.k s.f HB.out.c HB.out.p HB.out.k HB.out.f).mono ?_; rintro e w11 ⟨⟨er11, rfl⟩, P11, T11⟩
  have Q11 := Lib.hid (Q10.out.step P11 T11 fun _ e => .inl e)
  clear P11 T11 Q10 x3 x4 x5 x6
  obtain ⟨q11, r11, ok11, e111, e211, hl11, far11⟩ := id Q11.out.q
  have HQ11 := Lib.hid (And.intro ok11 (And.intro e111 (And.intro e211 (And.intro hl11 far11))))
  have r11 := Lib.hid r11
  obtain ⟨_, _, _, x3, x4, x5, x6, _⟩ := Q11.out.cells
  clear ok11 e111 e211 hl11 far11
  go_upto_if 62 with (fail)
  go_cut [4] (fun s4 wx => s4 = .pointer (some ⟨b, 0, none⟩) ∧ MQ w wx z s (.slice pw s.lw cw) (.slice pr s.lr cr) (.slice pc s.lc cc) b fb mb g x cs os G (mPsr ((mPut (mnew s.n s.sz.toNat) s.lw s.fw).jmp s.pc) s.c s.p s.k s.f) 0)
  case first =>
    go_wp2_with (refine q_store rfl _ (.tmp 65) (.tmp 64) rfl q11 { q11 with cwp := s.c, pil := s.p, bank := s.k, fl := s.f } _ _ rfl [.int .u8 s.c, .int .u8 s.p, .int .u8 s.k, .int .u8 s.f] rfl r11.out (by kernel_rfl) (by intro v hv; simp at hv; rcases hv with rfl | rfl | rfl | rfl <;> rfl) (Nat.le_of_ble_eq_true rfl) rfl ?_; intro V12 r12 g12)
    all_goals
      obtain ⟨ok11, e111, e211, hl11, far11⟩ := HQ11.out
      go_meet
      first
        | exact ⟨rfl, Q11.out.put r12.out g12 ⟨ok11.fs, ok11.ms, ok11.tp, ok11.ts, ok11.ch, ok11.ot⟩ e111 e211 (L' := 0) hl11 far11⟩
        | exact ⟨rfl, Q11.out⟩
  case rest =>
    obtain ⟨rfl, QB⟩ := hcut
    have QB := Lib.hid QB
    clear Q11 r11 HQ11
    obtain ⟨_, _, _, _, _, _, _, x7, _⟩ := QB.out.cells
    go_wp2_with fail
    refine (SetWim_any QB.out.P s.wim HB.out.wim).mono ?_; rintro e w13 ⟨⟨er13, rfl⟩, P13, T13⟩
    have Q13 := Lib.hid (QB.out.step P13 T13 fun _ e => .inl e)
    clear P13 T13 QB x7
    obtain ⟨q13, r13, ok13, e113, e213, hl13, far13⟩ := id Q13.out.q
    have HQ13 := Lib.hid (And.intro ok13 (And.intro e113 (And.intro e213 (And.intro hl13 far13))))
    have r13 := Lib.hid r13
    obtain ⟨_, _, _, _, _, _, _, x7, _⟩ := Q13.out.cells
    clear ok13 e113 e213 hl13 far13
    go_upto_if 70 with (fail)
    go_cut [4] (fun s4 wx => s4 = .pointer (some ⟨b, 0, none⟩) ∧ MQ w wx z s (.slice pw s.lw cw) (.slice pr s.lr cr) (.slice pc s.lc cc) b fb mb g x cs os G (mWim (mPsr ((mPut (mnew s.n s.sz.toNat) s.lw s.fw).jmp s.pc) s.c s.p s.k s.f) s.wim) 0)
    case first =>
      go_wp2_with (refine q_store rfl _ (.tmp 73) (.tmp 72) rfl q13 { q13 with wim := s.wim } _ _ rfl [.int .u32 s.wim] rfl r13.out (by kernel_rfl) (rv_one _ _) (Nat.le_of_ble_eq_true rfl) rfl ?_; intro V14 r14 g14)
      all_goals
        obtain ⟨ok13, e113, e213, hl13, far13⟩ := HQ13.out
        go_meet
        first
          | exact ⟨rfl, Q13.out.put r14.out g14 ⟨ok13.fs, ok13.ms, ok13.tp, ok13.ts, ok13.ch, ok13.ot⟩ e113 e213 (L' := 0) hl13 far13⟩
          | exact ⟨rfl, Q13.out⟩
    case rest =>
      obtain ⟨rfl, QC⟩ := hcut
      have QC := Lib.hid QC
      have hnw : Hid (2 ≤ s.n ∧ s.n ≤ 32) := ⟨h2, h32⟩
      clear Q13 r13 HQ13
      go_wp2_with fail
      go_loopw [8] (fun i wr => ∃ j : Nat, j ≤ s.lr ∧ i = .int .i64 j ∧ MQ w wr z s (.slice pw s.lw cw) (.slice pr s.lr cr) (.slice pc s.lc cc) b fb mb g x cs os G (mRegs (mWim (mPsr ((mPut (mnew s.n s.sz.toNat) s.lw s.fw).jmp s.pc) s.c s.p s.k s.f) s.wim) s.A j) j) (fun i _ => s.lr - (intOf i).toNat)
      case atStart => exact ⟨0, Nat.zero_le _, rfl, QC.out⟩
      case round =>
        obtain ⟨j, hj, rfl, qr⟩ := hrel
        have QR := Lib.hid qr
        clear qr QC
        obtain ⟨_, _, _, _, _, _, _, _, _, x9, x10⟩ := QR.out.cells
        by_cases hlt : j < s.lr
        · obtain ⟨rb, ro, rfl, hcell⟩ := HRG.out (by omega)
          obtain ⟨a0, a1, a2, a3⟩ := hcell j hlt
          have gw := QR.out.g
          replace a0 := bel_cell gw a0
          replace a1 := bel_cell gw a1
          replace a2 := bel_cell gw a2
          replace a3 := bel_cell gw a3
          have HV := Lib.hid (HB.out.A j hlt)
          have HLT := Lib.hid hlt
          clear hcell gw
          obtain ⟨ra, hra⟩ : ∃ ra, ra = s.A j := ⟨_, rfl⟩
          rw [← hra] at a0 a1 a2 a3 HV
          have HRA := Lib.hid hra
          clear hra
          have XR : Hid ((wr.alloc (.cells #[.int .i64 ra.x, .int .i64 ra.k, .int .i64 ra.r, .int .u32 ra.v] 97)).heap[wr.heap.size]? = some (.cells #[.int .i64 ra.x, .int .i64 ra.k, .int .i64 ra.r, .int .u32 ra.v] 97 (0, 0))) := heap_alloc_last _ _
          have QX := Lib.hid (QR.out.bel (bel_alK (Below.refl _ _) (o := .cells #[.int .i64 ra.x, .int .i64 ra.k, .int .i64 ra.r, .int .u32 ra.v] 97)))
          have nrx : Hid (¬ G wr.heap.size) := fun e => absurd (QR.out.P.lt _ e) (Nat.lt_irrefl _)
          go_wp2_with fail
          clear a0 a1 a2 a3 x9 x10
          generalize wr.alloc (.cells #[.int .i64 ra.x, .int .i64 ra.k, .int .i64 ra.r, .int .u32 ra.v] 97) = W at XR QX ⊢
          generalize wr.heap.size = y at XR nrx ⊢
          have QD := Lib.hid (QX.out.bel (Below.drew (Below.refl _ _)))
          have DD : W.drew.cell? ⟨y, 0, none⟩ = some (.int .i64 ra.x) ∧ W.drew.cell? ⟨y, 1, none⟩ = some (.int .i64 ra.k) ∧ W.drew.cell? ⟨y, 2, none⟩ = some (.int .i64 ra.r) ∧ W.drew.cell? ⟨y, 3, none⟩ = some (.int .u32 ra.v) := ⟨row_cell XR.out rfl, row_cell XR.out rfl, row_cell XR.out rfl, row_cell XR.out rfl⟩
          go_region_held3 (fun w' => w'.cell? ⟨y, 0, none⟩ = some (.int .i64 ra.x) ∧ w'.cell? ⟨y, 1, none⟩ = some (.int .i64 ra.k) ∧ w'.cell? ⟨y, 2, none⟩ = some (.int .i64 ra.r) ∧ w'.cell? ⟨y, 3, none⟩ = some (.int .u32 ra.v))
            (first
              | exact DD
              | exact D2)
            (first
              | (go_at_call 15; refine (File_get QD.out.P).mono ?_; rintro e V1 ⟨rfl, hV1⟩; subst hV1)
              | (go_at_call 38; refine (set_any QD.out.P ra HV.out).mono ?_; rintro e V2 ⟨⟨er2, rfl⟩, P2, T2⟩; have Q2 := Lib.hid (QD.out.step P2 T2 fun _ e => .inl e); have XR2 := T2.heap nrx.out XR.out; have D2 : V2.cell? ⟨y, 0, none⟩ = some (.int .i64 ra.x) ∧ V2.cell? ⟨y, 1, none⟩ = some (.int .i64 ra.k) ∧ V2.cell? ⟨y, 2, none⟩ = some (.int .i64 ra.r) ∧ V2.cell? ⟨y, 3, none⟩ = some (.int .u32 ra.v) := ⟨row_cell XR2 rfl, row_cell XR2 rfl, row_cell XR2 rfl, row_cell XR2 rfl⟩))
          all_goals
            obtain ⟨d0, d1, d2, d3⟩ := D2
            obtain ⟨q2, r2, ok2, e12, e22, ⟨l2, hl2, hn2⟩, far2⟩ := id Q2.out.q
            have c1 : V2.cell? ⟨z, 1, none⟩ = some (.int .i64 s.n) := by rw [← e22]; exact row_cell r2 rfl
            have c2 : V2.cell? ⟨z, 2, none⟩ = some q2.fs := row_cell r2 rfl
            have HQ2 := Lib.hid (And.intro ok2 (And.intro e12 (And.intro far2 (And.intro r2 hn2))))
            have HL2 := Lib.hid hl2
            have hlj : l2.length ≤ 900 := by omega
            clear P2 T2 XR2 XR DD QD QX QR ok2 e12 e22 hl2 far2 r2 hn2 HV nrx
            go_wp2_with fail
            refine (refSet_any s.n ra q2.fs l2 V2 hnw.out.1 hnw.out.2 hlj HL2.out).mono ?_; rintro e V3 ⟨er3, p3, m3, c3, rfl, hl3, own3, g3⟩
            have Q3 := Lib.hid (Q2.out.bel g3)
            have Z3 := Lib.hid (HQ2.out.2.2.2.1.bel g3)
            have HL3 := Lib.hid hl3
            have OW3 := Lib.hid own3
            have LT : Hid (∀ i, G i → i < V2.heap.size) := Q2.out.P.lt
            clear hl3 own3 g3 d0 d1 d2 d3 c1 c2 Q2
            go_wp2_with (refine q_store rfl _ (.tmp 111) (.tmp 109) rfl q2 { q2 with fn := s.n, fs := .slice p3 m3 c3 } _ _ rfl [.int .i64 s.n, .slice p3 m3 c3] rfl Z3.out (by kernel_rfl) (by intro v hv; simp at hv; rcases hv with rfl | rfl <;> rfl) (Nat.le_of_ble_eq_true rfl) rfl ?_; intro V4 r4 g4)
            obtain ⟨ok2, e12, far2, _, hn2⟩ := HQ2.out
            obtain ⟨l3, hl3, hn3⟩ := HL3.out
            have Q4 := Q3.out.put r4.out g4 ⟨rfl, ok2.ms, ok2.tp, ok2.ts, ok2.ch, ok2.ot⟩ e12 rfl (L' := j + 1) ⟨l3, hl3, by omega⟩ (fun i hi hg => (OW3.out i hi).elim (fun e => far2 i e hg) fun e => by have := LT.out i hg; omega)
            have eM : mRegs (mWim (mPsr ((mPut (mnew s.n s.sz.toNat) s.lw s.fw).jmp s.pc) s.c s.p s.k s.f) s.wim) s.A (j + 1) = mReg (mRegs (mWim (mPsr ((mPut (mnew s.n s.sz.toNat) s.lw s.fw).jmp s.pc) s.c s.p s.k s.f) s.wim) s.A j) ra := by rw [HRA.out]; rfl
            rw [← eM] at Q4
            have Q4 := Lib.hid Q4
            clear r4 g4 ok2 e12 far2 hl3 eM Q3 Z3 HL3
            go_roundw
            case rel => exact ⟨j + 1, HLT.out, by go_num, Q4.out⟩
            case measure => have h9 := HLT.out; simp only [intOf]; omega
        · obtain rfl : j = s.lr := by omega
          go_wp2_with fail
          refine (Choose_at QR.out.P (HS.out.sc.bel QR.out.g) HB.out.fc hlc).mono ?_; rintro e w15 ⟨rfl, x', cs', G', P15, T15, lo15⟩
          have Q15 := Lib.hid (QR.out.step P15 T15 lo15)
          clear P15 T15 lo15 QR x9 x10
          obtain ⟨q15, r15, ok15, e115, e215, hl15, far15⟩ := id Q15.out.q
          have HQ15 := Lib.hid (And.intro ok15 (And.intro e115 (And.intro hl15 (And.intro far15 e215))))
          obtain ⟨_, _, _, _, _, _, _, _, _, _, x10⟩ := Q15.out.cells
          have gA : Below w15.heap.size w15 (w15.alloc (.cells #[] 22)) := bel_alK (Below.refl _ _)
          have sA : (w15.alloc (.cells #[] 22)).heap.size = w15.heap.size + 1 := by simp
          have lw15 : w.heap.size < w15.heap.size := M5.heap_lt Q15.out.X
          have r15 := Lib.hid r15
          have SC := Lib.hid ((HS.out.sc.bel Q15.out.g).bel gA)
          clear ok15 e115 e215 hl15 far15
          go_upto_region 21 with (first
            | (at_builtin; refine ap_any rfl _ _ rfl w15.heap.size rfl (World.ownsRow_made w15 #[] 0 (Nat.le_refl _) (Nat.zero_le _) (by simp)) (by rw [sA]; omega) (.slice pc s.lc cc) s.lc s.fc rfl SC.out hlc ?_; intro p16 m16 c16 w16 gB; have g16 := Lib.hid (gA.grown gB (by rw [sA]; omega) (fun k hk => by cases hk; exact Nat.le_refl _)); clear gB)
            | (refine q_store rfl _ (.tmp 120) (.tmp 119) rfl q15 { q15 with ch := .slice p16 m16 c16 } _ _ rfl [.slice p16 m16 c16] rfl (r15.out.bel g16.out) (by kernel_rfl) (s_one _ _ _) (Nat.le_of_ble_eq_true rfl) rfl ?_; intro V17 r17 g17))
          obtain ⟨ok15, e115, hl15, far15, e215⟩ := HQ15.out
          have Q16 := Lib.hid (Q15.out.bel g16.out)
          have hl16 : ∃ l : List F3.Ent, F3.LAt w16 q15.fs l ∧ l.length ≤ s.lr := by obtain ⟨l, hl, hn⟩ := hl15; exact ⟨l, hl.bel g16.out, hn⟩
          clear x10 SC Q15 gA sA hl15
          go_simp
          have Q17 := Q16.out.put r17.out g17 ⟨ok15.fs, ok15.ms, ok15.tp, ok15.ts, rfl, ok15.ot⟩ e115 e215 (L' := s.lr) hl16 far15
          have Q17 := Lib.hid Q17
          clear g17 Q16
          refine wp_region_any (by kernel_rfl) ?_
          change wpAny _ _ _ _ _ _ _ (World.drew _)
          have QE := Lib.hid (Q17.out.bel (Below.drew (Below.refl _ _)))
          have RE := Lib.hid (r17.out.bel (Below.drew (Below.refl _ _)))
          generalize V17.drew = VE at QE RE ⊢
          refine wpAny_take (i := 0) (v := ?_) rfl (by kernel_rfl) (by kernel_rfl) (by kernel_rfl) (fun _ _ _ h => h) (Or.inl ⟨by rfl, ?_⟩) ?_
          rotate_left
          · (intro W; go_simp; try with_reducible rfl)
          refine wpAny_take (i := 2) (v := ?_) rfl (by kernel_rfl) (by kernel_rfl) (by kernel_rfl) (fun _ _ _ h => h) (Or.inl ⟨by rfl, ?_⟩) ?_
          rotate_left
          · (intro W; go_simp; try with_reducible rfl)
          refine wpAny_ready (rs := [1]) (by kernel_rfl) (by simp) ?_
          refine AllReady.cons rfl (fun K hK => ?_) AllReady.nil
          refine step_load rfl (.tmp 6) rfl z { q15 with ch := .slice p16 m16 c16 } rfl RE.out ?_
          refine hK _ _ ?_
          clear hK K
          refine wpAny_ready (rs := [3]) (by kernel_rfl) (by simp) ?_
          refine AllReady.cons rfl (fun K hK => ?_) AllReady.nil
          refine step_whole rfl (.tmp 3) (.tmp 122) rfl (w.heap.size + 1) rzero { q15 with ch := .slice p16 m16 c16 } rfl rfl QE.out.z2 ⟨ok15.fs, ok15.ms, ok15.tp, ok15.ts, rfl, ok15.ot⟩ ?_
          intro V18 r18 g18
          refine hK _ _ ?_
          clear hK K
          refine wpAny_done (by kernel_rfl) ?_ _
          have T18 : Turns (fun i => i = w.heap.size + 1) VE V18 := Turns.of_only g18.out rfl
          have P18 := Lib.hid (QE.out.P.turns T18 (fun i hi e => QE.out.g2 (e ▸ hi)) (fun i e ht => by have h1 := QE.out.t.lt ht; omega))
          have G18 := Lib.hid (Turns.bel QE.out.g T18 (fun i e => by omega))
          have L18 := Lib.hid QE.out.low
          clear T18 g18 Q17 QE RE
          go_wp2_with fail
          exact q_ret3 rfl rfl r18.out rfl ⟨b, fb, mb, g, x', cs', os, G', _, rfl, ⟨ok15.fs, ok15.ms, ok15.tp, ok15.ts, rfl, ok15.ot⟩, e115, P18.out, G18.out, L18.out⟩
end Go.Proofs.YtlmaikbnjdmhcaaGreatDoor.K6
