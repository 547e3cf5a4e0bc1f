/- MachReturns' arithmetic (layer 6, plain): an interrupt that is taken, and a RETT at once. MachReturns (layer 6), walked: an interrupt that is taken, and a RETT at once. -/
import Derived.Test.YtgbodbejcffclaaGreatDoorMachGA
import Derived.Test.YtgbodbejcffclaaGreatDoorMachGMf
import Derived.Test.YtgbodbejcffclaaGreatDoorMachGJ
namespace Go.Proofs.YtgbodbejcffclaaGreatDoor.K6
open Go.RowKit
set_option linter.unusedVariables false
/-- The machine then: all as it was, but the bank's TPC and TPSR. -/
def sRet (m : MS) (lv : Int) : MS := { m with tpc := F3.upd m.tpc lv.toNat m.pc, tps := F3.upd m.tps lv.toNat m.pw }
theorem pw_back {m : MS} (h : MOk m) : m.pw % 32 = m.cwp ∧ m.pw / 32 % 16 = m.pil ∧ m.pw / 512 % 32 = m.bank ∧ m.pw / 16384 % 16 = m.fl ∧ wst m.pw m.nw = true := by
  have h1 := h.c0
  have h2 := h.c1
  have h3 := h.n32
  have h4 := h.p0
  have h5 := h.p1
  have h6 := h.b0
  have h7 := h.b1
  have h8 := h.f0
  have h9 := h.f1
  have e : m.pw = P4.pword m.cwp m.pil m.bank m.fl := rfl
  unfold P4.pword at e
  refine ⟨by omega, by omega, by omega, by omega, ?_⟩
  unfold wst
  exact decide_eq_true (by omega)
theorem irq_step {m : MS} {lv : Int} (h1 : lv ≤ 15) (hp : m.pil < lv) (hs : m.sk = 0) : mstep m lv = (m.trap lv (16 + lv) m.pc).lvl lv := by
  unfold mstep
  rw [if_neg (by omega), if_pos ⟨h1, hp⟩]
theorem rett_word : I2.dk 2147483648 = true ∧ I2.dO 2147483648 = 32 := ⟨by kernel_rfl, by kernel_rfl⟩
theorem ret_back {m : MS} {lv : Int} (ok : MOk m) (h1 : lv ≤ 15) (hp : m.pil < lv) (hs : m.sk = 0) (hf : thE m.sz (512 + 16 * lv) 4 = 0) (hw : ldB m.f (512 + 16 * lv).toNat 4 = 2147483648) : mstep (mstep m lv) lv = sRet m lv := by
  have h0 := ok.p0
  rw [irq_step h1 hp hs]
  have epc : ((m.trap lv (16 + lv) m.pc).lvl lv).pc = 512 + 16 * lv := by show 256 + 16 * (16 + lv) = _; omega
  have esk : ((m.trap lv (16 + lv) m.pc).lvl lv).sk = 0 := hs
  have epil : ((m.trap lv (16 + lv) m.pc).lvl lv).pil = lv := rfl
  have esz : ((m.trap lv (16 + lv) m.pc).lvl lv).sz = m.sz := rfl
  have ef : ((m.trap lv (16 + lv) m.pc).lvl lv).f = m.f := rfl
  unfold mstep
  rw [if_neg (by rw [esk]; omega), if_neg (by rw [epil]; omega), epc, esz, ef, if_pos hf, hw]
  unfold mWord
  rw [if_pos rett_word.1, rett_word.2]
  unfold mExec
  rw [if_neg (by decide), if_neg (by decide), if_neg (by decide), if_pos (by decide)]
  unfold mState
  have ebank : ((m.trap lv (16 + lv) m.pc).lvl lv).bank = lv := rfl
  have etps : ((m.trap lv (16 + lv) m.pc).lvl lv).tps lv.toNat = m.pw := by show F3.upd m.tps lv.toNat m.pw lv.toNat = _; unfold F3.upd; rw [if_pos rfl]
  have etpc : ((m.trap lv (16 + lv) m.pc).lvl lv).tpc lv.toNat = m.pc := by show F3.upd m.tpc lv.toNat m.pc lv.toNat = _; unfold F3.upd; rw [if_pos rfl]
  have enw : ((m.trap lv (16 + lv) m.pc).lvl lv).nw = m.nw := rfl
  obtain ⟨b1, b2, b3, b4, b5⟩ := pw_back ok
  rw [if_neg (by decide), if_neg (by decide), if_neg (by decide), if_neg (by decide), ebank, if_neg (by omega), if_neg (by decide), if_neg (by decide), etps, etpc, enw, if_pos b5]
  unfold MS.psr MS.jmp sRet
  rw [b1, b2, b3, b4]
  rfl
theorem rld4 (f : Nat → Int) (a : Nat) : ldB f a 4 = 256 * (256 * (256 * (256 * 0 + f (a + 0)) + f (a + 1)) + f (a + 2)) + f (a + 3) := rfl
theorem rld_st4 (f : Nat → Int) (a : Nat) {v : Int} (hv : 0 ≤ v ∧ v < 4294967296) : ldB (stB f a 4 v) a 4 = v := by
  rw [rld4]
  have e0 : stB f a 4 v (a + 0) = v / 16777216 % 256 := by unfold stB; rw [if_pos (by omega), show a + 4 - 1 - (a + 0) = 3 by omega]; rfl
  have e1 : stB f a 4 v (a + 1) = v / 65536 % 256 := by unfold stB; rw [if_pos (by omega), show a + 4 - 1 - (a + 1) = 2 by omega]; rfl
  have e2 : stB f a 4 v (a + 2) = v / 256 % 256 := by unfold stB; rw [if_pos (by omega), show a + 4 - 1 - (a + 2) = 1 by omega]; rfl
  have e3 : stB f a 4 v (a + 3) = v % 256 := by unfold stB; rw [if_pos (by omega), show a + 4 - 1 - (a + 3) = 0 by omega]; simp
  rw [e0, e1, e2, e3]
  omega
end Go.Proofs.YtgbodbejcffclaaGreatDoor.K6
namespace Go.Proofs.YtgbodbejcffclaaGreatDoor.K6
open Go.RowKit
set_option linter.unusedVariables false
theorem psr_f1 (c p k f : Int) (W : World) : Sem.run Tryz.prog (Instr.field 24 (.agg #[.int .u8 c, .int .u8 p, .int .u8 k, .int .u8 f]) 1) W = .ok (.int .u8 p) W := by kernel_rfl
theorem psr_f2 (c p k f : Int) (W : World) : Sem.run Tryz.prog (Instr.field 24 (.agg #[.int .u8 c, .int .u8 p, .int .u8 k, .int .u8 f]) 2) W = .ok (.int .u8 k) W := by kernel_rfl
theorem eq_psrR (x0 x1 x2 x3 : Int) (W : World) : (Op.equalIn 10000 24 (.agg #[.int .u8 x0, .int .u8 x1, .int .u8 x2, .int .u8 x3]) (.agg #[.int .u8 x0, .int .u8 x1, .int .u8 x2, .int .u8 x3])).run Tryz.prog W = .ok true W := by simp [go_sem]
theorem StAt.bel {w w' : World} {s : ST} {vw vr vc : Value} (h : StAt w s vw vr vc) (k : Below w.heap.size w w') : StAt w' s vw vr vc := by
  obtain ⟨h1, ⟨p, c, rfl, h2⟩, h3⟩ := h
  exact ⟨h1.bel k, ⟨p, c, rfl, fun hn => by obtain ⟨b, o, rfl, hc⟩ := h2 hn; exact ⟨b, o, rfl, fun i hi => by obtain ⟨a0, a1, a2, a3⟩ := hc i hi; exact ⟨bel_cell k a0, bel_cell k a1, bel_cell k a2, bel_cell k a3⟩⟩⟩, h3.bel k⟩
theorem mMade_is (s : ST) : (mMade s).nw = s.n ∧ (mMade s).sz = s.sz.toNat ∧ (mMade s).sk = 0 ∧ (mMade s).ol = 0 ∧ (mMade s).cl = s.lc := by
  have h1 : ∀ (m : MS) (a : RG), (mReg m a).nw = m.nw ∧ (mReg m a).sz = m.sz ∧ (mReg m a).sk = m.sk ∧ (mReg m a).ol = m.ol := fun m a => by unfold mReg; split <;> exact ⟨rfl, rfl, rfl, rfl⟩
  have h2 : ∀ (m : MS) (A : Nat → RG) (n : Nat), (mRegs m A n).nw = m.nw ∧ (mRegs m A n).sz = m.sz ∧ (mRegs m A n).sk = m.sk ∧ (mRegs m A n).ol = m.ol := fun m A n => by
    induction n with
    | zero => exact ⟨rfl, rfl, rfl, rfl⟩
    | succ n ih => obtain ⟨a1, a2, a3, a4⟩ := h1 (mRegs m A n) (A n); exact ⟨a1.trans ih.1, a2.trans ih.2.1, a3.trans ih.2.2.1, a4.trans ih.2.2.2⟩
  have h3 : ∀ (m : MS) (u : Int), (mWim m u).nw = m.nw ∧ (mWim m u).sz = m.sz ∧ (mWim m u).sk = m.sk ∧ (mWim m u).ol = m.ol := fun m u => by unfold mWim; split <;> exact ⟨rfl, rfl, rfl, rfl⟩
  have h4 : ∀ (m : MS) (c p k f : Int), (mPsr m c p k f).nw = m.nw ∧ (mPsr m c p k f).sz = m.sz ∧ (mPsr m c p k f).sk = m.sk ∧ (mPsr m c p k f).ol = m.ol := fun m c p k f => by unfold mPsr; split <;> exact ⟨rfl, rfl, rfl, rfl⟩
  have h5 : ∀ (m : MS) (l : Nat) (f : Nat → Int), (mPut m l f).nw = m.nw ∧ (mPut m l f).sz = m.sz ∧ (mPut m l f).sk = m.sk ∧ (mPut m l f).ol = m.ol := fun m l f => by unfold mPut; split <;> exact ⟨rfl, rfl, rfl, rfl⟩
  unfold mMade
  obtain ⟨a1, a2, a3, a4⟩ := h2 (mWim (mPsr ((mPut (mnew s.n s.sz.toNat) s.lw s.fw).jmp s.pc) s.c s.p s.k s.f) s.wim) s.A s.lr
  obtain ⟨b1, b2, b3, b4⟩ := h3 (mPsr ((mPut (mnew s.n s.sz.toNat) s.lw s.fw).jmp s.pc) s.c s.p s.k s.f) s.wim
  obtain ⟨c1, c2, c3, c4⟩ := h4 ((mPut (mnew s.n s.sz.toNat) s.lw s.fw).jmp s.pc) s.c s.p s.k s.f
  obtain ⟨d1, d2, d3, d4⟩ := h5 (mnew s.n s.sz.toNat) s.lw s.fw
  exact ⟨a1.trans (b1.trans (c1.trans d1)), a2.trans (b2.trans (c2.trans d2)), a3.trans (b3.trans (c3.trans d3)), a4.trans (b4.trans (c4.trans d4)), rfl⟩
theorem window_k {w : World} {b fb mb g x : Nat} {cs os : Value} {G : Nat → Prop} {m : MS} (h : MachP w b fb mb g x cs os G m) (k : Nat) (hk : (k : Int) < m.nw) :
    Calls Tryz.prog 28 #[.pointer (some ⟨fb, 0, none⟩), .int .i64 k] w fun e w' => ∃ sb, e = .returned (.tuple #[.slice (some ⟨sb, 0, none⟩) 16 16, .int .i64 0]) ∧ Sl .u32 w' (.slice (some ⟨sb, 0, none⟩) 16 16) 16 (fun i => m.R (k * 16 + i)) ∧ Below w.heap.size w w' := by
  refine (F3.window_at fb m.nw k m.R w h.file h.ok.n2 h.ok.n32 (by omega) hk).mono ?_
  rintro e w' ⟨rfl, gr, hrow⟩
  exact ⟨_, rfl, ⟨_, _, rfl, fun _ => ⟨_, 0, rfl, fun i hi => row_cell hrow (by simp [F3.wl, hi])⟩⟩, gr⟩
theorem mem_bel {w : World} {b fb mb g x : Nat} {cs os : Value} {G : Nat → Prop} {m : MS} (h : MachP w b fb mb g x cs os G m) : Calls Tryz.prog 21 #[.pointer (some ⟨b, 0, none⟩)] w fun e w' => e = .returned (.pointer (some ⟨mb, 0, none⟩)) ∧ Below w.heap.size w w' :=
  (Mem_get h).mono fun e w' ⟨h1, h2⟩ => ⟨h1, h2 ▸ Below.refl _ _⟩
theorem words_all {w : World} {b fb mb g x : Nat} {cs os : Value} {G : Nat → Prop} {m : MS} (h : MachP w b fb mb g x cs os G m) (n : Nat) (hn : n = m.sz / 4) :
    Calls Tryz.prog 22 #[.pointer (some ⟨mb, 0, none⟩), .int .u32 0, .int .i64 n] w fun e w' => ∃ s, e = .returned (.tuple #[s, .int .i64 0]) ∧ Sl .u32 w' s n (M5.wdB m.f 0) ∧ Below w.heap.size w w' :=
  M5.words_yes 0 n h.mem (by unfold spE; rw [if_neg (by omega), if_neg (by omega), if_neg (by omega)])
set_option maxRecDepth 100000 in
set_option maxHeartbeats 8000000 in
theorem returns_walk {w : World} (s : ST) {vw vr vc : Value} (lv : Int) (hb : STB s) (hs : StAt w s vw vr vc) (hT : Tabs w) (hl : 0 ≤ lv ∧ lv < 256) :
    Calls Tryz.prog 5 #[.agg (srow s vw vr vc), .int .u8 lv] w fun e w' => e = .returned (.bool true) ∧ Below w.heap.size w w' := by
  obtain ⟨pw, cw, rfl, _⟩ := id hs.sw
  obtain ⟨pr, cr, rfl, _⟩ := id hs.sr
  obtain ⟨pc, cc, rfl⟩ : ∃ p c, vc = .slice p s.lc c := by
    rcases hs.sc with ⟨rfl, h0⟩ | ⟨a, c, rfl, _⟩
    · exact ⟨none, 0, by rw [h0]⟩
    · exact ⟨_, _, rfl⟩
  have hX : Hid ((w.alloc (.cells (srow s (.slice pw s.lw cw) (.slice pr s.lr cr) (.slice pc s.lc cc)) 28)).heap[w.heap.size]? = some (.cells (srow s (.slice pw s.lw cw) (.slice pr s.lr cr) (.slice pc s.lc cc)) 28 (0, 0))) := heap_alloc_last _ _
  have gX : Hid (Below w.heap.size w (w.alloc (.cells (srow s (.slice pw s.lw cw) (.slice pr s.lr cr) (.slice pc s.lc cc)) 28))) := bel_alK (Below.refl _ _)
  have HB := Lib.hid hb
  have HS := Lib.hid (hs.bel gX.out)
  have HT := Lib.hid (hT.bel gX.out)
  have hl0 := hl.1
  have hl1 := hl.2
  have hf1 := psr_f1
  have hf2 := psr_f2
  have heq := eq_psrR
  clear hb hs hT
  go_enter Tryz.func5, Tryz.ntmps5
  go_upto_region 1 with (fail)
  change Code.wp _ _ _ _ (w.alloc (.cells (srow s (.slice pw s.lw cw) (.slice pr s.lr cr) (.slice pc s.lc cc)) 28))
  generalize w.alloc (.cells (srow s (.slice pw s.lw cw) (.slice pr s.lr cr) (.slice pc s.lc cc)) 28) = V at hX gX HS HT ⊢
  have rx : ∀ W : World, Below V.heap.size V W → W.cell? ⟨w.heap.size, 0, none⟩ = some (.int .i64 s.n) ∧ W.cell? ⟨w.heap.size, 1, none⟩ = some (.int .i64 s.sz) ∧ W.cell? ⟨w.heap.size, 2, none⟩ = some (.int .u32 s.pc) ∧ W.cell? ⟨w.heap.size, 3, none⟩ = some (.int .u8 s.c) ∧ W.cell? ⟨w.heap.size, 4, none⟩ = some (.int .u8 s.p) ∧ W.cell? ⟨w.heap.size, 5, none⟩ = some (.int .u8 s.k) ∧ W.cell? ⟨w.heap.size, 6, none⟩ = some (.int .u8 s.f) ∧ W.cell? ⟨w.heap.size, 7, none⟩ = some (.int .u32 s.wim) ∧ W.cell? ⟨w.heap.size, 8, none⟩ = some (.slice pw s.lw cw) ∧ W.cell? ⟨w.heap.size, 9, none⟩ = some (.slice pr s.lr cr) ∧ W.cell? ⟨w.heap.size, 10, none⟩ = some (.slice pc s.lc cc) := fun W k => by
    have h := bel_heap k hX.out
    exact ⟨row_cell h rfl, row_cell h rfl, row_cell h rfl, row_cell h rfl, row_cell h rfl, row_cell h rfl, row_cell h rfl, row_cell h rfl, row_cell h rfl, row_cell h rfl, row_cell h rfl⟩
  have RX := Lib.hid rx
  clear rx
  obtain ⟨x0, x1, x2, x3, x4, x5, x6, x7, x8, x9, x10⟩ := RX.out V (Below.refl _ _)
  go_wp2_with fail
  refine (great6_at s HS.out).mono ?_; rintro e w1 ⟨rfl, g1⟩
  have G1 := Lib.hid g1
  clear g1 x0 x1 x2 x3 x4 x5 x6 x7 x8 x9 x10
  have HEAD : Hid (∀ W : World, Below V.heap.size V W → Calls Tryz.prog 11 #[] W fun e w' => e = .returned (.bool true) ∧ Below w.heap.size w w') := fun W k => (head_at W (HT.out.bel k)).mono fun e w' ⟨h1, h2⟩ => ⟨h1, bel_trans gX.out (bel_trans k h2)⟩
  cases hgr : great6 s
  · have hb9 := of_decide_eq_false hgr
    obtain ⟨x0, x1, x2, x3, x4, x5, x6, x7, x8, x9, x10⟩ := RX.out w1 G1.out
    by_cases hm : s.may
    · go_wp2_with fail
      refine (made_yes s HB.out (HS.out.bel G1.out) hm (HT.out.bel G1.out) (by omega) (by omega) (by omega)).mono ?_; rintro e w2 ⟨b, fb, mb, g, x, cs, os, G, q, rfl, qok, hqn, P2, g2, low2⟩
      have P2 := Lib.hid P2
      have G2 := Lib.hid (bel_trans G1.out g2)
      have L2 : Hid (∀ i, G i → V.heap.size ≤ i) := fun i hi => Nat.le_trans G1.out.size (low2 i hi)
      have HQ := Lib.hid qok
      clear g2 low2 x0 x1 x2 x3 x4 x5 x6 x7 x8 x9 x10 qok
      go_upto_region 4 with (first
        | (refine q_alloc rfl (some 6) rfl (by kernel_rfl) ?_; intro V4 r4 b4 s4)
        | (refine q_whole rfl (.tmp 6) (.tmp 26) rfl w2.heap.size rzero q rfl rfl r4.out HQ.out ?_; intro V5 z5 g5))
      have k5 := only_bel b4 g5.out (Nat.le_refl _)
      have P5 := Lib.hid (P2.out.bel k5)
      have G5 := Lib.hid (bel_trans G2.out k5)
      clear r4 b4 s4 z5 g5 k5 P2 G2 HQ
      obtain ⟨e1, e2, e3, e4, e5⟩ := mMade_is s
      obtain ⟨σ, hσ⟩ : ∃ σ, σ = mMade s := ⟨_, rfl⟩
      rw [← hσ] at P5 e1 e2 e3 e4 e5
      have HE := Lib.hid (And.intro e1 (And.intro e2 (And.intro e3 (And.intro e4 e5))))
      clear e1 e2 e3 e4 e5 hσ
      go_simp
      by_cases h15 : 15 < lv
      · go_wp2_with fail
        refine (HEAD.out V5 G5.out).mono ?_; rintro e w6 ⟨rfl, g6⟩
        have G6 := Lib.hid g6
        clear g6
        go_wp2_with fail
        go_ret
        exact ⟨rfl, G6.out⟩
      · have hp0 := P5.out.ok.p0
        have hp1 := P5.out.ok.p1
        go_wp2_with fail
        refine (Psr_get P5.out).mono ?_; rintro e w6 ⟨rfl, g6⟩
        have P6 := Lib.hid (P5.out.bel g6)
        have G6 := Lib.hid (bel_trans G5.out g6)
        clear g6 P5 G5
        by_cases hle : lv ≤ σ.pil
        ·
          go_wp2_with fail
          refine (HEAD.out w6 G6.out).mono ?_; rintro e w7 ⟨rfl, g7⟩
          have G7 := Lib.hid g7
          clear g7
          go_wp2_with fail
          go_ret
          exact ⟨rfl, G7.out⟩
        · have hlt : σ.pil < lv := by omega
          go_wp2_with fail
          refine (Mem_get P6.out).mono ?_; rintro e w7 ⟨rfl, h7⟩; subst h7
          go_wp2_with fail
          have hwd : wof ⟨0, 32, 0, 0, 0, false, 0, 0, 0⟩ = 2147483648 := by kernel_rfl
          have WA := word_at ⟨0, 32, 0, 0, 0, false, 0, 0, 0⟩ w6 ⟨by decide, by decide, by decide, by decide, by decide⟩
          rw [hwd] at WA
          refine WA.mono ?_; rintro e w8 ⟨rfl, g8⟩
          have P8 := Lib.hid (P6.out.bel g8)
          have G8 := Lib.hid (bel_trans G6.out g8)
          clear g8 P6 G6 WA hwd
          go_wp2_with fail
          obtain ⟨an, han⟩ : ∃ an : Nat, (an : Int) = 512 + 16 * lv := ⟨(512 + 16 * lv).toNat, by omega⟩
          by_cases hth : thE σ.sz (512 + 16 * lv) 4 = 0
          · have C := M5.store_yes an 4 2147483648 P8.out.mem ⟨by decide, by decide⟩ (by rw [han]; exact hth)
            rw [han] at C
            refine C.mono ?_; rintro e w9 ⟨rfl, M9, g9⟩
            have P9 := P8.out.memd g9 M9
            have G9 := Lib.hid (only_bel G8.out g9 (L2.out _ P8.out.gg))
            obtain ⟨τ, hτ⟩ : ∃ τ, τ = { σ with f := stB σ.f an 4 2147483648 } := ⟨_, rfl⟩
            rw [← hτ] at P9
            have P9 := Lib.hid P9
            have hsk : Hid (τ.sk = 0) := by rw [hτ]; exact HE.out.2.2.1
            have hol : Hid (τ.ol = 0) := by rw [hτ]; exact HE.out.2.2.2.1
            have hcl : Hid (τ.cl = s.lc) := by rw [hτ]; exact HE.out.2.2.2.2
            have hnw : Hid (τ.nw = s.n) := by rw [hτ]; exact HE.out.1
            have hsz : Hid (τ.sz = s.sz.toNat) := by rw [hτ]; exact HE.out.2.1
            have hpl : Hid (τ.pil < lv) := by rw [hτ]; exact hlt
            have hth' : Hid (thE τ.sz (512 + 16 * lv) 4 = 0) := by rw [hτ]; exact hth
            have hld : Hid (ldB τ.f (512 + 16 * lv).toNat 4 = 2147483648) := by
              have e : (512 + 16 * lv).toNat = an := by omega
              rw [e, hτ]
              exact rld_st4 _ _ ⟨by decide, by decide⟩
            have h15' : lv ≤ 15 := by omega
            have HOK : Hid (MOk τ) := P9.out.ok
            have A9 : Hid (AllM V w9 [⟨b, G, τ⟩]) := (AllM.none HT.out).add G9.out P9.out.b L2.out
            clear C M9 g9 hτ P8 G8 hth han
            go_wp2_with fail
            have hclb : τ.cl ≤ 1000000 := by rw [hcl.out]; omega
            have holb : τ.ol ≤ 1000000 := by rw [hol.out]; omega
            refine (Copy_at P9.out hclb holb).mono ?_; rintro e w10 ⟨c, fb', mb', g', x', cs', os', G', rfl, P10, _, g10, lo10⟩
            have A10 : Hid (AllM V w10 [⟨b, G, τ⟩, ⟨c, G', τ⟩]) := A9.out.add g10 P10.b lo10
            clear P9 A9 P10 g10 lo10 G9
            go_wp2_with fail
            have E1 := irq_step h15' hpl.out hsk.out
            have ks1 : (mstep τ lv).sk = 0 := by rw [E1]; exact hsk.out
            refine (all_step lv A10.out (j := 0) rfl hl0 hl1 holb (fun _ _ _ => trivial) ks1 rfl).mono ?_; rintro e w11 ⟨rfl, G1', A11, _⟩
            have A11 : Hid (AllM V w11 [⟨b, G1', mstep τ lv⟩, ⟨c, G', τ⟩]) := A11
            clear A10
            have q1 : (mstep τ lv).cwp = τ.cwp := by rw [E1]; rfl
            have q2 : (mstep τ lv).pil = lv := by rw [E1]; rfl
            have q3 : (mstep τ lv).bank = lv := by rw [E1]; rfl
            have q4 : (mstep τ lv).fl = τ.fl := by rw [E1]; rfl
            have q5 : (mstep τ lv).pc = 512 + 16 * lv := by rw [E1]; show 256 + 16 * (16 + lv) = _; omega
            have q6 : (mstep τ lv).ol ≤ 1000000 := by rw [E1]; exact holb
            have E2 := ret_back HOK.out h15' hpl.out hsk.out hth'.out hld.out
            have ks2 : (mstep (mstep τ lv) lv).sk = 0 := by rw [E2]; exact hsk.out
            have QQ := Lib.hid (And.intro q1 (And.intro q2 (And.intro q3 (And.intro q4 (And.intro q5 (And.intro q6 (And.intro E2 ks2)))))))
            clear q1 q2 q3 q4 q5 q6 E1 E2 ks1 ks2
            generalize (mstep τ lv).sv = sv1
            have B11 : Hid (AllM V (w11.alloc (.cells #[.int .u8 0, .int .u32 sv1] 37)) [⟨b, G1', mstep τ lv⟩, ⟨c, G', τ⟩]) := A11.out.more (bel_alK (Below.refl _ _))
            clear A11
            go_wp2_with fail
            refine (all_psr B11.out (j := 0) rfl QQ.out.1 QQ.out.2.1 QQ.out.2.2.1 QQ.out.2.2.2.1).mono ?_; rintro e w12 ⟨rfl, A12, _⟩
            have A12 := Lib.hid A12
            clear B11
            go_wp2_with fail
            refine (all_psr A12.out (j := 0) rfl QQ.out.1 QQ.out.2.1 QQ.out.2.2.1 QQ.out.2.2.2.1).mono ?_; rintro e w13 ⟨rfl, A13, _⟩
            have A13 := Lib.hid A13
            clear A12
            go_wp2_with fail
            refine (all_pc A13.out (j := 0) rfl QQ.out.2.2.2.2.1).mono ?_; rintro e w14 ⟨rfl, A14⟩
            have A14 := Lib.hid A14
            clear A13
            go_wp2_with fail
            refine (all_step lv A14.out (j := 0) rfl hl0 hl1 QQ.out.2.2.2.2.2.1 (fun _ _ _ => trivial) QQ.out.2.2.2.2.2.2.2 rfl).mono ?_; rintro e w15 ⟨rfl, G2', A15, _⟩
            have A15 : Hid (AllM V w15 [⟨b, G2', mstep (mstep τ lv) lv⟩, ⟨c, G', τ⟩]) := A15
            generalize (mstep (mstep τ lv) lv).sv = sv2
            have B15 : AllM V (w15.alloc (.cells #[.int .u8 0, .int .u32 sv2] 37)) [⟨b, G2', mstep (mstep τ lv) lv⟩, ⟨c, G', τ⟩] := A15.out.more (bel_alK (Below.refl _ _))
            rw [QQ.out.2.2.2.2.2.2.1] at B15
            have B15 := Lib.hid B15
            clear A15 A14 QQ
            go_wp2_with fail
            refine (all_pc B15.out (j := 0) rfl (v := τ.pc) rfl).mono ?_; rintro e w16 ⟨rfl, A16⟩
            have A16 := Lib.hid A16
            clear B15
            go_wp2_with fail
            refine (all_pc A16.out (j := 1) rfl (v := τ.pc) rfl).mono ?_; rintro e w17 ⟨rfl, A17⟩
            have A17 := Lib.hid A17
            clear A16
            go_wp2_with fail
            refine (all_psr A17.out (j := 0) rfl (c := τ.cwp) (p := τ.pil) (k := τ.bank) (f := τ.fl) rfl rfl rfl rfl).mono ?_; rintro e w18 ⟨rfl, A18, _⟩
            have A18 := Lib.hid A18
            clear A17
            go_wp2_with fail
            refine (all_psr A18.out (j := 1) rfl (c := τ.cwp) (p := τ.pil) (k := τ.bank) (f := τ.fl) rfl rfl rfl rfl).mono ?_; rintro e w19 ⟨rfl, A19, _⟩
            have A19 := Lib.hid A19
            clear A18
            go_wp2_with fail
            refine (all_wim A19.out (j := 0) rfl (v := τ.wim) rfl).mono ?_; rintro e w20 ⟨rfl, A20⟩
            have A20 := Lib.hid A20
            clear A19
            go_wp2_with fail
            refine (all_wim A20.out (j := 1) rfl (v := τ.wim) rfl).mono ?_; rintro e w21 ⟨rfl, A21⟩
            have A21 := Lib.hid A21
            clear A20
            go_wp2_with fail
            go_loopw [10] (fun i wr => ∃ k : Nat, k ≤ s.n.toNat ∧ i = .int .i64 k ∧ AllM V wr [⟨b, G2', sRet τ lv⟩, ⟨c, G', τ⟩]) (fun i _ => s.n.toNat - (intOf i).toNat)
            case atStart => exact ⟨0, Nat.zero_le _, rfl, A21.out⟩
            case round =>
              obtain ⟨k, hk, rfl, A⟩ := hrel
              have A := Lib.hid A
              have hn32 : s.n ≤ 32 := by have := HOK.out.n32; have := hnw.out; omega
              have hn2 : 2 ≤ s.n := by have := HOK.out.n2; have := hnw.out; omega
              obtain ⟨x0, x1, x2, x3, x4, x5, x6, x7, x8, x9, x10⟩ := RX.out wr A.out.bel
              by_cases hlt : (k : Int) < s.n
              · obtain ⟨fa, ma, ga, xa, ca, oa, PA⟩ := A.out.at' 0 _ rfl
                go_wp2_with fail
                refine (File_get PA).mono ?_; rintro e W ⟨rfl, rfl⟩
                go_wp2_with fail
                refine (window_k PA k (by show _ < τ.nw; rw [hnw.out]; exact hlt)).mono ?_; rintro e v1 ⟨sb, rfl, S1, k1⟩
                have S1 := Lib.hid S1
                have B1 := Lib.hid (A.out.more k1)
                clear PA k1 A
                obtain ⟨fa, ma, ga, xa, ca, oa, PA⟩ := B1.out.at' 1 _ rfl
                go_wp2_with fail
                refine (File_get PA).mono ?_; rintro e W ⟨rfl, rfl⟩
                go_wp2_with fail
                refine (window_k PA k (by rw [hnw.out]; exact hlt)).mono ?_; rintro e v2 ⟨sc, rfl, S2, k2⟩
                have S2 := Lib.hid S2
                have S1 := Lib.hid (S1.out.bel k2)
                have B2 := Lib.hid (B1.out.more k2)
                clear PA k2 B1
                have HSame := Lib.hid (M5.words_same _ _ 16 _ _ _ (by decide) S1.out S2.out (fun i hi => rfl))
                go_wp2_with fail
                refine HSame.out.mono ?_; rintro e v3 ⟨rfl, k3⟩
                have B3 := Lib.hid (B2.out.more k3)
                clear HSame S1 S2 B2 k3
                go_wp2_with fail
                go_roundw
                case rel => exact ⟨k + 1, by omega, by go_num, B3.out⟩
                case measure => simp [intOf]; omega
              · go_wp2_with fail
                obtain ⟨z4, hz4⟩ : ∃ z4 : Nat, z4 = τ.sz / 4 := ⟨_, rfl⟩
                have hzz := hsz.out
                have hm1 : M5.MaySize s.sz := hm.2.2
                have hs0 : 0 ≤ s.sz ∧ s.sz < 9223372036854775808 := by obtain ⟨h1, h2, _⟩ := hm1; omega
                have hq : s.sz.tdiv 4 = (z4 : Int) := by rw [Int.tdiv_eq_ediv_of_nonneg hs0.1]; omega
                have hqw : IntKind.i64.wrap (z4 : Int) = (z4 : Int) := IntWalk.i64_in _ (by omega)
                have HZ4 := Lib.hid hz4
                clear hz4
                clear hzz hm1
                obtain ⟨fa, ma, ga, xa, ca, oa, PA⟩ := A.out.at' 0 _ rfl
                have PA := Lib.hid PA
                have HD : Hid (∀ W : World, Below wr.heap.size wr W → W.cell? ⟨w.heap.size, 1, none⟩ = some (.int .i64 s.sz)) := fun W k => bel_cell k x1
                have GD : Below wr.heap.size wr wr.drew := Below.drew (Below.refl _ _)
                have DD := HD.out _ GD
                have CM := Lib.hid (fun (W : World) (k : Below wr.heap.size wr W) => mem_bel (PA.out.bel k))
                have CW := Lib.hid (fun (W : World) (k : Below wr.heap.size wr W) => words_all (PA.out.bel k) z4 HZ4.out)
                clear x0 x1 x2 x3 x4 x5 x6 x7 x8 x9 x10
                go_region_held3 (fun W => W.cell? ⟨w.heap.size, 1, none⟩ = some (.int .i64 s.sz))
                  (first
                    | exact DD
                    | exact D1
                    | exact D2)
                  (first
                    | (go_at_call 21; refine (CM.out _ ?_).mono ?_; exact GD; rintro e W1 ⟨rfl, g1⟩; have G1 := bel_trans GD g1; have D1 := HD.out _ G1; clear g1)
                    | (go_at_call 22; refine (CW.out _ ?_).mono ?_; exact G1; rintro e W2 ⟨sl, rfl, SL, g2⟩; have G2 := bel_trans G1 g2; have D2 := HD.out _ G2; clear g2))
                all_goals
                  have SL := Lib.hid SL
                  have A2 := Lib.hid (A.out.more G2)
                  have X1 := Lib.hid (HD.out _ G2)
                  clear A HD DD D1 D2 CM CW PA G1 G2
                  go_wp2_with fail
                  obtain ⟨fa, ma, ga, xa, ca, oa, PB⟩ := A2.out.at' 1 _ rfl
                  have PB := Lib.hid PB
                  have GD : Below W2.heap.size W2 W2.drew := Below.drew (Below.refl _ _)
                  have HD : Hid (∀ W : World, Below W2.heap.size W2 W → W.cell? ⟨w.heap.size, 1, none⟩ = some (.int .i64 s.sz)) := fun W k => bel_cell k X1.out
                  have DD := HD.out _ GD
                  have CM := Lib.hid (fun (W : World) (k : Below W2.heap.size W2 W) => mem_bel (PB.out.bel k))
                  have CW := Lib.hid (fun (W : World) (k : Below W2.heap.size W2 W) => words_all (PB.out.bel k) z4 HZ4.out)
                  go_region_held3 (fun W => W.cell? ⟨w.heap.size, 1, none⟩ = some (.int .i64 s.sz))
                    (first
                      | exact DD
                      | exact D3
                      | exact D4)
                    (first
                      | (go_at_call 21; refine (CM.out _ ?_).mono ?_; exact GD; rintro e W3 ⟨rfl, g3⟩; have G3 := bel_trans GD g3; have D3 := HD.out _ G3; clear g3)
                      | (go_at_call 22; refine (CW.out _ ?_).mono ?_; exact G3; rintro e W4 ⟨sk, rfl, SK, g4⟩; have G4 := bel_trans G3 g4; have D4 := HD.out _ G4; clear g4))
                  all_goals
                    have SK := Lib.hid SK
                    have SL := Lib.hid (SL.out.bel G4)
                    have A4 := Lib.hid (A2.out.more G4)
                    clear A2 HD DD D3 D4 CM CW PB G3 G4 X1
                    have HSame := Lib.hid (M5.words_same _ _ z4 _ _ _ (by have := HZ4.out; have := HOK.out.sz; omega) SL.out SK.out (fun i hi => rfl))
                    go_wp2_with fail
                    refine HSame.out.mono ?_; rintro e W5 ⟨rfl, k5⟩
                    have A5 := Lib.hid (A4.out.more k5)
                    clear HSame SL SK A4 k5
                    go_wp2_with fail
                    refine (all_out A5.out (j := 0) rfl (by show τ.ol ≤ 1000000; rw [hol.out]; decide)).mono ?_; rintro e W6 ⟨so, rfl, SO, A6, _⟩
                    have SO : Sl .u32 W6 so 0 τ.out := by rw [← hol.out]; exact SO
                    obtain ⟨po, co, rfl, _⟩ := SO
                    have B6 := Lib.hid A6.bel
                    have T6 := Lib.hid A6.tab
                    clear A6 A5
                    go_wp2_with fail
                    refine (HEAD.out W6 B6.out).mono ?_; rintro e W7 ⟨rfl, g7⟩
                    have B7 := Lib.hid g7
                    clear g7
                    go_wp2_with fail
                    go_ret
                    exact ⟨rfl, B7.out⟩
          · have C := M5.store_no an 4 2147483648 P8.out.mem ⟨by omega, by omega⟩ (by rw [han]; exact hth)
            rw [han] at C
            have hne : (thE σ.sz (512 + 16 * lv) 4 != 0) = true := by simpa using hth
            refine C.mono ?_; rintro e w9 ⟨rfl, g9⟩
            have G9 := Lib.hid (bel_trans G8.out g9)
            clear C g9 P8 G8
            go_wp2_with fail
            refine (HEAD.out w9 G9.out).mono ?_; rintro e w10 ⟨rfl, g10⟩
            have G10 := Lib.hid g10
            clear g10
            go_wp2_with fail
            go_ret
            exact ⟨rfl, G10.out⟩
    · go_wp2_with fail
      refine (made_no s (HS.out.bel G1.out) hm).mono ?_; rintro e w2 ⟨rfl, g2⟩
      have G2 := Lib.hid (bel_trans G1.out g2)
      clear g2 x0 x1 x2 x3 x4 x5 x6 x7 x8 x9 x10
      go_upto_region 4 with (first
        | (refine q_alloc rfl (some 6) rfl (by kernel_rfl) ?_; intro V4 r4 b4 s4)
        | (refine q_whole rfl (.tmp 6) (.tmp 26) rfl w2.heap.size rzero rzero rfl rfl r4.out rzero_ok ?_; intro V5 z5 g5))
      have G5 := Lib.hid (bel_trans G2.out (only_bel b4 g5.out (Nat.le_refl _)))
      clear r4 b4 s4 z5 g5
      go_simp
      go_wp2_with fail
      refine (HEAD.out V5 G5.out).mono ?_; rintro e w6 ⟨rfl, g6⟩
      have G6 := Lib.hid g6
      clear g6
      go_wp2_with fail
      go_ret
      exact ⟨rfl, G6.out⟩
  · go_wp2_with fail
    refine (HEAD.out w1 G1.out).mono ?_; rintro e w2 ⟨rfl, g2⟩
    have G2 := Lib.hid g2
    clear g2
    go_wp2_with fail
    go_ret
    exact ⟨rfl, G2.out⟩
end Go.Proofs.YtgbodbejcffclaaGreatDoor.K6
