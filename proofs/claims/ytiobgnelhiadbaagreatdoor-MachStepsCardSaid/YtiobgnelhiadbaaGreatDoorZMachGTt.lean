/- MachSteps (layer 6), walked: step by step. -/
import Derived.Test.YtiobgnelhiadbaaGreatDoorZMachGTs
import Derived.Test.YtiobgnelhiadbaaGreatDoorZMachGMs
import Derived.Test.YtiobgnelhiadbaaGreatDoorZMachGMf
import Derived.Test.YtiobgnelhiadbaaGreatDoorZMachGJ
import Derived.Test.YtiobgnelhiadbaaGreatDoorZMachGL
import Derived.Test.YtiobgnelhiadbaaGreatDoorZMachGLo
import Derived.Test.YtiobgnelhiadbaaGreatDoorZMachGRp
namespace Go.Proofs.YtiobgnelhiadbaaGreatDoor.K6
open Go.RowKit
set_option linter.unusedVariables false
/-- Between two rounds: a machine, and the document's in the box z. -/
structure SR (V W : World) (z b : Nat) (μ : MS) (L : Nat) : Prop where
  P : ∃ fb mb g x cs os G, MachP W b fb mb g x cs os G μ ∧ (∀ i, G i → V.heap.size ≤ i) ∧ ¬ G z
  q : ∃ (F : Far) (q : RV), RowQ W z q ∧ @RefAt F W q μ L
  g : Below V.heap.size V W
  zV : V.heap.size ≤ z
/-- Behind a step of the copy c: since U only c's blocks have turned. -/
def SD (U : World) (c : Nat) (Gc : Nat → Prop) (m' : MS) (w' : World) : Prop := ∃ fb mb g x cs os Gs, MachP w' c fb mb g x cs os Gs m' ∧ (∀ i, Gs i → Gc i ∨ U.heap.size ≤ i) ∧ Turns Gc U w'
theorem SD.more {U w' w'' : World} {c : Nat} {Gc : Nat → Prop} {m' : MS} (h : SD U c Gc m' w') (k : Below w'.heap.size w' w'') : SD U c Gc m' w'' := by
  obtain ⟨fb, mb, g, x, cs, os, Gs, P, lo, T⟩ := h
  exact ⟨fb, mb, g, x, cs, os, Gs, P.bel k, lo, T.trans (G' := fun _ => False) (Turns.of_bel k) (fun _ e => e.elim)⟩
theorem step_sd {U W : World} {c fb mb g x : Nat} {cs os : Value} {Gc : Nat → Prop} {m : MS} (P : MachP U c fb mb g x cs os Gc m) (k : Below U.heap.size U W) (lv : Int) (h0 : 0 ≤ lv) (h1 : lv < 256) (hol : m.ol ≤ 1000000) :
    Calls Tryz.prog 15 #[.pointer (some ⟨c, 0, none⟩), .int .u8 lv] W fun e w' => e = .returned (.agg #[.int .u8 (mstep m lv).sk, .int .u32 (mstep m lv).sv]) ∧ SD U c Gc (mstep m lv) w' :=
  (Step_at lv (P.bel k) h0 h1 hol (fun _ _ _ => trivial)).mono fun e w' ⟨e1, G', ⟨fb', mb', g', x', cs', os', P'⟩, T, lo⟩ => ⟨e1, fb', mb', g', x', cs', os', G', P', fun i hi => (lo i hi).imp id fun e => Nat.le_trans k.size e, (Turns.of_bel k).trans T (fun i hi => .inl hi)⟩
/-- The document's step. -/
theorem ref_step {F : Far} {W : World} {q : RV} {m : MS} {L : Nat} (A : @RefAt F W q m L) (hm : MOk m) (hL : L ≤ 900) (lv : Int) (h0 : 0 ≤ lv) (hol : m.ol ≤ 100000) (hcl : m.cl ≤ 1000) :
    Calls Tryz.prog 14 #[.agg (rrow q), .int .u8 lv] W fun e w' => ∃ q', e = .returned (.agg (rrow q')) ∧ @RefAt F w' q' (mstep m lv) (L + 1) ∧ Below W.heap.size W w' :=
  step_ref q m L lv W A hm hL h0 hol hcl
/-- same, behind the copy's step. -/
theorem same_sd {F : Far} {U W : World} {c : Nat} {m' : MS} {q : RV} {L : Nat} (h : SD U c F.G m' W) (A : @RefAt F U q m' L) (hL : L ≤ 900) (hol : m'.ol ≤ 1000000) :
    Calls Tryz.prog 16 #[.pointer (some ⟨c, 0, none⟩), .agg (rrow q)] W fun e w' => e = .returned (.bool true) ∧ Below W.heap.size W w' := by
  obtain ⟨fb, mb, g, x, cs, os, Gs, P, lo, T⟩ := h
  exact same_at (F := ⟨Gs, W.heap.size, P.lt⟩) P (RefAt.to (F' := ⟨Gs, W.heap.size, P.lt⟩) A T lo (Nat.le_refl _)) hL hol
/-- The first one is as it was. -/
theorem same_old {F : Far} {U W : World} {b c : Nat} {m m' : MS} {q : RV} {L : Nat} {fb mb g x : Nat} {cs os : Value} {Gm : Nat → Prop} (h : SD U c F.G m' W) (P : MachP U b fb mb g x cs os Gm m) (hd : ∀ i, Gm i → ¬ F.G i) (ht : ∀ i, F.G i → ¬ isTab i) (A : @RefAt F U q m L) (hL : L ≤ 900) (hol : m.ol ≤ 1000000) :
    Calls Tryz.prog 16 #[.pointer (some ⟨b, 0, none⟩), .agg (rrow q)] W fun e w' => e = .returned (.bool true) ∧ Below W.heap.size W w' := by
  obtain ⟨_, _, _, _, _, _, Gs, _, lo, T⟩ := h
  have hB := A.low
  exact same_at (F := F) (P.turns T hd ht) (RefAt.to (F' := F) A T (fun _ e => .inl e) (Nat.le_trans hB T.size)) hL hol
theorem StAt.bel {w w' : World} {s : ST} {vw vr vc : Value} (h : StAt w s vw vr vc) (k : Below w.heap.size w w') : StAt w' s vw vr vc := by
  obtain ⟨h1, ⟨p, c, rfl, h2⟩, h3⟩ := h
  exact ⟨h1.bel k, ⟨p, c, rfl, fun hn => by obtain ⟨b, o, rfl, hc⟩ := h2 hn; exact ⟨b, o, rfl, fun i hi => by obtain ⟨a0, a1, a2, a3⟩ := hc i hi; exact ⟨bel_cell k a0, bel_cell k a1, bel_cell k a2, bel_cell k a3⟩⟩⟩, h3.bel k⟩
theorem mMade_is (s : ST) : (mMade s).nw = s.n ∧ (mMade s).sz = s.sz.toNat ∧ (mMade s).sk = 0 ∧ (mMade s).ol = 0 ∧ (mMade s).cl = s.lc := by
  have h1 : ∀ (m : MS) (a : RG), (mReg m a).nw = m.nw ∧ (mReg m a).sz = m.sz ∧ (mReg m a).sk = m.sk ∧ (mReg m a).ol = m.ol := fun m a => by unfold mReg; split <;> exact ⟨rfl, rfl, rfl, rfl⟩
  have h2 : ∀ (m : MS) (A : Nat → RG) (n : Nat), (mRegs m A n).nw = m.nw ∧ (mRegs m A n).sz = m.sz ∧ (mRegs m A n).sk = m.sk ∧ (mRegs m A n).ol = m.ol := fun m A n => by
    induction n with
    | zero => exact ⟨rfl, rfl, rfl, rfl⟩
    | succ n ih => obtain ⟨a1, a2, a3, a4⟩ := h1 (mRegs m A n) (A n); exact ⟨a1.trans ih.1, a2.trans ih.2.1, a3.trans ih.2.2.1, a4.trans ih.2.2.2⟩
  have h3 : ∀ (m : MS) (u : Int), (mWim m u).nw = m.nw ∧ (mWim m u).sz = m.sz ∧ (mWim m u).sk = m.sk ∧ (mWim m u).ol = m.ol := fun m u => by unfold mWim; split <;> exact ⟨rfl, rfl, rfl, rfl⟩
  have h4 : ∀ (m : MS) (c p k f : Int), (mPsr m c p k f).nw = m.nw ∧ (mPsr m c p k f).sz = m.sz ∧ (mPsr m c p k f).sk = m.sk ∧ (mPsr m c p k f).ol = m.ol := fun m c p k f => by unfold mPsr; split <;> exact ⟨rfl, rfl, rfl, rfl⟩
  have h5 : ∀ (m : MS) (l : Nat) (f : Nat → Int), (mPut m l f).nw = m.nw ∧ (mPut m l f).sz = m.sz ∧ (mPut m l f).sk = m.sk ∧ (mPut m l f).ol = m.ol := fun m l f => by unfold mPut; split <;> exact ⟨rfl, rfl, rfl, rfl⟩
  unfold mMade
  obtain ⟨a1, a2, a3, a4⟩ := h2 (mWim (mPsr ((mPut (mnew s.n s.sz.toNat) s.lw s.fw).jmp s.pc) s.c s.p s.k s.f) s.wim) s.A s.lr
  obtain ⟨b1, b2, b3, b4⟩ := h3 (mPsr ((mPut (mnew s.n s.sz.toNat) s.lw s.fw).jmp s.pc) s.c s.p s.k s.f) s.wim
  obtain ⟨c1, c2, c3, c4⟩ := h4 ((mPut (mnew s.n s.sz.toNat) s.lw s.fw).jmp s.pc) s.c s.p s.k s.f
  obtain ⟨d1, d2, d3, d4⟩ := h5 (mnew s.n s.sz.toNat) s.lw s.fw
  exact ⟨a1.trans (b1.trans (c1.trans d1)), a2.trans (b2.trans (c2.trans d2)), a3.trans (b3.trans (c3.trans d3)), a4.trans (b4.trans (c4.trans d4)), rfl⟩
/-- .. and so the next round begins. -/
theorem SR.next {F : Far} {V U W : World} {z c : Nat} {m' : MS} {q : RV} {L : Nat} (h : SD U c F.G m' W) (A : @RefAt F U q m' L) (r : RowQ U z q) (g : Below V.heap.size V U) (zV : V.heap.size ≤ z) (hF : ∀ i, F.G i → V.heap.size ≤ i) (nz : ¬ F.G z) : SR V W z c m' L := by
  obtain ⟨fb, mb, gg, x, cs, os, Gs, P, lo, T⟩ := h
  refine ⟨⟨fb, mb, gg, x, cs, os, Gs, P, fun i hi => (lo i hi).elim (hF i) fun e => Nat.le_trans g.size e, fun e => (lo z e).elim nz fun e => absurd r.lt (Nat.not_lt.2 e)⟩, ⟨⟨Gs, W.heap.size, P.lt⟩, q, T.heap nz r, RefAt.to (F' := ⟨Gs, W.heap.size, P.lt⟩) A T lo (Nat.le_refl _)⟩, Turns.bel g T hF, zV⟩
def SE (U : World) (c : Nat) (Gc : Nat → Prop) (m' : MS) (W : World) : Prop := Below U.heap.size U W ∨ SD U c Gc m' W
theorem held_two {W : World} {z y : Nat} {q' q : RV} {lc : Prop} (h1 : RowQ W z q') (h2 : RowQ W y q) (h3 : lc) :
    W.cell? ⟨z, 0, none⟩ = some (.int .i64 q'.nw) ∧ W.cell? ⟨z, 1, none⟩ = some (.int .i64 q'.fn) ∧ W.cell? ⟨z, 2, none⟩ = some q'.fs ∧ W.cell? ⟨z, 3, none⟩ = some q'.ms ∧ W.cell? ⟨z, 4, none⟩ = some (.int .u32 q'.pc) ∧ W.cell? ⟨z, 5, none⟩ = some (.int .u8 q'.cwp) ∧ W.cell? ⟨z, 6, none⟩ = some (.int .u8 q'.pil) ∧ W.cell? ⟨z, 7, none⟩ = some (.int .u8 q'.bank) ∧ W.cell? ⟨z, 8, none⟩ = some (.int .u8 q'.fl) ∧ W.cell? ⟨z, 9, none⟩ = some (.int .u32 q'.wim) ∧ W.cell? ⟨z, 10, none⟩ = some q'.tp ∧ W.cell? ⟨z, 11, none⟩ = some q'.ts ∧ W.cell? ⟨z, 12, none⟩ = some q'.ch ∧ W.cell? ⟨z, 13, none⟩ = some q'.ot ∧ W.cell? ⟨z, 14, none⟩ = some (.int .u8 q'.sk) ∧ W.cell? ⟨z, 15, none⟩ = some (.int .u32 q'.sv) ∧
    W.cell? ⟨y, 0, none⟩ = some (.int .i64 q.nw) ∧ W.cell? ⟨y, 1, none⟩ = some (.int .i64 q.fn) ∧ W.cell? ⟨y, 2, none⟩ = some q.fs ∧ W.cell? ⟨y, 3, none⟩ = some q.ms ∧ W.cell? ⟨y, 4, none⟩ = some (.int .u32 q.pc) ∧ W.cell? ⟨y, 5, none⟩ = some (.int .u8 q.cwp) ∧ W.cell? ⟨y, 6, none⟩ = some (.int .u8 q.pil) ∧ W.cell? ⟨y, 7, none⟩ = some (.int .u8 q.bank) ∧ W.cell? ⟨y, 8, none⟩ = some (.int .u8 q.fl) ∧ W.cell? ⟨y, 9, none⟩ = some (.int .u32 q.wim) ∧ W.cell? ⟨y, 10, none⟩ = some q.tp ∧ W.cell? ⟨y, 11, none⟩ = some q.ts ∧ W.cell? ⟨y, 12, none⟩ = some q.ch ∧ W.cell? ⟨y, 13, none⟩ = some q.ot ∧ W.cell? ⟨y, 14, none⟩ = some (.int .u8 q.sk) ∧ W.cell? ⟨y, 15, none⟩ = some (.int .u32 q.sv) ∧ lc := by
  obtain ⟨a0, a1, a2, a3, a4, a5, a6, a7, a8, a9, a10, a11, a12, a13, a14, a15⟩ := h1.all
  obtain ⟨b0, b1, b2, b3, b4, b5, b6, b7, b8, b9, b10, b11, b12, b13, b14, b15⟩ := h2.all
  exact ⟨a0, a1, a2, a3, a4, a5, a6, a7, a8, a9, a10, a11, a12, a13, a14, a15, b0, b1, b2, b3, b4, b5, b6, b7, b8, b9, b10, b11, b12, b13, b14, b15, h3⟩
theorem tt_meas {N j : Nat} (h : j < N) : N - (intOf (.int .i64 ((j : Int) + 1))).toNat < N - (intOf (.int .i64 (j : Int))).toNat := by simp only [intOf]; omega
set_option maxRecDepth 100000 in
set_option maxHeartbeats 16000000 in
theorem steps_walk {w : World} (s : ST) {vw vr vc : Value} (v : Value) (N : Nat) (L : Nat → Nat) (hb : STB s) (hs : StAt w s vw vr vc) (hT : Tabs w) (hv : Sl .u8 w v N (fun i => (L i : Int))) (hL : ∀ i, L i < 256) :
    Calls Tryz.prog 3 #[.agg (srow s vw vr vc), v] w fun e w' => e = .returned (.bool true) ∧ Below w.heap.size w w' := by
  obtain ⟨pv, cv, rfl, hcv⟩ := id hv
  obtain ⟨pw, cw, rfl, _⟩ := id hs.sw
  obtain ⟨pr, cr, rfl, _⟩ := id hs.sr
  obtain ⟨pc, cc, rfl⟩ : ∃ p c, vc = .slice p s.lc c := by
    rcases hs.sc with ⟨rfl, h0⟩ | ⟨a, c, rfl, _⟩
    · exact ⟨none, 0, by rw [h0]⟩
    · exact ⟨_, _, rfl⟩
  have hX : Hid ((w.alloc (.cells (srow s (.slice pw s.lw cw) (.slice pr s.lr cr) (.slice pc s.lc cc)) 28)).heap[w.heap.size]? = some (.cells (srow s (.slice pw s.lw cw) (.slice pr s.lr cr) (.slice pc s.lc cc)) 28 (0, 0))) := heap_alloc_last _ _
  have gX : Hid (Below w.heap.size w (w.alloc (.cells (srow s (.slice pw s.lw cw) (.slice pr s.lr cr) (.slice pc s.lc cc)) 28))) := bel_alK (Below.refl _ _)
  have HB := Lib.hid hb
  have HS := Lib.hid (hs.bel gX.out)
  have HT := Lib.hid (hT.bel gX.out)
  have HC : Hid (0 < N → ∃ b o, pv = some ⟨b, o, none⟩ ∧ ∀ (W : World), Below w.heap.size w W → ∀ i, i < N → W.cell? ⟨b, o + i, none⟩ = some (.int .u8 (L i))) := fun hn => by
    obtain ⟨b, o, e, hc⟩ := hcv hn
    exact ⟨b, o, e, fun W k i hi => bel_cell k (hc i hi)⟩
  have HL := Lib.hid hL
  have heq2 := eq_stopT
  clear hb hs hT hv hcv hL
  go_enter Tryz.func3, Tryz.ntmps3
  go_upto_region 1 with (fail)
  change Code.wp _ _ _ _ (w.alloc (.cells (srow s (.slice pw s.lw cw) (.slice pr s.lr cr) (.slice pc s.lc cc)) 28))
  generalize w.alloc (.cells (srow s (.slice pw s.lw cw) (.slice pr s.lr cr) (.slice pc s.lc cc)) 28) = V at hX gX HS HT ⊢
  have rx : ∀ W : World, Below V.heap.size V W → W.cell? ⟨w.heap.size, 0, none⟩ = some (.int .i64 s.n) ∧ W.cell? ⟨w.heap.size, 1, none⟩ = some (.int .i64 s.sz) ∧ W.cell? ⟨w.heap.size, 2, none⟩ = some (.int .u32 s.pc) ∧ W.cell? ⟨w.heap.size, 3, none⟩ = some (.int .u8 s.c) ∧ W.cell? ⟨w.heap.size, 4, none⟩ = some (.int .u8 s.p) ∧ W.cell? ⟨w.heap.size, 5, none⟩ = some (.int .u8 s.k) ∧ W.cell? ⟨w.heap.size, 6, none⟩ = some (.int .u8 s.f) ∧ W.cell? ⟨w.heap.size, 7, none⟩ = some (.int .u32 s.wim) ∧ W.cell? ⟨w.heap.size, 8, none⟩ = some (.slice pw s.lw cw) ∧ W.cell? ⟨w.heap.size, 9, none⟩ = some (.slice pr s.lr cr) ∧ W.cell? ⟨w.heap.size, 10, none⟩ = some (.slice pc s.lc cc) := fun W k => by
    have h := bel_heap k hX.out
    exact ⟨row_cell h rfl, row_cell h rfl, row_cell h rfl, row_cell h rfl, row_cell h rfl, row_cell h rfl, row_cell h rfl, row_cell h rfl, row_cell h rfl, row_cell h rfl, row_cell h rfl⟩
  have RX := Lib.hid rx
  clear rx
  obtain ⟨x0, x1, x2, x3, x4, x5, x6, x7, x8, x9, x10⟩ := RX.out V (Below.refl _ _)
  go_wp2_with fail
  refine (great6_at s HS.out).mono ?_; rintro e w1 ⟨rfl, g1⟩
  have G1 := Lib.hid g1
  clear g1 x0 x1 x2 x3 x4 x5 x6 x7 x8 x9 x10
  have HEAD : Hid (∀ W : World, Below V.heap.size V W → Calls Tryz.prog 10 #[] W fun e w' => e = .returned (.bool true) ∧ Below w.heap.size w w') := fun W k => (head_at W (HT.out.bel k)).mono fun e w' ⟨h1, h2⟩ => ⟨h1, bel_trans gX.out (bel_trans k h2)⟩
  cases hgr : great6 s
  · have hb9 := of_decide_eq_false hgr
    obtain ⟨x0, x1, x2, x3, x4, x5, x6, x7, x8, x9, x10⟩ := RX.out w1 G1.out
    by_cases hm : s.may
    · go_wp2_with fail
      refine (made_ref s HB.out (HS.out.bel G1.out) hm (HT.out.bel G1.out) (by omega) (by omega) (by omega)).mono ?_; rintro e w2 ⟨F, b, fb, mb, g, x, cs, os, q, rfl, RA, P2, g2, low2⟩
      have RA := Lib.hid RA
      have P2 := Lib.hid P2
      have G2 := Lib.hid (bel_trans G1.out g2)
      have L2 : Hid (∀ i, F.G i → V.heap.size ≤ i) := fun i hi => Nat.le_trans G1.out.size (low2 i hi)
      clear g2 low2 x0 x1 x2 x3 x4 x5 x6 x7 x8 x9 x10
      go_upto_region 4 with (first
        | (refine q_alloc rfl (some 6) rfl (by kernel_rfl) ?_; intro V4 r4 b4 s4)
        | (refine q_whole rfl (.tmp 6) (.tmp 19) rfl w2.heap.size rzero q rfl rfl r4.out RA.out.ok ?_; intro V5 z5 g5))
      have k5 := only_bel b4 g5.out (Nat.le_refl _)
      have S5 : Hid (SR V V5 w2.heap.size b (mMade s) 60) := ⟨⟨fb, mb, g, x, cs, os, F.G, P2.out.bel k5, L2.out, fun e => absurd (P2.out.lt _ e) (Nat.lt_irrefl _)⟩, ⟨F, q, z5.out, RA.out.bel k5⟩, bel_trans G2.out k5, G2.out.size⟩
      clear r4 b4 s4 z5 g5 k5 RA P2 G2 L2
      generalize w2.heap.size = z at S5 ⊢
      obtain ⟨_, _, _, e4, e5⟩ := mMade_is s
      obtain ⟨σ, hσ⟩ : ∃ σ, σ = mMade s := ⟨_, rfl⟩
      rw [← hσ] at S5 e4 e5
      have HE : Hid (σ.ol = 0 ∧ σ.cl ≤ 40) := ⟨e4, by rw [e5]; omega⟩
      clear e4 e5 hσ
      go_simp
      go_wp2_with fail
      go_loopw [5, 9] (fun p i wr => ∃ (j b : Nat) (μ : MS), j ≤ N ∧ j ≤ 60 ∧ p = .pointer (some ⟨b, 0, none⟩) ∧ i = .int .i64 j ∧ SR V wr z b μ (60 + j) ∧ μ.ol ≤ j ∧ μ.cl ≤ 40) (fun _ i _ => N - (intOf i).toNat)
      case atStart => exact ⟨0, b, σ, Nat.zero_le _, Nat.zero_le _, rfl, rfl, S5.out, by rw [HE.out.1]; exact Nat.le_refl _, HE.out.2⟩
      case round =>
        obtain ⟨j, b, μ, hj, hj6, rfl, rfl, S, hol, hcl⟩ := hrel
        have S := Lib.hid S
        have OL := Lib.hid (And.intro hol hcl)
        clear S5 hol hcl HE
        by_cases hlt : j < N ∧ j < 60
        · have hlt1 : (j : Int) < N := by omega
          have hlt2 : (j : Int) < 60 := by omega
          have hjN := hlt.1
          have HJ := Lib.hid hlt
          clear hlt
          obtain ⟨lb, lo, rfl, hcell⟩ := HC.out (by omega)
          have HCL : Hid (∀ W, Below V.heap.size V W → W.cell? ⟨lb, lo + j, none⟩ = some (.int .u8 (L j))) := fun W k => hcell _ (bel_trans gX.out k) j hjN
          have hlv := HL.out j
          generalize L j = lv at *
          clear hcell
          obtain ⟨fb, mb, g, x, cs, os, G, P, lowG, nz⟩ := S.out.P
          obtain ⟨F, q, r0, A0⟩ := S.out.q
          have OK := Lib.hid P.ok
          have hol : μ.ol ≤ 1000000 := by have := OL.out.1; omega
          have hcl : μ.cl ≤ 1000000 := by have := OL.out.2; omega
          have CP := Lib.hid (Copy_at P hcl hol)
          have P := Lib.hid P
          have r0 := Lib.hid r0
          have A0 := Lib.hid A0
          have LG := Lib.hid (And.intro lowG nz)
          have GS := Lib.hid (And.intro S.out.g S.out.zV)
          clear S lowG nz hol hcl
          go_upto_region 10 with (fail)
          go_wp2_with fail
          refine CP.out.mono ?_; rintro e w3 ⟨c, fb', mb', g', x', cs', os', Gc, rfl, Pc, _, g3, loc⟩
          obtain ⟨Fc, rfl, hFB⟩ : ∃ Fc : Far, Fc.G = Gc ∧ Fc.B = w3.heap.size := ⟨⟨Gc, w3.heap.size, Pc.lt⟩, rfl, rfl⟩
          have A3 := Lib.hid (RefAt.to (F' := Fc) A0.out (Turns.of_bel g3) (fun i hi => .inr (loc i hi)) (Nat.le_of_eq hFB))
          have P3 := Lib.hid (P.out.bel g3)
          have r3 := Lib.hid (r0.out.bel g3)
          have Pc := Lib.hid Pc
          have ZC : Hid ((∀ i, Fc.G i → wr.heap.size ≤ i) ∧ z < wr.heap.size ∧ ∀ i, G i → i < wr.heap.size) := ⟨loc, r0.out.lt, P.out.lt⟩
          have G3 := Lib.hid (And.intro (bel_trans GS.out.1 g3) GS.out.2)
          clear CP P r0 A0 g3 loc hFB GS
          go_upto_region 12 with (first
            | (refine q_load rfl (.tmp 6) rfl (some 47) rfl z q rfl r3.out ?_)
            | (refine q_alloc rfl (some 11) rfl (by kernel_rfl) ?_; intro V4 r4 b4 s4)
            | (refine q_whole rfl (.tmp 11) (.tmp 47) rfl w3.heap.size rzero q rfl rfl r4.out A3.out.ok ?_; intro V5 r5 g5))
          have k5 := only_bel b4 g5.out (Nat.le_refl _)
          have kD := bel_trans k5 (Below.refl _ _).drew
          have A5 := Lib.hid (A3.out.bel kD)
          have P5 := Lib.hid (P3.out.bel kD)
          have Pc5 := Lib.hid (Pc.out.bel kD)
          have rz5 := Lib.hid (r3.out.bel kD)
          have ry5 := Lib.hid (r5.out.bel (Below.refl _ _).drew)
          have G5 := Lib.hid (And.intro (bel_trans G3.out.1 kD) G3.out.2)
          have YC : Hid (z < w3.heap.size ∧ (∀ i, Fc.G i → i < w3.heap.size) ∧ ∀ i, G i → i < w3.heap.size) := ⟨r3.out.lt, Pc.out.lt, P3.out.lt⟩
          clear A3 P3 Pc r3 r4 b4 s4 g5 k5 kD r5 G3
          generalize w3.heap.size = y at ry5 YC ⊢
          have cL := HCL.out _ G5.out.1
          refine wp_region_any (by kernel_rfl) ?_
          change wpAny _ _ _ _ _ _ _ (World.drew _)
          generalize V5.drew = U at A5 P5 Pc5 rz5 ry5 G5 cL ⊢
          refine wpAny_take (i := 1) (v := ?_) rfl (by kernel_rfl) (by kernel_rfl) (by kernel_rfl) (fun _ _ _ h => h) (Or.inl ⟨by rfl, ?_⟩) ?_
          rotate_left
          · (intro W; go_simp; try with_reducible rfl)
          refine wpAny_take (i := 2) (v := ?_) rfl (by kernel_rfl) (by kernel_rfl) (by kernel_rfl) (fun _ _ _ h => h) (Or.inl ⟨by rfl, ?_⟩) ?_
          rotate_left
          · (intro W; go_simp; try with_reducible rfl)
          refine wpAny_take (i := 3) (v := ?_) rfl (by kernel_rfl) (by kernel_rfl) (by kernel_rfl) (fun _ _ _ h => h) (Or.inl ⟨by rfl, ?_⟩) ?_
          rotate_left
          · (intro W; go_simp; try with_reducible rfl)
          refine wpAny_ready (rs := [0, 4]) (by kernel_rfl) (by simp) ?_
          obtain ⟨μ', hμ⟩ : ∃ μ', μ' = mstep μ lv := ⟨_, rfl⟩
          have SC := Lib.hid (ref_step A5.out OK.out (by have := HJ.out; omega) lv (by omega) (by have := OL.out; have := HJ.out; omega) (by have := OL.out; omega))
          rw [← hμ] at SC
          refine AllReady.cons rfl (fun K hK => ?_) (AllReady.cons rfl (fun K hK => ?_) AllReady.nil)
          refine step_load rfl (.tmp 6) rfl z q rfl rz5.out ?_
          refine hK _ _ ?_
          clear hK K
          refine wpAny_ready (rs := [4]) (by kernel_rfl) (by simp) ?_
          refine AllReady.cons rfl (fun K hK => ?_) AllReady.nil
          go_simp
          refine hK _ _ ?_
          clear hK K
          refine wpAny_ready (rs := [5]) (by kernel_rfl) (by simp) ?_
          refine AllReady.cons rfl (fun K hK => ?_) AllReady.nil
          go_simp
          refine SC.out.mono ?_; rintro e W6 ⟨q', rfl, A6, g6⟩
          refine hK _ _ ?_
          clear hK K
          refine wpAny_ready (rs := [6]) (by kernel_rfl) (by simp) ?_
          refine AllReady.cons rfl (fun K hK => ?_) AllReady.nil
          refine step_whole rfl (.tmp 6) (.tmp 53) rfl z q q' rfl rfl (rz5.out.bel g6) A6.ok ?_
          intro V7 r7 g7
          refine hK _ _ ?_
          clear hK K
          refine wpAny_done (by kernel_rfl) ?_ _
          rotate_left
          go_simp
          refine hK _ _ ?_
          clear hK K
          refine wpAny_ready (rs := [0]) (by kernel_rfl) (by simp) ?_
          refine AllReady.cons rfl (fun K hK => ?_) AllReady.nil
          refine step_load rfl (.tmp 6) rfl z q rfl rz5.out ?_
          refine hK _ _ ?_
          clear hK K
          refine wpAny_ready (rs := [5]) (by kernel_rfl) (by simp) ?_
          refine AllReady.cons rfl (fun K hK => ?_) AllReady.nil
          go_simp
          refine SC.out.mono ?_; rintro e W6 ⟨q', rfl, A6, g6⟩
          refine hK _ _ ?_
          clear hK K
          refine wpAny_ready (rs := [6]) (by kernel_rfl) (by simp) ?_
          refine AllReady.cons rfl (fun K hK => ?_) AllReady.nil
          refine step_whole rfl (.tmp 6) (.tmp 53) rfl z q q' rfl rfl (rz5.out.bel g6) A6.ok ?_
          intro V7 r7 g7
          refine hK _ _ ?_
          clear hK K
          refine wpAny_done (by kernel_rfl) ?_ _
          all_goals
            have zt : ∀ i, i = z → ¬ isTab i := fun i e ht => by have h1 := HT.out.lt ht; have h2 := G5.out.2; omega
            have TZ : Turns (fun i => i = z) W6 V7 := Turns.of_only g7.out rfl
            have A7 := Lib.hid (A6.only (rz5.out.bel g6) g7.out)
            have P7 := Lib.hid ((P5.out.bel g6).turns TZ (fun i hi e => LG.out.2 (e ▸ hi)) zt)
            have Pc7 := Lib.hid ((Pc5.out.bel g6).turns TZ (fun i hi e => by have h1 := ZC.out.1 i hi; have h2 := ZC.out.2.1; omega) zt)
            have ry7 : Hid (RowQ V7 y q) := only_heap g7.out (by have := YC.out.1; omega) (ry5.out.bel g6)
            have G7 := Lib.hid (And.intro (Turns.bel (bel_trans G5.out.1 g6) TZ (fun i e => by have := G5.out.2; omega)) G5.out.2)
            have A7o := Lib.hid ((A5.out.bel g6).only (rz5.out.bel g6) g7.out)
            clear A6 g6 g7 zt TZ SC A5 P5 Pc5 rz5 ry5 G5 cL
            obtain ⟨a0, a1, a2, a3, a4, a5, a6, a7, a8, a9, a10, a11, a12, a13, a14, a15⟩ := q'
            have e14 : a14 = μ'.sk := A7.out.sk
            have e15 : a15 = μ'.sv := A7.out.sv
            subst e14
            subst e15
            have hol' : μ'.ol ≤ j + 1 := by have h1 := (mstep_chg μ (lv : Int)).o1; rw [← hμ] at h1; have := OL.out.1; omega
            have hcl' : μ'.cl ≤ 40 := by have h1 := mstep_cl μ (lv : Int); rw [← hμ] at h1; have := OL.out.2; omega
            have SB : Hid (∀ W, Below V7.heap.size V7 W → Calls Tryz.prog 15 #[.pointer (some ⟨c, 0, none⟩), .int .u8 (lv : Int)] W fun e w' => e = .returned (.agg #[.int .u8 μ'.sk, .int .u32 μ'.sv]) ∧ SD V7 c Fc.G μ' w') := fun W k => by
              rw [hμ]
              exact step_sd Pc7.out k (lv : Int) (by omega) (by omega) (by have := OL.out.1; have := HJ.out; omega)
            have SA := Lib.hid (fun W (h : SD V7 c Fc.G μ' W) => same_sd h A7.out (by have := HJ.out; omega) (by have := HJ.out; omega))
            have SO := Lib.hid (fun W (h : SD V7 c Fc.G μ' W) => same_old h P7.out (fun i hi e => by have h1 := ZC.out.1 i e; have h2 := ZC.out.2.2 i hi; omega) Pc7.out.far A7o.out (by have := HJ.out; omega) (by have := OL.out.1; have := HJ.out; omega))
            have nz : ¬ Fc.G z := fun e => by have h1 := ZC.out.1 z e; have h2 := ZC.out.2.1; omega
            have ny : ¬ Fc.G y := fun e => absurd (YC.out.2.1 y e) (Nat.lt_irrefl _)
            have hFV : ∀ i, Fc.G i → V.heap.size ≤ i := fun i hi => by have h1 := ZC.out.1 i hi; have h2 := G7.out.2; have h3 := ZC.out.2.1; omega
            have HS1 := Lib.hid (fun W (h : SE V7 c Fc.G μ' W) => by
              have T : Turns Fc.G V7 W := by
                rcases h with h | ⟨_, _, _, _, _, _, _, _, _, T⟩
                · exact Turns.of_bel h
                · exact T
              exact held_two (T.heap nz r7.out) (T.heap ny ry7.out) (HCL.out W (Turns.bel G7.out.1 T hFV)))
            have NX := Lib.hid (fun W (h : SD V7 c Fc.G μ' W) => SR.next h A7.out r7.out G7.out.1 G7.out.2 hFV nz)
            go_simp
            have kD : Below V7.heap.size V7 V7.drew := (Below.refl _ _).drew
            have D0 := HS1.out _ (.inl kD : SE V7 c Fc.G μ' V7.drew)
            try dsimp only at D0
            have HOO := Lib.hid (And.intro hol' hcl')
            clear A7 P7 Pc7 r7 ry7 G7 A7o hol' hcl' nz ny hFV ZC YC LG OL hμ
            by_cases hj0 : j = 0
            · as_aux_lemma =>
                subst hj0
                simp only [Nat.add_zero] at HS1 D0
                have hN0 : (0 : Int) < N := by have := HJ.out; omega
                go_upto_region 13 with (fail)
                go_region_held3 (fun W => W.cell? ⟨z, 0, none⟩ = some (.int .i64 a0) ∧ W.cell? ⟨z, 1, none⟩ = some (.int .i64 a1) ∧ W.cell? ⟨z, 2, none⟩ = some a2 ∧ W.cell? ⟨z, 3, none⟩ = some a3 ∧ W.cell? ⟨z, 4, none⟩ = some (.int .u32 a4) ∧ W.cell? ⟨z, 5, none⟩ = some (.int .u8 a5) ∧ W.cell? ⟨z, 6, none⟩ = some (.int .u8 a6) ∧ W.cell? ⟨z, 7, none⟩ = some (.int .u8 a7) ∧ W.cell? ⟨z, 8, none⟩ = some (.int .u8 a8) ∧ W.cell? ⟨z, 9, none⟩ = some (.int .u32 a9) ∧ W.cell? ⟨z, 10, none⟩ = some a10 ∧ W.cell? ⟨z, 11, none⟩ = some a11 ∧ W.cell? ⟨z, 12, none⟩ = some a12 ∧ W.cell? ⟨z, 13, none⟩ = some a13 ∧ W.cell? ⟨z, 14, none⟩ = some (.int .u8 μ'.sk) ∧ W.cell? ⟨z, 15, none⟩ = some (.int .u32 μ'.sv) ∧ W.cell? ⟨y, 0, none⟩ = some (.int .i64 q.nw) ∧ W.cell? ⟨y, 1, none⟩ = some (.int .i64 q.fn) ∧ W.cell? ⟨y, 2, none⟩ = some q.fs ∧ W.cell? ⟨y, 3, none⟩ = some q.ms ∧ W.cell? ⟨y, 4, none⟩ = some (.int .u32 q.pc) ∧ W.cell? ⟨y, 5, none⟩ = some (.int .u8 q.cwp) ∧ W.cell? ⟨y, 6, none⟩ = some (.int .u8 q.pil) ∧ W.cell? ⟨y, 7, none⟩ = some (.int .u8 q.bank) ∧ W.cell? ⟨y, 8, none⟩ = some (.int .u8 q.fl) ∧ W.cell? ⟨y, 9, none⟩ = some (.int .u32 q.wim) ∧ W.cell? ⟨y, 10, none⟩ = some q.tp ∧ W.cell? ⟨y, 11, none⟩ = some q.ts ∧ W.cell? ⟨y, 12, none⟩ = some q.ch ∧ W.cell? ⟨y, 13, none⟩ = some q.ot ∧ W.cell? ⟨y, 14, none⟩ = some (.int .u8 q.sk) ∧ W.cell? ⟨y, 15, none⟩ = some (.int .u32 q.sv) ∧ W.cell? ⟨lb, lo, none⟩ = some (.int .u8 (lv : Int)))
                  (first
                    | exact D0
                    | exact D1
                    | exact D2
                    | exact D3)
                  (first
                    | (go_at_call 15; refine (SB.out _ kD).mono ?_; rintro e Wa ⟨rfl, sa⟩; have D1 := HS1.out _ (.inr sa : SE V7 c Fc.G μ' Wa); try dsimp only at D1)
                    | (go_at_call_of 16 (Value.pointer (some ⟨c, 0, none⟩)); refine (SA.out _ sa).mono ?_; rintro e Wb ⟨rfl, kb⟩; have sb := sa.more kb; have D2 := HS1.out _ (.inr sb : SE V7 c Fc.G μ' Wb); try dsimp only at D2)
                    | (go_at_call_of 16 (Value.pointer (some ⟨b, 0, none⟩)); refine (SO.out _ sb).mono ?_; rintro e Wc ⟨rfl, kc⟩; have sc := sb.more kc; have D3 := HS1.out _ (.inr sc : SE V7 c Fc.G μ' Wc); try dsimp only at D3))
                all_goals
                  go_wp2_with fail
                  go_roundw
                  case rel => exact ⟨0 + 1, c, μ', by have := HJ.out; omega, by have := HJ.out; omega, rfl, by go_num, NX.out _ sc, HOO.out.1, HOO.out.2⟩
                  case measure => have h9 := HJ.out; simp only [intOf]; omega
            · as_aux_lemma =>
                have hj0' : ¬ (j : Int) = 0 := by omega
                have hdj : decide ((j : Int) = 0) = false := decide_eq_false hj0'
                have hbj : ((j : Int) == 0) = false := by simpa using hj0'
                have hdn : decide (j = 0) = false := decide_eq_false hj0
                have hbn : (j == 0) = false := by simpa using hj0
                go_upto_region 13 with (fail)
                refine wp_region_held_drew (S := (fun W => W.cell? ⟨z, 0, none⟩ = some (.int .i64 a0) ∧ W.cell? ⟨z, 1, none⟩ = some (.int .i64 a1) ∧ W.cell? ⟨z, 2, none⟩ = some a2 ∧ W.cell? ⟨z, 3, none⟩ = some a3 ∧ W.cell? ⟨z, 4, none⟩ = some (.int .u32 a4) ∧ W.cell? ⟨z, 5, none⟩ = some (.int .u8 a5) ∧ W.cell? ⟨z, 6, none⟩ = some (.int .u8 a6) ∧ W.cell? ⟨z, 7, none⟩ = some (.int .u8 a7) ∧ W.cell? ⟨z, 8, none⟩ = some (.int .u8 a8) ∧ W.cell? ⟨z, 9, none⟩ = some (.int .u32 a9) ∧ W.cell? ⟨z, 10, none⟩ = some a10 ∧ W.cell? ⟨z, 11, none⟩ = some a11 ∧ W.cell? ⟨z, 12, none⟩ = some a12 ∧ W.cell? ⟨z, 13, none⟩ = some a13 ∧ W.cell? ⟨z, 14, none⟩ = some (.int .u8 μ'.sk) ∧ W.cell? ⟨z, 15, none⟩ = some (.int .u32 μ'.sv) ∧ W.cell? ⟨y, 0, none⟩ = some (.int .i64 q.nw) ∧ W.cell? ⟨y, 1, none⟩ = some (.int .i64 q.fn) ∧ W.cell? ⟨y, 2, none⟩ = some q.fs ∧ W.cell? ⟨y, 3, none⟩ = some q.ms ∧ W.cell? ⟨y, 4, none⟩ = some (.int .u32 q.pc) ∧ W.cell? ⟨y, 5, none⟩ = some (.int .u8 q.cwp) ∧ W.cell? ⟨y, 6, none⟩ = some (.int .u8 q.pil) ∧ W.cell? ⟨y, 7, none⟩ = some (.int .u8 q.bank) ∧ W.cell? ⟨y, 8, none⟩ = some (.int .u8 q.fl) ∧ W.cell? ⟨y, 9, none⟩ = some (.int .u32 q.wim) ∧ W.cell? ⟨y, 10, none⟩ = some q.tp ∧ W.cell? ⟨y, 11, none⟩ = some q.ts ∧ W.cell? ⟨y, 12, none⟩ = some q.ch ∧ W.cell? ⟨y, 13, none⟩ = some q.ot ∧ W.cell? ⟨y, 14, none⟩ = some (.int .u8 q.sk) ∧ W.cell? ⟨y, 15, none⟩ = some (.int .u32 q.sv) ∧ W.cell? ⟨lb, lo + j, none⟩ = some (.int .u8 (lv : Int)))) (by kernel_rfl) ?_ (fun hHeld => ?_)
                · exact D0
                refine wpAnyH_take (i := 0) (oi := { dst := some 54, op := Op.move (Operand.tmp 10), type := 32, pos := "law.go:149", after := #[], guard := none }) (v := ?_) rfl (by kernel_rfl) (by kernel_rfl) (by kernel_rfl) (fun _ _ _ h => h) (Or.inl ⟨by rfl, ?_⟩) (by assumption) ?_
                rotate_left
                · (intro W hSw; (try dsimp only at hSw); go_simp; try with_reducible rfl)
                try simp only [Act.put, List.setIfInBounds_toArray, List.set_cons_zero, List.set_cons_succ]
                refine wpAnyH_take (i := 1) (oi := { dst := some 55, op := Op.binOp BinOp.eql 32 (Operand.tmp 54) (Operand.const (Value.pointer none)) 32, type := 4, pos := "law.go:149", after := #[{ on := 0, ground := Ground.data }], guard := none }) (v := ?_) rfl (by kernel_rfl) (by kernel_rfl) (by kernel_rfl) (fun _ _ _ h => h) (Or.inl ⟨by rfl, ?_⟩) (by assumption) ?_
                rotate_left
                · (intro W hSw; (try dsimp only at hSw); go_simp; try with_reducible rfl)
                try simp only [Act.put, List.setIfInBounds_toArray, List.set_cons_zero, List.set_cons_succ]
                refine wpAnyH_take (i := 2) (oi := { dst := some 56, op := Op.move (Operand.tmp 55), type := 4, pos := "law.go:149", after := #[{ on := 1, ground := Ground.data }], guard := none }) (v := ?_) rfl (by kernel_rfl) (by kernel_rfl) (by kernel_rfl) (fun _ _ _ h => h) (Or.inl ⟨by rfl, ?_⟩) (by assumption) ?_
                rotate_left
                · (intro W hSw; (try dsimp only at hSw); go_simp; try with_reducible rfl)
                try simp only [Act.put, List.setIfInBounds_toArray, List.set_cons_zero, List.set_cons_succ]
                refine wpAnyH_take (i := 3) (oi := { dst := some 57, op := Op.move (Operand.tmp 10), type := 32, pos := "law.go:149", after := #[{ on := 2, ground := Ground.guard }], guard := some (2, false) }) (v := ?_) rfl (by kernel_rfl) (by kernel_rfl) (by kernel_rfl) (fun _ _ _ h => h) (Or.inl ⟨by rfl, ?_⟩) (by assumption) ?_
                rotate_left
                · (intro W hSw; (try dsimp only at hSw); go_simp; try with_reducible rfl)
                try simp only [Act.put, List.setIfInBounds_toArray, List.set_cons_zero, List.set_cons_succ]
                refine wpAnyH_take (i := 4) (oi := { dst := some 58, op := Op.move (Operand.tmp 1), type := 29, pos := "law.go:149", after := #[{ on := 2, ground := Ground.guard }], guard := some (2, false) }) (v := ?_) rfl (by kernel_rfl) (by kernel_rfl) (by kernel_rfl) (fun _ _ _ h => h) (Or.inl ⟨by rfl, ?_⟩) (by assumption) ?_
                rotate_left
                · (intro W hSw; (try dsimp only at hSw); go_simp; try with_reducible rfl)
                try simp only [Act.put, List.setIfInBounds_toArray, List.set_cons_zero, List.set_cons_succ]
                refine wpAnyH_take (i := 5) (oi := { dst := some 59, op := Op.move (Operand.tmp 9), type := 3, pos := "law.go:149", after := #[{ on := 2, ground := Ground.guard }], guard := some (2, false) }) (v := ?_) rfl (by kernel_rfl) (by kernel_rfl) (by kernel_rfl) (fun _ _ _ h => h) (Or.inl ⟨by rfl, ?_⟩) (by assumption) ?_
                rotate_left
                · (intro W hSw; (try dsimp only at hSw); go_simp; try with_reducible rfl)
                try simp only [Act.put, List.setIfInBounds_toArray, List.set_cons_zero, List.set_cons_succ]
                refine wpAnyH_take (i := 6) (oi := { dst := some 60, op := Op.indexAddr 29 (Operand.tmp 58) (Operand.tmp 59), type := 0, pos := "law.go:149", after := #[{ on := 4, ground := Ground.data }, { on := 5, ground := Ground.data }, { on := 2, ground := Ground.guard }], guard := some (2, false) }) (v := ?_) rfl (by kernel_rfl) (by kernel_rfl) (by kernel_rfl) (fun _ _ _ h => h) (Or.inl ⟨by rfl, ?_⟩) (by assumption) ?_
                rotate_left
                · (intro W hSw; (try dsimp only at hSw); go_simp; try with_reducible rfl)
                try simp only [Act.put, List.setIfInBounds_toArray, List.set_cons_zero, List.set_cons_succ]
                refine wpAnyH_take (i := 7) (oi := { dst := some 61, op := Op.load 5 (Operand.tmp 60), type := 5, pos := "law.go:149", after := #[{ on := 6, ground := Ground.data }, { on := 2, ground := Ground.guard }], guard := some (2, false) }) (v := ?_) rfl (by kernel_rfl) (by kernel_rfl) (by kernel_rfl) (fun _ _ _ h => h) (Or.inl ⟨by rfl, ?_⟩) (by assumption) ?_
                rotate_left
                · (intro W hSw; (try dsimp only at hSw); go_simp; try with_reducible rfl)
                try simp only [Act.put, List.setIfInBounds_toArray, List.set_cons_zero, List.set_cons_succ]
                refine wpAnyH_take (i := 9) (oi := { dst := some 63, op := Op.fieldAddr 39 (Operand.tmp 6) 10, type := 0, pos := "law.go:149", after := #[{ on := 2, ground := Ground.guard }], guard := some (2, false) }) (v := ?_) rfl (by kernel_rfl) (by kernel_rfl) (by kernel_rfl) (fun _ _ _ h => h) (Or.inl ⟨by rfl, ?_⟩) (by assumption) ?_
                rotate_left
                · (intro W hSw; (try dsimp only at hSw); go_simp; try with_reducible rfl)
                try simp only [Act.put, List.setIfInBounds_toArray, List.set_cons_zero, List.set_cons_succ]
                refine wpAnyH_take (i := 10) (oi := { dst := some 64, op := Op.load 37 (Operand.tmp 63), type := 37, pos := "law.go:149", after := #[{ on := 9, ground := Ground.data }, { on := 2, ground := Ground.guard }], guard := some (2, false) }) (v := ?_) rfl (by kernel_rfl) (by kernel_rfl) (by kernel_rfl) (fun _ _ _ h => h) (Or.inl ⟨by rfl, ?_⟩) (by assumption) ?_
                rotate_left
                · (intro W hSw; (try dsimp only at hSw); go_simp; try with_reducible rfl)
                try simp only [Act.put, List.setIfInBounds_toArray, List.set_cons_zero, List.set_cons_succ]
                refine wpAnyH_ready (rs := [8]) (by kernel_rfl) (by simp) ?_
                refine AllReadyH.cons (o := { dst := some 62, op := Op.call { callee := Callee.value (Operand.func 15), args := #[Operand.tmp 57, Operand.tmp 61], argTypes := #[32, 5] }, type := 37, pos := "law.go:149", after := #[{ on := 3, ground := Ground.data }, { on := 7, ground := Ground.data }, { on := 2, ground := Ground.chain }, { on := 2, ground := Ground.guard }], guard := some (2, false) }) rfl (fun K hK => ?_) AllReadyH.nil
                go_simp
                refine (SB.out _ kD).mono ?_; rintro e Wa ⟨rfl, sa⟩; have D1 := HS1.out _ (.inr sa : SE V7 c Fc.G μ' Wa); try dsimp only at D1
                refine hK.out _ _ ?_ (fun hHeld => ?_)
                · exact D1
                clear hK K
                try simp only [Act.put, List.setIfInBounds_toArray, List.set_cons_zero, List.set_cons_succ]
                refine wpAnyH_take (i := 11) (oi := { dst := some 65, op := Op.binOp BinOp.neq 37 (Operand.tmp 62) (Operand.tmp 64) 37, type := 4, pos := "law.go:149", after := #[{ on := 8, ground := Ground.data }, { on := 10, ground := Ground.data }, { on := 2, ground := Ground.guard }], guard := some (2, false) }) (v := ?_) rfl (by kernel_rfl) (by kernel_rfl) (by kernel_rfl) (fun _ _ _ h => h) (Or.inl ⟨by rfl, ?_⟩) (by assumption) ?_
                rotate_left
                · (intro W hSw; (try dsimp only at hSw); go_simp; try with_reducible rfl)
                try simp only [Act.put, List.setIfInBounds_toArray, List.set_cons_zero, List.set_cons_succ]
                refine wpAnyH_take (i := 12) (oi := { dst := some 66, op := Op.pick (Operand.tmp 56) (Operand.const (Value.bool true)) (Operand.tmp 65), type := 4, pos := "law.go:149", after := #[{ on := 2, ground := Ground.data }, { on := 11, ground := Ground.data }], guard := none }) (v := ?_) rfl (by kernel_rfl) (by kernel_rfl) (by kernel_rfl) (fun _ _ _ h => h) (Or.inl ⟨by rfl, ?_⟩) (by assumption) ?_
                rotate_left
                · (intro W hSw; (try dsimp only at hSw); go_simp; try with_reducible rfl)
                try simp only [Act.put, List.setIfInBounds_toArray, List.set_cons_zero, List.set_cons_succ]
                refine wpAnyH_take (i := 13) (oi := { dst := some 67, op := Op.move (Operand.tmp 66), type := 4, pos := "law.go:149", after := #[{ on := 12, ground := Ground.data }, { on := 8, ground := Ground.chain }], guard := none }) (v := ?_) rfl (by kernel_rfl) (by kernel_rfl) (by kernel_rfl) (fun _ _ _ h => h) (Or.inl ⟨by rfl, ?_⟩) (by assumption) ?_
                rotate_left
                · (intro W hSw; (try dsimp only at hSw); go_simp; try with_reducible rfl)
                try simp only [Act.put, List.setIfInBounds_toArray, List.set_cons_zero, List.set_cons_succ]
                refine wpAnyH_take (i := 14) (oi := { dst := some 68, op := Op.move (Operand.tmp 10), type := 32, pos := "law.go:149", after := #[{ on := 13, ground := Ground.guard }], guard := some (13, false) }) (v := ?_) rfl (by kernel_rfl) (by kernel_rfl) (by kernel_rfl) (fun _ _ _ h => h) (Or.inl ⟨by rfl, ?_⟩) (by assumption) ?_
                rotate_left
                · (intro W hSw; (try dsimp only at hSw); go_simp; try with_reducible rfl)
                try simp only [Act.put, List.setIfInBounds_toArray, List.set_cons_zero, List.set_cons_succ]
                refine wpAnyH_take (i := 15) (oi := { dst := some 69, op := Op.load 39 (Operand.tmp 6), type := 39, pos := "law.go:149", after := #[{ on := 13, ground := Ground.guard }], guard := some (13, false) }) (v := ?_) rfl (by kernel_rfl) (by kernel_rfl) (by kernel_rfl) (fun _ _ _ h => h) (Or.inl ⟨by rfl, ?_⟩) (by assumption) ?_
                rotate_left
                · (intro W hSw; (try dsimp only at hSw); go_simp; try with_reducible rfl)
                try simp only [Act.put, List.setIfInBounds_toArray, List.set_cons_zero, List.set_cons_succ]
                refine wpAnyH_ready (rs := [16]) (by kernel_rfl) (by simp) ?_
                refine AllReadyH.cons (o := { dst := some 70, op := Op.call { callee := Callee.value (Operand.func 16), args := #[Operand.tmp 68, Operand.tmp 69], argTypes := #[32, 39] }, type := 4, pos := "law.go:149", after := #[{ on := 14, ground := Ground.data }, { on := 15, ground := Ground.data }, { on := 13, ground := Ground.chain }, { on := 13, ground := Ground.guard }], guard := some (13, false) }) rfl (fun K hK => ?_) AllReadyH.nil
                go_simp
                refine (SA.out _ sa).mono ?_; rintro e Wb ⟨rfl, kb⟩; have sb := sa.more kb; have D2 := HS1.out _ (.inr sb : SE V7 c Fc.G μ' Wb); try dsimp only at D2
                refine hK.out _ _ ?_ (fun hHeld => ?_)
                · exact D2
                clear hK K
                try simp only [Act.put, List.setIfInBounds_toArray, List.set_cons_zero, List.set_cons_succ]
                refine wpAnyH_take (i := 17) (oi := { dst := some 71, op := Op.unOp UnOp.not 4 (Operand.tmp 70), type := 4, pos := "law.go:149", after := #[{ on := 16, ground := Ground.data }, { on := 13, ground := Ground.guard }], guard := some (13, false) }) (v := ?_) rfl (by kernel_rfl) (by kernel_rfl) (by kernel_rfl) (fun _ _ _ h => h) (Or.inl ⟨by rfl, ?_⟩) (by assumption) ?_
                rotate_left
                · (intro W hSw; (try dsimp only at hSw); go_simp; try with_reducible rfl)
                try simp only [Act.put, List.setIfInBounds_toArray, List.set_cons_zero, List.set_cons_succ]
                refine wpAnyH_take (i := 18) (oi := { dst := some 72, op := Op.pick (Operand.tmp 67) (Operand.const (Value.bool true)) (Operand.tmp 71), type := 4, pos := "law.go:149", after := #[{ on := 13, ground := Ground.data }, { on := 17, ground := Ground.data }], guard := none }) (v := ?_) rfl (by kernel_rfl) (by kernel_rfl) (by kernel_rfl) (fun _ _ _ h => h) (Or.inl ⟨by rfl, ?_⟩) (by assumption) ?_
                rotate_left
                · (intro W hSw; (try dsimp only at hSw); go_simp; try with_reducible rfl)
                try simp only [Act.put, List.setIfInBounds_toArray, List.set_cons_zero, List.set_cons_succ]
                refine wpAnyH_take (i := 19) (oi := { dst := some 73, op := Op.move (Operand.tmp 72), type := 4, pos := "law.go:149", after := #[{ on := 18, ground := Ground.data }, { on := 16, ground := Ground.chain }], guard := none }) (v := ?_) rfl (by kernel_rfl) (by kernel_rfl) (by kernel_rfl) (fun _ _ _ h => h) (Or.inl ⟨by rfl, ?_⟩) (by assumption) ?_
                rotate_left
                · (intro W hSw; (try dsimp only at hSw); go_simp; try with_reducible rfl)
                try simp only [Act.put, List.setIfInBounds_toArray, List.set_cons_zero, List.set_cons_succ]
                refine wpAnyH_take (i := 20) (oi := { dst := some 74, op := Op.move (Operand.tmp 9), type := 3, pos := "law.go:149", after := #[{ on := 19, ground := Ground.guard }], guard := some (19, false) }) (v := ?_) rfl (by kernel_rfl) (by kernel_rfl) (by kernel_rfl) (fun _ _ _ h => h) (Or.inl ⟨by rfl, ?_⟩) (by assumption) ?_
                rotate_left
                · (intro W hSw; (try dsimp only at hSw); go_simp; try with_reducible rfl)
                try simp only [Act.put, List.setIfInBounds_toArray, List.set_cons_zero, List.set_cons_succ]
                refine wpAnyH_take (i := 21) (oi := { dst := some 75, op := Op.binOp BinOp.eql 3 (Operand.tmp 74) (Operand.const (Value.int IntKind.i64 0)) 3, type := 4, pos := "law.go:149", after := #[{ on := 20, ground := Ground.data }, { on := 19, ground := Ground.guard }], guard := some (19, false) }) (v := ?_) rfl (by kernel_rfl) (by kernel_rfl) (by kernel_rfl) (fun _ _ _ h => h) (Or.inl ⟨by rfl, ?_⟩) (by assumption) ?_
                rotate_left
                · (intro W hSw; (try dsimp only at hSw); go_simp; try with_reducible rfl)
                try simp only [Act.put, List.setIfInBounds_toArray, List.set_cons_zero, List.set_cons_succ]
                refine wpAnyH_take (i := 22) (oi := { dst := some 76, op := Op.move (Operand.tmp 75), type := 4, pos := "law.go:149", after := #[{ on := 21, ground := Ground.data }, { on := 19, ground := Ground.chain }, { on := 19, ground := Ground.guard }], guard := some (19, false) }) (v := ?_) rfl (by kernel_rfl) (by kernel_rfl) (by kernel_rfl) (fun _ _ _ h => h) (Or.inl ⟨by rfl, ?_⟩) (by assumption) ?_
                rotate_left
                · (intro W hSw; (try dsimp only at hSw); go_simp; try with_reducible rfl)
                try simp only [Act.put, List.setIfInBounds_toArray, List.set_cons_zero, List.set_cons_succ]
                refine wpAnyH_take (i := 23) (oi := { dst := some 77, op := Op.move (Operand.tmp 5), type := 32, pos := "law.go:149", after := #[{ on := 22, ground := Ground.guard }], guard := some (22, true) }) (v := undef) rfl (by kernel_rfl) (by kernel_rfl) (by kernel_rfl) (fun _ _ _ h => h) (Or.inr ⟨by rfl, rfl⟩) (by assumption) ?_
                try simp only [Act.put, List.setIfInBounds_toArray, List.set_cons_zero, List.set_cons_succ]
                refine wpAnyH_take (i := 24) (oi := { dst := some 78, op := Op.load 39 (Operand.tmp 11), type := 39, pos := "law.go:149", after := #[{ on := 22, ground := Ground.guard }], guard := some (22, true) }) (v := undef) rfl (by kernel_rfl) (by kernel_rfl) (by kernel_rfl) (fun _ _ _ h => h) (Or.inr ⟨by rfl, rfl⟩) (by assumption) ?_
                try simp only [Act.put, List.setIfInBounds_toArray, List.set_cons_zero, List.set_cons_succ]
                refine wpAnyH_take (i := 25) (oi := { dst := some 79, op := Op.call { callee := Callee.value (Operand.func 16), args := #[Operand.tmp 77, Operand.tmp 78], argTypes := #[32, 39] }, type := 4, pos := "law.go:149", after := #[{ on := 23, ground := Ground.data }, { on := 24, ground := Ground.data }, { on := 22, ground := Ground.chain }, { on := 22, ground := Ground.guard }], guard := some (22, true) }) (v := undef) rfl (by kernel_rfl) (by kernel_rfl) (by kernel_rfl) (fun _ _ _ h => h) (Or.inr ⟨by rfl, rfl⟩) (by assumption) ?_
                try simp only [Act.put, List.setIfInBounds_toArray, List.set_cons_zero, List.set_cons_succ]
                refine wpAnyH_take (i := 26) (oi := { dst := some 80, op := Op.unOp UnOp.not 4 (Operand.tmp 79), type := 4, pos := "law.go:149", after := #[{ on := 25, ground := Ground.data }, { on := 22, ground := Ground.guard }], guard := some (22, true) }) (v := undef) rfl (by kernel_rfl) (by kernel_rfl) (by kernel_rfl) (fun _ _ _ h => h) (Or.inr ⟨by rfl, rfl⟩) (by assumption) ?_
                try simp only [Act.put, List.setIfInBounds_toArray, List.set_cons_zero, List.set_cons_succ]
                refine wpAnyH_take (i := 27) (oi := { dst := some 81, op := Op.pick (Operand.tmp 76) (Operand.tmp 80) (Operand.const (Value.bool false)), type := 4, pos := "law.go:149", after := #[{ on := 22, ground := Ground.data }, { on := 26, ground := Ground.data }, { on := 19, ground := Ground.guard }], guard := some (19, false) }) (v := ?_) rfl (by kernel_rfl) (by kernel_rfl) (by kernel_rfl) (fun _ _ _ h => h) (Or.inl ⟨by rfl, ?_⟩) (by assumption) ?_
                rotate_left
                · (intro W hSw; (try dsimp only at hSw); go_simp; try with_reducible rfl)
                try simp only [Act.put, List.setIfInBounds_toArray, List.set_cons_zero, List.set_cons_succ]
                refine wpAnyH_take (i := 28) (oi := { dst := some 82, op := Op.pick (Operand.tmp 73) (Operand.const (Value.bool true)) (Operand.tmp 81), type := 4, pos := "law.go:149", after := #[{ on := 19, ground := Ground.data }, { on := 27, ground := Ground.data }], guard := none }) (v := ?_) rfl (by kernel_rfl) (by kernel_rfl) (by kernel_rfl) (fun _ _ _ h => h) (Or.inl ⟨by rfl, ?_⟩) (by assumption) ?_
                rotate_left
                · (intro W hSw; (try dsimp only at hSw); go_simp; try with_reducible rfl)
                try simp only [Act.put, List.setIfInBounds_toArray, List.set_cons_zero, List.set_cons_succ]
                refine wpAnyH_done (by kernel_rfl) ?_ _
                all_goals
                  go_wp2_with fail
                  go_roundw
                  case rel =>
                    have hC : SR V Wb z c μ' (60 + (j + 1)) := NX.out _ sb
                    exact ⟨j + 1, c, μ', HJ.out.1, HJ.out.2, rfl, by go_num, hC, HOO.out.1, HOO.out.2⟩
                  case measure => exact tt_meas HJ.out.1
        · have GS := Lib.hid S.out.g
          clear S
          by_cases h1 : (j : Int) < N
          · have h2 : ¬ (j : Int) < 60 := by omega
            go_wp2_with fail
            refine (HEAD.out wr GS.out).mono ?_; rintro e w4 ⟨rfl, g4⟩
            have G4 := Lib.hid g4
            clear g4
            go_wp2_with fail
            go_ret
            exact ⟨rfl, G4.out⟩
          · go_wp2_with fail
            refine (HEAD.out wr GS.out).mono ?_; rintro e w4 ⟨rfl, g4⟩
            have G4 := Lib.hid g4
            clear g4
            go_wp2_with fail
            go_ret
            exact ⟨rfl, G4.out⟩
    · have hm' : (s.n < 2 ∨ 32 < s.n) ∨ ¬ M5.MaySize s.sz := by
        by_cases h1 : s.n < 2 ∨ 32 < s.n
        · exact .inl h1
        · exact .inr fun h2 => hm ⟨by omega, by omega, h2⟩
      go_wp2_with fail
      refine (made_no s (HS.out.bel G1.out) hm).mono ?_; rintro e w2 ⟨rfl, g2⟩
      have G2 := Lib.hid (bel_trans G1.out g2)
      clear g2 x0 x1 x2 x3 x4 x5 x6 x7 x8 x9 x10
      go_upto_region 4 with (first
        | (refine q_alloc rfl (some 6) rfl (by kernel_rfl) ?_; intro V4 r4 b4 s4)
        | (refine q_whole rfl (.tmp 6) (.tmp 19) rfl w2.heap.size rzero rzero rfl rfl r4.out rzero_ok ?_; intro V5 z5 g5))
      have G5 := Lib.hid (bel_trans G2.out (only_bel b4 g5.out (Nat.le_refl _)))
      clear r4 b4 s4 z5 g5 G2
      obtain ⟨x0, x1, x2, x3, x4, x5, x6, x7, x8, x9, x10⟩ := RX.out V5 G5.out
      go_simp
      go_wp2_with fail
      refine (refNew6_no s.n s.sz V5 hm').mono ?_; rintro e w6 ⟨rfl, g6⟩
      have G6 := Lib.hid (bel_trans G5.out g6)
      clear g6 x0 x1 x2 x3 x4 x5 x6 x7 x8 x9 x10 G5
      go_upto_region 6 with (first
        | (refine q_alloc rfl (some 7) rfl (by kernel_rfl) ?_; intro V7 r7 b7 s7)
        | (refine q_whole rfl (.tmp 7) (.tmp 28) rfl w6.heap.size rzero rzero rfl rfl r7.out rzero_ok ?_; intro V8 z8 g8))
      have G8 := Lib.hid (bel_trans G6.out (only_bel b7 g8.out (Nat.le_refl _)))
      clear r7 b7 s7 z8 g8 G6
      go_simp
      go_wp2_with fail
      refine (HEAD.out V8 G8.out).mono ?_; rintro e w9 ⟨rfl, g9⟩
      have G9 := Lib.hid g9
      clear g9
      go_wp2_with fail
      go_ret
      exact ⟨rfl, G9.out⟩
  · go_wp2_with fail
    refine (HEAD.out w1 G1.out).mono ?_; rintro e w2 ⟨rfl, g2⟩
    have G2 := Lib.hid g2
    clear g2
    go_wp2_with fail
    go_ret
    exact ⟨rfl, G2.out⟩
end Go.Proofs.YtiobgnelhiadbaaGreatDoor.K6
