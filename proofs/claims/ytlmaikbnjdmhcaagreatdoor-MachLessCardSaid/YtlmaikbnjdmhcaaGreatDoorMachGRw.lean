/- MachReturns' arithmetic (layer 6, plain): an interrupt that is taken, and a RETT at once. MachReturns (layer 6), walked: an interrupt that is taken, and a RETT at once. -/
import Derived.Test.YtlmaikbnjdmhcaaGreatDoorMachGA
import Derived.Test.YtlmaikbnjdmhcaaGreatDoorMachGMf
import Derived.Test.YtlmaikbnjdmhcaaGreatDoorMachGJ
namespace Go.Proofs.YtlmaikbnjdmhcaaGreatDoor.K6
open Go.RowKit
set_option linter.unusedVariables false
/-- The machine then: all as it was, but the bank's TPC and TPSR. -/
def sRet (m : MS) (lv : Int) : MS := { m with tpc := F3.upd m.tpc lv.toNat m.pc, tps := F3.upd m.tps lv.toNat m.pw }
theorem pw_back {m : MS} (h : MOk m) : m.pw % 32 = m.cwp ∧ m.pw / 32 % 16 = m.pil ∧ m.pw / 512 % 32 = m.bank ∧ m.pw / 16384 % 16 = m.fl ∧ wst m.pw m.nw = true := by
  have h1 := h.c0
  have h2 := h.c1
  have h3 := h.n32
  have h4 := h.p0
  have h5 := h.p1
  have h6 := h.b0
  have h7 := h.b1
  have h8 := h.f0
  have h9 := h.f1
  have e : m.pw = P4.pword m.cwp m.pil m.bank m.fl := rfl
  unfold P4.pword at e
  refine ⟨by omega, by omega, by omega, by omega, ?_⟩
  unfold wst
  exact decide_eq_true (by omega)
theorem irq_step {m : MS} {lv : Int} (h1 : lv ≤ 15) (hp : m.pil < lv) (hs : m.sk = 0) : mstep m lv = (m.trap lv (16 + lv) m.pc).lvl lv := by
  unfold mstep
  rw [if_neg (by omega), if_pos ⟨h1, hp⟩]
theorem rett_word : I2.dk 2147483648 = true ∧ I2.dO 2147483648 = 32 := ⟨by kernel_rfl, by kernel_rfl⟩
theorem ret_back {m : MS} {lv : Int} (ok : MOk m) (h1 : lv ≤ 15) (hp : m.pil < lv) (hs : m.sk = 0) (hf : thE m.sz (512 + 16 * lv) 4 = 0) (hw : ldB m.f (512 + 16 * lv).toNat 4 = 2147483648) : mstep (mstep m lv) lv = sRet m lv := by
  have h0 := ok.p0
  rw [irq_step h1 hp hs]
  have epc : ((m.trap lv (16 + lv) m.pc).lvl lv).pc = 512 + 16 * lv := by show 256 + 16 * (16 + lv) = _; omega
  have esk : ((m.trap lv (16 + lv) m.pc).lvl lv).sk = 0 := hs
  have epil : ((m.trap lv (16 + lv) m.pc).lvl lv).pil = lv := rfl
  have esz : ((m.trap lv (16 + lv) m.pc).lvl lv).sz = m.sz := rfl
  have ef : ((m.trap lv (16 + lv) m.pc).lvl lv).f = m.f := rfl
  unfold mstep
  rw [if_neg (by rw [esk]; omega), if_neg (by rw [epil]; omega), epc, esz, ef, if_pos hf, hw]
  unfold mWord
  rw [if_pos rett_word.1, rett_word.2]
  unfold mExec
  rw [if_neg (by decide), if_neg (by decide), if_neg (by decide), if_pos (by decide)]
  unfold mState
  have ebank : ((m.trap lv (16 + lv) m.pc).lvl lv).bank = lv := rfl
  have etps : ((m.trap lv (16 + lv) m.pc).lvl lv).tps lv.toNat = m.pw := by show F3.upd m.tps lv.toNat m.pw lv.toNat = _; unfold F3.upd; rw [if_pos rfl]
  have etpc : ((m.trap lv (16 + lv) m.pc).lvl lv).tpc lv.toNat = m.pc := by show F3.upd m.tpc lv.toNat m.pc lv.toNat = _; unfold F3.upd; rw [if_pos rfl]
  have enw : ((m.trap lv (16 + lv) m.pc).lvl lv).nw = m.nw := rfl
  obtain ⟨b1, b2, b3, b4, b5⟩ := pw_back ok
  rw [if_neg (by decide), if_neg (by decide), if_neg (by decide), if_neg (by decide), ebank, if_neg (by omega), if_neg (by decide), if_neg (by decide), etps, etpc, enw, if_pos b5]
  unfold MS.psr MS.jmp sRet
  rw [b1, b2, b3, b4]
  rfl
theorem rld4 (f : Nat → Int) (a : Nat) : ldB f a 4 = 256 * (256 * (256 * (256 * 0 + f (a + 0)) + f (a + 1)) + f (a + 2)) + f (a + 3) := rfl
theorem rld_st4 (f : Nat → Int) (a : Nat) {v : Int} (hv : 0 ≤ v ∧ v < 4294967296) : ldB (stB f a 4 v) a 4 = v := by
  rw [rld4]
  have e0 : stB f a 4 v (a + 0) = v / 16777216 % 256 := by unfold stB; rw [if_pos (by omega), show a + 4 - 1 - (a + 0) = 3 by omega]; rfl
  have e1 : stB f a 4 v (a + 1) = v / 65536 % 256 := by unfold stB; rw [if_pos (by omega), show a + 4 - 1 - (a + 1) = 2 by omega]; rfl
  have e2 : stB f a 4 v (a + 2) = v / 256 % 256 := by unfold stB; rw [if_pos (by omega), show a + 4 - 1 - (a + 2) = 1 by omega]; rfl
  have e3 : stB f a 4 v (a + 3) = v % 256 := by unfold stB; rw [if_pos (by omega), show a + 4 - 1 - (a + 3) = 0 by omega]; simp
  rw [e0, e1, e2, e3]
  omega
end Go.Proofs.YtlmaikbnjdmhcaaGreatDoor.K6
namespace Go.Proofs.YtlmaikbnjdmhcaaGreatDoor.K6
open Go.RowKit
set_option linter.unusedVariables false
theorem psr_f1 (c p k f : Int) (W : World) : Sem.run Tryz.prog (Instr.field 24 (.agg #[.int .u8 c, .int .u8 p, .int .u8 k, .int .u8 f]) 1) W = .ok (.int .u8 p) W := by kernel_rfl
theorem psr_f2 (c p k f : Int) (W : World) : Sem.run Tryz.prog (Instr.field 24 (.agg #[.int .u8 c, .int .u8 p, .int .u8 k, .int .u8 f]) 2) W = .ok (.int .u8 k) W := by kernel_rfl
theorem eq_psrR (x0 x1 x2 x3 : Int) (W : World) : (Op.equalIn 10000 24 (.agg #[.int .u8 x0, .int .u8 x1, .int .u8 x2, .int .u8 x3]) (.agg #[.int .u8 x0, .int .u8 x1, .int .u8 x2, .int .u8 x3])).run Tryz.prog W = .ok true W := by simp [go_sem]
theorem StAt.bel {w w' : World} {s : ST} {vw vr vc : Value} (h : StAt w s vw vr vc) (k : Below w.heap.size w w') : StAt w' s vw vr vc := by
  obtain ⟨h1, ⟨p, c, rfl, h2⟩, h3⟩ := h
  exact ⟨h1.bel k, ⟨p, c, rfl, fun hn => by obtain ⟨b, o, rfl, hc⟩ := h2 hn; exact ⟨b, o, rfl, fun i hi => by obtain ⟨a0, a1, a2, a3⟩ := hc i hi; exact ⟨bel_cell k a0, bel_cell k a1, bel_cell k a2, bel_cell k a3⟩⟩⟩, h3.bel k⟩
theorem mMade_is (s : ST) : (mMade s).nw = s.n ∧ (mMade s).sz = s.sz.toNat ∧ (mMade s).sk = 0 ∧ (mMade s).ol = 0 ∧ (mMade s).cl = s.lc := by
  have h1 : ∀ (m : MS) (a : RG), (mReg m a).nw = m.nw ∧ (mReg m a).sz = m.sz ∧ (mReg m a).sk = m.sk ∧ (mReg m a).ol = m.ol := fun m a => by unfold mReg; split <;> exact ⟨rfl, rfl, rfl, rfl⟩
  have h2 : ∀ (m : MS) (A : Nat → RG) (n : Nat), (mRegs m A n).nw = m.nw ∧ (mRegs m A n).sz = m.sz ∧ (mRegs m A n).sk = m.sk ∧ (mRegs m A n).ol = m.ol := fun m A n => by
    induction n with
    | zero => exact ⟨rfl, rfl, rfl, rfl⟩
    | succ n ih => obtain ⟨a1, a2, a3, a4⟩ := h1 (mRegs m A n) (A n); exact ⟨a1.trans ih.1, a2.trans ih.2.1, a3.trans ih.2.2.1, a4.trans ih.2.2.2⟩
  have h3 : ∀ (m : MS) (u : Int), (mWim m u).nw = m.nw ∧ (mWim m u).sz = m.sz ∧ (mWim m u).sk = m.sk ∧ (mWim m u).ol = m.ol := fun m u => by unfold mWim; split <;> exact ⟨rfl, rfl, rfl, rfl⟩
  have h4 : ∀ (m : MS) (c p k f : Int), (mPsr m c p k f).nw = m.nw ∧ (mPsr m c p k f).sz = m.sz ∧ (mPsr m c p k f).sk = m.sk ∧ (mPsr m c p k f).ol = m.ol := fun m c p k f => by unfold mPsr; split <;> exact ⟨rfl, rfl, rfl, rfl⟩
  have h5 : ∀ (m : MS) (l : Nat) (f : Nat → Int), (mPut m l f).nw = m.nw ∧ (mPut m l f).sz = m.sz ∧ (mPut m l f).sk = m.sk ∧ (mPut m l f).ol = m.ol := fun m l f => by unfold mPut; split <;> exact ⟨rfl, rfl, rfl, rfl⟩
  unfold mMade
  obtain ⟨a1, a2, a3, a4⟩ := h2 (mWim (mPsr ((mPut (mnew s.n s.sz.toNat) s.lw s.fw).jmp s.pc) s.c s.p s.k s.f) s.wim) s.A s.lr
  obtain ⟨b1, b2, b3, b4⟩ := h3 (mPsr ((mPut (mnew s.n s.sz.toNat) s.lw s.fw).jmp s.pc) s.c s.p s.k s.f) s.wim
  obtain ⟨c1, c2, c3, c4⟩ := h4 ((mPut (mnew s.n s.sz.toNat) s.lw s.fw).jmp s.pc) s.c s.p s.k s.f
  obtain ⟨d1, d2, d3, d4⟩ := h5 (mnew s.n s.sz.toNat) s.lw s.fw
  exact ⟨a1.trans (b1.trans (c1.trans d1)), a2.trans (b2.trans (c2.trans d2)), a3.trans (b3.trans (c3.trans d3)), a4.trans (b4.trans (c4.trans d4)), rfl⟩
theorem window_k {w : World} {b fb mb g x : Nat} {cs os : Value} {G : Nat → Prop} {m : MS} (h : MachP w b fb mb g x cs os G m) (k : Nat) (hk : (k : Int) < m.nw) :
    Calls Tryz.prog 16 #[.pointer (some ⟨fb, 0, none⟩), .int .i64 k] w fun e w' => ∃ sb, e = .returned (.tuple #[.slice (some ⟨sb, 0, none⟩) 16 16, .int .i64 0]) ∧ Sl .u32 w' (.slice (some ⟨sb, 0, none⟩) 16 16) 16 (fun i => m.R (k * 16 + i)) ∧ Below w.heap.size w w' := by
  refine (F3.window_at fb m.nw k m.R w h.file h.ok.n2 h.ok.n32 (by omega) hk).mono ?_
  rintro e w' ⟨rfl, gr, hrow⟩
  exact ⟨_, rfl, ⟨_, _, rfl, fun _ => ⟨_, 0, rfl, fun i hi => row_cell hrow (by simp [F3.wl, hi])⟩⟩, gr⟩
theorem mem_bel {w : World} {b fb mb g x : Nat} {cs os : Value} {G : Nat → Prop} {m : MS} (h : MachP w b fb mb g x cs os G m) : Calls Tryz.prog 20 #[.pointer (some ⟨b, 0, none⟩)] w fun e w' => e = .returned (.pointer (some ⟨mb, 0, none⟩)) ∧ Below w.heap.size w w' :=
  (Mem_get h).mono fun e w' ⟨h1, h2⟩ => ⟨h1, h2 ▸ Below.refl _ _⟩
theorem words_all {w : World} {b fb mb g x : Nat} {cs os : Value} {G : Nat → Prop} {m : MS} (h : MachP w b fb mb g x cs os G m) (n : Nat) (hn : n = m.sz / 4) :
    Calls Tryz.prog 21 #[.pointer (some ⟨mb, 0, none⟩), .int .u32 0, .int .i64 n] w fun e w' => ∃ s, e = .returned (.tuple #[s, .int .i64 0]) ∧ Sl .u32 w' s n (M5.wdB m.f 0) ∧ Below w.heap.size w w' :=
  M5.words_yes 0 n h.mem (by unfold spE; rw [if_neg (by omega), if_neg (by omega), if_neg (by omega)])
end Go.Proofs.YtlmaikbnjdmhcaaGreatDoor.K6
