/- Plain arithmetic of layer 6 (mach): what a machine is, and what a step makes of it. Plain arithmetic of layer 6 (mach): a step of a machine leaves a machine; a machine's cells. Package mach as it has landed: where a machine lies; worlds in which only some blocks have turned. A machine of package mach: all that it has, in blocks of its own. Package mach as it has landed: its small functions (isObject, halt, register, second, setRegister, state). Package mach as it has landed: an instruction that is executed, in a block of its own; the small methods of it. Package mach as it has landed: a trap is taken, a register set, a saved word found. -/
import Derived.Test.YtiobgnelhiadbaaGreatDoorVBaseG
import Derived.Test.YtiobgnelhiadbaaGreatDoorVPsrGR
import Derived.Test.YtiobgnelhiadbaaGreatDoorVPsrG
import Derived.Test.YtiobgnelhiadbaaGreatDoorVMemG
import Derived.Test.YtiobgnelhiadbaaGreatDoorVFileG
import Derived.Test.YtiobgnelhiadbaaGreatDoorVInstG
import Derived.Test.YtiobgnelhiadbaaGreatDoorVInstGD
import Derived.Deep.RegionHeld3
import Derived.Deep.RegionWith
import Derived.BigQuiet
import Derived.StillTailTactics
import Derived.Deep.QuietTactic
import Derived.Great.BuildSlice
import Derived.Great.Ranges
import Derived.Great.Walk
import Derived.Laws.Tables
import Derived.Laws.Rows
import Derived.Deep.DeepCutAuto
namespace Go.Proofs.YtiobgnelhiadbaaGreatDoor.K6
open Go.RowKit
set_option linter.unusedVariables false
/-- A machine: its windows; its registers, as layer 3 numbers them; its bytes; PC; state; WIM; TPC, TPSR by bank; choices; output; stop. -/
structure MS where
  nw : Int
  R : Nat → Int
  sz : Nat
  f : Nat → Int
  pc : Int
  cwp : Int
  pil : Int
  bank : Int
  fl : Int
  wim : Int
  tpc : Nat → Int
  tps : Nat → Int
  cl : Nat
  ch : Nat → Int
  ol : Nat
  out : Nat → Int
  sk : Int
  sv : Int
def MS.get (m : MS) (r : Int) : Int := m.R (F3.loc m.nw m.cwp m.bank r)
def MS.set (m : MS) (r v : Int) : MS := { m with R := F3.setR m.R m.nw m.cwp m.bank r v }
def MS.on (m : MS) : MS := { m with pc := (m.pc + 4) % 4294967296 }
def MS.stp (m : MS) (k v : Int) : MS := { m with sk := k, sv := v }
def MS.pw (m : MS) : Int := P4.pword m.cwp m.pil m.bank m.fl
def MS.trap (m : MS) (b k pc : Int) : MS := { m with tpc := F3.upd m.tpc b.toNat pc, tps := F3.upd m.tps b.toNat m.pw, bank := b, pc := 256 + 16 * k }
def MS.wnd (m : MS) (k pc : Int) : MS := if m.bank = 0 then m.trap 16 k pc else m.stp 3 0
/-! One part of a machine is another: each by a name, so that the walks pass it by. -/
def MS.jmp (m : MS) (p : Int) : MS := { m with pc := p }
def MS.flg (m : MS) (x : Int) : MS := { m with fl := x }
def MS.win (m : MS) (c : Int) : MS := { m with cwp := c }
def MS.lvl (m : MS) (x : Int) : MS := { m with pil := x }
def MS.byt (m : MS) (f : Nat → Int) : MS := { m with f := f }
def MS.inv (m : MS) (v : Int) : MS := { m with wim := v }
def MS.setT (m : MS) (k : Nat) (v : Int) : MS := { m with tpc := F3.upd m.tpc k v }
def MS.setP (m : MS) (k : Nat) (v : Int) : MS := { m with tps := F3.upd m.tps k v }
def MS.drop (m : MS) : MS := { m with cl := m.cl - 1, ch := fun i => m.ch (i + 1) }
def MS.tell (m : MS) (a : Int) : MS := { m with ol := m.ol + 1, out := F3.upd m.out m.ol a }
/-- The window that a WIM says is invalid. -/
def wx (v n : Int) : Option Nat := (List.range n.toNat).find? fun x => v == P4.pw x
/-- May a word be that of a state? -/
def wst (v n : Int) : Bool := decide (v < 262144 ∧ v % 32 < n ∧ v / 32 % 16 ≤ 15 ∧ v / 512 % 32 ≤ 16 ∧ v / 16384 % 16 ≤ 15)
def MS.psr (m : MS) (v : Int) : MS := { m with cwp := v % 32, pil := v / 32 % 16, bank := v / 512 % 32, fl := v / 16384 % 16 }
def mAlu (m : MS) (o d a b : Int) : MS := if W1.dok (o - 1) b then (m.set d (W1.dv (o - 1) a b)).on else m.stp 2 1
def mFlow (m : MS) (o d n a b : Int) : MS :=
  if o = 15 then (m.set d (n % 4294967296 * 2048 % 4294967296)).on
  else if o = 16 then (m.flg (W1.fl a b)).on
  else if o = 17 then (if W1.hv d m.fl then m.jmp ((m.pc + 4 * b % 4294967296) % 4294967296) else m.on)
  else if o = 18 then (m.set 15 m.pc).jmp ((m.pc + 4 * b % 4294967296) % 4294967296)
  else if o = 19 then (m.set d m.pc).jmp ((a + b) % 4294967296)
  else if o = 20 then (if wx m.wim m.nw = some ((m.cwp + m.nw - 1) % m.nw).toNat then m.wnd 1 m.pc else ((m.win ((m.cwp + m.nw - 1) % m.nw)).set d ((a + b) % 4294967296)).on)
  else (if wx m.wim m.nw = some ((m.cwp + 1) % m.nw).toNat then m.wnd 2 m.pc else ((m.win ((m.cwp + 1) % m.nw)).set d ((a + b) % 4294967296)).on)
def mLd (m : MS) (d at' many : Int) : MS := if thE m.sz at' many = 0 then (m.set d (ldB m.f at'.toNat many.toNat)).on else m.stp 3 0
def mSt (m : MS) (d at' many : Int) : MS := if thE m.sz at' many = 0 then (m.byt (stB m.f at'.toNat many.toNat (m.get d))).on else m.stp 3 0
def mMem (m : MS) (o d at' : Int) : MS :=
  if o = 22 then mLd m d at' 4 else if o = 23 then mSt m d at' 4 else if o = 24 then mLd m d at' 1 else mSt m d at' 1
def mState (m : MS) (o d n a b : Int) : MS :=
  if o = 26 then (m.set d m.pw).on
  else if o = 27 then (if wst ((a + b) % 4294967296) m.nw then (m.psr ((a + b) % 4294967296)).on else m.stp 3 0)
  else if o = 28 then (m.set d m.wim).on
  else if o = 29 then (if (wx ((a + b) % 4294967296) m.nw).isSome then (m.inv ((a + b) % 4294967296)).on else m.stp 3 0)
  else if m.bank = 0 then m.stp 3 0
  else if o = 30 then (m.set d (if n = 1 then m.tps m.bank.toNat else m.tpc m.bank.toNat)).on
  else if o = 31 then (if n = 1 then m.setP m.bank.toNat a else m.setT m.bank.toNat a).on
  else if wst (m.tps m.bank.toNat) m.nw then (m.psr (m.tps m.bank.toNat)).jmp (m.tpc m.bank.toNat) else m.stp 3 0
def mRest (m : MS) (o d n a : Int) : MS :=
  if o = 33 then m.wnd (n % 256) ((m.pc + 4) % 4294967296)
  else if o = 34 then (if 0 < m.cl then (m.drop.set d (m.ch 0)).on else (m.set d 0).on)
  else if o = 35 then (m.tell a).on
  else if o = 36 then m.stp 1 a
  else m.stp 2 (n % 4294967296)
def mExec (m : MS) (o d n a b : Int) : MS :=
  if o ≤ 14 then mAlu m o d a b
  else if o ≤ 21 then mFlow m o d n a b
  else if o ≤ 25 then mMem m o d ((a + b) % 4294967296)
  else if o ≤ 32 then mState m o d n a b
  else mRest m o d n a
/-- What an instruction's word does. -/
def mWord (m : MS) (w : Int) : MS :=
  if I2.dk w then mExec m (I2.dO w) (I2.dD w) (I2.dN w) (m.get (I2.dS w)) (if I2.dB w then I2.dN w % 4294967296 else m.get (I2.dT w)) else m.stp 3 0
/-- What a step does. -/
def mstep (m : MS) (lv : Int) : MS :=
  if m.sk ≠ 0 then m
  else if lv ≤ 15 ∧ m.pil < lv then (m.trap lv (16 + lv) m.pc).lvl lv
  else if thE m.sz m.pc 4 = 0 then mWord m (ldB m.f m.pc.toNat 4) else m.stp 3 0
/-- A word. -/
def W32 (x : Int) : Prop := 0 ≤ x ∧ x < 4294967296
/-- What every machine has. -/
structure MOk (m : MS) : Prop where
  n2 : 2 ≤ m.nw
  n32 : m.nw ≤ 32
  R : ∀ j, W32 (m.R j)
  sz : m.sz ≤ 4194304
  f : Bytes m.f
  pc : W32 m.pc
  c0 : 0 ≤ m.cwp
  c1 : m.cwp < m.nw
  p0 : 0 ≤ m.pil
  p1 : m.pil ≤ 15
  b0 : 0 ≤ m.bank
  b1 : m.bank ≤ 16
  f0 : 0 ≤ m.fl
  f1 : m.fl ≤ 15
  wim : ∃ x : Nat, (x : Int) < m.nw ∧ m.wim = P4.pw x
  tpc : ∀ j, W32 (m.tpc j)
  tps : ∀ j, W32 (m.tps j)
  ch : ∀ j, W32 (m.ch j)
  out : ∀ j, W32 (m.out j)
  sk0 : 0 ≤ m.sk
  sk1 : m.sk ≤ 3
  sv : W32 m.sv
theorem MOk.named {m : MS} (h : MOk m) {r : Int} (h0 : 0 ≤ r) (h1 : r < 32) : F3.Named m.nw m.cwp m.bank r := ⟨h.c0, h.c1, h.b0, by have := h.b1; omega, h0, h1⟩
theorem MOk.get {m : MS} (h : MOk m) (r : Int) : W32 (m.get r) := h.R _
theorem setR_w {R : Nat → Int} (h : ∀ j, W32 (R j)) (n w b r v : Int) (hv : W32 v) : ∀ j, W32 (F3.setR R n w b r v j) := fun j => by
  unfold F3.setR
  split
  · exact h j
  · unfold F3.upd
    split
    · exact hv
    · exact h j
theorem upd_w {R : Nat → Int} (h : ∀ j, W32 (R j)) (k : Nat) {v : Int} (hv : W32 v) : ∀ j, W32 (F3.upd R k v j) := fun j => by
  unfold F3.upd
  split
  · exact hv
  · exact h j
theorem w32_mod (x : Int) : W32 (x % 4294967296) := ⟨by omega, by omega⟩
theorem MOk.set {m : MS} (h : MOk m) (r : Int) {v : Int} (hv : W32 v) : MOk (m.set r v) := { h with R := setR_w h.R _ _ _ _ _ hv }
theorem MOk.on {m : MS} (h : MOk m) : MOk m.on := { h with pc := w32_mod _ }
theorem MOk.stp {m : MS} (h : MOk m) {k v : Int} (h0 : 0 ≤ k) (h1 : k ≤ 3) (hv : W32 v) : MOk (m.stp k v) := { h with sk0 := h0, sk1 := h1, sv := hv }
theorem MOk.pw {m : MS} (h : MOk m) : W32 m.pw := by
  obtain ⟨h0, h1, h2, h3, h4, h5, h6, h7, h8, h9⟩ := And.intro h.n32 (And.intro h.c0 (And.intro h.c1 (And.intro h.p0 (And.intro h.p1 (And.intro h.b0 (And.intro h.b1 (And.intro h.f0 (And.intro h.f1 trivial))))))))
  unfold MS.pw P4.pword W32
  omega
theorem MOk.trap {m : MS} (h : MOk m) {b k pc : Int} (h0 : 0 ≤ b) (h1 : b ≤ 16) (hk : 0 ≤ k ∧ k < 256) (hp : W32 pc) : MOk (m.trap b k pc) :=
  { h with tpc := upd_w h.tpc _ hp, tps := upd_w h.tps _ h.pw, b0 := h0, b1 := h1, pc := ⟨by show 0 ≤ 256 + 16 * k; omega, by show 256 + 16 * k < 4294967296; omega⟩ }
theorem MOk.wnd {m : MS} (h : MOk m) {k pc : Int} (hk : 0 ≤ k ∧ k < 256) (hp : W32 pc) : MOk (m.wnd k pc) := by
  unfold MS.wnd
  split
  · exact h.trap (by decide) (by decide) hk hp
  · exact h.stp (by decide) (by decide) ⟨by decide, by decide⟩
theorem wx_some {v n : Int} {x : Nat} (h : wx v n = some x) : (x : Int) < n ∧ v = P4.pw x := by
  unfold wx at h
  have h1 := List.find?_some h
  have h2 := List.mem_of_find?_eq_some h
  simp at h1 h2
  exact ⟨by omega, h1⟩
theorem wx_none {v n : Int} (h : wx v n = none) : ∀ x : Nat, (x : Int) < n → v ≠ P4.pw x := fun x hx e => by
  unfold wx at h
  rw [List.find?_eq_none] at h
  have := h x (by simp; omega)
  simp at this
  exact this e
theorem wx_pw {x : Nat} {n : Int} (h : (x : Int) < n) : wx (P4.pw x) n = some x := by
  cases hw : wx (P4.pw x) n with
  | none => exact absurd rfl (wx_none hw x h)
  | some y => rw [P4.pw_inj (wx_some hw).2]
theorem wst_iff {v n : Int} (hn : 2 ≤ n) (hn' : n ≤ 32) : wst v n = true ↔ v < 262144 ∧ P4.WState v n := by
  unfold wst P4.WState P4.State
  simp only [decide_eq_true_eq]
  constructor
  · rintro ⟨h1, h2, h3, h4, h5⟩; exact ⟨h1, hn, hn', h2, h3, h4, h5⟩
  · rintro ⟨h1, _, _, h2, h3, h4, h5⟩; exact ⟨h1, h2, h3, h4, h5⟩
theorem MOk.psr {m : MS} (h : MOk m) {v : Int} (hv : W32 v) (hs : wst v m.nw = true) : MOk (m.psr v) := by
  have := (wst_iff h.n2 h.n32).1 hs
  obtain ⟨_, _, _, h2, h3, h4, h5⟩ := this
  exact { h with c0 := by show 0 ≤ v % 32; omega, c1 := h2, p0 := by show 0 ≤ v / 32 % 16; omega, p1 := h3, b0 := by show 0 ≤ v / 512 % 32; omega, b1 := h4, f0 := by show 0 ≤ v / 16384 % 16; omega, f1 := h5 }
theorem MOk.jmp {m : MS} (h : MOk m) {p : Int} (hp : W32 p) : MOk (m.jmp p) := { h with pc := hp }
theorem MOk.flg {m : MS} (h : MOk m) {x : Int} (h0 : 0 ≤ x) (h1 : x ≤ 15) : MOk (m.flg x) := { h with f0 := h0, f1 := h1 }
theorem MOk.win {m : MS} (h : MOk m) {c : Int} (h0 : 0 ≤ c) (h1 : c < m.nw) : MOk (m.win c) := { h with c0 := h0, c1 := h1 }
theorem MOk.lvl {m : MS} (h : MOk m) {x : Int} (h0 : 0 ≤ x) (h1 : x ≤ 15) : MOk (m.lvl x) := { h with p0 := h0, p1 := h1 }
theorem MOk.byt {m : MS} (h : MOk m) {f : Nat → Int} (hf : Bytes f) : MOk (m.byt f) := { h with f := hf }
theorem MOk.inv {m : MS} (h : MOk m) {v : Int} (hv : (wx v m.nw).isSome = true) : MOk (m.inv v) := by
  obtain ⟨x, hx⟩ := Option.isSome_iff_exists.1 hv
  exact { h with wim := ⟨x, wx_some hx⟩ }
theorem MOk.setT {m : MS} (h : MOk m) (k : Nat) {v : Int} (hv : W32 v) : MOk (m.setT k v) := { h with tpc := upd_w h.tpc k hv }
theorem MOk.setP {m : MS} (h : MOk m) (k : Nat) {v : Int} (hv : W32 v) : MOk (m.setP k v) := { h with tps := upd_w h.tps k hv }
theorem MOk.drop {m : MS} (h : MOk m) : MOk m.drop := { h with ch := fun j => h.ch (j + 1) }
theorem MOk.tell {m : MS} (h : MOk m) {a : Int} (ha : W32 a) : MOk (m.tell a) := { h with out := upd_w h.out m.ol ha }
end Go.Proofs.YtiobgnelhiadbaaGreatDoor.K6
namespace Go.Proofs.YtiobgnelhiadbaaGreatDoor.K6
open Go.RowKit
set_option linter.unusedVariables false
theorem MOk.state {m : MS} (h : MOk m) : P4.State m.cwp m.pil m.bank m.fl m.nw := ⟨h.n2, h.n32, h.c1, h.p1, h.b1, h.f1⟩
theorem MOk.bytes {m : MS} (h : MOk m) : P4.Byte m.cwp ∧ P4.Byte m.pil ∧ P4.Byte m.bank ∧ P4.Byte m.fl := by
  obtain ⟨h0, h1, h2, h3, h4, h5, h6, h7, h8, h9⟩ := And.intro h.n32 (And.intro h.c0 (And.intro h.c1 (And.intro h.p0 (And.intro h.p1 (And.intro h.b0 (And.intro h.b1 (And.intro h.f0 (And.intro h.f1 trivial))))))))
  unfold P4.Byte
  omega
/-- What the parts of an instruction's word are. -/
structure Parts (o d s t : Int) (b : Bool) (n : Int) : Prop where
  o0 : 1 ≤ o
  o1 : o ≤ 37
  d0 : 0 ≤ d
  d1 : d < 32
  s0 : 0 ≤ s
  s1 : s < 32
  t0 : 0 ≤ t
  t1 : t < 32
  n0 : -2147483648 ≤ n
  n1 : n ≤ 2147483647
  lo : o ≠ 15 → o ≠ 17 → o ≠ 18 → -16384 ≤ n ∧ n ≤ 16383
  t01 : o = 30 ∨ o = 31 → n = 0 ∨ n = 1
  b33 : o = 33 → n = 3 ∨ n = 4
  b37 : o = 37 → 1 ≤ n ∧ n ≤ 3
  br : o = 15 ∨ o = 17 ∨ o = 18 → b = true
theorem parts_may {o d s t : Int} {b : Bool} {n : Int} (hd : 0 ≤ d) (hs : 0 ≤ s) (ht : 0 ≤ t) (h : I2.may o d s t b n = true) : Parts o d s t b n := by
  cases b with
  | true =>
    rw [I2.may_t] at h
    simp only [decide_eq_true_eq] at h
    unfold I2.MayT I2.Ka I2.Kb at h
    constructor
    case br => exact fun _ => rfl
    all_goals omega
  | false =>
    rw [I2.may_f] at h
    simp only [decide_eq_true_eq] at h
    unfold I2.MayF I2.Ka I2.Kb at h
    constructor
    case br => exact fun hh => by omega
    all_goals omega
theorem parts_dk {w : Int} (hw : 0 ≤ w ∧ w < 4294967296) (h : I2.dk w = true) : Parts (I2.dO w) (I2.dD w) (I2.dS w) (I2.dT w) (I2.dB w) (I2.dN w) := by
  have hm : I2.cM w = true := by unfold I2.dk at h; simp at h; exact h.1
  obtain ⟨_, h2, h3, h4⟩ := I2.c_bd hw
  have := parts_may h2.1 h3.1 h4.1 hm
  unfold I2.dO I2.dD I2.dS I2.dT I2.dB I2.dN
  rw [h]
  simpa using this
theorem mAlu_ok {m : MS} (h : MOk m) {o d a b : Int} (ha : W32 a) : MOk (mAlu m o d a b) := by
  unfold mAlu
  split
  · exact (h.set d (W1.dv_bd _ _ _ ha)).on
  · exact h.stp (by decide) (by decide) ⟨by decide, by decide⟩
theorem mFlow_ok {m : MS} (h : MOk m) {o d n a b : Int} : MOk (mFlow m o d n a b) := by
  have hn2 := h.n2
  have e1 := Int.emod_nonneg (m.cwp + m.nw - 1) (b := (m.nw : Int)) (by omega)
  have e2 := Int.emod_lt_of_pos (m.cwp + m.nw - 1) (b := (m.nw : Int)) (by omega)
  have e3 := Int.emod_nonneg (m.cwp + 1) (b := (m.nw : Int)) (by omega)
  have e4 := Int.emod_lt_of_pos (m.cwp + 1) (b := (m.nw : Int)) (by omega)
  unfold mFlow
  split; · exact (h.set d (w32_mod _)).on
  split; · exact (h.flg (W1.fl_bd _ _).1 (W1.fl_bd _ _).2).on
  split
  · split
    · exact h.jmp (w32_mod _)
    · exact h.on
  split; · exact (h.set 15 h.pc).jmp (w32_mod _)
  split; · exact (h.set d h.pc).jmp (w32_mod _)
  split
  · split
    · exact h.wnd ⟨by decide, by decide⟩ h.pc
    · exact ((h.win e1 e2).set d (w32_mod _)).on
  · split
    · exact h.wnd ⟨by decide, by decide⟩ h.pc
    · exact ((h.win e3 e4).set d (w32_mod _)).on
theorem ldB_word {f : Nat → Int} (h : Bytes f) (a k : Nat) (hk : k ≤ 4) : W32 (ldB f a k) := by
  have h1 := ldB_in h a k
  have : (256 : Int) ^ k ≤ 4294967296 := by
    rcases (by omega : k = 0 ∨ k = 1 ∨ k = 2 ∨ k = 3 ∨ k = 4) with rfl | rfl | rfl | rfl | rfl <;> decide
  exact ⟨h1.1, by omega⟩
theorem mLd_ok {m : MS} (h : MOk m) (d at' : Int) {many : Int} (hm : many.toNat ≤ 4) : MOk (mLd m d at' many) := by
  unfold mLd
  split
  · exact (h.set d (ldB_word h.f _ _ hm)).on
  · exact h.stp (by decide) (by decide) ⟨by decide, by decide⟩
theorem mSt_ok {m : MS} (h : MOk m) (d at' many : Int) : MOk (mSt m d at' many) := by
  unfold mSt
  split
  · exact (h.byt (stB_bytes h.f _ _ _)).on
  · exact h.stp (by decide) (by decide) ⟨by decide, by decide⟩
theorem mMem_ok {m : MS} (h : MOk m) (o d at' : Int) : MOk (mMem m o d at') := by
  unfold mMem
  split; · exact mLd_ok h _ _ (by decide)
  split; · exact mSt_ok h _ _ _
  split; · exact mLd_ok h _ _ (by decide)
  exact mSt_ok h _ _ _
theorem no_stop {m : MS} (h : MOk m) : MOk (m.stp 3 0) := h.stp (by decide) (by decide) ⟨by decide, by decide⟩
theorem mState_ok {m : MS} (h : MOk m) (o d n : Int) {a b : Int} (ha : W32 a) : MOk (mState m o d n a b) := by
  unfold mState
  split; · exact (h.set d h.pw).on
  split
  · split
    · exact (h.psr (w32_mod _) (by assumption)).on
    · exact no_stop h
  split
  · refine (h.set d ?_).on
    obtain ⟨x, hx, e⟩ := h.wim
    rw [e]
    have := P4.pw_in (x := x) (by have := h.n32; omega)
    exact ⟨by omega, this.2⟩
  split
  · split
    · exact (h.inv (by assumption)).on
    · exact no_stop h
  split; · exact no_stop h
  split
  · refine (h.set d ?_).on
    split
    · exact h.tps _
    · exact h.tpc _
  split
  · split
    · exact (h.setP _ ha).on
    · exact (h.setT _ ha).on
  split
  · exact (h.psr (h.tps _) (by assumption)).jmp (h.tpc _)
  · exact no_stop h
theorem mRest_ok {m : MS} (h : MOk m) (o d n : Int) {a : Int} (ha : W32 a) : MOk (mRest m o d n a) := by
  unfold mRest
  split; · exact h.wnd ⟨Int.emod_nonneg _ (by decide), Int.emod_lt_of_pos _ (by decide)⟩ (w32_mod _)
  split
  · split
    · exact (h.drop.set d (h.ch 0)).on
    · exact (h.set d ⟨by decide, by decide⟩).on
  split; · exact (h.tell ha).on
  split
  · exact h.stp (by decide) (by decide) ha
  · exact h.stp (by decide) (by decide) (w32_mod _)
theorem mExec_ok {m : MS} (h : MOk m) (o d n : Int) {a : Int} (b : Int) (ha : W32 a) : MOk (mExec m o d n a b) := by
  unfold mExec
  split; · exact mAlu_ok h ha
  split; · exact mFlow_ok h
  split; · exact mMem_ok h _ _ _
  split; · exact mState_ok h _ _ _ ha
  exact mRest_ok h _ _ _ ha
theorem mWord_ok {m : MS} (h : MOk m) (w : Int) : MOk (mWord m w) := by
  unfold mWord
  split
  · exact mExec_ok h _ _ _ _ (h.get _)
  · exact no_stop h
end Go.Proofs.YtiobgnelhiadbaaGreatDoor.K6
namespace Go.Proofs.YtiobgnelhiadbaaGreatDoor.K6
open Go.RowKit
set_option linter.unusedVariables false
/-! Worlds of which only some old blocks may have turned. -/
structure Turns (G : Nat → Prop) (w w' : World) : Prop where
  os : w'.os = w.os
  tape : w'.tape = w.tape
  output : w'.output = w.output
  size : w.heap.size ≤ w'.heap.size
  block : ∀ i, i < w.heap.size → ¬ G i → w'.heap[i]? = w.heap[i]?
theorem Turns.refl (G : Nat → Prop) (w : World) : Turns G w w := ⟨rfl, rfl, rfl, Nat.le_refl _, fun _ _ _ => rfl⟩
theorem Turns.of_bel {G : Nat → Prop} {w w' : World} (h : Below w.heap.size w w') : Turns G w w' := ⟨h.os, h.tape, h.output, h.size, fun i hi _ => h.block i hi⟩
theorem Turns.of_only {G : Nat → Prop} {w w' : World} {b : Nat} (h : w.grownBy w' (some b)) (hb : G b) : Turns G w w' :=
  ⟨h.os, h.tape, h.output, h.size, fun i hi hn => h.block i hi (fun e => hn (by injection e with e; exact e ▸ hb))⟩
theorem Turns.trans {G G' : Nat → Prop} {a b c : World} (h : Turns G a b) (k : Turns G' b c) (hg : ∀ i, G' i → G i ∨ a.heap.size ≤ i) : Turns G a c :=
  ⟨k.os.trans h.os, k.tape.trans h.tape, k.output.trans h.output, Nat.le_trans h.size k.size, fun i hi hn =>
    (k.block i (Nat.lt_of_lt_of_le hi h.size) (fun e => (hg i e).elim hn (fun hh => absurd hi (Nat.not_lt.2 hh)))).trans (h.block i hi hn)⟩
theorem Turns.bel {G : Nat → Prop} {a w w' : World} (h : Below a.heap.size a w) (k : Turns G w w') (hg : ∀ i, G i → a.heap.size ≤ i) : Below a.heap.size a w' :=
  ⟨k.os.trans h.os, k.tape.trans h.tape, k.output.trans h.output, Nat.le_trans h.size k.size, fun i hi =>
    (k.block i (Nat.lt_of_lt_of_le hi h.size) (fun e => absurd (hg i e) (Nat.not_le.2 hi))).trans (h.block i hi)⟩
theorem Turns.heap {G : Nat → Prop} {w w' : World} (h : Turns G w w') {x : Nat} (hx : ¬ G x) {o : Obj} (hb : w.heap[x]? = some o) : w'.heap[x]? = some o := by
  rw [h.block x (M5.heap_lt hb) hx]; exact hb
theorem Turns.cell {G : Nat → Prop} {w w' : World} (h : Turns G w w') {x j : Nat} (hx : ¬ G x) {v : Value} (hc : w.cell? ⟨x, j, none⟩ = some v) : w'.cell? ⟨x, j, none⟩ = some v :=
  (World.cell?_of_block (a := ⟨x, j, none⟩) (h.block x (block_lt_of_cell (a := ⟨x, j, none⟩) hc) hx)).trans hc
/-! The two tables that the program has. -/
def isTab (i : Nat) : Prop := i = 1 ∨ i = 0
structure Tabs (w : World) : Prop where
  p : P4.TabAt w
  i : I2.Tab w
theorem Tabs.bel {w w' : World} (h : Tabs w) (k : Below w.heap.size w w') : Tabs w' := ⟨h.p.bel k, fun a ha b hb => bel_cell k (h.i a ha b hb)⟩
theorem Tabs.turns {G : Nat → Prop} {w w' : World} (h : Tabs w) (k : Turns G w w') (hg : ∀ i, G i → ¬ isTab i) : Tabs w' :=
  ⟨fun j hj => k.cell (fun e => hg _ e (.inl rfl)) (h.p j hj), fun a ha b hb => k.cell (fun e => hg _ e (.inr rfl)) (h.i a ha b hb)⟩
theorem Tabs.lt {w : World} (h : Tabs w) {i : Nat} (hi : isTab i) : i < w.heap.size := by
  rcases hi with rfl | rfl
  · exact block_lt_of_cell (a := ⟨_, 0, none⟩) (h.p 0 (by decide))
  · exact block_lt_of_cell (a := ⟨_, 0 * 5 + 0, none⟩) (h.i 0 (by decide) 0 (by decide))
/-! A machine's block. -/
def mcell (fv mv cs os : Value) (m : MS) (j : Nat) : Value :=
  if j = 0 then fv else if j = 1 then mv else if j = 2 then .int .u32 m.pc else if j = 3 then .int .u8 m.cwp else if j = 4 then .int .u8 m.pil else if j = 5 then .int .u8 m.bank else if j = 6 then .int .u8 m.fl else if j = 7 then .int .u32 m.wim
  else if j = 42 then cs else if j = 43 then os else if j = 44 then .int .u8 m.sk else if j = 45 then .int .u32 m.sv
  else if j % 2 = 0 then .int .u32 (m.tpc ((j - 8) / 2)) else .int .u32 (m.tps ((j - 8) / 2))
def mrow (c : Nat → Value) : Array Value := ((List.range 46).map c).toArray
theorem mrow_get (c : Nat → Value) {j : Nat} (h : j < 46) : (mrow c)[j]? = some (c j) := by simp [mrow, h]
def updV (c : Nat → Value) (j : Nat) (v : Value) : Nat → Value := fun i => if i = j then v else c i
theorem mrow_set (c : Nat → Value) (j : Nat) (v : Value) : (mrow c).setIfInBounds j v = mrow (updV c j v) := by
  apply Array.ext
  · simp [mrow]
  · intro i h1 h2
    simp only [mrow, updV, List.getElem_toArray, List.getElem_map, List.getElem_range]
    by_cases e : j = i
    · subst e; simp
    · have e' : ¬ i = j := fun h => e h.symm
      simp [e, e']
/-- In world w the block b holds these 46 cells. -/
def Box (w : World) (b : Nat) (c : Nat → Value) : Prop := w.heap[b]? = some (.cells (mrow c) 133 (0, 0))
theorem Box.cell {w : World} {b : Nat} {c : Nat → Value} (h : Box w b c) {j : Nat} (hj : j < 46) : w.cell? ⟨b, j, none⟩ = some (c j) := row_cell h (mrow_get c hj)
theorem Box.frozen {w : World} {b : Nat} {c : Nat → Value} (h : Box w b c) (j : Nat) : w.frozen? ⟨b, j, none⟩ = false := row_frozen h
theorem Box.only {w w' : World} {b x : Nat} {c : Nat → Value} (h : Box w b c) (k : w.grownBy w' (some x)) (hx : b ≠ x) : Box w' b c := only_heap k hx h
theorem Box.set {w : World} {b : Nat} {c : Nat → Value} (h : Box w b c) (j : Nat) (v : Value) : Box (w.setCell ⟨b, j, none⟩ v) b (updV c j v) := by
  have := heap_setCell_same w b j _ _ v h
  rw [mrow_set] at this
  exact this
theorem Box.congr {w : World} {b : Nat} {c c' : Nat → Value} (h : Box w b c) (e : ∀ j, j < 46 → c j = c' j) : Box w b c' := by
  unfold Box at h ⊢
  rw [h]
  have : mrow c = mrow c' := by
    unfold mrow
    congr 1
    exact List.map_congr_left fun j hj => e j (by simpa using hj)
  rw [this]
theorem mcell_tpc (fv mv cs os : Value) (m : MS) {j k : Nat} (hj : j = 8 + 2 * k) (h : k ≤ 16) : mcell fv mv cs os m j = .int .u32 (m.tpc k) := by
  subst hj
  unfold mcell
  rw [if_neg (by omega), if_neg (by omega), if_neg (by omega), if_neg (by omega), if_neg (by omega), if_neg (by omega), if_neg (by omega), if_neg (by omega), if_neg (by omega), if_neg (by omega), if_neg (by omega), if_neg (by omega), if_pos (by omega), show (8 + 2 * k - 8) / 2 = k by omega]
theorem mcell_tps (fv mv cs os : Value) (m : MS) {j k : Nat} (hj : j = 9 + 2 * k) (h : k ≤ 16) : mcell fv mv cs os m j = .int .u32 (m.tps k) := by
  subst hj
  unfold mcell
  rw [if_neg (by omega), if_neg (by omega), if_neg (by omega), if_neg (by omega), if_neg (by omega), if_neg (by omega), if_neg (by omega), if_neg (by omega), if_neg (by omega), if_neg (by omega), if_neg (by omega), if_neg (by omega), if_neg (by omega), show (9 + 2 * k - 8) / 2 = k by omega]
section
variable (fv mv cs os : Value) (m : MS)
theorem put_pc (p : Int) : updV (mcell fv mv cs os m) 2 (.int .u32 p) = mcell fv mv cs os (m.jmp p) := by
  funext j; by_cases h : j = 2 <;> simp [updV, mcell, h, MS.jmp]
theorem put_cwp (p : Int) : updV (mcell fv mv cs os m) 3 (.int .u8 p) = mcell fv mv cs os (m.win p) := by
  funext j; by_cases h : j = 3 <;> simp [updV, mcell, h, MS.win]
theorem put_pil (p : Int) : updV (mcell fv mv cs os m) 4 (.int .u8 p) = mcell fv mv cs os (m.lvl p) := by
  funext j; by_cases h : j = 4 <;> simp [updV, mcell, h, MS.lvl]
theorem put_bank (p : Int) : updV (mcell fv mv cs os m) 5 (.int .u8 p) = mcell fv mv cs os { m with bank := p } := by
  funext j; by_cases h : j = 5 <;> simp [updV, mcell, h]
theorem put_fl (p : Int) : updV (mcell fv mv cs os m) 6 (.int .u8 p) = mcell fv mv cs os (m.flg p) := by
  funext j; by_cases h : j = 6 <;> simp [updV, mcell, h, MS.flg]
theorem put_wim (p : Int) : updV (mcell fv mv cs os m) 7 (.int .u32 p) = mcell fv mv cs os (m.inv p) := by
  funext j; by_cases h : j = 7 <;> simp [updV, mcell, h, MS.inv]
theorem put_sk (p : Int) : updV (mcell fv mv cs os m) 44 (.int .u8 p) = mcell fv mv cs os { m with sk := p } := by
  funext j; by_cases h : j = 44 <;> simp [updV, mcell, h]
theorem put_sv (p : Int) : updV (mcell fv mv cs os m) 45 (.int .u32 p) = mcell fv mv cs os { m with sv := p } := by
  funext j; by_cases h : j = 45 <;> simp [updV, mcell, h]
theorem put_cs (s : Value) (m' : MS) (e : ∀ s, mcell fv mv s os m = mcell fv mv s os m') : updV (mcell fv mv cs os m) 42 s = mcell fv mv s os m' := by
  rw [← e]
  funext j; by_cases h : j = 42 <;> simp [updV, mcell, h]
theorem put_os (s : Value) (m' : MS) (e : ∀ s, mcell fv mv cs s m = mcell fv mv cs s m') : updV (mcell fv mv cs os m) 43 s = mcell fv mv cs s m' := by
  rw [← e]
  funext j; by_cases h : j = 43 <;> simp [updV, mcell, h]
theorem put_tpc (p : Int) {i k : Nat} (hi : i = 8 + 2 * k) (hk : k ≤ 16) : updV (mcell fv mv cs os m) i (.int .u32 p) = mcell fv mv cs os (m.setT k p) := by
  subst hi
  funext j
  by_cases h : j = 8 + 2 * k
  · rw [mcell_tpc _ _ _ _ _ h hk]; simp [updV, h, MS.setT, F3.upd]
  · by_cases h8 : j < 8 ∨ 41 < j ∨ j % 2 = 1
    · simp only [updV, if_neg h]
      unfold mcell MS.setT
      rcases h8 with h8 | h8 | h8
      · have : j = 0 ∨ j = 1 ∨ j = 2 ∨ j = 3 ∨ j = 4 ∨ j = 5 ∨ j = 6 ∨ j = 7 := by omega
        rcases this with rfl | rfl | rfl | rfl | rfl | rfl | rfl | rfl <;> rfl
      · by_cases a : j % 2 = 0
        · have : ¬ (j - 8) / 2 = k := by omega
          simp [a, F3.upd, this]
        · simp [a]
      · simp [h8]
    · have hq : j = 8 + 2 * ((j - 8) / 2) := by omega
      have h16 : (j - 8) / 2 ≤ 16 := by omega
      simp only [updV, if_neg h]
      rw [mcell_tpc _ _ _ _ _ hq h16, mcell_tpc _ _ _ _ _ hq h16]
      have : ¬ (j - 8) / 2 = k := by omega
      simp [MS.setT, F3.upd, this]
theorem put_tps (p : Int) {i k : Nat} (hi : i = 9 + 2 * k) (hk : k ≤ 16) : updV (mcell fv mv cs os m) i (.int .u32 p) = mcell fv mv cs os (m.setP k p) := by
  subst hi
  funext j
  by_cases h : j = 9 + 2 * k
  · rw [mcell_tps _ _ _ _ _ h hk]; simp [updV, h, MS.setP, F3.upd]
  · by_cases h8 : j < 8 ∨ 41 < j ∨ j % 2 = 0
    · simp only [updV, if_neg h]
      unfold mcell MS.setP
      rcases h8 with h8 | h8 | h8
      · have : j = 0 ∨ j = 1 ∨ j = 2 ∨ j = 3 ∨ j = 4 ∨ j = 5 ∨ j = 6 ∨ j = 7 := by omega
        rcases this with rfl | rfl | rfl | rfl | rfl | rfl | rfl | rfl <;> rfl
      · by_cases a : j % 2 = 0
        · simp [a]
        · have : ¬ (j - 8) / 2 = k := by omega
          simp [a, F3.upd, this]
      · simp [h8]
    · have hq : j = 9 + 2 * ((j - 8) / 2) := by omega
      have h16 : (j - 8) / 2 ≤ 16 := by omega
      simp only [updV, if_neg h]
      rw [mcell_tps _ _ _ _ _ hq h16, mcell_tps _ _ _ _ _ hq h16]
      have : ¬ (j - 8) / 2 = k := by omega
      simp [MS.setP, F3.upd, this]
end
end Go.Proofs.YtiobgnelhiadbaaGreatDoor.K6
namespace Go.Proofs.YtiobgnelhiadbaaGreatDoor.K6
open Go.RowKit
set_option linter.unusedVariables false
/-- A slice of n words in block x. -/
def CsAt (w : World) (s : Value) (x n : Nat) (f : Nat → Int) : Prop :=
  ∃ p c, s = .slice p n c ∧ n ≤ c ∧ (0 < n → ∃ o cur, p = some ⟨x, o, none⟩ ∧ w.heap[x]? = some (.cells cur 22 (0, 0)) ∧ ∀ i, i < n → cur[o + i]? = some (.int .u32 (f i)))
theorem CsAt.same {w w' : World} {s : Value} {x n : Nat} {f : Nat → Int} (h : CsAt w s x n f) (k : 0 < n → w'.heap[x]? = w.heap[x]?) : CsAt w' s x n f := by
  obtain ⟨p, c, rfl, hc, h⟩ := h
  exact ⟨p, c, rfl, hc, fun hn => by obtain ⟨o, cur, rfl, hb, hc⟩ := h hn; exact ⟨o, cur, rfl, (k hn).trans hb, hc⟩⟩
theorem own_same {w w' : World} {B : Nat} {t : TypeId} {s : Value} {n : Nat} {xs : List Value} (h : w.ownsRow B t 1 s n xs) (k : ∀ j, s.ownBlock = some j → w'.heap[j]? = w.heap[j]?) : w'.ownsRow B t 1 s n xs := by
  obtain ⟨h0, h | ⟨g, cap, cur, rfl, hB, hg, h1, h2, h3, h4⟩⟩ := h
  · exact ⟨h0, .inl h⟩
  · exact ⟨h0, .inr ⟨g, cap, cur, rfl, hB, (k g rfl).trans hg, h1, h2, h3, h4⟩⟩
/-- In world w a machine m lies in block b, its file in fb, its memory in mb and g, its choices in x. All of its blocks are G's. -/
structure MachP (w : World) (b fb mb g x : Nat) (cs os : Value) (G : Nat → Prop) (m : MS) : Prop where
  box : Box w b (mcell (.pointer (some ⟨fb, 0, none⟩)) (.pointer (some ⟨mb, 0, none⟩)) cs os m)
  file : F3.FileAt w fb m.nw m.R
  mbox : w.heap[mb]? = some (.cells #[.slice (some ⟨g, 0, none⟩) m.sz m.sz] 234 (0, 0))
  row : M5.RowAt w g m.sz m.f
  chs : CsAt w cs x m.cl m.ch
  outs : w.ownsRow 0 22 1 os m.ol (bsL .u32 m.out m.ol)
  gb : G b
  gf : G fb
  gm : G mb
  gg : G g
  gx : 0 < m.cl → G x
  go : ∀ j, os.ownBlock = some j → G j ∧ (0 < m.cl → j ≠ x)
  lt : ∀ i, G i → i < w.heap.size
  far : ∀ i, G i → ¬ isTab i
  tab : Tabs w
  ok : MOk m
theorem MachP.mem {w : World} {b fb mb g x : Nat} {cs os : Value} {G : Nat → Prop} {m : MS} (h : MachP w b fb mb g x cs os G m) : M5.MemAt w (.pointer (some ⟨mb, 0, none⟩)) g m.sz m.f :=
  ⟨⟨mb, rfl, h.mbox⟩, h.row, h.ok.f, h.ok.sz⟩
/-- A machine lies in block b, and all of its blocks are G's. -/
def MachB (w : World) (b : Nat) (G : Nat → Prop) (m : MS) : Prop := ∃ fb mb g x cs os, MachP w b fb mb g x cs os G m
theorem MachP.b {w : World} {b fb mb g x : Nat} {cs os : Value} {G : Nat → Prop} {m : MS} (h : MachP w b fb mb g x cs os G m) : MachB w b G m := ⟨fb, mb, g, x, cs, os, h⟩
section
variable {w w' : World} {b fb mb g x : Nat} {cs os : Value} {G : Nat → Prop} {m : MS}
theorem MachP.same (h : MachP w b fb mb g x cs os G m) (k : ∀ i, G i → w'.heap[i]? = w.heap[i]?) (hs : w.heap.size ≤ w'.heap.size) (ht : Tabs w') : MachP w' b fb mb g x cs os G m :=
  { h with
    box := (k _ h.gb).trans h.box
    file := (k _ h.gf).trans h.file
    mbox := (k _ h.gm).trans h.mbox
    row := (k _ h.gg).trans h.row
    chs := h.chs.same fun hn => k _ (h.gx hn)
    outs := own_same h.outs fun j hj => k _ (h.go j hj).1
    lt := fun i hi => Nat.lt_of_lt_of_le (h.lt i hi) hs
    tab := ht }
theorem MachP.bel (h : MachP w b fb mb g x cs os G m) (k : Below w.heap.size w w') : MachP w' b fb mb g x cs os G m := h.same (fun i hi => k.block i (h.lt i hi)) k.size (h.tab.bel k)
theorem MachP.turns {H : Nat → Prop} (h : MachP w b fb mb g x cs os G m) (k : Turns H w w') (hd : ∀ i, G i → ¬ H i) (ht : ∀ i, H i → ¬ isTab i) : MachP w' b fb mb g x cs os G m :=
  h.same (fun i hi => k.block i (h.lt i hi) (hd i hi)) k.size (h.tab.turns k ht)
/-! Its blocks are not the same ones. -/
theorem MachP.bf (h : MachP w b fb mb g x cs os G m) : b ≠ fb := by
  rintro rfl; have h1 := h.box; have h2 := h.file; unfold Box at h1; unfold F3.FileAt at h2; rw [h1] at h2; simp at h2
theorem MachP.bm (h : MachP w b fb mb g x cs os G m) : b ≠ mb := by
  rintro rfl; have h1 := h.box; have h2 := h.mbox; unfold Box at h1; rw [h1] at h2; simp at h2
theorem MachP.bg (h : MachP w b fb mb g x cs os G m) : b ≠ g := by
  rintro rfl; have h1 := h.box; have h2 := h.row; unfold Box at h1; unfold M5.RowAt at h2; rw [h1] at h2; simp at h2
theorem MachP.fm (h : MachP w b fb mb g x cs os G m) : fb ≠ mb := by
  rintro rfl; have h1 := h.file; have h2 := h.mbox; unfold F3.FileAt at h1; rw [h1] at h2; simp at h2
theorem MachP.fg (h : MachP w b fb mb g x cs os G m) : fb ≠ g := by
  rintro rfl; have h1 := h.file; have h2 := h.row; unfold F3.FileAt at h1; unfold M5.RowAt at h2; rw [h1] at h2; simp at h2
theorem MachP.mg (h : MachP w b fb mb g x cs os G m) : mb ≠ g := by
  rintro rfl; have h1 := h.mbox; have h2 := h.row; unfold M5.RowAt at h2; rw [h1] at h2; simp at h2
/-- Of what type the blocks are that hold words. -/
theorem CsAt.typ {s : Value} {n : Nat} {f : Nat → Int} (h : CsAt w s x n f) (hn : 0 < n) : ∃ cur, w.heap[x]? = some (.cells cur 22 (0, 0)) := by
  obtain ⟨p, c, rfl, _, h⟩ := h; obtain ⟨o, cur, rfl, hb, hc⟩ := h hn; exact ⟨cur, hb⟩
theorem own_typ {B : Nat} {t : TypeId} {s : Value} {n : Nat} {xs : List Value} (h : w.ownsRow B t 1 s n xs) {j : Nat} (hj : s.ownBlock = some j) : ∃ cur, w.heap[j]? = some (.cells cur t (0, 0)) := by
  obtain ⟨h0, h | ⟨g, cap, cur, rfl, hB, hg, h1, h2, h3, h4⟩⟩ := h
  · rw [h.1] at hj; cases hj
  · obtain rfl : g = j := by simpa [Value.ownBlock] using hj
    exact ⟨cur, hg⟩
theorem not_words {c : Array Value} {t : TypeId} {y z : Nat} (hy : w.heap[y]? = some (.cells c t (0, 0))) (ht : t ≠ 22) (hz : ∃ cur, w.heap[z]? = some (.cells cur 22 (0, 0))) : z ≠ y := by
  rintro rfl; obtain ⟨cur, hz⟩ := hz; rw [hy] at hz; simp at hz; exact ht hz.2
/-- What else a machine has, its box and one block aside. -/
theorem MachP.but {y : Nat} {c : Array Value} {t : TypeId} (h : MachP w b fb mb g x cs os G m) (k : w.grownBy w' (some y)) (hy : w.heap[y]? = some (.cells c t (0, 0))) (ht : t ≠ 22) (hG : G y) :
    (y ≠ b → Box w' b (mcell (.pointer (some ⟨fb, 0, none⟩)) (.pointer (some ⟨mb, 0, none⟩)) cs os m)) ∧ (y ≠ fb → F3.FileAt w' fb m.nw m.R) ∧ (y ≠ mb → w'.heap[mb]? = some (.cells #[.slice (some ⟨g, 0, none⟩) m.sz m.sz] 234 (0, 0))) ∧ (y ≠ g → M5.RowAt w' g m.sz m.f)
      ∧ CsAt w' cs x m.cl m.ch ∧ w'.ownsRow 0 22 1 os m.ol (bsL .u32 m.out m.ol) ∧ (∀ i, G i → i < w'.heap.size) ∧ Tabs w' := by
  refine ⟨fun e => only_heap k (Ne.symm e) h.box, fun e => only_heap k (Ne.symm e) h.file, fun e => only_heap k (Ne.symm e) h.mbox, fun e => only_heap k (Ne.symm e) h.row, ?_, ?_, fun i hi => Nat.lt_of_lt_of_le (h.lt i hi) k.size, h.tab.turns (Turns.of_only (G := G) k hG) h.far⟩
  · refine h.chs.same fun hn => k.block x (h.lt _ (h.gx hn)) fun e => ?_
    injection e with e
    exact not_words hy ht (h.chs.typ hn) e
  · refine own_same h.outs fun j hj => k.block j (h.lt _ (h.go j hj).1) fun e => ?_
    injection e with e
    exact not_words hy ht (own_typ h.outs hj) e
/-- What has turned of a machine lies in its box. -/
structure InBox (m m' : MS) : Prop where
  nw : m'.nw = m.nw
  R : m'.R = m.R
  sz : m'.sz = m.sz
  f : m'.f = m.f
  cl : m'.cl = m.cl
  ch : m'.ch = m.ch
  ol : m'.ol = m.ol
  out : m'.out = m.out
theorem MachP.boxed {m' : MS} (h : MachP w b fb mb g x cs os G m) (k : w.grownBy w' (some b)) (hb : Box w' b (mcell (.pointer (some ⟨fb, 0, none⟩)) (.pointer (some ⟨mb, 0, none⟩)) cs os m')) (e : InBox m m') (ok : MOk m') : MachP w' b fb mb g x cs os G m' := by
  obtain ⟨_, k1, k2, k3, k4, k5, k6, k7⟩ := h.but k h.box (by decide) h.gb
  exact { h with
    box := hb
    file := by rw [e.nw, e.R]; exact k1 h.bf
    mbox := by rw [e.sz]; exact k2 h.bm
    row := by rw [e.sz, e.f]; exact k3 h.bg
    chs := by rw [e.cl, e.ch]; exact k4
    outs := by rw [e.ol, e.out]; exact k5
    gx := by rw [e.cl]; exact h.gx
    go := by rw [e.cl]; exact h.go
    lt := k6
    tab := k7
    ok := ok }
theorem MachP.filed {R' : Nat → Int} (h : MachP w b fb mb g x cs os G m) (k : w.grownBy w' (some fb)) (hF : F3.FileAt w' fb m.nw R') (hR : ∀ j, W32 (R' j)) : MachP w' b fb mb g x cs os G { m with R := R' } := by
  obtain ⟨k0, _, k2, k3, k4, k5, k6, k7⟩ := h.but k h.file (by decide) h.gf
  exact { h with
    box := k0 h.bf.symm
    file := hF
    mbox := k2 h.fm
    row := k3 h.fg
    chs := k4
    outs := k5
    lt := k6
    tab := k7
    ok := { h.ok with R := hR } }
theorem MachP.memd {f' : Nat → Int} (h : MachP w b fb mb g x cs os G m) (k : w.grownBy w' (some g)) (hM : M5.MemAt w' (.pointer (some ⟨mb, 0, none⟩)) g m.sz f') : MachP w' b fb mb g x cs os G { m with f := f' } := by
  obtain ⟨k0, k1, k2, _, k4, k5, k6, k7⟩ := h.but k h.row (by decide) h.gg
  exact { h with
    box := k0 h.bg.symm
    file := k1 h.fg.symm
    mbox := k2 h.mg.symm
    row := hM.row
    chs := k4
    outs := k5
    lt := k6
    tab := k7
    ok := { h.ok with f := hM.bytes } }
/-- What the box's cells are, for the walk. -/
theorem MachP.cells (h : MachP w b fb mb g x cs os G m) :
    w.cell? ⟨b, 0, none⟩ = some (.pointer (some ⟨fb, 0, none⟩)) ∧ w.cell? ⟨b, 1, none⟩ = some (.pointer (some ⟨mb, 0, none⟩)) ∧ w.cell? ⟨b, 2, none⟩ = some (.int .u32 m.pc) ∧ w.cell? ⟨b, 3, none⟩ = some (.int .u8 m.cwp) ∧ w.cell? ⟨b, 4, none⟩ = some (.int .u8 m.pil) ∧ w.cell? ⟨b, 5, none⟩ = some (.int .u8 m.bank) ∧ w.cell? ⟨b, 6, none⟩ = some (.int .u8 m.fl) ∧ w.cell? ⟨b, 7, none⟩ = some (.int .u32 m.wim) ∧ w.cell? ⟨b, 42, none⟩ = some cs ∧ w.cell? ⟨b, 43, none⟩ = some os ∧ w.cell? ⟨b, 44, none⟩ = some (.int .u8 m.sk) ∧ w.cell? ⟨b, 45, none⟩ = some (.int .u32 m.sv) :=
  ⟨h.box.cell (j := 0) (by decide), h.box.cell (j := 1) (by decide), h.box.cell (j := 2) (by decide), h.box.cell (j := 3) (by decide), h.box.cell (j := 4) (by decide), h.box.cell (j := 5) (by decide), h.box.cell (j := 6) (by decide), h.box.cell (j := 7) (by decide), h.box.cell (j := 42) (by decide), h.box.cell (j := 43) (by decide), h.box.cell (j := 44) (by decide), h.box.cell (j := 45) (by decide)⟩
theorem MachP.tpc (h : MachP w b fb mb g x cs os G m) {j k : Nat} (hj : j = 8 + 2 * k) (hk : k ≤ 16) : w.cell? ⟨b, j, none⟩ = some (.int .u32 (m.tpc k)) := (h.box.cell (by omega)).trans (by rw [mcell_tpc _ _ _ _ _ hj hk])
theorem MachP.tps (h : MachP w b fb mb g x cs os G m) {j k : Nat} (hj : j = 9 + 2 * k) (hk : k ≤ 16) : w.cell? ⟨b, j, none⟩ = some (.int .u32 (m.tps k)) := (h.box.cell (by omega)).trans (by rw [mcell_tps _ _ _ _ _ hj hk])
theorem MachP.frozen (h : MachP w b fb mb g x cs os G m) (j : Nat) : w.frozen? ⟨b, j, none⟩ = false := h.box.frozen j
end
/-- A call of the machine in b leaves it as m', and turns no other's block. -/
def Left (w : World) (b : Nat) (G : Nat → Prop) (m' : MS) (w' : World) : Prop := ∃ G', MachB w' b G' m' ∧ Turns G w w' ∧ ∀ i, G' i → G i ∨ w.heap.size ≤ i
theorem Left.only {w w' : World} {b fb mb g x y : Nat} {cs os : Value} {G : Nat → Prop} {m' : MS} (h : MachP w' b fb mb g x cs os G m') (k : w.grownBy w' (some y)) (hG : G y) : Left w b G m' w' := ⟨G, h.b, Turns.of_only k hG, fun i hi => .inl hi⟩
theorem Left.trans {a w w' : World} {b : Nat} {G : Nat → Prop} {m m' : MS} (k : Turns G a w) (h : Left w b G m' w') : Left a b G m' w' := by
  obtain ⟨G', h1, h2, h3⟩ := h
  exact ⟨G', h1, k.trans h2 (fun i hi => .inl hi), fun i hi => (h3 i hi).elim .inl fun e => .inr (Nat.le_trans k.size e)⟩
end Go.Proofs.YtiobgnelhiadbaaGreatDoor.K6
namespace Go.Proofs.YtiobgnelhiadbaaGreatDoor.K6
open Go.RowKit
set_option linter.unusedVariables false
theorem isObject_yes (b : Nat) (a : Addr) (w : World) (hc : w.cell? ⟨b, 0, none⟩ = some (.pointer (some a))) : Calls Tryz.prog 68 #[.pointer (some ⟨b, 0, none⟩)] w fun e w' => e = .returned (.bool true) ∧ w = w' := by
  go_enter Tryz.func68, Tryz.ntmps68
  go_wp2
  go_ret
  exact ⟨rfl, rfl⟩
section
variable {w : World} {b fb mb g x : Nat} {cs os : Value} {G : Nat → Prop} {m : MS}
theorem MachP.store (h : MachP w b fb mb g x cs os G m) (j : Nat) (v : Value) : Box (w.setCell ⟨b, j, none⟩ v) b (updV (mcell (.pointer (some ⟨fb, 0, none⟩)) (.pointer (some ⟨mb, 0, none⟩)) cs os m) j v) ∧ w.grownBy (w.setCell ⟨b, j, none⟩ v) (some b) :=
  ⟨h.box.set j v, only_cell ⟨rfl, rfl, rfl, Nat.le_refl _, fun _ _ _ => rfl⟩ j v⟩
theorem halt_at (k v : Int) (h : MachP w b fb mb g x cs os G m) (h0 : 0 ≤ k) (h1 : k ≤ 3) (hv : W32 v) :
    Calls Tryz.prog 149 #[.pointer (some ⟨b, 0, none⟩), .int .u8 k, .int .u32 v] w fun e w' => e = .returned (.int .u32 m.pc) ∧ MachP w' b fb mb g x cs os G (m.stp k v) ∧ w.grownBy w' (some b) := by
  have A := Lib.hid h
  have hok := Lib.hid (h.ok.stp h0 h1 hv)
  have B2 := Lib.hid ((h.box.set 44 (.int .u8 k)).set 45 (.int .u32 v))
  have g2 := Lib.hid (only_cell (only_cell (b := b) (u := w) (w := w) ⟨rfl, rfl, rfl, Nat.le_refl _, fun _ _ _ => rfl⟩ 44 (.int .u8 k)) 45 (.int .u32 v))
  obtain ⟨_, _, k2, _, _, _, _, _, _, _, k44, k45⟩ := h.cells
  have f1 := h.frozen 44
  have f2 := h.frozen 45
  clear h h0 h1 hv
  go_enter Tryz.func149, Tryz.ntmps149
  go_wp2
  go_ret
  refine ⟨rfl, A.out.boxed g2.out ?_ ⟨rfl, rfl, rfl, rfl, rfl, rfl, rfl, rfl⟩ hok.out, g2.out⟩
  have := B2.out
  rw [put_sk, put_sv] at this
  exact this
theorem MachP.byte (h : MachP w b fb mb g x cs os G m) : (0 ≤ m.cwp ∧ m.cwp < 256) ∧ (0 ≤ m.bank ∧ m.bank < 256) ∧ (0 ≤ m.pil ∧ m.pil < 256) ∧ (0 ≤ m.fl ∧ m.fl < 256) := by
  have := h.ok.bytes; unfold P4.Byte at this; omega
theorem MachP.reg_cells {W : World} (h : MachP w b fb mb g x cs os G m) (k : Below w.heap.size w W) : W.cell? ⟨b, 0, none⟩ = some (.pointer (some ⟨fb, 0, none⟩)) ∧ W.cell? ⟨b, 3, none⟩ = some (.int .u8 m.cwp) ∧ W.cell? ⟨b, 5, none⟩ = some (.int .u8 m.bank) ∧ Below w.heap.size w W := by
  obtain ⟨k0, _, _, k3, _, k5, _⟩ := (h.bel k).cells
  exact ⟨k0, k3, k5, k⟩
theorem register_at (r : Int) (h : MachP w b fb mb g x cs os G m) (h0 : 0 ≤ r) (h1 : r < 32) :
    Calls Tryz.prog 152 #[.pointer (some ⟨b, 0, none⟩), .int .u8 r] w fun e w' => e = .returned (.int .u32 (m.get r)) ∧ Below w.heap.size w w' := by
  have HG := Lib.hid (fun W (hW : MachP W b fb mb g x cs os G m) => F3.get_at fb m.nw m.cwp m.bank r m.R W hW.file (by have := h.ok.n2; omega) (by have := h.ok.n32; omega) (h.ok.named h0 h1))
  have HE : Hid (m.R (F3.loc m.nw m.cwp m.bank r) = m.get r) := rfl
  rw [HE.out] at HG
  have A := Lib.hid h
  obtain ⟨⟨c0, c1⟩, ⟨b0, b1⟩, _⟩ := h.byte
  clear h HE
  go_enter Tryz.func152, Tryz.ntmps152
  go_wp2_with fail
  have wc : IntKind.i64.wrap m.cwp = m.cwp := IntWalk.i64_in _ (by omega)
  have wb : IntKind.i64.wrap m.bank = m.bank := IntWalk.i64_in _ (by omega)
  have wr : IntKind.i64.wrap r = r := IntWalk.i64_in _ (by omega)
  go_region_held3 (fun W => W.cell? ⟨b, 0, none⟩ = some (.pointer (some ⟨fb, 0, none⟩)) ∧ W.cell? ⟨b, 3, none⟩ = some (.int .u8 m.cwp) ∧ W.cell? ⟨b, 5, none⟩ = some (.int .u8 m.bank) ∧ Below w.heap.size w W)
    (first
      | exact A.out.reg_cells (Below.refl _ _).drew
      | (go_split_ands; exact A.out.reg_cells (bel_trans (by assumption) gL)))
    ((go_at_call 26; refine (HG.out _ (A.out.bel (Below.refl _ _).drew)).mono ?_; rintro e w1 ⟨rfl, gL⟩))
  rename_i hH
  have g1 := hH.2.2.2
  clear hH
  go_wp2_with fail
  go_ret
  exact ⟨rfl, g1⟩
set_option maxRecDepth 100000 in
theorem setRegister_at (r v : Int) (h : MachP w b fb mb g x cs os G m) (h0 : 0 ≤ r) (h1 : r < 32) (hv : W32 v) :
    Calls Tryz.prog 268 #[.pointer (some ⟨b, 0, none⟩), .int .u8 r, .int .u32 v] w fun e w' => e = .returned (.tuple #[]) ∧ MachP w' b fb mb g x cs os G (m.set r v) ∧ w.grownBy w' (some fb) := by
  have gd : Below w.heap.size w w.drew := (Below.refl _ _).drew
  have A := Lib.hid (h.bel gd)
  have HG := Lib.hid (F3.set_at fb m.nw m.cwp m.bank r v m.R w.drew (h.bel gd).file (by have := h.ok.n2; omega) (by have := h.ok.n32; omega) (h.ok.named h0 h1))
  have HW := Lib.hid (setR_w h.ok.R m.nw m.cwp m.bank r v hv)
  obtain ⟨k0, _, _, k3, _, k5, _⟩ := h.cells
  obtain ⟨⟨c0, c1⟩, ⟨b0, b1⟩, _⟩ := h.byte
  have wc : IntKind.i64.wrap m.cwp = m.cwp := IntWalk.i64_in _ (by omega)
  have wb : IntKind.i64.wrap m.bank = m.bank := IntWalk.i64_in _ (by omega)
  have wr : IntKind.i64.wrap r = r := IntWalk.i64_in _ (by omega)
  clear h
  go_enter Tryz.func268, Tryz.ntmps268
  go_wp2_with fail
  go_still_tail 19, (by kernel_rfl)
  change wpList _ _ _ _ _ w.drew
  generalize w.drew = w2 at *
  go_wp2_with fail
  refine (HG.out).mono ?_; rintro e w1 ⟨rfl, g1, f1⟩
  have P1 := Lib.hid (A.out.filed g1 f1 HW.out)
  go_wp2_with fail
  go_end0
  exact ⟨rfl, P1.out, only_trans (bel_only gd _) g1⟩
theorem second_yes (o d s t n : Int) (h : MachP w b fb mb g x cs os G m) :
    Calls Tryz.prog 153 #[.pointer (some ⟨b, 0, none⟩), .agg #[.int .u8 o, .int .u8 d, .int .u8 s, .int .u8 t, .bool true, .int .i32 n]] w fun e w' => e = .returned (.int .u32 (n % 4294967296)) ∧ Below w.heap.size w w' := by
  clear h
  go_enter Tryz.func153, Tryz.ntmps153
  go_wp2_with fail
  go_ret
  exact ⟨rfl, (Below.refl _ _).alloc (Nat.le_refl _) _⟩
theorem second_no (o d s t n : Int) (h : MachP w b fb mb g x cs os G m) (h0 : 0 ≤ t) (h1 : t < 32) :
    Calls Tryz.prog 153 #[.pointer (some ⟨b, 0, none⟩), .agg #[.int .u8 o, .int .u8 d, .int .u8 s, .int .u8 t, .bool false, .int .i32 n]] w fun e w' => e = .returned (.int .u32 (m.get t)) ∧ Below w.heap.size w w' := by
  have HR := Lib.hid (fun W (hW : MachP W b fb mb g x cs os G m) => register_at t hW h0 h1)
  have A := Lib.hid h
  have g0 : Below w.heap.size w (w.alloc (.cells #[.int .u8 o, .int .u8 d, .int .u8 s, .int .u8 t, .bool false, .int .i32 n] 88)) := (Below.refl _ _).alloc (Nat.le_refl _) _
  clear h
  go_enter Tryz.func153, Tryz.ntmps153
  go_wp2_with fail
  refine (HR.out _ (A.out.bel g0)).mono ?_; rintro e w1 ⟨rfl, g1⟩
  go_wp2_with fail
  go_ret
  exact ⟨rfl, bel_trans g0 g1⟩
theorem MachP.psr_cells {W : World} (h : MachP w b fb mb g x cs os G m) (k : Below w.heap.size w W) : W.cell? ⟨b, 0, none⟩ = some (.pointer (some ⟨fb, 0, none⟩)) ∧ W.cell? ⟨b, 3, none⟩ = some (.int .u8 m.cwp) ∧ W.cell? ⟨b, 4, none⟩ = some (.int .u8 m.pil) ∧ W.cell? ⟨b, 5, none⟩ = some (.int .u8 m.bank) ∧ W.cell? ⟨b, 6, none⟩ = some (.int .u8 m.fl) ∧ Below w.heap.size w W := by
  obtain ⟨k0, _, _, k3, k4, k5, k6, _⟩ := (h.bel k).cells
  exact ⟨k0, k3, k4, k5, k6, k⟩
theorem MachP.nw_at {W : World} (h : MachP W b fb mb g x cs os G m) : Calls Tryz.prog 127 #[.pointer (some ⟨fb, 0, none⟩)] W fun e w' => e = .returned (.int .i64 m.nw) ∧ Below W.heap.size W w' :=
  (F3.nw_at fb m.nw W h.file.nw (by have := h.ok.n2; omega)).mono fun e w' ⟨h1, h2⟩ => ⟨h1, h2 ▸ Below.refl _ _⟩
theorem state_at (h : MachP w b fb mb g x cs os G m) :
    Calls Tryz.prog 203 #[.pointer (some ⟨b, 0, none⟩)] w fun e w' => e = .returned (.int .u32 m.pw) ∧ Below w.heap.size w w' := by
  obtain ⟨y0, y1, y2, y3⟩ := h.ok.bytes
  have HP := Lib.hid (fun W => P4.Pack_yes m.cwp m.pil m.bank m.fl m.nw W y0 y1 y2 y3 h.ok.state)
  have HE : Hid (P4.pword m.cwp m.pil m.bank m.fl = m.pw) := rfl
  rw [HE.out] at HP
  have A := Lib.hid h
  clear h HE y0 y1 y2 y3
  go_enter Tryz.func203, Tryz.ntmps203
  go_wp2_with fail
  go_region_held3 (fun W => W.cell? ⟨b, 0, none⟩ = some (.pointer (some ⟨fb, 0, none⟩)) ∧ W.cell? ⟨b, 3, none⟩ = some (.int .u8 m.cwp) ∧ W.cell? ⟨b, 4, none⟩ = some (.int .u8 m.pil) ∧ W.cell? ⟨b, 5, none⟩ = some (.int .u8 m.bank) ∧ W.cell? ⟨b, 6, none⟩ = some (.int .u8 m.fl) ∧ Below w.heap.size w W)
    (first
      | exact A.out.psr_cells (Below.refl _ _).drew
      | (go_split_ands; exact A.out.psr_cells (bel_trans (by assumption) gL)))
    (first
      | (go_at_call 127; refine (A.out.bel (Below.refl _ _).drew).nw_at.mono ?_; rintro e w1 ⟨rfl, gL⟩)
      | (go_at_call 126; refine (HP.out _).mono ?_; rintro e w2 ⟨rfl, gL⟩))
  rename_i hH
  have g1 := hH.2.2.2.2.2
  clear hH
  go_wp2_with fail
  go_ret
  exact ⟨rfl, g1⟩
end
end Go.Proofs.YtiobgnelhiadbaaGreatDoor.K6
namespace Go.Proofs.YtiobgnelhiadbaaGreatDoor.K6
open Go.RowKit
set_option linter.unusedVariables false
/-- An instruction that the machine in block b executes. -/
structure XV where
  b : Nat
  o : Int
  d : Int
  s : Int
  t : Int
  ib : Bool
  n : Int
  a : Int
  y : Int
def xrow (v : XV) : Array Value := #[.pointer (some ⟨v.b, 0, none⟩), .int .u8 v.o, .int .u8 v.d, .int .u8 v.s, .int .u8 v.t, .bool v.ib, .int .i32 v.n, .int .u32 v.a, .int .u32 v.y]
theorem xrow_size (v : XV) : (xrow v).size = 9 := rfl
theorem xrow_info (v : XV) : (Tryz.prog.info? 255).map (·.size) = some (xrow v).size := by rw [xrow_size]; kernel_rfl
theorem xrow_under : Tryz.prog.underlying 255 = some (Tryz.prog.underlying 255 |>.get (by kernel_rfl)) := by simp
def XAt (w : World) (c : Nat) (v : XV) : Prop := w.heap[c]? = some (.cells (xrow v) 255 (0, 0))
theorem XAt.bel {w w' : World} {c : Nat} {v : XV} (h : XAt w c v) (k : Below w.heap.size w w') : XAt w' c v := bel_heap k h
theorem XAt.all {w : World} {c : Nat} {v : XV} (h : XAt w c v) :
    w.cell? ⟨c, 0, none⟩ = some (.pointer (some ⟨v.b, 0, none⟩)) ∧ w.cell? ⟨c, 1, none⟩ = some (.int .u8 v.o) ∧ w.cell? ⟨c, 2, none⟩ = some (.int .u8 v.d) ∧ w.cell? ⟨c, 3, none⟩ = some (.int .u8 v.s) ∧ w.cell? ⟨c, 4, none⟩ = some (.int .u8 v.t) ∧ w.cell? ⟨c, 5, none⟩ = some (.bool v.ib) ∧ w.cell? ⟨c, 6, none⟩ = some (.int .i32 v.n) ∧ w.cell? ⟨c, 7, none⟩ = some (.int .u32 v.a) ∧ w.cell? ⟨c, 8, none⟩ = some (.int .u32 v.y) :=
  ⟨row_cell h rfl, row_cell h rfl, row_cell h rfl, row_cell h rfl, row_cell h rfl, row_cell h rfl, row_cell h rfl, row_cell h rfl, row_cell h rfl⟩
/-! Laws for the walk: each hands on a world that is a name, and what is known of it. -/
theorem x_box {ops : Array Oper} {rest : List Oper} {o : Oper} {a : Act} {w : World} {Q : Exit → Act → World → Prop} (hgd : o.guard = none) (x : Operand) (ho : o.op = .box 255 x) (d : Option Tmp) (hd : o.dst = d) (v : XV) (hx : a.eval x = .agg (xrow v))
    (h : ∀ V, Hid (XAt V w.heap.size v) → Below w.heap.size w V → wpList Tryz.prog ops Q rest (a.put d (.pointer (some ⟨w.heap.size, 0, none⟩))) V) : wpList Tryz.prog ops Q (o :: rest) a w :=
  Great.wpList_boxTo hgd 255 x ho d hd w.heap.size rfl (xrow v) (by rw [hx]; rfl) (h _ (heap_alloc_last _ _) ((Below.refl _ _).alloc (Nat.le_refl _) _))
set_option maxRecDepth 100000 in
theorem x_load {ops : Array Oper} {rest : List Oper} {o : Oper} {a : Act} {w : World} {Q : Exit → Act → World → Prop} (hgd : o.guard = none) (x : Operand) (ho : o.op = .load 255 x) (d : Option Tmp) (hd : o.dst = d) (c : Nat) (v : XV) (hx : a.eval x = .pointer (some ⟨c, 0, none⟩)) (hr : XAt w c v)
    (h : wpList Tryz.prog ops Q rest (a.put d (.agg (xrow v))) w) : wpList Tryz.prog ops Q (o :: rest) a w :=
  wpList_load_row hgd 255 x ho c hx 255 (xrow v) (0, 0) _ hr xrow_under rfl (xrow_info _) (hd ▸ h)
section
variable {w : World} {fb mb g x : Nat} {cs os : Value} {G : Nat → Prop} {m : MS}
theorem following_at (v : XV) (h : MachP w v.b fb mb g x cs os G m) :
    Calls Tryz.prog 265 #[.agg (xrow v)] w fun e w' => e = .returned (.int .u32 ((m.pc + 4) % 4294967296)) ∧ Below w.heap.size w w' := by
  have A := Lib.hid h
  clear h
  go_enter Tryz.func265, Tryz.ntmps265
  go_upto_region 1 with (refine x_box rfl _ rfl _ rfl v rfl ?_; intro V r1 b1; obtain ⟨x0, x1, x2, x3, x4, x5, x6, x7, x8⟩ := r1.out.all; obtain ⟨k0, k1, k2, _⟩ := (A.out.bel b1).cells)
  go_wp2_with fail
  go_ret
  exact ⟨rfl, b1⟩
theorem target_at (v : XV) (h : MachP w v.b fb mb g x cs os G m) (hn : -2147483648 ≤ v.n ∧ v.n ≤ 2147483647) :
    Calls Tryz.prog 267 #[.agg (xrow v)] w fun e w' => e = .returned (.int .u32 ((m.pc + 4 * (v.n % 4294967296) % 4294967296) % 4294967296)) ∧ Below w.heap.size w w' := by
  have A := Lib.hid h
  clear h
  go_enter Tryz.func267, Tryz.ntmps267
  go_upto_region 1 with (refine x_box rfl _ rfl _ rfl v rfl ?_; intro V r1 b1; obtain ⟨x0, x1, x2, x3, x4, x5, x6, x7, x8⟩ := r1.out.all; obtain ⟨k0, k1, k2, _⟩ := (A.out.bel b1).cells)
  go_wp2_with fail
  go_quiet (fail)
  go_wp2
  go_ret
  exact ⟨rfl, bel_drewN b1 _⟩
theorem sum_at (v : XV) (w : World) :
    Calls Tryz.prog 269 #[.agg (xrow v)] w fun e w' => e = .returned (.int .u32 ((v.a + v.y) % 4294967296)) ∧ Below w.heap.size w w' := by
  go_enter Tryz.func269, Tryz.ntmps269
  go_upto_region 1 with (refine x_box rfl _ rfl _ rfl v rfl ?_; intro V r1 b1; obtain ⟨x0, x1, x2, x3, x4, x5, x6, x7, x8⟩ := r1.out.all)
  go_wp2_with fail
  go_ret
  exact ⟨rfl, b1⟩
end
end Go.Proofs.YtiobgnelhiadbaaGreatDoor.K6
namespace Go.Proofs.YtiobgnelhiadbaaGreatDoor.K6
open Go.RowKit
set_option linter.unusedVariables false
section
variable {w : World} {b fb mb g x : Nat} {cs os : Value} {G : Nat → Prop} {m : MS}
/-- What a trap stores. -/
theorem MachP.trapped {w1 : World} {k : Nat} (h : MachP w1 b fb mb g x cs os G m) (hk : k ≤ 16) {i : Nat} (hi : i = 8 + 2 * k) {i' : Nat} (hi' : i' = 9 + 2 * k) (kd pc : Int) (hkd : 0 ≤ kd ∧ kd < 256) (hp : W32 pc) :
    MachP (((w1.setCell ⟨b, i, none⟩ (.int .u32 pc)).setCell ⟨b, i', none⟩ (.int .u32 m.pw)).setCell ⟨b, 5, none⟩ (.int .u8 k)) b fb mb g x cs os G ((m.trap k kd pc).jmp m.pc) ∧
    w1.grownBy (((w1.setCell ⟨b, i, none⟩ (.int .u32 pc)).setCell ⟨b, i', none⟩ (.int .u32 m.pw)).setCell ⟨b, 5, none⟩ (.int .u8 k)) (some b) := by
  have g3 := only_cell (only_cell (only_cell (b := b) (u := w1) (w := w1) ⟨rfl, rfl, rfl, Nat.le_refl _, fun _ _ _ => rfl⟩ i (.int .u32 pc)) i' (.int .u32 m.pw)) 5 (.int .u8 k)
  have B := ((h.box.set i (.int .u32 pc)).set i' (.int .u32 m.pw)).set 5 (.int .u8 k)
  rw [put_tpc _ _ _ _ _ _ hi hk, put_tps _ _ _ _ _ _ hi' hk, put_bank] at B
  refine ⟨h.boxed g3 (m' := (m.trap k kd pc).jmp m.pc) ?_ ⟨rfl, rfl, rfl, rfl, rfl, rfl, rfl, rfl⟩ ((h.ok.trap (b := (k : Int)) (by omega) (by omega) hkd hp).jmp h.ok.pc), g3⟩
  refine B.congr fun j _ => ?_
  unfold mcell MS.trap MS.jmp MS.setT MS.setP
  rw [Int.toNat_natCast]
set_option maxHeartbeats 1000000 in
theorem enter_at (bk k pc : Int) (h : MachP w b fb mb g x cs os G m) (h0 : 0 ≤ bk) (h1 : bk ≤ 16) (hk0 : 0 ≤ k) (hk1 : k < 256) (hp : W32 pc) :
    Calls Tryz.prog 148 #[.pointer (some ⟨b, 0, none⟩), .int .u8 bk, .int .u8 k, .int .u32 pc] w fun e w' => e = .returned (.int .u32 (256 + 16 * k)) ∧ MachP w' b fb mb g x cs os G ((m.trap bk k pc).jmp m.pc) ∧ w.grownBy w' (some b) := by
  have A := Lib.hid h
  have h17 : bk < 17 := by omega
  have HK : Hid (∀ w1, MachP w1 b fb mb g x cs os G m → MachP (((w1.setCell ⟨b, 8 + bk.toNat * 2, none⟩ (.int .u32 pc)).setCell ⟨b, 8 + bk.toNat * 2 + 1, none⟩ (.int .u32 m.pw)).setCell ⟨b, 5, none⟩ (.int .u8 bk)) b fb mb g x cs os G ((m.trap bk k pc).jmp m.pc) ∧ w1.grownBy (((w1.setCell ⟨b, 8 + bk.toNat * 2, none⟩ (.int .u32 pc)).setCell ⟨b, 8 + bk.toNat * 2 + 1, none⟩ (.int .u32 m.pw)).setCell ⟨b, 5, none⟩ (.int .u8 bk)) (some b)) := fun w1 hw => by
    have := hw.trapped (k := bk.toNat) (i := 8 + bk.toNat * 2) (i' := 8 + bk.toNat * 2 + 1) (by omega) (by omega) (by omega) k pc ⟨hk0, hk1⟩ hp
    rwa [show ((bk.toNat : Nat) : Int) = bk by omega] at this
  clear h h1
  go_enter Tryz.func148, Tryz.ntmps148
  go_wp2_with fail
  go_region_with (go_at_call 203; refine (state_at (A.out.bel (Below.refl _ _).drew)).mono ?_; rintro e w1 ⟨rfl, g1⟩; have P1 := Lib.hid ((A.out.bel (Below.refl _ _).drew).bel g1); have G1 := Lib.hid (bel_trans (Below.refl _ w).drew g1); have c1 := P1.out.tpc (j := 8 + bk.toNat * 2) (k := bk.toNat) (by omega) (by omega); have c2 := P1.out.tps (j := 8 + bk.toNat * 2 + 1) (k := bk.toNat) (by omega) (by omega); have f1 := P1.out.frozen (8 + bk.toNat * 2);  have f2 := P1.out.frozen (8 + bk.toNat * 2 + 1); have f5 := P1.out.frozen 5; have c5 := P1.out.cells.2.2.2.2.2.1)
  all_goals (
    go_wp2_with fail
    go_ret
    exact ⟨rfl, (HK.out _ P1.out).1, only_trans (bel_only G1.out _) (HK.out _ P1.out).2⟩)
end
end Go.Proofs.YtiobgnelhiadbaaGreatDoor.K6
