/- Package mach as it has landed: the word at the PC is executed; interrupt, Stop, Step. Package mach as it has landed: clone, Out; Step, all ways. What the statements of layer 6 make first: an instruction's word; a machine of two windows with a program. The head of the statements of layer 6: what five machines do, as plain arithmetic. Several machines at once: what is done to one of them leaves the others as they are. The head of the statements of layer 6: its walk. -/
import Derived.Test.YtiobgnelhiadbaaGreatDoorZMachGHA
import Derived.Test.YtiobgnelhiadbaaGreatDoorZMachGI
import Derived.Test.YtiobgnelhiadbaaGreatDoorZMachGB
import Derived.Test.YtiobgnelhiadbaaGreatDoorZMachGG
import Derived.Laws.AppendOwnNone
import Derived.Laws.AppendOwn
import Derived.Test.YtiobgnelhiadbaaGreatDoorZInstGE
import Derived.Test.YtiobgnelhiadbaaGreatDoorZMemG
namespace Go.Proofs.YtiobgnelhiadbaaGreatDoor.K6
open Go.RowKit
set_option linter.unusedVariables false
section
variable {w : World} {b fb mb g x : Nat} {cs os : Value} {G : Nat → Prop} {m : MS}
theorem eff_alu {o : Int} (h0 : 1 ≤ o) (h1 : o ≤ 14) : effRow[o.toNat]? = some (.func (.func 205) #[] #[]) := by
  have : o = 1 ∨ o = 2 ∨ o = 3 ∨ o = 4 ∨ o = 5 ∨ o = 6 ∨ o = 7 ∨ o = 8 ∨ o = 9 ∨ o = 10 ∨ o = 11 ∨ o = 12 ∨ o = 13 ∨ o = 14 := by omega
  rcases this with rfl | rfl | rfl | rfl | rfl | rfl | rfl | rfl | rfl | rfl | rfl | rfl | rfl | rfl <;> rfl
/-- The instruction at the PC, in the machine in block b. -/
def xiv (m : MS) (b : Nat) (z : Int) : XV := ⟨b, I2.dO z, I2.dD z, I2.dS z, I2.dT z, I2.dB z, I2.dN z, m.get (I2.dS z), if I2.dB z then I2.dN z % 4294967296 else m.get (I2.dT z)⟩
theorem mWord_is {m : MS} {z : Int} (b : Nat) (h : I2.dk z = true) : mWord m z = mExec m (xiv m b z).o (xiv m b z).d (xiv m b z).n (xiv m b z).a (xiv m b z).y := by unfold mWord; rw [if_pos h]; rfl
theorem loadWord_at (v : XV) (h : MachP w v.b fb mb g x cs os G m) (h0 : 0 ≤ v.d) (h1 : v.d < 32) :
    Calls Tryz.prog 213 #[.agg (xrow v)] w fun e w' => Goes w v.b G m (mLd m v.d ((v.a + v.y) % 4294967296) 4) e w' := by
  have A := Lib.hid h
  clear h
  go_enter Tryz.func213, Tryz.ntmps213
  go_upto_region 1 with (refine x_box rfl _ rfl _ rfl v rfl ?_; intro V r1 b1; obtain ⟨x0, x1, x2, x3, x4, x5, x6, x7, x8⟩ := r1.out.all; obtain ⟨k0, k1, k2, k3, k4, k5, k6, k7, k42, k43, k44, k45⟩ := (A.out.bel b1).cells)
  have P1 := Lib.hid (A.out.bel b1)
  go_wp2_with (refine x_load rfl _ rfl _ rfl _ v rfl r1.out ?_)
  refine (load_at v 4 P1.out h0 h1 (.inr rfl)).mono ?_; rintro e w2 ⟨rfl, L2⟩
  have L2 := Lib.hid L2
  go_wp2_with fail
  go_ret
  exact ⟨rfl, Left.trans (m := m) (Turns.of_bel b1) L2.out⟩
theorem loadByte_at (v : XV) (h : MachP w v.b fb mb g x cs os G m) (h0 : 0 ≤ v.d) (h1 : v.d < 32) :
    Calls Tryz.prog 215 #[.agg (xrow v)] w fun e w' => Goes w v.b G m (mLd m v.d ((v.a + v.y) % 4294967296) 1) e w' := by
  have A := Lib.hid h
  clear h
  go_enter Tryz.func215, Tryz.ntmps215
  go_upto_region 1 with (refine x_box rfl _ rfl _ rfl v rfl ?_; intro V r1 b1; obtain ⟨x0, x1, x2, x3, x4, x5, x6, x7, x8⟩ := r1.out.all; obtain ⟨k0, k1, k2, k3, k4, k5, k6, k7, k42, k43, k44, k45⟩ := (A.out.bel b1).cells)
  have P1 := Lib.hid (A.out.bel b1)
  go_wp2_with (refine x_load rfl _ rfl _ rfl _ v rfl r1.out ?_)
  refine (load_at v 1 P1.out h0 h1 (.inl rfl)).mono ?_; rintro e w2 ⟨rfl, L2⟩
  have L2 := Lib.hid L2
  go_wp2_with fail
  go_ret
  exact ⟨rfl, Left.trans (m := m) (Turns.of_bel b1) L2.out⟩
theorem store4_at (v : XV) (h : MachP w v.b fb mb g x cs os G m) (h0 : 0 ≤ v.d) (h1 : v.d < 32) :
    Calls Tryz.prog 274 #[.agg (xrow v), .int .i64 4] w fun e w' => Goes w v.b G m (mSt m v.d ((v.a + v.y) % 4294967296) 4) e w' := by
  unfold mSt
  split
  · rename_i ht
    exact store4_yes v h h0 h1 ht
  · rename_i ht
    exact store4_no v h h0 h1 ht
theorem store1_at (v : XV) (h : MachP w v.b fb mb g x cs os G m) (h0 : 0 ≤ v.d) (h1 : v.d < 32) :
    Calls Tryz.prog 274 #[.agg (xrow v), .int .i64 1] w fun e w' => Goes w v.b G m (mSt m v.d ((v.a + v.y) % 4294967296) 1) e w' := by
  unfold mSt
  split
  · rename_i ht
    exact store1_yes v h h0 h1 ht
  · rename_i ht
    exact store1_no v h h0 h1 ht
theorem storeWord_at (v : XV) (h : MachP w v.b fb mb g x cs os G m) (h0 : 0 ≤ v.d) (h1 : v.d < 32) :
    Calls Tryz.prog 214 #[.agg (xrow v)] w fun e w' => Goes w v.b G m (mSt m v.d ((v.a + v.y) % 4294967296) 4) e w' := by
  have A := Lib.hid h
  clear h
  go_enter Tryz.func214, Tryz.ntmps214
  go_upto_region 1 with (refine x_box rfl _ rfl _ rfl v rfl ?_; intro V r1 b1; obtain ⟨x0, x1, x2, x3, x4, x5, x6, x7, x8⟩ := r1.out.all; obtain ⟨k0, k1, k2, k3, k4, k5, k6, k7, k42, k43, k44, k45⟩ := (A.out.bel b1).cells)
  have P1 := Lib.hid (A.out.bel b1)
  go_wp2_with (refine x_load rfl _ rfl _ rfl _ v rfl r1.out ?_)
  refine (store4_at v P1.out h0 h1).mono ?_; rintro e w2 ⟨rfl, L2⟩
  have L2 := Lib.hid L2
  go_wp2_with fail
  go_ret
  exact ⟨rfl, Left.trans (m := m) (Turns.of_bel b1) L2.out⟩
theorem storeByte_at (v : XV) (h : MachP w v.b fb mb g x cs os G m) (h0 : 0 ≤ v.d) (h1 : v.d < 32) :
    Calls Tryz.prog 216 #[.agg (xrow v)] w fun e w' => Goes w v.b G m (mSt m v.d ((v.a + v.y) % 4294967296) 1) e w' := by
  have A := Lib.hid h
  clear h
  go_enter Tryz.func216, Tryz.ntmps216
  go_upto_region 1 with (refine x_box rfl _ rfl _ rfl v rfl ?_; intro V r1 b1; obtain ⟨x0, x1, x2, x3, x4, x5, x6, x7, x8⟩ := r1.out.all; obtain ⟨k0, k1, k2, k3, k4, k5, k6, k7, k42, k43, k44, k45⟩ := (A.out.bel b1).cells)
  have P1 := Lib.hid (A.out.bel b1)
  go_wp2_with (refine x_load rfl _ rfl _ rfl _ v rfl r1.out ?_)
  refine (store1_at v P1.out h0 h1).mono ?_; rintro e w2 ⟨rfl, L2⟩
  have L2 := Lib.hid L2
  go_wp2_with fail
  go_ret
  exact ⟨rfl, Left.trans (m := m) (Turns.of_bel b1) L2.out⟩
/-- What is asked of a word that is executed: nothing (every operation is laid). -/
def Easy (_ : MS) (_ : Int) : Prop := True
set_option maxRecDepth 100000 in
theorem exec_word (h : MachP w b fb mb g x cs os G m) (ht : thE m.sz m.pc 4 = 0) (hd : I2.dk (ldB m.f m.pc.toNat 4) = true) (hE : Easy m (ldB m.f m.pc.toNat 4)) (hol : m.ol ≤ 1000000) :
    Calls Tryz.prog 85 #[.pointer (some ⟨b, 0, none⟩)] w fun e w' => e = .returned (.tuple #[]) ∧ Left w b G (mWord m (ldB m.f m.pc.toNat 4)) w' := by
  obtain ⟨z, hz⟩ : ∃ z, z = ldB m.f m.pc.toNat 4 := ⟨_, rfl⟩
  have hz32 := ldB_word h.ok.f m.pc.toNat 4 (by decide)
  have hp := parts_dk hz32 hd
  have HM : MOk (mWord m (ldB m.f m.pc.toNat 4)) := mWord_ok h.ok _
  rw [← hz] at hE hp HM hz32 ⊢
  have hdz : I2.dk z = true := by rw [hz]; exact hd
  rw [mWord_is b hdz] at HM ⊢
  have hD : Parts (xiv m b z).o (xiv m b z).d (xiv m b z).s (xiv m b z).t (xiv m b z).ib (xiv m b z).n := hp
  have hA : W32 (xiv m b z).a := h.ok.get _
  have hY : W32 (xiv m b z).y := by
    show W32 (if I2.dB z then I2.dN z % 4294967296 else m.get (I2.dT z))
    split
    · exact w32_mod _
    · exact h.ok.get _
  have hi : xiv m b z = ⟨b, I2.dO (ldB m.f m.pc.toNat 4), I2.dD (ldB m.f m.pc.toNat 4), I2.dS (ldB m.f m.pc.toNat 4), I2.dT (ldB m.f m.pc.toNat 4), I2.dB (ldB m.f m.pc.toNat 4), I2.dN (ldB m.f m.pc.toNat 4), m.get (I2.dS (ldB m.f m.pc.toNat 4)), if I2.dB (ldB m.f m.pc.toNat 4) then I2.dN (ldB m.f m.pc.toNat 4) % 4294967296 else m.get (I2.dT (ldB m.f m.pc.toNat 4))⟩ := by rw [hz]; rfl
  have hbb : (xiv m b z).b = b := rfl
  have hwy : (xiv m b z).ib = true → (xiv m b z).y = (xiv m b z).n % 4294967296 := fun e => by
    show (if I2.dB z then I2.dN z % 4294967296 else m.get (I2.dT z)) = _
    rw [if_pos (show I2.dB z = true from e)]; rfl
  generalize xiv m b z = i at *
  clear hE hp hz32 hdz
  by_cases ha : i.o ≤ 14
  · have E : mExec m i.o i.d i.n i.a i.y = mAlu m i.o i.d i.a i.y := by unfold mExec; rw [if_pos ha]
    rw [E] at HM ⊢
    exact execute_any 205 (by decide) i _ HM h ht hd hi (eff_alu hD.o0 ha) (fun W hW => hbb ▸ alu_at i (hbb.symm ▸ hW) hD.d0 hD.d1 hD.o0 ha hA hY)
  have ho : i.o = 15 ∨ i.o = 16 ∨ i.o = 17 ∨ i.o = 18 ∨ i.o = 19 ∨ i.o = 20 ∨ i.o = 21 ∨ i.o = 22 ∨ i.o = 23 ∨ i.o = 24 ∨ i.o = 25 ∨ i.o = 26 ∨ i.o = 27 ∨ i.o = 28 ∨ i.o = 29 ∨ i.o = 30 ∨ i.o = 31 ∨ i.o = 32 ∨ i.o = 33 ∨ i.o = 34 ∨ i.o = 35 ∨ i.o = 36 ∨ i.o = 37 := by have := hD.o1; omega
  rcases ho with ho | ho | ho | ho | ho | ho | ho | ho | ho | ho | ho | ho | ho | ho | ho | ho | ho | ho | ho | ho | ho | ho | ho
  · have E : mExec m i.o i.d i.n i.a i.y = (m.set i.d (i.n % 4294967296 * 2048 % 4294967296)).on := by rw [ho]; rfl
    rw [E] at HM ⊢
    exact execute_any 206 (by decide) i _ HM h ht hd hi (by rw [ho]; rfl) (fun W hW => hbb ▸ sethi_at i (hbb.symm ▸ hW) hD.d0 hD.d1)
  · have E : mExec m i.o i.d i.n i.a i.y = (m.flg (W1.fl i.a i.y)).on := by rw [ho]; rfl
    rw [E] at HM ⊢
    exact execute_any 207 (by decide) i _ HM h ht hd hi (by rw [ho]; rfl) (fun W hW => hbb ▸ compare_at i (hbb.symm ▸ hW) hA hY)
  · have E : mExec m i.o i.d i.n i.a i.y = if W1.hv i.d m.fl then m.jmp ((m.pc + 4 * i.y % 4294967296) % 4294967296) else m.on := by rw [ho]; rfl
    rw [E] at HM ⊢
    rw [hwy (hD.br (by omega))] at HM ⊢
    exact execute_any 208 (by decide) i _ HM h ht hd hi (by rw [ho]; rfl) (fun W hW => hbb ▸ branch_at i (hbb.symm ▸ hW) hD.d0 hD.d1 ⟨hD.n0, hD.n1⟩)
  · have E : mExec m i.o i.d i.n i.a i.y = (m.set 15 m.pc).jmp ((m.pc + 4 * i.y % 4294967296) % 4294967296) := by rw [ho]; rfl
    rw [E] at HM ⊢
    rw [hwy (hD.br (by omega))] at HM ⊢
    exact execute_any 209 (by decide) i _ HM h ht hd hi (by rw [ho]; rfl) (fun W hW => hbb ▸ call_at i (hbb.symm ▸ hW) ⟨hD.n0, hD.n1⟩)
  · have E : mExec m i.o i.d i.n i.a i.y = (m.set i.d m.pc).jmp ((i.a + i.y) % 4294967296) := by rw [ho]; rfl
    rw [E] at HM ⊢
    exact execute_any 210 (by decide) i _ HM h ht hd hi (by rw [ho]; rfl) (fun W hW => hbb ▸ jump_at i (hbb.symm ▸ hW) hD.d0 hD.d1)
  · have E : mExec m i.o i.d i.n i.a i.y = if wx m.wim m.nw = some (((m.cwp + m.nw - 1) % m.nw)).toNat then m.wnd 1 m.pc else ((m.win ((m.cwp + m.nw - 1) % m.nw)).set i.d ((i.a + i.y) % 4294967296)).on := by rw [ho]; rfl
    rw [E] at HM ⊢
    by_cases hw : wx m.wim m.nw = some (((m.cwp + m.nw - 1) % m.nw)).toNat
    · rw [if_pos hw] at HM ⊢
      exact execute_any 211 (by decide) i _ HM h ht hd hi (by rw [ho]; rfl) (fun W hW => hbb ▸ save_bad i (hbb.symm ▸ hW) hw)
    · rw [if_neg hw] at HM ⊢
      exact execute_any 211 (by decide) i _ HM h ht hd hi (by rw [ho]; rfl) (fun W hW => hbb ▸ save_good i (hbb.symm ▸ hW) hD.d0 hD.d1 hw)
  · have E : mExec m i.o i.d i.n i.a i.y = if wx m.wim m.nw = some (((m.cwp + 1) % m.nw)).toNat then m.wnd 2 m.pc else ((m.win ((m.cwp + 1) % m.nw)).set i.d ((i.a + i.y) % 4294967296)).on := by rw [ho]; rfl
    rw [E] at HM ⊢
    by_cases hw : wx m.wim m.nw = some (((m.cwp + 1) % m.nw)).toNat
    · rw [if_pos hw] at HM ⊢
      exact execute_any 212 (by decide) i _ HM h ht hd hi (by rw [ho]; rfl) (fun W hW => hbb ▸ restore_bad i (hbb.symm ▸ hW) hw)
    · rw [if_neg hw] at HM ⊢
      exact execute_any 212 (by decide) i _ HM h ht hd hi (by rw [ho]; rfl) (fun W hW => hbb ▸ restore_good i (hbb.symm ▸ hW) hD.d0 hD.d1 hw)
  · have E : mExec m i.o i.d i.n i.a i.y = mLd m i.d ((i.a + i.y) % 4294967296) 4 := by rw [ho]; rfl
    rw [E] at HM ⊢
    exact execute_any 213 (by decide) i _ HM h ht hd hi (by rw [ho]; rfl) (fun W hW => hbb ▸ loadWord_at i (hbb.symm ▸ hW) hD.d0 hD.d1)
  · have E : mExec m i.o i.d i.n i.a i.y = mSt m i.d ((i.a + i.y) % 4294967296) 4 := by rw [ho]; rfl
    rw [E] at HM ⊢
    exact execute_any 214 (by decide) i _ HM h ht hd hi (by rw [ho]; rfl) (fun W hW => hbb ▸ storeWord_at i (hbb.symm ▸ hW) hD.d0 hD.d1)
  · have E : mExec m i.o i.d i.n i.a i.y = mLd m i.d ((i.a + i.y) % 4294967296) 1 := by rw [ho]; rfl
    rw [E] at HM ⊢
    exact execute_any 215 (by decide) i _ HM h ht hd hi (by rw [ho]; rfl) (fun W hW => hbb ▸ loadByte_at i (hbb.symm ▸ hW) hD.d0 hD.d1)
  · have E : mExec m i.o i.d i.n i.a i.y = mSt m i.d ((i.a + i.y) % 4294967296) 1 := by rw [ho]; rfl
    rw [E] at HM ⊢
    exact execute_any 216 (by decide) i _ HM h ht hd hi (by rw [ho]; rfl) (fun W hW => hbb ▸ storeByte_at i (hbb.symm ▸ hW) hD.d0 hD.d1)
  · have E : mExec m i.o i.d i.n i.a i.y = (m.set i.d m.pw).on := by rw [ho]; rfl
    rw [E] at HM ⊢
    exact execute_any 217 (by decide) i _ HM h ht hd hi (by rw [ho]; rfl) (fun W hW => hbb ▸ readState_at i (hbb.symm ▸ hW) hD.d0 hD.d1)
  · have E : mExec m i.o i.d i.n i.a i.y = if wst ((i.a + i.y) % 4294967296) m.nw then (m.psr ((i.a + i.y) % 4294967296)).on else m.stp 3 0 := by rw [ho]; rfl
    rw [E] at HM ⊢
    cases hw : wst ((i.a + i.y) % 4294967296) m.nw with
    | true =>
      rw [hw] at HM
      exact execute_any 218 (by decide) i _ HM h ht hd hi (by rw [ho]; rfl) (fun W hW => hbb ▸ writeState_yes i (hbb.symm ▸ hW) hw)
    | false =>
      rw [hw] at HM
      exact execute_any 218 (by decide) i _ HM h ht hd hi (by rw [ho]; rfl) (fun W hW => hbb ▸ writeState_no i (hbb.symm ▸ hW) hw)
  · have E : mExec m i.o i.d i.n i.a i.y = (m.set i.d m.wim).on := by rw [ho]; rfl
    rw [E] at HM ⊢
    exact execute_any 219 (by decide) i _ HM h ht hd hi (by rw [ho]; rfl) (fun W hW => hbb ▸ readWim_at i (hbb.symm ▸ hW) hD.d0 hD.d1)
  · have E : mExec m i.o i.d i.n i.a i.y = if (wx ((i.a + i.y) % 4294967296) m.nw).isSome then (m.inv ((i.a + i.y) % 4294967296)).on else m.stp 3 0 := by rw [ho]; rfl
    rw [E] at HM ⊢
    cases hw : wx ((i.a + i.y) % 4294967296) m.nw with
    | some y =>
      have hs : (wx ((i.a + i.y) % 4294967296) m.nw).isSome = true := by rw [hw]; rfl
      rw [hw] at HM
      exact execute_any 220 (by decide) i _ HM h ht hd hi (by rw [ho]; rfl) (fun W hW => hbb ▸ writeWim_yes i (hbb.symm ▸ hW) hs)
    | none =>
      rw [hw] at HM
      exact execute_any 220 (by decide) i _ HM h ht hd hi (by rw [ho]; rfl) (fun W hW => hbb ▸ writeWim_no i (hbb.symm ▸ hW) hw)
  · have E : mExec m i.o i.d i.n i.a i.y = if m.bank = 0 then m.stp 3 0 else (m.set i.d (if i.n = 1 then m.tps m.bank.toNat else m.tpc m.bank.toNat)).on := by rw [ho]; rfl
    rw [E] at HM ⊢
    by_cases hb : m.bank = 0
    · rw [if_pos hb] at HM ⊢
      exact execute_any 221 (by decide) i _ HM h ht hd hi (by rw [ho]; rfl) (fun W hW => hbb ▸ readSaved_no i (hbb.symm ▸ hW) hb)
    · rw [if_neg hb] at HM ⊢
      rcases hD.t01 (by omega) with hn | hn
      · rw [if_neg (by omega)] at HM ⊢
        exact execute_any 221 (by decide) i _ HM h ht hd hi (by rw [ho]; rfl) (fun W hW => hbb ▸ readSaved_tpc i (hbb.symm ▸ hW) hD.d0 hD.d1 hb hn)
      · rw [if_pos hn] at HM ⊢
        exact execute_any 221 (by decide) i _ HM h ht hd hi (by rw [ho]; rfl) (fun W hW => hbb ▸ readSaved_tps i (hbb.symm ▸ hW) hD.d0 hD.d1 hb hn)
  · have E : mExec m i.o i.d i.n i.a i.y = if m.bank = 0 then m.stp 3 0 else (if i.n = 1 then m.setP m.bank.toNat i.a else m.setT m.bank.toNat i.a).on := by rw [ho]; rfl
    rw [E] at HM ⊢
    by_cases hb : m.bank = 0
    · rw [if_pos hb] at HM ⊢
      exact execute_any 222 (by decide) i _ HM h ht hd hi (by rw [ho]; rfl) (fun W hW => hbb ▸ writeSaved_no i (hbb.symm ▸ hW) hb)
    · rw [if_neg hb] at HM ⊢
      rcases hD.t01 (by omega) with hn | hn
      · rw [if_neg (by omega)] at HM ⊢
        exact execute_any 222 (by decide) i _ HM h ht hd hi (by rw [ho]; rfl) (fun W hW => hbb ▸ writeSaved_tpc i (hbb.symm ▸ hW) hA hb hn)
      · rw [if_pos hn] at HM ⊢
        exact execute_any 222 (by decide) i _ HM h ht hd hi (by rw [ho]; rfl) (fun W hW => hbb ▸ writeSaved_tps i (hbb.symm ▸ hW) hA hb hn)
  · have E : mExec m i.o i.d i.n i.a i.y = if m.bank = 0 then m.stp 3 0 else if wst (m.tps m.bank.toNat) m.nw then (m.psr (m.tps m.bank.toNat)).jmp (m.tpc m.bank.toNat) else m.stp 3 0 := by rw [ho]; rfl
    rw [E] at HM ⊢
    by_cases hb : m.bank = 0
    · rw [if_pos hb] at HM ⊢
      exact execute_any 223 (by decide) i _ HM h ht hd hi (by rw [ho]; rfl) (fun W hW => hbb ▸ goBack_no i (hbb.symm ▸ hW) hb)
    · rw [if_neg hb] at HM ⊢
      cases hw : wst (m.tps m.bank.toNat) m.nw with
      | true =>
        rw [hw] at HM
        exact execute_any 223 (by decide) i _ HM h ht hd hi (by rw [ho]; rfl) (fun W hW => hbb ▸ goBack_yes i (hbb.symm ▸ hW) hb hw)
      | false =>
        rw [hw] at HM
        exact execute_any 223 (by decide) i _ HM h ht hd hi (by rw [ho]; rfl) (fun W hW => hbb ▸ goBack_bad i (hbb.symm ▸ hW) hb hw)
  · have E : mExec m i.o i.d i.n i.a i.y = m.wnd (i.n % 256) ((m.pc + 4) % 4294967296) := by rw [ho]; rfl
    rw [E] at HM ⊢
    exact execute_any 224 (by decide) i _ HM h ht hd hi (by rw [ho]; rfl) (fun W hW => hbb ▸ raise_at i (hbb.symm ▸ hW) (by have := hD.b33 ho; omega))
  · have E : mExec m i.o i.d i.n i.a i.y = if 0 < m.cl then (m.drop.set i.d (m.ch 0)).on else (m.set i.d 0).on := by rw [ho]; rfl
    rw [E] at HM ⊢
    by_cases hc : 0 < m.cl
    · rw [if_pos hc] at HM ⊢
      exact execute_any 225 (by decide) i _ HM h ht hd hi (by rw [ho]; rfl) (fun W hW => hbb ▸ choose_some i (hbb.symm ▸ hW) hD.d0 hD.d1 hc)
    · rw [if_neg hc] at HM ⊢
      exact execute_any 225 (by decide) i _ HM h ht hd hi (by rw [ho]; rfl) (fun W hW => hbb ▸ choose_none i (hbb.symm ▸ hW) hD.d0 hD.d1 (by omega))
  · have E : mExec m i.o i.d i.n i.a i.y = (m.tell i.a).on := by rw [ho]; rfl
    rw [E] at HM ⊢
    exact execute_any 226 (by decide) i _ HM h ht hd hi (by rw [ho]; rfl) (fun W hW => hbb ▸ output_at i (hbb.symm ▸ hW) hA hol)
  · have E : mExec m i.o i.d i.n i.a i.y = m.stp 1 i.a := by rw [ho]; rfl
    rw [E] at HM ⊢
    exact execute_any 227 (by decide) i _ HM h ht hd hi (by rw [ho]; rfl) (fun W hW => hbb ▸ end_at i (hbb.symm ▸ hW) hA)
  · have E : mExec m i.o i.d i.n i.a i.y = m.stp 2 (i.n % 4294967296) := by rw [ho]; rfl
    rw [E] at HM ⊢
    exact execute_any 228 (by decide) i _ HM h ht hd hi (by rw [ho]; rfl) (fun W hW => hbb ▸ fault_at i (hbb.symm ▸ hW))
end
end Go.Proofs.YtiobgnelhiadbaaGreatDoor.K6
namespace Go.Proofs.YtiobgnelhiadbaaGreatDoor.K6
open Go.RowKit
set_option linter.unusedVariables false
section
variable {w : World} {b fb mb g x : Nat} {cs os : Value} {G : Nat → Prop} {m : MS}
theorem sl_news {w : World} {b o n : Nat} {f : Nat → Int} (hc : ∀ i, i < n → w.cell? ⟨b, o + i, none⟩ = some (.int .u32 (f i))) : ∀ j v, (bsL .u32 f n)[j]? = some v → w.cell? ((⟨b, o, none⟩ : Addr).add j) = some v := fun j v hj => by
  have hjn : j < n := by
    rcases Nat.lt_or_ge j n with hh | hh
    · exact hh
    · rw [List.getElem?_eq_none (by rw [bsL_len]; omega)] at hj; cases hj
  rw [bsL_get _ _ hjn] at hj
  rw [← hj, add_off]
  exact hc j hjn
theorem bsL_ones (f : Nat → Int) (n : Nat) : ∀ v ∈ bsL .u32 f n, v.oneCell' = true := by
  intro v hv
  unfold bsL at hv
  simp at hv
  obtain ⟨i, _, rfl⟩ := hv
  rfl
/-- A list of one's own, of the same words. -/
theorem clone_some (b0 o0 n c : Nat) (f : Nat → Int) (w : World) (hm : n ≤ 1000000) (hc : ∀ i, i < n → w.cell? ⟨b0, o0 + i, none⟩ = some (.int .u32 (f i))) :
    Calls Tryz.prog 71 #[.slice (some ⟨b0, o0, none⟩) n c] w fun e w' => ∃ s, e = .returned s ∧ w'.ownsRow w.heap.size 22 1 s n (bsL .u32 f n) ∧ Below w.heap.size w w' := by
  obtain ⟨i0, hi, hz0, hz1, hz2⟩ := info_parts words_parts
  have HN := Lib.hid (sl_news hc)
  clear hc
  go_enter Tryz.func71, Tryz.ntmps71
  go_wp2_with (at_builtin; refine wpList_append_own _ rfl _ _ 25 rfl w.heap.size 22 i0 (.int .u32 0) 1 4 words_under hi hz0 hz1 hz2 rfl (by decide) (.slice none 0 0) 0 [] rfl (World.ownsRow_nil _ _ _ _) ⟨b0, o0, none⟩ n c (bsL .u32 f n) rfl (by rw [bsL_len, Nat.mul_one]) HN.out (bsL_ones _ _) (by unfold maxLen; omega) (by omega) (Nat.le_refl _) ?_; intro s' w3 hown hgrow hnil; have H3 : Hid (w3.ownsRow w.heap.size 22 1 s' n (bsL .u32 f n) ∧ Below w.heap.size w w3) := ⟨by simpa using hown, Below.grown (Below.refl _ _) hgrow (Nat.le_refl _) (fun j hj => by cases hj)⟩; clear hown hgrow hnil)
  go_ret
  exact ⟨_, rfl, H3.out.1, H3.out.2⟩
theorem clone_none (w : World) (p : Option Addr) (c : Nat) (hp : p = none ∧ c = 0) :
    Calls Tryz.prog 71 #[.slice p 0 c] w fun e w' => e = .returned (.slice none 0 0) ∧ w = w' := by
  obtain ⟨rfl, rfl⟩ := hp
  obtain ⟨i0, hi, hz0, hz1, hz2⟩ := info_parts words_parts
  go_enter Tryz.func71, Tryz.ntmps71
  go_wp2_with (at_builtin; refine wpList_append_own_none rfl _ _ 25 rfl w.heap.size 22 i0 1 words_under hi (.slice none 0 0) 0 [] rfl (World.ownsRow_nil _ _ _ _) rfl ?_)
  go_ret
  exact ⟨rfl, rfl⟩
theorem Out_get (h : MachP w b fb mb g x cs os G m) (hol : m.ol ≤ 1000000) : Calls Tryz.prog 30 #[.pointer (some ⟨b, 0, none⟩)] w fun e w' => ∃ s, e = .returned s ∧ Sl .u32 w' s m.ol m.out ∧ Below w.heap.size w w' := by
  obtain ⟨k0, _, _, _, _, _, _, _, _, k43, _⟩ := h.cells
  obtain ⟨hlen, ⟨hs, h0⟩ | ⟨g0, cap, cur, hs, _, hg, hnc, _, _, hct⟩⟩ := h.outs
  · subst hs
    have HC := Lib.hid (clone_none w none 0 ⟨rfl, rfl⟩)
    have H0 := Lib.hid h0
    clear h h0 hlen
    go_enter Tryz.func30, Tryz.ntmps30
    go_wp2_with fail
    refine (isObject_yes b _ _ k0).mono ?_; rintro e w1 ⟨rfl, rfl⟩
    go_wp2_with fail
    refine (HC.out).mono ?_; rintro e w1 ⟨rfl, rfl⟩
    go_wp2_with fail
    go_ret
    exact ⟨_, rfl, by rw [H0.out]; exact Sl.nil _ _ _ _ _, Below.refl _ _⟩
  · obtain ⟨n, hn⟩ : ∃ n, n = m.ol := ⟨_, rfl⟩
    subst hs
    have hcell : ∀ i, i < n → w.cell? ⟨g0, 0 + i, none⟩ = some (.int .u32 (m.out i)) := fun i hi => by
      rw [Nat.zero_add]
      refine row_cell hg ?_
      have := bsL_get .u32 m.out (n := m.ol) (i := i) (by omega)
      rw [← hct, List.getElem?_take_of_lt (by omega)] at this
      simpa using this
    have HC := Lib.hid (clone_some g0 0 n cap m.out w (by omega) hcell)
    rw [← hn] at k43 ⊢
    clear h hlen hg hnc hct hcell hn hol
    go_enter Tryz.func30, Tryz.ntmps30
    go_wp2_with fail
    refine (isObject_yes b _ _ k0).mono ?_; rintro e w1 ⟨rfl, rfl⟩
    go_wp2_with fail
    refine (HC.out).mono ?_; rintro e w1 ⟨s', rfl, hs, g1⟩
    have HS := Lib.hid hs
    go_wp2_with fail
    go_ret
    exact ⟨_, rfl, own_sl HS.out, g1⟩
/-- A step, whatever the level is; the word at the PC is one of those that are laid. -/
theorem Step_at (lv : Int) (h : MachP w b fb mb g x cs os G m) (h0 : 0 ≤ lv) (h1 : lv < 256) (hol : m.ol ≤ 1000000) (hE : m.sk = 0 → thE m.sz m.pc 4 = 0 → I2.dk (ldB m.f m.pc.toNat 4) = true → Easy m (ldB m.f m.pc.toNat 4)) :
    Calls Tryz.prog 15 #[.pointer (some ⟨b, 0, none⟩), .int .u8 lv] w fun e w' => e = .returned (.agg #[.int .u8 (mstep m lv).sk, .int .u32 (mstep m lv).sv]) ∧ Left w b G (mstep m lv) w' := by
  by_cases hk : m.sk = 0
  · by_cases hi : lv ≤ 15 ∧ m.pil < lv
    · have E : mstep m lv = (m.trap lv (16 + lv) m.pc).lvl lv := by unfold mstep; rw [if_neg (by simpa using hk), if_pos hi]
      rw [E]
      exact step_irq lv _ h hk h0 h1 hi.1 hi.2 fun W hW => (interrupt_at lv hW h0 hi.1).mono fun e w' ⟨e1, e2, e3⟩ => ⟨e1, Left.only e2 e3 h.gb⟩
    · have HX : ∀ W, MachP W b fb mb g x cs os G m → Calls Tryz.prog 85 #[.pointer (some ⟨b, 0, none⟩)] W fun e w' => e = .returned (.tuple #[]) ∧ Left W b G (mstep m lv) w' := fun W hW => by
        by_cases ht : thE m.sz m.pc 4 = 0
        · have E : mstep m lv = mWord m (ldB m.f m.pc.toNat 4) := by unfold mstep; rw [if_neg (by simpa using hk), if_neg hi, if_pos ht]
          rw [E]
          cases hd : I2.dk (ldB m.f m.pc.toNat 4) with
          | true => exact exec_word hW ht hd (hE hk ht hd) hol
          | false =>
            have E2 : mWord m (ldB m.f m.pc.toNat 4) = m.stp 3 0 := by unfold mWord; rw [if_neg (by rw [hd]; decide)]
            rw [E2]
            exact (execute_bad hW ht hd).mono fun e w' ⟨e1, e2, e3⟩ => ⟨e1, Left.only e2 e3 h.gb⟩
        · have E : mstep m lv = m.stp 3 0 := by unfold mstep; rw [if_neg (by simpa using hk), if_neg hi, if_neg ht]
          rw [E]
          exact (execute_none hW ht).mono fun e w' ⟨e1, e2, e3⟩ => ⟨e1, Left.only e2 e3 h.gb⟩
      by_cases hl : lv ≤ 15
      · exact step_low lv _ h hk h0 h1 hl (by omega) HX
      · exact step_high lv _ h hk h0 h1 (by omega) HX
  · have E : mstep m lv = m := by unfold mstep; rw [if_pos hk]
    rw [E]
    exact step_still lv h hk
end
end Go.Proofs.YtiobgnelhiadbaaGreatDoor.K6
namespace Go.Proofs.YtiobgnelhiadbaaGreatDoor.K6
open Go.RowKit
set_option linter.unusedVariables false
section
variable {w : World} {b fb mb g x : Nat} {cs os : Value} {G : Nat → Prop} {m : MS}
/-- Parts of an instruction that may be asked of Encode. -/
structure IOk (i : XV) : Prop where
  o : 0 ≤ i.o ∧ i.o ≤ 255
  d : 0 ≤ i.d ∧ i.d ≤ 255
  s : 0 ≤ i.s ∧ i.s ≤ 255
  t : 0 ≤ i.t ∧ i.t ≤ 255
  n : -2147483648 ≤ i.n ∧ i.n ≤ 2147483647
/-- The word of an instruction. -/
def wof (i : XV) : Int := I2.eW i.o i.d i.s i.t i.ib i.n
theorem wof_w {i : XV} (h : IOk i) : W32 (wof i) := I2.eW_bd h.o h.d h.s h.t
theorem word_at (i : XV) (w : World) (h : IOk i) :
    Calls Tryz.prog 122 #[.agg #[.int .u8 i.o, .int .u8 i.d, .int .u8 i.s, .int .u8 i.t, .bool i.ib, .int .i32 i.n]] w fun e w' => e = .returned (.int .u32 (wof i)) ∧ Below w.heap.size w w' := by
  have HE : Hid (∀ W, Calls Tryz.prog 92 #[.agg #[.int .u8 i.o, .int .u8 i.d, .int .u8 i.s, .int .u8 i.t, .bool i.ib, .int .i32 i.n]] W fun e w' => e = .returned (.tuple #[.int .u32 (wof i), .int .i64 (I2.eE i.o i.d i.s i.t i.ib i.n)]) ∧ Below W.heap.size W w') := fun W => (I2.renc_any i.o i.d i.s i.t i.ib i.n W h.o h.d h.s h.t h.n).mono fun e w' hh => ⟨hh.1, hh.2.bel⟩
  generalize wof i = u at *
  generalize I2.eE i.o i.d i.s i.t i.ib i.n = er at *
  have g0 : Below w.heap.size w (w.alloc (.cells #[.int .u8 i.o, .int .u8 i.d, .int .u8 i.s, .int .u8 i.t, .bool i.ib, .int .i32 i.n] 88)) := bel_alK (Below.refl _ _)
  clear h
  go_enter Tryz.func122, Tryz.ntmps122
  go_wp2_with fail
  refine (HE.out _).mono ?_; rintro e w1 ⟨rfl, g1⟩
  go_wp2_with fail
  go_ret
  exact ⟨rfl, bel_trans g0 g1⟩
/-- A machine of two windows whose first words are those of a program. -/
def mfill (g : Nat → Int) (k : Nat) : MS := { mnew 2 1024 with f := ptB (fun _ => 0) 0 g k }
/-- A program in a slice. -/
def ProgAt (w : World) (s : Value) (n : Nat) (ins : Nat → XV) : Prop :=
  ∃ p c, s = .slice p n c ∧ (0 < n → ∃ z, p = some ⟨z, 0, none⟩ ∧ ∀ k, k < n → w.cell? ⟨z, k * 6, none⟩ = some (.int .u8 (ins k).o) ∧ w.cell? ⟨z, k * 6 + 1, none⟩ = some (.int .u8 (ins k).d) ∧ w.cell? ⟨z, k * 6 + 2, none⟩ = some (.int .u8 (ins k).s) ∧ w.cell? ⟨z, k * 6 + 3, none⟩ = some (.int .u8 (ins k).t) ∧ w.cell? ⟨z, k * 6 + 4, none⟩ = some (.bool (ins k).ib) ∧ w.cell? ⟨z, k * 6 + 5, none⟩ = some (.int .i32 (ins k).n))
theorem th_small {k : Nat} (h : k < 256) : thE 1024 ((4 * k : Nat) : Int) 4 = 0 := by
  unfold thE
  rw [if_neg (by omega), if_neg (by omega), if_neg (by omega)]
set_option maxHeartbeats 2000000 in
set_option maxRecDepth 100000 in
theorem small_at (s : Value) (n : Nat) (ins : Nat → XV) (w : World) (hs : ProgAt w s n ins) (hn : n ≤ 100) (hi : ∀ k, IOk (ins k)) (hT : Tabs w) :
    Calls Tryz.prog 54 #[s] w fun e w' => ∃ b G, e = .returned (.pointer (some ⟨b, 0, none⟩)) ∧ MachB w' b G (mfill (fun k => wof (ins k)) n) ∧ Below w.heap.size w w' ∧ ∀ i, G i → w.heap.size ≤ i := by
  obtain ⟨p, c, rfl, hp⟩ := hs
  have HP := Lib.hid hp
  have HI := Lib.hid hi
  have HN : Hid (∀ W, Tabs W → Calls Tryz.prog 58 #[.int .i64 2, .int .i64 1024] W fun e w' => ∃ b G, e = .returned (.tuple #[.pointer (some ⟨b, 0, none⟩), .int .i64 0]) ∧ MachB w' b G (mnew 2 1024) ∧ Below W.heap.size W w' ∧ ∀ i, G i → W.heap.size ≤ i) := fun W hW => New_at 2 1024 W (by decide) (by decide) ⟨by decide, by decide, by decide⟩ hW
  have HT := Lib.hid hT
  clear hp hi hT
  go_enter Tryz.func54, Tryz.ntmps54
  go_wp2_with fail
  refine (HN.out _ HT.out).mono ?_; rintro e w1 ⟨b, G, rfl, ⟨fb, mb, g, x, cs, os, P1⟩, g1, hG⟩
  have P1 : Hid (MachP w1 b fb mb g x cs os G (mfill (fun k => wof (ins k)) 0)) := P1
  have hG := Lib.hid hG
  have g1 := Lib.hid g1
  go_wp2_with fail
  go_loopw [5] (fun i wr => ∃ k : Nat, k ≤ n ∧ i = .int .i64 k ∧ MachP wr b fb mb g x cs os G (mfill (fun k => wof (ins k)) k) ∧ Below w.heap.size w wr) (fun i _ => n - (intOf i).toNat)
  case atStart => exact ⟨0, by omega, rfl, P1.out, g1.out⟩
  case round =>
    obtain ⟨k, hk, rfl, P2, b2⟩ := hrel
    have P2 := Lib.hid P2
    have b2 := Lib.hid b2
    clear P1 g1
    by_cases hlt : k < n
    · obtain ⟨z, rfl, hc⟩ := HP.out (by omega)
      have hk1 : k < 256 := by omega
      have HM : Hid (∀ W, MachP W b fb mb g x cs os G (mfill (fun k => wof (ins k)) k) → Calls Tryz.prog 34 #[.pointer (some ⟨b, 0, none⟩)] W fun e w' => e = .returned (.pointer (some ⟨mb, 0, none⟩)) ∧ Below W.heap.size W w') := fun W hW => (Mem_get hW).mono fun e w' ⟨h1, h2⟩ => ⟨h1, h2 ▸ Below.refl _ _⟩
      have HWd := Lib.hid (fun W => word_at (ins k) W (HI.out k))
      have HU := wof_w (HI.out k)
      have HSt : Hid (∀ W, MachP W b fb mb g x cs os G (mfill (fun k => wof (ins k)) k) → Calls Tryz.prog 90 #[.pointer (some ⟨mb, 0, none⟩), .int .u32 (4 * (k : Int)), .int .i64 4, .int .u32 (wof (ins k))] W fun e w' => e = .returned (.int .i64 0) ∧ MachP w' b fb mb g x cs os G (mfill (fun k => wof (ins k)) (k + 1)) ∧ W.grownBy w' (some g)) := fun W hW => by
        have h := stores_at (4 * k) 4 (wof (ins k)) hW HU (th_small hk1)
        have e : (((4 * k : Nat)) : Int) = 4 * (k : Int) := by omega
        rw [e] at h
        refine h.mono fun e w' ⟨h1, h2, h3⟩ => ⟨h1, ?_, h3⟩
        have e2 : (mfill (fun k => wof (ins k)) k).byt (stB (mfill (fun k => wof (ins k)) k).f (4 * k) 4 (wof (ins k))) = mfill (fun k => wof (ins k)) (k + 1) := by
          show MS.mk _ _ _ _ _ _ _ _ _ _ _ _ _ _ _ _ _ _ = MS.mk _ _ _ _ _ _ _ _ _ _ _ _ _ _ _ _ _ _
          simp only [mfill, mnew, ptB, Nat.zero_add]
        rw [e2] at h2
        exact h2
      have hzg : Hid (z ≠ g) := by
        have h1 := hG.out _ P2.out.gg
        have h2 := block_lt_of_cell (hc k hlt).1
        unfold Hid
        simp only at h2
        omega
      obtain ⟨c0, c1, c2, c3, c4, c5⟩ := hc k hlt
      replace c0 := bel_cell b2.out c0
      replace c1 := bel_cell b2.out c1
      replace c2 := bel_cell b2.out c2
      replace c3 := bel_cell b2.out c3
      replace c4 := bel_cell b2.out c4
      replace c5 := bel_cell b2.out c5
      have w1k : IntKind.i64.wrap (4 * (k : Int)) = 4 * (k : Int) := IntWalk.i64_in _ (by omega)
      have w2k : IntKind.u32.wrap (4 * (k : Int)) = 4 * (k : Int) := IntWalk.u32_in _ (by omega)
      have hk2 : (k : Int) < n := by omega
      generalize hins : ins k = i at HWd HSt c0 c1 c2 c3 c4 c5
      generalize wof i = u at HWd HSt
      have HS : Hid (∀ W, wr.grownBy W (some g) → W.cell? ⟨z, k * 6, none⟩ = some (.int .u8 i.o) ∧ W.cell? ⟨z, k * 6 + 1, none⟩ = some (.int .u8 i.d) ∧ W.cell? ⟨z, k * 6 + 2, none⟩ = some (.int .u8 i.s) ∧ W.cell? ⟨z, k * 6 + 3, none⟩ = some (.int .u8 i.t) ∧ W.cell? ⟨z, k * 6 + 4, none⟩ = some (.bool i.ib) ∧ W.cell? ⟨z, k * 6 + 5, none⟩ = some (.int .i32 i.n) ∧ wr.grownBy W (some g)) := fun W kk => ⟨M5.cell_kept kk hzg.out c0, M5.cell_kept kk hzg.out c1, M5.cell_kept kk hzg.out c2, M5.cell_kept kk hzg.out c3, M5.cell_kept kk hzg.out c4, M5.cell_kept kk hzg.out c5, kk⟩
      clear hc hins HU
      go_wp2_with fail
      go_region_held3 (fun W => W.cell? ⟨z, k * 6, none⟩ = some (.int .u8 i.o) ∧ W.cell? ⟨z, k * 6 + 1, none⟩ = some (.int .u8 i.d) ∧ W.cell? ⟨z, k * 6 + 2, none⟩ = some (.int .u8 i.s) ∧ W.cell? ⟨z, k * 6 + 3, none⟩ = some (.int .u8 i.t) ∧ W.cell? ⟨z, k * 6 + 4, none⟩ = some (.bool i.ib) ∧ W.cell? ⟨z, k * 6 + 5, none⟩ = some (.int .i32 i.n) ∧ wr.grownBy W (some g))
        (first
          | exact HS.out _ (bel_only (Below.refl _ _).drew _)
          | (go_split_ands; exact HS.out _ (bel_only B4.out _))
          | (go_split_ands; exact HS.out _ (bel_only B5.out _))
          | (go_split_ands; exact HS.out _ (only_trans (bel_only B5.out _) gW)))
        (first
          | (go_at_call 34; refine (HM.out _ (P2.out.bel (Below.refl _ _).drew)).mono ?_; rintro e w4 ⟨rfl, gL⟩; have B4 := Lib.hid (bel_trans (Below.refl _ wr).drew gL))
          | (go_at_call 122; refine (HWd.out _).mono ?_; rintro e w5 ⟨rfl, gL⟩; have B5 := Lib.hid (bel_trans B4.out gL))
          | (go_at_call 90; refine (HSt.out _ (P2.out.bel B5.out)).mono ?_; rintro e w6 ⟨rfl, P6, gW⟩; have P6 := Lib.hid P6))
      rename_i hH
      have gH := Lib.hid hH.2.2.2.2.2.2
      have b6 := Lib.hid (only_bel b2.out gH.out (hG.out _ P2.out.gg))
      clear hH HS HM HWd HSt w1k w2k c0 c1 c2 c3 c4 c5 P2 b2 gH
      go_wp2
      go_roundw
      case rel => exact ⟨k + 1, by omega, by go_num, P6.out, b6.out⟩
      case measure => simp [intOf]; omega
    · obtain rfl : k = n := by omega
      go_wp2_with fail
      go_ret
      exact ⟨b, G, rfl, P2.out.b, b2.out, hG.out⟩
end
end Go.Proofs.YtiobgnelhiadbaaGreatDoor.K6
namespace Go.Proofs.YtiobgnelhiadbaaGreatDoor.K6
open Go.RowKit
set_option linter.unusedVariables false
section
variable {w : World} {b fb mb g x : Nat} {cs os : Value} {G : Nat → Prop} {m : MS}
def iZ : XV := ⟨0, 0, 0, 0, 0, false, 0, 0, 0⟩
def iA (k : Nat) : XV := if k = 0 then ⟨0, 1, 1, 0, 0, true, 5, 0, 0⟩ else if k = 1 then ⟨0, 35, 0, 1, 0, false, 0, 0, 0⟩ else if k = 2 then ⟨0, 36, 0, 1, 0, false, 0, 0, 0⟩ else iZ
def iB (k : Nat) : XV := if k = 0 then ⟨0, 20, 0, 0, 0, false, 0, 0, 0⟩ else iZ
def iD (k : Nat) : XV := if k = 0 then ⟨0, 4, 1, 0, 0, false, 0, 0, 0⟩ else iZ
def iF (k : Nat) : XV := if k = 0 then ⟨0, 32, 0, 0, 0, false, 0, 0, 0⟩ else iZ
theorem iZ_ok : IOk iZ := by constructor <;> decide
theorem iA_ok (k : Nat) : IOk (iA k) := by
  unfold iA
  split
  · constructor <;> decide
  split
  · constructor <;> decide
  split
  · constructor <;> decide
  exact iZ_ok
theorem iB_ok (k : Nat) : IOk (iB k) := by
  unfold iB
  split
  · constructor <;> decide
  exact iZ_ok
theorem iD_ok (k : Nat) : IOk (iD k) := by
  unfold iD
  split
  · constructor <;> decide
  exact iZ_ok
theorem iF_ok (k : Nat) : IOk (iF k) := by
  unfold iF
  split
  · constructor <;> decide
  exact iZ_ok
def hA : MS := mfill (fun k => wof (iA k)) 3
def hB : MS := mfill (fun k => wof (iB k)) 1
def hC : MS := mfill (fun k => wof (iZ)) 0
def hD : MS := mfill (fun k => wof (iD k)) 1
def hF : MS := mfill (fun k => wof (iF k)) 1
theorem aw0 : I2.dO (ldB hA.f hA.pc.toNat 4) = 1 := by kernel_rfl
theorem a1pc : (mstep hA 0).pc = 4 := by kernel_rfl
theorem aw1 : I2.dO (ldB (mstep hA 0).f (mstep hA 0).pc.toNat 4) = 35 := by kernel_rfl
theorem aw2 : I2.dO (ldB (mstep (mstep hA 0) 0).f (mstep (mstep hA 0) 0).pc.toNat 4) = 36 := by kernel_rfl
theorem a3 : (mstep (mstep (mstep hA 0) 0) 0).sk = 1 ∧ (mstep (mstep (mstep hA 0) 0) 0).sv = 5 ∧ (mstep (mstep (mstep hA 0) 0) 0).ol = 1 ∧ (mstep (mstep (mstep hA 0) 0) 0).out 0 = 5 := ⟨by kernel_rfl, by kernel_rfl, by kernel_rfl, by kernel_rfl⟩
theorem a12 : (mstep hA 0).ol = 0 ∧ (mstep (mstep hA 0) 0).ol = 1 := ⟨by kernel_rfl, by kernel_rfl⟩
theorem bw0 : I2.dO (ldB hB.f hB.pc.toNat 4) = 20 := by kernel_rfl
theorem tb1 : (mstep hB 0).pc = 272 ∧ (mstep hB 0).cwp = 0 ∧ (mstep hB 0).pil = 0 ∧ (mstep hB 0).bank = 16 ∧ (mstep hB 0).fl = 0 ∧ (mstep hB 0).tpc 16 = 0 ∧ (mstep hB 0).wim = 2 := ⟨by kernel_rfl, by kernel_rfl, by kernel_rfl, by kernel_rfl, by kernel_rfl, by kernel_rfl, by kernel_rfl⟩
def hC1 : MS := mstep (hC.jmp 40) 3
theorem tc1 : hC1.pc = 560 ∧ hC1.cwp = 0 ∧ hC1.pil = 3 ∧ hC1.bank = 3 ∧ hC1.fl = 0 ∧ hC1.tpc 3 = 40 ∧ hC1.ol = 0 := ⟨by kernel_rfl, by kernel_rfl, by kernel_rfl, by kernel_rfl, by kernel_rfl, by kernel_rfl, by kernel_rfl⟩
theorem c0d : I2.dk (ldB (hC.jmp 40).f (hC.jmp 40).pc.toNat 4) = false := by kernel_rfl
theorem cd : I2.dk (ldB hC1.f hC1.pc.toNat 4) = false := by kernel_rfl
theorem tc2 : (mstep hC1 3).sk = 3 ∧ (mstep hC1 3).sv = 0 := ⟨by kernel_rfl, by kernel_rfl⟩
theorem dw0 : I2.dO (ldB hD.f hD.pc.toNat 4) = 4 := by kernel_rfl
theorem td1 : (mstep hD 0).sk = 2 ∧ (mstep hD 0).sv = 1 := ⟨by kernel_rfl, by kernel_rfl⟩
theorem tf1 : (mstep hF 0).sk = 3 ∧ (mstep hF 0).sv = 0 := ⟨by kernel_rfl, by kernel_rfl⟩
end
end Go.Proofs.YtiobgnelhiadbaaGreatDoor.K6
namespace Go.Proofs.YtiobgnelhiadbaaGreatDoor.K6
open Go.RowKit
set_option linter.unusedVariables false
section
variable {w : World} {b fb mb g x : Nat} {cs os : Value} {G : Nat → Prop} {m : MS}
/-- A machine by its block and its own blocks. -/
structure ME where
  b : Nat
  G : Nat → Prop
  m : MS
/-- Machines of which none has a block of another's; all of their blocks have been made since the world a. -/
structure AllM (a w : World) (L : List ME) : Prop where
  bel : Below a.heap.size a w
  tab : Tabs w
  at' : ∀ (j : Nat) (e : ME), L[j]? = some e → MachB w e.b e.G e.m
  low : ∀ (j : Nat) (e : ME), L[j]? = some e → ∀ i, e.G i → a.heap.size ≤ i
  dis : ∀ (j k : Nat) (e e' : ME), j ≠ k → L[j]? = some e → L[k]? = some e' → ∀ i, e.G i → ¬ e'.G i
theorem AllM.none {w : World} (h : Tabs w) : AllM w w [] := ⟨Below.refl _ _, h, fun j e h => by simp at h, fun j e h => by simp at h, fun j k e e' _ h => by simp at h⟩
theorem MachB.lt {w : World} {b : Nat} {G : Nat → Prop} {m : MS} (h : MachB w b G m) : ∀ i, G i → i < w.heap.size := by obtain ⟨_, _, _, _, _, _, h⟩ := h; exact h.lt
theorem MachB.far {w : World} {b : Nat} {G : Nat → Prop} {m : MS} (h : MachB w b G m) : ∀ i, G i → ¬ isTab i := by obtain ⟨_, _, _, _, _, _, h⟩ := h; exact h.far
theorem MachB.bel {w w' : World} {b : Nat} {G : Nat → Prop} {m : MS} (h : MachB w b G m) (k : Below w.heap.size w w') : MachB w' b G m := by obtain ⟨_, _, _, _, _, _, h⟩ := h; exact (h.bel k).b
theorem MachB.turns {w w' : World} {b : Nat} {G H : Nat → Prop} {m : MS} (h : MachB w b G m) (k : Turns H w w') (hd : ∀ i, G i → ¬ H i) (ht : ∀ i, H i → ¬ isTab i) : MachB w' b G m := by obtain ⟨_, _, _, _, _, _, h⟩ := h; exact (h.turns k hd ht).b
theorem AllM.more {a w w' : World} {L : List ME} (h : AllM a w L) (k : Below w.heap.size w w') : AllM a w' L :=
  ⟨bel_trans h.bel k, h.tab.bel k, fun j e hj => (h.at' j e hj).bel k, h.low, h.dis⟩
theorem AllM.add {a w w' : World} {L : List ME} (h : AllM a w L) (k : Below w.heap.size w w') {b : Nat} {G : Nat → Prop} {m : MS} (hb : MachB w' b G m) (hG : ∀ i, G i → w.heap.size ≤ i) : AllM a w' (L ++ [⟨b, G, m⟩]) := by
  have hs := h.bel.size
  have last : ∀ (j : Nat) (e : ME), (L ++ [⟨b, G, m⟩])[j]? = some e → (j < L.length ∧ L[j]? = some e) ∨ (j = L.length ∧ e = ⟨b, G, m⟩) := fun j e hj => by
    rcases Nat.lt_trichotomy j L.length with hl | hl | hl
    · left; rw [List.getElem?_append_left hl] at hj; exact ⟨hl, hj⟩
    · right; subst hl; simp at hj; exact ⟨rfl, hj.symm⟩
    · rw [List.getElem?_eq_none (by simp; omega)] at hj; cases hj
  refine ⟨bel_trans h.bel k, h.tab.bel k, fun j e hj => ?_, fun j e hj i hi => ?_, fun j l e e' hjl hj hl i hi hi' => ?_⟩
  · rcases last j e hj with ⟨_, h1⟩ | ⟨_, rfl⟩
    · exact (h.at' j e h1).bel k
    · exact hb
  · rcases last j e hj with ⟨_, h1⟩ | ⟨_, rfl⟩
    · exact h.low j e h1 i hi
    · exact Nat.le_trans hs (hG i hi)
  · rcases last j e hj with ⟨_, h1⟩ | ⟨h1, rfl⟩
    · rcases last l e' hl with ⟨_, h2⟩ | ⟨_, rfl⟩
      · exact h.dis j l e e' hjl h1 h2 i hi hi'
      · have := (h.at' j e h1).lt i hi; have := hG i hi'; omega
    · rcases last l e' hl with ⟨_, h2⟩ | ⟨h2, _⟩
      · have := (h.at' l e' h2).lt i hi'; have := hG i hi; omega
      · omega
/-- A block that is none of theirs, with what it holds. -/
def Spect (w : World) (L : List ME) (x : Nat) (o : Obj) : Prop := w.heap[x]? = some o ∧ ∀ (j : Nat) (e : ME), L[j]? = some e → ¬ e.G x
theorem Spect.more {w w' : World} {L : List ME} {x : Nat} {o : Obj} (h : Spect w L x o) (k : Below w.heap.size w w') : Spect w' L x o := ⟨bel_heap k h.1, h.2⟩
theorem Spect.new {a w : World} {L : List ME} (h : AllM a w L) (o : Obj) : Spect (w.alloc o) L w.heap.size o := ⟨heap_alloc_last _ _, fun j e hj hx => Nat.lt_irrefl _ ((h.at' j e hj).lt _ hx)⟩
/-- One of them does something. -/
theorem AllM.left {a w w' : World} {L : List ME} (h : AllM a w L) {j : Nat} {b : Nat} {G : Nat → Prop} {m m' : MS} (hj : L[j]? = some ⟨b, G, m⟩) (k : Left w b G m' w') : ∃ G', AllM a w' (L.set j ⟨b, G', m'⟩) ∧ ∀ x o, Spect w L x o → Spect w' (L.set j ⟨b, G', m'⟩) x o := by
  obtain ⟨G', h1, h2, h3⟩ := k
  have hs := h.bel.size
  have hB := h.at' j _ hj
  have hL := h.low j _ hj
  have split : ∀ (l : Nat) (e : ME), (L.set j ⟨b, G', m'⟩)[l]? = some e → (l = j ∧ e = ⟨b, G', m'⟩) ∨ (l ≠ j ∧ L[l]? = some e) := fun l e hl => by
    by_cases e1 : j = l
    · subst e1
      left
      rw [List.getElem?_set_self (by exact (List.getElem?_eq_some_iff.1 hj).1)] at hl
      exact ⟨rfl, (Option.some.inj hl).symm⟩
    · right
      rw [List.getElem?_set_ne e1] at hl
      exact ⟨fun e => e1 e.symm, hl⟩
  refine ⟨G', ⟨h2.bel h.bel hL, h.tab.turns h2 hB.far, fun l e hl => ?_, fun l e hl i hi => ?_, fun l n e e' hln hl hn i hi hi' => ?_⟩, fun x o hx => ⟨h2.heap (hx.2 j _ hj) hx.1, fun l e hl hex => ?_⟩⟩
  · rcases split l e hl with ⟨rfl, rfl⟩ | ⟨hne, hl'⟩
    · exact h1
    · exact (h.at' l e hl').turns h2 (h.dis l j e _ hne hl' hj) hB.far
  · rcases split l e hl with ⟨rfl, rfl⟩ | ⟨hne, hl'⟩
    · rcases h3 i hi with h4 | h4
      · exact hL i h4
      · omega
    · exact h.low l e hl' i hi
  · rcases split l e hl with ⟨rfl, rfl⟩ | ⟨hne, hl'⟩
    · rcases split n e' hn with ⟨rfl, rfl⟩ | ⟨hne', hn'⟩
      · exact hln rfl
      · rcases h3 i hi with h4 | h4
        · exact h.dis n l e' _ hne' hn' hj i hi' h4
        · have := (h.at' n e' hn').lt i hi'; omega
    · rcases split n e' hn with ⟨rfl, rfl⟩ | ⟨hne', hn'⟩
      · rcases h3 i hi' with h4 | h4
        · exact h.dis l n e _ hne hl' hj i hi h4
        · have := (h.at' l e hl').lt i hi; omega
      · exact h.dis l n e e' hln hl' hn' i hi hi'
  · rcases split l e hl with ⟨rfl, rfl⟩ | ⟨hne, hl'⟩
    · rcases h3 x hex with h4 | h4
      · exact hx.2 l _ hj h4
      · have := M5.heap_lt hx.1; omega
    · exact hx.2 l e hl' hex
/-! Calls of one of several machines. -/
theorem all_step {a : World} {L : List ME} (lv : Int) {j : Nat} {b : Nat} {G : Nat → Prop} {m : MS} (h : AllM a w L) (hj : L[j]? = some ⟨b, G, m⟩) (h0 : 0 ≤ lv) (h1 : lv < 256) (hol : m.ol ≤ 1000000) (hE : m.sk = 0 → thE m.sz m.pc 4 = 0 → I2.dk (ldB m.f m.pc.toNat 4) = true → Easy m (ldB m.f m.pc.toNat 4)) {k v : Int} (hk : (mstep m lv).sk = k) (hv : (mstep m lv).sv = v) :
    Calls Tryz.prog 15 #[.pointer (some ⟨b, 0, none⟩), .int .u8 lv] w fun e w' => e = .returned (.agg #[.int .u8 k, .int .u32 v]) ∧ ∃ G', AllM a w' (L.set j ⟨b, G', mstep m lv⟩) ∧ ∀ x o, Spect w L x o → Spect w' (L.set j ⟨b, G', mstep m lv⟩) x o := by
  obtain ⟨fb, mb, g, x, cs, os, P⟩ := h.at' j _ hj
  rw [← hk, ← hv]
  exact (Step_at lv P h0 h1 hol hE).mono fun e w' ⟨e1, e2⟩ => ⟨e1, h.left hj e2⟩
theorem all_pc {a : World} {L : List ME} {j : Nat} {b : Nat} {G : Nat → Prop} {m : MS} (h : AllM a w L) (hj : L[j]? = some ⟨b, G, m⟩) {v : Int} (hv : m.pc = v) :
    Calls Tryz.prog 55 #[.pointer (some ⟨b, 0, none⟩)] w fun e w' => e = .returned (.int .u32 v) ∧ AllM a w' L := by
  obtain ⟨fb, mb, g, x, cs, os, P⟩ := h.at' j _ hj
  rw [← hv]
  exact (PC_get P).mono fun e w' ⟨e1, e2⟩ => ⟨e1, e2 ▸ h⟩
theorem all_wim {a : World} {L : List ME} {j : Nat} {b : Nat} {G : Nat → Prop} {m : MS} (h : AllM a w L) (hj : L[j]? = some ⟨b, G, m⟩) {v : Int} (hv : m.wim = v) :
    Calls Tryz.prog 32 #[.pointer (some ⟨b, 0, none⟩)] w fun e w' => e = .returned (.int .u32 v) ∧ AllM a w' L := by
  obtain ⟨fb, mb, g, x, cs, os, P⟩ := h.at' j _ hj
  rw [← hv]
  exact (Wim_get P).mono fun e w' ⟨e1, e2⟩ => ⟨e1, e2 ▸ h⟩
theorem all_psr {a : World} {L : List ME} {j : Nat} {b : Nat} {G : Nat → Prop} {m : MS} (h : AllM a w L) (hj : L[j]? = some ⟨b, G, m⟩) {c p k f : Int} (hc : m.cwp = c) (hp : m.pil = p) (hk : m.bank = k) (hf : m.fl = f) :
    Calls Tryz.prog 28 #[.pointer (some ⟨b, 0, none⟩)] w fun e w' => e = .returned (.agg #[.int .u8 c, .int .u8 p, .int .u8 k, .int .u8 f]) ∧ AllM a w' L ∧ Below w.heap.size w w' := by
  obtain ⟨fb, mb, g, x, cs, os, P⟩ := h.at' j _ hj
  rw [← hc, ← hp, ← hk, ← hf]
  exact (Psr_get P).mono fun e w' ⟨e1, e2⟩ => ⟨e1, h.more e2, e2⟩
theorem all_t {a : World} {L : List ME} {j : Nat} {b : Nat} {G : Nat → Prop} {m : MS} (n : Nat) (q : Int) (hq : q = n) (h : AllM a w L) (hj : L[j]? = some ⟨b, G, m⟩) (n0 : 1 ≤ n) (n1 : n ≤ 16) {c : Int} (hc : m.tpc n = c) :
    Calls Tryz.prog 56 #[.pointer (some ⟨b, 0, none⟩), .int .i64 q] w fun e w' => e = .returned (.tuple #[.int .u32 c, .int .u32 (m.tps n), .int .i64 0]) ∧ AllM a w' L ∧ Below w.heap.size w w' := by
  obtain ⟨fb, mb, g, x, cs, os, P⟩ := h.at' j _ hj
  rw [← hc, hq]
  exact (T_get n P n0 n1).mono fun e w' ⟨e1, e2⟩ => ⟨e1, h.more e2, e2⟩
theorem all_setpc {a : World} {L : List ME} {j : Nat} {b : Nat} {G : Nat → Prop} {m : MS} (u : Int) (h : AllM a w L) (hj : L[j]? = some ⟨b, G, m⟩) (hu : W32 u) :
    Calls Tryz.prog 57 #[.pointer (some ⟨b, 0, none⟩), .int .u32 u] w fun e w' => e = .returned (.int .i64 0) ∧ ∃ G', AllM a w' (L.set j ⟨b, G', m.jmp u⟩) ∧ ∀ x o, Spect w L x o → Spect w' (L.set j ⟨b, G', m.jmp u⟩) x o := by
  obtain ⟨fb, mb, g, x, cs, os, P⟩ := h.at' j _ hj
  exact (PC_set u P hu).mono fun e w' ⟨e1, e2, e3⟩ => ⟨e1, h.left hj (Left.only e2 e3 P.gb)⟩
theorem all_out {a : World} {L : List ME} {j : Nat} {b : Nat} {G : Nat → Prop} {m : MS} (h : AllM a w L) (hj : L[j]? = some ⟨b, G, m⟩) (hol : m.ol ≤ 1000000) :
    Calls Tryz.prog 30 #[.pointer (some ⟨b, 0, none⟩)] w fun e w' => ∃ s, e = .returned s ∧ Sl .u32 w' s m.ol m.out ∧ AllM a w' L ∧ Below w.heap.size w w' := by
  obtain ⟨fb, mb, g, x, cs, os, P⟩ := h.at' j _ hj
  exact (Out_get P hol).mono fun e w' ⟨s, e1, e2, e3⟩ => ⟨s, e1, e2, h.more e3, e3⟩
theorem all_small {a : World} {L : List ME} (s : Value) (n : Nat) (ins : Nat → XV) (h : AllM a w L) (hs : ProgAt w s n ins) (hn : n ≤ 100) (hi : ∀ k, IOk (ins k)) :
    Calls Tryz.prog 54 #[s] w fun e w' => ∃ b G, e = .returned (.pointer (some ⟨b, 0, none⟩)) ∧ AllM a w' (L ++ [⟨b, G, mfill (fun k => wof (ins k)) n⟩]) :=
  (small_at s n ins w hs hn hi h.tab).mono fun e w' ⟨b, G, e1, e2, e3, e4⟩ => ⟨b, G, e1, h.add e3 e2 e4⟩
end
end Go.Proofs.YtiobgnelhiadbaaGreatDoor.K6
namespace Go.Proofs.YtiobgnelhiadbaaGreatDoor.K6
open Go.RowKit
set_option linter.unusedVariables false
section
variable {w : World} {b fb mb g x : Nat} {cs os : Value} {G : Nat → Prop} {m : MS}
theorem prog_row {w : World} {z : Nat} {A : Array Value} {t : TypeId} (h : w.heap[z]? = some (.cells A t (0, 0))) (n c : Nat) (ins : Nat → XV)
    (hA : ∀ k, k < n → A[k * 6]? = some (.int .u8 (ins k).o) ∧ A[k * 6 + 1]? = some (.int .u8 (ins k).d) ∧ A[k * 6 + 2]? = some (.int .u8 (ins k).s) ∧ A[k * 6 + 3]? = some (.int .u8 (ins k).t) ∧ A[k * 6 + 4]? = some (.bool (ins k).ib) ∧ A[k * 6 + 5]? = some (.int .i32 (ins k).n)) : ProgAt w (.slice (some ⟨z, 0, none⟩) n c) n ins :=
  ⟨_, c, rfl, fun _ => ⟨z, rfl, fun k hk => by
    obtain ⟨a0, a1, a2, a3, a4, a5⟩ := hA k hk
    exact ⟨row_cell h a0, row_cell h a1, row_cell h a2, row_cell h a3, row_cell h a4, row_cell h a5⟩⟩⟩
theorem progA (w : World) (t : TypeId) : ProgAt (w.alloc (.cells #[.int .u8 1, .int .u8 1, .int .u8 0, .int .u8 0, .bool true, .int .i32 5, .int .u8 35, .int .u8 0, .int .u8 1, .int .u8 0, .bool false, .int .i32 0, .int .u8 36, .int .u8 0, .int .u8 1, .int .u8 0, .bool false, .int .i32 0] t)) (.slice (some ⟨w.heap.size, 0, none⟩) 3 3) 3 iA := prog_row (heap_alloc_last _ _) 3 3 iA fun k hk => by
  match k, hk with
  | 0, _ => exact ⟨rfl, rfl, rfl, rfl, rfl, rfl⟩
  | 1, _ => exact ⟨rfl, rfl, rfl, rfl, rfl, rfl⟩
  | 2, _ => exact ⟨rfl, rfl, rfl, rfl, rfl, rfl⟩
theorem progB (w : World) (t : TypeId) : ProgAt (w.alloc (.cells #[.int .u8 20, .int .u8 0, .int .u8 0, .int .u8 0, .bool false, .int .i32 0] t)) (.slice (some ⟨w.heap.size, 0, none⟩) 1 1) 1 iB := prog_row (heap_alloc_last _ _) 1 1 iB fun k hk => by
  match k, hk with
  | 0, _ => exact ⟨rfl, rfl, rfl, rfl, rfl, rfl⟩
theorem progD (w : World) (t : TypeId) : ProgAt (w.alloc (.cells #[.int .u8 4, .int .u8 1, .int .u8 0, .int .u8 0, .bool false, .int .i32 0] t)) (.slice (some ⟨w.heap.size, 0, none⟩) 1 1) 1 iD := prog_row (heap_alloc_last _ _) 1 1 iD fun k hk => by
  match k, hk with
  | 0, _ => exact ⟨rfl, rfl, rfl, rfl, rfl, rfl⟩
theorem progF (w : World) (t : TypeId) : ProgAt (w.alloc (.cells #[.int .u8 32, .int .u8 0, .int .u8 0, .int .u8 0, .bool false, .int .i32 0] t)) (.slice (some ⟨w.heap.size, 0, none⟩) 1 1) 1 iF := prog_row (heap_alloc_last _ _) 1 1 iF fun k hk => by
  match k, hk with
  | 0, _ => exact ⟨rfl, rfl, rfl, rfl, rfl, rfl⟩
theorem progC (w : World) : ProgAt w (.slice none 0 0) 0 (fun _ => iZ) := ⟨none, 0, rfl, fun h => absurd h (Nat.lt_irrefl _)⟩
theorem five_sl (w : World) : Sl .u32 (w.alloc (.cells #[.int .u32 5] 22)) (.slice (some ⟨w.heap.size, 0, none⟩) 1 1) 1 (fun _ => 5) := ⟨_, 1, rfl, fun _ => ⟨_, 0, rfl, fun i hi => by
  obtain rfl : i = 0 := by omega
  exact row_cell (heap_alloc_last _ _) rfl⟩⟩
theorem out_five : ∀ i, i < 1 → (mstep (mstep (mstep hA 0) 0) 0).out i = 5 := by
  intro i hi
  obtain rfl : i = 0 := by omega
  exact a3.2.2.2
theorem easy_of {m : MS} {z o : Int} (h : I2.dO z = o) (h1 : o ≠ 27) (h2 : o ≠ 32) : Easy m z := trivial
set_option maxRecDepth 100000 in
set_option maxHeartbeats 4000000 in
theorem head_at (w : World) (hT : Tabs w) : Calls Tryz.prog 10 #[] w fun e w' => e = .returned (.bool true) ∧ Below w.heap.size w w' := by
  have A0 := Lib.hid (AllM.none hT)
  clear hT
  go_enter Tryz.func10, Tryz.ntmps10
  go_wp2_with fail
  refine (all_small _ _ iA (AllM.more A0.out (bel_alK (o := .cells #[.int .u8 1, .int .u8 1, .int .u8 0, .int .u8 0, .bool true, .int .i32 5, .int .u8 35, .int .u8 0, .int .u8 1, .int .u8 0, .bool false, .int .i32 0, .int .u8 36, .int .u8 0, .int .u8 1, .int .u8 0, .bool false, .int .i32 0] 88) (Below.refl _ _))) (progA _ _) (by decide) iA_ok).mono ?_; rintro e v0 ⟨b0, G0, rfl, A1⟩
  have A1 := Lib.hid A1
  go_wp2_with fail
  refine (all_small _ _ iB (AllM.more A1.out (bel_alK (o := .cells #[.int .u8 20, .int .u8 0, .int .u8 0, .int .u8 0, .bool false, .int .i32 0] 88) (Below.refl _ _))) (progB _ _) (by decide) iB_ok).mono ?_; rintro e v1 ⟨b1, G1, rfl, A2⟩
  have A2 := Lib.hid A2
  go_wp2_with fail
  refine (all_small _ _ (fun _ => iZ) A2.out (progC _) (by decide) (fun _ => iZ_ok)).mono ?_; rintro e v2 ⟨b2, G2, rfl, A3⟩
  have A3 := Lib.hid A3
  go_wp2_with fail
  refine (all_small _ _ iD (AllM.more A3.out (bel_alK (o := .cells #[.int .u8 4, .int .u8 1, .int .u8 0, .int .u8 0, .bool false, .int .i32 0] 88) (Below.refl _ _))) (progD _ _) (by decide) iD_ok).mono ?_; rintro e v3 ⟨b3, G3, rfl, A4⟩
  have A4 := Lib.hid A4
  go_wp2_with fail
  refine (all_small _ _ iF (AllM.more A4.out (bel_alK (o := .cells #[.int .u8 32, .int .u8 0, .int .u8 0, .int .u8 0, .bool false, .int .i32 0] 88) (Below.refl _ _))) (progF _ _) (by decide) iF_ok).mono ?_; rintro e v4 ⟨b4, G4, rfl, A5⟩
  have A5 := Lib.hid A5
  have L5 : Hid (AllM w v4 [⟨b0, G0, hA⟩, ⟨b1, G1, hB⟩, ⟨b2, G2, hC⟩, ⟨b3, G3, hD⟩, ⟨b4, G4, hF⟩]) := A5.out
  clear A0 A1 A2 A3 A4 A5
  go_wp2_with fail
  refine (all_step 0 L5.out (j := 0) rfl (by decide) (by decide) (Nat.zero_le _) (fun _ _ _ => easy_of aw0 (by decide) (by decide)) rfl rfl).mono ?_; rintro e v5 ⟨rfl, K5, M5, S5⟩
  have L6 : Hid (AllM w v5 [⟨b0, K5, mstep hA 0⟩, ⟨b1, G1, hB⟩, ⟨b2, G2, hC⟩, ⟨b3, G3, hD⟩, ⟨b4, G4, hF⟩]) := M5
  clear M5 S5 L5
  go_wp2_with fail
  refine (all_pc L6.out (j := 0) rfl a1pc).mono ?_; rintro e v6 ⟨rfl, M6⟩
  have L7 := Lib.hid M6
  clear M6
  go_wp2_with fail
  refine (all_step 0 L7.out (j := 0) rfl (by decide) (by decide) (by rw [a12.1]; decide) (fun _ _ _ => easy_of aw1 (by decide) (by decide)) rfl rfl).mono ?_; rintro e v7 ⟨rfl, K7, M7, S7⟩
  have L8 : Hid (AllM w v7 [⟨b0, K7, mstep (mstep hA 0) 0⟩, ⟨b1, G1, hB⟩, ⟨b2, G2, hC⟩, ⟨b3, G3, hD⟩, ⟨b4, G4, hF⟩]) := M7
  clear M7 S7 L7
  go_wp2_with fail
  refine (all_step 0 L8.out (j := 0) rfl (by decide) (by decide) (by rw [a12.2]; decide) (fun _ _ _ => easy_of aw2 (by decide) (by decide)) a3.1 a3.2.1).mono ?_; rintro e v8 ⟨rfl, K8, M8, S8⟩
  have L9 : Hid (AllM w v8 [⟨b0, K8, mstep (mstep (mstep hA 0) 0) 0⟩, ⟨b1, G1, hB⟩, ⟨b2, G2, hC⟩, ⟨b3, G3, hD⟩, ⟨b4, G4, hF⟩]) := M8
  clear M8 S8 L8
  have L10 := Lib.hid (AllM.more L9.out (bel_alK (o := (.cells #[.int .u8 1, .int .u32 5] 37)) (Below.refl _ _)))
  have X10 := Lib.hid (Spect.new L9.out (.cells #[.int .u8 1, .int .u32 5] 37))
  clear L9
  go_wp2_with fail
  refine (all_step 0 L10.out (j := 1) rfl (by decide) (by decide) (Nat.zero_le _) (fun _ _ _ => easy_of bw0 (by decide) (by decide)) rfl rfl).mono ?_; rintro e v10 ⟨rfl, K10, M10, S10⟩
  have L11 : Hid (AllM w v10 [⟨b0, K8, mstep (mstep (mstep hA 0) 0) 0⟩, ⟨b1, K10, mstep hB 0⟩, ⟨b2, G2, hC⟩, ⟨b3, G3, hD⟩, ⟨b4, G4, hF⟩]) := M10
  have X11 : Hid (Spect v10 [⟨b0, K8, mstep (mstep (mstep hA 0) 0) 0⟩, ⟨b1, K10, mstep hB 0⟩, ⟨b2, G2, hC⟩, ⟨b3, G3, hD⟩, ⟨b4, G4, hF⟩] v8.heap.size (.cells #[.int .u8 1, .int .u32 5] 37 (0, 0))) := S10 _ _ X10.out
  clear M10 S10 L10 X10
  go_wp2_with fail
  refine (all_t 16 16 rfl L11.out (j := 1) rfl (by decide) (by decide) tb1.2.2.2.2.2.1).mono ?_; rintro e v11 ⟨rfl, M11, Bl⟩
  have L12 := Lib.hid M11
  have X12 : Hid (Spect v11 [⟨b0, K8, mstep (mstep (mstep hA 0) 0) 0⟩, ⟨b1, K10, mstep hB 0⟩, ⟨b2, G2, hC⟩, ⟨b3, G3, hD⟩, ⟨b4, G4, hF⟩] v8.heap.size (.cells #[.int .u8 1, .int .u32 5] 37 (0, 0))) := X11.out.more Bl
  clear M11
  go_wp2_with fail
  refine (all_setpc 40 L12.out (j := 2) rfl ⟨by decide, by decide⟩).mono ?_; rintro e v12 ⟨rfl, K12, M12, S12⟩
  have L13 : Hid (AllM w v12 [⟨b0, K8, mstep (mstep (mstep hA 0) 0) 0⟩, ⟨b1, K10, mstep hB 0⟩, ⟨b2, K12, hC.jmp 40⟩, ⟨b3, G3, hD⟩, ⟨b4, G4, hF⟩]) := M12
  have X13 : Hid (Spect v12 [⟨b0, K8, mstep (mstep (mstep hA 0) 0) 0⟩, ⟨b1, K10, mstep hB 0⟩, ⟨b2, K12, hC.jmp 40⟩, ⟨b3, G3, hD⟩, ⟨b4, G4, hF⟩] v8.heap.size (.cells #[.int .u8 1, .int .u32 5] 37 (0, 0))) := S12 _ _ X12.out
  clear M12 S12 L12 X12
  go_wp2_with fail
  refine (all_step 3 L13.out (j := 2) rfl (by decide) (by decide) (Nat.zero_le _) (fun _ _ hd => absurd hd (by rw [c0d]; decide)) rfl rfl).mono ?_; rintro e v13 ⟨rfl, K13, M13, S13⟩
  have L14 : Hid (AllM w v13 [⟨b0, K8, mstep (mstep (mstep hA 0) 0) 0⟩, ⟨b1, K10, mstep hB 0⟩, ⟨b2, K13, hC1⟩, ⟨b3, G3, hD⟩, ⟨b4, G4, hF⟩]) := M13
  have X14 : Hid (Spect v13 [⟨b0, K8, mstep (mstep (mstep hA 0) 0) 0⟩, ⟨b1, K10, mstep hB 0⟩, ⟨b2, K13, hC1⟩, ⟨b3, G3, hD⟩, ⟨b4, G4, hF⟩] v8.heap.size (.cells #[.int .u8 1, .int .u32 5] 37 (0, 0))) := S13 _ _ X13.out
  clear M13 S13 L13 X13
  go_wp2_with fail
  refine (all_t 3 3 rfl L14.out (j := 2) rfl (by decide) (by decide) tc1.2.2.2.2.2.1).mono ?_; rintro e v14 ⟨rfl, M14, Bl⟩
  have L15 := Lib.hid M14
  have X15 : Hid (Spect v14 [⟨b0, K8, mstep (mstep (mstep hA 0) 0) 0⟩, ⟨b1, K10, mstep hB 0⟩, ⟨b2, K13, hC1⟩, ⟨b3, G3, hD⟩, ⟨b4, G4, hF⟩] v8.heap.size (.cells #[.int .u8 1, .int .u32 5] 37 (0, 0))) := X14.out.more Bl
  clear M14
  have s0 := row_cell X15.out.1 (j := 0) rfl
  have s1 := row_cell X15.out.1 (j := 1) rfl
  go_wp2_with fail
  refine (all_out L15.out (j := 0) rfl (by rw [a3.2.2.1]; decide)).mono ?_; rintro e v15 ⟨so, rfl, So, M15, Bl⟩
  have L16 := Lib.hid M15
  have X16 : Hid (Spect v15 [⟨b0, K8, mstep (mstep (mstep hA 0) 0) 0⟩, ⟨b1, K10, mstep hB 0⟩, ⟨b2, K13, hC1⟩, ⟨b3, G3, hD⟩, ⟨b4, G4, hF⟩] v8.heap.size (.cells #[.int .u8 1, .int .u32 5] 37 (0, 0))) := X15.out.more Bl
  rw [a3.2.2.1] at So
  have So := Lib.hid So
  clear M15
  have B15 : Below v15.heap.size v15 (v15.alloc (.cells #[.int .u32 5] 22)) := bel_alK (Below.refl _ _)
  have HSame := Lib.hid (M5.words_same so (.slice (some ⟨v15.heap.size, 0, none⟩) 1 1) 1 _ (fun _ => 5) (v15.alloc (.cells #[.int .u32 5] 22)) (by decide) (So.out.bel B15) (five_sl v15) out_five)
  have L16 := Lib.hid (AllM.more L16.out B15)
  go_wp2_with fail
  refine (HSame.out).mono ?_; rintro e v16 ⟨rfl, Bl⟩
  have L17 := Lib.hid (AllM.more L16.out Bl)
  clear L16 HSame B15 Bl
  go_wp2_with fail
  refine (all_pc L17.out (j := 1) rfl tb1.1).mono ?_; rintro e v17 ⟨rfl, M17⟩
  have L18 := Lib.hid M17
  clear M17
  go_wp2_with fail
  refine (all_psr L18.out (j := 1) rfl tb1.2.1 tb1.2.2.1 tb1.2.2.2.1 tb1.2.2.2.2.1).mono ?_; rintro e v18 ⟨rfl, M18, Bl⟩
  have L19 := Lib.hid M18
  clear M18
  go_wp2_with fail
  refine (all_wim L19.out (j := 1) rfl tb1.2.2.2.2.2.2).mono ?_; rintro e v19 ⟨rfl, M19⟩
  have L20 := Lib.hid M19
  clear M19
  go_wp2_with fail
  refine (all_pc L20.out (j := 2) rfl tc1.1).mono ?_; rintro e v20 ⟨rfl, M20⟩
  have L21 := Lib.hid M20
  clear M20
  go_wp2_with fail
  refine (all_psr L21.out (j := 2) rfl tc1.2.1 tc1.2.2.1 tc1.2.2.2.1 tc1.2.2.2.2.1).mono ?_; rintro e v21 ⟨rfl, M21, Bl⟩
  have L22 := Lib.hid M21
  clear M21
  go_wp2_with fail
  refine (all_step 0 L22.out (j := 3) rfl (by decide) (by decide) (Nat.zero_le _) (fun _ _ _ => easy_of dw0 (by decide) (by decide)) td1.1 td1.2).mono ?_; rintro e v22 ⟨rfl, K22, M22, S22⟩
  have L23 : Hid (AllM w v22 [⟨b0, K8, mstep (mstep (mstep hA 0) 0) 0⟩, ⟨b1, K10, mstep hB 0⟩, ⟨b2, K13, hC1⟩, ⟨b3, K22, mstep hD 0⟩, ⟨b4, G4, hF⟩]) := M22
  clear M22 S22 L22
  go_wp2_with fail
  refine (all_step 0 L23.out (j := 4) rfl (by decide) (by decide) (Nat.zero_le _) (fun _ _ _ => trivial) tf1.1 tf1.2).mono ?_; rintro e v23 ⟨rfl, K23, M23, S23⟩
  have L24 : Hid (AllM w v23 [⟨b0, K8, mstep (mstep (mstep hA 0) 0) 0⟩, ⟨b1, K10, mstep hB 0⟩, ⟨b2, K13, hC1⟩, ⟨b3, K22, mstep hD 0⟩, ⟨b4, K23, mstep hF 0⟩]) := M23
  clear M23 S23 L23
  go_wp2_with fail
  refine (all_step 3 L24.out (j := 2) rfl (by decide) (by decide) (by rw [tc1.2.2.2.2.2.2]; decide) (fun _ _ hd => absurd hd (by rw [cd]; decide)) tc2.1 tc2.2).mono ?_; rintro e v24 ⟨rfl, K24, M24, S24⟩
  have L25 : Hid (AllM w v24 [⟨b0, K8, mstep (mstep (mstep hA 0) 0) 0⟩, ⟨b1, K10, mstep hB 0⟩, ⟨b2, K24, mstep hC1 3⟩, ⟨b3, K22, mstep hD 0⟩, ⟨b4, K23, mstep hF 0⟩]) := M24
  clear M24 S24 L24
  go_wp2_with fail
  go_ret
  exact ⟨rfl, L25.out.bel⟩
end
end Go.Proofs.YtiobgnelhiadbaaGreatDoor.K6
