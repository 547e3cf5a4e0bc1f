/- MachLess (layer 6): how many places differ, as plain arithmetic; choices are used up; what unlike counts. MachLess (layer 6): what else it asks of a machine. -/
import Derived.Test.YtiobgnelhiadbaaGreatDoorZMachGL
import Derived.Test.YtiobgnelhiadbaaGreatDoorZMachGJ
import Derived.BigQuiet
namespace Go.Proofs.YtiobgnelhiadbaaGreatDoor.K6
open Go.RowKit
set_option linter.unusedVariables false
theorem cl_wnd (m : MS) (k pc : Int) : (m.wnd k pc).cl = m.cl := by unfold MS.wnd; split <;> rfl
theorem mstep_cl (m : MS) (lv : Int) : (mstep m lv).cl ≤ m.cl := by
  have h1 : ∀ o d a b, (mAlu m o d a b).cl = m.cl := fun o d a b => by unfold mAlu; split <;> rfl
  have h2 : ∀ o d n a b, (mFlow m o d n a b).cl = m.cl := fun o d n a b => by
    unfold mFlow
    split; · rfl
    split; · rfl
    split
    · split <;> rfl
    split; · rfl
    split; · rfl
    split
    · split
      · exact cl_wnd m _ _
      · rfl
    · split
      · exact cl_wnd m _ _
      · rfl
  have h3 : ∀ o d a, (mMem m o d a).cl = m.cl := fun o d a => by
    unfold mMem mLd mSt
    split
    · split <;> rfl
    split
    · split <;> rfl
    split
    · split <;> rfl
    split <;> rfl
  have h4 : ∀ o d n a b, (mState m o d n a b).cl = m.cl := fun o d n a b => by
    unfold mState
    split; · rfl
    split
    · split <;> rfl
    split; · rfl
    split
    · split <;> rfl
    split; · rfl
    split; · rfl
    split
    · split <;> rfl
    split <;> rfl
  have h5 : ∀ o d n a, (mRest m o d n a).cl ≤ m.cl := fun o d n a => by
    unfold mRest
    split; · exact Nat.le_of_eq (cl_wnd m _ _)
    split
    · split
      · exact Nat.sub_le _ _
      · exact Nat.le_refl _
    split; · exact Nat.le_refl _
    split <;> exact Nat.le_refl _
  unfold mstep
  split; · exact Nat.le_refl _
  split; · exact Nat.le_refl _
  split
  · unfold mWord mExec
    split
    · split; · exact Nat.le_of_eq (h1 _ _ _ _)
      split; · exact Nat.le_of_eq (h2 _ _ _ _ _)
      split; · exact Nat.le_of_eq (h3 _ _ _)
      split; · exact Nat.le_of_eq (h4 _ _ _ _ _)
      exact h5 _ _ _ _
    · exact Nat.le_refl _
  · exact Nat.le_refl _
end Go.Proofs.YtiobgnelhiadbaaGreatDoor.K6
namespace Go.Proofs.YtiobgnelhiadbaaGreatDoor.K6
open Go.RowKit
set_option linter.unusedVariables false
section
variable {w : World} {b fb mb g x : Nat} {cs os : Value} {G : Nat → Prop} {m : MS}
theorem Out_own (h : MachP w b fb mb g x cs os G m) (hol : m.ol ≤ 1000000) : Calls Tryz.prog 30 #[.pointer (some ⟨b, 0, none⟩)] w fun e w' => ∃ s, e = .returned s ∧ w'.ownsRow w.heap.size 22 1 s m.ol (bsL .u32 m.out m.ol) ∧ Below w.heap.size w w' := by
  obtain ⟨k0, _, _, _, _, _, _, _, _, k43, _⟩ := h.cells
  obtain ⟨hlen, ⟨hs, h0⟩ | ⟨g0, cap, cur, hs, _, hg, hnc, _, _, hct⟩⟩ := h.outs
  · subst hs
    have HC := Lib.hid (clone_none w none 0 ⟨rfl, rfl⟩)
    have H0 := Lib.hid h0
    clear h h0 hlen
    go_enter Tryz.func30, Tryz.ntmps30
    go_wp2_with fail
    refine (isObject_yes b _ _ k0).mono ?_; rintro e w1 ⟨rfl, rfl⟩
    go_wp2_with fail
    refine (HC.out).mono ?_; rintro e w1 ⟨rfl, rfl⟩
    go_wp2_with fail
    go_ret
    exact ⟨_, rfl, by rw [H0.out]; exact World.ownsRow_nil _ _ _ _, Below.refl _ _⟩
  · obtain ⟨n, hn⟩ : ∃ n, n = m.ol := ⟨_, rfl⟩
    subst hs
    have hcell : ∀ i, i < n → w.cell? ⟨g0, 0 + i, none⟩ = some (.int .u32 (m.out i)) := fun i hi => by
      rw [Nat.zero_add]
      refine row_cell hg ?_
      have := bsL_get .u32 m.out (n := m.ol) (i := i) (by omega)
      rw [← hct, List.getElem?_take_of_lt (by omega)] at this
      simpa using this
    have HC := Lib.hid (clone_some g0 0 n cap m.out w (by omega) hcell)
    rw [← hn] at k43 ⊢
    clear h hlen hg hnc hct hcell hn hol
    go_enter Tryz.func30, Tryz.ntmps30
    go_wp2_with fail
    refine (isObject_yes b _ _ k0).mono ?_; rintro e w1 ⟨rfl, rfl⟩
    go_wp2_with fail
    refine (HC.out).mono ?_; rintro e w1 ⟨s', rfl, hs, g1⟩
    have HS := Lib.hid hs
    go_wp2_with fail
    go_ret
    exact ⟨_, rfl, HS.out, g1⟩
end
end Go.Proofs.YtiobgnelhiadbaaGreatDoor.K6
