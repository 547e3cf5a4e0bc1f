/- MachLess (layer 6): how many places differ, as plain arithmetic; choices are used up; what unlike counts. MachLess (layer 6): what else it asks of a machine. -/
import Derived.Test.YtlmaikbnjdmhcaaGreatDoorMachGL
import Derived.Test.YtlmaikbnjdmhcaaGreatDoorMachGJ
import Derived.BigQuiet
namespace Go.Proofs.YtlmaikbnjdmhcaaGreatDoor.K6
open Go.RowKit
set_option linter.unusedVariables false
theorem cl_wnd (m : MS) (k pc : Int) : (m.wnd k pc).cl = m.cl := by unfold MS.wnd; split <;> rfl
theorem mstep_cl (m : MS) (lv : Int) : (mstep m lv).cl ≤ m.cl := by
  have h1 : ∀ o d a b, (mAlu m o d a b).cl = m.cl := fun o d a b => by unfold mAlu; split <;> rfl
  have h2 : ∀ o d n a b, (mFlow m o d n a b).cl = m.cl := fun o d n a b => by
    unfold mFlow
    split; · rfl
    split; · rfl
    split
    · split <;> rfl
    split; · rfl
    split; · rfl
    split
    · split
      · exact cl_wnd m _ _
      · rfl
    · split
      · exact cl_wnd m _ _
      · rfl
  have h3 : ∀ o d a, (mMem m o d a).cl = m.cl := fun o d a => by
    unfold mMem mLd mSt
    split
    · split <;> rfl
    split
    · split <;> rfl
    split
    · split <;> rfl
    split <;> rfl
  have h4 : ∀ o d n a b, (mState m o d n a b).cl = m.cl := fun o d n a b => by
    unfold mState
    split; · rfl
    split
    · split <;> rfl
    split; · rfl
    split
    · split <;> rfl
    split; · rfl
    split; · rfl
    split
    · split <;> rfl
    split <;> rfl
  have h5 : ∀ o d n a, (mRest m o d n a).cl ≤ m.cl := fun o d n a => by
    unfold mRest
    split; · exact Nat.le_of_eq (cl_wnd m _ _)
    split
    · split
      · exact Nat.sub_le _ _
      · exact Nat.le_refl _
    split; · exact Nat.le_refl _
    split <;> exact Nat.le_refl _
  unfold mstep
  split; · exact Nat.le_refl _
  split; · exact Nat.le_refl _
  split
  · unfold mWord mExec
    split
    · split; · exact Nat.le_of_eq (h1 _ _ _ _)
      split; · exact Nat.le_of_eq (h2 _ _ _ _ _)
      split; · exact Nat.le_of_eq (h3 _ _ _)
      split; · exact Nat.le_of_eq (h4 _ _ _ _ _)
      exact h5 _ _ _ _
    · exact Nat.le_refl _
  · exact Nat.le_refl _
/-- At how many places two functions differ. -/
def cnt (f g : Nat → Int) : Nat → Nat
  | 0 => 0
  | n + 1 => cnt f g n + if f n = g n then 0 else 1
theorem cnt_zero {f g : Nat → Int} : ∀ {n : Nat}, (∀ i, i < n → f i = g i) → cnt f g n = 0
  | 0, _ => rfl
  | n + 1, h => by
    show cnt f g n + (if f n = g n then 0 else 1) = 0
    rw [cnt_zero fun i hi => h i (by omega), if_pos (h n (by omega))]
theorem cnt_one {f g : Nat → Int} {j : Nat} (h : ∀ i, i ≠ j → f i = g i) : ∀ n, cnt f g n ≤ 1
  | 0 => Nat.zero_le _
  | n + 1 => by
    show cnt f g n + (if f n = g n then 0 else 1) ≤ 1
    by_cases e : n = j
    · rw [cnt_zero fun i hi => h i (by omega)]
      split <;> omega
    · rw [if_pos (h n e)]
      exact cnt_one h n
theorem cnt_add (f g : Nat → Int) (n : Nat) : ∀ k, cnt f g (n + k) = cnt f g n + cnt (fun i => f (n + i)) (fun i => g (n + i)) k
  | 0 => rfl
  | k + 1 => by
    show cnt f g (n + k) + (if f (n + k) = g (n + k) then 0 else 1) = cnt f g n + (cnt (fun i => f (n + i)) (fun i => g (n + i)) k + if f (n + k) = g (n + k) then 0 else 1)
    rw [cnt_add f g n k, Nat.add_assoc]
theorem cnt_bd (f g : Nat → Int) : ∀ n, cnt f g n ≤ n
  | 0 => Nat.le_refl _
  | n + 1 => by
    have := cnt_bd f g n
    show cnt f g n + (if f n = g n then 0 else 1) ≤ n + 1
    split <;> omega
/-- Registers of windows and of banks: one of them at most. -/
theorem cnt_two {f g : Nat → Int} (h : ∃ j, ∀ i, i ≠ j → g i = f i) {n k : Nat} (hn : n ≤ 512) : cnt f g n + cnt (fun i => f (512 + i)) (fun i => g (512 + i)) k ≤ 1 := by
  obtain ⟨j, h⟩ := h
  by_cases e : j < 512
  · rw [cnt_zero (f := fun i => f (512 + i)) fun i _ => (h _ (by omega)).symm]
    have := cnt_one (f := f) (g := g) (fun i hi => (h i hi).symm) n
    omega
  · rw [cnt_zero (f := f) fun i hi => (h i (by omega)).symm]
    have := cnt_one (f := fun i => f (512 + i)) (g := fun i => g (512 + i)) (j := j - 512) (fun i hi => (h _ (by omega)).symm) k
    omega
/-- Words of a memory of which one word's bytes differ. -/
theorem cnt_words {f g : Nat → Int} (h : ∃ k, ∀ i, i / 4 ≠ k → g i = f i) (n : Nat) : cnt (M5.wdB f 0) (M5.wdB g 0) n ≤ 1 := by
  obtain ⟨k, h⟩ := h
  refine cnt_one (j := k) (fun i hi => ?_) n
  show ldB f (0 + 4 * i) 4 = ldB g (0 + 4 * i) 4
  simp only [ldB]
  rw [h _ (by omega), h _ (by omega), h _ (by omega), h _ (by omega)]
set_option maxHeartbeats 1000000 in
theorem unlike_at (s t : Value) (n : Nat) (f g : Nat → Int) (w : World) (hn : n ≤ 4194304) (h1 : Sl .u32 w s n f) (h2 : Sl .u32 w t n g) :
    Calls Tryz.prog 17 #[s, t] w fun e w' => e = .returned (.int .i64 (cnt f g n)) ∧ Below w.heap.size w w' := by
  obtain ⟨p, c, rfl, h1⟩ := h1
  obtain ⟨q, d, rfl, h2⟩ := h2
  have H1 := Lib.hid h1
  have H2 := Lib.hid h2
  clear h1 h2
  go_enter Tryz.func17, Tryz.ntmps17
  go_wp2
  go_loopw [5, 6] (fun x i wr => ∃ k : Nat, k ≤ n ∧ x = .int .i64 (cnt f g k) ∧ i = .int .i64 k ∧ Below w.heap.size w wr) (fun _ i _ => n - (intOf i).toNat)
  case atStart => exact ⟨0, by omega, rfl, rfl, Below.refl _ _⟩
  case round =>
    obtain ⟨k, hk, rfl, rfl, hg⟩ := hrel
    have hkc := cnt_bd f g k
    have hstep : cnt f g (k + 1) = cnt f g k + if f k = g k then 0 else 1 := rfl
    by_cases hlt : k < n
    · obtain ⟨a, o, rfl, ha⟩ := H1.out (by omega)
      obtain ⟨b, r, rfl, hb⟩ := H2.out (by omega)
      have ca := bel_cell hg (ha k hlt)
      have cb := bel_cell hg (hb k hlt)
      have hk32 : k < 4194304 := by omega
      generalize hc0 : cnt f g k = y at *
      have HC := Lib.hid hstep
      clear ha hb H1 H2 hc0 hstep
      generalize hfk : f k = u at *
      generalize hgk : g k = v at *
      have HF := Lib.hid (And.intro hfk hgk)
      clear hfk hgk
      by_cases he : u = v
      · subst he
        have E : Hid (cnt f g (k + 1) = y) := by have := HC.out; rw [if_pos rfl] at this; exact this
        go_wp2
        go_quiet (fail)
        go_wp2
        exact ⟨⟨k + 1, by omega, by rw [E.out], by go_num, bel_drewN hg _⟩, by simp [intOf]; omega⟩
      · have E : Hid (cnt f g (k + 1) = y + 1) := by have := HC.out; rw [if_neg he] at this; exact this
        go_wp2
        go_quiet (fail)
        go_wp2
        exact ⟨⟨k + 1, by omega, by rw [E.out]; push_cast; rfl, by go_num, bel_drewN hg _⟩, by simp [intOf]; omega⟩
    · obtain rfl : k = n := by omega
      go_wp2
      go_ret
      exact ⟨rfl, hg⟩
end Go.Proofs.YtlmaikbnjdmhcaaGreatDoor.K6
namespace Go.Proofs.YtlmaikbnjdmhcaaGreatDoor.K6
open Go.RowKit
set_option linter.unusedVariables false
section
variable {w : World} {b fb mb g x : Nat} {cs os : Value} {G : Nat → Prop} {m : MS}
theorem T_zero (h : MachP w b fb mb g x cs os G m) : Calls Tryz.prog 19 #[.pointer (some ⟨b, 0, none⟩), .int .i64 0] w fun e w' => e = .returned (.tuple #[.int .u32 0, .int .u32 0, .int .i64 2]) ∧ Below w.heap.size w w' := by
  obtain ⟨k0, _⟩ := h.cells
  clear h
  go_enter Tryz.func19, Tryz.ntmps19
  go_wp2_with fail
  refine (isObject_yes b _ _ k0).mono ?_; rintro e w1 ⟨rfl, rfl⟩
  go_wp2_with fail
  go_ret3
  exact ⟨rfl, Below.refl _ _⟩
theorem Out_own (h : MachP w b fb mb g x cs os G m) (hol : m.ol ≤ 1000000) : Calls Tryz.prog 23 #[.pointer (some ⟨b, 0, none⟩)] w fun e w' => ∃ s, e = .returned s ∧ w'.ownsRow w.heap.size 22 1 s m.ol (bsL .u32 m.out m.ol) ∧ Below w.heap.size w w' := by
  obtain ⟨k0, _, _, _, _, _, _, _, _, k43, _⟩ := h.cells
  obtain ⟨hlen, ⟨hs, h0⟩ | ⟨g0, cap, cur, hs, _, hg, hnc, _, _, hct⟩⟩ := h.outs
  · subst hs
    have HC := Lib.hid (clone_none w none 0 ⟨rfl, rfl⟩)
    have H0 := Lib.hid h0
    clear h h0 hlen
    go_enter Tryz.func23, Tryz.ntmps23
    go_wp2_with fail
    refine (isObject_yes b _ _ k0).mono ?_; rintro e w1 ⟨rfl, rfl⟩
    go_wp2_with fail
    refine (HC.out).mono ?_; rintro e w1 ⟨rfl, rfl⟩
    go_wp2_with fail
    go_ret
    exact ⟨_, rfl, by rw [H0.out]; exact World.ownsRow_nil _ _ _ _, Below.refl _ _⟩
  · obtain ⟨n, hn⟩ : ∃ n, n = m.ol := ⟨_, rfl⟩
    subst hs
    have hcell : ∀ i, i < n → w.cell? ⟨g0, 0 + i, none⟩ = some (.int .u32 (m.out i)) := fun i hi => by
      rw [Nat.zero_add]
      refine row_cell hg ?_
      have := bsL_get .u32 m.out (n := m.ol) (i := i) (by omega)
      rw [← hct, List.getElem?_take_of_lt (by omega)] at this
      simpa using this
    have HC := Lib.hid (clone_some g0 0 n cap m.out w (by omega) hcell)
    rw [← hn] at k43 ⊢
    clear h hlen hg hnc hct hcell hn hol
    go_enter Tryz.func23, Tryz.ntmps23
    go_wp2_with fail
    refine (isObject_yes b _ _ k0).mono ?_; rintro e w1 ⟨rfl, rfl⟩
    go_wp2_with fail
    refine (HC.out).mono ?_; rintro e w1 ⟨s', rfl, hs, g1⟩
    have HS := Lib.hid hs
    go_wp2_with fail
    go_ret
    exact ⟨_, rfl, HS.out, g1⟩
theorem outX {a : World} {L : List ME} (h : AllM a w L) {j : Nat} {b : Nat} {G : Nat → Prop} {m : MS} (hj : L[j]? = some ⟨b, G, m⟩) (hol : m.ol ≤ 1000000) :
    Calls Tryz.prog 23 #[.pointer (some ⟨b, 0, none⟩)] w fun e w' => ∃ p q, e = .returned (.slice p m.ol q) ∧ m.ol ≤ q ∧ Sl .u32 w' (.slice p m.ol q) m.ol m.out ∧ Below w.heap.size w w' := by
  obtain ⟨fb, mb, g, x, cs, os, P⟩ := h.at' j _ hj
  refine (Out_own P hol).mono ?_
  rintro e w' ⟨s, rfl, O, k⟩
  have S := own_sl O
  obtain ⟨_, ⟨hs, h0⟩ | ⟨g', cap, cur, rfl, _, _, hnc, _⟩⟩ := O
  · subst hs
    refine ⟨none, 0, by rw [h0], Nat.le_of_eq h0, ?_, k⟩
    rw [h0] at S ⊢
    exact S
  · exact ⟨_, cap, rfl, hnc, S, k⟩
theorem wordsX {a : World} {L : List ME} (h : AllM a w L) {j : Nat} {b : Nat} {G : Nat → Prop} {m : MS} (hj : L[j]? = some ⟨b, G, m⟩) {fb mb g x : Nat} {cs os : Value} (P : MachP w b fb mb g x cs os G m) (n : Nat) (hn : n = m.sz / 4) {z : Int} (hz : z = n) :
    Calls Tryz.prog 21 #[.pointer (some ⟨mb, 0, none⟩), .int .u32 0, .int .i64 z] w fun e w' => ∃ s, e = .returned (.tuple #[s, .int .i64 0]) ∧ Sl .u32 w' s n (M5.wdB m.f 0) ∧ Below w.heap.size w w' := by
  subst hz
  exact M5.words_yes 0 n P.mem (by unfold spE; rw [if_neg (by omega), if_neg (by omega), if_neg (by omega)])
end
end Go.Proofs.YtlmaikbnjdmhcaaGreatDoor.K6
