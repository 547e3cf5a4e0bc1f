/- SwapTurns, SwapBack and SwapWords (layer 10): a machine that runs until it comes to a place. -/
import Derived.Test.YtiobgnelhiadbaaGreatDoorXWindGR
import Derived.Test.YtiobgnelhiadbaaGreatDoorXSwapGP
namespace Go.Proofs.YtiobgnelhiadbaaGreatDoor.K6
open Go.RowKit W8
set_option linter.unusedVariables false
theorem set_same {L : List ME} {j : Nat} {e : ME} (h : L[j]? = some e) : L.set j e = L := by
  apply List.ext_getElem?
  intro i
  rw [List.getElem?_set]
  split
  · rename_i hi
    subst hi
    obtain ⟨hl, he⟩ := List.getElem?_eq_some_iff.1 h
    rw [if_pos hl, h]
  · rfl
theorem set_at {L : List ME} {j : Nat} {e e' : ME} (h : L[j]? = some e) : (L.set j e')[j]? = some e' := by
  obtain ⟨hl, he⟩ := List.getElem?_eq_some_iff.1 h
  simp [hl]
theorem set_twice {L : List ME} {j : Nat} {e e' : ME} : (L.set j e).set j e' = L.set j e' := List.set_set ..
/-- What was none of the machines' is none of them yet. -/
def KeepL (w w' : World) (L L' : List ME) : Prop := ∀ x o, Spect w L x o → Spect w' L' x o
set_option maxRecDepth 100000 in
theorem runsZ_at {w0 w : World} {b : Nat} {G : Nat → Prop} {m e : MS} {t : Int} {n M : Nat} {L : List ME} {p : Nat} (A : AllM w0 w L) (hp : L[p]? = some ⟨b, G, m⟩) (R : Runs t n m e) (hn : n ≤ M) (hM : M ≤ 2000) (hol : m.ol ≤ 1000) (u : Int) (hu : u = (M : Int)) :
    Calls Tryz.prog 27 #[.pointer (some ⟨b, 0, none⟩), .int .u32 t, .int .i64 u] w fun x w' => x = .returned (.bool true) ∧ ∃ G', AllM w0 w' (L.set p ⟨b, G', e⟩) ∧ KeepL w w' L (L.set p ⟨b, G', e⟩) := by
  have A0 : Hid (AllM w0 w (L.set p ⟨b, G, m⟩)) := by unfold Hid; rw [set_same hp]; exact A
  have HP := Lib.hid hp
  have R0 := Lib.hid R
  subst hu
  have hk1 := wstop_kind
  have hk2 := wpsr_bank
  have K0 : Hid (KeepL w w L (L.set p ⟨b, G, m⟩)) := by unfold Hid; rw [set_same hp]; exact fun _ _ h => h
  clear A R hp
  go_enter Tryz.func27, Tryz.ntmps27
  go_wp2_with fail
  go_loopw [7] (fun i wr => ∃ (k n' : Nat) (G' : Nat → Prop) (m' : MS), k + n' ≤ M ∧ i = .int .i64 k ∧ AllM w0 wr (L.set p ⟨b, G', m'⟩) ∧ Runs t n' m' e ∧ m'.ol ≤ 1000 + k ∧ KeepL w wr L (L.set p ⟨b, G', m'⟩)) (fun i _ => M - (intOf i).toNat)
  case atStart => exact ⟨0, n, G, m, by omega, rfl, A0.out, R0.out, hol, K0.out⟩
  case round =>
    obtain ⟨k, n', G', m', hkn, rfl, A, R, hol, KP⟩ := hrel
    have A := Lib.hid A
    have KP := Lib.hid KP
    have hp := R.pos
    have hk60 : (k : Int) < M := by omega
    have O : Hid ((mstep m' 0).ol ≤ 1000 + (k + 1)) := by have := (mstep_chg m' 0).o1; unfold Hid; omega
    have HOL : Hid (m'.ol ≤ 1000000) := by unfold Hid; omega
    clear A0 R0 K0
    have HJ : Hid ((L.set p ⟨b, G', m'⟩)[p]? = some ⟨b, G', m'⟩) := set_at HP.out
    cases R with
    | last s p q =>
      have S := Lib.hid s
      have P := Lib.hid p
      have Q := Lib.hid q
      clear s p q
      go_wp2_with fail
      refine (all_step 0 A.out HJ.out (by decide) (by decide) HOL.out (fun _ _ _ => trivial) S.out rfl).mono ?_; rintro x w3 ⟨rfl, G3, A3, S3⟩
      rw [set_twice] at A3 S3
      have A3 := Lib.hid A3
      have J3 : Hid ((L.set p ⟨b, G3, mstep m' 0⟩)[p]? = some ⟨b, G3, mstep m' 0⟩) := set_at HP.out
      have K3 : Hid (KeepL w w3 L (L.set p ⟨b, G3, mstep m' 0⟩)) := fun x o h => S3 x o (KP.out x o h)
      clear A S3 KP
      go_wp2_with fail
      refine (pc_same A3.out J3.out P.out).mono ?_; rintro x w4 ⟨rfl, rfl⟩
      go_wp2_with fail
      refine (all_psr A3.out J3.out rfl rfl Q.out rfl).mono ?_; rintro x w5 ⟨rfl, A5, g5⟩
      have A5 := Lib.hid A5
      have K5 : Hid (KeepL w w5 L (L.set p ⟨b, G3, mstep m' 0⟩)) := fun x o h => (K3.out x o h).more g5
      clear A3 K3 g5
      go_wp2_with fail
      go_ret
      exact ⟨rfl, G3, A5.out, K5.out⟩
    | more s q r =>
      rename_i n2
      have S := Lib.hid s
      have Q := Lib.hid q
      have R := Lib.hid r
      clear s q r
      go_wp2_with fail
      refine (all_step 0 A.out HJ.out (by decide) (by decide) HOL.out (fun _ _ _ => trivial) S.out rfl).mono ?_; rintro x w3 ⟨rfl, G3, A3, S3⟩
      rw [set_twice] at A3 S3
      have A3 := Lib.hid A3
      have J3 : Hid ((L.set p ⟨b, G3, mstep m' 0⟩)[p]? = some ⟨b, G3, mstep m' 0⟩) := set_at HP.out
      have K3 : Hid (KeepL w w3 L (L.set p ⟨b, G3, mstep m' 0⟩)) := fun x o h => S3 x o (KP.out x o h)
      clear A S3 KP
      by_cases hpc : (mstep m' 0).pc = t
      · have hb := fun hh => Q.out ⟨hpc, hh⟩
        go_wp2_with fail
        refine (pc_same A3.out J3.out hpc).mono ?_; rintro x w4 ⟨rfl, rfl⟩
        clear hpc
        go_wp2_with fail
        refine (all_psr A3.out J3.out rfl rfl rfl rfl).mono ?_; rintro x w5 ⟨rfl, A5, g5⟩
        have A5 := Lib.hid A5
        have K5 : Hid (KeepL w w5 L (L.set p ⟨b, G3, mstep m' 0⟩)) := fun x o h => (K3.out x o h).more g5
        clear A3 K3 g5
        have hb' : ((mstep m' 0).bank == 0) = false := by simpa using hb
        obtain ⟨bk, hbk⟩ : ∃ bk, bk = (mstep m' 0).bank := ⟨_, rfl⟩
        rw [← hbk] at hb' ⊢
        have HBK := Lib.hid hbk
        clear hbk hb
        go_wp2_with fail
        go_roundw
        case rel => exact ⟨k + 1, n2, G3, _, by omega, by go_num, A5.out, R.out, O.out, K5.out⟩
        case measure => simp [intOf]; omega
      · have hpc' : ((mstep m' 0).pc == t) = false := by simpa using hpc
        go_wp2_with fail
        refine (pc_same A3.out J3.out rfl).mono ?_; rintro x w4 ⟨rfl, rfl⟩
        obtain ⟨pc, hpc2⟩ : ∃ pc, pc = (mstep m' 0).pc := ⟨_, rfl⟩
        rw [← hpc2] at hpc' ⊢
        have HPC := Lib.hid hpc2
        clear hpc2 hpc
        go_wp2_with fail
        go_roundw
        case rel => exact ⟨k + 1, n2, G3, _, by omega, by go_num, A3.out, R.out, O.out, K3.out⟩
        case measure => simp [intOf]; omega
end Go.Proofs.YtiobgnelhiadbaaGreatDoor.K6
