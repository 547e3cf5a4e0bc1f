/- WindTurns and WindBack (layer 8): a machine that runs until it comes to a place. -/
import Derived.Test.YtlmaikbnjdmhcaaGreatDoorTuO
import Derived.Test.YtlmaikbnjdmhcaaGreatDoorTuJ
import Derived.Test.YtlmaikbnjdmhcaaGreatDoorMachGL
namespace Go.Proofs.YtlmaikbnjdmhcaaGreatDoor.K6
open Go.RowKit W8
set_option linter.unusedVariables false
theorem wstop_kind (k v : Int) (W : World) : Sem.run Tryz.prog (Instr.field 37 (.agg #[.int .u8 k, .int .u32 v]) 0) W = .ok (.int .u8 k) W := by kernel_rfl
theorem wpsr_bank (c p k f : Int) (W : World) : Sem.run Tryz.prog (Instr.field 24 (.agg #[.int .u8 c, .int .u8 p, .int .u8 k, .int .u8 f]) 2) W = .ok (.int .u8 k) W := by kernel_rfl
theorem wpsr_cwp (c p k f : Int) (W : World) : Sem.run Tryz.prog (Instr.field 24 (.agg #[.int .u8 c, .int .u8 p, .int .u8 k, .int .u8 f]) 0) W = .ok (.int .u8 c) W := by kernel_rfl
theorem Runs.pos {t : Int} {n : Nat} {m e : MS} (h : Runs t n m e) : 0 < n := by cases h <;> omega
theorem pc_same {a w : World} {L : List ME} {j : Nat} {b : Nat} {G : Nat → Prop} {m : MS} (h : AllM a w L) (hj : L[j]? = some ⟨b, G, m⟩) {v : Int} (hv : m.pc = v) :
    Calls Tryz.prog 26 #[.pointer (some ⟨b, 0, none⟩)] w fun e w' => e = .returned (.int .u32 v) ∧ w' = w := by
  obtain ⟨fb, mb, g, x, cs, os, P⟩ := h.at' j _ hj
  rw [← hv]
  exact (PC_get P).mono fun e w' ⟨e1, e2⟩ => ⟨e1, e2.symm⟩
/-- What was none of a machine's is none of it yet. -/
def Keep (w w' : World) (b : Nat) (G G' : Nat → Prop) (m m' : MS) : Prop := ∀ x o, Spect w [⟨b, G, m⟩] x o → Spect w' [⟨b, G', m'⟩] x o
theorem Keep.refl (w : World) (b : Nat) (G : Nat → Prop) (m : MS) : Keep w w b G G m m := fun _ _ h => h
theorem Keep.trans {w w' w'' : World} {b : Nat} {G G' G'' : Nat → Prop} {m m' m'' : MS} (h : Keep w w' b G G' m m') (k : Keep w' w'' b G' G'' m' m'') : Keep w w'' b G G'' m m'' := fun x o s => k x o (h x o s)
theorem Keep.more {w w' w'' : World} {b : Nat} {G G' : Nat → Prop} {m m' : MS} (h : Keep w w' b G G' m m') (k : Below w'.heap.size w' w'') : Keep w w'' b G G' m m' := fun x o s => (h x o s).more k
set_option maxRecDepth 100000 in
theorem runs_at {w0 w : World} {b : Nat} {G : Nat → Prop} {m e : MS} {t : Int} {n : Nat} (A : AllM w0 w [⟨b, G, m⟩]) (R : Runs t n m e) (hn : n ≤ 60) (hol : m.ol ≤ 1000) :
    Calls Tryz.prog 33 #[.pointer (some ⟨b, 0, none⟩), .int .u32 t, .int .i64 60] w fun x w' => x = .returned (.bool true) ∧ ∃ G', AllM w0 w' [⟨b, G', e⟩] ∧ Keep w w' b G G' m e := by
  have A0 := Lib.hid A
  have R0 := Lib.hid R
  have hk1 := wstop_kind
  have hk2 := wpsr_bank
  clear A R
  go_enter Tryz.func33, Tryz.ntmps33
  go_wp2_with fail
  go_loopw [7] (fun i wr => ∃ (k n' : Nat) (G' : Nat → Prop) (m' : MS), k + n' ≤ 60 ∧ i = .int .i64 k ∧ AllM w0 wr [⟨b, G', m'⟩] ∧ Runs t n' m' e ∧ m'.ol ≤ 1000 + k ∧ Keep w wr b G G' m m') (fun i _ => 60 - (intOf i).toNat)
  case atStart => exact ⟨0, n, G, m, by omega, rfl, A0.out, R0.out, hol, Keep.refl _ _ _ _⟩
  case round =>
    obtain ⟨k, n', G', m', hkn, rfl, A, R, hol, KP⟩ := hrel
    have A := Lib.hid A
    have KP := Lib.hid KP
    have hp := R.pos
    have hk60 : (k : Int) < 60 := by omega
    have O : Hid ((mstep m' 0).ol ≤ 1000 + (k + 1)) := by have := (mstep_chg m' 0).o1; unfold Hid; omega
    have HOL : Hid (m'.ol ≤ 1000000) := by unfold Hid; omega
    clear A0 R0
    cases R with
    | last s p q =>
      have S := Lib.hid s
      have P := Lib.hid p
      have Q := Lib.hid q
      clear s p q
      go_wp2_with fail
      refine (all_step 0 A.out (j := 0) rfl (by decide) (by decide) HOL.out (fun _ _ _ => trivial) S.out rfl).mono ?_; rintro x w3 ⟨rfl, G3, A3, S3⟩
      have A3 : Hid (AllM w0 w3 [⟨b, G3, mstep m' 0⟩]) := A3
      have K3 : Hid (Keep w w3 b G G3 m (mstep m' 0)) := KP.out.trans S3
      clear A S3 KP
      go_wp2_with fail
      refine (pc_same A3.out (j := 0) rfl P.out).mono ?_; rintro x w4 ⟨rfl, rfl⟩
      go_wp2_with fail
      refine (all_psr A3.out (j := 0) rfl rfl rfl Q.out rfl).mono ?_; rintro x w5 ⟨rfl, A5, g5⟩
      have A5 := Lib.hid A5
      have K5 := Lib.hid (K3.out.more g5)
      clear A3 K3 g5
      go_wp2_with fail
      go_ret
      exact ⟨rfl, G3, A5.out, K5.out⟩
    | more s q r =>
      rename_i n2
      have S := Lib.hid s
      have Q := Lib.hid q
      have R := Lib.hid r
      clear s q r
      go_wp2_with fail
      refine (all_step 0 A.out (j := 0) rfl (by decide) (by decide) HOL.out (fun _ _ _ => trivial) S.out rfl).mono ?_; rintro x w3 ⟨rfl, G3, A3, S3⟩
      have A3 : Hid (AllM w0 w3 [⟨b, G3, mstep m' 0⟩]) := A3
      have K3 : Hid (Keep w w3 b G G3 m (mstep m' 0)) := KP.out.trans S3
      clear A S3 KP
      by_cases hpc : (mstep m' 0).pc = t
      · have hb := fun hh => Q.out ⟨hpc, hh⟩
        go_wp2_with fail
        refine (pc_same A3.out (j := 0) rfl hpc).mono ?_; rintro x w4 ⟨rfl, rfl⟩
        clear hpc
        go_wp2_with fail
        refine (all_psr A3.out (j := 0) rfl rfl rfl rfl rfl).mono ?_; rintro x w5 ⟨rfl, A5, g5⟩
        have A5 := Lib.hid A5
        have K5 := Lib.hid (K3.out.more g5)
        clear A3 K3 g5
        have hb' : ((mstep m' 0).bank == 0) = false := by simpa using hb
        obtain ⟨bk, hbk⟩ : ∃ bk, bk = (mstep m' 0).bank := ⟨_, rfl⟩
        rw [← hbk] at hb' ⊢
        have HBK := Lib.hid hbk
        clear hbk hb
        go_wp2_with fail
        go_roundw
        case rel => exact ⟨k + 1, n2, G3, _, by omega, by go_num, A5.out, R.out, O.out, K5.out⟩
        case measure => simp [intOf]; omega
      · have hpc' : ((mstep m' 0).pc == t) = false := by simpa using hpc
        go_wp2_with fail
        refine (pc_same A3.out (j := 0) rfl rfl).mono ?_; rintro x w4 ⟨rfl, rfl⟩
        obtain ⟨pc, hpc2⟩ : ∃ pc, pc = (mstep m' 0).pc := ⟨_, rfl⟩
        rw [← hpc2] at hpc' ⊢
        have HPC := Lib.hid hpc2
        clear hpc2 hpc
        go_wp2_with fail
        go_roundw
        case rel => exact ⟨k + 1, n2, G3, _, by omega, by go_num, A3.out, R.out, O.out, K3.out⟩
        case measure => simp [intOf]; omega
end Go.Proofs.YtlmaikbnjdmhcaaGreatDoor.K6
