/- SwapTurns, SwapBack and SwapWords (layer 10): a machine that runs until it comes to a place. Package swap as it has landed: a list of pieces is appended. -/
import Derived.Test.YtiobgnelhiadbaaGreatDoorVWindGU
import Derived.Test.YtiobgnelhiadbaaGreatDoorVSwapGP
import Derived.Test.YtiobgnelhiadbaaGreatDoorVSwapGB
namespace Go.Proofs.YtiobgnelhiadbaaGreatDoor.K6
open Go.RowKit W8
set_option linter.unusedVariables false
theorem set_same {L : List ME} {j : Nat} {e : ME} (h : L[j]? = some e) : L.set j e = L := by
  apply List.ext_getElem?
  intro i
  rw [List.getElem?_set]
  split
  · rename_i hi
    subst hi
    obtain ⟨hl, he⟩ := List.getElem?_eq_some_iff.1 h
    rw [if_pos hl, h]
  · rfl
theorem set_at {L : List ME} {j : Nat} {e e' : ME} (h : L[j]? = some e) : (L.set j e')[j]? = some e' := by
  obtain ⟨hl, he⟩ := List.getElem?_eq_some_iff.1 h
  simp [hl]
theorem set_twice {L : List ME} {j : Nat} {e e' : ME} : (L.set j e).set j e' = L.set j e' := List.set_set ..
/-- What was none of the machines' is none of them yet. -/
def KeepL (w w' : World) (L L' : List ME) : Prop := ∀ x o, Spect w L x o → Spect w' L' x o
set_option maxRecDepth 100000 in
theorem runsZ_at {w0 w : World} {b : Nat} {G : Nat → Prop} {m e : MS} {t : Int} {n M : Nat} {L : List ME} {p : Nat} (A : AllM w0 w L) (hp : L[p]? = some ⟨b, G, m⟩) (R : Runs t n m e) (hn : n ≤ M) (hM : M ≤ 2000) (hol : m.ol ≤ 1000) (u : Int) (hu : u = (M : Int)) :
    Calls Tryz.prog 27 #[.pointer (some ⟨b, 0, none⟩), .int .u32 t, .int .i64 u] w fun x w' => x = .returned (.bool true) ∧ ∃ G', AllM w0 w' (L.set p ⟨b, G', e⟩) ∧ KeepL w w' L (L.set p ⟨b, G', e⟩) := by
  have A0 : Hid (AllM w0 w (L.set p ⟨b, G, m⟩)) := by unfold Hid; rw [set_same hp]; exact A
  have HP := Lib.hid hp
  have R0 := Lib.hid R
  subst hu
  have hk1 := wstop_kind
  have hk2 := wpsr_bank
  have K0 : Hid (KeepL w w L (L.set p ⟨b, G, m⟩)) := by unfold Hid; rw [set_same hp]; exact fun _ _ h => h
  clear A R hp
  go_enter Tryz.func27, Tryz.ntmps27
  go_wp2_with fail
  go_loopw [7] (fun i wr => ∃ (k n' : Nat) (G' : Nat → Prop) (m' : MS), k + n' ≤ M ∧ i = .int .i64 k ∧ AllM w0 wr (L.set p ⟨b, G', m'⟩) ∧ Runs t n' m' e ∧ m'.ol ≤ 1000 + k ∧ KeepL w wr L (L.set p ⟨b, G', m'⟩)) (fun i _ => M - (intOf i).toNat)
  case atStart => exact ⟨0, n, G, m, by omega, rfl, A0.out, R0.out, hol, K0.out⟩
  case round =>
    obtain ⟨k, n', G', m', hkn, rfl, A, R, hol, KP⟩ := hrel
    have A := Lib.hid A
    have KP := Lib.hid KP
    have hp := R.pos
    have hk60 : (k : Int) < M := by omega
    have O : Hid ((mstep m' 0).ol ≤ 1000 + (k + 1)) := by have := (mstep_chg m' 0).o1; unfold Hid; omega
    have HOL : Hid (m'.ol ≤ 1000000) := by unfold Hid; omega
    clear A0 R0 K0
    have HJ : Hid ((L.set p ⟨b, G', m'⟩)[p]? = some ⟨b, G', m'⟩) := set_at HP.out
    cases R with
    | last s p q =>
      have S := Lib.hid s
      have P := Lib.hid p
      have Q := Lib.hid q
      clear s p q
      go_wp2_with fail
      refine (all_step 0 A.out HJ.out (by decide) (by decide) HOL.out (fun _ _ _ => trivial) S.out rfl).mono ?_; rintro x w3 ⟨rfl, G3, A3, S3⟩
      rw [set_twice] at A3 S3
      have A3 := Lib.hid A3
      have J3 : Hid ((L.set p ⟨b, G3, mstep m' 0⟩)[p]? = some ⟨b, G3, mstep m' 0⟩) := set_at HP.out
      have K3 : Hid (KeepL w w3 L (L.set p ⟨b, G3, mstep m' 0⟩)) := fun x o h => S3 x o (KP.out x o h)
      clear A S3 KP
      go_wp2_with fail
      refine (pc_same A3.out J3.out P.out).mono ?_; rintro x w4 ⟨rfl, rfl⟩
      go_wp2_with fail
      refine (all_psr A3.out J3.out rfl rfl Q.out rfl).mono ?_; rintro x w5 ⟨rfl, A5, g5⟩
      have A5 := Lib.hid A5
      have K5 : Hid (KeepL w w5 L (L.set p ⟨b, G3, mstep m' 0⟩)) := fun x o h => (K3.out x o h).more g5
      clear A3 K3 g5
      go_wp2_with fail
      go_ret
      exact ⟨rfl, G3, A5.out, K5.out⟩
    | more s q r =>
      rename_i n2
      have S := Lib.hid s
      have Q := Lib.hid q
      have R := Lib.hid r
      clear s q r
      go_wp2_with fail
      refine (all_step 0 A.out HJ.out (by decide) (by decide) HOL.out (fun _ _ _ => trivial) S.out rfl).mono ?_; rintro x w3 ⟨rfl, G3, A3, S3⟩
      rw [set_twice] at A3 S3
      have A3 := Lib.hid A3
      have J3 : Hid ((L.set p ⟨b, G3, mstep m' 0⟩)[p]? = some ⟨b, G3, mstep m' 0⟩) := set_at HP.out
      have K3 : Hid (KeepL w w3 L (L.set p ⟨b, G3, mstep m' 0⟩)) := fun x o h => S3 x o (KP.out x o h)
      clear A S3 KP
      by_cases hpc : (mstep m' 0).pc = t
      · have hb := fun hh => Q.out ⟨hpc, hh⟩
        go_wp2_with fail
        refine (pc_same A3.out J3.out hpc).mono ?_; rintro x w4 ⟨rfl, rfl⟩
        clear hpc
        go_wp2_with fail
        refine (all_psr A3.out J3.out rfl rfl rfl rfl).mono ?_; rintro x w5 ⟨rfl, A5, g5⟩
        have A5 := Lib.hid A5
        have K5 : Hid (KeepL w w5 L (L.set p ⟨b, G3, mstep m' 0⟩)) := fun x o h => (K3.out x o h).more g5
        clear A3 K3 g5
        have hb' : ((mstep m' 0).bank == 0) = false := by simpa using hb
        obtain ⟨bk, hbk⟩ : ∃ bk, bk = (mstep m' 0).bank := ⟨_, rfl⟩
        rw [← hbk] at hb' ⊢
        have HBK := Lib.hid hbk
        clear hbk hb
        go_wp2_with fail
        go_roundw
        case rel => exact ⟨k + 1, n2, G3, _, by omega, by go_num, A5.out, R.out, O.out, K5.out⟩
        case measure => simp [intOf]; omega
      · have hpc' : ((mstep m' 0).pc == t) = false := by simpa using hpc
        go_wp2_with fail
        refine (pc_same A3.out J3.out rfl).mono ?_; rintro x w4 ⟨rfl, rfl⟩
        obtain ⟨pc, hpc2⟩ : ∃ pc, pc = (mstep m' 0).pc := ⟨_, rfl⟩
        rw [← hpc2] at hpc' ⊢
        have HPC := Lib.hid hpc2
        clear hpc2 hpc
        go_wp2_with fail
        go_roundw
        case rel => exact ⟨k + 1, n2, G3, _, by omega, by go_num, A3.out, R.out, O.out, K3.out⟩
        case measure => simp [intOf]; omega
end Go.Proofs.YtiobgnelhiadbaaGreatDoor.K6
namespace Go.Proofs.YtiobgnelhiadbaaGreatDoor.S10
open Go.RowKit
open A7 (XI XB AS AsmB Left Has NoAsm Ins)
open W8 (PartAt PartsAt catL gX frL)
set_option linter.unusedVariables false
theorem setCell_same {w : World} {x : Nat} {v : Value} {t : TypeId} {fr : Nat × Nat} (h : w.heap[x]? = some (.cells #[v] t fr)) : w.setCell ⟨x, 0, none⟩ v = w := by
  have e : (w.setCell ⟨x, 0, none⟩ v).heap = w.heap := by
    apply Array.ext_getElem?
    intro i
    by_cases hi : i = x
    · subst hi
      rw [h]
      simp [World.setCell, Array.getElem?_modify, h]
    · simp [World.setCell, Array.getElem?_modify]
      intro e
      exact absurd e.symm hi
  have e2 : w.setCell ⟨x, 0, none⟩ v = { w with heap := (w.setCell ⟨x, 0, none⟩ v).heap } := rfl
  rw [e2, e]
/-- The first pieces are done. -/
def doPs (p : Nat → Pc) (q : AS) : Nat → AS
  | 0 => q
  | k + 1 => doP (doPs p q k) (p k)
section
variable {w0 w w' : World} {b : Nat} {G G0 K : Nat → Prop} {q : AS}
set_option maxRecDepth 100000 in
set_option maxHeartbeats 4000000 in
theorem append_at {k c x bf ba : Nat} {B : Nat} {V : Nat → Value} {p : Nat → Pc} {tf ta : TypeId} (h : Has w w b G q) (hG : ∀ i, G i → i < B) (hx : B ≤ x) (hxc : ∀ i, i < k → w.cell? ⟨x, i, none⟩ = some (V i)) (hP : ∀ i, i < k → PieceAt w B (V i) (p i)) (hk : k ≤ 10) (hok : ∀ i, i < k → okP (doPs p q i) (p i))
    (nf : ¬ G bf) (na : ¬ G ba) (hf : w.heap[bf]? = some (.cells #[.int .i64 0] tf (0, 0))) (ha : w.heap[ba]? = some (.cells #[.pointer (some ⟨b, 0, none⟩)] ta (0, 0))) :
    Calls Tryz.prog 240 #[.slice (some ⟨x, 0, none⟩) k c, .pointer (some ⟨bf, 0, none⟩), .pointer (some ⟨ba, 0, none⟩)] w fun e w' => e = .returned (.int .i64 0) ∧ Has w w' b G (doPs p q k) := by
  have HP := Lib.hid hP
  have HC := Lib.hid hxc
  have HOK := Lib.hid hok
  have HH := Lib.hid h
  have HG := Lib.hid hG
  have NX : Hid (¬ G x) := fun e => absurd (hG x e) (Nat.not_lt.2 hx)
  have HF := Lib.hid (And.intro nf hf)
  have HA := Lib.hid (And.intro na ha)
  clear hP hxc hok h hG hx nf na hf ha
  go_enter Tryz.func240, Tryz.ntmps240
  go_wp2_with fail
  go_loopw [6, 9] (fun _ i wr => ∃ j : Nat, j ≤ k ∧ i = .int .i64 j ∧ Has w wr b G (doPs p q j)) (fun _ i _ => k - (intOf i).toNat)
  case atStart => exact ⟨0, Nat.zero_le _, rfl, HH.out⟩
  case round =>
    obtain ⟨j, hj, rfl, hw⟩ := hrel
    have HW := Lib.hid hw
    clear hw HH
    have T := HW.out.turns
    have hf := T.heap HF.out.1 HF.out.2
    have cf := row_cell hf (j := 0) rfl
    have ca := row_cell (T.heap HA.out.1 HA.out.2) (j := 0) rfl
    by_cases hlt : j < k
    · have cx := T.cell NX.out (HC.out j hlt)
      have PJ := (HP.out j hlt).turns T HG.out
      have OK := HOK.out j hlt
      have HD : Hid (doPs p q (j + 1) = doP (doPs p q j) (p j)) := rfl
      have HLT := Lib.hid hlt
      clear T hf
      cases hpj : p j with
      | put kk L =>
        rw [hpj] at PJ OK HD
        obtain ⟨bx, t, W, e, hb, hc, hp⟩ := PJ
        rw [e] at cx
        have C := Lib.hid (put1_at HW.out hc hp OK)
        clear hp hc OK e
        go_wp2_with fail
        refine C.out.mono ?_; rintro e w3 ⟨rfl, H3⟩
        have H3 := Lib.hid H3
        have hf3 := H3.out.turns.heap HF.out.1 HF.out.2
        have c3 := row_cell hf3 (j := 0) rfl
        have f3 : w3.frozen? ⟨bf, 0, none⟩ = false := row_frozen hf3
        have ES : Hid (w3.setCell ⟨bf, 0, none⟩ (.int .i64 0) = w3) := setCell_same hf3
        clear C cf ca cx hf3
        go_wp2_with fail
        rw [ES.out]
        go_roundw
        case rel => exact ⟨j + 1, HLT.out, by go_num, by rw [HD.out]; exact H3.out⟩
        case measure => have h9 := HLT.out; simp only [intOf]; omega
      | mk s =>
        rw [hpj] at PJ OK HD
        obtain ⟨bx, e, hb, hc⟩ := PJ
        rw [e] at cx
        have C := Lib.hid (mark1_at HW.out hc OK)
        clear hc OK e
        go_wp2_with fail
        refine C.out.mono ?_; rintro e w3 ⟨rfl, H3⟩
        have H3 := Lib.hid H3
        have hf3 := H3.out.turns.heap HF.out.1 HF.out.2
        have c3 := row_cell hf3 (j := 0) rfl
        have f3 : w3.frozen? ⟨bf, 0, none⟩ = false := row_frozen hf3
        have ES : Hid (w3.setCell ⟨bf, 0, none⟩ (.int .i64 0) = w3) := setCell_same hf3
        clear C cf ca cx hf3
        go_wp2_with fail
        rw [ES.out]
        go_roundw
        case rel => exact ⟨j + 1, HLT.out, by go_num, by rw [HD.out]; exact H3.out⟩
        case measure => have h9 := HLT.out; simp only [intOf]; omega
      | jp cc s =>
        rw [hpj] at PJ OK HD
        obtain ⟨bc, bs, e, h1, h2, h3, h4⟩ := PJ
        rw [e] at cx
        have C := Lib.hid (jump1_at HW.out h3 h4 OK)
        clear h3 h4 OK e
        go_wp2_with fail
        refine C.out.mono ?_; rintro e w3 ⟨rfl, H3⟩
        have H3 := Lib.hid H3
        have hf3 := H3.out.turns.heap HF.out.1 HF.out.2
        have c3 := row_cell hf3 (j := 0) rfl
        have f3 : w3.frozen? ⟨bf, 0, none⟩ = false := row_frozen hf3
        have ES : Hid (w3.setCell ⟨bf, 0, none⟩ (.int .i64 0) = w3) := setCell_same hf3
        clear C cf ca cx hf3
        go_wp2_with fail
        rw [ES.out]
        go_roundw
        case rel => exact ⟨j + 1, HLT.out, by go_num, by rw [HD.out]; exact H3.out⟩
        case measure => have h9 := HLT.out; simp only [intOf]; omega
      | st =>
        rw [hpj] at PJ OK HD
        have e : V j = _ := PJ
        rw [e] at cx
        have C := Lib.hid (Store_at HW.out OK)
        clear OK e
        go_wp2_with fail
        refine C.out.mono ?_; rintro e w3 ⟨rfl, H3⟩
        have H3 := Lib.hid H3
        have hf3 := H3.out.turns.heap HF.out.1 HF.out.2
        have c3 := row_cell hf3 (j := 0) rfl
        have f3 : w3.frozen? ⟨bf, 0, none⟩ = false := row_frozen hf3
        have ES : Hid (w3.setCell ⟨bf, 0, none⟩ (.int .i64 0) = w3) := setCell_same hf3
        clear C cf ca cx hf3
        go_wp2_with fail
        rw [ES.out]
        go_roundw
        case rel => exact ⟨j + 1, HLT.out, by go_num, by rw [HD.out]; exact H3.out⟩
        case measure => have h9 := HLT.out; simp only [intOf]; omega
      | ld =>
        rw [hpj] at PJ OK HD
        have e : V j = _ := PJ
        rw [e] at cx
        have C := Lib.hid (Load_at HW.out OK)
        clear OK e
        go_wp2_with fail
        refine C.out.mono ?_; rintro e w3 ⟨rfl, H3⟩
        have H3 := Lib.hid H3
        have hf3 := H3.out.turns.heap HF.out.1 HF.out.2
        have c3 := row_cell hf3 (j := 0) rfl
        have f3 : w3.frozen? ⟨bf, 0, none⟩ = false := row_frozen hf3
        have ES : Hid (w3.setCell ⟨bf, 0, none⟩ (.int .i64 0) = w3) := setCell_same hf3
        clear C cf ca cx hf3
        go_wp2_with fail
        rw [ES.out]
        go_roundw
        case rel => exact ⟨j + 1, HLT.out, by go_num, by rw [HD.out]; exact H3.out⟩
        case measure => have h9 := HLT.out; simp only [intOf]; omega
    · obtain rfl : j = k := by omega
      clear T hf
      go_wp2_with fail
      go_ret
      exact ⟨rfl, HW.out⟩
end
end Go.Proofs.YtiobgnelhiadbaaGreatDoor.S10
