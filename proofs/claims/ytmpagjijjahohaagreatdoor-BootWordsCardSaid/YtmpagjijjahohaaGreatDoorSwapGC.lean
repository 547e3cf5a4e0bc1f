/- Package swap as it has landed: a list of pieces is appended. -/
import Derived.Test.YtmpagjijjahohaaGreatDoorSwapGB
namespace Go.Proofs.YtmpagjijjahohaaGreatDoor.S10
open Go.RowKit
open A7 (XI XB AS AsmB Left Has NoAsm Ins)
open W8 (PartAt PartsAt catL gX frL)
set_option linter.unusedVariables false
theorem setCell_same {w : World} {x : Nat} {v : Value} {t : TypeId} {fr : Nat × Nat} (h : w.heap[x]? = some (.cells #[v] t fr)) : w.setCell ⟨x, 0, none⟩ v = w := by
  have e : (w.setCell ⟨x, 0, none⟩ v).heap = w.heap := by
    apply Array.ext_getElem?
    intro i
    by_cases hi : i = x
    · subst hi
      rw [h]
      simp [World.setCell, Array.getElem?_modify, h]
    · simp [World.setCell, Array.getElem?_modify]
      intro e
      exact absurd e.symm hi
  have e2 : w.setCell ⟨x, 0, none⟩ v = { w with heap := (w.setCell ⟨x, 0, none⟩ v).heap } := rfl
  rw [e2, e]
/-- The first pieces are done. -/
def doPs (p : Nat → Pc) (q : AS) : Nat → AS
  | 0 => q
  | k + 1 => doP (doPs p q k) (p k)
section
variable {w0 w w' : World} {b : Nat} {G G0 K : Nat → Prop} {q : AS}
set_option maxRecDepth 100000 in
set_option maxHeartbeats 4000000 in
theorem append_at {k c x bf ba : Nat} {B : Nat} {V : Nat → Value} {p : Nat → Pc} {tf ta : TypeId} (h : Has w w b G q) (hG : ∀ i, G i → i < B) (hx : B ≤ x) (hxc : ∀ i, i < k → w.cell? ⟨x, i, none⟩ = some (V i)) (hP : ∀ i, i < k → PieceAt w B (V i) (p i)) (hk : k ≤ 10) (hok : ∀ i, i < k → okP (doPs p q i) (p i))
    (nf : ¬ G bf) (na : ¬ G ba) (hf : w.heap[bf]? = some (.cells #[.int .i64 0] tf (0, 0))) (ha : w.heap[ba]? = some (.cells #[.pointer (some ⟨b, 0, none⟩)] ta (0, 0))) :
    Calls Tryz.prog 359 #[.slice (some ⟨x, 0, none⟩) k c, .pointer (some ⟨bf, 0, none⟩), .pointer (some ⟨ba, 0, none⟩)] w fun e w' => e = .returned (.int .i64 0) ∧ Has w w' b G (doPs p q k) := by
  have HP := Lib.hid hP
  have HC := Lib.hid hxc
  have HOK := Lib.hid hok
  have HH := Lib.hid h
  have HG := Lib.hid hG
  have NX : Hid (¬ G x) := fun e => absurd (hG x e) (Nat.not_lt.2 hx)
  have HF := Lib.hid (And.intro nf hf)
  have HA := Lib.hid (And.intro na ha)
  clear hP hxc hok h hG hx nf na hf ha
  go_enter Tryz.func359, Tryz.ntmps359
  go_wp2_with fail
  go_loopw [6, 9] (fun _ i wr => ∃ j : Nat, j ≤ k ∧ i = .int .i64 j ∧ Has w wr b G (doPs p q j)) (fun _ i _ => k - (intOf i).toNat)
  case atStart => exact ⟨0, Nat.zero_le _, rfl, HH.out⟩
  case round =>
    obtain ⟨j, hj, rfl, hw⟩ := hrel
    have HW := Lib.hid hw
    clear hw HH
    have T := HW.out.turns
    have hf := T.heap HF.out.1 HF.out.2
    have cf := row_cell hf (j := 0) rfl
    have ca := row_cell (T.heap HA.out.1 HA.out.2) (j := 0) rfl
    by_cases hlt : j < k
    · have cx := T.cell NX.out (HC.out j hlt)
      have PJ := (HP.out j hlt).turns T HG.out
      have OK := HOK.out j hlt
      have HD : Hid (doPs p q (j + 1) = doP (doPs p q j) (p j)) := rfl
      have HLT := Lib.hid hlt
      clear T hf
      cases hpj : p j with
      | put kk L =>
        rw [hpj] at PJ OK HD
        obtain ⟨bx, t, W, e, hb, hc, hp⟩ := PJ
        rw [e] at cx
        have C := Lib.hid (put1_at HW.out hc hp OK)
        clear hp hc OK e
        go_wp2_with fail
        refine C.out.mono ?_; rintro e w3 ⟨rfl, H3⟩
        have H3 := Lib.hid H3
        have hf3 := H3.out.turns.heap HF.out.1 HF.out.2
        have c3 := row_cell hf3 (j := 0) rfl
        have f3 : w3.frozen? ⟨bf, 0, none⟩ = false := row_frozen hf3
        have ES : Hid (w3.setCell ⟨bf, 0, none⟩ (.int .i64 0) = w3) := setCell_same hf3
        clear C cf ca cx hf3
        go_wp2_with fail
        rw [ES.out]
        go_roundw
        case rel => exact ⟨j + 1, HLT.out, by go_num, by rw [HD.out]; exact H3.out⟩
        case measure => have h9 := HLT.out; simp only [intOf]; omega
      | mk s =>
        rw [hpj] at PJ OK HD
        obtain ⟨bx, e, hb, hc⟩ := PJ
        rw [e] at cx
        have C := Lib.hid (mark1_at HW.out hc OK)
        clear hc OK e
        go_wp2_with fail
        refine C.out.mono ?_; rintro e w3 ⟨rfl, H3⟩
        have H3 := Lib.hid H3
        have hf3 := H3.out.turns.heap HF.out.1 HF.out.2
        have c3 := row_cell hf3 (j := 0) rfl
        have f3 : w3.frozen? ⟨bf, 0, none⟩ = false := row_frozen hf3
        have ES : Hid (w3.setCell ⟨bf, 0, none⟩ (.int .i64 0) = w3) := setCell_same hf3
        clear C cf ca cx hf3
        go_wp2_with fail
        rw [ES.out]
        go_roundw
        case rel => exact ⟨j + 1, HLT.out, by go_num, by rw [HD.out]; exact H3.out⟩
        case measure => have h9 := HLT.out; simp only [intOf]; omega
      | jp cc s =>
        rw [hpj] at PJ OK HD
        obtain ⟨bc, bs, e, h1, h2, h3, h4⟩ := PJ
        rw [e] at cx
        have C := Lib.hid (jump1_at HW.out h3 h4 OK)
        clear h3 h4 OK e
        go_wp2_with fail
        refine C.out.mono ?_; rintro e w3 ⟨rfl, H3⟩
        have H3 := Lib.hid H3
        have hf3 := H3.out.turns.heap HF.out.1 HF.out.2
        have c3 := row_cell hf3 (j := 0) rfl
        have f3 : w3.frozen? ⟨bf, 0, none⟩ = false := row_frozen hf3
        have ES : Hid (w3.setCell ⟨bf, 0, none⟩ (.int .i64 0) = w3) := setCell_same hf3
        clear C cf ca cx hf3
        go_wp2_with fail
        rw [ES.out]
        go_roundw
        case rel => exact ⟨j + 1, HLT.out, by go_num, by rw [HD.out]; exact H3.out⟩
        case measure => have h9 := HLT.out; simp only [intOf]; omega
      | st =>
        rw [hpj] at PJ OK HD
        have e : V j = _ := PJ
        rw [e] at cx
        have C := Lib.hid (Store_at HW.out OK)
        clear OK e
        go_wp2_with fail
        refine C.out.mono ?_; rintro e w3 ⟨rfl, H3⟩
        have H3 := Lib.hid H3
        have hf3 := H3.out.turns.heap HF.out.1 HF.out.2
        have c3 := row_cell hf3 (j := 0) rfl
        have f3 : w3.frozen? ⟨bf, 0, none⟩ = false := row_frozen hf3
        have ES : Hid (w3.setCell ⟨bf, 0, none⟩ (.int .i64 0) = w3) := setCell_same hf3
        clear C cf ca cx hf3
        go_wp2_with fail
        rw [ES.out]
        go_roundw
        case rel => exact ⟨j + 1, HLT.out, by go_num, by rw [HD.out]; exact H3.out⟩
        case measure => have h9 := HLT.out; simp only [intOf]; omega
      | ld =>
        rw [hpj] at PJ OK HD
        have e : V j = _ := PJ
        rw [e] at cx
        have C := Lib.hid (Load_at HW.out OK)
        clear OK e
        go_wp2_with fail
        refine C.out.mono ?_; rintro e w3 ⟨rfl, H3⟩
        have H3 := Lib.hid H3
        have hf3 := H3.out.turns.heap HF.out.1 HF.out.2
        have c3 := row_cell hf3 (j := 0) rfl
        have f3 : w3.frozen? ⟨bf, 0, none⟩ = false := row_frozen hf3
        have ES : Hid (w3.setCell ⟨bf, 0, none⟩ (.int .i64 0) = w3) := setCell_same hf3
        clear C cf ca cx hf3
        go_wp2_with fail
        rw [ES.out]
        go_roundw
        case rel => exact ⟨j + 1, HLT.out, by go_num, by rw [HD.out]; exact H3.out⟩
        case measure => have h9 := HLT.out; simp only [intOf]; omega
    · obtain rfl : j = k := by omega
      clear T hf
      go_wp2_with fail
      go_ret
      exact ⟨rfl, HW.out⟩
end
end Go.Proofs.YtmpagjijjahohaaGreatDoor.S10
