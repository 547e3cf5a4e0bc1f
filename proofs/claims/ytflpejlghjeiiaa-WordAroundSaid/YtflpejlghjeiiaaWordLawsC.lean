/- The walk of layer 1's statement WordAround: it returns true; memory has at most new blocks. -/
import Derived.Test.YtflpejlghjeiiaaWordLaws
import Derived.Test.YtflpejlghjeiiaaWordMathB
namespace Go.Proofs.Ytflpejlghjeiiaa
open Go.RowKit
set_option linter.unusedVariables false
theorem grown_cell {w w' : World} (h : Grown w w') {b j : Nat} {v : Value} (hc : w.cell? ⟨b, j, none⟩ = some v) : w'.cell? ⟨b, j, none⟩ = some v := by
  have hb : b < w.heap.size := block_lt_of_cell hc
  obtain ⟨⟨_, _, h3⟩, _, _⟩ := h
  have := h3 b hb
  unfold World.cell? at hc ⊢
  simp only at hc ⊢
  cases h1 : w.heap[b]? with
  | none => rw [h1] at hc; simp at hc
  | some o =>
    cases o with
    | cells c t fr =>
      rw [h1] at hc this
      cases h2 : w'.heap[b]? with
      | none => rw [h2] at this; simp at this
      | some o' =>
        rw [h2] at this
        cases o' with
        | cells c' t' fr' =>
          simp only at this hc ⊢
          have hj := this.2.2.2 j (by simp)
          simp only [Option.isSome_none] at hc ⊢
          simpa [hj] using hc
        | _ => simp at this
    | _ => rw [h1] at hc; simp at hc
def opl : List Int := [0, 2, 5, 6, 7, 13]
theorem opl_ok (k : Nat) (h : k < 5) : (opl.getD k 0 = 0 ∨ opl.getD k 0 = 2 ∨ opl.getD k 0 = 5 ∨ opl.getD k 0 = 6 ∨ opl.getD k 0 = 7) := by
  rcases (by omega : k = 0 ∨ k = 1 ∨ k = 2 ∨ k = 3 ∨ k = 4) with rfl | rfl | rfl | rfl | rfl <;> decide
set_option maxHeartbeats 4000000 in
set_option maxRecDepth 100000 in
theorem wordAround_walk (a b c : Int) (w1 : (Lit.int .u32 a).wf = true) (w2 : (Lit.int .u32 b).wf = true) (w3 : (Lit.int .u32 c).wf = true) (w : World) :
    Calls Try.prog 8 #[.int .u32 a, .int .u32 b, .int .u32 c] w fun e w' => e = .returned (.bool true) ∧ Grown w w' := by
  have ha := wf_u32_bd w1
  have hb := wf_u32_bd w2
  have hc := wf_u32_bd w3
  clear w1 w2 w3
  have hp := pow32 (b % 32).toNat (by omega)
  go_enter Try.func8, Try.ntmps8
  go_wp2
  have H0 : Hid (∀ k, k < 6 → (w.alloc (.cells #[.int .u8 0, .int .u8 2, .int .u8 5, .int .u8 6, .int .u8 7, .int .u8 13] 5)).cell? ⟨w.heap.size, k, none⟩ = some (.int .u8 (opl.getD k 0))) := by
    intro k hk
    rw [cell_of_row _ _ _ _ _ _ (heap_alloc_last _ _)]
    rcases (by omega : k = 0 ∨ k = 1 ∨ k = 2 ∨ k = 3 ∨ k = 4 ∨ k = 5) with rfl | rfl | rfl | rfl | rfl | rfl <;> rfl
  have G0 : Grown w (w.alloc (.cells #[.int .u8 0, .int .u8 2, .int .u8 5, .int .u8 6, .int .u8 7, .int .u8 13] 5)) := (Grown.refl w).alloc _ _
  generalize w.alloc (.cells #[.int .u8 0, .int .u8 2, .int .u8 5, .int .u8 6, .int .u8 7, .int .u8 13] 5) = v at *
  go_loopw [8] (fun i wr => ∃ k : Nat, k ≤ 6 ∧ i = .int .i64 (k : Int) ∧ Grown v wr) (fun i _ => 6 - (intOf i).toNat)
  case atStart => exact ⟨0, by decide, rfl, Grown.refl _⟩
  case round =>
    obtain ⟨k, hk, rfl, hg⟩ := hrel
    by_cases h6 : k = 6
    · subst h6
      have HM : Hid (dv 2 a (2 ^ (b % 32).toNat) = dv 8 a b) := mul_shift a b
      have hp2 : (0 : Int) ≤ 2 ^ (b % 32).toNat ∧ (2 : Int) ^ (b % 32).toNat < 4294967296 := by omega
      go_wp2_with fail
      refine (do_is 2 a _ (dv 8 a b) true _ (by decide) ha hp2 HM.out (by rfl)).mono ?_; rintro e x1 ⟨rfl, g1⟩
      go_wp2_with fail
      refine (do_is 8 a b (dv 8 a b) true _ (by decide) ha hb rfl (by rfl)).mono ?_; rintro e x2 ⟨rfl, g2⟩
      go_wp2_with fail
      refine (head_any _).mono ?_; rintro e x3 ⟨rfl, g3⟩
      go_wp2
      go_ret
      exact ⟨rfl, grown_trans G0 (grown_trans (grown_trans (grown_trans hg g1) g2) g3)⟩
    by_cases h5 : k = 5
    · subst h5
      have hcell := grown_cell hg (H0.out 5 (by decide))
      have hcomm : Hid (dv 13 b a = dv 13 a b) := around_comm 13 a b (by decide) ha hb
      rw [show opl.getD 5 0 = 13 by rfl] at hcell
      go_wp2_with fail
      refine (do_is 13 a b _ true _ (by decide) ha hb rfl (by rfl)).mono ?_; rintro e x1 ⟨rfl, g1⟩
      have hcell1 := grown_cell g1 hcell
      go_wp2_with fail
      refine (do_is 13 b a (dv 13 a b) true _ (by decide) hb ha hcomm.out (by rfl)).mono ?_; rintro e x2 ⟨rfl, g2⟩
      have hcell2 := grown_cell g2 hcell1
      go_wp2_with fail
      refine ⟨⟨6, by decide, rfl, grown_trans (grown_trans hg g1) g2⟩, ?_⟩
      simp [intOf]
    · have hk5 : k < 5 := by omega
      have hcell := grown_cell hg (H0.out k (by omega))
      have hop := opl_ok k hk5
      generalize hx : opl.getD k 0 = op at *
      have ho : 0 ≤ op ∧ op ≤ 255 := by omega
      have h13 : (op == 13) = false := by simp; omega
      have hcomm : Hid (dv op b a = dv op a b) := around_comm op a b (by omega) ha hb
      have hass : Hid (dv op a (dv op b c) = dv op (dv op a b) c) := around_assoc op a b c hop ha hb hc
      have bab := dv_bd op a b ha
      have bbc := dv_bd op b c hb
      have hlt : k < 6 := by omega
      clear hx hop h6 h5
      go_wp2_with fail
      refine (do_any op a b _ ho ha hb).mono ?_; rintro e x1 ⟨rfl, g1⟩
      have hcell1 := grown_cell g1 hcell
      go_wp2_with fail
      refine (do_is op b a (dv op a b) _ _ ho hb ha hcomm.out rfl).mono ?_; rintro e x2 ⟨rfl, g2⟩
      have hcell2 := grown_cell g2 hcell1
      go_wp2_with fail
      refine (do_any op (dv op a b) c _ ho bab hc).mono ?_; rintro e x3 ⟨rfl, g3⟩
      have hcell3 := grown_cell g3 hcell2
      go_wp2_with fail
      refine (do_any op b c _ ho hb hc).mono ?_; rintro e x4 ⟨rfl, g4⟩
      have hcell4 := grown_cell g4 hcell3
      go_wp2_with fail
      refine (do_is op a (dv op b c) (dv op (dv op a b) c) _ _ ho ha bbc hass.out rfl).mono ?_; rintro e x5 ⟨rfl, g5⟩
      go_wp2_with fail
      refine ⟨⟨k + 1, by omega, rfl, grown_trans (grown_trans (grown_trans (grown_trans (grown_trans hg g1) g2) g3) g4) g5⟩, ?_⟩
      simp [intOf]; omega
end Go.Proofs.Ytflpejlghjeiiaa
