/- The walks of layer 1's statements WordDoes, WordFlags and WordConds: each returns true; memory has at most new blocks. -/
import Derived.Test.YtflpejlghjeiiaaWordHead
namespace Go.Proofs.Ytflpejlghjeiiaa
open Go.RowKit
set_option linter.unusedVariables false
theorem wf_u32_bd {a : Int} (h : (Lit.int .u32 a).wf = true) : 0 ≤ a ∧ a < 4294967296 := by
  have := bounds_u32 h
  omega
theorem wf_u8_bd {a : Int} (h : (Lit.int .u8 a).wf = true) : 0 ≤ a ∧ a ≤ 255 := bounds_u8 h
set_option maxHeartbeats 1000000 in
theorem wordDoes_walk (op a b : Int) (w0 : (Lit.int .u8 op).wf = true) (w1 : (Lit.int .u32 a).wf = true) (w2 : (Lit.int .u32 b).wf = true) (w : World) :
    Calls Try.prog 3 #[.int .u8 op, .int .u32 a, .int .u32 b] w fun e w' => e = .returned (.bool true) ∧ Grown w w' := by
  have ho := wf_u8_bd w0
  have ha := wf_u32_bd w1
  have hb := wf_u32_bd w2
  clear w0 w1 w2
  have hm : 0 ≤ op % 14 ∧ op % 14 ≤ 255 := by omega
  go_enter Try.func3, Try.ntmps3
  go_wp2_with fail
  refine (do_any _ _ _ _ ho ha hb).mono ?_; rintro e x1 ⟨rfl, g1⟩
  go_wp2_with fail
  refine (rdo_any _ _ _ _ ho ha hb).mono ?_; rintro e _ ⟨rfl, rfl⟩
  go_wp2_with fail
  refine (do_any _ _ _ _ hm ha hb).mono ?_; rintro e x2 ⟨rfl, g2⟩
  go_wp2_with fail
  refine (rdo_any _ _ _ _ hm ha hb).mono ?_; rintro e _ ⟨rfl, rfl⟩
  go_wp2_with fail
  refine (head_any _).mono ?_; rintro e x3 ⟨rfl, g3⟩
  go_wp2
  go_ret
  exact ⟨rfl, grown_trans (grown_trans g1 g2) g3⟩
theorem bits_u8_bd (op : BinOp) (a b : Int) : 0 ≤ bits op .u8 a b ∧ bits op .u8 a b ≤ 255 := by
  unfold bits
  rw [IntKind.wrap_u8']
  omega
set_option maxHeartbeats 1000000 in
theorem wordFlags_walk (c a b : Int) (w0 : (Lit.int .u8 c).wf = true) (w1 : (Lit.int .u32 a).wf = true) (w2 : (Lit.int .u32 b).wf = true) (w : World) :
    Calls Try.prog 4 #[.int .u8 c, .int .u32 a, .int .u32 b] w fun e w' => e = .returned (.bool true) ∧ Grown w w' := by
  have ho := wf_u8_bd w0
  have ha := wf_u32_bd w1
  have hb := wf_u32_bd w2
  clear w0 w1 w2
  have hm : 0 ≤ c % 7 ∧ c % 7 ≤ 255 := by omega
  have hf : 0 ≤ fl a b ∧ fl a b ≤ 255 := by have := fl_bd a b; omega
  have hx := bits_u8_bd .xor c (a % 256)
  go_enter Try.func4, Try.ntmps4
  go_wp2_with fail
  refine (flags_any _ _ _ ha hb).mono ?_; rintro e x1 ⟨rfl, g1⟩
  go_wp2_with fail
  refine (rflags_any _ _ _ ha hb).mono ?_; rintro e _ ⟨rfl, rfl⟩
  go_wp2_with fail
  refine (holds_any _ _ _ ho hf).mono ?_; rintro e _ ⟨rfl, rfl⟩
  go_wp2_with fail
  refine (rholds_any _ _ _ ho hf).mono ?_; rintro e _ ⟨rfl, rfl⟩
  go_wp2_with fail
  refine (holds_any _ _ _ hm hx).mono ?_; rintro e _ ⟨rfl, rfl⟩
  go_wp2_with fail
  refine (rholds_any _ _ _ hm hx).mono ?_; rintro e _ ⟨rfl, rfl⟩
  go_wp2_with fail
  refine (head_any _).mono ?_; rintro e x3 ⟨rfl, g3⟩
  go_wp2
  go_ret
  exact ⟨rfl, grown_trans g1 g3⟩
/-! WordConds: what the conditions say. -/
theorem fbits (p q r s : Bool) : fbit (8 * tr p + 4 * tr q + 2 * tr r + tr s) 8 = p ∧ fbit (8 * tr p + 4 * tr q + 2 * tr r + tr s) 4 = q ∧ fbit (8 * tr p + 4 * tr q + 2 * tr r + tr s) 2 = r ∧ fbit (8 * tr p + 4 * tr q + 2 * tr r + tr s) 1 = s := by
  cases p <;> cases q <;> cases r <;> cases s <;> decide
theorem less_is (a b : Int) (ha : 0 ≤ a ∧ a < 4294967296) (hb : 0 ≤ b ∧ b < 4294967296) :
    (decide (wrap32 ((a - b) % 4294967296) < 0) != (wrap32 a - wrap32 b != wrap32 ((a - b) % 4294967296))) = decide (wrap32 a < wrap32 b) := by
  have e : ∀ x y z : Int, (-2147483648 ≤ x ∧ x ≤ 2147483647) → (-2147483648 ≤ y ∧ y ≤ 2147483647) → (-2147483648 ≤ z ∧ z ≤ 2147483647) → (x - y = z ∨ x - y = z + 4294967296 ∨ x - y = z - 4294967296) → (decide (z < 0) != (x - y != z)) = decide (x < y) := by
    intro x y z hx hy hz h
    rcases h with h | h | h
    · by_cases h1 : z < 0
      · have : x < y := by omega
        simp [h, h1, this]
      · have : ¬ x < y := by omega
        simp [h, h1, this]
    · have n1 : ¬ x - y = z := by omega
      have n2 : z < 0 := by omega
      have n3 : ¬ x < y := by omega
      simp [n1, n2, n3]
    · have n1 : ¬ x - y = z := by omega
      have n2 : ¬ z < 0 := by omega
      have n3 : x < y := by omega
      simp [n1, n2, n3]
  refine e _ _ _ (wrap32_bd a) (wrap32_bd b) (wrap32_bd _) ?_
  unfold wrap32
  omega
theorem same_is (a b : Int) (ha : 0 ≤ a ∧ a < 4294967296) (hb : 0 ≤ b ∧ b < 4294967296) : ((a - b) % 4294967296 == 0) = (a == b) := by
  rw [Bool.eq_iff_iff]; simp; omega
/-- What each condition says by the flags of two words. -/
theorem conds_are (a b : Int) (ha : 0 ≤ a ∧ a < 4294967296) (hb : 0 ≤ b ∧ b < 4294967296) :
    hv 3 (fl a b) = decide (wrap32 a < wrap32 b) ∧ hv 4 (fl a b) = !decide (wrap32 a < wrap32 b) ∧ hv 5 (fl a b) = decide (a < b) ∧ hv 6 (fl a b) = !decide (a < b) ∧ hv 1 (fl a b) = (a == b) ∧ hv 2 (fl a b) = !(a == b) ∧ hv 0 (fl a b) = true := by
  have h := fbits (decide (wrap32 ((a - b) % 4294967296) < 0)) ((a - b) % 4294967296 == 0) (wrap32 a - wrap32 b != wrap32 ((a - b) % 4294967296)) (decide (a < b))
  obtain ⟨h8, h4, h2, h1⟩ := h
  have k8 : fbit (fl a b) 8 = decide (wrap32 ((a - b) % 4294967296) < 0) := h8
  have k4 : fbit (fl a b) 4 = ((a - b) % 4294967296 == 0) := h4
  have k2 : fbit (fl a b) 2 = (wrap32 a - wrap32 b != wrap32 ((a - b) % 4294967296)) := h2
  have k1 : fbit (fl a b) 1 = decide (a < b) := h1
  have l3 : hv 3 (fl a b) = (fbit (fl a b) 8 != fbit (fl a b) 2) := rfl
  have l4 : hv 4 (fl a b) = (fbit (fl a b) 8 == fbit (fl a b) 2) := rfl
  have l5 : hv 5 (fl a b) = fbit (fl a b) 1 := rfl
  have l6 : hv 6 (fl a b) = !fbit (fl a b) 1 := rfl
  have l1 : hv 1 (fl a b) = fbit (fl a b) 4 := rfl
  have l2 : hv 2 (fl a b) = !fbit (fl a b) 4 := rfl
  have hl := less_is a b ha hb
  refine ⟨?_, ?_, ?_, ?_, ?_, ?_, rfl⟩
  · rw [l3, k8, k2, hl]
  · rw [l4, k8, k2, ← hl]
    cases decide (wrap32 ((a - b) % 4294967296) < 0) <;> cases (wrap32 a - wrap32 b != wrap32 ((a - b) % 4294967296)) <;> rfl
  · rw [l5, k1]
  · rw [l6, k1]
  · rw [l1, k4, same_is a b ha hb]
  · rw [l2, k4, same_is a b ha hb]
set_option maxHeartbeats 4000000 in
theorem conds_at (a b f : Int) (L U E : Bool) (ha : 0 ≤ a ∧ a < 4294967296) (hb : 0 ≤ b ∧ b < 4294967296) (hf : 0 ≤ f ∧ f ≤ 255) (w : World)
    (HF : Hid (fl a b = f)) (H3 : Hid (hv 3 f = L)) (H4 : Hid (hv 4 f = !L)) (H5 : Hid (hv 5 f = U)) (H6 : Hid (hv 6 f = !U)) (H1 : Hid (hv 1 f = E)) (H2 : Hid (hv 2 f = !E))
    (D11 : Hid (dv 11 a b = tr L)) (D12 : Hid (dv 12 a b = tr U)) (D13 : Hid (dv 13 a b = tr E)) :
    Calls Try.prog 5 #[.int .u32 a, .int .u32 b] w fun e w' => e = .returned (.bool true) ∧ Grown w w' := by
  cases L <;> cases U <;> cases E
  all_goals
    go_enter Try.func5, Try.ntmps5
    go_wp2_with fail
    refine (flags_is a b f _ ha hb HF.out).mono ?_; rintro e x1 ⟨rfl, g1⟩
    go_wp2_with fail
    refine (do_is 11 a b _ true _ (by decide) ha hb (D11.out.trans rfl) (by rfl)).mono ?_; rintro e x2 ⟨rfl, g2⟩
    go_wp2_with fail
    refine (do_is 12 a b _ true _ (by decide) ha hb (D12.out.trans rfl) (by rfl)).mono ?_; rintro e x3 ⟨rfl, g3⟩
    go_wp2_with fail
    refine (do_is 13 a b _ true _ (by decide) ha hb (D13.out.trans rfl) (by rfl)).mono ?_; rintro e x4 ⟨rfl, g4⟩
    go_wp2_with fail
    refine (holds_is 3 f _ _ (by decide) hf (H3.out.trans rfl)).mono ?_; rintro e _ ⟨rfl, rfl⟩
    go_wp2_with fail
    refine (holds_is 5 f _ _ (by decide) hf (H5.out.trans rfl)).mono ?_; rintro e _ ⟨rfl, rfl⟩
    go_wp2_with fail
    refine (holds_is 1 f _ _ (by decide) hf (H1.out.trans rfl)).mono ?_; rintro e _ ⟨rfl, rfl⟩
    go_wp2_with fail
    refine (holds_is 4 f _ _ (by decide) hf (H4.out.trans rfl)).mono ?_; rintro e _ ⟨rfl, rfl⟩
    go_wp2_with fail
    refine (holds_is 6 f _ _ (by decide) hf (H6.out.trans rfl)).mono ?_; rintro e _ ⟨rfl, rfl⟩
    go_wp2_with fail
    refine (holds_is 2 f _ _ (by decide) hf (H2.out.trans rfl)).mono ?_; rintro e _ ⟨rfl, rfl⟩
    go_wp2_with fail
    refine (holds_is 0 f _ _ (by decide) hf (rfl)).mono ?_; rintro e _ ⟨rfl, rfl⟩
    go_wp2_with fail
    refine (head_any _).mono ?_; rintro e x5 ⟨rfl, g5⟩
    go_wp2
    go_ret
    exact ⟨rfl, grown_trans (grown_trans (grown_trans (grown_trans g1 g2) g3) g4) g5⟩
theorem wordConds_walk (a b : Int) (w1 : (Lit.int .u32 a).wf = true) (w2 : (Lit.int .u32 b).wf = true) (w : World) :
    Calls Try.prog 5 #[.int .u32 a, .int .u32 b] w fun e w' => e = .returned (.bool true) ∧ Grown w w' := by
  have ha := wf_u32_bd w1
  have hb := wf_u32_bd w2
  have hf : 0 ≤ fl a b ∧ fl a b ≤ 255 := by have := fl_bd a b; omega
  obtain ⟨h3, h4, h5, h6, h1, h2, _⟩ := conds_are a b ha hb
  exact conds_at a b (fl a b) _ _ _ ha hb hf w rfl h3 h4 h5 h6 h1 h2 rfl rfl rfl
end Go.Proofs.Ytflpejlghjeiiaa
