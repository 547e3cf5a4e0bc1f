/- The document's machine (layer 6): its step, any. -/
import Derived.Test.YtiobgnelhiadbaaGreatDoorZMachGRn
import Derived.Test.YtiobgnelhiadbaaGreatDoorZMachGRo
namespace Go.Proofs.YtiobgnelhiadbaaGreatDoor.K6
open Go.RowKit
set_option linter.unusedVariables false
variable [Far]
omit [Far] in
theorem hi15_may {o d s t : Int} {b : Bool} {n : Int} (h : I2.may o d s t b n = true) (ho : o = 15) : 0 ≤ n ∧ n ≤ 2097151 := by
  cases b with
  | true =>
    rw [I2.may_t] at h
    simp only [decide_eq_true_eq] at h
    unfold I2.MayT I2.Ka I2.Kb at h
    omega
  | false =>
    rw [I2.may_f] at h
    simp only [decide_eq_true_eq] at h
    unfold I2.MayF I2.Ka I2.Kb at h
    omega
omit [Far] in
theorem hi15_dk {w : Int} (h : I2.dk w = true) : I2.dO w = 15 → 0 ≤ I2.dN w ∧ I2.dN w ≤ 2097151 := by
  have hm : I2.cM w = true := by unfold I2.dk at h; simp at h; exact h.1
  have h2 := @hi15_may _ _ _ _ _ _ hm
  unfold I2.dO I2.dN
  rw [h]
  simpa using h2
theorem Gives.more {w : World} {m' : MS} {L L' : Nat} (h : L ≤ L') (e : Ending) (w' : World) : Gives w m' L e w' → Gives w m' L' e w' := fun ⟨q', h1, h2, h3⟩ => ⟨q', h1, h2.more h, h3⟩
/-- What the document's Step makes of a machine. -/
theorem step_ref (q : RV) (m : MS) (L : Nat) (lv : Int) (w : World) (hA : RefAt w q m L) (hm : MOk m) (hL : L ≤ 900) (h0 : 0 ≤ lv) (hol : m.ol ≤ 100000) (hcl : m.cl ≤ 1000) :
    Calls Tryz.prog 14 #[.agg (rrow q), .int .u8 lv] w (Gives w (mstep m lv) (L + 1)) := by
  unfold mstep
  by_cases hk : m.sk = 0
  · rw [if_neg (by simpa using hk)]
    by_cases ht : lv ≤ 15 ∧ m.pil < lv
    · rw [if_pos ht]
      exact (step_taken q m L lv w hA hm hk ht.1 ht.2).mono (Gives.more (Nat.le_succ _))
    · rw [if_neg ht]
      by_cases hth : thE m.sz m.pc 4 = 0
      · rw [if_pos hth]
        unfold mWord
        have hu : W32 (ldB m.f m.pc.toNat 4) := ld_w32 hm.f m.pc.toNat
        have HL0 : ∀ W, RefAt W q m L → Calls Tryz.prog 73 #[q.ms, .int .u32 q.pc, .int .i64 4] W fun e w' => e = .returned (.tuple #[.int .u32 (ldB m.f m.pc.toNat 4), .int .i64 0]) ∧ Below W.heap.size W w' := fun W hW => by
          obtain ⟨y, hy⟩ : ∃ y : Nat, m.pc = y := ⟨m.pc.toNat, by have := hm.pc.1; omega⟩
          rw [hA.pc, hy, Int.toNat_natCast]
          exact M5.rload_yes q.ms m.sz m.f y 4 W hm.sz hW.mem.sl hm.f (by rw [← hy]; exact hth)
        have HD0 : ∀ W, Calls Tryz.prog 74 #[.int .u32 (ldB m.f m.pc.toNat 4)] W _ := fun W => rdec_bel _ W hu
        cases hd : I2.dk (ldB m.f m.pc.toNat 4) with
        | false =>
          rw [if_neg (by decide)]
          exact (step_none6 q m L lv w hA hm hk ht h0 (.inr ⟨hth, hd⟩)).mono (Gives.more (Nat.le_succ _))
        | true =>
          rw [if_pos rfl]
          have P := parts_dk hu hd
          have H15 := hi15_dk hd
          simp only [hd] at HD0
          generalize ldB m.f m.pc.toNat 4 = u at *
          cases hb : I2.dB u with
          | true =>
            rw [if_pos rfl]
            simp only [hb] at HD0 P
            exact step_exec_t q m L lv _ _ _ _ _ u w hA hm hL hk ht h0 hu P H15 hol hcl HL0 HD0
          | false =>
            rw [if_neg (by decide)]
            simp only [hb] at HD0 P
            exact step_exec_f q m L lv _ _ _ _ _ u w hA hm hL hk ht h0 hu P H15 hol hcl HL0 HD0
      · rw [if_neg hth]
        exact (step_none6 q m L lv w hA hm hk ht h0 (.inl hth)).mono (Gives.more (Nat.le_succ _))
  · rw [if_pos (by simpa using hk)]
    exact (step_stood q m L lv w hA hk).mono (Gives.more (Nat.le_succ _))
end Go.Proofs.YtiobgnelhiadbaaGreatDoor.K6
