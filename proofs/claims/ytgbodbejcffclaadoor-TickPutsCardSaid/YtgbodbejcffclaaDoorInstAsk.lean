/- What the code of package inst asks of an instruction is what the document asks: plain arithmetic, Op by Op. -/
import Derived.Test.YtgbodbejcffclaaDoorInstSmall
namespace Go.Proofs.YtgbodbejcffclaaDoor.I2
open Go.RowKit
theorem classes (o : Int) : (Ka o) ∨ (Kb o) ∨ (o = 15) ∨ (o = 17) ∨ (o = 18) ∨ (o = 26 ∨ o = 28 ∨ o = 34) ∨ (o = 30) ∨ (o = 31) ∨ (o = 33) ∨ (o = 35 ∨ o = 36) ∨ (o = 32) ∨ (o = 37) ∨ (o < 1 ∨ 37 < o) := by
  unfold Ka Kb
  omega
/-- What valid asks. -/
def vl (o d s t : Int) (b : Bool) (n : Int) : Bool := fX o && (iF b (fT o) (fN o) && rf d (fD o) (hR o) && rf s (fS o) 31 && rf t (fT o && !b) 31 && nF o b n)
theorem vl_may (o d s t : Int) (b : Bool) (n : Int) (hd : 0 ≤ d ∧ d ≤ 255) (hs : 0 ≤ s ∧ s ≤ 255) (ht : 0 ≤ t ∧ t ≤ 255) : vl o d s t b n = may o d s t b n := by
  rcases classes o with h | h | h | h | h | h | h | h | h | h | h | h | h
  · unfold Ka at h
    have efD : fD o = true := by apply decide_eq_true; (try unfold Ka); (try unfold Kb); (try unfold Wd); omega
    have efS : fS o = true := by apply decide_eq_true; (try unfold Ka); (try unfold Kb); (try unfold Wd); omega
    have efT : fT o = true := by apply decide_eq_true; (try unfold Ka); (try unfold Kb); (try unfold Wd); omega
    have efN : fN o = true := by apply decide_eq_true; (try unfold Ka); (try unfold Kb); (try unfold Wd); omega
    have efW : fW o = false := by apply decide_eq_false; (try unfold Ka); (try unfold Kb); (try unfold Wd); omega
    have efX : fX o = true := by apply decide_eq_true; (try unfold Ka); (try unfold Kb); (try unfold Wd); omega
    have ehR : hR o = 31 := by unfold hR; (repeat (first | rw [if_pos (by omega)] | rw [if_neg (by omega)]))
    have elo : lo o = -16384 := by unfold lo; (repeat (first | rw [if_pos (by omega)] | rw [if_neg (by omega)]))
    have ehi : hi o = 16383 := by unfold hi; (repeat (first | rw [if_pos (by omega)] | rw [if_neg (by omega)]))
    unfold vl
    rw [efD, efS, efT, efN, efX, ehR]
    cases b
    · rw [Bool.eq_iff_iff, may_f]
      constructor
      · intro h0
        simp [iF, rf, nF] at h0
        all_goals (apply decide_eq_true; unfold MayF Ka Kb; refine ⟨by omega, ?_⟩; repeat (first | (left; omega; done) | right)); (try omega)
      · intro h0
        obtain ⟨h2, h1⟩ := of_decide_eq_true h0
        clear h0
        unfold Ka Kb at h1
        rcases h1 with h1 | h1 | h1 | h1 | h1
        all_goals first | (exfalso; omega; done) | (simp [iF, rf, nF]; omega; done)
    · rw [Bool.eq_iff_iff, may_t]
      constructor
      · intro h0
        simp [iF, rf, nF, elo, ehi] at h0
        all_goals (apply decide_eq_true; unfold MayT Ka Kb; refine ⟨by omega, ?_⟩; repeat (first | (left; omega; done) | right)); (try omega)
      · intro h0
        obtain ⟨h2, h1⟩ := of_decide_eq_true h0
        clear h0
        unfold Ka Kb at h1
        rcases h1 with h1 | h1 | h1 | h1 | h1 | h1 | h1 | h1 | h1
        all_goals first | (exfalso; omega; done) | (simp [iF, rf, nF, elo, ehi]; omega; done)
  · unfold Kb at h
    have efD : fD o = false := by apply decide_eq_false; (try unfold Ka); (try unfold Kb); (try unfold Wd); omega
    have efS : fS o = true := by apply decide_eq_true; (try unfold Ka); (try unfold Kb); (try unfold Wd); omega
    have efT : fT o = true := by apply decide_eq_true; (try unfold Ka); (try unfold Kb); (try unfold Wd); omega
    have efN : fN o = true := by apply decide_eq_true; (try unfold Ka); (try unfold Kb); (try unfold Wd); omega
    have efW : fW o = false := by apply decide_eq_false; (try unfold Ka); (try unfold Kb); (try unfold Wd); omega
    have efX : fX o = true := by apply decide_eq_true; (try unfold Ka); (try unfold Kb); (try unfold Wd); omega
    have ehR : hR o = 31 := by unfold hR; (repeat (first | rw [if_pos (by omega)] | rw [if_neg (by omega)]))
    have elo : lo o = -16384 := by unfold lo; (repeat (first | rw [if_pos (by omega)] | rw [if_neg (by omega)]))
    have ehi : hi o = 16383 := by unfold hi; (repeat (first | rw [if_pos (by omega)] | rw [if_neg (by omega)]))
    unfold vl
    rw [efD, efS, efT, efN, efX, ehR]
    cases b
    · rw [Bool.eq_iff_iff, may_f]
      constructor
      · intro h0
        simp [iF, rf, nF] at h0
        all_goals (apply decide_eq_true; unfold MayF Ka Kb; refine ⟨by omega, ?_⟩; repeat (first | (left; omega; done) | right)); (try omega)
      · intro h0
        obtain ⟨h2, h1⟩ := of_decide_eq_true h0
        clear h0
        unfold Ka Kb at h1
        rcases h1 with h1 | h1 | h1 | h1 | h1
        all_goals first | (exfalso; omega; done) | (simp [iF, rf, nF]; omega; done)
    · rw [Bool.eq_iff_iff, may_t]
      constructor
      · intro h0
        simp [iF, rf, nF, elo, ehi] at h0
        all_goals (apply decide_eq_true; unfold MayT Ka Kb; refine ⟨by omega, ?_⟩; repeat (first | (left; omega; done) | right)); (try omega)
      · intro h0
        obtain ⟨h2, h1⟩ := of_decide_eq_true h0
        clear h0
        unfold Ka Kb at h1
        rcases h1 with h1 | h1 | h1 | h1 | h1 | h1 | h1 | h1 | h1
        all_goals first | (exfalso; omega; done) | (simp [iF, rf, nF, elo, ehi]; omega; done)
  · skip
    have efD : fD o = true := by apply decide_eq_true; (try unfold Ka); (try unfold Kb); (try unfold Wd); omega
    have efS : fS o = false := by apply decide_eq_false; (try unfold Ka); (try unfold Kb); (try unfold Wd); omega
    have efT : fT o = false := by apply decide_eq_false; (try unfold Ka); (try unfold Kb); (try unfold Wd); omega
    have efN : fN o = true := by apply decide_eq_true; (try unfold Ka); (try unfold Kb); (try unfold Wd); omega
    have efW : fW o = true := by apply decide_eq_true; (try unfold Ka); (try unfold Kb); (try unfold Wd); omega
    have efX : fX o = true := by apply decide_eq_true; (try unfold Ka); (try unfold Kb); (try unfold Wd); omega
    have ehR : hR o = 31 := by unfold hR; (repeat (first | rw [if_pos (by omega)] | rw [if_neg (by omega)]))
    have elo : lo o = 0 := by unfold lo; (repeat (first | rw [if_pos (by omega)] | rw [if_neg (by omega)]))
    have ehi : hi o = 2097151 := by unfold hi; (repeat (first | rw [if_pos (by omega)] | rw [if_neg (by omega)]))
    unfold vl
    rw [efD, efS, efT, efN, efX, ehR]
    cases b
    · rw [Bool.eq_iff_iff, may_f]
      constructor
      · intro h0
        simp [iF, rf, nF] at h0
        all_goals (apply decide_eq_true; unfold MayF Ka Kb; refine ⟨by omega, ?_⟩; repeat (first | (left; omega; done) | right)); (try omega)
      · intro h0
        obtain ⟨h2, h1⟩ := of_decide_eq_true h0
        clear h0
        unfold Ka Kb at h1
        rcases h1 with h1 | h1 | h1 | h1 | h1
        all_goals first | (exfalso; omega; done) | (simp [iF, rf, nF]; omega; done)
    · rw [Bool.eq_iff_iff, may_t]
      constructor
      · intro h0
        simp [iF, rf, nF, elo, ehi] at h0
        all_goals (apply decide_eq_true; unfold MayT Ka Kb; refine ⟨by omega, ?_⟩; repeat (first | (left; omega; done) | right)); (try omega)
      · intro h0
        obtain ⟨h2, h1⟩ := of_decide_eq_true h0
        clear h0
        unfold Ka Kb at h1
        rcases h1 with h1 | h1 | h1 | h1 | h1 | h1 | h1 | h1 | h1
        all_goals first | (exfalso; omega; done) | (simp [iF, rf, nF, elo, ehi]; omega; done)
  · skip
    have efD : fD o = true := by apply decide_eq_true; (try unfold Ka); (try unfold Kb); (try unfold Wd); omega
    have efS : fS o = false := by apply decide_eq_false; (try unfold Ka); (try unfold Kb); (try unfold Wd); omega
    have efT : fT o = false := by apply decide_eq_false; (try unfold Ka); (try unfold Kb); (try unfold Wd); omega
    have efN : fN o = true := by apply decide_eq_true; (try unfold Ka); (try unfold Kb); (try unfold Wd); omega
    have efW : fW o = true := by apply decide_eq_true; (try unfold Ka); (try unfold Kb); (try unfold Wd); omega
    have efX : fX o = true := by apply decide_eq_true; (try unfold Ka); (try unfold Kb); (try unfold Wd); omega
    have ehR : hR o = 6 := by unfold hR; (repeat (first | rw [if_pos (by omega)] | rw [if_neg (by omega)]))
    have elo : lo o = -1048576 := by unfold lo; (repeat (first | rw [if_pos (by omega)] | rw [if_neg (by omega)]))
    have ehi : hi o = 1048575 := by unfold hi; (repeat (first | rw [if_pos (by omega)] | rw [if_neg (by omega)]))
    unfold vl
    rw [efD, efS, efT, efN, efX, ehR]
    cases b
    · rw [Bool.eq_iff_iff, may_f]
      constructor
      · intro h0
        simp [iF, rf, nF] at h0
        all_goals (apply decide_eq_true; unfold MayF Ka Kb; refine ⟨by omega, ?_⟩; repeat (first | (left; omega; done) | right)); (try omega)
      · intro h0
        obtain ⟨h2, h1⟩ := of_decide_eq_true h0
        clear h0
        unfold Ka Kb at h1
        rcases h1 with h1 | h1 | h1 | h1 | h1
        all_goals first | (exfalso; omega; done) | (simp [iF, rf, nF]; omega; done)
    · rw [Bool.eq_iff_iff, may_t]
      constructor
      · intro h0
        simp [iF, rf, nF, elo, ehi] at h0
        all_goals (apply decide_eq_true; unfold MayT Ka Kb; refine ⟨by omega, ?_⟩; repeat (first | (left; omega; done) | right)); (try omega)
      · intro h0
        obtain ⟨h2, h1⟩ := of_decide_eq_true h0
        clear h0
        unfold Ka Kb at h1
        rcases h1 with h1 | h1 | h1 | h1 | h1 | h1 | h1 | h1 | h1
        all_goals first | (exfalso; omega; done) | (simp [iF, rf, nF, elo, ehi]; omega; done)
  · skip
    have efD : fD o = false := by apply decide_eq_false; (try unfold Ka); (try unfold Kb); (try unfold Wd); omega
    have efS : fS o = false := by apply decide_eq_false; (try unfold Ka); (try unfold Kb); (try unfold Wd); omega
    have efT : fT o = false := by apply decide_eq_false; (try unfold Ka); (try unfold Kb); (try unfold Wd); omega
    have efN : fN o = true := by apply decide_eq_true; (try unfold Ka); (try unfold Kb); (try unfold Wd); omega
    have efW : fW o = true := by apply decide_eq_true; (try unfold Ka); (try unfold Kb); (try unfold Wd); omega
    have efX : fX o = true := by apply decide_eq_true; (try unfold Ka); (try unfold Kb); (try unfold Wd); omega
    have ehR : hR o = 31 := by unfold hR; (repeat (first | rw [if_pos (by omega)] | rw [if_neg (by omega)]))
    have elo : lo o = -1048576 := by unfold lo; (repeat (first | rw [if_pos (by omega)] | rw [if_neg (by omega)]))
    have ehi : hi o = 1048575 := by unfold hi; (repeat (first | rw [if_pos (by omega)] | rw [if_neg (by omega)]))
    unfold vl
    rw [efD, efS, efT, efN, efX, ehR]
    cases b
    · rw [Bool.eq_iff_iff, may_f]
      constructor
      · intro h0
        simp [iF, rf, nF] at h0
        all_goals (apply decide_eq_true; unfold MayF Ka Kb; refine ⟨by omega, ?_⟩; repeat (first | (left; omega; done) | right)); (try omega)
      · intro h0
        obtain ⟨h2, h1⟩ := of_decide_eq_true h0
        clear h0
        unfold Ka Kb at h1
        rcases h1 with h1 | h1 | h1 | h1 | h1
        all_goals first | (exfalso; omega; done) | (simp [iF, rf, nF]; omega; done)
    · rw [Bool.eq_iff_iff, may_t]
      constructor
      · intro h0
        simp [iF, rf, nF, elo, ehi] at h0
        all_goals (apply decide_eq_true; unfold MayT Ka Kb; refine ⟨by omega, ?_⟩; repeat (first | (left; omega; done) | right)); (try omega)
      · intro h0
        obtain ⟨h2, h1⟩ := of_decide_eq_true h0
        clear h0
        unfold Ka Kb at h1
        rcases h1 with h1 | h1 | h1 | h1 | h1 | h1 | h1 | h1 | h1
        all_goals first | (exfalso; omega; done) | (simp [iF, rf, nF, elo, ehi]; omega; done)
  · skip
    have efD : fD o = true := by apply decide_eq_true; (try unfold Ka); (try unfold Kb); (try unfold Wd); omega
    have efS : fS o = false := by apply decide_eq_false; (try unfold Ka); (try unfold Kb); (try unfold Wd); omega
    have efT : fT o = false := by apply decide_eq_false; (try unfold Ka); (try unfold Kb); (try unfold Wd); omega
    have efN : fN o = false := by apply decide_eq_false; (try unfold Ka); (try unfold Kb); (try unfold Wd); omega
    have efW : fW o = false := by apply decide_eq_false; (try unfold Ka); (try unfold Kb); (try unfold Wd); omega
    have efX : fX o = true := by apply decide_eq_true; (try unfold Ka); (try unfold Kb); (try unfold Wd); omega
    have ehR : hR o = 31 := by unfold hR; (repeat (first | rw [if_pos (by omega)] | rw [if_neg (by omega)]))
    have elo : lo o = -16384 := by unfold lo; (repeat (first | rw [if_pos (by omega)] | rw [if_neg (by omega)]))
    have ehi : hi o = 16383 := by unfold hi; (repeat (first | rw [if_pos (by omega)] | rw [if_neg (by omega)]))
    unfold vl
    rw [efD, efS, efT, efN, efX, ehR]
    cases b
    · rw [Bool.eq_iff_iff, may_f]
      constructor
      · intro h0
        simp [iF, rf, nF] at h0
        all_goals (apply decide_eq_true; unfold MayF Ka Kb; refine ⟨by omega, ?_⟩; repeat (first | (left; omega; done) | right)); (try omega)
      · intro h0
        obtain ⟨h2, h1⟩ := of_decide_eq_true h0
        clear h0
        unfold Ka Kb at h1
        rcases h1 with h1 | h1 | h1 | h1 | h1
        all_goals first | (exfalso; omega; done) | (simp [iF, rf, nF]; omega; done)
    · rw [Bool.eq_iff_iff, may_t]
      constructor
      · intro h0
        simp [iF, rf, nF, elo, ehi] at h0
        all_goals (apply decide_eq_true; unfold MayT Ka Kb; refine ⟨by omega, ?_⟩; repeat (first | (left; omega; done) | right)); (try omega)
      · intro h0
        obtain ⟨h2, h1⟩ := of_decide_eq_true h0
        clear h0
        unfold Ka Kb at h1
        rcases h1 with h1 | h1 | h1 | h1 | h1 | h1 | h1 | h1 | h1
        all_goals first | (exfalso; omega; done) | (simp [iF, rf, nF, elo, ehi]; omega; done)
  · skip
    have efD : fD o = true := by apply decide_eq_true; (try unfold Ka); (try unfold Kb); (try unfold Wd); omega
    have efS : fS o = false := by apply decide_eq_false; (try unfold Ka); (try unfold Kb); (try unfold Wd); omega
    have efT : fT o = false := by apply decide_eq_false; (try unfold Ka); (try unfold Kb); (try unfold Wd); omega
    have efN : fN o = true := by apply decide_eq_true; (try unfold Ka); (try unfold Kb); (try unfold Wd); omega
    have efW : fW o = false := by apply decide_eq_false; (try unfold Ka); (try unfold Kb); (try unfold Wd); omega
    have efX : fX o = true := by apply decide_eq_true; (try unfold Ka); (try unfold Kb); (try unfold Wd); omega
    have ehR : hR o = 31 := by unfold hR; (repeat (first | rw [if_pos (by omega)] | rw [if_neg (by omega)]))
    have elo : lo o = 0 := by unfold lo; (repeat (first | rw [if_pos (by omega)] | rw [if_neg (by omega)]))
    have ehi : hi o = 1 := by unfold hi; (repeat (first | rw [if_pos (by omega)] | rw [if_neg (by omega)]))
    unfold vl
    rw [efD, efS, efT, efN, efX, ehR]
    cases b
    · rw [Bool.eq_iff_iff, may_f]
      constructor
      · intro h0
        simp [iF, rf, nF] at h0
        all_goals (apply decide_eq_true; unfold MayF Ka Kb; refine ⟨by omega, ?_⟩; repeat (first | (left; omega; done) | right)); (try omega)
      · intro h0
        obtain ⟨h2, h1⟩ := of_decide_eq_true h0
        clear h0
        unfold Ka Kb at h1
        rcases h1 with h1 | h1 | h1 | h1 | h1
        all_goals first | (exfalso; omega; done) | (simp [iF, rf, nF]; omega; done)
    · rw [Bool.eq_iff_iff, may_t]
      constructor
      · intro h0
        simp [iF, rf, nF, elo, ehi] at h0
        all_goals (apply decide_eq_true; unfold MayT Ka Kb; refine ⟨by omega, ?_⟩; repeat (first | (left; omega; done) | right)); (try omega)
      · intro h0
        obtain ⟨h2, h1⟩ := of_decide_eq_true h0
        clear h0
        unfold Ka Kb at h1
        rcases h1 with h1 | h1 | h1 | h1 | h1 | h1 | h1 | h1 | h1
        all_goals first | (exfalso; omega; done) | (simp [iF, rf, nF, elo, ehi]; omega; done)
  · skip
    have efD : fD o = false := by apply decide_eq_false; (try unfold Ka); (try unfold Kb); (try unfold Wd); omega
    have efS : fS o = true := by apply decide_eq_true; (try unfold Ka); (try unfold Kb); (try unfold Wd); omega
    have efT : fT o = false := by apply decide_eq_false; (try unfold Ka); (try unfold Kb); (try unfold Wd); omega
    have efN : fN o = true := by apply decide_eq_true; (try unfold Ka); (try unfold Kb); (try unfold Wd); omega
    have efW : fW o = false := by apply decide_eq_false; (try unfold Ka); (try unfold Kb); (try unfold Wd); omega
    have efX : fX o = true := by apply decide_eq_true; (try unfold Ka); (try unfold Kb); (try unfold Wd); omega
    have ehR : hR o = 31 := by unfold hR; (repeat (first | rw [if_pos (by omega)] | rw [if_neg (by omega)]))
    have elo : lo o = 0 := by unfold lo; (repeat (first | rw [if_pos (by omega)] | rw [if_neg (by omega)]))
    have ehi : hi o = 1 := by unfold hi; (repeat (first | rw [if_pos (by omega)] | rw [if_neg (by omega)]))
    unfold vl
    rw [efD, efS, efT, efN, efX, ehR]
    cases b
    · rw [Bool.eq_iff_iff, may_f]
      constructor
      · intro h0
        simp [iF, rf, nF] at h0
        all_goals (apply decide_eq_true; unfold MayF Ka Kb; refine ⟨by omega, ?_⟩; repeat (first | (left; omega; done) | right)); (try omega)
      · intro h0
        obtain ⟨h2, h1⟩ := of_decide_eq_true h0
        clear h0
        unfold Ka Kb at h1
        rcases h1 with h1 | h1 | h1 | h1 | h1
        all_goals first | (exfalso; omega; done) | (simp [iF, rf, nF]; omega; done)
    · rw [Bool.eq_iff_iff, may_t]
      constructor
      · intro h0
        simp [iF, rf, nF, elo, ehi] at h0
        all_goals (apply decide_eq_true; unfold MayT Ka Kb; refine ⟨by omega, ?_⟩; repeat (first | (left; omega; done) | right)); (try omega)
      · intro h0
        obtain ⟨h2, h1⟩ := of_decide_eq_true h0
        clear h0
        unfold Ka Kb at h1
        rcases h1 with h1 | h1 | h1 | h1 | h1 | h1 | h1 | h1 | h1
        all_goals first | (exfalso; omega; done) | (simp [iF, rf, nF, elo, ehi]; omega; done)
  · skip
    have efD : fD o = false := by apply decide_eq_false; (try unfold Ka); (try unfold Kb); (try unfold Wd); omega
    have efS : fS o = false := by apply decide_eq_false; (try unfold Ka); (try unfold Kb); (try unfold Wd); omega
    have efT : fT o = false := by apply decide_eq_false; (try unfold Ka); (try unfold Kb); (try unfold Wd); omega
    have efN : fN o = true := by apply decide_eq_true; (try unfold Ka); (try unfold Kb); (try unfold Wd); omega
    have efW : fW o = false := by apply decide_eq_false; (try unfold Ka); (try unfold Kb); (try unfold Wd); omega
    have efX : fX o = true := by apply decide_eq_true; (try unfold Ka); (try unfold Kb); (try unfold Wd); omega
    have ehR : hR o = 31 := by unfold hR; (repeat (first | rw [if_pos (by omega)] | rw [if_neg (by omega)]))
    have elo : lo o = 3 := by unfold lo; (repeat (first | rw [if_pos (by omega)] | rw [if_neg (by omega)]))
    have ehi : hi o = 4 := by unfold hi; (repeat (first | rw [if_pos (by omega)] | rw [if_neg (by omega)]))
    unfold vl
    rw [efD, efS, efT, efN, efX, ehR]
    cases b
    · rw [Bool.eq_iff_iff, may_f]
      constructor
      · intro h0
        simp [iF, rf, nF] at h0
        all_goals (apply decide_eq_true; unfold MayF Ka Kb; refine ⟨by omega, ?_⟩; repeat (first | (left; omega; done) | right)); (try omega)
      · intro h0
        obtain ⟨h2, h1⟩ := of_decide_eq_true h0
        clear h0
        unfold Ka Kb at h1
        rcases h1 with h1 | h1 | h1 | h1 | h1
        all_goals first | (exfalso; omega; done) | (simp [iF, rf, nF]; omega; done)
    · rw [Bool.eq_iff_iff, may_t]
      constructor
      · intro h0
        simp [iF, rf, nF, elo, ehi] at h0
        all_goals (apply decide_eq_true; unfold MayT Ka Kb; refine ⟨by omega, ?_⟩; repeat (first | (left; omega; done) | right)); (try omega)
      · intro h0
        obtain ⟨h2, h1⟩ := of_decide_eq_true h0
        clear h0
        unfold Ka Kb at h1
        rcases h1 with h1 | h1 | h1 | h1 | h1 | h1 | h1 | h1 | h1
        all_goals first | (exfalso; omega; done) | (simp [iF, rf, nF, elo, ehi]; omega; done)
  · skip
    have efD : fD o = false := by apply decide_eq_false; (try unfold Ka); (try unfold Kb); (try unfold Wd); omega
    have efS : fS o = true := by apply decide_eq_true; (try unfold Ka); (try unfold Kb); (try unfold Wd); omega
    have efT : fT o = false := by apply decide_eq_false; (try unfold Ka); (try unfold Kb); (try unfold Wd); omega
    have efN : fN o = false := by apply decide_eq_false; (try unfold Ka); (try unfold Kb); (try unfold Wd); omega
    have efW : fW o = false := by apply decide_eq_false; (try unfold Ka); (try unfold Kb); (try unfold Wd); omega
    have efX : fX o = true := by apply decide_eq_true; (try unfold Ka); (try unfold Kb); (try unfold Wd); omega
    have ehR : hR o = 31 := by unfold hR; (repeat (first | rw [if_pos (by omega)] | rw [if_neg (by omega)]))
    have elo : lo o = -16384 := by unfold lo; (repeat (first | rw [if_pos (by omega)] | rw [if_neg (by omega)]))
    have ehi : hi o = 16383 := by unfold hi; (repeat (first | rw [if_pos (by omega)] | rw [if_neg (by omega)]))
    unfold vl
    rw [efD, efS, efT, efN, efX, ehR]
    cases b
    · rw [Bool.eq_iff_iff, may_f]
      constructor
      · intro h0
        simp [iF, rf, nF] at h0
        all_goals (apply decide_eq_true; unfold MayF Ka Kb; refine ⟨by omega, ?_⟩; repeat (first | (left; omega; done) | right)); (try omega)
      · intro h0
        obtain ⟨h2, h1⟩ := of_decide_eq_true h0
        clear h0
        unfold Ka Kb at h1
        rcases h1 with h1 | h1 | h1 | h1 | h1
        all_goals first | (exfalso; omega; done) | (simp [iF, rf, nF]; omega; done)
    · rw [Bool.eq_iff_iff, may_t]
      constructor
      · intro h0
        simp [iF, rf, nF, elo, ehi] at h0
        all_goals (apply decide_eq_true; unfold MayT Ka Kb; refine ⟨by omega, ?_⟩; repeat (first | (left; omega; done) | right)); (try omega)
      · intro h0
        obtain ⟨h2, h1⟩ := of_decide_eq_true h0
        clear h0
        unfold Ka Kb at h1
        rcases h1 with h1 | h1 | h1 | h1 | h1 | h1 | h1 | h1 | h1
        all_goals first | (exfalso; omega; done) | (simp [iF, rf, nF, elo, ehi]; omega; done)
  · skip
    have efD : fD o = false := by apply decide_eq_false; (try unfold Ka); (try unfold Kb); (try unfold Wd); omega
    have efS : fS o = false := by apply decide_eq_false; (try unfold Ka); (try unfold Kb); (try unfold Wd); omega
    have efT : fT o = false := by apply decide_eq_false; (try unfold Ka); (try unfold Kb); (try unfold Wd); omega
    have efN : fN o = false := by apply decide_eq_false; (try unfold Ka); (try unfold Kb); (try unfold Wd); omega
    have efW : fW o = false := by apply decide_eq_false; (try unfold Ka); (try unfold Kb); (try unfold Wd); omega
    have efX : fX o = true := by apply decide_eq_true; (try unfold Ka); (try unfold Kb); (try unfold Wd); omega
    have ehR : hR o = 31 := by unfold hR; (repeat (first | rw [if_pos (by omega)] | rw [if_neg (by omega)]))
    have elo : lo o = -16384 := by unfold lo; (repeat (first | rw [if_pos (by omega)] | rw [if_neg (by omega)]))
    have ehi : hi o = 16383 := by unfold hi; (repeat (first | rw [if_pos (by omega)] | rw [if_neg (by omega)]))
    unfold vl
    rw [efD, efS, efT, efN, efX, ehR]
    cases b
    · rw [Bool.eq_iff_iff, may_f]
      constructor
      · intro h0
        simp [iF, rf, nF] at h0
        all_goals (apply decide_eq_true; unfold MayF Ka Kb; refine ⟨by omega, ?_⟩; repeat (first | (left; omega; done) | right)); (try omega)
      · intro h0
        obtain ⟨h2, h1⟩ := of_decide_eq_true h0
        clear h0
        unfold Ka Kb at h1
        rcases h1 with h1 | h1 | h1 | h1 | h1
        all_goals first | (exfalso; omega; done) | (simp [iF, rf, nF]; omega; done)
    · rw [Bool.eq_iff_iff, may_t]
      constructor
      · intro h0
        simp [iF, rf, nF, elo, ehi] at h0
        all_goals (apply decide_eq_true; unfold MayT Ka Kb; refine ⟨by omega, ?_⟩; repeat (first | (left; omega; done) | right)); (try omega)
      · intro h0
        obtain ⟨h2, h1⟩ := of_decide_eq_true h0
        clear h0
        unfold Ka Kb at h1
        rcases h1 with h1 | h1 | h1 | h1 | h1 | h1 | h1 | h1 | h1
        all_goals first | (exfalso; omega; done) | (simp [iF, rf, nF, elo, ehi]; omega; done)
  · skip
    have efD : fD o = false := by apply decide_eq_false; (try unfold Ka); (try unfold Kb); (try unfold Wd); omega
    have efS : fS o = false := by apply decide_eq_false; (try unfold Ka); (try unfold Kb); (try unfold Wd); omega
    have efT : fT o = false := by apply decide_eq_false; (try unfold Ka); (try unfold Kb); (try unfold Wd); omega
    have efN : fN o = true := by apply decide_eq_true; (try unfold Ka); (try unfold Kb); (try unfold Wd); omega
    have efW : fW o = false := by apply decide_eq_false; (try unfold Ka); (try unfold Kb); (try unfold Wd); omega
    have efX : fX o = true := by apply decide_eq_true; (try unfold Ka); (try unfold Kb); (try unfold Wd); omega
    have ehR : hR o = 31 := by unfold hR; (repeat (first | rw [if_pos (by omega)] | rw [if_neg (by omega)]))
    have elo : lo o = 1 := by unfold lo; (repeat (first | rw [if_pos (by omega)] | rw [if_neg (by omega)]))
    have ehi : hi o = 3 := by unfold hi; (repeat (first | rw [if_pos (by omega)] | rw [if_neg (by omega)]))
    unfold vl
    rw [efD, efS, efT, efN, efX, ehR]
    cases b
    · rw [Bool.eq_iff_iff, may_f]
      constructor
      · intro h0
        simp [iF, rf, nF] at h0
        all_goals (apply decide_eq_true; unfold MayF Ka Kb; refine ⟨by omega, ?_⟩; repeat (first | (left; omega; done) | right)); (try omega)
      · intro h0
        obtain ⟨h2, h1⟩ := of_decide_eq_true h0
        clear h0
        unfold Ka Kb at h1
        rcases h1 with h1 | h1 | h1 | h1 | h1
        all_goals first | (exfalso; omega; done) | (simp [iF, rf, nF]; omega; done)
    · rw [Bool.eq_iff_iff, may_t]
      constructor
      · intro h0
        simp [iF, rf, nF, elo, ehi] at h0
        all_goals (apply decide_eq_true; unfold MayT Ka Kb; refine ⟨by omega, ?_⟩; repeat (first | (left; omega; done) | right)); (try omega)
      · intro h0
        obtain ⟨h2, h1⟩ := of_decide_eq_true h0
        clear h0
        unfold Ka Kb at h1
        rcases h1 with h1 | h1 | h1 | h1 | h1 | h1 | h1 | h1 | h1
        all_goals first | (exfalso; omega; done) | (simp [iF, rf, nF, elo, ehi]; omega; done)
  · skip
    have efD : fD o = false := by apply decide_eq_false; (try unfold Ka); (try unfold Kb); (try unfold Wd); omega
    have efS : fS o = false := by apply decide_eq_false; (try unfold Ka); (try unfold Kb); (try unfold Wd); omega
    have efT : fT o = false := by apply decide_eq_false; (try unfold Ka); (try unfold Kb); (try unfold Wd); omega
    have efN : fN o = false := by apply decide_eq_false; (try unfold Ka); (try unfold Kb); (try unfold Wd); omega
    have efW : fW o = false := by apply decide_eq_false; (try unfold Ka); (try unfold Kb); (try unfold Wd); omega
    have efX : fX o = false := by apply decide_eq_false; (try unfold Ka); (try unfold Kb); (try unfold Wd); omega
    have ehR : hR o = 31 := by unfold hR; (repeat (first | rw [if_pos (by omega)] | rw [if_neg (by omega)]))
    have elo : lo o = -16384 := by unfold lo; (repeat (first | rw [if_pos (by omega)] | rw [if_neg (by omega)]))
    have ehi : hi o = 16383 := by unfold hi; (repeat (first | rw [if_pos (by omega)] | rw [if_neg (by omega)]))
    unfold vl
    rw [efD, efS, efT, efN, efX, ehR]
    cases b
    · rw [Bool.eq_iff_iff, may_f]
      constructor
      · intro h0
        simp [iF, rf, nF] at h0
        all_goals (apply decide_eq_true; unfold MayF Ka Kb; refine ⟨by omega, ?_⟩; repeat (first | (left; omega; done) | right)); (try omega)
      · intro h0
        obtain ⟨h2, h1⟩ := of_decide_eq_true h0
        clear h0
        unfold Ka Kb at h1
        rcases h1 with h1 | h1 | h1 | h1 | h1
        all_goals first | (exfalso; omega; done) | (simp [iF, rf, nF]; omega; done)
    · rw [Bool.eq_iff_iff, may_t]
      constructor
      · intro h0
        simp [iF, rf, nF, elo, ehi] at h0
        all_goals (apply decide_eq_true; unfold MayT Ka Kb; refine ⟨by omega, ?_⟩; repeat (first | (left; omega; done) | right)); (try omega)
      · intro h0
        obtain ⟨h2, h1⟩ := of_decide_eq_true h0
        clear h0
        unfold Ka Kb at h1
        rcases h1 with h1 | h1 | h1 | h1 | h1 | h1 | h1 | h1 | h1
        all_goals first | (exfalso; omega; done) | (simp [iF, rf, nF, elo, ehi]; omega; done)
end Go.Proofs.YtgbodbejcffclaaDoor.I2
