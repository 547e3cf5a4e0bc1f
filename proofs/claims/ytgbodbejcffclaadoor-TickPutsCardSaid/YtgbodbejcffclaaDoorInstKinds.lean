/- Which instructions may be, class by class of Ops: plain arithmetic. -/
import Derived.Test.YtgbodbejcffclaaDoorInstMath
namespace Go.Proofs.YtgbodbejcffclaaDoor.I2
set_option linter.unusedVariables false
theorem kinds (o : Int) : (Ka o) ∨ (Kb o) ∨ (o = 15) ∨ (o = 17) ∨ (o = 18) ∨ (o = 26 ∨ o = 28 ∨ o = 34) ∨ (o = 30) ∨ (o = 31) ∨ (o = 33) ∨ (o = 35 ∨ o = 36) ∨ (o = 37) ∨ (o = 32) ∨ (o < 1 ∨ 37 < o) := by
  unfold Ka Kb
  omega
theorem mayKa_t (o d s t n : Int) (hd : 0 ≤ d) (hs : 0 ≤ s) (ht : 0 ≤ t) (h : Ka o) : may o d s t true n = decide (d ≤ 31 ∧ s ≤ 31 ∧ t = 0 ∧ -16384 ≤ n ∧ n ≤ 16383) := by
  have e : MayT o d s t n ↔ (d ≤ 31 ∧ s ≤ 31 ∧ t = 0 ∧ -16384 ≤ n ∧ n ≤ 16383) := by
    (try unfold Ka at h); (try unfold Kb at h)
    constructor
    · intro h0
      obtain ⟨h2, h1⟩ := h0
      unfold Ka Kb at h1
      rcases h1 with h1 | h1 | h1 | h1 | h1 | h1 | h1 | h1 | h1
      all_goals omega
    · intro h0
      unfold MayT Ka Kb
      refine ⟨by omega, ?_⟩
      repeat (first | (left; omega; done) | right)
      all_goals omega
  exact (Bool.eq_iff_iff.2 (by rw [show may o d s t true n = decide (MayT o d s t n) from rfl, decide_eq_true_iff, e, decide_eq_true_iff]))
theorem mayKa_f (o d s t n : Int) (hd : 0 ≤ d) (hs : 0 ≤ s) (ht : 0 ≤ t) (h : Ka o) : may o d s t false n = decide (d ≤ 31 ∧ s ≤ 31 ∧ t ≤ 31 ∧ n = 0) := by
  have e : MayF o d s t n ↔ (d ≤ 31 ∧ s ≤ 31 ∧ t ≤ 31 ∧ n = 0) := by
    (try unfold Ka at h); (try unfold Kb at h)
    constructor
    · intro h0
      obtain ⟨h2, h1⟩ := h0
      unfold Ka Kb at h1
      rcases h1 with h1 | h1 | h1 | h1 | h1
      all_goals omega
    · intro h0
      unfold MayF Ka Kb
      refine ⟨by omega, ?_⟩
      repeat (first | (left; omega; done) | right)
      all_goals omega
  exact (Bool.eq_iff_iff.2 (by rw [show may o d s t false n = decide (MayF o d s t n) from rfl, decide_eq_true_iff, e, decide_eq_true_iff]))
theorem mayKb_t (o d s t n : Int) (hd : 0 ≤ d) (hs : 0 ≤ s) (ht : 0 ≤ t) (h : Kb o) : may o d s t true n = decide (d = 0 ∧ s ≤ 31 ∧ t = 0 ∧ -16384 ≤ n ∧ n ≤ 16383) := by
  have e : MayT o d s t n ↔ (d = 0 ∧ s ≤ 31 ∧ t = 0 ∧ -16384 ≤ n ∧ n ≤ 16383) := by
    (try unfold Ka at h); (try unfold Kb at h)
    constructor
    · intro h0
      obtain ⟨h2, h1⟩ := h0
      unfold Ka Kb at h1
      rcases h1 with h1 | h1 | h1 | h1 | h1 | h1 | h1 | h1 | h1
      all_goals omega
    · intro h0
      unfold MayT Ka Kb
      refine ⟨by omega, ?_⟩
      repeat (first | (left; omega; done) | right)
      all_goals omega
  exact (Bool.eq_iff_iff.2 (by rw [show may o d s t true n = decide (MayT o d s t n) from rfl, decide_eq_true_iff, e, decide_eq_true_iff]))
theorem mayKb_f (o d s t n : Int) (hd : 0 ≤ d) (hs : 0 ≤ s) (ht : 0 ≤ t) (h : Kb o) : may o d s t false n = decide (d = 0 ∧ s ≤ 31 ∧ t ≤ 31 ∧ n = 0) := by
  have e : MayF o d s t n ↔ (d = 0 ∧ s ≤ 31 ∧ t ≤ 31 ∧ n = 0) := by
    (try unfold Ka at h); (try unfold Kb at h)
    constructor
    · intro h0
      obtain ⟨h2, h1⟩ := h0
      unfold Ka Kb at h1
      rcases h1 with h1 | h1 | h1 | h1 | h1
      all_goals omega
    · intro h0
      unfold MayF Ka Kb
      refine ⟨by omega, ?_⟩
      repeat (first | (left; omega; done) | right)
      all_goals omega
  exact (Bool.eq_iff_iff.2 (by rw [show may o d s t false n = decide (MayF o d s t n) from rfl, decide_eq_true_iff, e, decide_eq_true_iff]))
theorem may3_t (o d s t n : Int) (hd : 0 ≤ d) (hs : 0 ≤ s) (ht : 0 ≤ t) (h : o = 15) : may o d s t true n = decide (d ≤ 31 ∧ s = 0 ∧ t = 0 ∧ 0 ≤ n ∧ n ≤ 2097151) := by
  have e : MayT o d s t n ↔ (d ≤ 31 ∧ s = 0 ∧ t = 0 ∧ 0 ≤ n ∧ n ≤ 2097151) := by
    (try unfold Ka at h); (try unfold Kb at h)
    constructor
    · intro h0
      obtain ⟨h2, h1⟩ := h0
      unfold Ka Kb at h1
      rcases h1 with h1 | h1 | h1 | h1 | h1 | h1 | h1 | h1 | h1
      all_goals omega
    · intro h0
      unfold MayT Ka Kb
      refine ⟨by omega, ?_⟩
      repeat (first | (left; omega; done) | right)
      all_goals omega
  exact (Bool.eq_iff_iff.2 (by rw [show may o d s t true n = decide (MayT o d s t n) from rfl, decide_eq_true_iff, e, decide_eq_true_iff]))
theorem may3_f (o d s t n : Int) (hd : 0 ≤ d) (hs : 0 ≤ s) (ht : 0 ≤ t) (h : o = 15) : may o d s t false n = false := by
  have e : MayF o d s t n ↔ (False) := by
    (try unfold Ka at h); (try unfold Kb at h)
    constructor
    · intro h0
      obtain ⟨h2, h1⟩ := h0
      unfold Ka Kb at h1
      rcases h1 with h1 | h1 | h1 | h1 | h1
      all_goals omega
    · intro h0
      unfold MayF Ka Kb
      exact h0.elim
  exact decide_eq_false e.1
theorem may4_t (o d s t n : Int) (hd : 0 ≤ d) (hs : 0 ≤ s) (ht : 0 ≤ t) (h : o = 17) : may o d s t true n = decide (d ≤ 6 ∧ s = 0 ∧ t = 0 ∧ -1048576 ≤ n ∧ n ≤ 1048575) := by
  have e : MayT o d s t n ↔ (d ≤ 6 ∧ s = 0 ∧ t = 0 ∧ -1048576 ≤ n ∧ n ≤ 1048575) := by
    (try unfold Ka at h); (try unfold Kb at h)
    constructor
    · intro h0
      obtain ⟨h2, h1⟩ := h0
      unfold Ka Kb at h1
      rcases h1 with h1 | h1 | h1 | h1 | h1 | h1 | h1 | h1 | h1
      all_goals omega
    · intro h0
      unfold MayT Ka Kb
      refine ⟨by omega, ?_⟩
      repeat (first | (left; omega; done) | right)
      all_goals omega
  exact (Bool.eq_iff_iff.2 (by rw [show may o d s t true n = decide (MayT o d s t n) from rfl, decide_eq_true_iff, e, decide_eq_true_iff]))
theorem may4_f (o d s t n : Int) (hd : 0 ≤ d) (hs : 0 ≤ s) (ht : 0 ≤ t) (h : o = 17) : may o d s t false n = false := by
  have e : MayF o d s t n ↔ (False) := by
    (try unfold Ka at h); (try unfold Kb at h)
    constructor
    · intro h0
      obtain ⟨h2, h1⟩ := h0
      unfold Ka Kb at h1
      rcases h1 with h1 | h1 | h1 | h1 | h1
      all_goals omega
    · intro h0
      unfold MayF Ka Kb
      exact h0.elim
  exact decide_eq_false e.1
theorem may5_t (o d s t n : Int) (hd : 0 ≤ d) (hs : 0 ≤ s) (ht : 0 ≤ t) (h : o = 18) : may o d s t true n = decide (d = 0 ∧ s = 0 ∧ t = 0 ∧ -1048576 ≤ n ∧ n ≤ 1048575) := by
  have e : MayT o d s t n ↔ (d = 0 ∧ s = 0 ∧ t = 0 ∧ -1048576 ≤ n ∧ n ≤ 1048575) := by
    (try unfold Ka at h); (try unfold Kb at h)
    constructor
    · intro h0
      obtain ⟨h2, h1⟩ := h0
      unfold Ka Kb at h1
      rcases h1 with h1 | h1 | h1 | h1 | h1 | h1 | h1 | h1 | h1
      all_goals omega
    · intro h0
      unfold MayT Ka Kb
      refine ⟨by omega, ?_⟩
      repeat (first | (left; omega; done) | right)
      all_goals omega
  exact (Bool.eq_iff_iff.2 (by rw [show may o d s t true n = decide (MayT o d s t n) from rfl, decide_eq_true_iff, e, decide_eq_true_iff]))
theorem may5_f (o d s t n : Int) (hd : 0 ≤ d) (hs : 0 ≤ s) (ht : 0 ≤ t) (h : o = 18) : may o d s t false n = false := by
  have e : MayF o d s t n ↔ (False) := by
    (try unfold Ka at h); (try unfold Kb at h)
    constructor
    · intro h0
      obtain ⟨h2, h1⟩ := h0
      unfold Ka Kb at h1
      rcases h1 with h1 | h1 | h1 | h1 | h1
      all_goals omega
    · intro h0
      unfold MayF Ka Kb
      exact h0.elim
  exact decide_eq_false e.1
theorem may6_t (o d s t n : Int) (hd : 0 ≤ d) (hs : 0 ≤ s) (ht : 0 ≤ t) (h : o = 26 ∨ o = 28 ∨ o = 34) : may o d s t true n = false := by
  have e : MayT o d s t n ↔ (False) := by
    (try unfold Ka at h); (try unfold Kb at h)
    constructor
    · intro h0
      obtain ⟨h2, h1⟩ := h0
      unfold Ka Kb at h1
      rcases h1 with h1 | h1 | h1 | h1 | h1 | h1 | h1 | h1 | h1
      all_goals omega
    · intro h0
      unfold MayT Ka Kb
      exact h0.elim
  exact decide_eq_false e.1
theorem may6_f (o d s t n : Int) (hd : 0 ≤ d) (hs : 0 ≤ s) (ht : 0 ≤ t) (h : o = 26 ∨ o = 28 ∨ o = 34) : may o d s t false n = decide (d ≤ 31 ∧ s = 0 ∧ t = 0 ∧ n = 0) := by
  have e : MayF o d s t n ↔ (d ≤ 31 ∧ s = 0 ∧ t = 0 ∧ n = 0) := by
    (try unfold Ka at h); (try unfold Kb at h)
    constructor
    · intro h0
      obtain ⟨h2, h1⟩ := h0
      unfold Ka Kb at h1
      rcases h1 with h1 | h1 | h1 | h1 | h1
      all_goals omega
    · intro h0
      unfold MayF Ka Kb
      refine ⟨by omega, ?_⟩
      repeat (first | (left; omega; done) | right)
      all_goals omega
  exact (Bool.eq_iff_iff.2 (by rw [show may o d s t false n = decide (MayF o d s t n) from rfl, decide_eq_true_iff, e, decide_eq_true_iff]))
theorem may7_t (o d s t n : Int) (hd : 0 ≤ d) (hs : 0 ≤ s) (ht : 0 ≤ t) (h : o = 30) : may o d s t true n = decide (d ≤ 31 ∧ s = 0 ∧ t = 0 ∧ 0 ≤ n ∧ n ≤ 1) := by
  have e : MayT o d s t n ↔ (d ≤ 31 ∧ s = 0 ∧ t = 0 ∧ 0 ≤ n ∧ n ≤ 1) := by
    (try unfold Ka at h); (try unfold Kb at h)
    constructor
    · intro h0
      obtain ⟨h2, h1⟩ := h0
      unfold Ka Kb at h1
      rcases h1 with h1 | h1 | h1 | h1 | h1 | h1 | h1 | h1 | h1
      all_goals omega
    · intro h0
      unfold MayT Ka Kb
      refine ⟨by omega, ?_⟩
      repeat (first | (left; omega; done) | right)
      all_goals omega
  exact (Bool.eq_iff_iff.2 (by rw [show may o d s t true n = decide (MayT o d s t n) from rfl, decide_eq_true_iff, e, decide_eq_true_iff]))
theorem may7_f (o d s t n : Int) (hd : 0 ≤ d) (hs : 0 ≤ s) (ht : 0 ≤ t) (h : o = 30) : may o d s t false n = false := by
  have e : MayF o d s t n ↔ (False) := by
    (try unfold Ka at h); (try unfold Kb at h)
    constructor
    · intro h0
      obtain ⟨h2, h1⟩ := h0
      unfold Ka Kb at h1
      rcases h1 with h1 | h1 | h1 | h1 | h1
      all_goals omega
    · intro h0
      unfold MayF Ka Kb
      exact h0.elim
  exact decide_eq_false e.1
theorem may8_t (o d s t n : Int) (hd : 0 ≤ d) (hs : 0 ≤ s) (ht : 0 ≤ t) (h : o = 31) : may o d s t true n = decide (d = 0 ∧ s ≤ 31 ∧ t = 0 ∧ 0 ≤ n ∧ n ≤ 1) := by
  have e : MayT o d s t n ↔ (d = 0 ∧ s ≤ 31 ∧ t = 0 ∧ 0 ≤ n ∧ n ≤ 1) := by
    (try unfold Ka at h); (try unfold Kb at h)
    constructor
    · intro h0
      obtain ⟨h2, h1⟩ := h0
      unfold Ka Kb at h1
      rcases h1 with h1 | h1 | h1 | h1 | h1 | h1 | h1 | h1 | h1
      all_goals omega
    · intro h0
      unfold MayT Ka Kb
      refine ⟨by omega, ?_⟩
      repeat (first | (left; omega; done) | right)
      all_goals omega
  exact (Bool.eq_iff_iff.2 (by rw [show may o d s t true n = decide (MayT o d s t n) from rfl, decide_eq_true_iff, e, decide_eq_true_iff]))
theorem may8_f (o d s t n : Int) (hd : 0 ≤ d) (hs : 0 ≤ s) (ht : 0 ≤ t) (h : o = 31) : may o d s t false n = false := by
  have e : MayF o d s t n ↔ (False) := by
    (try unfold Ka at h); (try unfold Kb at h)
    constructor
    · intro h0
      obtain ⟨h2, h1⟩ := h0
      unfold Ka Kb at h1
      rcases h1 with h1 | h1 | h1 | h1 | h1
      all_goals omega
    · intro h0
      unfold MayF Ka Kb
      exact h0.elim
  exact decide_eq_false e.1
theorem may9_t (o d s t n : Int) (hd : 0 ≤ d) (hs : 0 ≤ s) (ht : 0 ≤ t) (h : o = 33) : may o d s t true n = decide (d = 0 ∧ s = 0 ∧ t = 0 ∧ 3 ≤ n ∧ n ≤ 4) := by
  have e : MayT o d s t n ↔ (d = 0 ∧ s = 0 ∧ t = 0 ∧ 3 ≤ n ∧ n ≤ 4) := by
    (try unfold Ka at h); (try unfold Kb at h)
    constructor
    · intro h0
      obtain ⟨h2, h1⟩ := h0
      unfold Ka Kb at h1
      rcases h1 with h1 | h1 | h1 | h1 | h1 | h1 | h1 | h1 | h1
      all_goals omega
    · intro h0
      unfold MayT Ka Kb
      refine ⟨by omega, ?_⟩
      repeat (first | (left; omega; done) | right)
      all_goals omega
  exact (Bool.eq_iff_iff.2 (by rw [show may o d s t true n = decide (MayT o d s t n) from rfl, decide_eq_true_iff, e, decide_eq_true_iff]))
theorem may9_f (o d s t n : Int) (hd : 0 ≤ d) (hs : 0 ≤ s) (ht : 0 ≤ t) (h : o = 33) : may o d s t false n = false := by
  have e : MayF o d s t n ↔ (False) := by
    (try unfold Ka at h); (try unfold Kb at h)
    constructor
    · intro h0
      obtain ⟨h2, h1⟩ := h0
      unfold Ka Kb at h1
      rcases h1 with h1 | h1 | h1 | h1 | h1
      all_goals omega
    · intro h0
      unfold MayF Ka Kb
      exact h0.elim
  exact decide_eq_false e.1
theorem may10_t (o d s t n : Int) (hd : 0 ≤ d) (hs : 0 ≤ s) (ht : 0 ≤ t) (h : o = 35 ∨ o = 36) : may o d s t true n = false := by
  have e : MayT o d s t n ↔ (False) := by
    (try unfold Ka at h); (try unfold Kb at h)
    constructor
    · intro h0
      obtain ⟨h2, h1⟩ := h0
      unfold Ka Kb at h1
      rcases h1 with h1 | h1 | h1 | h1 | h1 | h1 | h1 | h1 | h1
      all_goals omega
    · intro h0
      unfold MayT Ka Kb
      exact h0.elim
  exact decide_eq_false e.1
theorem may10_f (o d s t n : Int) (hd : 0 ≤ d) (hs : 0 ≤ s) (ht : 0 ≤ t) (h : o = 35 ∨ o = 36) : may o d s t false n = decide (d = 0 ∧ s ≤ 31 ∧ t = 0 ∧ n = 0) := by
  have e : MayF o d s t n ↔ (d = 0 ∧ s ≤ 31 ∧ t = 0 ∧ n = 0) := by
    (try unfold Ka at h); (try unfold Kb at h)
    constructor
    · intro h0
      obtain ⟨h2, h1⟩ := h0
      unfold Ka Kb at h1
      rcases h1 with h1 | h1 | h1 | h1 | h1
      all_goals omega
    · intro h0
      unfold MayF Ka Kb
      refine ⟨by omega, ?_⟩
      repeat (first | (left; omega; done) | right)
      all_goals omega
  exact (Bool.eq_iff_iff.2 (by rw [show may o d s t false n = decide (MayF o d s t n) from rfl, decide_eq_true_iff, e, decide_eq_true_iff]))
theorem may11_t (o d s t n : Int) (hd : 0 ≤ d) (hs : 0 ≤ s) (ht : 0 ≤ t) (h : o = 37) : may o d s t true n = decide (d = 0 ∧ s = 0 ∧ t = 0 ∧ 1 ≤ n ∧ n ≤ 3) := by
  have e : MayT o d s t n ↔ (d = 0 ∧ s = 0 ∧ t = 0 ∧ 1 ≤ n ∧ n ≤ 3) := by
    (try unfold Ka at h); (try unfold Kb at h)
    constructor
    · intro h0
      obtain ⟨h2, h1⟩ := h0
      unfold Ka Kb at h1
      rcases h1 with h1 | h1 | h1 | h1 | h1 | h1 | h1 | h1 | h1
      all_goals omega
    · intro h0
      unfold MayT Ka Kb
      refine ⟨by omega, ?_⟩
      repeat (first | (left; omega; done) | right)
      all_goals omega
  exact (Bool.eq_iff_iff.2 (by rw [show may o d s t true n = decide (MayT o d s t n) from rfl, decide_eq_true_iff, e, decide_eq_true_iff]))
theorem may11_f (o d s t n : Int) (hd : 0 ≤ d) (hs : 0 ≤ s) (ht : 0 ≤ t) (h : o = 37) : may o d s t false n = false := by
  have e : MayF o d s t n ↔ (False) := by
    (try unfold Ka at h); (try unfold Kb at h)
    constructor
    · intro h0
      obtain ⟨h2, h1⟩ := h0
      unfold Ka Kb at h1
      rcases h1 with h1 | h1 | h1 | h1 | h1
      all_goals omega
    · intro h0
      unfold MayF Ka Kb
      exact h0.elim
  exact decide_eq_false e.1
theorem may12_t (o d s t n : Int) (hd : 0 ≤ d) (hs : 0 ≤ s) (ht : 0 ≤ t) (h : o = 32) : may o d s t true n = false := by
  have e : MayT o d s t n ↔ (False) := by
    (try unfold Ka at h); (try unfold Kb at h)
    constructor
    · intro h0
      obtain ⟨h2, h1⟩ := h0
      unfold Ka Kb at h1
      rcases h1 with h1 | h1 | h1 | h1 | h1 | h1 | h1 | h1 | h1
      all_goals omega
    · intro h0
      unfold MayT Ka Kb
      exact h0.elim
  exact decide_eq_false e.1
theorem may12_f (o d s t n : Int) (hd : 0 ≤ d) (hs : 0 ≤ s) (ht : 0 ≤ t) (h : o = 32) : may o d s t false n = decide (d = 0 ∧ s = 0 ∧ t = 0 ∧ n = 0) := by
  have e : MayF o d s t n ↔ (d = 0 ∧ s = 0 ∧ t = 0 ∧ n = 0) := by
    (try unfold Ka at h); (try unfold Kb at h)
    constructor
    · intro h0
      obtain ⟨h2, h1⟩ := h0
      unfold Ka Kb at h1
      rcases h1 with h1 | h1 | h1 | h1 | h1
      all_goals omega
    · intro h0
      unfold MayF Ka Kb
      refine ⟨by omega, ?_⟩
      repeat (first | (left; omega; done) | right)
      all_goals omega
  exact (Bool.eq_iff_iff.2 (by rw [show may o d s t false n = decide (MayF o d s t n) from rfl, decide_eq_true_iff, e, decide_eq_true_iff]))
theorem may0_t (o d s t n : Int) (hd : 0 ≤ d) (hs : 0 ≤ s) (ht : 0 ≤ t) (h : o < 1 ∨ 37 < o) : may o d s t true n = false := by
  have e : MayT o d s t n ↔ (False) := by
    (try unfold Ka at h); (try unfold Kb at h)
    constructor
    · intro h0
      obtain ⟨h2, h1⟩ := h0
      unfold Ka Kb at h1
      rcases h1 with h1 | h1 | h1 | h1 | h1 | h1 | h1 | h1 | h1
      all_goals omega
    · intro h0
      unfold MayT Ka Kb
      exact h0.elim
  exact decide_eq_false e.1
theorem may0_f (o d s t n : Int) (hd : 0 ≤ d) (hs : 0 ≤ s) (ht : 0 ≤ t) (h : o < 1 ∨ 37 < o) : may o d s t false n = false := by
  have e : MayF o d s t n ↔ (False) := by
    (try unfold Ka at h); (try unfold Kb at h)
    constructor
    · intro h0
      obtain ⟨h2, h1⟩ := h0
      unfold Ka Kb at h1
      rcases h1 with h1 | h1 | h1 | h1 | h1
      all_goals omega
    · intro h0
      unfold MayF Ka Kb
      exact h0.elim
  exact decide_eq_false e.1
end Go.Proofs.YtgbodbejcffclaaDoor.I2
