/- Package asm as it has landed: Const; a jump's closure; jumps. -/
import Derived.Test.YtgbodbejcffclaaDoorAsmConst
import Derived.Test.YtgbodbejcffclaaDoorInstKinds
import Derived.Deep.DeepCutAuto
namespace Go.Proofs.YtgbodbejcffclaaDoor.A7
open Go.RowKit Go.Maps
set_option linter.unusedVariables false
section
variable {w w' : World} {b mp : Nat} {wv jv : Value} {vs : List Value} {G K : Nat → Prop} {q : AS}
theorem Left.after {w1 : World} (g : Below w.heap.size w w1) (h : Left w1 b G K q w') : Left w b G K q w' := by
  obtain ⟨G', hA, T, low⟩ := h
  exact ⟨G', hA, (Turns.of_bel g).trans T (fun _ e => .inl e), fun i hi => (low i hi).imp id fun e => Nat.le_trans g.size e⟩
theorem AsmB.lt (h : AsmB w b G K q) : ∀ i, G i → i < w.heap.size := by obtain ⟨mp, wv, jv, vs, h⟩ := h; exact h.lt
theorem AsmB.klt (h : AsmB w b G K q) : ∀ i, K i → i < w.heap.size := by obtain ⟨mp, wv, jv, vs, h⟩ := h; exact h.klt
theorem AsmB.sub (h : AsmB w b G K q) : ∀ i, G i → K i := by obtain ⟨mp, wv, jv, vs, h⟩ := h; exact h.sub
theorem AsmB.far (h : AsmB w b G K q) : ∀ i, G i → ¬ isTab i := by obtain ⟨mp, wv, jv, vs, h⟩ := h; exact h.far
theorem AsmB.tab (h : AsmB w b G K q) : I2.Tab w := by obtain ⟨mp, wv, jv, vs, h⟩ := h; exact h.tab
theorem AsmB.ok (h : AsmB w b G K q) : AOk q := by obtain ⟨mp, wv, jv, vs, h⟩ := h; exact h.ok
theorem cX_b (rd u : Int) (i : Nat) (hr : 0 ≤ rd ∧ rd ≤ 255) (hu : 0 ≤ u ∧ u < 4294967296) : XB (cX rd u i) := by
  unfold cX
  split
  · rename_i h
    have : u ≤ 16383 ∨ 4294950912 ≤ u := of_decide_eq_true h
    exact ⟨by simp only; omega, hr, by simp only; omega, by simp only; omega, by unfold sgn; simp only; split <;> omega⟩
  · split
    · exact ⟨by simp only; omega, hr, by simp only; omega, by simp only; omega, by simp only; omega⟩
    · exact ⟨by simp only; omega, hr, hr, by simp only; omega, by simp only; omega⟩
theorem cX_may (rd u : Int) (i : Nat) (hr : 0 ≤ rd ∧ rd ≤ 255) (hu : 0 ≤ u ∧ u < 4294967296) : (cX rd u i).may = decide (rd ≤ 31) := by
  unfold cX XI.may
  split
  · rename_i h
    have h1 : u ≤ 16383 ∨ 4294950912 ≤ u := of_decide_eq_true h
    simp only
    rw [I2.mayKa_t _ _ _ _ _ hr.1 (by decide) (by decide) (by unfold I2.Ka; omega)]
    refine decide_eq_decide.2 ⟨fun h => h.1, fun h => ⟨h, by decide, rfl, ?_⟩⟩
    unfold sgn; split <;> omega
  · split
    · simp only
      rw [I2.may3_t _ _ _ _ _ hr.1 (by decide) (by decide) rfl]
      exact decide_eq_decide.2 ⟨fun h => h.1, fun h => ⟨h, rfl, rfl, by omega⟩⟩
    · simp only
      rw [I2.mayKa_t _ _ _ _ _ hr.1 hr.1 (by decide) (by unfold I2.Ka; omega)]
      exact decide_eq_decide.2 ⟨fun h => h.1, fun h => ⟨h, h, rfl, by omega⟩⟩
def AS.const (q : AS) (rd u : Int) : AS := q.adds (fun i => (cX rd u i).word) (cK u)
theorem cK_le (u : Int) : cK u ≤ 2 := by unfold cK; split <;> (try split) <;> omega
theorem cK_pos (u : Int) : 0 < cK u := by unfold cK; split <;> (try split) <;> omega
theorem NoAsm.bel {v : Value} (h : NoAsm w v) (g : Below w.heap.size w w') : NoAsm w' v := h.imp id fun ⟨b, e, hc⟩ => ⟨b, e, bel_cell g hc⟩
/-! A jump's closure. -/
theorem jmay {n : Nat} {j : AJ} (h : JOk n j) (m : Int) (h0 : -1048576 ≤ m) (h1 : m ≤ 1048575) : I2.may j.op j.rd 0 0 true m = true := by
  rcases h.op with ⟨e, r0, r1⟩ | ⟨e, r0⟩
  · rw [I2.may4_t _ _ _ _ _ r0 (by decide) (by decide) e]
    exact decide_eq_true ⟨r1, rfl, rfl, h0, h1⟩
  · rw [I2.may5_t _ _ _ _ _ (by omega) (by decide) (by decide) e]
    exact decide_eq_true ⟨r0, rfl, rfl, h0, h1⟩
theorem JOk.ob {n : Nat} {j : AJ} (h : JOk n j) : (0 ≤ j.op ∧ j.op ≤ 255) ∧ (0 ≤ j.rd ∧ j.rd ≤ 255) := by
  rcases h.op with ⟨e, r0, r1⟩ | ⟨e, r0⟩ <;> omega
/-- A cell of a row of one's own is stored. -/
theorem own_set {B : Nat} {g n c : Nat} {f : Nat → Int} (h : w.ownsRow B 49 1 (.slice (some ⟨g, 0, none⟩) n c) n (bsL .u32 f n)) (i : Nat) (hi : i < n) (u : Int) : (w.setCell ⟨g, i, none⟩ (.int .u32 u)).ownsRow B 49 1 (.slice (some ⟨g, 0, none⟩) n c) n (bsL .u32 (F3.upd f i u) n) ∧ w.grownBy (w.setCell ⟨g, i, none⟩ (.int .u32 u)) (some g) := by
  refine ⟨?_, only_cell ⟨rfl, rfl, rfl, Nat.le_refl _, fun _ _ _ => rfl⟩ i _⟩
  obtain ⟨h0, ⟨h, _⟩ | ⟨g', cap, cur, e, hB, hg, h1, h2, h3, h4⟩⟩ := h
  · cases h
  · simp only [Value.slice.injEq, Option.some.injEq, Addr.mk.injEq] at e
    obtain ⟨⟨rfl, _⟩, _, rfl⟩ := e
    refine ⟨by unfold bsL; simp, .inr ⟨g, c, cur.setIfInBounds i (.int .u32 u), rfl, hB, heap_setCell_same w g i _ _ _ hg, h1, h2, by simpa using h3, ?_⟩⟩
    apply List.ext_getElem?
    intro k
    have hk := congrArg (fun l => l[k]?) h4
    simp only [List.getElem?_take] at hk ⊢
    by_cases hkn : k < n * 1
    · rw [if_pos hkn] at hk ⊢
      simp only [Array.getElem?_toList] at hk ⊢
      rw [Array.getElem?_setIfInBounds]
      have hkn' : k < n := by omega
      have hb : ∀ f', (bsL .u32 f' n)[k]? = some (.int .u32 (f' k)) := fun f' => by unfold bsL; simp [hkn']
      rw [hb] at hk ⊢
      by_cases e : i = k
      · subst e
        rw [if_pos rfl, if_pos (by omega)]
        simp [F3.upd]
      · have e' : ¬ k = i := fun h => e h.symm
        rw [if_neg e, hk]
        simp [F3.upd, e']
    · rw [if_neg hkn, List.getElem?_eq_none (by unfold bsL; simp; omega)]
end
end Go.Proofs.YtgbodbejcffclaaDoor.A7
