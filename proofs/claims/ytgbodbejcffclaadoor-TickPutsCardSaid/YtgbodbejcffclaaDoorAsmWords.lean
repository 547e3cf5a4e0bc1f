/- Package asm as it has landed: Jump, Call, Words. -/
import Derived.Test.YtgbodbejcffclaaDoorAsmJumps
import Derived.Laws.AppendOwn
import Derived.Lib.SliceRun
namespace Go.Proofs.YtgbodbejcffclaaDoor.A7
open Go.RowKit Go.Maps
set_option linter.unusedVariables false
section
variable {w w2 : World} {b mp : Nat} {wv jv : Value} {vs : List Value} {G K : Nat → Prop} {q : AS}
theorem xb_jump (o d : Int) (ho : 0 ≤ o ∧ o ≤ 255) (hd : 0 ≤ d ∧ d ≤ 255) : XB ⟨o, d, 0, 0, true, 0⟩ := ⟨ho, hd, by simp only; omega, by simp only; omega, by simp only; omega⟩
theorem eq_nil (a : Option Addr) (n c n' c' : Nat) (W : World) : (binOp .eql 29 (.slice a n c) (.slice none n' c')).run Tryd.prog W = .ok (.bool a.isNone) W := Lib.run_eql_slice_nil W _ _ a n c n' c' words_under
theorem bsL_one (f : Nat → Int) (n : Nat) : ∀ u ∈ bsL .u32 f n, u.oneCell' = true := by
  intro u hu
  simp [bsL] at hu
  obtain ⟨i, _, rfl⟩ := hu
  rfl
theorem own_cell {B : Nat} {t : TypeId} {g n c : Nat} {xs : List Value} (h : w.ownsRow B t 1 (.slice (some ⟨g, 0, none⟩) n c) n xs) : ∀ (j : Nat) (u : Value), xs[j]? = some u → w.cell? ⟨g, 0 + j, none⟩ = some u := by
  obtain ⟨h0, ⟨h, _⟩ | ⟨g', cap, cur, e, hB, hg, h1, h2, h3, h4⟩⟩ := h
  · cases h
  · simp only [Value.slice.injEq, Option.some.injEq, Addr.mk.injEq] at e
    obtain ⟨⟨rfl, _⟩, _, rfl⟩ := e
    intro j u hu
    have hj : j < n * 1 := by
      rcases Nat.lt_or_ge j (n * 1) with h | h
      · exact h
      · rw [List.getElem?_eq_none (by omega)] at hu; cases hu
    rw [Nat.zero_add]
    rw [← h4, List.getElem?_take, if_pos hj] at hu
    exact row_cell hg (by simpa using hu)
set_option maxRecDepth 10000 in
theorem cloneW_at {s : Value} {n : Nat} {f : Nat → Int} (own : w.ownsRow 0 49 1 s n (bsL .u32 f n)) (hn : n ≤ 100000) :
    Calls Tryd.prog 22 #[s] w fun e w' => ∃ v, e = .returned v ∧ w'.ownsRow w.heap.size 49 1 v n (bsL .u32 f n) ∧ Below w.heap.size w w' := by
  obtain ⟨i0, hi, hz0, hz1, hz2⟩ := info_parts words_parts
  have hq := eq_nil
  rcases own_of own with ⟨rfl, rfl⟩ | ⟨g, c, rfl⟩
  · clear own
    go_enter Tryd.func22, Tryd.ntmps22
    go_wp2
    go_ret
    exact ⟨_, rfl, World.ownsRow_nil _ _ _ _, Below.refl _ _⟩
  · have hnews : Hid (∀ (j : Nat) (u : Value), (bsL .u32 f n)[j]? = some u → (w.alloc (.cells #[] 49)).cell? ((⟨g, 0, none⟩ : Addr).add j) = some u) := fun j u hj => by
      rw [add_off]
      exact bel_cell ((Below.refl _ _).alloc (Nat.le_refl _) _) (own_cell own j u hj)
    clear own
    go_enter Tryd.func22, Tryd.ntmps22
    go_wp2_with (at_builtin; refine wpList_append_own _ rfl _ _ 29 rfl w.heap.size 49 i0 (.int .u32 0) 1 4 words_under hi hz0 hz1 hz2 rfl (by decide) _ _ _ rfl (World.ownsRow_made w #[] 0 (Nat.le_refl _) (Nat.zero_le _) (by simp)) ⟨g, 0, none⟩ n c (bsL .u32 f n) rfl ?qc1 ?qc2 ?qc3 ?qc4 ?qc5 ?qc6 ?_)
    case qc1 => unfold bsL; simp
    case qc2 => exact hnews.out
    case qc3 => exact bsL_one f n
    case qc4 => unfold maxLen; omega
    case qc5 => omega
    case qc6 => simp
    intro v' w1 hown hgrow hnil
    have X : Hid (w1.ownsRow w.heap.size 49 1 v' n (bsL .u32 f n) ∧ Below w.heap.size w w1) := ⟨by simpa using hown, ((Below.refl _ w).alloc (Nat.le_refl _) _).grown hgrow (by simp) (by intro k hk; simp [Value.ownBlock] at hk; omega)⟩
    clear hown hgrow hnil
    go_wp2
    go_ret
    exact ⟨_, rfl, X.out.1, X.out.2⟩
theorem look_mem (l : List (ByteArray × Nat)) (s : ByteArray) (t : Nat) : look l s = some t → ∃ p ∈ l, p.2 = t := by
  refine snocs (P := fun l => look l s = some t → ∃ p ∈ l, p.2 = t) (fun h => by simp [look_nil] at h) (fun l x ih h => ?_) l
  obtain ⟨k, v⟩ := x
  rw [look_snoc] at h
  by_cases e : k = s
  · rw [if_pos e] at h
    injection h with h
    exact ⟨(k, v), by simp, h⟩
  · rw [if_neg e] at h
    obtain ⟨p, hp, e2⟩ := ih h
    exact ⟨p, List.mem_append_left _ hp, e2⟩
theorem Words_no (v : Value) (w : World) (h : NoAsm w v) : Calls Tryd.prog 10 #[v] w fun e w' => e = .returned (.tuple #[.slice none 0 0, .int .i64 1]) ∧ w' = w := by
  have H := Lib.hid h
  clear h
  go_enter Tryd.func10, Tryd.ntmps10
  go_wp2_with fail
  refine (isObject_no _ _ H.out).mono ?_; rintro e w1 ⟨rfl, rfl⟩
  go_wp2_with fail
  go_ret2
  exact ⟨rfl, rfl⟩
end
end Go.Proofs.YtgbodbejcffclaaDoor.A7
