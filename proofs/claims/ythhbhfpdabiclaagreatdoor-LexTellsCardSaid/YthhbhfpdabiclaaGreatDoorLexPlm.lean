/- lex (layer 12): where a source's tokens stand, and where its first fault is. -/
import Derived.Test.YthhbhfpdabiclaaGreatDoorLexAgm
namespace Go.Proofs.YthhbhfpdabiclaaGreatDoor.L12
set_option linter.unusedVariables false
def toNl (l : List UInt8) : Nat := (l.takeWhile (· != 10)).length
/-- Where a line begins. -/
def offL (s : List UInt8) : Nat → Nat
  | 0 => 0
  | k + 1 => offL s k + toNl (s.drop (offL s k)) + 1
theorem takeWhile_all {p : UInt8 → Bool} : ∀ {a T : List UInt8}, (∀ b ∈ a, p b = true) → (∀ b, T.head? = some b → p b = false) → (a ++ T).takeWhile p = a := fun {a T} h hT => by
  rw [List.takeWhile_append_of_pos h]
  cases T with
  | nil => simp
  | cons x T => rw [List.takeWhile_cons, if_neg (by simp [hT x rfl])]; simp
theorem offL_mono (s : List UInt8) (k : Nat) : ∀ d, offL s k ≤ offL s (k + d)
  | 0 => Nat.le_refl _
  | d + 1 => by
    have := offL_mono s k d
    show _ ≤ offL s (k + d) + toNl (s.drop (offL s (k + d))) + 1
    omega
theorem offL_lt {s : List UInt8} {k n : Nat} (h : k < n) : offL s k + toNl (s.drop (offL s k)) + 1 ≤ offL s n := by
  have := offL_mono s (k + 1) (n - (k + 1))
  rw [show k + 1 + (n - (k + 1)) = n by omega] at this
  exact this
/-- The next byte's line and column. -/
def At (s : List UInt8) (n c : Nat) (pre l : List UInt8) : Prop := s = pre ++ l ∧ 1 ≤ n ∧ 1 ≤ c ∧ offL s (n - 1) + (c - 1) = pre.length ∧ ∀ b ∈ pre.drop (offL s (n - 1)), b ≠ 10
theorem At.start (s : List UInt8) : At s 1 1 [] s := ⟨rfl, Nat.le_refl _, Nat.le_refl _, rfl, by simp⟩
theorem At.byte {s pre t : List UInt8} {n c : Nat} {b : UInt8} (h : At s n c pre (b :: t)) (hb : b ≠ 10) : At s n (c + 1) (pre ++ [b]) t := by
  obtain ⟨h1, h2, h3, h4, h5⟩ := h
  refine ⟨by rw [h1]; simp, h2, by omega, by simp; omega, fun x hx => ?_⟩
  rw [List.drop_append_of_le_length (by omega)] at hx
  rcases List.mem_append.1 hx with hx | hx
  · exact h5 x hx
  · simp at hx; subst hx; exact hb
theorem At.line {s pre t : List UInt8} {n c : Nat} (h : At s n c pre (10 :: t)) : At s (n + 1) 1 (pre ++ [10]) t := by
  obtain ⟨h1, h2, h3, h4, h5⟩ := h
  have e : offL s n = pre.length + 1 := by
    obtain ⟨k, rfl⟩ : ∃ k, n = k + 1 := ⟨n - 1, by omega⟩
    simp only [Nat.add_sub_cancel] at h4 h5
    show offL s k + toNl (s.drop (offL s k)) + 1 = _
    have : s.drop (offL s k) = pre.drop (offL s k) ++ 10 :: t := by rw [h1, List.drop_append_of_le_length (by rw [← h1]; omega), ← h1]
    rw [this]
    unfold toNl
    rw [takeWhile_all (fun b hb => by simpa using h5 b hb) (fun b hb => by simp at hb; subst hb; rfl), List.length_drop]
    omega
  refine ⟨by rw [h1]; simp, by omega, Nat.le_refl _, by simp [e], fun x hx => ?_⟩
  rw [Nat.add_sub_cancel, e, List.drop_eq_nil_of_le (by simp)] at hx
  simp at hx
/-- A token's place. -/
def PosOk (s : List UInt8) (t : Tok) (a : Nat) : Prop := 1 ≤ t.line ∧ 1 ≤ t.col ∧ offL s (t.line - 1) + (t.col - 1) = a ∧ a ≤ s.length ∧ t.text <+: s.drop a
/-- Places that rise. -/
def Rises (s : List UInt8) : Nat → List Tok → Prop
  | _, [] => True
  | i, t :: r => ∃ a, i ≤ a ∧ PosOk s t a ∧ Rises s (a + 1) r
theorem Rises.mono {s : List UInt8} {i j : Nat} (h : j ≤ i) : ∀ {l : List Tok}, Rises s i l → Rises s j l
  | [], _ => trivial
  | t :: r, ⟨a, h1, h2, h3⟩ => ⟨a, Nat.le_trans h h1, h2, h3⟩
theorem At.posOk {s pre l y : List UInt8} {n c k v : Nat} (h : At s n c pre l) (hy : y <+: l) : PosOk s ⟨k, y, v, n, c⟩ pre.length := by
  obtain ⟨h1, h2, h3, h4, h5⟩ := h
  refine ⟨h2, h3, h4, by rw [h1]; simp, ?_⟩
  show y <+: s.drop pre.length
  rw [h1, List.drop_left]
  exact hy
theorem rises (s : List UInt8) : ∀ (l pre : List UInt8) (n c : Nat) (sm no pw : Bool), At s n c pre l → Rises s pre.length (refL n c sm no pw l).1
  | [], pre, n, c, sm, no, pw, h => by
    cases sm
    · exact trivial
    · exact ⟨pre.length, Nat.le_refl _, h.posOk (List.nil_prefix), trivial⟩
  | b :: t, pre, n, c, sm, no, pw, h => by
    simp only [refL]
    by_cases hb : b = 10
    · subst hb
      rw [if_pos rfl]
      have ih := rises s t _ (n + 1) 1 false false false h.line
      rw [List.length_append] at ih
      cases sm
      · exact ih.mono (by simp)
      · exact ⟨pre.length, Nat.le_refl _, h.posOk (List.nil_prefix), ih⟩
    · rw [if_neg hb]
      have hl : (pre ++ [b]).length = pre.length + 1 := by simp
      have go : ∀ sm no pw, Rises s (pre.length + 1) (refL n (c + 1) sm no pw t).1 := fun sm no pw => by
        have := rises s t _ n (c + 1) sm no pw (h.byte hb)
        rwa [hl] at this
      split
      · exact (go _ _ _).mono (by omega)
      · split
        · exact (go _ _ _).mono (by omega)
        · split
          · exact (go _ _ _).mono (by omega)
          · cases hk : tokW ((b :: t).takeWhile inW) with
            | none => exact trivial
            | some p =>
              obtain ⟨k, y, v⟩ := p
              have hy : y <+: b :: t := by
                have e := (tokW_word hk).1
                have h1 : y <+: (b :: t).takeWhile inW := ⟨_, e⟩
                exact h1.trans (List.takeWhile_prefix _)
              exact ⟨pre.length, Nat.le_refl _, h.posOk hy, go _ _ _⟩
theorem tw_more {p : List UInt8} (q : List UInt8) (h : ∃ x ∈ p, inW x = false) : (p ++ q).takeWhile inW = p.takeWhile inW := by
  induction p with
  | nil => obtain ⟨x, hx, _⟩ := h; simp at hx
  | cons b p ih =>
    rw [List.cons_append, List.takeWhile_cons, List.takeWhile_cons]
    by_cases hb : inW b = true
    · rw [if_pos hb, if_pos hb, ih]
      obtain ⟨x, hx, hn⟩ := h
      rcases List.mem_cons.1 hx with rfl | hx
      · rw [hb] at hn; cases hn
      · exact ⟨x, hx, hn⟩
    · rw [if_neg hb, if_neg hb]
/-- What is ahead of the first fault. -/
theorem bad_place (s : List UInt8) : ∀ (l pre : List UInt8) (n c : Nat) (sm no pw : Bool) (e : Nat × Nat), At s n c pre l → (refL n c sm no pw l).2 = some e →
    ∃ p q, l = p ++ q ∧ q ≠ [] ∧ (refL n c sm no pw p).2 = none ∧ (refL n c sm no pw p).1.length ≤ p.length + (if sm && !pw then 1 else 0) ∧ (pw = true → ∃ x ∈ p, inW x = false) ∧ 1 ≤ e.1 ∧ 1 ≤ e.2 ∧ offL s (e.1 - 1) + (e.2 - 1) = (pre ++ p).length
  | [], pre, n, c, sm, no, pw, e, h, he => by simp [refL] at he
  | b :: t, pre, n, c, sm, no, pw, e, h, he => by
    simp only [refL] at he
    by_cases hb : b = 10
    · subst hb
      rw [if_pos rfl] at he
      obtain ⟨p, q, h1, h2, h3, h4, h5, h6, h7, h8⟩ := bad_place s t _ (n + 1) 1 false false false e h.line he
      refine ⟨10 :: p, q, by rw [h1]; rfl, h2, ?_, ?_, fun _ => ⟨10, by simp, rfl⟩, h6, h7, by rw [h8]; simp⟩
      · simp only [refL, if_true]; exact h3
      · simp only [refL, if_true, List.length_append, List.length_cons]
        cases sm <;> cases pw <;> simp [fin] at h4 ⊢ <;> omega
    · rw [if_neg hb] at he
      have go : ∀ sm no pw, (refL n (c + 1) sm no pw t).2 = some e → _ := fun sm no pw he => bad_place s t _ n (c + 1) sm no pw e (h.byte hb) he
      by_cases hw : isW b = true
      · rw [if_pos hw] at he
        obtain ⟨p, q, h1, h2, h3, h4, h5, h6, h7, h8⟩ := go _ _ _ he
        refine ⟨b :: p, q, by rw [h1]; rfl, h2, ?_, ?_, fun _ => ⟨b, by simp, by unfold inW; simp [hw]⟩, h6, h7, by rw [h8]; simp⟩
        · simp only [refL]; rw [if_neg hb, if_pos hw]; exact h3
        · simp only [refL]; rw [if_neg hb, if_pos hw, List.length_cons]
          cases sm <;> cases pw <;> simp at h4 ⊢ <;> omega
      · rw [if_neg hw] at he
        have hi : inW b = true := by unfold inW; simp [hb, hw]
        by_cases hn : (no || pw) = true
        · rw [if_pos hn] at he
          obtain ⟨p, q, h1, h2, h3, h4, h5, h6, h7, h8⟩ := go _ _ _ he
          obtain ⟨x, hx, hx2⟩ := h5 rfl
          refine ⟨b :: p, q, by rw [h1]; rfl, h2, ?_, ?_, fun _ => ⟨x, by simp [hx], hx2⟩, h6, h7, by rw [h8]; simp⟩
          · simp only [refL]; rw [if_neg hb, if_neg hw, if_pos hn]; exact h3
          · simp only [refL]; rw [if_neg hb, if_neg hw, if_pos hn, List.length_cons]
            simp only [Bool.not_true, Bool.and_false, Bool.false_eq_true, if_false] at h4
            omega
        · rw [if_neg hn] at he
          have hp0 : pw = false := by cases pw with | false => rfl | true => simp at hn
          subst hp0
          by_cases hh : (!sm && b == 35) = true
          · rw [if_pos hh] at he
            obtain ⟨p, q, h1, h2, h3, h4, h5, h6, h7, h8⟩ := go _ _ _ he
            refine ⟨b :: p, q, by rw [h1]; rfl, h2, ?_, ?_, fun h => (by cases h), h6, h7, by rw [h8]; simp⟩
            · simp only [refL]; rw [if_neg hb, if_neg hw, if_neg hn, if_pos hh]; exact h3
            · simp only [refL]; rw [if_neg hb, if_neg hw, if_neg hn, if_pos hh, List.length_cons]
              simp only [Bool.not_true, Bool.and_false, Bool.false_eq_true, if_false] at h4
              omega
          · rw [if_neg hh] at he
            cases hk : tokW ((b :: t).takeWhile inW) with
            | none =>
              rw [hk] at he
              simp only [Option.some.injEq] at he
              subst he
              obtain ⟨_, a2, a3, a4, _⟩ := h
              refine ⟨[], b :: t, rfl, by simp, rfl, ?_, fun h => (by cases h), a2, a3, by simpa using a4⟩
              cases sm <;> simp [refL, fin]
            | some w =>
              obtain ⟨k, y, v⟩ := w
              rw [hk] at he
              obtain ⟨p, q, h1, h2, h3, h4, h5, h6, h7, h8⟩ := go _ _ _ he
              obtain ⟨x, hx, hx2⟩ := h5 rfl
              have ew : (b :: p).takeWhile inW = (b :: t).takeWhile inW := by
                rw [h1]
                exact (tw_more (p := b :: p) q ⟨x, by simp [hx], hx2⟩).symm
              refine ⟨b :: p, q, by rw [h1]; rfl, h2, ?_, ?_, fun h => (by cases h), h6, h7, by rw [h8]; simp⟩
              · simp only [refL]; rw [if_neg hb, if_neg hw, if_neg hn, if_neg hh, ew, hk]; exact h3
              · simp only [refL]; rw [if_neg hb, if_neg hw, if_neg hn, if_neg hh, ew, hk]
                simp only [List.length_cons]
                simp only [Bool.not_true, Bool.and_false, Bool.false_eq_true, if_false] at h4
                cases sm <;> simp <;> omega
theorem lex_rises {s : List UInt8} {l : List Tok} {e : Option (Nat × Nat)} (h : lexS s = (l, e)) : Rises s 0 l := by
  rw [← ref_is] at h
  have := rises s s [] 1 1 false false false (At.start s)
  rw [h] at this
  exact this
theorem lex_fault {s : List UInt8} {l : List Tok} {n c : Nat} (h : lexS s = (l, some (n, c))) : ∃ p q m, s = p ++ q ∧ q ≠ [] ∧ lexS p = (m, none) ∧ m.length ≤ p.length ∧ 1 ≤ n ∧ 1 ≤ c ∧ offL s (n - 1) + (c - 1) = p.length := by
  rw [← ref_is] at h
  obtain ⟨p, q, h1, h2, h3, h4, _, h6, h7, h8⟩ := bad_place s s [] 1 1 false false false (n, c) (At.start s) (by rw [h])
  exact ⟨p, q, _, h1, h2, by rw [← ref_is]; exact Prod.ext rfl h3, by simpa using h4, h6, h7, by simpa using h8⟩
end Go.Proofs.YthhbhfpdabiclaaGreatDoor.L12
