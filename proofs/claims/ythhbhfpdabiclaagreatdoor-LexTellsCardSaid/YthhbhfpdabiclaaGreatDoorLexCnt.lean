/- lex (layer 12): what comes of a prefix of the words, of the lines; how much it is. -/
import Derived.Test.YthhbhfpdabiclaaGreatDoorLexLines
namespace Go.Proofs.YthhbhfpdabiclaaGreatDoor.L12
set_option linter.unusedVariables false
theorem lexW_snoc {n c : Nat} {x : List UInt8} : ∀ {pre : List (Nat × List UInt8)} {tk : List Tok}, lexW n pre = (tk, none) →
    lexW n (pre ++ [(c, x)]) = match tokW x with | none => (tk, some (n, c)) | some (k, y, v) => (tk ++ [⟨k, y, v, n, c⟩], none)
  | [], tk, h => by
    simp only [lexW, Prod.mk.injEq] at h
    obtain rfl := h.1
    simp only [List.nil_append, lexW]
    cases hx : tokW x with
    | none => rfl
    | some p => obtain ⟨k, y, v⟩ := p; rfl
  | (c', x') :: pre, tk, h => by
    simp only [lexW] at h
    simp only [List.cons_append, lexW]
    cases hx : tokW x' with
    | none => rw [hx] at h; simp at h
    | some p =>
      obtain ⟨k, y, v⟩ := p
      rw [hx] at h
      simp only [Prod.mk.injEq] at h
      obtain ⟨rfl, h2⟩ := h
      have ih := lexW_snoc (c := c) (x := x) (pre := pre) (tk := (lexW n pre).1) (Prod.ext rfl h2)
      simp only []
      rw [ih]
      cases tokW x with
      | none => rfl
      | some p => obtain ⟨k, y, v⟩ := p; rfl
theorem lexW_pre {n : Nat} {r : List (Nat × List UInt8)} {e : Nat × Nat} : ∀ {pre : List (Nat × List UInt8)} {tk : List Tok}, lexW n pre = (tk, some e) → lexW n (pre ++ r) = (tk, some e)
  | [], tk, h => by simp [lexW] at h
  | (c', x') :: pre, tk, h => by
    simp only [lexW] at h
    simp only [List.cons_append, lexW]
    cases hx : tokW x' with
    | none => rw [hx] at h; exact h
    | some p =>
      obtain ⟨k, y, v⟩ := p
      rw [hx] at h
      simp only [Prod.mk.injEq] at h
      obtain ⟨rfl, h2⟩ := h
      have ih := lexW_pre (r := r) (pre := pre) (tk := (lexW n pre).1) (Prod.ext rfl h2)
      simp only []
      rw [ih]
theorem lexL_snoc {n : Nat} {x : List UInt8} : ∀ {pre : List (Nat × List UInt8)} {tk : List Tok}, lexL pre = (tk, none) →
    lexL (pre ++ [(n, x)]) = match lexW n (wds 1 [] x) with | (a, some e) => (tk ++ a, some e) | (a, none) => (tk ++ a ++ [⟨6, [], 0, n, x.length + 1⟩], none)
  | [], tk, h => by
    simp only [lexL, Prod.mk.injEq] at h
    obtain rfl := h.1
    simp only [List.nil_append, lexL]
    generalize lexW n (wds 1 [] x) = q
    obtain ⟨a, _ | e⟩ := q
    · simp
    · rfl
  | (n', x') :: pre, tk, h => by
    simp only [lexL] at h
    simp only [List.cons_append, lexL]
    generalize lexW n' (wds 1 [] x') = q at h
    obtain ⟨a, _ | e⟩ := q
    · simp only [Prod.mk.injEq] at h
      obtain ⟨rfl, h2⟩ := h
      have ih := lexL_snoc (n := n) (x := x) (pre := pre) (tk := (lexL pre).1) (Prod.ext rfl h2)
      simp only []
      rw [ih]
      generalize lexW n (wds 1 [] x) = q
      obtain ⟨b, _ | e⟩ := q
      · simp
      · simp
    · simp at h
theorem lexL_pre {r : List (Nat × List UInt8)} {e : Nat × Nat} : ∀ {pre : List (Nat × List UInt8)} {tk : List Tok}, lexL pre = (tk, some e) → lexL (pre ++ r) = (tk, some e)
  | [], tk, h => by simp [lexL] at h
  | (n', x') :: pre, tk, h => by
    simp only [lexL] at h
    simp only [List.cons_append, lexL]
    generalize lexW n' (wds 1 [] x') = q at h
    obtain ⟨a, _ | e'⟩ := q
    · simp only [Prod.mk.injEq] at h
      obtain ⟨rfl, h2⟩ := h
      have ih := lexL_pre (r := r) (pre := pre) (tk := (lexL pre).1) (Prod.ext rfl h2)
      simp only []
      rw [ih]
    · exact h
theorem lexW_len (n : Nat) : ∀ ws : List (Nat × List UInt8), (lexW n ws).1.length ≤ ws.length
  | [] => by simp [lexW]
  | (c, x) :: t => by
    have ih := lexW_len n t
    simp only [lexW]
    cases tokW x with
    | none => simp
    | some p => obtain ⟨k, y, v⟩ := p; simp; exact ih
theorem wds_len : ∀ (l cur : List UInt8) (c : Nat), (wds c cur l).length ≤ l.length + (if cur = [] then 0 else 1)
  | [], cur, c => by
    unfold wds
    split <;> simp [*]
  | b :: t, cur, c => by
    unfold wds
    split
    · split
      · next h => have := wds_len t [] (c + 1); simp at this ⊢; omega
      · next h => have := wds_len t [] (c + 1); simp at this ⊢; omega
    · have := wds_len t (cur ++ [b]) (c + 1)
      have h1 : cur ++ [b] ≠ [] := by simp
      rw [if_neg h1] at this
      simp only [List.length_cons]
      split <;> omega
theorem lexL_len : ∀ L : List (Nat × List UInt8), (∀ x ∈ L, x.2.length ≤ 65536) → (lexL L).1.length ≤ L.length * 65537
  | [], _ => by simp [lexL]
  | (n, x) :: t, h => by
    have ih := lexL_len t fun y hy => h y (by simp [hy])
    have h1 := lexW_len n (wds 1 [] x)
    have h2 := wds_len x [] 1
    have h3 : x.length ≤ 65536 := h (n, x) (by simp)
    simp only [if_true] at h2
    simp only [lexL, List.length_cons]
    generalize lexW n (wds 1 [] x) = q at h1
    obtain ⟨a, _ | e⟩ := q
    · simp only [List.length_append, List.length_cons, List.length_nil] at h1 ⊢
      omega
    · simp only [] at h1 ⊢
      omega
theorem strip_len (l : List UInt8) : (strip l).length ≤ l.length := by
  unfold strip Lib.trimSuffix
  split
  · simp
  · exact Nat.le_refl _
theorem lns_mem : ∀ (L : List (List UInt8)) (n : Nat), ∀ x ∈ lns n L, ∃ ch ∈ L, x.2 = strip ch
  | [], n, x, h => by simp [lns] at h
  | ch :: t, n, x, h => by
    unfold lns at h
    split at h
    · obtain ⟨c, h1, h2⟩ := lns_mem t (n + 1) x h
      exact ⟨c, by simp [h1], h2⟩
    · rcases List.mem_cons.1 h with rfl | h
      · exact ⟨ch, by simp, rfl⟩
      · obtain ⟨c, h1, h2⟩ := lns_mem t (n + 1) x h
        exact ⟨c, by simp [h1], h2⟩
theorem lns_len : ∀ (L : List (List UInt8)) (n : Nat), (lns n L).length ≤ L.length
  | [], n => by simp [lns]
  | ch :: t, n => by
    have ih := lns_len t (n + 1)
    unfold lns
    split <;> simp <;> omega
/-- What a source's lines are bounded by. -/
theorem lines_bound {s : List UInt8} {x : Nat × List UInt8} (h : x ∈ lns 1 (chk [] s)) : x.2.length ≤ s.length := by
  obtain ⟨ch, h1, h2⟩ := lns_mem _ _ x h
  rw [h2]
  exact Nat.le_trans (strip_len ch) (chk_mem h1)
theorem lines_count (s : List UInt8) : (lns 1 (chk [] s)).length ≤ s.length := Nat.le_trans (lns_len _ _) (chk_count s)
end Go.Proofs.YthhbhfpdabiclaaGreatDoor.L12
