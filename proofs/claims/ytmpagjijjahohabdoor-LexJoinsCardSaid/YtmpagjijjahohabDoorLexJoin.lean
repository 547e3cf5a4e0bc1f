/- lex (layer 12): two sources, one behind the other. -/
import Derived.Test.YtmpagjijjahohabDoorLexSame
namespace Go.Proofs.YtmpagjijjahohabDoor.L12
set_option linter.unusedVariables false
theorem chk_join (b : List UInt8) : ∀ (a cur : List UInt8), chk cur (a ++ 10 :: b) = chk cur (a ++ [10]) ++ chk [] b
  | [], cur => by simp [chk]
  | x :: t, cur => by
    simp only [List.cons_append, chk]
    split
    · rw [chk_join b t []]; simp
    · exact chk_join b t _
theorem strip_add (c : List UInt8) : strip (c ++ [10]) = c := by
  unfold strip Lib.trimSuffix Lib.hasSuffix
  rw [if_pos (by rw [List.isSuffixOf_iff_suffix]; exact ⟨c, rfl⟩)]
  simp
theorem strip_no {c : List UInt8} (h : ∀ b ∈ c, b ≠ 10) : strip c = c := by
  unfold strip Lib.trimSuffix Lib.hasSuffix
  rw [if_neg]
  rw [List.isSuffixOf_iff_suffix]
  rintro ⟨t, ht⟩
  exact h 10 (by rw [← ht]; simp) rfl
theorem lns_nl : ∀ (a cur : List UInt8) (n : Nat), (∀ b ∈ cur, b ≠ 10) → lns n (chk cur (a ++ [10])) = lns n (chk cur a)
  | [], cur, n, h => by
    simp only [List.nil_append, chk, if_true]
    by_cases hc : cur = []
    · subst hc
      simp [lns]
      have := strip_add []
      simp only [List.nil_append] at this
      rw [this]
      simp [emptyL, Lib.trimLeftS]
    · rw [if_neg hc]
      simp only [lns, strip_add, strip_no h]
  | x :: t, cur, n, h => by
    simp only [List.cons_append, chk]
    split
    · simp only [lns]
      rw [lns_nl t [] (n + 1) (by simp)]
    · next hx =>
      exact lns_nl t _ n (fun b hb => by
        rcases List.mem_append.1 hb with hb | hb
        · exact h b hb
        · simp at hb; subst hb; exact hx)
theorem lns_snd : ∀ (L : List (List UInt8)) (n m : Nat), (lns n L).map Prod.snd = (lns m L).map Prod.snd
  | [], n, m => rfl
  | c :: t, n, m => by
    have ih := lns_snd t (n + 1) (m + 1)
    simp only [lns]
    split
    · exact ih
    · simp only [List.map_cons]; rw [ih]
theorem lexW_bare : ∀ (ws : List (Nat × List UInt8)) (n m : Nat), (lexW n ws).1.map bare = (lexW m ws).1.map bare ∧ (lexW n ws).2.isSome = (lexW m ws).2.isSome
  | [], n, m => ⟨rfl, rfl⟩
  | (c, x) :: t, n, m => by
    have ih := lexW_bare t n m
    simp only [lexW]
    cases tokW x with
    | none => exact ⟨rfl, rfl⟩
    | some p =>
      obtain ⟨k, y, v⟩ := p
      refine ⟨?_, ih.2⟩
      simp only [List.map_cons]
      rw [ih.1]
      rfl
theorem lexL_bare : ∀ (L M : List (Nat × List UInt8)), L.map Prod.snd = M.map Prod.snd → (lexL L).1.map bare = (lexL M).1.map bare ∧ (lexL L).2.isSome = (lexL M).2.isSome
  | [], [], _ => ⟨rfl, rfl⟩
  | [], _ :: _, h => by simp at h
  | _ :: _, [], h => by simp at h
  | (n, x) :: L, (m, y) :: M, h => by
    simp only [List.map_cons, List.cons.injEq] at h
    obtain ⟨h1, h2⟩ := h
    subst h1
    have ih := lexL_bare L M h2
    have hw := lexW_bare (wds 1 [] x) n m
    simp only [lexL]
    generalize lexW n (wds 1 [] x) = p at hw
    generalize lexW m (wds 1 [] x) = q at hw
    obtain ⟨a, _ | e⟩ := p <;> obtain ⟨b, _ | f⟩ := q
    · refine ⟨?_, ih.2⟩
      simp only [List.map_append, ih.1]
      have := hw.1
      simp only [] at this
      rw [this]
      rfl
    · simp at hw
    · simp at hw
    · exact ⟨hw.1, rfl⟩
theorem lexL_append {q : List (Nat × List UInt8)} : ∀ {p : List (Nat × List UInt8)} {t : List Tok}, lexL p = (t, none) → lexL (p ++ q) = (t ++ (lexL q).1, (lexL q).2)
  | [], t, h => by
    simp only [lexL, Prod.mk.injEq] at h
    obtain rfl := h.1
    simp
  | (n, x) :: p, t, h => by
    simp only [lexL] at h
    simp only [List.cons_append, lexL]
    generalize lexW n (wds 1 [] x) = r at h
    obtain ⟨a, _ | e⟩ := r
    · simp only [Prod.mk.injEq] at h
      obtain ⟨rfl, h2⟩ := h
      have ih := lexL_append (q := q) (p := p) (t := (lexL p).1) (Prod.ext rfl h2)
      simp only []
      rw [ih]
      simp
    · simp at h
/-- The lines of two sources, one behind the other. -/
theorem lines_join (a b : List UInt8) : ∃ m, lns 1 (chk [] (a ++ 10 :: b)) = lns 1 (chk [] a) ++ lns m (chk [] b) :=
  ⟨_, by rw [chk_join, lns_append, lns_nl a [] 1 (by simp)]⟩
theorem join_good {a b : List UInt8} {ta tb : List Tok} (ha : lexS a = (ta, none)) (hb : lexS b = (tb, none)) : ∃ tz, lexS (a ++ 10 :: b) = (tz, none) ∧ tz.map bare = (ta ++ tb).map bare := by
  obtain ⟨m, hm⟩ := lines_join a b
  unfold lexS at ha hb ⊢
  rw [hm, lexL_append ha]
  have h := lexL_bare (lns m (chk [] b)) (lns 1 (chk [] b)) (lns_snd _ _ _)
  rw [hb] at h
  refine ⟨_, Prod.ext rfl ?_, ?_⟩
  · have := h.2
    simp only [] at this ⊢
    cases hh : (lexL (lns m (chk [] b))).2 with
    | none => rfl
    | some e => rw [hh] at this; simp at this
  · rw [List.map_append, h.1, List.map_append]
theorem join_bad {a b : List UInt8} (h : (lexS a).2 ≠ none ∨ (lexS b).2 ≠ none) : ∃ n c, (lexS (a ++ 10 :: b)).2 = some (n, c) := by
  obtain ⟨m, hm⟩ := lines_join a b
  unfold lexS at h ⊢
  rw [hm]
  cases ha : lexL (lns 1 (chk [] a)) with
  | mk t e =>
    cases e with
    | some e => rw [lexL_pre ha]; exact ⟨_, _, rfl⟩
    | none =>
      rw [ha] at h
      rw [lexL_append ha]
      have hb := (lexL_bare (lns m (chk [] b)) (lns 1 (chk [] b)) (lns_snd _ _ _)).2
      rcases h with h | h
      · exact (h rfl).elim
      · cases hh : (lexL (lns m (chk [] b))).2 with
        | some e => exact ⟨e.1, e.2, rfl⟩
        | none =>
          rw [hh] at hb
          cases hk : (lexL (lns 1 (chk [] b))).2 with
          | none => exact (h hk).elim
          | some e => rw [hk] at hb; simp at hb
theorem txtL_bare : ∀ (l m : List Tok), l.map bare = m.map bare → txtL l = txtL m
  | [], [], _ => rfl
  | [], _ :: _, h => by simp at h
  | _ :: _, [], h => by simp at h
  | x :: l, y :: m, h => by
    simp only [List.map_cons, List.cons.injEq, bare, Prod.mk.injEq] at h
    obtain ⟨⟨h1, h2, h3⟩, h4⟩ := h
    have ih := txtL_bare l m h4
    simp only [txtL]
    rw [h1, h2, ih]
    cases l with
    | nil =>
      cases m with
      | nil => rfl
      | cons v m => simp at h4
    | cons u l =>
      cases m with
      | nil => simp at h4
      | cons v m =>
        simp only [List.map_cons, List.cons.injEq, bare, Prod.mk.injEq] at h4
        simp only []
        rw [h4.1.1]
/-- The last token ends a line. -/
def EndsB : List Tok → Prop
  | [] => True
  | [t] => t.kind = 6
  | _ :: r => EndsB r
theorem ends_snoc (t : Tok) (h : t.kind = 6) : ∀ l : List Tok, EndsB (l ++ [t])
  | [] => h
  | [x] => h
  | x :: y :: l => ends_snoc t h (y :: l)
theorem ends_append : ∀ (l m : List Tok), EndsB l → EndsB m → EndsB (l ++ m)
  | [], m, _, h => h
  | [x], m, h1, h2 => by
    cases m with
    | nil => exact h1
    | cons y m => exact h2
  | x :: y :: l, m, h1, h2 => ends_append (y :: l) m h1 h2
theorem lexL_ends : ∀ L : List (Nat × List UInt8), (lexL L).2 = none → EndsB (lexL L).1
  | [], _ => trivial
  | (n, x) :: L, h => by
    have ih := lexL_ends L
    simp only [lexL] at h ⊢
    generalize lexW n (wds 1 [] x) = r at h
    obtain ⟨a, _ | e⟩ := r
    · exact ends_append _ _ (ends_snoc _ rfl a) (ih h)
    · simp at h
theorem txtL_append : ∀ (l m : List Tok), EndsB l → txtL (l ++ m) = txtL l ++ txtL m
  | [], m, _ => rfl
  | [x], m, h => by
    have h6 : x.kind = 6 := h
    simp [txtL, h6]
  | x :: y :: l, m, h => by
    have ih := txtL_append (y :: l) m h
    simp only [List.cons_append] at ih ⊢
    rw [txtL, ih]
    conv => rhs; rw [txtL]
    split <;> simp
end Go.Proofs.YtmpagjijjahohabDoor.L12
