/- lex (layer 12): a row of tokens laid behind a row of one's own, in an operation with a guard. -/
import Derived.Test.YtmpagjijjahohabDoorLexJoins
import Derived.Laws.OwnMore
namespace Go.Proofs.YtmpagjijjahohabDoor.L12
open Go.RowKit Go.Shelf
set_option linter.unusedVariables false
theorem tokRow_len : ∀ l : List Tok, (tokRow l).length = l.length * 5
  | [] => rfl
  | t :: l => by
    have ih := tokRow_len l
    show (tokCells t ++ tokRow l).length = _
    rw [List.length_append, ih]
    simp [tokCells]
    omega
theorem tokRow_one (l : List Tok) : ∀ v ∈ tokRow l, v.oneCell' = true := by
  intro v hv
  simp only [tokRow, List.mem_flatMap] at hv
  obtain ⟨t, _, ht⟩ := hv
  exact tok_one t v ht
theorem tok_cells {w : World} {g : Nat} {l : List Tok} (h : TokAt w (some ⟨g, 0, none⟩) l) : ∀ j u, (tokRow l)[j]? = some u → w.cell? ((⟨g, 0, none⟩ : Addr).add j) = some u := fun j u hu => by
  have hj : j < l.length * 5 := by
    rw [← tokRow_len]; exact (List.getElem?_eq_some_iff.1 hu).1
  have hq : j / 5 < l.length := by omega
  obtain ⟨t, ht⟩ : ∃ t, l[j / 5]? = some t := ⟨_, List.getElem?_eq_getElem hq⟩
  obtain ⟨g', e, q0, q1, q2, q3, q4⟩ := h (j / 5) t ht
  obtain rfl : g = g' := by simpa using e
  have hr := tokRow_get l (j / 5) (j % 5) t ht (by omega)
  rw [show j / 5 * 5 + j % 5 = j by omega, hu] at hr
  rw [add_at, Nat.zero_add]
  have hm : j % 5 = 0 ∨ j % 5 = 1 ∨ j % 5 = 2 ∨ j % 5 = 3 ∨ j % 5 = 4 := by omega
  rcases hm with hm | hm | hm | hm | hm
  all_goals
    rw [hm] at hr
    simp only [tokCells, List.getElem?_cons_zero, List.getElem?_cons_succ, Option.some.injEq] at hr
    subst hr
    first
      | (rw [show j = j / 5 * 5 by omega]; exact q0)
      | (rw [show j = j / 5 * 5 + 1 by omega]; exact q1)
      | (rw [show j = j / 5 * 5 + 2 by omega]; exact q2)
      | (rw [show j = j / 5 * 5 + 3 by omega]; exact q3)
      | (rw [show j = j / 5 * 5 + 4 by omega]; exact q4)
theorem wpList_catG {w : World} {ops : Array Oper} {rest : List Oper} {o : Oper} {a : Go.Act} {Q : Exit → Go.Act → World → Prop} (hgd : Region.wanted o (yielded ops a.tmps) = true) (sx x : Operand)
    (ho : o.op = .call { callee := .builtin .append, args := #[sx, x], argTypes := #[23, 23] }) (base : Nat) (s : Value) (n : Nat) (xs : List Value) (hs : a.eval sx = s) (hown : w.ownsRow base 33 5 s n xs) (hbase : base ≤ w.heap.size)
    (l : List Tok) (p : Option Addr) (c : Nat) (hx : a.eval x = .slice p l.length c) (ht : TokAt w p l) (hp : (p = none ∧ c = 0 ∧ l = []) ∨ ∃ g, p = some ⟨g, 0, none⟩) (hn : n + l.length ≤ 8589934592)
    (h : ∀ v' w', w'.ownsRow base 33 5 v' (n + l.length) (xs ++ tokRow l) → w.grownBy w' s.ownBlock → wpList Tryd.prog ops Q rest (a.put o.dst v') w') :
    wpList Tryd.prog ops Q (o :: rest) a w := by
  obtain ⟨i0, hi, hz0, hz1, hz2⟩ := tok_parts
  have hu : Tryd.prog.underlying 23 = some (.slice 33) := Tryd.underlying23
  refine wpList_step fun K hK => ?_
  rw [if_pos hgd]
  rcases hp with ⟨rfl, rfl, rfl⟩ | ⟨g, rfl⟩
  · have hr := run_append_owned_none (P := Tryd.prog) w base 23 o.type 33 i0 5 hu hi s n xs hown
    unfold Oper.wp execOp
    simp only [List.length_nil] at hx
    simp only [ho, resolve, invoke, builtin, Sem.run_bind, Sem.run_pure, Result.andThen_ok, List.map_toArray, List.map_cons, List.map_nil, hs, hx, hr]
    exact hK _ _ (h s w (by simpa [tokRow] using hown) ⟨rfl, rfl, rfl, Nat.le_refl _, fun _ _ _ => rfl⟩)
  · obtain ⟨v', w', hr, r1, r2, r3⟩ := run_append_own (P := Tryd.prog) w base 23 o.type 33 i0 tokZ 5 48 hu hi hz0 hz1 hz2 rfl (by decide) s n xs hown ⟨g, 0, none⟩ l.length c (tokRow l) (tokRow_len l) (tok_cells ht) (tokRow_one l) (by unfold maxLen; omega) (by omega) hbase
    unfold Oper.wp execOp
    simp only [ho, resolve, invoke, builtin, Sem.run_bind, Sem.run_pure, Result.andThen_ok, List.map_toArray, List.map_cons, List.map_nil, hs, hx, hr]
    exact hK _ _ (h v' w' r1 r2)
theorem Lex_good2 (s : List UInt8) (hs : s.length ≤ 65536) (l : List Tok) (hx : lexS s = (l, none)) (w : World) (hT : LT w) : Calls Tryd.prog 6 #[.string (St s)] w fun e w' => (∃ p c, e = .returned (.tuple #[.slice p l.length c, .agg #[.int .i64 0, .int .i64 0], .int .i64 0]) ∧ TokAt w' p l ∧ ((p = none ∧ c = 0 ∧ l = []) ∨ ∃ g, p = some ⟨g, 0, none⟩)) ∧ Below w.heap.size w w' := by
  refine (Lex_at s hs w hT).mono ?_
  rintro e w' ⟨h1, h2⟩
  rw [hx] at h2
  obtain ⟨v, rfl, hv⟩ := h2
  obtain ⟨p, c, rfl, hp⟩ := TokAt.of hv
  refine ⟨⟨p, c, rfl, hp, ?_⟩, h1⟩
  obtain ⟨_, ⟨e, e0⟩ | ⟨g, cap, _, e, _⟩⟩ := hv
  · simp only [Value.slice.injEq] at e
    exact .inl ⟨e.1, e.2.2, List.eq_nil_of_length_eq_zero e0⟩
  · simp only [Value.slice.injEq] at e
    exact .inr ⟨g, e.1⟩
theorem grown_below {A B : World} {r : Option Nat} {base : Nat} (q : A.grownBy B r) (hr : ∀ g, r = some g → base ≤ g) (hb : base ≤ A.heap.size) : Below base A B :=
  ⟨q.os, q.tape, q.output, q.size, fun k hk => q.block k (by omega) (fun e => by have := hr k e.symm; omega)⟩
theorem TokAt.blw {w w' : World} {p : Option Addr} {l : List Tok} {n : Nat} (h : TokAt w p l) (hn : ∀ g, p = some ⟨g, 0, none⟩ → g < n) (k : Below n w w') : TokAt w' p l := fun j t hj => by
  obtain ⟨g, a0, a1, a2, a3, a4, a5⟩ := h j t hj
  have hg := hn g a0
  have e := k.block g hg
  exact ⟨g, a0, (World.cell?_of_block (a := ⟨g, j * 5, none⟩) e).trans a1, (World.cell?_of_block (a := ⟨g, j * 5 + 1, none⟩) e).trans a2, (World.cell?_of_block (a := ⟨g, j * 5 + 2, none⟩) e).trans a3, (World.cell?_of_block (a := ⟨g, j * 5 + 3, none⟩) e).trans a4, (World.cell?_of_block (a := ⟨g, j * 5 + 4, none⟩) e).trans a5⟩
theorem tokW_len {x y : List UInt8} {k v : Nat} (h : tokW x = some (k, y, v)) : y.length ≤ x.length := by
  unfold tokW at h
  split at h
  · simp at h; rw [← h.2.1]; exact Nat.le_refl _
  · split at h
    · simp at h; rw [← h.2.1]; exact Nat.le_refl _
    · split at h
      · simp at h; rw [← h.2.1]; exact Nat.le_refl _
      · split at h
        · simp at h; rw [← h.2.1]; exact Nat.le_refl _
        · split at h
          · simp at h; rw [← h.2.1, List.length_take]; omega
          · split at h
            · simp at h; rw [← h.2.1]; exact Nat.le_refl _
            · cases h
theorem lexW_text (n M : Nat) : ∀ ws : List (Nat × List UInt8), (∀ x ∈ ws, x.2.length ≤ M) → ∀ t ∈ (lexW n ws).1, t.text.length ≤ M
  | [], _, t, ht => by simp [lexW] at ht
  | (c, x) :: ws, h, t, ht => by
    have ih := lexW_text n M ws fun y hy => h y (by simp [hy])
    simp only [lexW] at ht
    cases hx : tokW x with
    | none => rw [hx] at ht; simp at ht
    | some p =>
      obtain ⟨k, y, v⟩ := p
      rw [hx] at ht
      rcases List.mem_cons.1 ht with rfl | ht
      · exact Nat.le_trans (tokW_len hx) (h (c, x) (by simp))
      · exact ih t ht
theorem lexL_text (M : Nat) : ∀ L : List (Nat × List UInt8), (∀ x ∈ L, x.2.length ≤ M) → ∀ t ∈ (lexL L).1, t.text.length ≤ M
  | [], _, t, ht => by simp [lexL] at ht
  | (n, x) :: L, h, t, ht => by
    have ih := lexL_text M L fun y hy => h y (by simp [hy])
    have hx : x.length ≤ M := h (n, x) (by simp)
    have hw := lexW_text n M (wds 1 [] x) fun y hy => by have := wds_mem _ _ _ y hy; simp at this; omega
    simp only [lexL] at ht
    generalize lexW n (wds 1 [] x) = q at ht hw
    obtain ⟨a, _ | e⟩ := q
    · simp only [List.mem_append, List.mem_cons, List.not_mem_nil, or_false] at ht
      rcases ht with (ht | rfl) | ht
      · exact hw t ht
      · exact Nat.zero_le _
      · exact ih t ht
    · exact hw t ht
theorem txtL_len (M : Nat) : ∀ l : List Tok, (∀ t ∈ l, t.text.length ≤ M) → (txtL l).length ≤ l.length * (M + 2)
  | [], _ => by simp [txtL]
  | t :: l, h => by
    have ih := txtL_len M l fun y hy => h y (by simp [hy])
    have ht := h t (by simp)
    simp only [txtL, List.length_cons, Nat.add_mul]
    split
    · simp only [List.length_cons]; omega
    · simp only [List.length_append]
      have h1 : (if t.kind = 1 then [58] else ([] : List UInt8)).length ≤ 1 := by split <;> simp
      generalize (if t.kind = 1 then [58] else ([] : List UInt8)) = z at h1 ⊢
      cases l with
      | nil => simp only [List.length_nil] at ih ⊢; omega
      | cons u l =>
        simp only [] at ih ⊢
        have h2 : (if u.kind = 6 then ([] : List UInt8) else [32]).length ≤ 1 := by split <;> simp
        omega
theorem lexS_size {s : List UInt8} {l : List Tok} (hs : s.length ≤ 4000) (h : lexS s = (l, none)) : l.length ≤ 262148000 ∧ (txtL l).length ≤ 1049116296000 := by
  unfold lexS at h
  have h1 := lexL_len (lns 1 (chk [] s)) fun x hx => Nat.le_trans (lines_bound hx) (by omega)
  have h2 := lines_count s
  have h3 := lexL_text s.length (lns 1 (chk [] s)) fun x hx => lines_bound hx
  rw [h] at h1 h3
  simp only [] at h1 h3
  have h4 := txtL_len s.length l h3
  have h5 : l.length ≤ s.length * 65537 := Nat.le_trans h1 (Nat.mul_le_mul_right _ h2)
  have h6 : l.length ≤ 262148000 := by omega
  refine ⟨h6, Nat.le_trans h4 ?_⟩
  have := Nat.mul_le_mul h6 (show s.length + 2 ≤ 4002 by omega)
  omega
end Go.Proofs.YtmpagjijjahohabDoor.L12
