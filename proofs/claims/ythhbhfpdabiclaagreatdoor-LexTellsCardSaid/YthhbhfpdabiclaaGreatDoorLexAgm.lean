/- lex (layer 12): a source's tokens, written, are the same tokens; white and empty lines that are put between change none but its place. -/
import Derived.Test.YthhbhfpdabiclaaGreatDoorLexPass
import Derived.Test.YthhbhfpdabiclaaGreatDoorLexNum
import Derived.Test.YthhbhfpdabiclaaGreatDoorLexSame
namespace Go.Proofs.YthhbhfpdabiclaaGreatDoor.L12
set_option linter.unusedVariables false
/-- A token's word. -/
def wordOf (t : Tok) : List UInt8 := t.text ++ (if t.kind = 1 then [58] else [])
theorem tokW_word {x y : List UInt8} {k v : Nat} (h : tokW x = some (k, y, v)) : y ++ (if k = 1 then [58] else []) = x ∧ k ≠ 6 := by
  unfold tokW at h
  split at h
  · simp only [Option.some.injEq, Prod.mk.injEq] at h
    obtain ⟨rfl, rfl, _⟩ := h; simp
  · split at h
    · simp only [Option.some.injEq, Prod.mk.injEq] at h
      obtain ⟨rfl, rfl, _⟩ := h; simp
    · split at h
      · simp only [Option.some.injEq, Prod.mk.injEq] at h
        obtain ⟨rfl, rfl, _⟩ := h; simp
      · split at h
        · simp only [Option.some.injEq, Prod.mk.injEq] at h
          obtain ⟨rfl, rfl, _⟩ := h; simp
        · split at h
          · rename_i hc
            simp only [Option.some.injEq, Prod.mk.injEq] at h
            simp only [Bool.and_eq_true] at hc
            obtain ⟨rfl, rfl, _⟩ := h
            obtain ⟨a, ha⟩ := List.isSuffixOf_iff_suffix.1 hc.1
            refine ⟨?_, by decide⟩
            rw [if_pos rfl, ← ha]
            simp
          · split at h
            · simp only [Option.some.injEq, Prod.mk.injEq] at h
              obtain ⟨rfl, rfl, _⟩ := h; simp
            · cases h
theorem tokW_hash (t : List UInt8) : tokW (35 :: t) = none := by
  have h1 : regL (35 :: t) = none := by unfold regL; exact if_neg (by decide)
  have h2 : numberL (35 :: t) = none := by
    show (if (35 : UInt8) = 45 then (numL t 1 2147483648).map (4294967296 - ·) else numL (35 :: t) 0 4294967295) = none
    rw [if_neg (by decide)]
    exact num_noref (fun h => absurd (h.2.1 35 (by simp)) (by decide)) _ _ (by decide)
  have h3 : ∀ u : List UInt8, nameL (35 :: u) = false := fun u => by
    unfold nameL
    have : isL 35 = false := by decide
    simp [this]
  have h4 : nameL ((35 :: t).take ((35 :: t).length - 1)) = false := by
    cases t with
    | nil => rfl
    | cons a b => exact h3 _
  unfold tokW
  rw [if_neg (by simp), if_neg (by simp), h1, h2, h4, h3]
  simp
/-- Tokens as they come of lines; sm: the line has one already. -/
def GoodL : Bool → List Tok → Prop
  | sm, [] => sm = false
  | sm, t :: r => if t.kind = 6 then (t.text = [] ∧ t.num = 0 ∧ sm = true) ∧ GoodL false r else (tokW (wordOf t) = some (t.kind, t.text, t.num) ∧ wordOf t ≠ [] ∧ ∀ b ∈ wordOf t, inW b = true) ∧ GoodL true r
theorem good_of : ∀ (l : List UInt8) (n c : Nat) (sm no pw : Bool), (refL n c sm no pw l).2 = none → GoodL sm (refL n c sm no pw l).1
  | [], n, c, sm, no, pw, _ => by
    cases sm
    · exact rfl
    · show GoodL true [_]
      unfold GoodL
      rw [if_pos rfl]
      exact ⟨⟨rfl, rfl, rfl⟩, rfl⟩
  | b :: t, n, c, sm, no, pw, h => by
    simp only [refL] at h ⊢
    by_cases hb : b = 10
    · rw [if_pos hb] at h ⊢
      have ih := good_of t (n + 1) 1 false false false h
      cases sm
      · exact ih
      · show GoodL true (_ :: _)
        unfold GoodL
        rw [if_pos rfl]
        exact ⟨⟨rfl, rfl, rfl⟩, ih⟩
    · rw [if_neg hb] at h ⊢
      by_cases hw : isW b = true
      · rw [if_pos hw] at h ⊢
        exact good_of t _ _ _ _ _ h
      · rw [if_neg hw] at h ⊢
        by_cases hn : (no || pw) = true
        · rw [if_pos hn] at h ⊢
          exact good_of t _ _ _ _ _ h
        · rw [if_neg hn] at h ⊢
          by_cases hh : (!sm && b == 35) = true
          · rw [if_pos hh] at h ⊢
            have hs : sm = false := by simp at hh; exact hh.1
            subst hs
            exact good_of t _ _ _ _ _ h
          · rw [if_neg hh] at h ⊢
            cases hk : tokW ((b :: t).takeWhile inW) with
            | none => rw [hk] at h; cases h
            | some p =>
              obtain ⟨k, y, v⟩ := p
              rw [hk] at h
              obtain ⟨e1, e2⟩ := tokW_word hk
              have ew : wordOf ⟨k, y, v, n, c⟩ = (b :: t).takeWhile inW := e1
              show GoodL sm (_ :: _)
              unfold GoodL
              rw [if_neg e2, ew]
              have hi : inW b = true := by unfold inW; simp [hb, hw]
              refine ⟨⟨hk, by rw [List.takeWhile_cons, hi]; simp, fun x hx => takeWhile_imp _ _ _ hx⟩, good_of t _ _ _ _ _ h⟩
theorem run_word (n : Nat) (sm no : Bool) (T : List UInt8) : ∀ (w : List UInt8) (c : Nat), (∀ b ∈ w, inW b = true) → refL n c sm no true (w ++ T) = refL n (c + w.length) sm no true T
  | [], c, _ => rfl
  | b :: w, c, h => by
    have hb := h b (by simp)
    have ih := run_word n sm no T w (c + 1) fun x hx => h x (by simp [hx])
    unfold inW at hb
    simp only [Bool.and_eq_true, Bool.not_eq_true', bne_iff_ne, ne_eq] at hb
    rw [List.cons_append]
    simp only [refL]
    rw [if_neg hb.2, if_neg (by simp [hb.1]), if_pos (by simp), ih]
    congr 1
    simp only [List.length_cons]; omega
theorem tw_stop {w T : List UInt8} (hw : ∀ b ∈ w, inW b = true) (hT : T.takeWhile inW = []) : (w ++ T).takeWhile inW = w := by
  rw [List.takeWhile_append_of_pos hw, hT, List.append_nil]
theorem ref_word {w T : List UInt8} {k v : Nat} {y : List UInt8} (hk : tokW w = some (k, y, v)) (h0 : w ≠ []) (hw : ∀ b ∈ w, inW b = true) (hT : T.takeWhile inW = []) (n c : Nat) (sm : Bool) :
    refL n c sm false false (w ++ T) = (⟨k, y, v, n, c⟩ :: (refL n (c + w.length) true false true T).1, (refL n (c + w.length) true false true T).2) := by
  cases w with
  | nil => exact absurd rfl h0
  | cons b w =>
    have hb := hw b (by simp)
    have hb' := hb
    unfold inW at hb'
    simp only [Bool.and_eq_true, Bool.not_eq_true', bne_iff_ne, ne_eq] at hb'
    have h35 : ¬ b = 35 := fun e => by rw [e, tokW_hash] at hk; cases hk
    have e1 : (b :: (w ++ T)).takeWhile inW = b :: w := tw_stop (w := b :: w) hw hT
    have e2 := run_word n true false T w (c + 1) fun x hx => hw x (by simp [hx])
    rw [List.cons_append]
    simp only [refL]
    rw [if_neg hb'.2, if_neg (by simp [hb'.1]), if_neg (by simp), if_neg (by simp [h35]), e1, hk, e2]
    have : c + 1 + w.length = c + (b :: w).length := by simp only [List.length_cons]; omega
    rw [this]
theorem again : ∀ (l : List Tok) (n c : Nat) (sm : Bool), GoodL sm l → (refL n c sm false false (txtL l)).1.map bare = l.map bare ∧ (refL n c sm false false (txtL l)).2 = none
  | [], n, c, sm, h => by
    have hs : sm = false := h
    subst hs
    exact ⟨rfl, rfl⟩
  | t :: r, n, c, sm, h => by
    unfold GoodL at h
    by_cases h6 : t.kind = 6
    · rw [if_pos h6] at h
      obtain ⟨⟨h1, h2, h3⟩, h4⟩ := h
      subst h3
      have ih := again r (n + 1) 1 false h4
      have e : txtL (t :: r) = 10 :: txtL r := by simp only [txtL]; rw [if_pos h6]
      rw [e]
      simp only [refL, if_true, fin]
      refine ⟨?_, ih.2⟩
      rw [List.cons_append, List.nil_append, List.map_cons, List.map_cons, ih.1]
      simp only [bare, h6, h1, h2]
    · rw [if_neg h6] at h
      obtain ⟨⟨h1, h2, h3⟩, h4⟩ := h
      cases r with
      | nil => exact absurd (show true = false from h4) (by decide)
      | cons u r =>
        by_cases u6 : u.kind = 6
        · have e : txtL (t :: u :: r) = wordOf t ++ txtL (u :: r) := by
            conv => lhs; rw [txtL]
            rw [if_neg h6]; rw [if_pos u6]; simp [wordOf]
          have e10 : txtL (u :: r) = 10 :: txtL r := by simp only [txtL]; rw [if_pos u6]
          have ih := again (u :: r) n (c + (wordOf t).length) true h4
          have hs : (txtL (u :: r)).takeWhile inW = [] := by rw [e10, List.takeWhile_cons]; rfl
          have hp : refL n (c + (wordOf t).length) true false true (txtL (u :: r)) = refL n (c + (wordOf t).length) true false false (txtL (u :: r)) := by rw [e10]; simp only [refL, if_true]
          rw [e, ref_word h1 h2 h3 hs, hp]
          refine ⟨?_, ih.2⟩
          rw [List.map_cons, ih.1]
          rfl
        · have e : txtL (t :: u :: r) = wordOf t ++ (32 :: txtL (u :: r)) := by
            conv => lhs; rw [txtL]
            rw [if_neg h6]; rw [if_neg u6]; simp [wordOf]
          have ih := again (u :: r) n (c + (wordOf t).length + 1) true h4
          have hp : refL n (c + (wordOf t).length) true false true (32 :: txtL (u :: r)) = refL n (c + (wordOf t).length + 1) true false false (txtL (u :: r)) := by
            conv => lhs; rw [refL]
            rw [if_neg (by decide), if_pos (by decide)]
          rw [e, ref_word h1 h2 h3 (by rw [List.takeWhile_cons]; rfl), hp]
          refine ⟨?_, ih.2⟩
          rw [List.map_cons, ih.1]
          rfl
theorem txt_cons (t : Tok) (r : List Tok) (h : t.kind ≠ 6) : ∃ sp : List UInt8, sp.length ≤ 1 ∧ txtL (t :: r) = wordOf t ++ sp ++ txtL r := by
  cases r with
  | nil =>
    refine ⟨[], by simp, ?_⟩
    conv => lhs; rw [txtL]
    rw [if_neg h]; rfl
  | cons u r =>
    refine ⟨if u.kind = 6 then [] else [32], by split <;> simp, ?_⟩
    conv => lhs; rw [txtL]
    rw [if_neg h]; rfl
/-- How long what is written is. -/
theorem txt_len : ∀ (l : List UInt8) (n c : Nat) (sm no pw : Bool), (txtL (refL n c sm no pw l).1).length ≤ 3 * (if pw then (l.dropWhile inW).length else l.length) + (if sm then 1 else 0)
  | [], n, c, sm, no, pw => by cases sm <;> cases pw <;> simp [refL, fin, txtL]
  | b :: t, n, c, sm, no, pw => by
    have hd : (t.dropWhile inW).length ≤ t.length := (List.dropWhile_sublist _).length_le
    have hd2 : inW b = false → ((b :: t).dropWhile inW).length = t.length + 1 := fun h => by rw [List.dropWhile_cons, if_neg (by simp [h])]; rfl
    have hd3 : inW b = true → ((b :: t).dropWhile inW).length = (t.dropWhile inW).length := fun h => by rw [List.dropWhile_cons, if_pos h]
    have hl : (b :: t).length = t.length + 1 := rfl
    simp only [refL]
    by_cases hb : b = 10
    · rw [if_pos hb]
      have ih := txt_len t (n + 1) 1 false false false
      have := hd2 (by unfold inW; simp [hb])
      rw [this, hl]
      cases sm <;> cases pw <;> simp [fin, txtL] at ih ⊢ <;> omega
    · rw [if_neg hb]
      by_cases hw : isW b = true
      · rw [if_pos hw]
        have ih := txt_len t n (c + 1) sm no false
        have := hd2 (by unfold inW; simp [hw])
        rw [this, hl]
        cases sm <;> cases pw <;> simp at ih ⊢ <;> omega
      · rw [if_neg hw]
        have hi : inW b = true := by unfold inW; simp [hb, hw]
        rw [hd3 hi, hl]
        by_cases hn : (no || pw) = true
        · rw [if_pos hn]
          have ih := txt_len t n (c + 1) sm no true
          cases sm <;> cases pw <;> simp at ih ⊢ <;> omega
        · rw [if_neg hn]
          have hp : pw = false := by cases pw with | false => rfl | true => simp at hn
          subst hp
          by_cases hh : (!sm && b == 35) = true
          · rw [if_pos hh]
            have ih := txt_len t n (c + 1) sm true true
            cases sm <;> simp at ih ⊢ <;> omega
          · rw [if_neg hh]
            cases hk : tokW ((b :: t).takeWhile inW) with
            | none => simp [txtL]
            | some p =>
              obtain ⟨k, y, v⟩ := p
              obtain ⟨e1, e2⟩ := tokW_word hk
              have ih := txt_len t n (c + 1) true no true
              simp only [if_true] at ih
              have e3 := congrArg List.length e1
              have e4 : ((b :: t).takeWhile inW).length + ((b :: t).dropWhile inW).length = t.length + 1 := by rw [← List.length_append, List.takeWhile_append_dropWhile]; rfl
              rw [hd3 hi] at e4
              have e5 : 1 ≤ ((b :: t).takeWhile inW).length := by rw [List.takeWhile_cons, if_pos hi]; simp
              simp only
              generalize (refL n (c + 1) true no true t).1 = R at ih
              obtain ⟨sp, hsp, hx⟩ := txt_cons ⟨k, y, v, n, c⟩ R e2
              have : (txtL (⟨k, y, v, n, c⟩ :: R)).length ≤ ((b :: t).takeWhile inW).length + 1 + (txtL R).length := by
                have ew : wordOf ⟨k, y, v, n, c⟩ = (b :: t).takeWhile inW := e1
                rw [hx, ew, List.length_append, List.length_append]
                omega
              simp only [Bool.false_eq_true, if_false]
              omega
/-- A byte, with white put to it. -/
def putW (gap : List UInt8) (b : UInt8) : List UInt8 := if b = 10 then gap ++ [10, 10, 32, 35, 32, 123, 32, 63, 10] else if b = 32 then gap else [b]
theorem run_gap (n : Nat) (sm no : Bool) (T : List UInt8) : ∀ (g : List UInt8) (c : Nat) (pw : Bool), g ≠ [] → (∀ b ∈ g, isW b = true) → refL n c sm no pw (g ++ T) = refL n (c + g.length) sm no false T
  | [], _, _, h, _ => absurd rfl h
  | b :: g, c, pw, _, h => by
    have hb := h b (by simp)
    have h10 : ¬ b = 10 := fun e => by rw [e] at hb; exact absurd hb (by decide)
    rw [List.cons_append]
    simp only [refL]
    rw [if_neg h10, if_pos hb]
    by_cases hg : g = []
    · subst hg; rfl
    · rw [run_gap n sm no T g (c + 1) false hg fun x hx => h x (by simp [hx])]
      congr 1
      simp only [List.length_cons]; omega
theorem tw_gap {g T : List UInt8} (h0 : g ≠ []) (h : ∀ b ∈ g, isW b = true) : (g ++ T).takeWhile inW = [] := by
  cases g with
  | nil => exact absurd rfl h0
  | cons b g =>
    have hb := h b (by simp)
    rw [List.cons_append, List.takeWhile_cons, if_neg (by unfold inW; simp [hb])]
theorem tw_put {gap : List UInt8} (h0 : gap ≠ []) (h : ∀ b ∈ gap, isW b = true) : ∀ l : List UInt8, (l.flatMap (putW gap) ++ [10, 35]).takeWhile inW = l.takeWhile inW
  | [] => rfl
  | b :: t => by
    have ih := tw_put h0 h t
    rw [List.flatMap_cons, List.append_assoc]
    unfold putW
    by_cases h10 : b = 10
    · rw [if_pos h10, List.append_assoc, tw_gap h0 h, List.takeWhile_cons, if_neg (by unfold inW; simp [h10])]
    · rw [if_neg h10]
      by_cases h32 : b = 32
      · rw [if_pos h32, tw_gap h0 h, List.takeWhile_cons, if_neg (by rw [h32]; decide)]
      · rw [if_neg h32, List.cons_append, List.nil_append, List.takeWhile_cons, List.takeWhile_cons]
        rw [show (List.flatMap (fun b => if b = 10 then gap ++ [10, 10, 32, 35, 32, 123, 32, 63, 10] else if b = 32 then gap else [b]) t) = t.flatMap (putW gap) from rfl, ih]
theorem put_same {gap : List UInt8} (h0 : gap ≠ []) (h : ∀ b ∈ gap, isW b = true) : ∀ (l : List UInt8) (n c m d : Nat) (sm no pw : Bool),
    (refL m d sm no pw (l.flatMap (putW gap) ++ [10, 35])).1.map bare = (refL n c sm no pw l).1.map bare ∧ (refL m d sm no pw (l.flatMap (putW gap) ++ [10, 35])).2.isSome = (refL n c sm no pw l).2.isSome
  | [], n, c, m, d, sm, no, pw => by cases sm <;> exact ⟨rfl, rfl⟩
  | b :: t, n, c, m, d, sm, no, pw => by
    have tw := tw_put h0 h (b :: t)
    rw [List.flatMap_cons, List.append_assoc] at tw ⊢
    by_cases h10 : b = 10
    · subst h10
      have e : putW gap 10 = gap ++ [10, 10, 32, 35, 32, 123, 32, 63, 10] := rfl
      obtain ⟨i1, i2⟩ := put_same h0 h t (n + 1) 1 (m + 1 + 1 + 1) 1 false false false
      have ee : ∀ k, refL m k sm no false ([10, 10, 32, 35, 32, 123, 32, 63, 10] ++ (t.flatMap (putW gap) ++ [10, 35])) = (fin sm m k ++ (refL (m + 1 + 1 + 1) 1 false false false (t.flatMap (putW gap) ++ [10, 35])).1, (refL (m + 1 + 1 + 1) 1 false false false (t.flatMap (putW gap) ++ [10, 35])).2) := fun k => by
        simp [refL, isW, fin]
      rw [e, List.append_assoc, run_gap m sm no _ gap d pw h0 h, ee]
      have e2 : refL n c sm no pw (10 :: t) = (fin sm n c ++ (refL (n + 1) 1 false false false t).1, (refL (n + 1) 1 false false false t).2) := by simp only [refL, if_true]
      rw [e2]
      refine ⟨?_, i2⟩
      rw [List.map_append, List.map_append, i1]
      congr 1
      cases sm <;> rfl
    · by_cases h32 : b = 32
      · subst h32
        have e : putW gap 32 = gap := rfl
        rw [e, run_gap m sm no _ gap d pw h0 h]
        have e2 : refL n c sm no pw (32 :: t) = refL n (c + 1) sm no false t := by
          conv => lhs; rw [refL]
          rw [if_neg (by decide), if_pos (by decide)]
        rw [e2]
        exact put_same h0 h t _ _ _ _ _ _ _
      · have e : putW gap b = [b] := by unfold putW; rw [if_neg h10, if_neg h32]
        rw [e, List.cons_append, List.nil_append] at tw ⊢
        simp only [refL]
        rw [if_neg h10, if_neg h10]
        by_cases hw : isW b = true
        · rw [if_pos hw, if_pos hw]
          exact put_same h0 h t _ _ _ _ _ _ _
        · rw [if_neg hw, if_neg hw]
          by_cases hn : (no || pw) = true
          · rw [if_pos hn, if_pos hn]
            exact put_same h0 h t _ _ _ _ _ _ _
          · rw [if_neg hn, if_neg hn]
            by_cases hh : (!sm && b == 35) = true
            · rw [if_pos hh, if_pos hh]
              exact put_same h0 h t _ _ _ _ _ _ _
            · rw [if_neg hh, if_neg hh, tw]
              cases tokW ((b :: t).takeWhile inW) with
              | none => exact ⟨rfl, rfl⟩
              | some p =>
                obtain ⟨k, y, v⟩ := p
                obtain ⟨i1, i2⟩ := put_same h0 h t n (c + 1) m (d + 1) true no true
                refine ⟨?_, i2⟩
                simp only [List.map_cons]
                rw [i1]
                rfl
theorem none_of {o p : Option (Nat × Nat)} (h : o.isSome = p.isSome) (hp : p = none) : o = none := by
  subst hp
  cases o with
  | none => rfl
  | some e => simp at h
/-- What is written is the same again. -/
theorem lex_again {s : List UInt8} {l : List Tok} (h : lexS s = (l, none)) : ∃ m, lexS (txtL l) = (m, none) ∧ m.map bare = l.map bare := by
  rw [← ref_is] at h
  have hg := good_of s 1 1 false false false (by rw [h])
  rw [h] at hg
  obtain ⟨i1, i2⟩ := again l 1 1 false hg
  exact ⟨_, by rw [← ref_is]; exact Prod.ext rfl i2, i1⟩
theorem txt_size {s : List UInt8} {l : List Tok} {e : Option (Nat × Nat)} (h : lexS s = (l, e)) : (txtL l).length ≤ 3 * s.length := by
  rw [← ref_is] at h
  have := txt_len s 1 1 false false false
  rw [h] at this
  simpa using this
/-- How many tokens there are. -/
theorem cnt_len : ∀ (l : List UInt8) (n c : Nat) (sm no pw : Bool), (refL n c sm no pw l).1.length ≤ 2 * l.length + (if sm then 1 else 0)
  | [], n, c, sm, no, pw => by cases sm <;> simp [refL, fin]
  | b :: t, n, c, sm, no, pw => by
    have hl : (b :: t).length = t.length + 1 := rfl
    simp only [refL]
    rw [hl]
    split
    · have ih := cnt_len t (n + 1) 1 false false false
      cases sm <;> simp [fin] at ih ⊢ <;> omega
    · split
      · have ih := cnt_len t n (c + 1) sm no false
        omega
      · split
        · have ih := cnt_len t n (c + 1) sm no true
          omega
        · split
          · have ih := cnt_len t n (c + 1) sm true true
            omega
          · cases tokW ((b :: t).takeWhile inW) with
            | none => simp
            | some p =>
              have ih := cnt_len t n (c + 1) true no true
              simp only [if_true] at ih
              simp only [List.length_cons]
              omega
theorem lex_count {s : List UInt8} {l : List Tok} {e : Option (Nat × Nat)} (h : lexS s = (l, e)) : l.length ≤ 2 * s.length := by
  rw [← ref_is] at h
  have := cnt_len s 1 1 false false false
  rw [h] at this
  simpa using this
/-- White put between. -/
def moreL (gap s : List UInt8) : List UInt8 := [35, 32, 120, 10] ++ gap ++ [10] ++ s.flatMap (putW gap)
theorem lex_more {gap s : List UInt8} {l : List Tok} (h0 : gap ≠ []) (hg : ∀ b ∈ gap, isW b = true) (h : lexS s = (l, none)) : ∃ m, lexS (moreL gap s ++ [10, 35]) = (m, none) ∧ m.map bare = l.map bare := by
  rw [← ref_is] at h
  obtain ⟨i1, i2⟩ := put_same h0 hg s 1 1 3 1 false false false
  rw [h] at i1 i2
  have e : refL 1 1 false false false (moreL gap s ++ [10, 35]) = refL 3 1 false false false (s.flatMap (putW gap) ++ [10, 35]) := by
    unfold moreL
    simp only [List.append_assoc]
    have e1 : ∀ T, refL 1 1 false false false ([35, 32, 120, 10] ++ T) = refL 2 1 false false false T := fun T => by simp [refL, isW, fin]
    have e2 : ∀ k T, refL 2 k false false false ([10] ++ T) = refL 3 1 false false false T := fun k T => by simp [refL, fin]
    rw [e1, run_gap 2 false false _ gap 1 false h0 hg, e2]
  exact ⟨_, by rw [← ref_is, e]; exact Prod.ext rfl (none_of i2 rfl), i1⟩
end Go.Proofs.YthhbhfpdabiclaaGreatDoor.L12
