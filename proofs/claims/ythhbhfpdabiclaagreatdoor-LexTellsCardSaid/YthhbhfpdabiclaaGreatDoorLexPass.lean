/- lex (layer 12): a source's tokens in one pass, byte by byte, are those of its lines and words. -/
import Derived.Test.YthhbhfpdabiclaaGreatDoorLexMath
namespace Go.Proofs.YthhbhfpdabiclaaGreatDoor.L12
set_option linter.unusedVariables false
def fin (sm : Bool) (n c : Nat) : List Tok := if sm then [⟨6, [], 0, n, c⟩] else []
def inW (b : UInt8) : Bool := !isW b && b != 10
/-- From a byte on: its line and column; has the line a token; is it a remark's; is the byte behind a word's. -/
def refL (n c : Nat) (sm no pw : Bool) : List UInt8 → List Tok × Option (Nat × Nat)
  | [] => (fin sm n c, none)
  | b :: t =>
    if b = 10 then (fin sm n c ++ (refL (n + 1) 1 false false false t).1, (refL (n + 1) 1 false false false t).2)
    else if isW b then refL n (c + 1) sm no false t
    else if no || pw then refL n (c + 1) sm no true t
    else if !sm && b == 35 then refL n (c + 1) sm true true t
    else match tokW ((b :: t).takeWhile inW) with
      | none => ([], some (n, c))
      | some (k, y, v) => (⟨k, y, v, n, c⟩ :: (refL n (c + 1) true no true t).1, (refL n (c + 1) true no true t).2)
def comb (a b : List Tok × Option (Nat × Nat)) : List Tok × Option (Nat × Nat) := match a with
  | (x, some e) => (x, some e)
  | (x, none) => (x ++ b.1, b.2)
/-- What stands behind a line's bytes. -/
def Tail (T : List UInt8) : Prop := T = [] ∨ ∃ r, T = 10 :: r
theorem tail_any {T : List UInt8} (h : Tail T) (n c : Nat) (sm no pw : Bool) : refL n c sm no pw T = refL n c sm false false T := by
  rcases h with rfl | ⟨r, rfl⟩
  · rfl
  · simp [refL]
theorem ref_no {T : List UInt8} (h : Tail T) (n : Nat) : ∀ (x : List UInt8), (∀ b ∈ x, b ≠ 10) → ∀ (c : Nat) (pw : Bool), refL n c false true pw (x ++ T) = refL n (c + x.length) false false false T
  | [], _, c, pw => by rw [List.nil_append, tail_any h]; rfl
  | b :: t, hx, c, pw => by
    have hb := hx b (by simp)
    have ih := ref_no h n t (fun y hy => hx y (by simp [hy]))
    rw [List.cons_append]
    simp only [refL, if_neg hb, Bool.true_or, if_true]
    have e : c + 1 + t.length = c + (b :: t).length := by simp only [List.length_cons]; omega
    split
    · rw [ih, e]
    · rw [ih, e]
theorem inW_of {x : List UInt8} {T : List UInt8} (h : Tail T) (hx : ∀ b ∈ x, b ≠ 10) : (x ++ T).takeWhile inW = x.takeWhile fun b => !isW b := by
  induction x with
  | nil =>
    rcases h with rfl | ⟨r, rfl⟩
    · rfl
    · rfl
  | cons b t ih =>
    have hb := hx b (by simp)
    rw [List.cons_append, List.takeWhile_cons, List.takeWhile_cons, ih fun y hy => hx y (by simp [hy])]
    have : inW b = !isW b := by unfold inW; simp [hb]
    rw [this]
/-- The word that has begun is whole. -/
theorem wds_head : ∀ (x : List UInt8) (c : Nat) (cur : List UInt8), cur ≠ [] → wds c cur x = (c - cur.length, cur ++ x.takeWhile fun b => !isW b) :: (wds c cur x).tail
  | [], c, cur, h => by simp [wds, h]
  | b :: t, c, cur, h => by
    by_cases hb : isW b = true
    · simp [wds, hb, h]
    · have hb' : isW b = false := by simpa using hb
      have ih := wds_head t (c + 1) (cur ++ [b]) (by simp)
      have e : wds c cur (b :: t) = wds (c + 1) (cur ++ [b]) t := by simp [wds, hb']
      rw [e, ih, List.takeWhile_cons, hb']
      simp
theorem ref_in {T : List UInt8} (h : Tail T) (n : Nat) : ∀ (x : List UInt8), (∀ b ∈ x, b ≠ 10) → ∀ (c : Nat),
    refL n c true false false (x ++ T) = comb (lexW n (wds c [] x)) (refL n (c + x.length) true false false T) ∧
    ∀ cur, cur ≠ [] → refL n c true false true (x ++ T) = comb (lexW n (wds c cur x).tail) (refL n (c + x.length) true false false T)
  | [], _, c => by
    refine ⟨?_, fun cur hc => ?_⟩
    · simp [wds, lexW, comb]
    · rw [List.nil_append, tail_any h]
      simp [wds, hc, lexW, comb]
  | b :: t, hx, c => by
    have hb := hx b (by simp)
    obtain ⟨i1, i2⟩ := ref_in h n t (fun y hy => hx y (by simp [hy])) (c + 1)
    have e : c + 1 + t.length = c + (b :: t).length := by simp only [List.length_cons]; omega
    rw [e] at i1 i2
    rw [List.cons_append]
    by_cases hw : isW b = true
    · refine ⟨?_, fun cur hc => ?_⟩
      · simp only [refL, if_neg hb, hw, if_true]
        rw [i1]
        simp [wds, hw]
      · simp only [refL, if_neg hb, hw, if_true]
        rw [i1]
        simp [wds, hw, hc]
    · have hw' : isW b = false := by simpa using hw
      refine ⟨?_, fun cur hc => ?_⟩
      · have ew : wds c [] (b :: t) = wds (c + 1) [b] t := by simp [wds, hw']
        have et : ((b :: t) ++ T).takeWhile inW = b :: t.takeWhile fun b => !isW b := by
          rw [inW_of h hx, List.takeWhile_cons, hw']; rfl
        rw [List.cons_append] at et
        simp only [refL, if_neg hb, hw', Bool.false_eq_true, if_false, Bool.or_self, Bool.not_true, Bool.false_and, et]
        rw [ew, wds_head t (c + 1) [b] (by simp)]
        simp only [lexW, List.length_cons, List.length_nil, Nat.add_sub_cancel, Nat.zero_add, List.cons_append, List.nil_append]
        cases tokW (b :: t.takeWhile fun b => !isW b) with
        | none => rfl
        | some q =>
          obtain ⟨k, y, v⟩ := q
          simp only
          rw [i2 [b] (by simp)]
          cases hq : lexW n (wds (c + 1) [b] t).tail with
          | mk a o => cases o <;> simp [comb]
      · simp only [refL, if_neg hb, hw', Bool.false_eq_true, if_false, Bool.or_true, if_true]
        rw [i2 (cur ++ [b]) (by simp)]
        simp [wds, hw']
theorem emptyL_cons (b : UInt8) (t : List UInt8) : emptyL (b :: t) = if isW b then emptyL t else b == 35 := by
  unfold emptyL Lib.trimLeftS
  rw [List.dropWhile_cons]
  by_cases hb : isW b = true
  · rw [if_pos hb]; rw [if_pos (show ([32, 9, 13] : List UInt8).contains b = true from hb)]
  · rw [if_neg hb]; rw [if_neg (show ¬ ([32, 9, 13] : List UInt8).contains b = true from hb)]
theorem ref_first {T : List UInt8} (h : Tail T) (n : Nat) : ∀ (x : List UInt8), (∀ b ∈ x, b ≠ 10) → ∀ (c : Nat),
    refL n c false false false (x ++ T) = if emptyL x then refL n (c + x.length) false false false T else comb (lexW n (wds c [] x)) (refL n (c + x.length) true false false T)
  | [], _, c => rfl
  | b :: t, hx, c => by
    have hb := hx b (by simp)
    have hx' : ∀ y ∈ t, y ≠ 10 := fun y hy => hx y (by simp [hy])
    have ih := ref_first h n t hx' (c + 1)
    obtain ⟨_, i2⟩ := ref_in h n t hx' (c + 1)
    have e : c + 1 + t.length = c + (b :: t).length := by simp only [List.length_cons]; omega
    rw [e] at ih i2
    rw [emptyL_cons]
    have et : ((b :: t) ++ T).takeWhile inW = (b :: t).takeWhile fun b => !isW b := inW_of h hx
    rw [List.cons_append] at et ⊢
    by_cases hw : isW b = true
    · simp only [refL, if_neg hb, hw, if_true]
      rw [ih]
      simp [wds, hw]
    · have hw' : isW b = false := by simpa using hw
      have ew : wds c [] (b :: t) = wds (c + 1) [b] t := by simp [wds, hw']
      by_cases h35 : b = 35
      · subst h35
        have ei : isW 35 = false := rfl
        have hb' : ¬ (35 : UInt8) = 10 := by decide
        simp only [refL, if_neg hb', ei, Bool.false_eq_true, if_false, Bool.or_self, Bool.not_false, Bool.true_and, beq_self_eq_true, if_true]
        rw [ref_no h n t hx', e]
      · have h35' : (b == 35) = false := by simpa using h35
        have et : (b :: (t ++ T)).takeWhile inW = b :: t.takeWhile fun b => !isW b := by
          rw [et, List.takeWhile_cons, hw']; rfl
        simp only [refL, if_neg hb, hw', Bool.false_eq_true, if_false, Bool.or_self, Bool.not_false, Bool.true_and, h35', et]
        rw [ew, wds_head t (c + 1) [b] (by simp)]
        simp only [lexW, List.length_cons, List.length_nil, Nat.add_sub_cancel, Nat.zero_add, List.cons_append, List.nil_append]
        cases tokW (b :: t.takeWhile fun b => !isW b) with
        | none => rfl
        | some q =>
          obtain ⟨k, y, v⟩ := q
          simp only
          rw [i2 [b] (by simp)]
          cases hq : lexW n (wds (c + 1) [b] t).tail with
          | mk a o => cases o <;> simp [comb]
theorem strip_nt {x : List UInt8} (h : ∀ b ∈ x, b ≠ 10) : strip x = x := by
  unfold strip Lib.trimSuffix
  split
  · rename_i hs
    have : ([10] : List UInt8) <:+ x := List.isSuffixOf_iff_suffix.1 hs
    exact absurd rfl (h 10 (this.subset (by simp)))
  · rfl
theorem strip_ten (x : List UInt8) : strip (x ++ [10]) = x := by
  unfold strip Lib.trimSuffix
  have h : Lib.hasSuffix (x ++ [10]) [10] = true := List.isSuffixOf_iff_suffix.2 ⟨x, rfl⟩
  rw [if_pos h]
  simp
theorem takeWhile_imp (p : UInt8 → Bool) : ∀ (l : List UInt8) (b : UInt8), b ∈ l.takeWhile p → p b = true
  | [], _, h => by cases h
  | a :: t, b, h => by
    rw [List.takeWhile_cons] at h
    split at h
    · rcases List.mem_cons.1 h with rfl | h
      · assumption
      · exact takeWhile_imp p t b h
    · cases h
theorem refL_is : ∀ (k : Nat) (l : List UInt8), l.length ≤ k → ∀ n, refL n 1 false false false l = lexL (lns n (chk [] l)) := by
  intro k
  induction k with
  | zero =>
    intro l hl n
    have : l = [] := List.eq_nil_of_length_eq_zero (by omega)
    subst this
    rfl
  | succ k ih =>
    intro l hl n
    have hx : ∀ b ∈ l.takeWhile (· != 10), b ≠ 10 := fun b hb => by
      have := takeWhile_imp _ l b hb
      simpa using this
    have hsplit : l = l.takeWhile (· != 10) ++ l.dropWhile (· != 10) := (List.takeWhile_append_dropWhile).symm
    generalize hX : l.takeWhile (· != 10) = x at hx hsplit
    cases hT : l.dropWhile (· != 10) with
    | nil =>
      rw [hT] at hsplit
      rw [hsplit, ref_first (.inl rfl) n x hx 1, chk_append x [] [] hx]
      simp only [List.nil_append, chk]
      by_cases h0 : x = []
      · subst h0; rfl
      · rw [if_neg h0]
        simp only [lns, strip_nt hx]
        by_cases he : emptyL x = true
        · rw [if_pos he, if_pos he]; rfl
        · rw [if_neg he, if_neg he]
          simp only [lexL, refL, fin, if_true]
          cases hq : lexW n (wds 1 [] x) with
          | mk a o => cases o <;> simp [comb, Nat.add_comm]
    | cons b r =>
      have hb : b = 10 := by
        have := List.head?_dropWhile_not (fun b : UInt8 => b != 10) l
        rw [hT] at this
        simpa using this
      subst hb
      rw [hT] at hsplit
      have hr : r.length ≤ k := by
        have := congrArg List.length hsplit
        simp only [List.length_append, List.length_cons] at this
        omega
      rw [hsplit, ref_first (.inr ⟨r, rfl⟩) n x hx 1, chk_append x [] (10 :: r) hx]
      simp only [List.nil_append, chk, if_true]
      simp only [lns, strip_ten]
      by_cases he : emptyL x = true
      · rw [if_pos he, if_pos he]
        simp only [refL, if_true, fin, Bool.false_eq_true, if_false, List.nil_append]
        rw [ih r hr]
      · rw [if_neg he, if_neg he]
        simp only [lexL, refL, fin, if_true]
        rw [ih r hr]
        cases hq : lexW n (wds 1 [] x) with
        | mk a o => cases o <;> simp [comb, Nat.add_comm]
theorem ref_is (l : List UInt8) : refL 1 1 false false false l = lexS l := refL_is _ l (Nat.le_refl _) 1
end Go.Proofs.YthhbhfpdabiclaaGreatDoor.L12
