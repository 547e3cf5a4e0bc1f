/- lex (layer 12): what a source's tokens are, as plain functions of its bytes. -/
import Derived.Lib.SlTrimSet
import Derived.Lib.IndexAny
import Derived.Lib.IndexLaws
import Derived.Lib.ItoaNum
import Derived.Lib.ParseIntB
import Derived.Lib.Atoi
namespace Go.Proofs.YthhbhfpdabiclaaGreatDoor.L12
set_option linter.unusedVariables false
def isW (b : UInt8) : Bool := [32, 9, 13].contains b
def isD (b : UInt8) : Bool := decide (48 ≤ b.toNat ∧ b.toNat ≤ 57)
def isL (b : UInt8) : Bool := decide (97 ≤ b.toNat ∧ b.toNat ≤ 122 ∨ 65 ≤ b.toNat ∧ b.toNat ≤ 90 ∨ b.toNat = 95)
/-- A source's lines, each with the byte that ends it; cur: what of the line is behind. -/
def chk (cur : List UInt8) : List UInt8 → List (List UInt8)
  | [] => if cur = [] then [] else [cur]
  | b :: t => if b = 10 then (cur ++ [b]) :: chk [] t else chk (cur ++ [b]) t
def strip (l : List UInt8) : List UInt8 := Lib.trimSuffix l [10]
def emptyL (l : List UInt8) : Bool := match Lib.trimLeftS l [32, 9, 13] with | [] => true | b :: _ => b == 35
/-- A line's words, each with the column of its first byte; c: the next byte's column, cur: what of the word is behind. -/
def wds (c : Nat) (cur : List UInt8) : List UInt8 → List (Nat × List UInt8)
  | [] => if cur = [] then [] else [(c - cur.length, cur)]
  | b :: t => if isW b then (if cur = [] then wds (c + 1) [] t else (c - cur.length, cur) :: wds (c + 1) [] t) else wds (c + 1) (cur ++ [b]) t
/-- The lines that are not empty, with their numbers. -/
def lns (n : Nat) : List (List UInt8) → List (Nat × List UInt8)
  | [] => []
  | ch :: t => if emptyL (strip ch) then lns (n + 1) t else (n, strip ch) :: lns (n + 1) t
def nameL (l : List UInt8) : Bool := match l with
  | [] => false
  | c :: t => decide (l.length ≤ 64) && isL c && t.all (fun b => isL b || isD b) && !(c == 118 && !t.isEmpty && t.all isD)
/-- A numeral from lo to hi. -/
def numL (l : List UInt8) (lo hi : Nat) : Option Nat := match Lib.decNat l with
  | none => none
  | some u => if lo ≤ u ∧ u ≤ hi ∧ Lib.decDigits u = l then some u else none
def regL (l : List UInt8) : Option Nat := match l with
  | [] => none
  | c :: t => if c = 118 then numL t 0 4095 else none
def numberL (l : List UInt8) : Option Nat := match l with
  | [] => none
  | c :: t => if c = 45 then (numL t 1 2147483648).map (4294967296 - ·) else numL l 0 4294967295
/-- A word's kind, text and number. -/
def tokW (l : List UInt8) : Option (Nat × List UInt8 × Nat) :=
  if l = [123] then some (4, l, 0) else if l = [125] then some (5, l, 0)
  else match regL l with
    | some n => some (2, l, n)
    | none => match numberL l with
      | some n => some (3, l, n)
      | none => if Lib.hasSuffix l [58] && nameL (l.take (l.length - 1)) then some (1, l.take (l.length - 1), 0) else if nameL l then some (0, l, 0) else none
structure Tok where
  kind : Nat
  text : List UInt8
  num : Nat
  line : Nat
  col : Nat
/-- What comes of a line's words. -/
def lexW (n : Nat) : List (Nat × List UInt8) → List Tok × Option (Nat × Nat)
  | [] => ([], none)
  | (c, x) :: t => match tokW x with
    | none => ([], some (n, c))
    | some (k, y, v) => (⟨k, y, v, n, c⟩ :: (lexW n t).1, (lexW n t).2)
/-- What comes of lines. -/
def lexL : List (Nat × List UInt8) → List Tok × Option (Nat × Nat)
  | [] => ([], none)
  | (n, l) :: t => match lexW n (wds 1 [] l) with
    | (a, some e) => (a, some e)
    | (a, none) => (a ++ [⟨6, [], 0, n, l.length + 1⟩] ++ (lexL t).1, (lexL t).2)
/-- A source's tokens ahead of its first fault, and where that is. -/
def lexS (s : List UInt8) : List Tok × Option (Nat × Nat) := lexL (lns 1 (chk [] s))

-- lines
theorem chk_append : ∀ (a cur t : List UInt8), (∀ b ∈ a, b ≠ 10) → chk cur (a ++ t) = chk (cur ++ a) t
  | [], cur, t, _ => by simp
  | b :: a, cur, t, h => by
    have hb := h b (by simp)
    rw [List.cons_append]
    simp only [chk, if_neg hb]
    rw [chk_append a (cur ++ [b]) t (fun x hx => h x (by simp [hx]))]
    simp
theorem noTen_take {l : List UInt8} {i : Nat} (h : ∀ k, k < i → l[k]? ≠ some 10) : ∀ b ∈ l.take i, b ≠ 10 := fun b hb e => by
  subst e
  obtain ⟨k, hk⟩ := List.mem_iff_getElem?.1 hb
  rw [List.getElem?_take] at hk
  split at hk
  · exact h k (by assumption) hk
  · cases hk
theorem chk_hit {l : List UInt8} {i : Nat} (h : Lib.indexByte l 10 = i) : chk [] l = l.take (i + 1) :: chk [] (l.drop (i + 1)) := by
  obtain ⟨h1, h2⟩ := Lib.indexByte_some h
  have hi : i < l.length := by
    rcases Nat.lt_or_ge i l.length with h | h
    · exact h
    · rw [List.getElem?_eq_none h] at h1; cases h1
  have e : l = l.take i ++ (10 :: l.drop (i + 1)) := by
    have h3 : l[i] = 10 := by rw [List.getElem?_eq_getElem hi] at h1; exact Option.some.inj h1
    rw [← h3, ← List.drop_eq_getElem_cons hi, List.take_append_drop]
  have e2 : l.take (i + 1) = l.take i ++ [10] := by
    rw [List.take_add_one, h1]; rfl
  rw [e2]
  conv => lhs; rw [e]
  rw [chk_append _ _ _ (noTen_take h2)]
  simp [chk]
theorem chk_none {l : List UInt8} (h : Lib.indexByte l 10 = -1) (hl : l ≠ []) : chk [] l = [l] := by
  have h1 := Lib.indexByte_none h
  have := chk_append l [] [] (fun b hb e => by
    subst e
    obtain ⟨k, hk⟩ := List.mem_iff_getElem?.1 hb
    exact h1 k hk)
  rw [List.append_nil] at this
  rw [this]
  simp [chk, hl]
-- words
theorem wds_append : ∀ (a cur t : List UInt8) (c : Nat), (∀ b ∈ a, isW b = false) → wds c cur (a ++ t) = wds (c + a.length) (cur ++ a) t
  | [], cur, t, c, _ => by simp
  | b :: a, cur, t, c, h => by
    have hb := h b (by simp)
    rw [List.cons_append]
    simp only [wds, hb]
    rw [if_neg (by decide), wds_append a (cur ++ [b]) t (c + 1) (fun x hx => h x (by simp [hx]))]
    simp only [List.length_cons, List.append_assoc, List.cons_append, List.nil_append]
    congr 1
    omega
theorem wds_white : ∀ (l : List UInt8) (c : Nat), wds c [] l = wds (c + (l.length - (Lib.trimLeftS l [32, 9, 13]).length)) [] (Lib.trimLeftS l [32, 9, 13])
  | [], c => by simp [Lib.trimLeftS]
  | b :: t, c => by
    have ih := wds_white t (c + 1)
    unfold Lib.trimLeftS at ih ⊢
    rw [List.dropWhile_cons]
    by_cases hb : ([32, 9, 13] : List UInt8).contains b = true
    · rw [if_pos hb]
      have : isW b = true := hb
      rw [show wds c [] (b :: t) = wds (c + 1) [] t by simp [wds, this], ih]
      have hl : (t.dropWhile (([32, 9, 13] : List UInt8).contains ·)).length ≤ t.length := (List.dropWhile_sublist _).length_le
      congr 1
      simp only [List.length_cons]
      omega
    · rw [if_neg hb]; simp
/-- A word's length. -/
theorem wds_word {l : List UInt8} (hl : l ≠ []) (h0 : ∀ b, l.head? = some b → isW b = false) (c : Nat) :
    wds c [] l = (c, if Lib.indexAny l [32, 9, 13] < 0 then l else l.take (Lib.indexAny l [32, 9, 13]).toNat) :: wds (c + (if Lib.indexAny l [32, 9, 13] < 0 then l else l.take (Lib.indexAny l [32, 9, 13]).toNat).length) [] (l.drop (if Lib.indexAny l [32, 9, 13] < 0 then l else l.take (Lib.indexAny l [32, 9, 13]).toNat).length) := by
  have split : (∀ b ∈ l, isW b = false) ∨ ∃ i x, Lib.NoAny l [32, 9, 13] i ∧ l[i]? = some x ∧ isW x = true := by
    clear hl h0
    induction l with
    | nil => exact .inl (by simp)
    | cons b t ih =>
      by_cases hb : isW b = true
      · exact .inr ⟨0, b, Lib.NoAny.zero _ _, rfl, hb⟩
      · have hb' : isW b = false := by simpa using hb
        rcases ih with h | ⟨i, x, h1, h2, h3⟩
        · exact .inl fun y hy => by
            rcases List.mem_cons.1 hy with rfl | hy
            · exact hb'
            · exact h y hy
        · refine .inr ⟨i + 1, x, fun j y hj hy => ?_, by simpa using h2, h3⟩
          cases j with
          | zero => simp at hy; subst hy; exact hb'
          | succ j => exact h1 j y (by omega) (by simpa using hy)
  rcases split with h | ⟨i, x, h1, h2, h3⟩
  · have hn : Lib.indexAny l [32, 9, 13] = -1 := Lib.indexAny_none fun j b hj hb => h b (List.mem_of_getElem? hb)
    rw [hn, if_pos (by decide)]
    have := wds_append l [] [] c h
    rw [List.append_nil] at this
    rw [this, List.drop_length]
    simp [wds, hl]
  · have hn : Lib.indexAny l [32, 9, 13] = i := Lib.indexAny_hit h1 h2 h3
    rw [hn, if_neg (by omega), Int.toNat_natCast]
    have hi : i < l.length := by
      rcases Nat.lt_or_ge i l.length with h | h
      · exact h
      · rw [List.getElem?_eq_none h] at h2; cases h2
    have hx : l[i] = x := by rw [List.getElem?_eq_getElem hi] at h2; exact Option.some.inj h2
    have e : l = l.take i ++ (x :: l.drop (i + 1)) := by
      rw [← hx, ← List.drop_eq_getElem_cons hi, List.take_append_drop]
    have hi0 : i ≠ 0 := fun e0 => by
      subst e0
      have := h0 x (by rw [← h2]; cases l <;> rfl)
      rw [this] at h3; cases h3
    have hlen : (l.take i).length = i := by rw [List.length_take]; omega
    have hne : l.take i ≠ [] := fun e0 => by rw [e0] at hlen; simp at hlen; omega
    rw [hlen]
    conv => lhs; rw [e]
    rw [wds_append (l.take i) [] _ c (fun b hb => by
      obtain ⟨k, hk⟩ := List.mem_iff_getElem?.1 hb
      rw [List.getElem?_take] at hk
      split at hk
      · exact h1 k b (by assumption) hk
      · cases hk)]
    have e3 : l.drop i = x :: l.drop (i + 1) := by rw [← hx, ← List.drop_eq_getElem_cons hi]
    rw [e3, hlen, List.nil_append]
    simp [wds, h3, hne, hlen]
-- numerals
theorem decFrom_ge : ∀ (l : List UInt8) (acc u : Nat), Lib.decFrom acc l = some u → acc ≤ u
  | [], acc, u, h => by simp only [Lib.decFrom, Option.some.injEq] at h; omega
  | c :: r, acc, u, h => by
    simp only [Lib.decFrom] at h
    cases hd : Lib.digitVal c with
    | none => rw [hd] at h; cases h
    | some d =>
      rw [hd] at h
      have := decFrom_ge r _ u h
      omega
theorem digitVal_if (c : UInt8) : Lib.digitVal c = if 48 ≤ c.toNat ∧ c.toNat ≤ 57 then some (c.toNat - 48) else none := rfl
theorem pM_ok (M : Nat) : ∀ (l : List UInt8) (acc u : Nat), Lib.parseUintM M acc l = .ok u → Lib.decFrom acc l = some u
  | [], acc, u, h => by simp only [Lib.parseUintM] at h; injection h with h; subst h; rfl
  | c :: r, acc, u, h => by
    simp only [Lib.parseUintM] at h
    split at h
    · rename_i hc
      split at h
      · cases h
      · split at h
        · cases h
        · simp only [Lib.decFrom, digitVal_if, if_pos hc]
          exact pM_ok M r _ u h
    · cases h
theorem pM_no (M : Nat) (hM : M = 18446744073709551615) : ∀ (l : List UInt8) (acc u : Nat), acc ≤ M → (∀ v, Lib.parseUintM M acc l ≠ .ok v) → Lib.decFrom acc l = some u → M < u
  | [], acc, u, _, h, _ => absurd rfl (h acc)
  | c :: r, acc, u, ha, h, hu => by
    simp only [Lib.parseUintM] at h
    simp only [Lib.decFrom, digitVal_if] at hu
    by_cases hc : 48 ≤ c.toNat ∧ c.toNat ≤ 57
    · simp only [if_pos hc] at h hu
      have hge := decFrom_ge r _ u hu
      by_cases h1 : 1844674407370955162 ≤ acc
      · omega
      · simp only [if_neg h1] at h
        by_cases h2 : M < acc * 10 + (c.toNat - 48)
        · omega
        · simp only [if_neg h2] at h
          exact pM_no M hM r _ u (by omega) h hu
    · simp only [if_neg hc] at hu; cases hu
theorem value_is (l : List UInt8) (lo hi : Nat) (hh : hi ≤ 4294967295) : numL l lo hi = match Lib.parseUintB 64 l with
    | .ok u => if lo ≤ u ∧ u ≤ hi ∧ Lib.decDigits u = l then some u else none
    | _ => none := by
  unfold numL Lib.decNat Lib.parseUintB
  cases l with
  | nil => rfl
  | cons c r =>
    rw [if_neg (by simp), if_neg (by simp)]
    rcases hp : Lib.parseUintM (2 ^ 64 - 1) 0 (c :: r) with u | _ | _
    · rw [pM_ok _ _ _ _ hp]
    ·
      have hn := fun u => pM_no (2 ^ 64 - 1) (by decide) (c :: r) 0 u (by decide) (by rw [hp]; simp)
      cases hd : Lib.decFrom 0 (c :: r) with
      | none => rfl
      | some u => have := hn u hd; simp only; rw [if_neg (by omega)]
    ·
      have hn := fun u => pM_no (2 ^ 64 - 1) (by decide) (c :: r) 0 u (by decide) (by rw [hp]; simp)
      cases hd : Lib.decFrom 0 (c :: r) with
      | none => rfl
      | some u => have := hn u hd; simp only; rw [if_neg (by omega)]
theorem numL_bounds {l : List UInt8} {lo hi u : Nat} (h : numL l lo hi = some u) : lo ≤ u ∧ u ≤ hi ∧ Lib.decDigits u = l := by
  unfold numL at h
  split at h
  · cases h
  · split at h
    · rename_i hc
      injection h with h
      subst h
      exact hc
    · cases h
end Go.Proofs.YthhbhfpdabiclaaGreatDoor.L12
