/- lex (layer 12): what known sources are, reckoned. -/
import Derived.Test.YthhbhfpdabiclaaGreatDoorLexSame
import Derived.Test.YthhbhfpdabiclaaGreatDoorLexNum
namespace Go.Proofs.YthhbhfpdabiclaaGreatDoor.L12
open Go.RowKit Go.Shelf
set_option linter.unusedVariables false
def okC (l : List UInt8) : Bool := !l.isEmpty && l.all isD && !(decide (1 < l.length) && l.head? == some 48) && decide (l.length ≤ 12)
def numC (l : List UInt8) (lo hi : Nat) : Option Nat := if okC l then (match Lib.decFrom 0 l with | some u => if lo ≤ u ∧ u ≤ hi then some u else none | none => none) else none
theorem okC_iff (l : List UInt8) : okC l = true ↔ refOk l := by
  unfold okC refOk
  simp only [Bool.and_eq_true, Bool.not_eq_true', List.all_eq_true, decide_eq_true_eq, Bool.and_eq_false_iff, decide_eq_false_iff_not]
  constructor
  · rintro ⟨⟨⟨h1, h2⟩, h3⟩, h4⟩
    refine ⟨fun e => by subst e; simp at h1, h2, fun e => ?_, h4⟩
    rcases h3 with h3 | h3
    · exact h3 e.1
    · rw [e.2] at h3; simp at h3
  · rintro ⟨h1, h2, h3, h4⟩
    refine ⟨⟨⟨by cases l with | nil => exact (h1 rfl).elim | cons => rfl, h2⟩, ?_⟩, h4⟩
    by_cases h5 : 1 < l.length
    · refine .inr ?_
      cases hh : (l.head? == some 48) with
      | false => rfl
      | true => exact (h3 ⟨h5, by simpa using hh⟩).elim
    · exact .inl h5
theorem numC_is (l : List UInt8) (lo hi : Nat) (hh : hi < 1000000000000) : numL l lo hi = numC l lo hi := by
  unfold numC
  by_cases h : okC l = true
  · rw [if_pos h]
    have hr := (okC_iff l).1 h
    obtain ⟨u, hu⟩ := decFrom_some hr.2.1 0
    rw [num_ref hr hu, hu]
  · rw [if_neg h, num_noref (fun e => h ((okC_iff l).2 e)) lo hi hh]
def regC (l : List UInt8) : Option Nat := match l with
  | [] => none
  | c :: t => if c = 118 then numC t 0 4095 else none
def numberC (l : List UInt8) : Option Nat := match l with
  | [] => none
  | c :: t => if c = 45 then (numC t 1 2147483648).map (4294967296 - ·) else numC l 0 4294967295
def tokC (l : List UInt8) : Option (Nat × List UInt8 × Nat) :=
  if l = [123] then some (4, l, 0) else if l = [125] then some (5, l, 0)
  else match regC l with
    | some n => some (2, l, n)
    | none => match numberC l with
      | some n => some (3, l, n)
      | none => if Lib.hasSuffix l [58] && nameL (l.take (l.length - 1)) then some (1, l.take (l.length - 1), 0) else if nameL l then some (0, l, 0) else none
theorem tokC_is (l : List UInt8) : tokW l = tokC l := by
  have h1 : regL l = regC l := by
    cases l with
    | nil => rfl
    | cons c t => unfold regL regC; simp only []; rw [numC_is _ _ _ (by decide)]
  have h2 : numberL l = numberC l := by
    cases l with
    | nil => rfl
    | cons c t => unfold numberL numberC; simp only []; rw [numC_is _ _ _ (by decide), numC_is _ _ _ (by decide)]
  unfold tokW tokC
  rw [h1, h2]
  rfl
def lexWC (n : Nat) : List (Nat × List UInt8) → List Tok × Option (Nat × Nat)
  | [] => ([], none)
  | (c, x) :: t => match tokC x with
    | none => ([], some (n, c))
    | some (k, y, v) => (⟨k, y, v, n, c⟩ :: (lexWC n t).1, (lexWC n t).2)
def lexLC : List (Nat × List UInt8) → List Tok × Option (Nat × Nat)
  | [] => ([], none)
  | (n, l) :: t => match lexWC n (wds 1 [] l) with
    | (a, some e) => (a, some e)
    | (a, none) => (a ++ [⟨6, [], 0, n, l.length + 1⟩] ++ (lexLC t).1, (lexLC t).2)
theorem lexWC_is (n : Nat) : ∀ l, lexW n l = lexWC n l
  | [] => rfl
  | (c, x) :: t => by
    simp only [lexW, lexWC]
    rw [tokC_is, lexWC_is n t]
    rfl
theorem lexLC_is : ∀ l, lexL l = lexLC l
  | [] => rfl
  | (n, x) :: t => by
    simp only [lexL, lexLC]
    rw [lexWC_is, lexLC_is t]
    rfl
theorem lexSC_is (s : List UInt8) : lexS s = lexLC (lns 1 (chk [] s)) := lexLC_is _
theorem src_a : lexS [97, 100, 100, 32, 118, 49, 32, 118, 48, 32, 118, 49, 50] = ([⟨0, [97, 100, 100], 0, 1, 1⟩, ⟨2, [118, 49], 1, 1, 5⟩, ⟨2, [118, 48], 0, 1, 8⟩, ⟨2, [118, 49, 50], 12, 1, 11⟩, ⟨6, [], 0, 1, 14⟩], none) := by rw [lexSC_is]; kernel_rfl
theorem src_b : lexS [115, 116, 97, 114, 116, 58, 10, 32, 99, 111, 110, 115, 116, 32, 118, 48, 32, 45, 49] = ([⟨1, [115, 116, 97, 114, 116], 0, 1, 1⟩, ⟨6, [], 0, 1, 7⟩, ⟨0, [99, 111, 110, 115, 116], 0, 2, 2⟩, ⟨2, [118, 48], 0, 2, 8⟩, ⟨3, [45, 49], 4294967295, 2, 11⟩, ⟨6, [], 0, 2, 13⟩], none) := by rw [lexSC_is]; kernel_rfl
theorem src_c : lexS [35, 32, 97, 108, 108, 32, 111, 102, 32, 105, 116] = ([], none) := by rw [lexSC_is]; kernel_rfl
theorem bad_1 : (lexS [118, 52, 48, 57, 54]).2 = some (1, 1) := by rw [lexSC_is]; kernel_rfl
theorem bad_2 : (lexS [118, 48, 49]).2 = some (1, 1) := by rw [lexSC_is]; kernel_rfl
theorem bad_3 : (lexS [45, 48]).2 = some (1, 1) := by rw [lexSC_is]; kernel_rfl
theorem bad_4 : (lexS [48, 48, 55]).2 = some (1, 1) := by rw [lexSC_is]; kernel_rfl
theorem bad_5 : (lexS [97, 45, 98]).2 = some (1, 1) := by rw [lexSC_is]; kernel_rfl
theorem bad_6 : (lexS [52, 50, 57, 52, 57, 54, 55, 50, 57, 54]).2 = some (1, 1) := by rw [lexSC_is]; kernel_rfl
theorem bad_7 : (lexS [32, 32, 120, 32, 63]).2 = some (1, 5) := by rw [lexSC_is]; kernel_rfl
end Go.Proofs.YthhbhfpdabiclaaGreatDoor.L12
