/- lex (layer 12): numerals: what the document's digits are. -/
import Derived.Test.YthhbhfpdabiclaaGreatDoorLexMath
namespace Go.Proofs.YthhbhfpdabiclaaGreatDoor.L12
set_option linter.unusedVariables false
theorem decFrom_append : ∀ (a b : List UInt8) (acc : Nat), Lib.decFrom acc (a ++ b) = (Lib.decFrom acc a).bind fun u => Lib.decFrom u b
  | [], b, acc => rfl
  | c :: a, b, acc => by
    rw [List.cons_append]
    simp only [Lib.decFrom]
    cases Lib.digitVal c with
    | none => rfl
    | some d => exact decFrom_append a b _
theorem ofNat_digit {d : Nat} (h : d < 10) : Lib.digitVal (UInt8.ofNat (48 + d)) = some d := by
  have e : (UInt8.ofNat (48 + d)).toNat = 48 + d := by simp [UInt8.toNat_ofNat']; omega
  rw [digitVal_if, e, if_pos (by omega)]
  congr 1; omega
theorem digit_ofNat {b : UInt8} {d : Nat} (h : Lib.digitVal b = some d) : d < 10 ∧ UInt8.ofNat (48 + d) = b := by
  obtain ⟨h1, h2, rfl⟩ := Lib.digitVal_eq h
  refine ⟨by omega, ?_⟩
  rw [show 48 + (b.toNat - 48) = b.toNat by omega]
  exact UInt8.ofNat_toNat
theorem decFrom_dec : ∀ (u : Nat), Lib.decFrom 0 (Lib.decDigits u) = some u := by
  intro u
  induction u using Nat.strongRecOn with
  | _ u ih =>
    by_cases h : u < 10
    · rw [Lib.decDigits_one h]
      simp only [Lib.decFrom, ofNat_digit h, Nat.zero_mul, Nat.zero_add]
    · rw [Lib.decDigits, dif_neg h, decFrom_append, ih (u / 10) (by omega)]
      simp only [Option.bind_some, Lib.decFrom, ofNat_digit (Nat.mod_lt u (by decide : 10 > 0))]
      congr 1; omega
theorem dec_ne (u : Nat) : Lib.decDigits u ≠ [] := fun e => by
  have := Lib.decDigits_length u
  rw [e] at this
  have := Lib.nDigits_pos u
  simp at *; omega
theorem decNat_dec (u : Nat) : Lib.decNat (Lib.decDigits u) = some u := by
  unfold Lib.decNat
  rw [if_neg (by simpa using dec_ne u)]
  exact decFrom_dec u
theorem numL_dec {u lo hi : Nat} (h0 : lo ≤ u) (h1 : u ≤ hi) : numL (Lib.decDigits u) lo hi = some u := by
  unfold numL
  rw [decNat_dec]
  simp [h0, h1]
theorem dec_head : ∀ (u : Nat), 1 ≤ u → (Lib.decDigits u).head? ≠ some 48 := by
  intro u
  induction u using Nat.strongRecOn with
  | _ u ih =>
    intro h1
    by_cases h : u < 10
    · rw [Lib.decDigits_one h]
      intro e
      simp only [List.head?_cons, Option.some.injEq] at e
      have := congrArg UInt8.toNat e
      simp [UInt8.toNat_ofNat'] at this
      omega
    · rw [Lib.decDigits, dif_neg h, List.head?_append]
      have := ih (u / 10) (by omega) (by omega)
      cases hd : (Lib.decDigits (u / 10)).head? with
      | none => rw [List.head?_eq_none_iff] at hd; exact absurd hd (dec_ne _)
      | some x => rw [hd] at this; simpa using this
/-- Digits of which the first is not 0, unless it is the only one. -/
theorem dec_is : ∀ (k : Nat) (l : List UInt8), l.length = k → l ≠ [] → ¬ (1 < l.length ∧ l.head? = some 48) → ∀ u, Lib.decFrom 0 l = some u → Lib.decDigits u = l := by
  intro k
  induction k with
  | zero => intro l hl h0; exact absurd (List.eq_nil_of_length_eq_zero hl) h0
  | succ k ih =>
    intro l hl h0 hc u hu
    obtain ⟨a, d, rfl⟩ : ∃ a d, l = a ++ [d] := ⟨l.dropLast, l.getLast h0, (List.dropLast_concat_getLast h0).symm⟩
    rw [decFrom_append] at hu
    cases ha : Lib.decFrom 0 a with
    | none => rw [ha] at hu; cases hu
    | some v =>
      rw [ha] at hu
      simp only [Option.bind_some, Lib.decFrom] at hu
      cases hd : Lib.digitVal d with
      | none => rw [hd] at hu; cases hu
      | some e =>
        rw [hd] at hu
        injection hu with hu
        obtain ⟨h9, hdd⟩ := digit_ofNat hd
        by_cases hn : a = []
        · subst hn
          simp only [Lib.decFrom, Option.some.injEq] at ha
          subst ha
          rw [← hu, Lib.decDigits_one (by omega)]
          simp [hdd]
        · have hlen : a.length = k := by simp at hl; omega
          have hpos : 1 ≤ a.length := by cases a with | nil => exact absurd rfl hn | cons _ _ => simp
          have hhead : a.head? ≠ some 48 := fun e0 => hc ⟨by simp; omega, by
            cases a with
            | nil => exact absurd rfl hn
            | cons x y => simpa using e0⟩
          have hv := ih a hlen hn (fun h => hhead h.2) v ha
          have hv1 : 1 ≤ v := by
            rcases Nat.eq_zero_or_pos v with h | h
            · subst h
              rw [Lib.decDigits_one (by decide)] at hv
              rw [← hv] at hhead
              exact absurd rfl hhead
            · exact h
          rw [← hu, Lib.decDigits, dif_neg (by omega), show (v * 10 + e) / 10 = v by omega, show (v * 10 + e) % 10 = e by omega, hv, hdd]
theorem nDigits_le : ∀ (k u : Nat), u < 10 ^ (k + 1) → Lib.nDigits u ≤ k + 1
  | 0, u, h => by rw [Lib.nDigits_small (by simpa using h)]; exact Nat.le_refl _
  | k + 1, u, h => by
    by_cases h10 : u < 10
    · rw [Lib.nDigits_small h10]; omega
    · rw [Lib.nDigits_big h10]
      have : u / 10 < 10 ^ (k + 1) := by rw [Nat.pow_succ] at h; omega
      have := nDigits_le k (u / 10) this
      omega
theorem digits_iff {l : List UInt8} : (∀ b ∈ l, isD b = true) ↔ ∀ b ∈ l, ∃ d, Lib.digitVal b = some d := by
  constructor
  · intro h b hb
    have := h b hb
    unfold isD at this
    have := of_decide_eq_true this
    exact ⟨b.toNat - 48, by rw [digitVal_if, if_pos this]⟩
  · intro h b hb
    obtain ⟨d, hd⟩ := h b hb
    obtain ⟨h1, h2, _⟩ := Lib.digitVal_eq hd
    exact decide_eq_true ⟨h1, h2⟩
theorem decFrom_some {l : List UInt8} (h : ∀ b ∈ l, isD b = true) : ∀ acc, ∃ u, Lib.decFrom acc l = some u := by
  induction l with
  | nil => exact fun acc => ⟨acc, rfl⟩
  | cons b t ih =>
    intro acc
    obtain ⟨d, hd⟩ := digits_iff.1 h b (by simp)
    obtain ⟨u, hu⟩ := ih (fun y hy => h y (by simp [hy])) (acc * 10 + d)
    exact ⟨u, by simp only [Lib.decFrom, hd]; exact hu⟩
/-- What the document asks of a number's digits. -/
def refOk (l : List UInt8) : Prop := l ≠ [] ∧ (∀ b ∈ l, isD b = true) ∧ ¬ (1 < l.length ∧ l.head? = some 48) ∧ l.length ≤ 12
theorem num_ref {l : List UInt8} (h : refOk l) {u : Nat} (hu : Lib.decFrom 0 l = some u) (lo hi : Nat) : numL l lo hi = if lo ≤ u ∧ u ≤ hi then some u else none := by
  obtain ⟨h0, h1, h2, h3⟩ := h
  have hd := dec_is _ l rfl h0 h2 u hu
  unfold numL Lib.decNat
  rw [if_neg (by simpa using h0), hu]
  simp [hd]
theorem num_noref {l : List UInt8} (h : ¬ refOk l) (lo hi : Nat) (hh : hi < 1000000000000) : numL l lo hi = none := by
  cases hn : numL l lo hi with
  | none => rfl
  | some u =>
    exfalso
    obtain ⟨h0, h1, hd⟩ := numL_bounds hn
    refine h ⟨by rw [← hd]; exact dec_ne u, fun b hb => ?_, fun hc => ?_, ?_⟩
    · have hf := decFrom_dec u
      rw [hd] at hf
      obtain ⟨k, hk⟩ := List.mem_iff_getElem?.1 hb
      obtain ⟨d, hdd⟩ := Lib.digit_of_decFrom l 0 u hf k b hk
      obtain ⟨e1, e2, _⟩ := Lib.digitVal_eq hdd
      exact decide_eq_true ⟨e1, e2⟩
    · by_cases hu : 1 ≤ u
      · have := dec_head u hu
        rw [hd] at this
        exact this hc.2
      · have hu0 : u = 0 := by omega
        subst hu0
        rw [Lib.decDigits_one (by decide)] at hd
        rw [← hd] at hc
        exact absurd hc.1 (by decide)
    · rw [← hd, Lib.decDigits_length]
      have := nDigits_le 11 u (by omega)
      omega
end Go.Proofs.YthhbhfpdabiclaaGreatDoor.L12
