/- lex (layer 12): the statements' offset: how many bytes are ahead of a place. -/
import Derived.Test.YthhbhfpdabiclaaGreatDoorLexPlm
namespace Go.Proofs.YthhbhfpdabiclaaGreatDoor.L12
open Go.RowKit Go.Shelf
set_option linter.unusedVariables false
theorem takeWhile_at (p : UInt8 → Bool) : ∀ (l : List UInt8) (j : Nat), j < (l.takeWhile p).length → ∃ b, l[j]? = some b ∧ p b = true
  | [], j, h => by simp at h
  | b :: t, j, h => by
    rw [List.takeWhile_cons] at h
    by_cases hb : p b = true
    · rw [if_pos hb] at h
      cases j with
      | zero => exact ⟨b, rfl, hb⟩
      | succ j => exact takeWhile_at p t j (by simpa using h)
    · rw [if_neg hb] at h; simp at h
theorem takeWhile_end (p : UInt8 → Bool) : ∀ (l : List UInt8), (l.takeWhile p).length < l.length → ∃ b, l[(l.takeWhile p).length]? = some b ∧ p b = false
  | [], h => by simp at h
  | b :: t, h => by
    rw [List.takeWhile_cons] at h ⊢
    by_cases hb : p b = true
    · rw [if_pos hb] at h ⊢
      exact takeWhile_end p t (by simpa using h)
    · rw [if_neg hb]
      exact ⟨b, rfl, by simpa using hb⟩
/-- A line's bytes, and the one that ends it. -/
theorem line_at {l : List UInt8} {o : Nat} (h : o + toNl (l.drop o) < l.length) : (∀ a, o ≤ a → a < o + toNl (l.drop o) → ∃ b, l[a]? = some b ∧ b.toNat ≠ 10) ∧ l[o + toNl (l.drop o)]? = some 10 := by
  have e : ∀ k, (l.drop o)[k]? = l[o + k]? := fun k => List.getElem?_drop
  constructor
  · intro a h1 h2
    obtain ⟨b, hb, hn⟩ := takeWhile_at (· != 10) (l.drop o) (a - o) (by unfold toNl at h2; omega)
    rw [e, show o + (a - o) = a by omega] at hb
    refine ⟨b, hb, fun h => ?_⟩
    have : b = 10 := UInt8.toNat_inj.1 h
    subst this
    simp at hn
  · obtain ⟨b, hb, hn⟩ := takeWhile_end (· != 10) (l.drop o) (by unfold toNl at h; rw [List.length_drop]; omega)
    rw [e] at hb
    have : b = 10 := by simpa using hn
    subst this
    exact hb
theorem offL_ge (s : List UInt8) : ∀ k, k ≤ offL s k
  | 0 => Nat.le_refl _
  | k + 1 => by have := offL_ge s k; show k + 1 ≤ offL s k + toNl (s.drop (offL s k)) + 1; omega
end Go.Proofs.YthhbhfpdabiclaaGreatDoor.L12
