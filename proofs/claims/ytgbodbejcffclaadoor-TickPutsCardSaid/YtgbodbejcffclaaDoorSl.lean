/- Slices of numbers of one kind, as a function of the place: read, kept, made by append. -/
import Derived.Test.YtgbodbejcffclaaDoorBel
import Derived.Test.YtgbodbejcffclaaDoorMemMath
import Derived.Laws.OwnMore
import Derived.Laws.AppendOwnNone
namespace Go.Proofs.YtgbodbejcffclaaDoor
open Go.RowKit
set_option linter.unusedVariables false
/-- A slice of n numbers: f says each by its place. -/
def Sl (k : IntKind) (w : World) (s : Value) (n : Nat) (f : Nat → Int) : Prop :=
  ∃ p c, s = .slice p n c ∧ (0 < n → ∃ b o, p = some ⟨b, o, none⟩ ∧ ∀ i, i < n → w.cell? ⟨b, o + i, none⟩ = some (.int k (f i)))
theorem Sl.bel {k : IntKind} {w w' : World} {s : Value} {n : Nat} {f : Nat → Int} (h : Sl k w s n f) (g : Below w.heap.size w w') : Sl k w' s n f := by
  obtain ⟨p, c, rfl, h⟩ := h
  exact ⟨p, c, rfl, fun hn => by obtain ⟨b, o, rfl, hc⟩ := h hn; exact ⟨b, o, rfl, fun i hi => bel_cell g (hc i hi)⟩⟩
theorem Sl.congr {k : IntKind} {w : World} {s : Value} {n : Nat} {f f' : Nat → Int} (h : Sl k w s n f) (e : ∀ i, i < n → f i = f' i) : Sl k w s n f' := by
  obtain ⟨p, c, rfl, h⟩ := h
  exact ⟨p, c, rfl, fun hn => by obtain ⟨b, o, rfl, hc⟩ := h hn; exact ⟨b, o, rfl, fun i hi => by rw [← e i hi]; exact hc i hi⟩⟩
theorem Sl.nil (k : IntKind) (w : World) (p : Option Addr) (c : Nat) (f : Nat → Int) : Sl k w (.slice p 0 c) 0 f := ⟨p, c, rfl, fun h => absurd h (by decide)⟩
/-- A slice of the call's own. -/
theorem own_sl {k : IntKind} {w : World} {B : Nat} {t : TypeId} {s : Value} {n : Nat} {f : Nat → Int} (h : w.ownsRow B t 1 s n (bsL k f n)) : Sl k w s n f := by
  obtain ⟨_, h | ⟨g, cap, cur, rfl, hB, hg, h1, h2, h3, h4⟩⟩ := h
  · obtain ⟨rfl, rfl⟩ := h; exact Sl.nil _ _ _ _ _
  · refine ⟨_, cap, rfl, fun _ => ⟨g, 0, rfl, fun i hi => ?_⟩⟩
    rw [Nat.zero_add, cell_of_row _ _ _ _ _ _ hg]
    have := bsL_get k f hi
    rw [← h4, List.getElem?_take_of_lt (by omega)] at this
    simpa using this
/-- The own block of a row, with its cells. -/
theorem own_form {k : IntKind} {w : World} {B : Nat} {t : TypeId} {s : Value} {n : Nat} {f : Nat → Int} (h : w.ownsRow B t 1 s n (bsL k f n)) (hn : 0 < n) : ∃ g c, s = .slice (some ⟨g, 0, none⟩) n c ∧ B ≤ g := by
  obtain ⟨_, h | ⟨g, cap, cur, rfl, hB, _⟩⟩ := h
  · omega
  · exact ⟨g, cap, rfl, hB⟩
theorem add_off (b o j : Nat) : (⟨b, o, none⟩ : Addr).add j = ⟨b, o + j, none⟩ := add_at b o j
theorem lenOf_own {w : World} {B : Nat} {t : TypeId} {s : Value} {m : Nat} {xs : List Value} (h : w.ownsRow B t 1 s m xs) : ∃ p c, s = .slice p m c := by
  obtain ⟨h0, h | ⟨g, cap, cur, rfl, _⟩⟩ := h
  · obtain ⟨rfl, rfl⟩ := h; exact ⟨_, _, rfl⟩
  · exact ⟨_, _, rfl⟩
end Go.Proofs.YtgbodbejcffclaaDoor
