/- Two lists beside each other (layer 7's), whatever turns. -/
import Derived.Test.YtiobgnelhiadbaaGreatDoorYAsmG
namespace Go.Proofs.YtiobgnelhiadbaaGreatDoor.A7
open Go.RowKit Go.Maps
set_option linter.unusedVariables false
/-- A list's own block is no box of a jump: a list, words, jumps, or a map. -/
def Typed (w : World) (i : Nat) : Prop := (∃ c, w.heap[i]? = some (.cells c 189 (0, 0))) ∨ (∃ c, w.heap[i]? = some (.cells c 22 (0, 0))) ∨ (∃ c, w.heap[i]? = some (.cells c 193 (0, 0))) ∨ ∃ es n, w.heap[i]? = some (.map es n)
section
variable {w w' : World} {a b : Nat} {G H K : Nat → Prop} {q : AS}
/-- The blocks that may turn can be cut down to the list's own. -/
theorem AsmB.four (h : AsmB w b G K q) : ∃ G4, AsmB w b G4 K q ∧ (∀ i, G4 i → G i) ∧ ∀ i, G4 i → Typed w i := by
  obtain ⟨mp, wv, jv, vs, P⟩ := h
  have hs : ∀ i, (i = b ∨ i = mp ∨ wv.ownBlock = some i ∨ jv.ownBlock = some i) → G i := fun i hi => by
    rcases hi with rfl | rfl | h | h
    · exact P.gb
    · exact P.gm
    · exact P.gw i h
    · exact P.gj i h
  refine ⟨fun i => i = b ∨ i = mp ∨ wv.ownBlock = some i ∨ jv.ownBlock = some i, ⟨mp, wv, jv, vs, { P with gb := .inl rfl, gm := .inr (.inl rfl), gw := fun j hj => .inr (.inr (.inl hj)), gj := fun j hj => .inr (.inr (.inr hj)), sub := fun i hi => P.sub i (hs i hi), far := fun i hi => P.far i (hs i hi) }⟩, hs, fun i hi => ?_⟩
  rcases hi with rfl | rfl | h | h
  · exact .inl ⟨_, P.box⟩
  · obtain ⟨es, n, hm, _⟩ := P.marks
    exact .inr (.inr (.inr ⟨es, n, hm⟩))
  · obtain ⟨c, hc⟩ := own_typ P.words h
    exact .inr (.inl ⟨c, hc⟩)
  · obtain ⟨c, hc⟩ := own_typ P.jumps h
    exact .inr (.inr (.inl ⟨c, hc⟩))
/-- Another list's blocks turn: this one stays. -/
theorem AsmB.off (h : AsmB w a G K q) (T : Turns H w w') (hd : ∀ i, G i → ¬ H i) (ht : ∀ i, H i → ¬ isTab i) (hH : ∀ i, H i → Typed w i) : ∃ K', AsmB w' a G K' q := by
  obtain ⟨mp, wv, jv, vs, P⟩ := h
  have no : ∀ (x : Nat) (c : Array Value) (t : TypeId), w.heap[x]? = some (.cells c t (0, 0)) → t ≠ 189 → t ≠ 22 → t ≠ 193 → ¬ H x := fun x c t hx h1 h2 h3 e => by
    rcases hH x e with ⟨c', h'⟩ | ⟨c', h'⟩ | ⟨c', h'⟩ | ⟨es, n, h'⟩ <;> rw [hx] at h' <;> cases h'
    · exact h1 rfl
    · exact h2 rfl
    · exact h3 rfl
  have Q := (P.narrow (K' := G) (fun _ e => e) P.sub).same (H := H) T hd ht fun i v j hv hj => by
    obtain ⟨bn, bx, ba, e, J⟩ := P.each i v j hv hj
    exact ⟨bn, bx, ba, e, T.heap (no _ _ _ J.name (by decide) (by decide) (by decide)) J.name, T.heap (no _ _ _ J.inst (by decide) (by decide) (by decide)) J.inst, T.heap (no _ _ _ J.pos (by decide) (by decide) (by decide)) J.pos, fun e => J.gn (P.sub _ e), fun e => J.gx (P.sub _ e), fun e => J.ga (P.sub _ e)⟩
  exact ⟨G, mp, wv, jv, vs, Q⟩
end
end Go.Proofs.YtiobgnelhiadbaaGreatDoor.A7
