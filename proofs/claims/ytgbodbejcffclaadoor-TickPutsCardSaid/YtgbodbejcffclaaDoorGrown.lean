/- Worlds that have only grown, and data without memory of its own: facts of no one program. -/
import Derived.Test.YtgbodbejcffclaaDoorRows
import Derived.WalkKit
import Derived.ProofKit
import Derived.OpenShut
import Derived.Below
namespace Go.Proofs.YtgbodbejcffclaaDoor
open Go.RowKit
/-- The library's 'Grown', and 'Below' with it: so what is said by either goes on. (A name of one's own in the library's place; nothing that stands over it turns.) -/
def Grown (W w' : World) : Prop := W.keptBut w' (fun _ => False) ∧ (∀ a, w'.frozen? a = W.frozen? a) ∧ W.heap.size ≤ w'.heap.size ∧ Below W.heap.size W w'
theorem Grown.lib {W w' : World} (h : Grown W w') : RowKit.Grown W w' := ⟨h.1, h.2.1, h.2.2.1⟩
theorem Grown.bel {W w' : World} (h : Grown W w') : Below W.heap.size W w' := h.2.2.2
theorem Grown.refl (W : World) : Grown W W := ⟨World.keptBut_refl _ _, fun _ => rfl, Nat.le_refl _, Below.refl _ _⟩
theorem Grown.alloc {W w' : World} (h : Grown W w') (c : Array Value) (t : TypeId) : Grown W (w'.alloc (.cells c t)) :=
  let k := h.lib.alloc c t
  ⟨k.1, k.2.1, k.2.2, h.bel.alloc h.bel.size _⟩
theorem Grown.setCell {W w' : World} (h : Grown W w') {a : Addr} (ha : W.heap.size ≤ a.block) (v : Value) : Grown W (w'.setCell a v) :=
  let k := h.lib.setCell ha v
  ⟨k.1, k.2.1, k.2.2, h.bel.setCell ha v⟩
theorem Grown.drew {W w' : World} (h : Grown W w') : Grown W w'.drew := ⟨h.1, h.2.1, h.2.2.1, h.bel.drew⟩
theorem Grown.frame {W w' : World} (h : Grown W w') (may : MemPlace → Prop) : W.keptBut w' may := h.lib.frame may
theorem grown_trans {a b c : World} (h : Grown a b) (k : Grown b c) : Grown a c :=
  ⟨World.keptBut_trans h.1 k.1, fun x => (k.2.1 x).trans (h.2.1 x), Nat.le_trans h.2.2.1 k.2.2.1, h.bel.trans (k.bel.mono h.bel.size)⟩
theorem grown_cell {w w' : World} (h : Grown w w') {b j : Nat} {v : Value} (hc : w.cell? ⟨b, j, none⟩ = some v) : w'.cell? ⟨b, j, none⟩ = some v := by
  have hb : b < w.heap.size := block_lt_of_cell hc
  obtain ⟨⟨_, _, h3⟩, _, _, _⟩ := h
  have := h3 b hb
  unfold World.cell? at hc ⊢
  simp only at hc ⊢
  cases h1 : w.heap[b]? with
  | none => rw [h1] at hc; simp at hc
  | some o =>
    cases o with
    | cells c t fr =>
      rw [h1] at hc this
      cases h2 : w'.heap[b]? with
      | none => rw [h2] at this; simp at this
      | some o' =>
        rw [h2] at this
        cases o' with
        | cells c' t' fr' =>
          simp only at this hc ⊢
          have hj := this.2.2.2 j (by simp)
          simp only [Option.isSome_none] at hc ⊢
          simpa [hj] using hc
        | _ => simp at this
    | _ => rw [h1] at hc; simp at hc
/-! Data of types that lead nowhere (bools, integers, structs and arrays of them) read the same in any world. -/
def flatT (P : Program) : Nat → TypeId → Bool
  | 0, _ => false
  | n + 1, t =>
    match P.underlying t with
    | some .bool => true
    | some (.int _) => true
    | some (.struct fs) => fs.toList.all fun f => flatT P n f.type
    | some (.array _ e) => flatT P n e
    | _ => false
theorem mapM_congr {α β : Type} {f g : α → Option β} : ∀ {l : List α}, (∀ a, a ∈ l → f a = g a) → l.mapM f = l.mapM g
  | [], _ => rfl
  | x :: l, h => by
    simp only [List.mapM_cons]
    rw [h x (by simp), mapM_congr (fun a ha => h a (by simp [ha]))]
theorem trod_flat {H : Type} {enc enc' : TypeId × Value → H} {P : Program} {w w' : World} {b b' : Nat} {s s' : Nat → Bool} {k k' : Bool} :
    ∀ (n : Nat) (t : TypeId), flatT P n t = true → ∀ (fuel : Nat) (cs : List Value), DataW.trod enc P w b s k fuel t cs = DataW.trod enc' P w' b' s' k' fuel t cs
  | 0, _, h => by cases h
  | n + 1, t, h => fun fuel cs => by
    cases fuel with
    | zero => rfl
    | succ fuel =>
      unfold flatT at h
      unfold DataW.trod
      cases hu : P.underlying t with
      | none => rfl
      | some u =>
        rw [hu] at h
        cases u <;> first | (exact absurd h Bool.false_ne_true) | skip
        · cases cs with
          | nil => rfl
          | cons c r => cases c <;> cases r <;> rfl
        · cases cs with
          | nil => rfl
          | cons c r => cases c <;> cases r <;> rfl
        case struct fs =>
          have hf : ∀ f, f ∈ fs.toList → flatT P n f.type = true := List.all_eq_true.1 h
          simp only
          rw [mapM_congr (fun f hm => trod_flat n f.type (hf f hm) fuel _)]
        case array m e =>
          simp only
          rw [mapM_congr (fun i _ => trod_flat n e h fuel _)]
theorem trod_flat_at {H : Type} {enc enc' : TypeId × Value → H} {P : Program} {w w' : World} {b b' : Nat} {s s' : Nat → Bool} {k k' : Bool} {n : Nat} {t : TypeId} {v : Value} {d : DataW H} {p : List MemPlace}
    (hf : flatT P n t = true) (h : DataW.Trod enc P w b s k t v d p) : DataW.Trod enc' P w' b' s' k' t v d p := by
  obtain ⟨fuel, h⟩ := h
  exact ⟨fuel, (trod_flat n t hf fuel _).symm.trans h⟩
end Go.Proofs.YtgbodbejcffclaaDoor
