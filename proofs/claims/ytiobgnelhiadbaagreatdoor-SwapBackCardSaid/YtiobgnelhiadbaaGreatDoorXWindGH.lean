/- What the laws of layer 8 share: may a case be looked at; the document's example. -/
import Derived.Test.YtiobgnelhiadbaaGreatDoorXWindGW
namespace Go.Proofs.YtiobgnelhiadbaaGreatDoor.K6
open Go.RowKit W8
set_option linter.unusedVariables false
section
variable {w : World} {b fb mb g x : Nat} {cs os : Value} {G : Nat → Prop} {m : MS}
theorem file_bel (h : MachP w b fb mb g x cs os G m) : Calls Tryz.prog 25 #[.pointer (some ⟨b, 0, none⟩)] w fun e w' => e = .returned (.pointer (some ⟨fb, 0, none⟩)) ∧ Below w.heap.size w w' :=
  (File_get h).mono fun e w' ⟨h1, h2⟩ => ⟨h1, h2 ▸ Below.refl _ _⟩
theorem window_c (h : MachP w b fb mb g x cs os G m) (c : Int) (c0 : 0 ≤ c) (c1 : c < m.nw) {W : World} (k : Below w.heap.size w W) :
    Calls Tryz.prog 31 #[.pointer (some ⟨fb, 0, none⟩), .int .i64 c] W fun e w' => ∃ sb, e = .returned (.tuple #[.slice (some ⟨sb, 0, none⟩) 16 16, .int .i64 0]) ∧ w'.heap[sb]? = some (.cells (F3.wl fun i => m.R ((16 * c).toNat + i)).toArray 22 (0, 0)) ∧ ¬ G sb ∧ Below W.heap.size W w' := by
  refine (F3.window_at fb m.nw c m.R W (h.bel k).file h.ok.n2 h.ok.n32 c0 c1).mono ?_
  rintro e w' ⟨rfl, gr, hrow⟩
  refine ⟨_, rfl, ?_, fun e => absurd ((h.bel k).lt _ e) (Nat.lt_irrefl _), gr⟩
  rw [show (16 * c).toNat = c.toNat * 16 by omega]
  exact hrow
theorem spect_one {o : Obj} {y : Nat} (h : w.heap[y]? = some o) (hy : ¬ G y) : Spect w [⟨b, G, m⟩] y o := ⟨h, fun j e hj => by
  cases j with
  | zero => simp at hj; subst hj; exact hy
  | succ j => simp at hj⟩
theorem wl_sl {y : Nat} {F : Nat → Int} (h : w.heap[y]? = some (.cells (F3.wl F).toArray 22 (0, 0))) : Sl .u32 w (.slice (some ⟨y, 0, none⟩) 16 16) 16 F := ⟨_, _, rfl, fun _ => ⟨_, 0, rfl, fun i hi => row_cell h (by simp [F3.wl, hi])⟩⟩
theorem get_c (h : MachP w b fb mb g x cs os G m) (c : Int) (c0 : 0 ≤ c) (c1 : c < m.nw) {v : Int} (hv : m.R (F3.loc m.nw c 0 14) = v) :
    Calls Tryz.prog 26 #[.pointer (some ⟨fb, 0, none⟩), .int .i64 c, .int .i64 0, .int .i64 14] w fun e w' => e = .returned (.tuple #[.int .u32 v, .int .i64 0]) ∧ Below w.heap.size w w' := by
  rw [← hv]
  exact F3.get_at fb m.nw c 0 14 m.R w h.file h.ok.n2 h.ok.n32 ⟨c0, c1, by decide, by decide, by decide, by decide⟩
end
/-- The document's example. -/
def hS : CS := ⟨3, 0, 48, fun i => if i < 48 then 1000 + (i : Int) else 0, 3, fun i => if i = 1 then 100 else if i = 2 then 200 else 0, 0, 0, 0, fun _ => 0, 0, false⟩
def hrow (k j : Nat) : Value := .int .u32 (if j < k then 1000 + (j : Int) else 0)
end Go.Proofs.YtiobgnelhiadbaaGreatDoor.K6
