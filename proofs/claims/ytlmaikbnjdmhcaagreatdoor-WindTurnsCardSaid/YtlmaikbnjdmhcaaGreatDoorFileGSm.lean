/- A file that keeps step with a list of all that was set is found to be the same as the document's. -/
import Derived.Test.YtlmaikbnjdmhcaaGreatDoorFileGS
namespace Go.Proofs.YtlmaikbnjdmhcaaGreatDoor.F3
open Go.RowKit
set_option linter.unusedVariables false
theorem quiet_eq {P : Program} {f : FuncId} {args : Array Value} {w : World} {n : Nat} {v : Value} (h : Calls P f args (w.drewN n) fun e w' => e = .returned v ∧ w.drewN n = w') :
    Calls P f args (w.drewN n) fun e w'' => e = .returned v ∧ ∃ m, w'' = w.drewN m := h.mono fun _ _ hh => ⟨hh.1, n, hh.2.symm⟩
theorem wlk_form {w : World} {B m : Nat} {s : Value} {f : Nat → Int} (h : w.ownsRow B 22 1 s m (wlk f m)) (hm : 0 < m) : ∃ g c, s = .slice (some ⟨g, 0, none⟩) m c ∧ ∀ i, i < m → w.cell? ⟨g, i, none⟩ = some (.int .u32 (f i)) := by
  obtain ⟨_, h | ⟨g, cap, cur, rfl, hB, hg, h1, h2, h3, h4⟩⟩ := h
  · omega
  · refine ⟨g, cap, rfl, fun i hi => ?_⟩
    rw [cell_of_row _ _ _ _ _ _ hg]
    have : (wlk f m)[i]? = some (.int .u32 (f i)) := by simp [wlk, hi]
    rw [← h4, List.getElem?_take_of_lt (by omega)] at this
    simpa using this
theorem get_step (b : Nat) (n x k r : Int) (R : Nat → Int) (l : List Ent) (w : World) (hF : FileAt w b n R) (hn : 2 ≤ n) (hn' : n ≤ 32) (h : Named n x k r) (hS : Step R l) :
    Calls Tryz.prog 18 #[.pointer (some ⟨b, 0, none⟩), .int .i64 x, .int .i64 k, .int .i64 r] w fun e w' => e = .returned (.tuple #[.int .u32 (atL l (place n x k r)), .int .i64 0]) ∧ Below w.heap.size w w' := by
  rw [← cellOf_loc hn' h, ← hS _ (loc_lt hn' h)]
  exact get_at b n x k r R w hF hn hn' h
/-- What the rounds hand on: the document's file in its box, the list, the file, and that they keep step. -/
structure Kept (z b : Nat) (n : Int) (R : Nat → Int) (p : Option Addr) (m c : Nat) (l : List Ent) (w : World) : Prop where
  b0 : w.cell? ⟨z, 0, none⟩ = some (.int .i64 n)
  b1 : w.cell? ⟨z, 1, none⟩ = some (.slice p m c)
  file : FileAt w b n R
  list : LAt w (.slice p m c) l
theorem Kept.bel {z b : Nat} {n : Int} {R : Nat → Int} {p : Option Addr} {m c : Nat} {l : List Ent} {w w' : World} (h : Kept z b n R p m c l w) (g : Below w.heap.size w w') : Kept z b n R p m c l w' :=
  ⟨bel_cell g h.b0, bel_cell g h.b1, h.file.bel g, h.list.bel g⟩
theorem row_step {n x : Int} {R : Nat → Int} {l : List Ent} (hS : Step R l) (hn' : n ≤ 32) (h0 : 0 ≤ x) (h1 : x < n) {i : Nat} (hi : i < 16) : R (x.toNat * 16 + i) = atL l (place n x 0 (16 + (i : Int))) := by
  rw [place_put h0 h1 hn' hi, hS _ (by omega)]
  congr 2; omega
end Go.Proofs.YtlmaikbnjdmhcaaGreatDoor.F3
