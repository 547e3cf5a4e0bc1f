/- What a round of layer 3's statement FilePlays hands on, and that it stays. -/
import Derived.Test.YthhkecdcgalcbaaFileSame
import Derived.Test.YthhkecdcgalcbaaFileRefD
import Derived.Test.YthhkecdcgalcbaaFileHead
import Derived.OneCell
namespace Go.Proofs.Ythhkecdcgalcbaa
open Go.RowKit
set_option linter.unusedVariables false
/-- The document's file in its box z, its list, and a file in block b. -/
structure Lp (z b : Nat) (n : Int) (R : Nat → Int) (p : Option Addr) (m c : Nat) (L : List Ent) (w : World) : Prop where
  q0 : w.cell? ⟨z, 0, none⟩ = some (.int .i64 n)
  q1 : w.cell? ⟨z, 1, none⟩ = some (.slice p m c)
  f0 : w.frozen? ⟨z, 0, none⟩ = false
  f1 : w.frozen? ⟨z, 1, none⟩ = false
  file : FileAt w b n R
  list : LAt w (.slice p m c) L
  far : (Value.slice p m c).ownBlock ≠ some z
  ne : b ≠ z
/-- What was: the document's file before in its box s, the act in its box x, the file before in block b. -/
structure Was (s x b : Nat) (n : Int) (R : Nat → Int) (p : Option Addr) (m c : Nat) (L : List Ent) (a1 a2 a3 a4 : Int) (w : World) : Prop where
  s0 : w.cell? ⟨s, 0, none⟩ = some (.int .i64 n)
  s1 : w.cell? ⟨s, 1, none⟩ = some (.slice p m c)
  x1 : w.cell? ⟨x, 1, none⟩ = some (.int .i64 a1)
  x2 : w.cell? ⟨x, 2, none⟩ = some (.int .i64 a2)
  x3 : w.cell? ⟨x, 3, none⟩ = some (.int .i64 a3)
  x4 : w.cell? ⟨x, 4, none⟩ = some (.int .u32 a4)
  file : FileAt w b n R
  list : LAt w (.slice p m c) L
theorem Lp.bel {z b : Nat} {n : Int} {R : Nat → Int} {p : Option Addr} {m c : Nat} {L : List Ent} {w w' : World} (h : Lp z b n R p m c L w) (g : Below w.heap.size w w') : Lp z b n R p m c L w' :=
  ⟨bel_cell g h.q0, bel_cell g h.q1, bel_frozen g h.q0 h.f0, bel_frozen g h.q0 h.f1, h.file.bel g, h.list.bel g, h.far, h.ne⟩
theorem Was.bel {s x b : Nat} {n : Int} {R : Nat → Int} {p : Option Addr} {m c : Nat} {L : List Ent} {a1 a2 a3 a4 : Int} {w w' : World} (h : Was s x b n R p m c L a1 a2 a3 a4 w) (g : Below w.heap.size w w') : Was s x b n R p m c L a1 a2 a3 a4 w' :=
  ⟨bel_cell g h.s0, bel_cell g h.s1, bel_cell g h.x1, bel_cell g h.x2, bel_cell g h.x3, bel_cell g h.x4, h.file.bel g, h.list.bel g⟩
theorem cell_far {w : World} {z b j o : Nat} {u : Value} (hb : b ≠ z) : (w.setCell ⟨z, o, none⟩ u).cell? ⟨b, j, none⟩ = w.cell? ⟨b, j, none⟩ := World.cell?_setCell_other _ _ _ _ (fun e => hb (by cases e; rfl))
theorem file_far {w : World} {z b o : Nat} {n : Int} {R : Nat → Int} {u : Value} (h : FileAt w b n R) (hb : b ≠ z) : FileAt (w.setCell ⟨z, o, none⟩ u) b n R := by
  unfold FileAt; rw [heap_setCell_other _ _ _ _ hb]; exact h
theorem list_far {w : World} {z o : Nat} {s : Value} {L : List Ent} {u : Value} (h : LAt w s L) (hs : s.ownBlock ≠ some z) : LAt (w.setCell ⟨z, o, none⟩ u) s L := ownsRow_setCell_other h (a := ⟨z, o, none⟩) hs u
/-- The world in which the document's file lies anew in its box. -/
def boxed (w : World) (z : Nat) (n : Int) (s : Value) : World := (w.setCell ⟨z, 0, none⟩ (.int .i64 n)).setCell ⟨z, 1, none⟩ s
theorem Lp.store {z b : Nat} {n : Int} {R : Nat → Int} {p p2 : Option Addr} {m c m2 c2 : Nat} {L L2 : List Ent} {w : World} (h : Lp z b n R p m c L w) (hL : LAt w (.slice p2 m2 c2) L2) (hf : (Value.slice p2 m2 c2).ownBlock ≠ some z) :
    Lp z b n R p2 m2 c2 L2 (boxed w z n (.slice p2 m2 c2)) := by
  refine ⟨?_, ?_, ?_, ?_, file_far (file_far h.file h.ne) h.ne, list_far (list_far hL hf) hf, hf, h.ne⟩
  · unfold boxed; rw [World.cell?_setCell_other _ _ _ _ (by simp), World.cell?_setCell_same _ _ _ h.q0]
  · unfold boxed; exact World.cell?_setCell_same _ _ _ ((World.cell?_setCell_other _ _ _ _ (by simp)).trans h.q1)
  · unfold boxed; rw [World.frozen?_setCell, World.frozen?_setCell]; exact h.f0
  · unfold boxed; rw [World.frozen?_setCell, World.frozen?_setCell]; exact h.f1
theorem Was.store {z s x b : Nat} {n n2 : Int} {R : Nat → Int} {p : Option Addr} {m c : Nat} {L : List Ent} {a1 a2 a3 a4 : Int} {w : World} {v : Value} (h : Was s x b n R p m c L a1 a2 a3 a4 w) (hs : s ≠ z) (hx : x ≠ z) (hb : b ≠ z) (hf : (Value.slice p m c).ownBlock ≠ some z) :
    Was s x b n R p m c L a1 a2 a3 a4 (boxed w z n2 v) := by
  unfold boxed
  exact ⟨(cell_far hs).trans ((cell_far hs).trans h.s0), (cell_far hs).trans ((cell_far hs).trans h.s1), (cell_far hx).trans ((cell_far hx).trans h.x1), (cell_far hx).trans ((cell_far hx).trans h.x2), (cell_far hx).trans ((cell_far hx).trans h.x3), (cell_far hx).trans ((cell_far hx).trans h.x4),
    file_far (file_far h.file hb) hb, list_far (list_far h.list hf) hf⟩
theorem list_only {w w' : World} {z : Nat} {s : Value} {L : List Ent} (h : LAt w s L) (g : w.grownBy w' (some z)) (hs : s.ownBlock ≠ some z) : LAt w' s L := World.ownsRow.kept h g (.inr hs)
theorem Lp.only {z b : Nat} {n : Int} {R R' : Nat → Int} {p : Option Addr} {m c : Nat} {L : List Ent} {w w' : World} (h : Lp z b n R p m c L w) (g : w.grownBy w' (some b)) (hF : FileAt w' b n R') (hs : (Value.slice p m c).ownBlock ≠ some b) : Lp z b n R' p m c L w' :=
  ⟨only_cell_far g h.q0 h.ne.symm, only_cell_far g h.q1 h.ne.symm, only_frozen_far g h.q0 h.f0 h.ne.symm, only_frozen_far g h.q1 h.f1 h.ne.symm, hF, list_only h.list g hs, h.far, h.ne⟩
theorem Was.only {z s x b : Nat} {n : Int} {R : Nat → Int} {p : Option Addr} {m c : Nat} {L : List Ent} {a1 a2 a3 a4 : Int} {w w' : World} (h : Was s x b n R p m c L a1 a2 a3 a4 w) (g : w.grownBy w' (some z)) (hs : s ≠ z) (hx : x ≠ z) (hb : b ≠ z) (hf : (Value.slice p m c).ownBlock ≠ some z) : Was s x b n R p m c L a1 a2 a3 a4 w' :=
  ⟨only_cell_far g h.s0 hs, only_cell_far g h.s1 hs, only_cell_far g h.x1 hx, only_cell_far g h.x2 hx, only_cell_far g h.x3 hx, only_cell_far g h.x4 hx, h.file.only g hb, list_only h.list g hf⟩
theorem LAt.lt' {w : World} {s : Value} {L : List Ent} (h : LAt w s L) {k : Nat} (hk : w.heap.size ≤ k) : s.ownBlock ≠ some k := fun e => by have := (World.ownsRow.lt h _ e).2; omega
theorem LAtB.ge' {B k : Nat} {w : World} {s : Value} {L : List Ent} (h : LAtB B w s L) (hk : k < B) : s.ownBlock ≠ some k := fun e => by have := (World.ownsRow.lt h _ e).1; omega
end Go.Proofs.Ythhkecdcgalcbaa
