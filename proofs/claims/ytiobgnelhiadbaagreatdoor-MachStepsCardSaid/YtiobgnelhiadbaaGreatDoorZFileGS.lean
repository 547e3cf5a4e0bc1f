/- What the document's Window of layer 3 comes to; and that a file which keeps step with a list is found to be the same. -/
import Derived.Test.YtiobgnelhiadbaaGreatDoorZFileGR
import Derived.Deep.QuietTactic
import Derived.BigQuiet
namespace Go.Proofs.YtiobgnelhiadbaaGreatDoor.F3
open Go.RowKit
set_option linter.unusedVariables false
def wlk (f : Nat → Int) (k : Nat) : List Value := (List.range k).map fun i => Value.int .u32 (f i)
theorem wlk_succ (f : Nat → Int) (k : Nat) : wlk f (k + 1) = wlk f k ++ [.int .u32 (f k)] := by simp [wlk, List.range_succ]
theorem one_box (w : World) (A : Array Value) (t : TypeId) : (∀ j v, A[j]? = some v → (w.alloc (.cells A t)).cell? ⟨w.heap.size, j, none⟩ = some v) :=
  fun j v h => (cell_of_row _ _ _ _ _ _ (heap_alloc_last _ _)).trans h
set_option maxHeartbeats 1000000 in
theorem refWindow_at (n x : Int) (p : Option Addr) (m c : Nat) (l : List Ent) (w : World) (hn : 2 ≤ n) (hn' : n ≤ 32) (h0 : 0 ≤ x) (h1 : x < n) (hl : l.length ≤ 1000) (hL : LAt w (.slice p m c) l) :
    Calls Tryz.prog 86 #[.agg #[.int .i64 n, .slice p m c], .int .i64 x] w fun e w' => ∃ s', e = .returned (.tuple #[s', .int .i64 0]) ∧ w'.ownsRow w.heap.size 22 1 s' 16 (wlk (fun i => atL l (place n x 0 (16 + (i : Int)))) 16) ∧ Below w.heap.size w w' := by
  obtain ⟨i0, hi, hz0, hz1, hz2⟩ := info_parts u32_parts
  have G : Below w.heap.size w (w.alloc (.cells #[.int .i64 n, .slice p m c] 35)) := (Below.refl _ _).alloc (Nat.le_refl _) _
  have HB := Lib.hid (one_box w #[.int .i64 n, .slice p m c] 35)
  have L0 := hL.bel G
  go_enter Tryz.func86, Tryz.ntmps86
  go_wp2
  generalize w.alloc (.cells #[.int .i64 n, .slice p m c] 35) = W at G HB L0 ⊢
  go_loopw [6, 7] (fun s i wr => ∃ k : Nat, k ≤ 16 ∧ i = .int .i64 (16 + (k : Int)) ∧ wr.ownsRow W.heap.size 22 1 s k (wlk (fun i => atL l (place n x 0 (16 + (i : Int)))) k) ∧ Below W.heap.size W wr) (fun _ i _ => 32 - (intOf i).toNat)
  case atStart => exact ⟨0, by omega, rfl, World.ownsRow_nil _ _ _ _, Below.refl _ _⟩
  case round =>
    obtain ⟨k, hk, rfl, hown, hg⟩ := hrel
    have GW := bel_trans G hg
    by_cases hlt : k < 16
    · have b0 : wr.cell? ⟨w.heap.size, 0, none⟩ = some (.int .i64 n) := bel_cell hg (HB.out 0 _ rfl)
      have b1 : wr.cell? ⟨w.heap.size, 1, none⟩ = some (.slice p m c) := bel_cell hg (HB.out 1 _ rfl)
      have L1 := Lib.hid (L0.bel hg)
      have ht : (16 + (k : Int)) < 32 := by omega
      go_wp2_with fail
      refine (refGet_at n x 0 (16 + (k : Int)) _ l _ hn hn' hl L1.out ⟨h0, h1, by decide, by decide, by omega, by omega⟩).mono ?_; rintro e w2 ⟨rfl, g2⟩
      have hown2 : w2.ownsRow W.heap.size 22 1 u6 k (wlk (fun i => atL l (place n x 0 (16 + (i : Int)))) k) := by
        cases hs : u6.ownBlock with
        | none => exact hown.kept (row := none) ⟨g2.os, g2.tape, g2.output, g2.size, fun i hi _ => g2.block i hi⟩ (.inl hs)
        | some b => exact hown.kept (row := none) ⟨g2.os, g2.tape, g2.output, g2.size, fun i hi _ => g2.block i hi⟩ (.inr (by rw [hs]; simp))
      have hg2 := bel_trans hg g2
      have hsW := hg2.size
      clear hown hg GW g2 b0 b1 L1 HB L0 hL
      go_wp2_with (at_builtin; refine wpList_append_own _ rfl _ _ 25 rfl W.heap.size 22 i0 (.int .u32 0) 1 4 u32_under hi hz0 hz1 hz2 rfl (by decide) _ _ _ rfl (hown2.alloc _) ⟨w2.heap.size, 0, none⟩ 1 1 [.int .u32 (atL l (place n x 0 (16 + (k : Int))))] rfl rfl (one_new _ _ _) (fun x hx => by simp at hx; subst hx; rfl) (by unfold maxLen; omega) (by omega) (by simp; omega) ?_; intro s' w3 hown' hgrow hnil
                   have X : Hid (w3.ownsRow W.heap.size 22 1 s' (k + 1) (wlk (fun i => atL l (place n x 0 (16 + (i : Int)))) (k + 1)) ∧ Below W.heap.size W w3) := ⟨by rw [wlk_succ]; exact hown', Below.grown (hg2.alloc (by omega) _) hgrow (by simp; omega) (fun j hj => (hown2.lt _ hj).1)⟩
                   clear hown' hgrow hnil)
      go_roundw
      case rel => exact ⟨k + 1, by omega, by go_num, X.out.1, X.out.2⟩
      case measure => simp [intOf]; omega
    · obtain rfl : k = 16 := by omega
      have hown3 : wr.ownsRow w.heap.size 22 1 u6 16 (wlk (fun i => atL l (place n x 0 (16 + (i : Int)))) 16) := by
        obtain ⟨q1, q2 | ⟨g, cap, cur, q3, q4, q5⟩⟩ := hown
        · exact ⟨q1, .inl q2⟩
        · exact ⟨q1, .inr ⟨g, cap, cur, q3, Nat.le_trans G.size q4, q5⟩⟩
      go_wp2
      go_ret2
      exact ⟨_, rfl, hown3, GW⟩
end Go.Proofs.YtiobgnelhiadbaaGreatDoor.F3
