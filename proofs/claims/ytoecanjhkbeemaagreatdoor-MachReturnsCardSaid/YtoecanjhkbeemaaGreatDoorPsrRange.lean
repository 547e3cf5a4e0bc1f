/- The iterator over a state's parts (package psr): it hands on a pointer to each of the four parts, with its width, in order; for any loop body that keeps the iterator's own variable. -/
import Derived.RangeFuncNested
import Derived.RangeFuncBound
import Derived.RangeFuncCalls
import Derived.RangeFuncLeaves
import Derived.Shelf.Abstract
import Derived.Shelf.RegionOpen
import Derived.WalkKit
import Derived.OwnWalkIn
import Derived.TacticsInMore
import Derived.LoopNIn
import Derived.LoopIn
import Derived.Test.YtoecanjhkbeemaaGreatDoorChecked
import Derived.Test.YtoecanjhkbeemaaGreatDoorPsrMath
namespace Go.Proofs.YtoecanjhkbeemaaGreatDoor.P4
open Go.RowKit Go.Shelf
set_option linter.unusedVariables false
attribute [local go_sem] Oper.semAt_some

/-- What a round is handed: where the part lies, and its width. -/
def encP (b : Nat) (k : Fin 4) : Array Value := #[.pointer (some ⟨b, k.val, none⟩), .int .i64 (wid k)]
theorem encP0 (b : Nat) : encP b 0 = #[.pointer (some ⟨b, 0, none⟩), .int .i64 5] := rfl
theorem encP1 (b : Nat) : encP b 1 = #[.pointer (some ⟨b, 1, none⟩), .int .i64 4] := rfl
theorem encP2 (b : Nat) : encP b 2 = #[.pointer (some ⟨b, 2, none⟩), .int .i64 5] := rfl
theorem encP3 (b : Nat) : encP b 3 = #[.pointer (some ⟨b, 3, none⟩), .int .i64 4] := rfl
/-- What a round keeps: the iterator's variable. -/
def KeepB (B : Nat) (A C : World) : Prop := ∀ v, A.cell? ⟨B, 0, none⟩ = some v → C.cell? ⟨B, 0, none⟩ = some v

theorem parts_any (F : Fence) (n : Nat) (h35 : F.fn 190) (hro : F.round = none) (b : Nat) (w : World) :
    CallsIn F n Tryz.prog 190 #[.pointer (some ⟨b, 0, none⟩)] w fun e w' => e = .returned (.func (.func 216) #[] #[.pointer (some ⟨w.heap.size, 0, none⟩)]) ∧ w.alloc (.cells #[.pointer (some ⟨b, 0, none⟩)] 242) = w' := by
  refine callsIn_of_wp Tryz.func190 rfl h35 ?_ hro
  simp only [Tryz.ntmps190, List.size_toArray, List.length_cons, List.length_nil, Nat.reduceAdd, Nat.reduceSub, Array.replicate_succ, Array.replicate_zero, List.push_toArray, List.append_toArray, List.nil_append, List.cons_append]
  gi_wp2
  go_ret
  exact ⟨rfl, rfl⟩

set_option maxRecDepth 100000 in
set_option maxHeartbeats 2000000 in
theorem parts_stops (F : Fence) (n : Nat) (h36 : F.fn 216) (hro : F.round = none) (hn : 1 ≤ n) (B b : Nat) (w : World) (hB : w.cell? ⟨B, 0, none⟩ = some (.pointer (some ⟨b, 0, none⟩))) :
    SeqStopsK F n Tryz.prog 216 #[.pointer (some ⟨B, 0, none⟩)] (encP b) (KeepB B) (fun xs => xs = [0, 1, 2, 3]) (fun _ => True) 4 w := fun l J Jx W hW _ _ hY h0 => by
  have hb0 : W.cell? ⟨B, 0, none⟩ = some (.pointer (some ⟨b, 0, none⟩)) := (hW.cell (p := ⟨B, 0, none⟩) (block_lt_of_cell hB)).trans hB
  clear hB hW
  refine callsIn_of_wp Tryz.func216 rfl h36 ?_ hro
  simp only [Tryz.ntmps216, List.size_toArray, List.length_cons, List.length_nil, Nat.reduceAdd, Nat.reduceSub, Array.replicate_succ, Array.replicate_zero, List.push_toArray, List.append_toArray, List.nil_append, List.cons_append]
  obtain ⟨f0, t0, a0, c0, hy0, hR0⟩ := hY [] 0 W h0 (by simp)
  rw [encP0] at hy0
  gi_wp2
  refine hR0.mono ?_
  rintro e W1 (⟨rfl, hJ1, k1⟩ | ⟨rfl, hx1⟩)
  · have hb1 := k1 _ hb0
    clear hR0 hy0 k1
    obtain ⟨f1, t1, a1, c1, hy1, hR1⟩ := hY [0] 1 W1 hJ1 (by simp)
    rw [encP1] at hy1
    gi_wp2
    refine hR1.mono ?_
    rintro e W2 (⟨rfl, hJ2, k2⟩ | ⟨rfl, hx2⟩)
    · have hb2 := k2 _ hb1
      clear hR1 hy1 k2
      obtain ⟨f2, t2, a2, c2, hy2, hR2⟩ := hY [0, 1] 2 W2 hJ2 (by simp)
      rw [encP2] at hy2
      gi_wp2
      refine hR2.mono ?_
      rintro e W3 (⟨rfl, hJ3, k3⟩ | ⟨rfl, hx3⟩)
      · have hb3 := k3 _ hb2
        clear hR2 hy2 k3
        obtain ⟨f3, t3, a3, c3, hy3, hR3⟩ := hY [0, 1, 2] 3 W3 hJ3 (by simp)
        rw [encP3] at hy3
        gi_wp2
        refine hR3.mono ?_
        rintro e W4 (⟨rfl, hJ4, k4⟩ | ⟨rfl, hx4⟩)
        · gi_wp2
          go_end0
          exact ⟨⟨_, rfl⟩, .inl ⟨[0, 1, 2, 3], rfl, hJ4⟩⟩
        · gi_wp2
          go_end0
          exact ⟨⟨_, rfl⟩, .inr ⟨_, trivial, hx4⟩⟩
      · gi_wp2
        repeat (refine ⟨fun _ h => (by cases h), ?_⟩; gi_wp2)
        go_end0
        exact ⟨⟨_, rfl⟩, .inr ⟨_, trivial, hx3⟩⟩
    · gi_wp2
      repeat (refine ⟨fun _ h => (by cases h), ?_⟩; gi_wp2)
      go_end0
      exact ⟨⟨_, rfl⟩, .inr ⟨_, trivial, hx2⟩⟩
  · gi_wp2
    repeat (refine ⟨fun _ h => (by cases h), ?_⟩; gi_wp2)
    go_end0
    exact ⟨⟨_, rfl⟩, .inr ⟨_, trivial, hx1⟩⟩
end Go.Proofs.YtoecanjhkbeemaaGreatDoor.P4
