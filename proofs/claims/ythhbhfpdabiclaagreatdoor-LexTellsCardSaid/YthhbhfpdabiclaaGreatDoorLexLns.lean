/- lex (layer 12): the library's iterator over lines. -/
import Derived.Test.YthhbhfpdabiclaaGreatDoorLexWord
import Derived.Test.YthhbhfpdabiclaaGreatDoorSepRange
import Derived.RangeFuncNested
import Derived.RangeFuncBound
import Derived.RangeFuncCalls
import Derived.RangeFuncLeaves
import Derived.Shelf.Abstract
import Derived.Shelf.RegionOpen
import Derived.WalkKit
import Derived.OwnWalkIn
import Derived.TacticsInMore
import Derived.LoopNIn
import Derived.LoopIn
namespace Go.Proofs.YthhbhfpdabiclaaGreatDoor.L12
open Go.RowKit Go.Shelf
set_option linter.unusedVariables false
attribute [local go_sem] Oper.semAt_some
def encS (x : List UInt8) : Array Value := #[.string (St x)]
/-- What comes next. -/
def Nx {α : Type} (whole : List α) (pre : List α) (x : α) : Prop := pre ++ [x] <+: whole
/-- A box of a string. -/
def SBx (B : Nat) (s : List UInt8) (W : World) : Prop := Boxed W B 9 (.string (St s))
def leftS (B : Nat) (W : World) : Nat := match W.heap[B]? with
  | some (.cells #[.string s] _ _) => s.size
  | _ => 0
theorem leftS_eq {B : Nat} {s : List UInt8} {W : World} (h : SBx B s W) : leftS B W = s.length := by
  unfold leftS
  rw [show W.heap[B]? = _ from h]
  exact St_size s
theorem only_cell {A : World} {b : Nat} {v : Value} {O : Ow} (h : O b) : OnlyO O A (A.setCell ⟨b, 0, none⟩ v) :=
  ⟨rfl, rfl, rfl, (grownBy_setCell' A b v).size, fun k hk hn => (grownBy_setCell' A b v).block k hk (fun e => hn (by cases e; exact h))⟩
theorem fr_cell {A : World} {b : Nat} {v : Value} {O : Ow} (hO : ∀ k, O k → k < A.heap.size) (h : ¬ O b) : FrO O A (A.setCell ⟨b, 0, none⟩ v) :=
  (only_cell (O := (· = b)) rfl).fr hO (fun k hk e => h (e ▸ hk))
theorem only_drew (O : Ow) (A : World) : OnlyO O A A.drew := ⟨rfl, rfl, rfl, Nat.le_refl _, fun _ _ _ => rfl⟩
theorem fr_drew (O : Ow) (A : World) : FrO O A A.drew := ⟨rfl, rfl, rfl, Nat.le_refl _, fun _ _ => rfl⟩
theorem only_after {O O1 G : Ow} {W W1 W2 : World} (h : OnlyO (fun k => O k ∨ G k) W W1) (y : OnlyO O1 W1 W2) (e : ExtO O W O1) : OnlyO (fun k => O k ∨ G k) W W2 :=
  h.trans y fun k hk => (e k hk).imp .inl id
theorem Lines_at (s : List UInt8) (w : World) : Calls Tryz.prog 38 #[.string (St s)] w fun e w' => e = .returned (.func (.func 52) #[] #[.pointer (some ⟨w.heap.size, 0, none⟩)]) ∧ w' = w.alloc (.cells #[.string (St s)] 9) := by
  go_enter Tryz.func38, Tryz.ntmps38
  go_wp2_with fail
  go_ret
  exact ⟨rfl, rfl⟩
set_option maxRecDepth 100000 in
set_option maxHeartbeats 4000000 in
theorem Lines_seq (n : Nat) (hn : 1 ≤ n) (B : Nat) (s : List UInt8) (hs : s.length ≤ 65536) (w : World) (hB : SBx B s w) :
    SeqO Fence.wide n Tryz.prog 52 #[.pointer (some ⟨B, 0, none⟩)] encS (· = B) (· = chk [] s) (· <+: chk [] s) (Nx (chk [] s)) w := fun l J Jx O W hW fJ fJx bJ bJx hG hY h0 => by
  have hb0 : SBx B s W := (hW.block B hB.lt).trans hB
  clear hB hW
  refine callsIn_of_wp Tryz.func52 rfl trivial ?_ rfl
  simp only [Tryz.ntmps52, List.size_toArray, List.length_cons, List.length_nil, Nat.reduceAdd, Nat.reduceSub, Array.replicate_succ, Array.replicate_zero, List.push_toArray, List.append_toArray, List.nil_append, List.cons_append]
  gi_wp2
  gi_loopw [3] (fun _ wr => ∃ (pre : List (List UInt8)) (rest : List UInt8) (O1 : Ow), chk [] s = pre ++ chk [] rest ∧ rest.length ≤ 65536 ∧ SBx B rest wr ∧ J pre O1 wr ∧ ExtO O W O1 ∧ OnlyO (fun k => O k ∨ k = B) W wr)
    (fun _ wr => leftS B wr)
  case atStart =>
    exact ⟨[], s, O, rfl, hs, hb0, h0, ExtO.refl _ _, OnlyO.refl _ _⟩
  case round =>
    obtain ⟨pre, rest, O1, h1, h2, h3, h4, h5, h6⟩ := hrel
    have c3 := h3.cell
    have f3 := h3.frozen
    have bl : B < W.heap.size := hb0.lt
    have nB : ¬ O1 B := fun q => (h5 B q).elim (hG B rfl) (fun q => by omega)
    have hL := Lib.hid (leftS_eq h3)
    cases rest with
    | nil =>
      have hz : (St []).size = 0 := rfl
      gi_wp2
      go_end0
      exact ⟨⟨_, rfl⟩, O1, h5, h6, .inl ⟨pre, by rw [h1]; simp [chk], h4⟩⟩
    | cons b t =>
      have hne : b :: t ≠ [] := by simp
      generalize b :: t = y at h1 h2 h3 c3 hL hne
      have hy1 : 1 ≤ y.length := by cases y with | nil => exact (hne rfl).elim | cons => simp
      have hsz : (St y).size = y.length := rfl
      have C := fun w => Lib.hid ((callsIn_wide (n := n - 1)).2 (IndexByte_at y w))
      have hidx : Lib.indexByte y 10 = -1 ∨ ∃ i : Nat, Lib.indexByte y 10 = i := by
        have := Lib.indexByte_ge y 10
        rcases Int.lt_or_le (Lib.indexByte y 10) 0 with h | h
        · exact .inl (by omega)
        · exact .inr ⟨(Lib.indexByte y 10).toNat, by omega⟩
      rcases hidx with hi | ⟨i, hi⟩
      · have hc := chk_none hi hne
        rw [hi] at C
        have hx : Nx (chk [] s) pre y := ⟨[], by rw [h1, hc]; simp⟩
        have hJ2 := fJ _ _ _ _ h4 (fr_cell (v := .string ⟨#[]⟩) (fun k hk => bJ _ _ _ h4 k hk) nB)
        have hB2 : SBx B [] (wr.setCell ⟨B, 0, none⟩ (.string ⟨#[]⟩)) := h3.set _
        have o2 : OnlyO (fun k => O k ∨ k = B) W (wr.setCell ⟨B, 0, none⟩ (.string ⟨#[]⟩)) := h6.trans (O' := fun k => O k ∨ k = B) (only_cell (.inr rfl)) (ExtO.refl _ _)
        obtain ⟨f0, t0, a0, c0, hy0, hR0⟩ := hY pre y O1 _ hJ2 hx h5
        change Sem.run _ (Instr.yield l #[.string (St y)]) _ = _ at hy0
        have HR := Lib.hid hR0
        have HN := Lib.hid hi
        have HH := Lib.hid (h1.trans (by rw [hc] : _ = pre ++ [y]))
        clear hR0 hi hc h1
        gi_wp2_with (refine ⟨trivial, (C _).out.mono ?_⟩; rintro e w2 ⟨rfl, rfl⟩)
        refine HR.out.mono ?_
        rintro e W3 ⟨O3, x3, y3, (⟨rfl, hJ3⟩ | ⟨rfl, hx3⟩)⟩
        · have hB3 : SBx B [] W3 := (y3.block B hB2.lt nB).trans hB2
          gi_wp2
          go_roundw
          case rel => exact ⟨pre ++ [y], [], O3, by rw [HH.out]; simp [chk], by simp, hB3, hJ3, h5.trans x3 o2.size, only_after o2 y3 h5⟩
          case measure => rw [leftS_eq hB3, hL.out]; exact hy1
        · gi_wp2
          refine bodyPost_ret (results_none rfl _ _ _) rfl ?_
          exact ⟨⟨_, rfl⟩, O3, h5.trans x3 o2.size, only_after o2 y3 h5, .inr ⟨pre ++ [y], ⟨[], by rw [HH.out]; simp⟩, hx3⟩⟩
      · have hc := chk_hit hi
        rw [hi] at C
        obtain ⟨q1, _⟩ := Lib.indexByte_some hi
        have hil : i < y.length := (List.getElem?_eq_some_iff.1 q1).1
        clear q1
        have hx : Nx (chk [] s) pre (y.take (i + 1)) := ⟨chk [] (y.drop (i + 1)), by rw [h1, hc]; simp⟩
        have HH := Lib.hid (h1.trans (by rw [hc] : _ = pre ++ (y.take (i + 1) :: chk [] (y.drop (i + 1)))))
        have HN := Lib.hid hi
        clear hi hc h1
        have iw : IntKind.i64.wrap ((i : Int) + 1) = (i : Int) + 1 := IntWalk.i64_in _ (by omega)
        have hmx : Tryz.prog.follows .mixedOrders = true := by kernel_rfl
        have e1 : (St y).extract 0 (i + 1) = St (y.take (i + 1)) := by rw [← St_of ((St y).extract 0 (i + 1)), Lib.extract_data]; simp
        have e2 : (St y).extract (i + 1) y.length = St (y.drop (i + 1)) := by rw [← St_of ((St y).extract (i + 1) y.length), Lib.extract_data]; simp only [St_list]; rw [List.take_of_length_le (by simp)]
        have hB1 : SBx B (y.drop (i + 1)) (wr.setCell ⟨B, 0, none⟩ (.string ((St y).extract (i + 1) y.length))) := by unfold SBx; rw [← e2]; exact h3.set _
        have hB2 : SBx B (y.drop (i + 1)) (wr.setCell ⟨B, 0, none⟩ (.string ((St y).extract (i + 1) y.length))).drew := hB1
        have hJ1 := fJ _ _ _ _ h4 (fr_cell (v := .string ((St y).extract (i + 1) y.length)) (fun k hk => bJ _ _ _ h4 k hk) nB)
        have hJ2 := fJ _ _ _ _ hJ1 (fr_drew O1 _)
        have o2 : OnlyO (fun k => O k ∨ k = B) W (wr.setCell ⟨B, 0, none⟩ (.string ((St y).extract (i + 1) y.length))).drew := (h6.trans (O' := fun k => O k ∨ k = B) (only_cell (.inr rfl)) (ExtO.refl _ _)).trans (O' := fun k => O k ∨ k = B) (only_drew _ _) (ExtO.refl _ _)
        obtain ⟨f0, t0, a0, c0, hy0, hR0⟩ := hY pre (y.take (i + 1)) O1 _ hJ2 hx h5
        unfold encS at hy0
        rw [← e1] at hy0
        have HR := Lib.hid hR0
        clear hR0 hJ1 hB1 e1 e2
        gi_wp2_with (refine ⟨trivial, (C _).out.mono ?_⟩; rintro e w2 ⟨rfl, rfl⟩)
        gi_region_with_o fail
        all_goals gi_wp2
        all_goals refine HR.out.mono ?_
        all_goals rintro e W3 ⟨O3, x3, y3, (⟨rfl, hJ3⟩ | ⟨rfl, hx3⟩)⟩
        all_goals gi_wp2
        all_goals first
          | (go_roundw
             case rel => exact ⟨pre ++ [y.take (i + 1)], y.drop (i + 1), O3, by rw [HH.out]; simp, by simp; omega, (y3.block B hB2.lt nB).trans hB2, hJ3, h5.trans x3 o2.size, only_after o2 y3 h5⟩
             case measure => rw [leftS_eq ((y3.block B hB2.lt nB).trans hB2), hL.out]; simp; omega)
          | (refine bodyPost_ret (results_none rfl _ _ _) rfl ?_
             exact ⟨⟨_, rfl⟩, O3, h5.trans x3 o2.size, only_after o2 y3 h5, .inr ⟨pre ++ [y.take (i + 1)], ⟨chk [] (y.drop (i + 1)), by rw [HH.out]; simp⟩, hx3⟩⟩)
end Go.Proofs.YthhbhfpdabiclaaGreatDoor.L12
