/- Package wind as it has landed: slices put together (slices.Grow, slices.Concat), put. Package wind as it has landed: what is put; the mark ahead of a handler; Over and Under. -/
import Derived.Lib.AppendZerosOnto
import Derived.Lib.Walk
import Derived.Maps.AppendAt
import Derived.Test.YtiobgnelhiadbaaGreatDoorVWindGB
import Derived.Test.YtiobgnelhiadbaaGreatDoorVAsmG
import Derived.Test.YtiobgnelhiadbaaGreatDoorVPsrG
namespace Go.Proofs.YtiobgnelhiadbaaGreatDoor.W8
open Go.RowKit
open A7 (XI XB)
set_option linter.unusedVariables false
theorem zeros_len (z : Array Value) (k : Nat) : (Builtin.zeroCells z k).size = k * z.size := by
  unfold Builtin.zeroCells
  induction k with
  | zero => simp
  | succ k ih => simp_all [Nat.succ_mul]
set_option maxRecDepth 100000 in
set_option maxHeartbeats 4000000 in
/-- slices.Grow of no slice. -/
theorem Grow_at (n : Nat) (w : World) (h0 : 0 < n) (h1 : n ≤ 1000) : Calls Tryz.prog 280 #[.slice none 0 0, .int .i64 n] w fun e w' => ∃ v, e = .returned v ∧ w'.ownsRow w.heap.size 88 6 v 0 [] ∧ Below w.heap.size w w' := by
  obtain ⟨i0, hi, hz0, hz1, hz2⟩ := inst_parts
  have hold : (Builtin.firstCells i0.size 0 (.slice none 0 0)).run Tryz.prog w.drew = .ok ([] : List Value).toArray w.drew := run_firstCells_none w.drew i0.size 0 0 0
  have hrz : ∀ ty, (Builtin.append_ #[113, 3] ty #[.slice none 0 0, .int .i64 (n : Int)]).run Tryz.prog w =
      .ok (.slice (some ⟨w.heap.size, 0, none⟩) n (grownCap w n 0 88)) (w.drew.alloc (.cells (Builtin.zeroCells instZ.cells n ++ Builtin.zeroCells instZ.cells (grownCap w n 0 88 - n)) 88)) := fun ty => by
    have h := Lib.run_append_grow_zeros (P := Tryz.prog) w 113 3 ty 88 i0 instZ .i64 .i64 inst_under Tryz.underlying3 hi hz0 none 0 0 [] hold n h0 (by rw [hz1]; decide) (by omega) (by omega) (by rw [hz2]; omega)
      (by rw [Nat.zero_add]; exact growslice_fits (by omega) (by rw [hz2]; omega))
    simpa using h
  have hg1 := grownCap_ge w n 0 88
  have hg2 := grownCap_le_maxLen w n 0 88 (by unfold maxLen; omega)
  generalize grownCap w n 0 88 = G at *
  have hG63 : G ≤ 9223372036854775807 := by unfold maxLen at hg2; omega
  have hn : ¬ ((n : Int) < 0) := by omega
  have hp : (n : Int) > 0 := by omega
  have hsz : (Builtin.zeroCells instZ.cells n ++ Builtin.zeroCells instZ.cells (G - n)).size = G * 6 := by
    rw [Array.size_append, zeros_len, zeros_len]
    show n * 6 + (G - n) * 6 = G * 6
    omega
  have O : Hid ((w.drew.alloc (.cells (Builtin.zeroCells instZ.cells n ++ Builtin.zeroCells instZ.cells (G - n)) 88)).ownsRow w.heap.size 88 6 (.slice (some ⟨w.heap.size, 0, none⟩) 0 G) 0 []) :=
    ⟨rfl, .inr ⟨w.heap.size, G, _, rfl, Nat.le_refl _, heap_alloc_last _ _, Nat.zero_le _, hg2, hsz, by simp⟩⟩
  have B : Hid (Below w.heap.size w (w.drew.alloc (.cells (Builtin.zeroCells instZ.cells n ++ Builtin.zeroCells instZ.cells (G - n)) 88))) := (Below.refl _ _).drew.alloc (Nat.le_refl _) _
  generalize (w.drew.alloc (.cells (Builtin.zeroCells instZ.cells n ++ Builtin.zeroCells instZ.cells (G - n)) 88)) = W at *
  clear hold hsz hg2 hi hz0 hz1 hz2
  go_enter Tryz.func280, Tryz.ntmps280
  go_wp2_with (at_builtin; refine Lib.wpList_append_run _ rfl _ _ _ _ rfl _ _ rfl rfl _ _ (hrz _) ?_)
  go_ret
  exact ⟨_, rfl, O.out, B.out⟩
/-- The first parts, one behind the other. -/
def catL (L : Nat → List XI) : Nat → List XI
  | 0 => []
  | k + 1 => catL L k ++ L k
theorem cat_le (L : Nat → List XI) (h : ∀ i, (L i).length ≤ 16) : ∀ k, (catL L k).length ≤ 16 * k
  | 0 => Nat.le_refl _
  | k + 1 => by have := cat_le L h k; have := h k; simp only [catL, List.length_append]; omega
/-- Parts in a slice of slices. -/
structure PartsAt (w : World) (B : Nat) (t : Value) (k : Nat) (V : Nat → Value) (L : Nat → List XI) : Prop where
  at_ : ∃ x c, t = .slice (some ⟨x, 0, none⟩) k c ∧ B ≤ x ∧ ∀ i, i < k → w.cell? ⟨x, i, none⟩ = some (V i)
  part : ∀ i, i < k → PartAt w B (V i) (L i)
theorem PartsAt.bel {w w' : World} {B : Nat} {t : Value} {k : Nat} {V : Nat → Value} {L : Nat → List XI} (h : PartsAt w B t k V L) (g : Below w.heap.size w w') : PartsAt w' B t k V L := by
  obtain ⟨x, c, rfl, hB, hc⟩ := h.at_
  exact ⟨⟨x, c, rfl, hB, fun i hi => bel_cell g (hc i hi)⟩, fun i hi => (h.part i hi).bel g⟩
set_option maxRecDepth 100000 in
set_option maxHeartbeats 4000000 in
theorem Concat_at {w : World} {B : Nat} {t : Value} {k : Nat} {V : Nat → Value} {L : Nat → List XI} (h : PartsAt w B t k V L) (hk : 0 < k) (hk2 : k ≤ 10) (hL : ∀ i, (L i).length ≤ 16) (hp : 0 < (catL L k).length) :
    Calls Tryz.prog 244 #[t] w fun e w' => ∃ v, e = .returned v ∧ PartAt w' w.heap.size v (catL L k) ∧ Below w.heap.size w w' := by
  obtain ⟨i0, hi, hz0, hz1, hz2⟩ := inst_parts
  obtain ⟨x, c, rfl, _, hcs⟩ := h.at_
  have HP := Lib.hid h
  have HC := Lib.hid hcs
  have HL := Lib.hid (cat_le L hL)
  have HL1 := Lib.hid hL
  have HK := Lib.hid hp
  have HI := Lib.hid hi
  have HZ := Lib.hid (And.intro hz0 (And.intro hz1 hz2))
  clear h hcs hL hp hi hz0 hz1 hz2
  go_enter Tryz.func244, Tryz.ntmps244
  go_wp2_with fail
  go_loopw [3, 11] (fun s i wr => ∃ j : Nat, j ≤ k ∧ s = .int .i64 ((catL L j).length : Int) ∧ i = .int .i64 j ∧ w = wr) (fun _ i _ => k - (intOf i).toNat)
  case atStart => exact ⟨0, Nat.zero_le _, rfl, rfl, rfl⟩
  case round =>
    obtain ⟨j, hj, rfl, rfl, rfl⟩ := hrel
    by_cases hlt : j < k
    · have hc := HC.out j hlt
      obtain ⟨g, pc, hv, _, _, _⟩ := HP.out.part j hlt
      rw [hv] at hc
      have hl := HL.out j
      have hl1 := HL1.out j
      have HE : Hid (((catL L j).length : Int) + ((L j).length : Int) = ((catL L (j + 1)).length : Int)) := by
        rw [show catL L (j + 1) = catL L j ++ L j from rfl, List.length_append]
        unfold Hid
        omega
      generalize (catL L j).length = a at *
      generalize (L j).length = d at *
      have w1 : IntKind.i64.wrap ((a : Int) + (d : Int)) = (a : Int) + (d : Int) := IntWalk.i64_in _ (by omega)
      have n1 : ¬ ((a : Int) + (d : Int) < 0) := by omega
      go_wp2_with fail
      go_roundw
      case rel => exact ⟨j + 1, by omega, by rw [HE.out], by go_num, by first | rfl | trivial⟩
      case measure => simp [intOf]; omega
    · obtain rfl : j = k := by omega
      have hlk := HL.out j
      have hp := HK.out
      obtain ⟨n, hn⟩ : ∃ n, n = (catL L j).length := ⟨_, rfl⟩
      have HN := Lib.hid hn
      rw [← hn] at hlk hp ⊢
      clear hn
      have C := Lib.hid (Grow_at n w hp (by omega))
      go_wp2_with fail
      refine C.out.mono ?_; rintro e w2 ⟨v, rfl, O2, g2⟩
      have O2 := Lib.hid O2
      have G2 := Lib.hid g2
      clear C g2
      go_wp2_with fail
      go_loopw [6, 27] (fun s i wr => ∃ i' : Nat, i' ≤ j ∧ i = .int .i64 i' ∧ wr.ownsRow w.heap.size 88 6 s (catL L i').length (rowsOf (catL L i')) ∧ Below w.heap.size w wr) (fun _ i _ => j - (intOf i).toNat)
      case atStart => exact ⟨0, Nat.zero_le _, rfl, O2.out, G2.out⟩
      case round =>
        obtain ⟨i', hi', rfl, O3, g3⟩ := hrel
        have O3 := Lib.hid O3
        have G3 := Lib.hid g3
        clear O2 G2 g3
        by_cases hlt2 : i' < j
        · have hc := bel_cell G3.out (HC.out i' hlt2)
          obtain ⟨g, pc, hv, _, hgl, hgc⟩ := HP.out.part i' hlt2
          rw [hv] at hc
          have HG : Hid (∀ q u, (rowsOf (L i'))[q]? = some u → wr.cell? ((⟨g, 0, none⟩ : Addr).add q) = some u) := fun q u hu => by
            rw [add_off, Nat.zero_add]
            exact bel_cell G3.out (hgc q u hu)
          have hl := HL.out i'
          have hl1 := HL1.out i'
          have HE : Hid (rowsOf (catL L i') ++ rowsOf (L i') = rowsOf (catL L (i' + 1)) ∧ (catL L i').length + (L i').length = (catL L (i' + 1)).length) := ⟨by rw [← rowsOf_append]; rfl, by simp [catL]⟩
          have HR := Lib.hid (rowsOf_len (L i'))
          have HS := Lib.hid (fun u (hu : u ∈ rowsOf (L i')) => rowsOf_cells u hu)
          have HB : Hid (w.heap.size ≤ wr.heap.size) := G3.out.size
          clear hgc hv
          generalize hd : (L i').length = d at *
          clear hd
          go_wp2_with (at_builtin; (refine wpList_append_own_at _ rfl _ _ 113 rfl w.heap.size 88 i0 instZ 6 12 inst_under HI.out HZ.out.1 HZ.out.2.1 HZ.out.2.2 rfl (by decide) _ _ _ rfl O3.out ⟨g, 0, none⟩ d _ (rowsOf (L i')) rfl HR.out HG.out HS.out (by unfold maxLen; omega) (by omega) HB.out ?_; intro v' w3 hown hgrow _ _; have O4 := Lib.hid hown; have G4 := Lib.hid hgrow; clear hown hgrow))
          go_roundw
          case rel =>
            have o4 := O4.out
            rw [HE.out.1, HE.out.2] at o4
            refine ⟨i' + 1, by omega, by go_num, o4, G3.out.grown G4.out HB.out fun q e => (World.ownsRow.lt O3.out q e).1⟩
          case measure => simp [intOf]; omega
        · obtain rfl : i' = j := by omega
          have PA := Lib.hid (part_own O3.out rfl HK.out)
          obtain ⟨vp, vc, rfl, _⟩ := id PA.out
          clear O3
          go_wp2_with fail
          go_ret
          exact ⟨_, rfl, PA.out, G3.out⟩
end Go.Proofs.YtiobgnelhiadbaaGreatDoor.W8
namespace Go.Proofs.YtiobgnelhiadbaaGreatDoor.W8
open Go.RowKit
open A7 (XI XB AS AsmB Left Has NoAsm Ins)
set_option linter.unusedVariables false
section
variable {w0 w w' : World} {b : Nat} {G G0 K : Nat → Prop} {q : AS}
theorem put_at {B k : Nat} {t : Value} {V : Nat → Value} {L : Nat → List XI} (h : Has w0 w b G0 q) (P : PartsAt w B t k V L) (hk : 0 < k) (hk2 : k ≤ 10) (hL : ∀ i, (L i).length ≤ 16) (hp : 0 < (catL L k).length) (hb : ∀ x ∈ catL L k, XB x) (hm : ∀ x ∈ catL L k, x.may = true) (hn : q.n + (catL L k).length ≤ 100000) :
    Calls Tryz.prog 251 #[.pointer (some ⟨b, 0, none⟩), t] w fun e w' => e = .returned (.int .i64 0) ∧ Has w0 w' b G0 (q.adds (fun i => (gX (catL L k) i).word) (catL L k).length) := by
  obtain ⟨G, K, A, lo, T⟩ := h
  have C := Lib.hid (Concat_at P hk hk2 hL hp)
  have AA := Lib.hid A
  have LO := Lib.hid lo
  have TT := Lib.hid T
  have HP : Hid (∀ W v, Below w.heap.size w W → PartAt W w.heap.size v (catL L k) → Calls Tryz.prog 37 #[.pointer (some ⟨b, 0, none⟩), v] W fun e w' => e = .returned (.int .i64 0) ∧ Has w0 w' b G0 (q.adds (fun i => (gX (catL L k) i).word) (catL L k).length)) := fun W v g hv => by
    have TW : A7.Turns G0 w0 W := TT.out.trans (G' := fun _ => False) (A7.Turns.of_bel g) (fun _ e => e.elim)
    refine (A7.Put_yes (AA.out.bel g) (hv.ins AA.out.lt) (fun i hi => hb _ (gX_mem hi)) hn (fun i hi => hm _ (gX_mem hi))).mono ?_
    rintro e w' ⟨rfl, G', A', T', lo'⟩
    exact ⟨rfl, G', _, A', fun i hi => (lo' i hi).elim (LO.out i) fun e => .inr (Nat.le_trans TW.size e), TW.trans T' LO.out⟩
  clear A lo T P hk hk2 hL hp hb hm hn AA LO TT
  go_enter Tryz.func251, Tryz.ntmps251
  go_wp2_with fail
  refine C.out.mono ?_; rintro e w1 ⟨v, rfl, hv, g1⟩
  have D := Lib.hid (HP.out w1 v g1 hv)
  clear hv g1 C HP
  go_wp2_with fail
  refine D.out.mono ?_; rintro e w2 ⟨rfl, H2⟩
  have H2 := Lib.hid H2
  clear D
  go_wp2_with fail
  go_ret
  exact ⟨rfl, H2.out⟩
/-- Parts in a slice that has just been laid. -/
theorem parts_new {W : World} {B : Nat} {V : Nat → Value} {L : Nat → List XI} (n : Nat) (xs : Array Value) (ty : TypeId) (hV : ∀ i, i < n → xs[i]? = some (V i)) (hP : ∀ i, i < n → PartAt W B (V i) (L i)) (hB : B ≤ W.heap.size) :
    PartsAt (W.alloc (.cells xs ty)) B (.slice (some ⟨W.heap.size, 0, none⟩) n n) n V L :=
  ⟨⟨_, _, rfl, hB, fun i hi => row_cell (heap_alloc_last _ _) (hV i hi)⟩, fun i hi => (hP i hi).bel ((Below.refl _ _).alloc (Nat.le_refl _) _)⟩
end
end Go.Proofs.YtiobgnelhiadbaaGreatDoor.W8
