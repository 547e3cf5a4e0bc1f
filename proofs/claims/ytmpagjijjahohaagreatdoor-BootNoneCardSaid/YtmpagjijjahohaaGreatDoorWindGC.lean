/- Package wind as it has landed: slices put together (slices.Grow, slices.Concat), put. Package wind as it has landed: what is put; the mark ahead of a handler; Over and Under. -/
import Derived.Lib.AppendZerosOnto
import Derived.Lib.Walk
import Derived.Maps.AppendAt
import Derived.Test.YtmpagjijjahohaaGreatDoorWindGB
import Derived.Test.YtmpagjijjahohaaGreatDoorAsmG
import Derived.Test.YtmpagjijjahohaaGreatDoorPsrG
namespace Go.Proofs.YtmpagjijjahohaaGreatDoor.W8
open Go.RowKit
open A7 (XI XB)
set_option linter.unusedVariables false
theorem zeros_len (z : Array Value) (k : Nat) : (Builtin.zeroCells z k).size = k * z.size := by
  unfold Builtin.zeroCells
  induction k with
  | zero => simp
  | succ k ih => simp_all [Nat.succ_mul]
set_option maxRecDepth 100000 in
set_option maxHeartbeats 4000000 in
/-- slices.Grow of no slice. -/
theorem Grow_at (n : Nat) (w : World) (h0 : 0 < n) (h1 : n ≤ 1000) : Calls Tryz.prog 356 #[.slice none 0 0, .int .i64 n] w fun e w' => ∃ v, e = .returned v ∧ w'.ownsRow w.heap.size 106 6 v 0 [] ∧ Below w.heap.size w w' := by
  obtain ⟨i0, hi, hz0, hz1, hz2⟩ := inst_parts
  have hold : (Builtin.firstCells i0.size 0 (.slice none 0 0)).run Tryz.prog w.drew = .ok ([] : List Value).toArray w.drew := run_firstCells_none w.drew i0.size 0 0 0
  have hrz : ∀ ty, (Builtin.append_ #[285, 3] ty #[.slice none 0 0, .int .i64 (n : Int)]).run Tryz.prog w =
      .ok (.slice (some ⟨w.heap.size, 0, none⟩) n (grownCap w n 0 106)) (w.drew.alloc (.cells (Builtin.zeroCells instZ.cells n ++ Builtin.zeroCells instZ.cells (grownCap w n 0 106 - n)) 106)) := fun ty => by
    have h := Lib.run_append_grow_zeros (P := Tryz.prog) w 285 3 ty 106 i0 instZ .i64 .i64 inst_under Tryz.underlying3 hi hz0 none 0 0 [] hold n h0 (by rw [hz1]; decide) (by omega) (by omega) (by rw [hz2]; omega)
      (by rw [Nat.zero_add]; exact growslice_fits (by omega) (by rw [hz2]; omega))
    simpa using h
  have hg1 := grownCap_ge w n 0 106
  have hg2 := grownCap_le_maxLen w n 0 106 (by unfold maxLen; omega)
  generalize grownCap w n 0 106 = G at *
  have hG63 : G ≤ 9223372036854775807 := by unfold maxLen at hg2; omega
  have hn : ¬ ((n : Int) < 0) := by omega
  have hp : (n : Int) > 0 := by omega
  have hsz : (Builtin.zeroCells instZ.cells n ++ Builtin.zeroCells instZ.cells (G - n)).size = G * 6 := by
    rw [Array.size_append, zeros_len, zeros_len]
    show n * 6 + (G - n) * 6 = G * 6
    omega
  have O : Hid ((w.drew.alloc (.cells (Builtin.zeroCells instZ.cells n ++ Builtin.zeroCells instZ.cells (G - n)) 106)).ownsRow w.heap.size 106 6 (.slice (some ⟨w.heap.size, 0, none⟩) 0 G) 0 []) :=
    ⟨rfl, .inr ⟨w.heap.size, G, _, rfl, Nat.le_refl _, heap_alloc_last _ _, Nat.zero_le _, hg2, hsz, by simp⟩⟩
  have B : Hid (Below w.heap.size w (w.drew.alloc (.cells (Builtin.zeroCells instZ.cells n ++ Builtin.zeroCells instZ.cells (G - n)) 106))) := (Below.refl _ _).drew.alloc (Nat.le_refl _) _
  generalize (w.drew.alloc (.cells (Builtin.zeroCells instZ.cells n ++ Builtin.zeroCells instZ.cells (G - n)) 106)) = W at *
  clear hold hsz hg2 hi hz0 hz1 hz2
  go_enter Tryz.func356, Tryz.ntmps356
  go_wp2_with (at_builtin; refine Lib.wpList_append_run _ rfl _ _ _ _ rfl _ _ rfl rfl _ _ (hrz _) ?_)
  go_ret
  exact ⟨_, rfl, O.out, B.out⟩
theorem Grow_none (w : World) : Calls Tryz.prog 356 #[.slice none 0 0, .int .i64 0] w fun e w' => e = .returned (.slice none 0 0) ∧ w' = w := by
  go_enter Tryz.func356, Tryz.ntmps356
  go_wp2
  go_ret
  exact ⟨rfl, rfl⟩
/-- The first parts, one behind the other. -/
def catL (L : Nat → List XI) : Nat → List XI
  | 0 => []
  | k + 1 => catL L k ++ L k
theorem cat_le (L : Nat → List XI) (h : ∀ i, (L i).length ≤ 16) : ∀ k, (catL L k).length ≤ 16 * k
  | 0 => Nat.le_refl _
  | k + 1 => by have := cat_le L h k; have := h k; simp only [catL, List.length_append]; omega
/-- Parts in a slice of slices. -/
structure PartsAt (w : World) (B : Nat) (t : Value) (k : Nat) (V : Nat → Value) (L : Nat → List XI) : Prop where
  at_ : ∃ x c, t = .slice (some ⟨x, 0, none⟩) k c ∧ B ≤ x ∧ ∀ i, i < k → w.cell? ⟨x, i, none⟩ = some (V i)
  part : ∀ i, i < k → PartAt w B (V i) (L i)
theorem PartsAt.bel {w w' : World} {B : Nat} {t : Value} {k : Nat} {V : Nat → Value} {L : Nat → List XI} (h : PartsAt w B t k V L) (g : Below w.heap.size w w') : PartsAt w' B t k V L := by
  obtain ⟨x, c, rfl, hB, hc⟩ := h.at_
  exact ⟨⟨x, c, rfl, hB, fun i hi => bel_cell g (hc i hi)⟩, fun i hi => (h.part i hi).bel g⟩
set_option maxRecDepth 100000 in
set_option maxHeartbeats 4000000 in
theorem Concat_at {w : World} {B : Nat} {t : Value} {k : Nat} {V : Nat → Value} {L : Nat → List XI} (h : PartsAt w B t k V L) (hk : 0 < k) (hk2 : k ≤ 10) (hL : ∀ i, (L i).length ≤ 16) (hp : 0 < (catL L k).length) :
    Calls Tryz.prog 284 #[t] w fun e w' => ∃ v, e = .returned v ∧ PartAt w' w.heap.size v (catL L k) ∧ Below w.heap.size w w' := by
  obtain ⟨i0, hi, hz0, hz1, hz2⟩ := inst_parts
  obtain ⟨x, c, rfl, _, hcs⟩ := h.at_
  have HP := Lib.hid h
  have HC := Lib.hid hcs
  have HL := Lib.hid (cat_le L hL)
  have HL1 := Lib.hid hL
  have HK := Lib.hid hp
  have HI := Lib.hid hi
  have HZ := Lib.hid (And.intro hz0 (And.intro hz1 hz2))
  clear h hcs hL hp hi hz0 hz1 hz2
  go_enter Tryz.func284, Tryz.ntmps284
  go_wp2_with fail
  go_loopw [3, 11] (fun s i wr => ∃ j : Nat, j ≤ k ∧ s = .int .i64 ((catL L j).length : Int) ∧ i = .int .i64 j ∧ w = wr) (fun _ i _ => k - (intOf i).toNat)
  case atStart => exact ⟨0, Nat.zero_le _, rfl, rfl, rfl⟩
  case round =>
    obtain ⟨j, hj, rfl, rfl, rfl⟩ := hrel
    by_cases hlt : j < k
    · have hc := HC.out j hlt
      obtain ⟨g, pc, hv, _, _, _⟩ := HP.out.part j hlt
      rw [hv] at hc
      have hl := HL.out j
      have hl1 := HL1.out j
      have HE : Hid (((catL L j).length : Int) + ((L j).length : Int) = ((catL L (j + 1)).length : Int)) := by
        rw [show catL L (j + 1) = catL L j ++ L j from rfl, List.length_append]
        unfold Hid
        omega
      generalize (catL L j).length = a at *
      generalize (L j).length = d at *
      have w1 : IntKind.i64.wrap ((a : Int) + (d : Int)) = (a : Int) + (d : Int) := IntWalk.i64_in _ (by omega)
      have n1 : ¬ ((a : Int) + (d : Int) < 0) := by omega
      go_wp2_with fail
      go_roundw
      case rel => exact ⟨j + 1, by omega, by rw [HE.out], by go_num, by first | rfl | trivial⟩
      case measure => simp [intOf]; omega
    · obtain rfl : j = k := by omega
      have hlk := HL.out j
      have hp := HK.out
      obtain ⟨n, hn⟩ : ∃ n, n = (catL L j).length := ⟨_, rfl⟩
      have HN := Lib.hid hn
      rw [← hn] at hlk hp ⊢
      clear hn
      have C := Lib.hid (Grow_at n w hp (by omega))
      go_wp2_with fail
      refine C.out.mono ?_; rintro e w2 ⟨v, rfl, O2, g2⟩
      have O2 := Lib.hid O2
      have G2 := Lib.hid g2
      clear C g2
      go_wp2_with fail
      go_loopw [6, 27] (fun s i wr => ∃ i' : Nat, i' ≤ j ∧ i = .int .i64 i' ∧ wr.ownsRow w.heap.size 106 6 s (catL L i').length (rowsOf (catL L i')) ∧ Below w.heap.size w wr) (fun _ i _ => j - (intOf i).toNat)
      case atStart => exact ⟨0, Nat.zero_le _, rfl, O2.out, G2.out⟩
      case round =>
        obtain ⟨i', hi', rfl, O3, g3⟩ := hrel
        have O3 := Lib.hid O3
        have G3 := Lib.hid g3
        clear O2 G2 g3
        by_cases hlt2 : i' < j
        · have hc := bel_cell G3.out (HC.out i' hlt2)
          obtain ⟨g, pc, hv, _, hgl, hgc⟩ := HP.out.part i' hlt2
          rw [hv] at hc
          have HG : Hid (∀ q u, (rowsOf (L i'))[q]? = some u → wr.cell? ((⟨g, 0, none⟩ : Addr).add q) = some u) := fun q u hu => by
            rw [add_off, Nat.zero_add]
            exact bel_cell G3.out (hgc q u hu)
          have hl := HL.out i'
          have hl1 := HL1.out i'
          have HE : Hid (rowsOf (catL L i') ++ rowsOf (L i') = rowsOf (catL L (i' + 1)) ∧ (catL L i').length + (L i').length = (catL L (i' + 1)).length) := ⟨by rw [← rowsOf_append]; rfl, by simp [catL]⟩
          have HR := Lib.hid (rowsOf_len (L i'))
          have HS := Lib.hid (fun u (hu : u ∈ rowsOf (L i')) => rowsOf_cells u hu)
          have HB : Hid (w.heap.size ≤ wr.heap.size) := G3.out.size
          clear hgc hv
          generalize hd : (L i').length = d at *
          clear hd
          go_wp2_with (at_builtin; (refine wpList_append_own_at _ rfl _ _ 285 rfl w.heap.size 106 i0 instZ 6 12 inst_under HI.out HZ.out.1 HZ.out.2.1 HZ.out.2.2 rfl (by decide) _ _ _ rfl O3.out ⟨g, 0, none⟩ d _ (rowsOf (L i')) rfl HR.out HG.out HS.out (by unfold maxLen; omega) (by omega) HB.out ?_; intro v' w3 hown hgrow _ _; have O4 := Lib.hid hown; have G4 := Lib.hid hgrow; clear hown hgrow))
          go_roundw
          case rel =>
            have o4 := O4.out
            rw [HE.out.1, HE.out.2] at o4
            refine ⟨i' + 1, by omega, by go_num, o4, G3.out.grown G4.out HB.out fun q e => (World.ownsRow.lt O3.out q e).1⟩
          case measure => simp [intOf]; omega
        · obtain rfl : i' = j := by omega
          have PA := Lib.hid (part_own O3.out rfl HK.out)
          obtain ⟨vp, vc, rfl, _⟩ := id PA.out
          clear O3
          go_wp2_with fail
          go_ret
          exact ⟨_, rfl, PA.out, G3.out⟩
/-- .. of none. -/
theorem Concat_none (w : World) : Calls Tryz.prog 284 #[.slice none 0 0] w fun e w' => e = .returned (.slice none 0 0) ∧ w' = w := by
  have C := Lib.hid (Grow_none w)
  go_enter Tryz.func284, Tryz.ntmps284
  go_wp2_with fail
  go_loopw [3, 11] (fun s i wr => s = .int .i64 0 ∧ i = .int .i64 0 ∧ w = wr) (fun _ _ _ => 0)
  case atStart => exact ⟨rfl, rfl, rfl⟩
  case round =>
    obtain ⟨rfl, rfl, rfl⟩ := hrel
    go_wp2_with fail
    refine C.out.mono ?_; rintro e w2 ⟨rfl, rfl⟩
    clear C
    go_wp2_with fail
    go_loopw [6, 27] (fun s i wr => s = .slice none 0 0 ∧ i = .int .i64 0 ∧ w2 = wr) (fun _ _ _ => 0)
    case atStart => exact ⟨rfl, rfl, rfl⟩
    case round =>
      obtain ⟨rfl, rfl, rfl⟩ := hrel
      go_wp2_with fail
      go_ret
      exact ⟨rfl, rfl⟩
end Go.Proofs.YtmpagjijjahohaaGreatDoor.W8
namespace Go.Proofs.YtmpagjijjahohaaGreatDoor.W8
open Go.RowKit
open A7 (XI XB AS AsmB Left Has NoAsm Ins)
set_option linter.unusedVariables false
section
variable {w0 w w' : World} {b : Nat} {G G0 K : Nat → Prop} {q : AS}
theorem put_at {B k : Nat} {t : Value} {V : Nat → Value} {L : Nat → List XI} (h : Has w0 w b G0 q) (P : PartsAt w B t k V L) (hk : 0 < k) (hk2 : k ≤ 10) (hL : ∀ i, (L i).length ≤ 16) (hp : 0 < (catL L k).length) (hb : ∀ x ∈ catL L k, XB x) (hm : ∀ x ∈ catL L k, x.may = true) (hn : q.n + (catL L k).length ≤ 100000) :
    Calls Tryz.prog 231 #[.pointer (some ⟨b, 0, none⟩), t] w fun e w' => e = .returned (.int .i64 0) ∧ Has w0 w' b G0 (q.adds (fun i => (gX (catL L k) i).word) (catL L k).length) := by
  obtain ⟨G, K, A, lo, T⟩ := h
  have C := Lib.hid (Concat_at P hk hk2 hL hp)
  have AA := Lib.hid A
  have LO := Lib.hid lo
  have TT := Lib.hid T
  have HP : Hid (∀ W v, Below w.heap.size w W → PartAt W w.heap.size v (catL L k) → Calls Tryz.prog 239 #[.pointer (some ⟨b, 0, none⟩), v] W fun e w' => e = .returned (.int .i64 0) ∧ Has w0 w' b G0 (q.adds (fun i => (gX (catL L k) i).word) (catL L k).length)) := fun W v g hv => by
    have TW : A7.Turns G0 w0 W := TT.out.trans (G' := fun _ => False) (A7.Turns.of_bel g) (fun _ e => e.elim)
    refine (A7.Put_yes (AA.out.bel g) (hv.ins AA.out.lt) (fun i hi => hb _ (gX_mem hi)) hn (fun i hi => hm _ (gX_mem hi))).mono ?_
    rintro e w' ⟨rfl, G', A', T', lo'⟩
    exact ⟨rfl, G', _, A', fun i hi => (lo' i hi).elim (LO.out i) fun e => .inr (Nat.le_trans TW.size e), TW.trans T' LO.out⟩
  clear A lo T P hk hk2 hL hp hb hm hn AA LO TT
  go_enter Tryz.func231, Tryz.ntmps231
  go_wp2_with fail
  refine C.out.mono ?_; rintro e w1 ⟨v, rfl, hv, g1⟩
  have D := Lib.hid (HP.out w1 v g1 hv)
  clear hv g1 C HP
  go_wp2_with fail
  refine D.out.mono ?_; rintro e w2 ⟨rfl, H2⟩
  have H2 := Lib.hid H2
  clear D
  go_wp2_with fail
  go_ret
  exact ⟨rfl, H2.out⟩
theorem put_none (h : Has w0 w b G0 q) : Calls Tryz.prog 231 #[.pointer (some ⟨b, 0, none⟩), .slice none 0 0] w fun e w' => e = .returned (.int .i64 0) ∧ Has w0 w' b G0 q := by
  have C := Lib.hid (Concat_none w)
  have D := Lib.hid (h.left fun G K A _ => A7.Put_none A)
  clear h
  go_enter Tryz.func231, Tryz.ntmps231
  go_wp2_with fail
  refine C.out.mono ?_; rintro e w1 ⟨rfl, rfl⟩
  go_wp2_with fail
  refine D.out.mono ?_; rintro e w2 ⟨rfl, H2⟩
  have H2 := Lib.hid H2
  clear D C
  go_wp2_with fail
  go_ret
  exact ⟨rfl, H2.out⟩
theorem put_nil (v : Value) (w : World) (h : NoAsm w v) : Calls Tryz.prog 231 #[v, .slice none 0 0] w fun e w' => e = .returned (.int .i64 1) ∧ w' = w := by
  have C := Lib.hid (Concat_none w)
  have D := Lib.hid (A7.Put_no v (.slice none 0 0) w h)
  clear h
  go_enter Tryz.func231, Tryz.ntmps231
  go_wp2_with fail
  refine C.out.mono ?_; rintro e w1 ⟨rfl, rfl⟩
  go_wp2_with fail
  refine D.out.mono ?_; rintro e w2 ⟨rfl, rfl⟩
  go_wp2_with fail
  go_ret
  exact ⟨rfl, rfl⟩
theorem begin_at (s : ByteArray) (hs : s.size ≤ maxLen) (nw : Int) (h2 : 2 ≤ nw) (h32 : nw ≤ 32) (h : Has w0 w b G0 q) (hl : A7.look q.ms s = none) (hm : q.ms.length < 100000) :
    Calls Tryz.prog 230 #[.pointer (some ⟨b, 0, none⟩), .string s, .int .i64 nw] w fun e w' => e = .returned (.int .i64 0) ∧ Has w0 w' b G0 (q.mark s) := by
  have H := Lib.hid h
  have HL := Lib.hid hl
  have HM := Lib.hid hm
  have HW := Lib.hid (fun W => P4.Wim_yes 0 nw W h2 h32 (by omega))
  clear h hl hm h2 h32
  go_enter Tryz.func230, Tryz.ntmps230
  go_wp2_with fail
  refine (put_none H.out).mono ?_; rintro e w1 ⟨rfl, H1⟩
  have H1 := Lib.hid H1
  clear H
  go_wp2_with fail
  refine (HW.out _).mono ?_; rintro e w2 ⟨rfl, g2⟩
  have H2 := Lib.hid (H1.out.bel g2)
  clear H1 g2 HW
  go_wp2_with fail
  refine (H2.out.left fun G K A _ => A7.Mark_yes s hs A HM.out HL.out).mono ?_; rintro e w3 ⟨rfl, H3⟩
  have H3 := Lib.hid H3
  clear H2
  go_wp2_with fail
  go_ret
  exact ⟨rfl, H3.out⟩
theorem begin_arg (s : ByteArray) (nw : Int) (hn : nw < 2 ∨ 32 < nw) (h : Has w0 w b G0 q) :
    Calls Tryz.prog 230 #[.pointer (some ⟨b, 0, none⟩), .string s, .int .i64 nw] w fun e w' => e = .returned (.int .i64 2) ∧ Has w0 w' b G0 q := by
  have H := Lib.hid h
  have HW := Lib.hid (fun W => P4.Wim_no 0 nw W (by omega))
  clear h hn
  go_enter Tryz.func230, Tryz.ntmps230
  go_wp2_with fail
  refine (put_none H.out).mono ?_; rintro e w1 ⟨rfl, H1⟩
  have H1 := Lib.hid H1
  clear H
  go_wp2_with fail
  refine (HW.out _).mono ?_; rintro e w2 ⟨rfl, g2⟩
  have H2 := Lib.hid (H1.out.bel g2)
  clear H1 g2 HW
  go_wp2_with fail
  go_ret
  exact ⟨rfl, H2.out⟩
theorem begin_nil (v : Value) (s : ByteArray) (nw : Int) (w : World) (h : NoAsm w v) :
    Calls Tryz.prog 230 #[v, .string s, .int .i64 nw] w fun e w' => e = .returned (.int .i64 1) ∧ w' = w := by
  have H := Lib.hid (put_nil v w h)
  clear h
  go_enter Tryz.func230, Tryz.ntmps230
  go_wp2_with fail
  refine H.out.mono ?_; rintro e w1 ⟨rfl, rfl⟩
  go_wp2_with fail
  go_ret
  exact ⟨rfl, rfl⟩
/-- Parts in a slice that has just been laid. -/
theorem parts_new {W : World} {B : Nat} {V : Nat → Value} {L : Nat → List XI} (n : Nat) (xs : Array Value) (ty : TypeId) (hV : ∀ i, i < n → xs[i]? = some (V i)) (hP : ∀ i, i < n → PartAt W B (V i) (L i)) (hB : B ≤ W.heap.size) :
    PartsAt (W.alloc (.cells xs ty)) B (.slice (some ⟨W.heap.size, 0, none⟩) n n) n V L :=
  ⟨⟨_, _, rfl, hB, fun i hi => row_cell (heap_alloc_last _ _) (hV i hi)⟩, fun i hi => (hP i hi).bel ((Below.refl _ _).alloc (Nat.le_refl _) _)⟩
/-- The parts of the handler of overflows. -/
def oP (nw : Int) : Nat → List XI | 0 => spL | 1 => ahL (nw - 2) nw | 2 => [sEn] | 3 => frL 23 | 4 => inL | _ => [sRt]
def uP (nw : Int) : Nat → List XI | 0 => spL | 1 => ahL 1 nw | 2 => [sEn] | 3 => frL 22 | 4 => ahL 1 nw | 5 => inL | _ => [sRt]
theorem cat_o (nw : Int) : catL (oP nw) 6 = oL nw := by simp [catL, oP, oL, List.append_assoc]
theorem cat_u (nw : Int) : catL (uP nw) 7 = uL nw := by simp [catL, uP, uL, List.append_assoc]
theorem oP_len (nw : Int) (i : Nat) : (oP nw i).length ≤ 16 := by
  match i with
  | 0 => show 3 ≤ 16; decide
  | 1 => show 2 ≤ 16; decide
  | 2 => show 1 ≤ 16; decide
  | 3 => show 16 ≤ 16; decide
  | 4 => show 3 ≤ 16; decide
  | n + 5 => show 1 ≤ 16; decide
theorem uP_len (nw : Int) (i : Nat) : (uP nw i).length ≤ 16 := by
  match i with
  | 0 => show 3 ≤ 16; decide
  | 1 => show 2 ≤ 16; decide
  | 2 => show 1 ≤ 16; decide
  | 3 => show 16 ≤ 16; decide
  | 4 => show 2 ≤ 16; decide
  | 5 => show 3 ≤ 16; decide
  | n + 6 => show 1 ≤ 16; decide
def v6 (a b c d e f : Value) : Nat → Value | 0 => a | 1 => b | 2 => c | 3 => d | 4 => e | _ => f
def v7 (a b c d e f g : Value) : Nat → Value | 0 => a | 1 => b | 2 => c | 3 => d | 4 => e | 5 => f | _ => g
theorem oL_in (nw : Int) : ∀ x ∈ oL nw, x ∈ wL nw := fun x h => List.mem_append.2 (.inl h)
theorem uL_in (nw : Int) : ∀ x ∈ uL nw, x ∈ wL nw := fun x h => List.mem_append.2 (.inr h)
def sOver : ByteArray := { data := #[111, 118, 101, 114] }
def sUnder : ByteArray := { data := #[117, 110, 100, 101, 114] }
theorem sOver_size : sOver.size ≤ maxLen := by decide
theorem sUnder_size : sUnder.size ≤ maxLen := by decide
/-- What Over, and Under, make of a list. -/
def ovr (q : AS) (nw : Int) : AS := (q.mark sOver).adds (fun i => (gX (oL nw) i).word) 26
def und (q : AS) (nw : Int) : AS := (q.mark sUnder).adds (fun i => (gX (uL nw) i).word) 28
set_option maxRecDepth 100000 in
set_option maxHeartbeats 4000000 in
theorem Over_at (nw : Int) (h2 : 2 ≤ nw) (h32 : nw ≤ 32) (h : Has w0 w b G0 q) (hl : A7.look q.ms sOver = none) (hm : q.ms.length < 100000) (hn : q.n + 26 ≤ 100000) :
    Calls Tryz.prog 173 #[.pointer (some ⟨b, 0, none⟩), .int .i64 nw] w fun e w' => e = .returned (.int .i64 0) ∧ Has w0 w' b G0 (ovr q nw) := by
  have C := Lib.hid (begin_at sOver sOver_size nw h2 h32 h hl hm)
  unfold sOver at C
  have HN := Lib.hid hn
  clear h hl hm hn
  go_enter Tryz.func173, Tryz.ntmps173
  go_wp2_with fail
  refine C.out.mono ?_; rintro e w1 ⟨rfl, H1⟩
  have H1 : Hid (Has w0 w1 b G0 (q.mark sOver)) := H1
  have wn : IntKind.i64.wrap (nw - 2) = nw - 2 := IntWalk.i64_in _ (by omega)
  clear C
  go_wp2_with fail
  refine (split_at _).mono ?_; rintro e a1 ⟨v1, rfl, p1, k1⟩
  obtain ⟨ggp1, ccp1, rfl, _⟩ := id p1
  have P1 := Lib.hid p1
  have K1 := Lib.hid k1
  clear p1 k1
  go_wp2_with fail
  refine (ahead_at (nw - 2) nw _ ⟨by omega, by omega⟩ ⟨by omega, by omega⟩).mono ?_; rintro e a2 ⟨v2, rfl, p2, k2⟩
  obtain ⟨ggp2, ccp2, rfl, _⟩ := id p2
  have P1 := Lib.hid (P1.out.bel k2)
  have P2 := Lib.hid (p2.low K1.out.size)
  have K2 := Lib.hid (bel_trans K1.out k2)
  clear p2 k2 K1
  go_wp2_with fail
  refine (enter_at _).mono ?_; rintro e a3 ⟨v3, rfl, p3, k3⟩
  obtain ⟨ggp3, ccp3, rfl, _⟩ := id p3
  have P1 := Lib.hid (P1.out.bel k3)
  have P2 := Lib.hid (P2.out.bel k3)
  have P3 := Lib.hid (p3.low K2.out.size)
  have K3 := Lib.hid (bel_trans K2.out k3)
  clear p3 k3 K2
  go_wp2_with fail
  refine (frame_at 23 _).mono ?_; rintro e a4 ⟨v4, rfl, p4, k4⟩
  obtain ⟨ggp4, ccp4, rfl, _⟩ := id p4
  have P1 := Lib.hid (P1.out.bel k4)
  have P2 := Lib.hid (P2.out.bel k4)
  have P3 := Lib.hid (P3.out.bel k4)
  have P4 := Lib.hid (p4.low K3.out.size)
  have K4 := Lib.hid (bel_trans K3.out k4)
  clear p4 k4 K3
  go_wp2_with fail
  refine (invalidate_at _).mono ?_; rintro e a5 ⟨v5, rfl, p5, k5⟩
  obtain ⟨ggp5, ccp5, rfl, _⟩ := id p5
  have P1 := Lib.hid (P1.out.bel k5)
  have P2 := Lib.hid (P2.out.bel k5)
  have P3 := Lib.hid (P3.out.bel k5)
  have P4 := Lib.hid (P4.out.bel k5)
  have P5 := Lib.hid (p5.low K4.out.size)
  have K5 := Lib.hid (bel_trans K4.out k5)
  clear p5 k5 K4
  go_wp2_with fail
  refine (leave_at _).mono ?_; rintro e a6 ⟨v6', rfl, p6, k6⟩
  obtain ⟨ggp6, ccp6, rfl, _⟩ := id p6
  have PP := Lib.hid (parts_new (W := a6) (V := v6 (.slice (some ⟨ggp1, 0, none⟩) spL.length ccp1) (.slice (some ⟨ggp2, 0, none⟩) (ahL (nw - 2) nw).length ccp2) (.slice (some ⟨ggp3, 0, none⟩) [sEn].length ccp3) (.slice (some ⟨ggp4, 0, none⟩) (frL 23).length ccp4) (.slice (some ⟨ggp5, 0, none⟩) inL.length ccp5) (.slice (some ⟨ggp6, 0, none⟩) [sRt].length ccp6)) (L := oP nw) 6 #[(.slice (some ⟨ggp1, 0, none⟩) spL.length ccp1), (.slice (some ⟨ggp2, 0, none⟩) (ahL (nw - 2) nw).length ccp2), (.slice (some ⟨ggp3, 0, none⟩) [sEn].length ccp3), (.slice (some ⟨ggp4, 0, none⟩) (frL 23).length ccp4), (.slice (some ⟨ggp5, 0, none⟩) inL.length ccp5), (.slice (some ⟨ggp6, 0, none⟩) [sRt].length ccp6)] 285 (fun i hi => by
      rcases (by omega : i = 0 ∨ i = 1 ∨ i = 2 ∨ i = 3 ∨ i = 4 ∨ i = 5) with rfl | rfl | rfl | rfl | rfl | rfl <;> rfl) (fun i hi => by
      rcases (by omega : i = 0 ∨ i = 1 ∨ i = 2 ∨ i = 3 ∨ i = 4 ∨ i = 5) with rfl | rfl | rfl | rfl | rfl | rfl
      · exact P1.out.bel k6
      · exact P2.out.bel k6
      · exact P3.out.bel k6
      · exact P4.out.bel k6
      · exact P5.out.bel k6
      · exact p6.low K5.out.size) (bel_trans K5.out k6).size)
  have H2 := Lib.hid ((H1.out.bel (bel_trans K5.out k6)).bel ((Below.refl _ _).alloc (Nat.le_refl _) (.cells #[(.slice (some ⟨ggp1, 0, none⟩) spL.length ccp1), (.slice (some ⟨ggp2, 0, none⟩) (ahL (nw - 2) nw).length ccp2), (.slice (some ⟨ggp3, 0, none⟩) [sEn].length ccp3), (.slice (some ⟨ggp4, 0, none⟩) (frL 23).length ccp4), (.slice (some ⟨ggp5, 0, none⟩) inL.length ccp5), (.slice (some ⟨ggp6, 0, none⟩) [sRt].length ccp6)] 285)))
  clear P1 P2 P3 P4 P5 K5 k6 p6 H1
  have D := Lib.hid (put_at H2.out PP.out (by decide) (by decide) (oP_len nw) (by rw [cat_o, oL_len]; decide) (fun x hx => wL_b h2 h32 x (oL_in nw x (by rw [cat_o] at hx; exact hx))) (fun x hx => wL_may h2 h32 x (oL_in nw x (by rw [cat_o] at hx; exact hx))) (by rw [cat_o, oL_len]; exact HN.out))
  rw [cat_o, oL_len] at D
  clear PP H2
  go_wp2_with fail
  refine D.out.mono ?_; rintro e w9 ⟨rfl, H9⟩
  have H9 := Lib.hid H9
  clear D
  go_wp2_with fail
  go_ret
  exact ⟨rfl, H9.out⟩
set_option maxRecDepth 100000 in
set_option maxHeartbeats 4000000 in
theorem Under_at (nw : Int) (h2 : 2 ≤ nw) (h32 : nw ≤ 32) (h : Has w0 w b G0 q) (hl : A7.look q.ms sUnder = none) (hm : q.ms.length < 100000) (hn : q.n + 28 ≤ 100000) :
    Calls Tryz.prog 174 #[.pointer (some ⟨b, 0, none⟩), .int .i64 nw] w fun e w' => e = .returned (.int .i64 0) ∧ Has w0 w' b G0 (und q nw) := by
  have C := Lib.hid (begin_at sUnder sUnder_size nw h2 h32 h hl hm)
  unfold sUnder at C
  have HN := Lib.hid hn
  clear h hl hm hn
  go_enter Tryz.func174, Tryz.ntmps174
  go_wp2_with fail
  refine C.out.mono ?_; rintro e w1 ⟨rfl, H1⟩
  have H1 : Hid (Has w0 w1 b G0 (q.mark sUnder)) := H1
  clear C
  go_wp2_with fail
  refine (split_at _).mono ?_; rintro e a1 ⟨v1, rfl, p1, k1⟩
  obtain ⟨ggp1, ccp1, rfl, _⟩ := id p1
  have P1 := Lib.hid p1
  have K1 := Lib.hid k1
  clear p1 k1
  go_wp2_with fail
  refine (ahead_at 1 nw _ ⟨by omega, by omega⟩ ⟨by omega, by omega⟩).mono ?_; rintro e a2 ⟨v2, rfl, p2, k2⟩
  obtain ⟨ggp2, ccp2, rfl, _⟩ := id p2
  have P1 := Lib.hid (P1.out.bel k2)
  have P2 := Lib.hid (p2.low K1.out.size)
  have K2 := Lib.hid (bel_trans K1.out k2)
  clear p2 k2 K1
  go_wp2_with fail
  refine (enter_at _).mono ?_; rintro e a3 ⟨v3, rfl, p3, k3⟩
  obtain ⟨ggp3, ccp3, rfl, _⟩ := id p3
  have P1 := Lib.hid (P1.out.bel k3)
  have P2 := Lib.hid (P2.out.bel k3)
  have P3 := Lib.hid (p3.low K2.out.size)
  have K3 := Lib.hid (bel_trans K2.out k3)
  clear p3 k3 K2
  go_wp2_with fail
  refine (frame_at 22 _).mono ?_; rintro e a4 ⟨v4, rfl, p4, k4⟩
  obtain ⟨ggp4, ccp4, rfl, _⟩ := id p4
  have P1 := Lib.hid (P1.out.bel k4)
  have P2 := Lib.hid (P2.out.bel k4)
  have P3 := Lib.hid (P3.out.bel k4)
  have P4 := Lib.hid (p4.low K3.out.size)
  have K4 := Lib.hid (bel_trans K3.out k4)
  clear p4 k4 K3
  go_wp2_with fail
  refine (ahead_at 1 nw _ ⟨by omega, by omega⟩ ⟨by omega, by omega⟩).mono ?_; rintro e a5 ⟨v5, rfl, p5, k5⟩
  obtain ⟨ggp5, ccp5, rfl, _⟩ := id p5
  have P1 := Lib.hid (P1.out.bel k5)
  have P2 := Lib.hid (P2.out.bel k5)
  have P3 := Lib.hid (P3.out.bel k5)
  have P4 := Lib.hid (P4.out.bel k5)
  have P5 := Lib.hid (p5.low K4.out.size)
  have K5 := Lib.hid (bel_trans K4.out k5)
  clear p5 k5 K4
  go_wp2_with fail
  refine (invalidate_at _).mono ?_; rintro e a6 ⟨v6, rfl, p6, k6⟩
  obtain ⟨ggp6, ccp6, rfl, _⟩ := id p6
  have P1 := Lib.hid (P1.out.bel k6)
  have P2 := Lib.hid (P2.out.bel k6)
  have P3 := Lib.hid (P3.out.bel k6)
  have P4 := Lib.hid (P4.out.bel k6)
  have P5 := Lib.hid (P5.out.bel k6)
  have P6 := Lib.hid (p6.low K5.out.size)
  have K6 := Lib.hid (bel_trans K5.out k6)
  clear p6 k6 K5
  go_wp2_with fail
  refine (leave_at _).mono ?_; rintro e a7 ⟨v7', rfl, p7, k7⟩
  obtain ⟨ggp7, ccp7, rfl, _⟩ := id p7
  have PP := Lib.hid (parts_new (W := a7) (V := v7 (.slice (some ⟨ggp1, 0, none⟩) spL.length ccp1) (.slice (some ⟨ggp2, 0, none⟩) (ahL 1 nw).length ccp2) (.slice (some ⟨ggp3, 0, none⟩) [sEn].length ccp3) (.slice (some ⟨ggp4, 0, none⟩) (frL 22).length ccp4) (.slice (some ⟨ggp5, 0, none⟩) (ahL 1 nw).length ccp5) (.slice (some ⟨ggp6, 0, none⟩) inL.length ccp6) (.slice (some ⟨ggp7, 0, none⟩) [sRt].length ccp7)) (L := uP nw) 7 #[(.slice (some ⟨ggp1, 0, none⟩) spL.length ccp1), (.slice (some ⟨ggp2, 0, none⟩) (ahL 1 nw).length ccp2), (.slice (some ⟨ggp3, 0, none⟩) [sEn].length ccp3), (.slice (some ⟨ggp4, 0, none⟩) (frL 22).length ccp4), (.slice (some ⟨ggp5, 0, none⟩) (ahL 1 nw).length ccp5), (.slice (some ⟨ggp6, 0, none⟩) inL.length ccp6), (.slice (some ⟨ggp7, 0, none⟩) [sRt].length ccp7)] 285 (fun i hi => by
      rcases (by omega : i = 0 ∨ i = 1 ∨ i = 2 ∨ i = 3 ∨ i = 4 ∨ i = 5 ∨ i = 6) with rfl | rfl | rfl | rfl | rfl | rfl | rfl <;> rfl) (fun i hi => by
      rcases (by omega : i = 0 ∨ i = 1 ∨ i = 2 ∨ i = 3 ∨ i = 4 ∨ i = 5 ∨ i = 6) with rfl | rfl | rfl | rfl | rfl | rfl | rfl
      · exact P1.out.bel k7
      · exact P2.out.bel k7
      · exact P3.out.bel k7
      · exact P4.out.bel k7
      · exact P5.out.bel k7
      · exact P6.out.bel k7
      · exact p7.low K6.out.size) (bel_trans K6.out k7).size)
  have H2 := Lib.hid ((H1.out.bel (bel_trans K6.out k7)).bel ((Below.refl _ _).alloc (Nat.le_refl _) (.cells #[(.slice (some ⟨ggp1, 0, none⟩) spL.length ccp1), (.slice (some ⟨ggp2, 0, none⟩) (ahL 1 nw).length ccp2), (.slice (some ⟨ggp3, 0, none⟩) [sEn].length ccp3), (.slice (some ⟨ggp4, 0, none⟩) (frL 22).length ccp4), (.slice (some ⟨ggp5, 0, none⟩) (ahL 1 nw).length ccp5), (.slice (some ⟨ggp6, 0, none⟩) inL.length ccp6), (.slice (some ⟨ggp7, 0, none⟩) [sRt].length ccp7)] 285)))
  clear P1 P2 P3 P4 P5 P6 K6 k7 p7 H1
  have D := Lib.hid (put_at H2.out PP.out (by decide) (by decide) (uP_len nw) (by rw [cat_u, uL_len]; decide) (fun x hx => wL_b h2 h32 x (uL_in nw x (by rw [cat_u] at hx; exact hx))) (fun x hx => wL_may h2 h32 x (uL_in nw x (by rw [cat_u] at hx; exact hx))) (by rw [cat_u, uL_len]; exact HN.out))
  rw [cat_u, uL_len] at D
  clear PP H2
  go_wp2_with fail
  refine D.out.mono ?_; rintro e w9 ⟨rfl, H9⟩
  have H9 := Lib.hid H9
  clear D
  go_wp2_with fail
  go_ret
  exact ⟨rfl, H9.out⟩
theorem Over_arg (nw : Int) (hn : nw < 2 ∨ 32 < nw) (h : Has w0 w b G0 q) :
    Calls Tryz.prog 173 #[.pointer (some ⟨b, 0, none⟩), .int .i64 nw] w fun e w' => e = .returned (.int .i64 2) ∧ Has w0 w' b G0 q := by
  have C := Lib.hid (begin_arg sOver nw hn h)
  unfold sOver at C
  clear h hn
  go_enter Tryz.func173, Tryz.ntmps173
  go_wp2_with fail
  refine C.out.mono ?_; rintro e w1 ⟨rfl, H1⟩
  have H1 := Lib.hid H1
  clear C
  go_wp2_with fail
  go_ret
  exact ⟨rfl, H1.out⟩
theorem Over_nil (v : Value) (nw : Int) (w : World) (h : NoAsm w v) : Calls Tryz.prog 173 #[v, .int .i64 nw] w fun e w' => e = .returned (.int .i64 1) ∧ w' = w := by
  have C := Lib.hid (begin_nil v sOver nw w h)
  unfold sOver at C
  clear h
  go_enter Tryz.func173, Tryz.ntmps173
  go_wp2_with fail
  refine C.out.mono ?_; rintro e w1 ⟨rfl, rfl⟩
  go_wp2_with fail
  go_ret
  exact ⟨rfl, rfl⟩
end
end Go.Proofs.YtmpagjijjahohaaGreatDoor.W8
