/- The document's lists (layer 7): what they are made of; Put. -/
import Derived.Test.YtoecanjhkbeemaaDoorAsmConst
import Derived.Test.YtoecanjhkbeemaaDoorInstMay
import Derived.Laws.AppendOwnNone
import Derived.Deep.DeepAppendWide
import Derived.Deep.DeepCutAuto
namespace Go.Proofs.YtoecanjhkbeemaaDoor.A7
open Go.RowKit Go.Maps
set_option linter.unusedVariables false
/-- An instruction of the document's list; whether it jumps, and where to. -/
structure It where
  x : XI
  j : Bool
  dest : ByteArray
def It.row (t : It) : List Value := t.x.row ++ [.bool t.j, .string t.dest]
theorem It.len (t : It) : t.row.length = 8 := rfl
def itCells (l : List It) : List Value := l.flatMap It.row
theorem itCells_len (l : List It) : (itCells l).length = l.length * 8 := by
  induction l with
  | nil => rfl
  | cons t l ih => unfold itCells at ih ⊢; rw [List.flatMap_cons, List.length_append, ih, It.len, List.length_cons]; omega
theorem itCells_snoc (l : List It) (t : It) : itCells l ++ t.row = itCells (l ++ [t]) := by unfold itCells; simp
def mkCells (l : List (ByteArray × Nat)) : List Value := l.flatMap fun p => [.string p.1, .int .i64 p.2]
theorem mkCells_len (l : List (ByteArray × Nat)) : (mkCells l).length = l.length * 2 := by
  induction l with
  | nil => rfl
  | cons t l ih => unfold mkCells at ih ⊢; rw [List.flatMap_cons, List.length_append, ih, List.length_cons]; simp; omega
/-- In world w the values lv and mv are a document's list. -/
structure RL (w : World) (lv mv : Value) (l : List It) (ms : List (ByteArray × Nat)) : Prop where
  row : w.ownsRow 0 79 8 lv l.length (itCells l)
  marks : w.ownsRow 0 81 2 mv ms.length (mkCells ms)
  ln : l.length ≤ 100000
  mn : ms.length ≤ 100000
theorem own_belK {w w' : World} {B : Nat} {t : TypeId} {size n : Nat} {s : Value} {xs : List Value} (h : w.ownsRow B t size s n xs) (g : Below w.heap.size w w') : w'.ownsRow B t size s n xs := by
  cases hs : s.ownBlock with
  | none => exact h.kept (row := none) ⟨g.os, g.tape, g.output, g.size, fun i hi _ => g.block i hi⟩ (.inl hs)
  | some b => exact h.kept (row := none) ⟨g.os, g.tape, g.output, g.size, fun i hi _ => g.block i hi⟩ (.inr (by rw [hs]; simp))
theorem RL.bel {w w' : World} {lv mv : Value} {l : List It} {ms : List (ByteArray × Nat)} (h : RL w lv mv l ms) (g : Below w.heap.size w w') : RL w' lv mv l ms := ⟨own_belK h.row g, own_belK h.marks g, h.ln, h.mn⟩
theorem own_base {w : World} {B : Nat} {t : TypeId} {size n : Nat} {s : Value} {xs : List Value} (h : w.ownsRow B t size s n xs) : w.ownsRow 0 t size s n xs := by
  obtain ⟨h0, h | ⟨g, c, cur, e, hB, hr⟩⟩ := h
  · exact ⟨h0, .inl h⟩
  · exact ⟨h0, .inr ⟨g, c, cur, e, Nat.zero_le _, hr⟩⟩
theorem ownK_of {w : World} {B : Nat} {t : TypeId} {size n : Nat} {s : Value} {xs : List Value} (h : w.ownsRow B t size s n xs) : (s = .slice none 0 0 ∧ n = 0) ∨ ∃ g c, s = .slice (some ⟨g, 0, none⟩) n c := by
  obtain ⟨_, h | ⟨g, c, cur, rfl, _⟩⟩ := h
  · exact .inl h
  · exact .inr ⟨g, c, rfl⟩
theorem ownK_cell {w : World} {B : Nat} {t : TypeId} {size g n c : Nat} {xs : List Value} (h : w.ownsRow B t size (.slice (some ⟨g, 0, none⟩) n c) n xs) : ∀ (j : Nat) (u : Value), xs[j]? = some u → w.cell? ⟨g, 0 + j, none⟩ = some u := by
  obtain ⟨h0, ⟨h, _⟩ | ⟨g', cap, cur, e, hB, hg, h1, h2, h3, h4⟩⟩ := h
  · cases h
  · simp only [Value.slice.injEq, Option.some.injEq, Addr.mk.injEq] at e
    obtain ⟨⟨rfl, _⟩, _, rfl⟩ := e
    intro j u hu
    have hj : j < n * size := by
      rcases Nat.lt_or_ge j (n * size) with h | h
      · exact h
      · rw [List.getElem?_eq_none (by omega)] at hu; cases hu
    rw [Nat.zero_add]
    rw [← h4, List.getElem?_take, if_pos hj] at hu
    exact row_cell hg (by simpa using hu)
theorem item_under : Tryd.prog.underlying 27 = some (.slice 79) := by kernel_rfl
theorem item_parts : (Tryd.prog.info? 79).map (fun i => (i.zero, i.size, i.bytes)) = some (some (.agg #[.int .u8 0, .int .u8 0, .int .u8 0, .int .u8 0, .bool false, .int .i32 0, .bool false, .string ByteArray.empty]), 8, 32) := by kernel_rfl
theorem row8_one (t : It) : ∀ v ∈ t.row, v.oneCell' = true := by
  intro v hv
  simp only [It.row, XI.row, List.mem_append, List.mem_cons, List.not_mem_nil, or_false] at hv
  rcases hv with (rfl | rfl | rfl | rfl | rfl | rfl) | (rfl | rfl) <;> rfl
theorem cells8_one (l : List It) : ∀ v ∈ itCells l, v.oneCell' = true := by
  intro v hv
  unfold itCells at hv
  rw [List.mem_flatMap] at hv
  obtain ⟨t, _, ht⟩ := hv
  exact row8_one t v ht
def its (X : Nat → XI) (k : Nat) : List It := (List.range k).map fun i => ⟨X i, false, ByteArray.empty⟩
theorem its_succ (X : Nat → XI) (k : Nat) : its X (k + 1) = its X k ++ [⟨X k, false, ByteArray.empty⟩] := by unfold its; rw [List.range_succ, List.map_append]; rfl
theorem its_len (X : Nat → XI) (k : Nat) : (its X k).length = k := by unfold its; simp
/-- Behind a list of its own a list is laid. -/
theorem q_its {ops : Array Oper} {rest : List Oper} {o : Oper} {a : Act} {w : World} {Q : Exit → Act → World → Prop} (hg : o.guard = none) (s x : Operand)
    (hop : o.op = Op.call { callee := Callee.builtin Builtin.append, args := #[s, x], argTypes := #[27, 27] })
    (B C : Nat) (v vx : Value) (l1 l2 : List It) (hs : a.eval s = v) (h1 : w.ownsRow B 79 8 v l1.length (itCells l1)) (hx : a.eval x = vx) (h2 : w.ownsRow C 79 8 vx l2.length (itCells l2)) (hn : l1.length + l2.length ≤ 300000) (hB : B ≤ w.heap.size)
    (hK : ∀ v' w', w'.ownsRow B 79 8 v' (l1 ++ l2).length (itCells (l1 ++ l2)) → w.grownBy w' v.ownBlock → wpList Tryd.prog ops Q rest (a.put o.dst v') w') : wpList Tryd.prog ops Q (o :: rest) a w := by
  obtain ⟨i0, hi, hz0, hz1, hz2⟩ := info_parts item_parts
  have e1 : (l1 ++ l2).length = l1.length + l2.length := List.length_append
  have e2 : itCells (l1 ++ l2) = itCells l1 ++ itCells l2 := by unfold itCells; rw [List.flatMap_append]
  rw [e1, e2] at hK
  rcases ownK_of h2 with ⟨rfl, h0⟩ | ⟨g, c, rfl⟩
  · obtain rfl : l2 = [] := List.eq_nil_of_length_eq_zero h0
    refine wpList_append_own_none hg s x 27 hop B 79 i0 8 item_under hi v l1.length (itCells l1) hs h1 hx ?_
    refine hK _ _ ?_ ⟨rfl, rfl, rfl, Nat.le_refl _, fun _ _ _ => rfl⟩
    simpa [itCells] using h1
  · refine wpList_append_own_wide w hg s x 27 hop B 79 i0 _ 8 32 item_under hi hz0 hz1 hz2 rfl (by decide) v l1.length (itCells l1) hs h1 ⟨g, 0, none⟩ l2.length c (itCells l2) hx (itCells_len l2) ?_ (cells8_one l2) (by unfold maxLen; omega) (by omega) hB ?_
    · intro j u hu
      rw [add_at]
      exact ownK_cell h2 j u hu
    · intro v' w' ho hgrow _
      exact hK v' w' ho hgrow
theorem two_boxes (w : World) (A B : Array Value) (t u : TypeId) : (∀ j v, A[j]? = some v → ((w.alloc (.cells A t)).alloc (.cells B u)).cell? ⟨w.heap.size, j, none⟩ = some v) ∧ (∀ j v, B[j]? = some v → ((w.alloc (.cells A t)).alloc (.cells B u)).cell? ⟨w.heap.size + 1, j, none⟩ = some v) ∧
    (∀ j, ((w.alloc (.cells A t)).alloc (.cells B u)).frozen? ⟨w.heap.size, j, none⟩ = false) ∧ (∀ j, ((w.alloc (.cells A t)).alloc (.cells B u)).frozen? ⟨w.heap.size + 1, j, none⟩ = false) :=
  ⟨fun j v h => (cell_of_row _ _ _ _ _ _ (heap_alloc2_old w _ _)).trans h, fun j v h => (cell_of_row _ _ _ _ _ _ (heap_alloc2_new w _ _)).trans h, fun j => frozen_of_row _ _ _ _ _ (heap_alloc2_old w _ _), fun j => frozen_of_row _ _ _ _ _ (heap_alloc2_new w _ _)⟩
/-- The document's Put, as far as it goes. -/
structure PL (V wr : World) (o : Value) (l : List It) : Prop where
  row : wr.ownsRow V.heap.size 79 8 o l.length (itCells l)
  bel : Below V.heap.size V wr
theorem PL.step {V wr w2 w3 : World} {o o' : Value} {l l' : List It} (h : PL V wr o l) (g : Below wr.heap.size wr w2) (k : w2.grownBy w3 o.ownBlock) (r : w3.ownsRow V.heap.size 79 8 o' l'.length (itCells l')) : PL V w3 o' l' :=
  ⟨r, (bel_trans h.bel g).grown k (by have := h.bel.size; have := g.size; omega) fun j hj => (h.row.lt j hj).1⟩
theorem PL.more {V wr w2 : World} {o : Value} {l : List It} (h : PL V wr o l) (g : Below wr.heap.size wr w2) : PL V w2 o l := ⟨own_belK h.row g, bel_trans h.bel g⟩
theorem PL.low {w V wr : World} {o : Value} {l : List It} (h : PL V wr o l) (g : Below w.heap.size w V) : Below w.heap.size w wr := bel_trans g h.bel
theorem PL.next {V wr : World} {o : Value} {l : List It} {X : Nat → XI} {j : Nat} {x : XI} (e : x = X j) (h : PL V wr o ((l ++ its X j) ++ [⟨x, false, ByteArray.empty⟩])) : PL V wr o (l ++ its X (j + 1)) := by
  rw [its_succ, ← List.append_assoc, ← e]
  exact h
theorem PL.form {V wr : World} {o : Value} {l : List It} (h : PL V wr o l) : ∃ p c, o = .slice p l.length c := by
  rcases ownK_of h.row with ⟨e, h0⟩ | ⟨g, c, e⟩
  · exact ⟨_, _, by rw [e, h0]⟩
  · exact ⟨_, _, e⟩
theorem own_none (w : World) (B : Nat) (hB : B ≤ w.heap.size) : (w.alloc (.cells #[] 79)).ownsRow B 79 8 (.slice (some ⟨w.heap.size, 0, none⟩) 0 0) ([] : List It).length (itCells []) :=
  ⟨rfl, .inr ⟨w.heap.size, 0, #[], rfl, hB, heap_alloc_last _ _, Nat.le_refl _, Nat.zero_le _, rfl, rfl⟩⟩
theorem PL.start {V w1 : World} {o1 : Value} {l : List It} {X : Nat → XI} (own : w1.ownsRow V.heap.size 79 8 o1 ([] ++ l).length (itCells ([] ++ l))) (gr : (V.alloc (.cells #[] 79)).grownBy w1 (Value.slice (some ⟨V.heap.size, 0, none⟩) 0 0).ownBlock) : PL V w1 o1 (l ++ its X 0) := by
  have e0 : l ++ its X 0 = [] ++ l := by simp [its]
  rw [e0]
  exact ⟨own, ((Below.refl _ _).alloc (Nat.le_refl _) _).grown gr (by simp) fun j hj => by simp [Value.ownBlock] at hj; omega⟩
theorem own_single (w : World) (t : It) : (w.alloc (.cells t.row.toArray 79)).ownsRow 0 79 8 (.slice (some ⟨w.heap.size, 0, none⟩) 1 1) [t].length (itCells [t]) :=
  ⟨rfl, .inr ⟨w.heap.size, 1, t.row.toArray, rfl, Nat.zero_le _, heap_alloc_last _ _, Nat.le_refl _, by decide, rfl, by simp [itCells]; rfl⟩⟩
theorem rmay_x (x : XI) (w : World) (hx : XB x) : Calls Tryd.prog 35 #[.agg #[.int .u8 x.o, .int .u8 x.d, .int .u8 x.s, .int .u8 x.t, .bool x.b, .int .i32 x.n]] w fun e w' => e = .returned (.bool x.may) ∧ Below w.heap.size w w' :=
  (I2.rmay_any x.o x.d x.s x.t x.b x.n w hx.o hx.d hx.s hx.t).mono fun e w' h => ⟨h.1, h.2.bel⟩
set_option maxHeartbeats 4000000 in
set_option maxRecDepth 20000 in
theorem refPut_any {w : World} {lv mv lx : Value} {l : List It} {ms : List (ByteArray × Nat)} {k : Nat} {X : Nat → XI} (h : RL w lv mv l ms) (hi : Ins w (fun _ => False) lx k X) (hx : ∀ i, i < k → XB (X i)) (hn : l.length + k ≤ 100000) :
    Calls Tryd.prog 25 #[.agg #[lv, mv], lx] w fun e w' => (∃ lv', e = .returned (.tuple #[.agg #[lv', mv], .int .i64 0]) ∧ (∀ i, i < k → (X i).may = true) ∧ RL w' lv' mv (l ++ its X k) ms ∧ (∀ j, lv'.ownBlock = some j → w.heap.size ≤ j) ∧ Below w.heap.size w w') ∨
      (e = .returned (.tuple #[.agg #[lv, mv], .int .i64 2]) ∧ (∃ i, i < k ∧ (X i).may = false) ∧ Below w.heap.size w w') := by
  obtain ⟨lp, lc, rfl, hcs⟩ := hi
  obtain ⟨i0, hi0, hz0, hz1, hz2⟩ := info_parts item_parts
  have HC := Lib.hid hcs
  have HX := Lib.hid hx
  have H := Lib.hid h
  have HN := Lib.hid hn
  have V0 : Below w.heap.size w ((w.alloc (.cells #[lv, mv] 30)).alloc (.cells #[.slice none 0 0, .slice none 0 0] 30)) := ((Below.refl _ _).alloc (Nat.le_refl _) _).alloc (by simp) _
  obtain ⟨mp', mc, hmv⟩ : ∃ p c, mv = .slice p ms.length c := by
    rcases ownK_of h.marks with ⟨rfl, h0⟩ | ⟨g, c, rfl⟩
    · exact ⟨_, _, by rw [h0]⟩
    · exact ⟨_, _, rfl⟩
  obtain ⟨lp', lc', hlv⟩ : ∃ p c, lv = .slice p l.length c := by
    rcases ownK_of h.row with ⟨rfl, h0⟩ | ⟨g, c, rfl⟩
    · exact ⟨_, _, by rw [h0]⟩
    · exact ⟨_, _, rfl⟩
  subst hmv hlv
  have HB := Lib.hid (two_boxes w #[.slice lp' l.length lc', .slice mp' ms.length mc] #[.slice none 0 0, .slice none 0 0] 30 30)
  have H1 := Lib.hid (h.bel V0)
  have HZ : Hid (((w.alloc (.cells #[.slice lp' l.length lc', .slice mp' ms.length mc] 30)).alloc (.cells #[.slice none 0 0, .slice none 0 0] 30)).heap.size = w.heap.size + 2) := by simp [Hid]
  clear hcs hx h hn
  go_enter Tryd.func25, Tryd.ntmps25
  go_upto_region 1 with (fail)
  generalize (w.alloc (.cells #[.slice lp' l.length lc', .slice mp' ms.length mc] 30)).alloc (.cells #[.slice none 0 0, .slice none 0 0] 30) = V at HB H1 V0 HZ ⊢
  have b0 : V.cell? ⟨w.heap.size, 0, none⟩ = some (.slice lp' l.length lc') := HB.out.1 0 _ rfl
  have lz : w.heap.size < V.heap.size := by have := HZ.out; unfold Hid at this; omega
  have b1 : V.cell? ⟨w.heap.size, 1, none⟩ = some (.slice mp' ms.length mc) := HB.out.1 1 _ rfl
  have d0 : V.cell? ⟨w.heap.size + 1, 0, none⟩ = some (.slice none 0 0) := HB.out.2.1 0 _ rfl
  have d1 : V.cell? ⟨w.heap.size + 1, 1, none⟩ = some (.slice none 0 0) := HB.out.2.1 1 _ rfl
  have f0 : V.frozen? ⟨w.heap.size + 1, 0, none⟩ = false := HB.out.2.2.2 0
  have f1 : V.frozen? ⟨w.heap.size + 1, 1, none⟩ = false := HB.out.2.2.2 1
  have B0 := Lib.hid b0
  have B1 := Lib.hid b1
  have D0 := Lib.hid d0
  have D1 := Lib.hid d1
  have F0 := Lib.hid f0
  have F1 := Lib.hid f1
  clear b1 d0 d1 f0 f1
  have V0 := Lib.hid V0
  have hvt : V.heap.size ≤ (V.alloc (.cells #[] 79)).heap.size := by simp
  have lz1 : w.heap.size + 1 < V.heap.size := by have := HZ.out; unfold Hid at this; omega
  go_wp2_with (at_builtin; refine q_its rfl _ _ rfl V.heap.size 0 _ _ [] l rfl (own_none V _ (Nat.le_refl _)) rfl (H1.out.row.alloc _) (by have := HN.out; simp; omega) hvt ?_; intro o1 w1 own1 gr1; have R1 := Lib.hid (PL.start (X := X) own1 gr1); clear own1 gr1)
  clear b0
  go_loopw [6, 7] (fun s i wr => ∃ j : Nat, j ≤ k ∧ i = .int .i64 j ∧ (∀ i, i < j → (X i).may = true) ∧ PL V wr s (l ++ its X j)) (fun _ i _ => k - (intOf i).toNat)
  case atStart => exact ⟨0, Nat.zero_le _, rfl, fun _ h => absurd h (Nat.not_lt_zero _), R1.out⟩
  case round =>
    obtain ⟨j, hj, rfl, hm, R⟩ := hrel
    have HM := Lib.hid hm
    clear hm
    by_cases hlt : j < k
    · obtain ⟨lb, lo, rfl, hlb, hcell⟩ := HC.out (by omega)
      have hc := hcell j hlt
      have hbx := HX.out j hlt
      have HLT := Lib.hid hlt
      have hbw : lb < w.heap.size := block_lt_of_cell (a := ⟨lb, lo + j * 6, none⟩) hc.1
      obtain ⟨x, hX⟩ : ∃ x, x = X j := ⟨_, rfl⟩
      have hmx : (X j).may = x.may := by rw [hX]
      have HXJ := Lib.hid hX
      rw [← hX] at hc hbx
      have hbv : lb < V.heap.size := by omega
      have tell : ∀ (o : Nat) (u : Value), w.cell? ⟨lb, o, none⟩ = some u → wr.cell? ⟨lb, o, none⟩ = some u := fun o u h => (R.bel.cell (p := ⟨lb, o, none⟩) hbv).trans ((V0.out.cell (p := ⟨lb, o, none⟩) hbw).trans h)
      obtain ⟨c0, c1, c2, c3, c4, c5⟩ := hc
      replace c0 := tell _ _ c0
      replace c1 := tell _ _ c1
      replace c2 := tell _ _ c2
      replace c3 := tell _ _ c3
      replace c4 := tell _ _ c4
      replace c5 := tell _ _ c5
      have hbr : lb < wr.heap.size := Nat.lt_of_lt_of_le hbv R.bel.size
      have R := Lib.hid R
      clear tell hcell hX
      obtain ⟨o, d, s0, t0, bb, n0⟩ := x
      have HB2 := Lib.hid hbx
      simp only at c0 c1 c2 c3 c4 c5
      cases hmay : XI.may ⟨o, d, s0, t0, bb, n0⟩
      · have HF := Lib.hid (hmx.trans hmay)
        go_wp2_with fail
        refine (rmay_x ⟨o, d, s0, t0, bb, n0⟩ _ HB2.out).mono ?_; rintro e w2 ⟨rfl, g2⟩
        rw [hmay]
        have R2 := R.out.more g2
        have b0 : w2.cell? ⟨w.heap.size, 0, none⟩ = some (.slice lp' l.length lc') := (R2.bel.cell (p := ⟨w.heap.size, 0, none⟩) lz).trans B0.out
        have b1 : w2.cell? ⟨w.heap.size, 1, none⟩ = some (.slice mp' ms.length mc) := (R2.bel.cell (p := ⟨w.heap.size, 1, none⟩) lz).trans B1.out
        have d0 : w2.cell? ⟨w.heap.size + 1, 0, none⟩ = some (.slice none 0 0) := (R2.bel.cell (p := ⟨w.heap.size + 1, 0, none⟩) lz1).trans D0.out
        have d1 : w2.cell? ⟨w.heap.size + 1, 1, none⟩ = some (.slice none 0 0) := (R2.bel.cell (p := ⟨w.heap.size + 1, 1, none⟩) lz1).trans D1.out
        have f0 : w2.frozen? ⟨w.heap.size + 1, 0, none⟩ = false := (R2.bel.frozen (p := ⟨w.heap.size + 1, 0, none⟩) lz1).trans F0.out
        have f1 : w2.frozen? ⟨w.heap.size + 1, 1, none⟩ = false := (R2.bel.frozen (p := ⟨w.heap.size + 1, 1, none⟩) lz1).trans F1.out
        have h2 : w.heap.size < w2.heap.size := Nat.lt_of_lt_of_le lz R2.bel.size
        have h2' : w.heap.size + 1 < w2.heap.size := Nat.lt_of_lt_of_le lz1 R2.bel.size
        have G2 := Lib.hid (R2.low V0.out)
        clear R R2 g2 c0 c1 c2 c3 c4 c5
        go_wp2_with fail
        refine bodyPost_ret (v := .tuple #[.agg #[.slice lp' l.length lc', .slice mp' ms.length mc], .int .i64 2]) ?_ rfl (.inr ⟨rfl, ⟨j, hlt, HF.out⟩, ?_⟩)
        · simp [results, Tryd.results25, go_sem, d0, d1]
        · exact (G2.out.setCell (p := ⟨w.heap.size + 1, 0, none⟩) (Nat.le_succ _) _).setCell (p := ⟨w.heap.size + 1, 1, none⟩) (Nat.le_succ _) _
      · have HF := Lib.hid (hmx.trans hmay)
        have hml : Hid ((l ++ its X j).length + 1 ≤ 200000) := by have := HN.out; unfold Hid; simp [its_len]; omega
        go_wp2_with fail
        refine (rmay_x ⟨o, d, s0, t0, bb, n0⟩ _ HB2.out).mono ?_; rintro e w2 ⟨rfl, g2⟩
        rw [hmay]
        have R2 := Lib.hid (R.out.more g2)
        have hbr2 : lb < w2.heap.size := Nat.lt_of_lt_of_le hbr g2.size
        replace c0 := (g2.cell (p := ⟨lb, _, none⟩) hbr).trans c0
        replace c1 := (g2.cell (p := ⟨lb, _, none⟩) hbr).trans c1
        replace c2 := (g2.cell (p := ⟨lb, _, none⟩) hbr).trans c2
        replace c3 := (g2.cell (p := ⟨lb, _, none⟩) hbr).trans c3
        replace c4 := (g2.cell (p := ⟨lb, _, none⟩) hbr).trans c4
        replace c5 := (g2.cell (p := ⟨lb, _, none⟩) hbr).trans c5
        clear R g2
        have HW : w2.heap.size ≤ (w2.alloc (.cells (It.row ⟨⟨o, d, s0, t0, bb, n0⟩, false, ByteArray.empty⟩).toArray 79)).heap.size := by simp
        have HV : V.heap.size ≤ w2.heap.size := R2.out.bel.size
        have HWJ : Hid (wrap64 ((j : Int) + 1) = (j : Int) + 1) := by have h8 := HN.out; have h9 := HLT.out; unfold Hid wrap64; omega
        go_wp2_with (at_builtin; refine q_its rfl _ _ rfl V.heap.size 0 _ _ (l ++ its X j) [⟨⟨o, d, s0, t0, bb, n0⟩, false, ByteArray.empty⟩] rfl (R2.out.more ((Below.refl _ _).alloc (Nat.le_refl _) _)).row rfl (own_single w2 ⟨⟨o, d, s0, t0, bb, n0⟩, false, ByteArray.empty⟩) (by have := hml.out; simp only [List.length_singleton]; omega) (Nat.le_trans HV HW) ?_; intro o3 w3 own3 gr3; have R3 := Lib.hid (PL.next HXJ.out (R2.out.step ((Below.refl _ _).alloc (Nat.le_refl _) _) gr3 own3)); clear own3 gr3 R2)
        go_roundw
        case rel => exact ⟨j + 1, HLT.out, by rw [HWJ.out]; rfl, fun i hi => (Nat.lt_succ_iff_lt_or_eq.1 hi).elim (HM.out i) (fun e => e ▸ HF.out), R3.out⟩
        case measure => have h9 := HLT.out; rw [HWJ.out]; simp only [intOf]; omega
    · obtain rfl : j = k := by omega
      obtain ⟨q, c, rfl⟩ := R.form
      have b1 : wr.cell? ⟨w.heap.size, 1, none⟩ = some (.slice mp' ms.length mc) := (R.bel.cell (p := ⟨w.heap.size, 1, none⟩) lz).trans B1.out
      have d0 : wr.cell? ⟨w.heap.size + 1, 0, none⟩ = some (.slice none 0 0) := (R.bel.cell (p := ⟨w.heap.size + 1, 0, none⟩) lz1).trans D0.out
      have d1 : wr.cell? ⟨w.heap.size + 1, 1, none⟩ = some (.slice none 0 0) := (R.bel.cell (p := ⟨w.heap.size + 1, 1, none⟩) lz1).trans D1.out
      have f0 : wr.frozen? ⟨w.heap.size + 1, 0, none⟩ = false := (R.bel.frozen (p := ⟨w.heap.size + 1, 0, none⟩) lz1).trans F0.out
      have f1 : wr.frozen? ⟨w.heap.size + 1, 1, none⟩ = false := (R.bel.frozen (p := ⟨w.heap.size + 1, 1, none⟩) lz1).trans F1.out
      have h2 : w.heap.size < wr.heap.size := Nat.lt_of_lt_of_le lz R.bel.size
      have h2' : w.heap.size + 1 < wr.heap.size := Nat.lt_of_lt_of_le lz1 R.bel.size
      have G2 := Lib.hid (R.low V0.out)
      have R := Lib.hid R
      have hlen : Hid ((l ++ its X j).length ≤ 100000) := by have := HN.out; unfold Hid; simp [its_len]; omega
      generalize hL : l ++ its X j = L at *
      have HL := Lib.hid hL
      clear hL
      go_wp2_with fail
      refine bodyPost_ret (v := .tuple #[.agg #[.slice q L.length c, .slice mp' ms.length mc], .int .i64 0]) ?_ rfl (.inl ⟨_, rfl, HM.out, ?_, ?_, ?_⟩)
      · simp [results, Tryd.results25, go_sem, d0, d1]
      · have g1 : Below w.heap.size w _ := (G2.out.setCell (p := ⟨w.heap.size + 1, 0, none⟩) (Nat.le_succ _) (.slice q L.length c)).setCell (p := ⟨w.heap.size + 1, 1, none⟩) (Nat.le_succ _) (.slice mp' ms.length mc)
        have g2 := H.out.bel g1
        rw [HL.out]
        exact ⟨own_base (ownsRow_setCell_below (a := ⟨w.heap.size + 1, 1, none⟩) (ownsRow_setCell_below (a := ⟨w.heap.size + 1, 0, none⟩) R.out.row lz1 _) lz1 _), g2.marks, hlen.out, g2.mn⟩
      · intro b hb
        exact Nat.le_trans (Nat.le_of_lt lz) (R.out.row.lt b hb).1
      · exact (G2.out.setCell (p := ⟨w.heap.size + 1, 0, none⟩) (Nat.le_succ _) _).setCell (p := ⟨w.heap.size + 1, 1, none⟩) (Nat.le_succ _) _
end Go.Proofs.YtoecanjhkbeemaaDoor.A7
