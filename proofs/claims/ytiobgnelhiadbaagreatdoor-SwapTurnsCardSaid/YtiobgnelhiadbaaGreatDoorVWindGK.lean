/- The document's side of layer 8: Frame, Stored, Loaded, Save, Restore. -/
import Derived.Test.YtiobgnelhiadbaaGreatDoorVFileGR
import Derived.Test.YtiobgnelhiadbaaGreatDoorVFileGS
import Derived.Test.YtiobgnelhiadbaaGreatDoorVMachGL
import Derived.Test.YtiobgnelhiadbaaGreatDoorVMemG
import Derived.Test.YtiobgnelhiadbaaGreatDoorVPsrGR
namespace Go.Proofs.YtiobgnelhiadbaaGreatDoor.W8
open Go.RowKit
open F3 (LAt LAtB place atL Ent entF Named)
set_option linter.unusedVariables false
/-- A world that the document looks at, by value. -/
structure DV where
  n : Int
  vl : Value
  vm : Value
  c : Int
  v : Int
def drow (q : DV) : Array Value := #[.int .i64 q.n, q.vl, q.vm, .int .i64 q.c, .int .i64 q.v]
def dzero : DV := ⟨0, .slice none 0 0, .slice none 0 0, 0, 0⟩
structure DV.Ok (q : DV) : Prop where
  l : q.vl.oneCell' = true
  m : q.vm.oneCell' = true
theorem drow_size (q : DV) : (drow q).size = 5 := rfl
theorem drow_info (q : DV) : (Tryz.prog.info? 59).map (·.size) = some (drow q).size := by rw [drow_size]; kernel_rfl
theorem drow_under : Tryz.prog.underlying 59 = some (Tryz.prog.underlying 59 |>.get (by kernel_rfl)) := by simp
theorem drow_one {q : DV} (h : q.Ok) : ∀ v ∈ (drow q).toList, v.oneCell' = true := by
  obtain ⟨h1, h2⟩ := h
  intro v hv
  simp only [drow, List.mem_cons, List.not_mem_nil, or_false] at hv
  rcases hv with rfl | rfl | rfl | rfl | rfl <;> first | rfl | assumption
/-- In world w the block b holds a world. -/
def RowD (w : World) (b : Nat) (q : DV) : Prop := w.heap[b]? = some (.cells (drow q) 59 (0, 0))
theorem RowD.lt {w : World} {b : Nat} {q : DV} (h : RowD w b q) : b < w.heap.size := block_lt_of_cell (a := ⟨b, 0, none⟩) (row_cell h (v := .int .i64 q.n) rfl)
theorem RowD.bel {w w' : World} {b : Nat} {q : DV} (h : RowD w b q) (k : Below w.heap.size w w') : RowD w' b q := bel_heap k h
theorem RowD.only {w w' : World} {b x : Nat} {q : DV} (h : RowD w b q) (k : w.grownBy w' (some x)) (hx : b ≠ x) : RowD w' b q := only_heap k hx h
theorem RowD.all {w : World} {z : Nat} {q : DV} (h : RowD w z q) :
    w.cell? ⟨z, 0, none⟩ = some (.int .i64 q.n) ∧ w.cell? ⟨z, 1, none⟩ = some q.vl ∧ w.cell? ⟨z, 2, none⟩ = some q.vm ∧ w.cell? ⟨z, 3, none⟩ = some (.int .i64 q.c) ∧ w.cell? ⟨z, 4, none⟩ = some (.int .i64 q.v) :=
  ⟨row_cell h rfl, row_cell h rfl, row_cell h rfl, row_cell h rfl, row_cell h rfl⟩
theorem RowD.of_box (w : World) (q : DV) : RowD (w.alloc (.cells (drow q) 59)) w.heap.size q := heap_alloc_last _ _
section
variable {ops : Array Oper} {rest : List Oper} {o : Oper} {a : Act} {w : World} {Q : Exit → Act → World → Prop}
theorem d_box (hgd : o.guard = none) (x : Operand) (ho : o.op = .box 59 x) (d : Option Tmp) (hd : o.dst = d) (q : DV) (hx : a.eval x = .agg (drow q))
    (h : ∀ V, Hid (RowD V w.heap.size q) → Below w.heap.size w V → Hid (w.heap.size < V.heap.size) → wpList Tryz.prog ops Q rest (a.put d (.pointer (some ⟨w.heap.size, 0, none⟩))) V) : wpList Tryz.prog ops Q (o :: rest) a w :=
  Great.wpList_boxTo hgd 59 x ho d hd w.heap.size rfl (drow q) (by rw [hx]; rfl) (h _ (heap_alloc_last _ _) ((Below.refl _ _).alloc (Nat.le_refl _) _) (show _ < _ by simp))
theorem d_alloc (hgd : o.guard = none) (d : Option Tmp) (hd : o.dst = d)
    (hrun : (execOp a.eval o).run Tryz.prog w = .ok (.value (.pointer (some ⟨w.heap.size, 0, none⟩))) (w.alloc (.cells (drow dzero) 59)))
    (h : ∀ V, Hid (RowD V w.heap.size dzero) → Below w.heap.size w V → Hid (w.heap.size < V.heap.size) → wpList Tryz.prog ops Q rest (a.put d (.pointer (some ⟨w.heap.size, 0, none⟩))) V) : wpList Tryz.prog ops Q (o :: rest) a w :=
  Great.wpList_allocTo hgd d hd _ _ hrun (h _ (heap_alloc_last _ _) ((Below.refl _ _).alloc (Nat.le_refl _) _) (show _ < _ by simp))
theorem d_store (hgd : o.guard = none) (ty : TypeId) (x y : Operand) (ho : o.op = .store ty x y) (q q' : DV) (b j : Nat) (hx : a.eval x = .pointer (some ⟨b, j, none⟩)) (cs : List Value)
    (hy : (a.eval y).cells = cs.toArray) (hr : RowD w b q) (hi : (Tryz.prog.info? ty).map (·.size) = some cs.length) (h1 : ∀ v ∈ cs, v.oneCell' = true) (hj : j + cs.length ≤ 5)
    (hq : (drow q).toList.take j ++ cs ++ (drow q).toList.drop (j + cs.length) = (drow q').toList)
    (h : ∀ V, Hid (RowD V b q') → Hid (w.grownBy V (some b)) → wpList Tryz.prog ops Q rest (a.put o.dst undef) V) : wpList Tryz.prog ops Q (o :: rest) a w := by
  refine wpList_plain hgd fun K hK => ?_
  have hst := run_storeCells_at (P := Tryz.prog) b j 59 cs 0 (drow q) w hr (by rw [drow_size]; omega) h1
  simp only [Nat.add_zero] at hst
  rw [hq] at hst
  cases hz : Tryz.prog.info? ty with
  | none => simp [hz] at hi
  | some i =>
    have hs : i.size = cs.length := by simpa [hz] using hi
    have hsv : (storeVar ty ⟨b, j, none⟩ (a.eval y)).run Tryz.prog w = .ok () (w.setRow b (drow q')) := by
      simp [storeVar, sizeOf, typeInfo, hz, hy, hs]
      simpa using hst
    unfold Oper.wp execOp
    simp only [ho, hx, Instr.storeAt, Instr.sureAddr, Sem.run_bind, Sem.run_pure, Result.andThen_ok, hsv]
    exact hK _ _ (h _ (setRow_heap _ _ _ _ _ _ hr) (only_row ⟨rfl, rfl, rfl, Nat.le_refl _, fun _ _ _ => rfl⟩ rfl))
theorem one_one {v : Value} (h : v.oneCell' = true) : ∀ u ∈ [v], u.oneCell' = true := by
  intro u hu
  simp at hu
  subst hu
  exact h
set_option maxRecDepth 100000 in
theorem d_whole (hgd : o.guard = none) (x y : Operand) (ho : o.op = .store 59 x y) (z : Nat) (q0 q : DV) (hx : a.eval x = .pointer (some ⟨z, 0, none⟩)) (hy : a.eval y = .agg (drow q)) (hz : RowD w z q0) (hq : q.Ok)
    (h : ∀ V, Hid (RowD V z q) → Hid (w.grownBy V (some z)) → wpList Tryz.prog ops Q rest (a.put o.dst undef) V) : wpList Tryz.prog ops Q (o :: rest) a w :=
  d_store hgd _ x y ho q0 q z 0 hx (drow q).toList (by rw [hy]; rfl) hz (by kernel_rfl) (drow_one hq) (Nat.le_of_ble_eq_true rfl) rfl fun V r g => h V r g
end
set_option maxRecDepth 100000 in
/-- What a call hands back whose result is a world, and a truth. -/
theorem d_results2 {fn : Func} {tmps : Array Value} {w : World} {z : Nat} {p u : Tmp} {q : DV} (h : fn.results = #[.cell p 59, .tmp u]) (hp : tmps.getD p undef = .pointer (some ⟨z, 0, none⟩)) (hz : RowD w z q) : (results fn tmps).run Tryz.prog w = .ok (.tuple #[.agg (drow q), tmps.getD u undef]) w := by
  have hp' : tmps[p]?.getD undef = .pointer (some ⟨z, 0, none⟩) := by simpa using hp
  simp [results, h, hp', asAddr, run_loadVar_row w z 59 59 (drow q) (0, 0) _ hz drow_under rfl (drow_info _)]
set_option maxRecDepth 100000 in
theorem d_ret2 {fn : Func} {R : Ending → World → Prop} {a : Act} {w : World} {z : Nat} {p u : Tmp} {q : DV} (h : fn.results = #[.cell p 59, .tmp u]) (hp : a.tmps.getD p undef = .pointer (some ⟨z, 0, none⟩)) (hz : RowD w z q) (hd : a.defers = []) (hR : R (.returned (.tuple #[.agg (drow q), a.tmps.getD u undef])) w) : bodyPost Tryz.prog fn R .ret a w :=
  bodyPost_ret (d_results2 h hp hz) hd hR
set_option maxRecDepth 100000 in
theorem d_results1 {fn : Func} {tmps : Array Value} {w : World} {z : Nat} {p : Tmp} {q : DV} (h : fn.results = #[.cell p 59]) (hp : tmps.getD p undef = .pointer (some ⟨z, 0, none⟩)) (hz : RowD w z q) : (results fn tmps).run Tryz.prog w = .ok (.agg (drow q)) w := by
  have hp' : tmps[p]?.getD undef = .pointer (some ⟨z, 0, none⟩) := by simpa using hp
  simp [results, h, hp', asAddr, run_loadVar_row w z 59 59 (drow q) (0, 0) _ hz drow_under rfl (drow_info _)]
set_option maxRecDepth 100000 in
theorem d_ret1 {fn : Func} {R : Ending → World → Prop} {a : Act} {w : World} {z : Nat} {p : Tmp} {q : DV} (h : fn.results = #[.cell p 59]) (hp : a.tmps.getD p undef = .pointer (some ⟨z, 0, none⟩)) (hz : RowD w z q) (hd : a.defers = []) (hR : R (.returned (.agg (drow q))) w) : bodyPost Tryz.prog fn R .ret a w :=
  bodyPost_ret (d_results1 h hp hz) hd hR
theorem own_less {w : World} {B C : Nat} {t : TypeId} {z n : Nat} {s : Value} {xs : List Value} (h : w.ownsRow B t z s n xs) (hC : C ≤ B) : w.ownsRow C t z s n xs := by
  obtain ⟨h0, h1 | ⟨g, cap, cur, e, hB, r⟩⟩ := h
  · exact ⟨h0, .inl h1⟩
  · exact ⟨h0, .inr ⟨g, cap, cur, e, Nat.le_trans hC hB, r⟩⟩
theorem own_keep {w w' : World} {B z : Nat} {t : TypeId} {m n : Nat} {s : Value} {xs : List Value} (h : w.ownsRow B t m s n xs) (hz : z < B) (g : w.grownBy w' (some z)) : w'.ownsRow B t m s n xs :=
  World.ownsRow.kept h g (.inr fun e => by have := (World.ownsRow.lt h z e).1; omega)
theorem own_belw {w w' : World} {B : Nat} {t : TypeId} {m n : Nat} {s : Value} {xs : List Value} (h : w.ownsRow B t m s n xs) (k : Below w.heap.size w w') : w'.ownsRow B t m s n xs := by
  obtain ⟨h0, h1 | ⟨g, cap, cur, e, hB, hg, r⟩⟩ := h
  · exact ⟨h0, .inl h1⟩
  · exact ⟨h0, .inr ⟨g, cap, cur, e, hB, bel_heap k hg, r⟩⟩
/-- Bytes in a row of one's own. -/
def MB (B : Nat) (w : World) (s : Value) (n : Nat) (f : Nat → Int) : Prop := w.ownsRow B 5 1 s n (bsL .u8 f n)
theorem MB.sl {B : Nat} {w : World} {s : Value} {n : Nat} {f : Nat → Int} (h : MB B w s n f) : Sl .u8 w s n f := own_sl h
set_option maxHeartbeats 1000000 in
theorem rput_new (s t : Value) (n l : Nat) (f g : Nat → Int) (a : Nat) (w : World) (hl : 0 < l) (hn : n ≤ 4194304) (hs : Sl .u8 w s n f) (ht : Sl .u32 w t l g) (hg : ∀ i, i < l → 0 ≤ g i ∧ g i < 4294967296) (h : spE n a l = 0) :
    Calls Tryz.prog 60 #[s, .int .u32 a, t] w fun e w' => ∃ s', e = .returned (.tuple #[s', .int .i64 0]) ∧ MB w.heap.size w' s' n (ptB f a g l) ∧ Below w.heap.size w w' := by
  obtain ⟨_, ha4, han, hal⟩ := spE_ok h
  have HS := Lib.hid hs
  obtain ⟨p, c, rfl, _⟩ := hs
  have HL := Lib.hid ht
  obtain ⟨q, d, rfl, _⟩ := ht
  have HT := Lib.hid (fun W => M5.rspan_at p n c a l W hn (by omega) (by omega))
  rw [h] at HT
  have HG := Lib.hid hg
  clear hg h
  go_enter Tryz.func60, Tryz.ntmps60
  go_wp2_with fail
  refine (HT.out _).mono ?_; rintro e w1 ⟨rfl, rfl⟩
  clear HT
  go_wp2_with fail
  go_loopw [0, 9] (fun s i wr => ∃ k : Nat, k ≤ l ∧ i = .int .i64 k ∧ Sl .u8 wr s n (ptB f a g k) ∧ (0 < k → MB w.heap.size wr s n (ptB f a g k)) ∧ Below w.heap.size w wr) (fun _ i _ => l - (intOf i).toNat)
  case atStart => exact ⟨0, by omega, rfl, HS.out, fun h => absurd h (Nat.lt_irrefl _), Below.refl _ _⟩
  case round =>
    clear HS
    obtain ⟨k, hk, rfl, hs, hm, hx⟩ := hrel
    by_cases hlt : k < l
    · obtain ⟨q', d', hq, hcs⟩ := HL.out
      obtain ⟨rfl, rfl⟩ : q = q' ∧ d = d' := by simp only [Value.slice.injEq, true_and] at hq; exact hq
      obtain ⟨b, o, rfl, hcc⟩ := hcs (by omega)
      have hc := bel_cell hx (hcc k hlt)
      have HSt : Hid (∀ (W : World) (x : Value), Sl .u8 W x n (ptB f a g k) → Calls Tryz.prog 125 #[x, .int .u32 ((a : Int) + 4 * (k : Int)), .int .i64 4, .int .u32 (g k)] W fun e w' => ∃ s', e = .returned (.tuple #[s', .int .i64 0]) ∧ w'.ownsRow W.heap.size 5 1 s' n (bsL .u8 (ptB f a g (k + 1)) n) ∧ Below W.heap.size W w') := fun W x h => by
        have := M5.rstore_yes x n (ptB f a g k) (a + 4 * k) 4 (g k) W hn h (HG.out k hlt) (by unfold thE; rw [if_neg (by omega), if_neg (by omega), if_neg (by omega)])
        rw [show ((a + 4 * k : Nat) : Int) = (a : Int) + 4 * (k : Int) by omega] at this
        exact this
      have hk4 : 4 * (k : Int) < 4194304 := by omega
      have hak : (a : Int) + 4 * (k : Int) < 4194304 := by omega
      have hkl : (k : Int) < l := by omega
      have hk32 : (k : Int) < 4294967296 := by omega
      have HH := Lib.hid hs
      have hsz := hx.size
      clear hs hcs hq hcc hm
      go_wp2_with fail
      refine (HSt.out _ _ HH.out).mono ?_; rintro e w2 ⟨s2, rfl, own2, g2⟩
      have S2 := Lib.hid (own_sl own2)
      have O2 : Hid (MB w.heap.size w2 s2 n (ptB f a g (k + 1))) := own_less own2 hsz
      have G2 := bel_trans hx g2
      clear own2 g2 HSt HH hx hsz
      go_wp2_with fail
      go_roundw
      case rel => exact ⟨k + 1, by omega, by go_num, S2.out, fun _ => O2.out, G2⟩
      case measure => simp [intOf]; omega
    · obtain rfl : k = l := by omega
      have HH := Lib.hid (hm hl)
      clear hs hm
      go_wp2_with fail
      go_ret2
      exact ⟨_, rfl, HH.out, hx⟩
set_option maxRecDepth 100000 in
theorem Frame_at (q : DV) (x : Int) (p : Option Addr) (m k : Nat) (l : List Ent) (w : World) (hvl : q.vl = .slice p m k) (hn : 2 ≤ q.n) (hn' : q.n ≤ 32) (h0 : 0 ≤ x) (h1 : x < q.n) (hl : l.length ≤ 1000) (hL : LAt w (.slice p m k) l) :
    Calls Tryz.prog 101 #[.agg (drow q), .int .i64 x] w fun e w' => e = .returned (.int .u32 (atL l (place q.n x 0 14))) ∧ Below w.heap.size w w' := by
  have hX := Lib.hid (RowD.of_box w q)
  have gX : Hid (Below w.heap.size w (w.alloc (.cells (drow q) 59))) := (Below.refl _ _).alloc (Nat.le_refl _) _
  have HL := Lib.hid (hL.bel gX.out)
  clear hL
  go_enter Tryz.func101, Tryz.ntmps101
  go_upto_region 1 with (fail)
  change Code.wp _ _ _ _ (w.alloc (.cells (drow q) 59))
  generalize w.alloc (.cells (drow q) 59) = V at hX gX HL ⊢
  obtain ⟨x0, x1, x2, x3, x4⟩ := hX.out.all
  rw [hvl] at x1
  have HV := Lib.hid hvl
  clear hX hvl
  go_wp2_with fail
  refine (F3.refGet_at q.n x 0 14 (.slice p m k) l V hn hn' hl HL.out ⟨h0, h1, by decide, by decide, by decide, by decide⟩).mono ?_; rintro e w1 ⟨rfl, g1⟩
  have G1 := Lib.hid (bel_trans gX.out g1)
  clear g1 x0 x1 x2 x3 x4
  go_wp2_with fail
  go_ret
  exact ⟨rfl, G1.out⟩
/-- What a window has, by the document's list. -/
def winL (l : List Ent) (n x : Int) (i : Nat) : Int := atL l (place n x 0 (16 + (i : Int)))
theorem lat_keep {B : Nat} {w w' : World} {s : Value} {l : List Ent} {z : Nat} (h : LAtB B w s l) (hz : z < B) (g : w.grownBy w' (some z)) : LAtB B w' s l :=
  World.ownsRow.kept h g (.inr fun e => by have := (World.ownsRow.lt h z e).1; omega)
end Go.Proofs.YtiobgnelhiadbaaGreatDoor.W8
