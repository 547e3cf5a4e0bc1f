/- The document's side of layer 8: Frame, Stored, Loaded, Save, Restore. -/
import Derived.Test.YtlmaikbnjdmhcaaGreatDoorFileGR
import Derived.Test.YtlmaikbnjdmhcaaGreatDoorFileGS
import Derived.Test.YtlmaikbnjdmhcaaGreatDoorFileGSm
import Derived.Test.YtlmaikbnjdmhcaaGreatDoorMemG
import Derived.Test.YtlmaikbnjdmhcaaGreatDoorPsrGR
namespace Go.Proofs.YtlmaikbnjdmhcaaGreatDoor.W8
open Go.RowKit
open F3 (LAt LAtB place atL Ent entF Named)
set_option linter.unusedVariables false
/-- A world that the document looks at, by value. -/
structure DV where
  n : Int
  vl : Value
  vm : Value
  c : Int
  v : Int
def drow (q : DV) : Array Value := #[.int .i64 q.n, q.vl, q.vm, .int .i64 q.c, .int .i64 q.v]
def dzero : DV := ⟨0, .slice none 0 0, .slice none 0 0, 0, 0⟩
structure DV.Ok (q : DV) : Prop where
  l : q.vl.oneCell' = true
  m : q.vm.oneCell' = true
theorem drow_size (q : DV) : (drow q).size = 5 := rfl
theorem drow_info (q : DV) : (Tryz.prog.info? 73).map (·.size) = some (drow q).size := by rw [drow_size]; kernel_rfl
theorem drow_under : Tryz.prog.underlying 73 = some (Tryz.prog.underlying 73 |>.get (by kernel_rfl)) := by simp
theorem drow_one {q : DV} (h : q.Ok) : ∀ v ∈ (drow q).toList, v.oneCell' = true := by
  obtain ⟨h1, h2⟩ := h
  intro v hv
  simp only [drow, List.mem_cons, List.not_mem_nil, or_false] at hv
  rcases hv with rfl | rfl | rfl | rfl | rfl <;> first | rfl | assumption
/-- In world w the block b holds a world. -/
def RowD (w : World) (b : Nat) (q : DV) : Prop := w.heap[b]? = some (.cells (drow q) 73 (0, 0))
theorem RowD.lt {w : World} {b : Nat} {q : DV} (h : RowD w b q) : b < w.heap.size := block_lt_of_cell (a := ⟨b, 0, none⟩) (row_cell h (v := .int .i64 q.n) rfl)
theorem RowD.bel {w w' : World} {b : Nat} {q : DV} (h : RowD w b q) (k : Below w.heap.size w w') : RowD w' b q := bel_heap k h
theorem RowD.only {w w' : World} {b x : Nat} {q : DV} (h : RowD w b q) (k : w.grownBy w' (some x)) (hx : b ≠ x) : RowD w' b q := only_heap k hx h
theorem RowD.all {w : World} {z : Nat} {q : DV} (h : RowD w z q) :
    w.cell? ⟨z, 0, none⟩ = some (.int .i64 q.n) ∧ w.cell? ⟨z, 1, none⟩ = some q.vl ∧ w.cell? ⟨z, 2, none⟩ = some q.vm ∧ w.cell? ⟨z, 3, none⟩ = some (.int .i64 q.c) ∧ w.cell? ⟨z, 4, none⟩ = some (.int .i64 q.v) :=
  ⟨row_cell h rfl, row_cell h rfl, row_cell h rfl, row_cell h rfl, row_cell h rfl⟩
theorem RowD.of_box (w : World) (q : DV) : RowD (w.alloc (.cells (drow q) 73)) w.heap.size q := heap_alloc_last _ _
section
variable {ops : Array Oper} {rest : List Oper} {o : Oper} {a : Act} {w : World} {Q : Exit → Act → World → Prop}
theorem d_box (hgd : o.guard = none) (x : Operand) (ho : o.op = .box 73 x) (d : Option Tmp) (hd : o.dst = d) (q : DV) (hx : a.eval x = .agg (drow q))
    (h : ∀ V, Hid (RowD V w.heap.size q) → Below w.heap.size w V → Hid (w.heap.size < V.heap.size) → wpList Tryz.prog ops Q rest (a.put d (.pointer (some ⟨w.heap.size, 0, none⟩))) V) : wpList Tryz.prog ops Q (o :: rest) a w :=
  Great.wpList_boxTo hgd 73 x ho d hd w.heap.size rfl (drow q) (by rw [hx]; rfl) (h _ (heap_alloc_last _ _) ((Below.refl _ _).alloc (Nat.le_refl _) _) (show _ < _ by simp))
theorem d_alloc (hgd : o.guard = none) (d : Option Tmp) (hd : o.dst = d)
    (hrun : (execOp a.eval o).run Tryz.prog w = .ok (.value (.pointer (some ⟨w.heap.size, 0, none⟩))) (w.alloc (.cells (drow dzero) 73)))
    (h : ∀ V, Hid (RowD V w.heap.size dzero) → Below w.heap.size w V → Hid (w.heap.size < V.heap.size) → wpList Tryz.prog ops Q rest (a.put d (.pointer (some ⟨w.heap.size, 0, none⟩))) V) : wpList Tryz.prog ops Q (o :: rest) a w :=
  Great.wpList_allocTo hgd d hd _ _ hrun (h _ (heap_alloc_last _ _) ((Below.refl _ _).alloc (Nat.le_refl _) _) (show _ < _ by simp))
theorem d_store (hgd : o.guard = none) (ty : TypeId) (x y : Operand) (ho : o.op = .store ty x y) (q q' : DV) (b j : Nat) (hx : a.eval x = .pointer (some ⟨b, j, none⟩)) (cs : List Value)
    (hy : (a.eval y).cells = cs.toArray) (hr : RowD w b q) (hi : (Tryz.prog.info? ty).map (·.size) = some cs.length) (h1 : ∀ v ∈ cs, v.oneCell' = true) (hj : j + cs.length ≤ 5)
    (hq : (drow q).toList.take j ++ cs ++ (drow q).toList.drop (j + cs.length) = (drow q').toList)
    (h : ∀ V, Hid (RowD V b q') → Hid (w.grownBy V (some b)) → wpList Tryz.prog ops Q rest (a.put o.dst undef) V) : wpList Tryz.prog ops Q (o :: rest) a w := by
  refine wpList_plain hgd fun K hK => ?_
  have hst := run_storeCells_at (P := Tryz.prog) b j 73 cs 0 (drow q) w hr (by rw [drow_size]; omega) h1
  simp only [Nat.add_zero] at hst
  rw [hq] at hst
  cases hz : Tryz.prog.info? ty with
  | none => simp [hz] at hi
  | some i =>
    have hs : i.size = cs.length := by simpa [hz] using hi
    have hsv : (storeVar ty ⟨b, j, none⟩ (a.eval y)).run Tryz.prog w = .ok () (w.setRow b (drow q')) := by
      simp [storeVar, sizeOf, typeInfo, hz, hy, hs]
      simpa using hst
    unfold Oper.wp execOp
    simp only [ho, hx, Instr.storeAt, Instr.sureAddr, Sem.run_bind, Sem.run_pure, Result.andThen_ok, hsv]
    exact hK _ _ (h _ (setRow_heap _ _ _ _ _ _ hr) (only_row ⟨rfl, rfl, rfl, Nat.le_refl _, fun _ _ _ => rfl⟩ rfl))
theorem one_one {v : Value} (h : v.oneCell' = true) : ∀ u ∈ [v], u.oneCell' = true := by
  intro u hu
  simp at hu
  subst hu
  exact h
set_option maxRecDepth 100000 in
theorem d_whole (hgd : o.guard = none) (x y : Operand) (ho : o.op = .store 73 x y) (z : Nat) (q0 q : DV) (hx : a.eval x = .pointer (some ⟨z, 0, none⟩)) (hy : a.eval y = .agg (drow q)) (hz : RowD w z q0) (hq : q.Ok)
    (h : ∀ V, Hid (RowD V z q) → Hid (w.grownBy V (some z)) → wpList Tryz.prog ops Q rest (a.put o.dst undef) V) : wpList Tryz.prog ops Q (o :: rest) a w :=
  d_store hgd _ x y ho q0 q z 0 hx (drow q).toList (by rw [hy]; rfl) hz (by kernel_rfl) (drow_one hq) (Nat.le_of_ble_eq_true rfl) rfl fun V r g => h V r g
end
set_option maxRecDepth 100000 in
/-- What a call hands back whose result is a world, and a truth. -/
theorem d_results2 {fn : Func} {tmps : Array Value} {w : World} {z : Nat} {p u : Tmp} {q : DV} (h : fn.results = #[.cell p 73, .tmp u]) (hp : tmps.getD p undef = .pointer (some ⟨z, 0, none⟩)) (hz : RowD w z q) : (results fn tmps).run Tryz.prog w = .ok (.tuple #[.agg (drow q), tmps.getD u undef]) w := by
  have hp' : tmps[p]?.getD undef = .pointer (some ⟨z, 0, none⟩) := by simpa using hp
  simp [results, h, hp', asAddr, run_loadVar_row w z 73 73 (drow q) (0, 0) _ hz drow_under rfl (drow_info _)]
set_option maxRecDepth 100000 in
theorem d_ret2 {fn : Func} {R : Ending → World → Prop} {a : Act} {w : World} {z : Nat} {p u : Tmp} {q : DV} (h : fn.results = #[.cell p 73, .tmp u]) (hp : a.tmps.getD p undef = .pointer (some ⟨z, 0, none⟩)) (hz : RowD w z q) (hd : a.defers = []) (hR : R (.returned (.tuple #[.agg (drow q), a.tmps.getD u undef])) w) : bodyPost Tryz.prog fn R .ret a w :=
  bodyPost_ret (d_results2 h hp hz) hd hR
set_option maxRecDepth 100000 in
theorem d_results1 {fn : Func} {tmps : Array Value} {w : World} {z : Nat} {p : Tmp} {q : DV} (h : fn.results = #[.cell p 73]) (hp : tmps.getD p undef = .pointer (some ⟨z, 0, none⟩)) (hz : RowD w z q) : (results fn tmps).run Tryz.prog w = .ok (.agg (drow q)) w := by
  have hp' : tmps[p]?.getD undef = .pointer (some ⟨z, 0, none⟩) := by simpa using hp
  simp [results, h, hp', asAddr, run_loadVar_row w z 73 73 (drow q) (0, 0) _ hz drow_under rfl (drow_info _)]
set_option maxRecDepth 100000 in
theorem d_ret1 {fn : Func} {R : Ending → World → Prop} {a : Act} {w : World} {z : Nat} {p : Tmp} {q : DV} (h : fn.results = #[.cell p 73]) (hp : a.tmps.getD p undef = .pointer (some ⟨z, 0, none⟩)) (hz : RowD w z q) (hd : a.defers = []) (hR : R (.returned (.agg (drow q))) w) : bodyPost Tryz.prog fn R .ret a w :=
  bodyPost_ret (d_results1 h hp hz) hd hR
theorem own_less {w : World} {B C : Nat} {t : TypeId} {z n : Nat} {s : Value} {xs : List Value} (h : w.ownsRow B t z s n xs) (hC : C ≤ B) : w.ownsRow C t z s n xs := by
  obtain ⟨h0, h1 | ⟨g, cap, cur, e, hB, r⟩⟩ := h
  · exact ⟨h0, .inl h1⟩
  · exact ⟨h0, .inr ⟨g, cap, cur, e, Nat.le_trans hC hB, r⟩⟩
theorem own_keep {w w' : World} {B z : Nat} {t : TypeId} {m n : Nat} {s : Value} {xs : List Value} (h : w.ownsRow B t m s n xs) (hz : z < B) (g : w.grownBy w' (some z)) : w'.ownsRow B t m s n xs :=
  World.ownsRow.kept h g (.inr fun e => by have := (World.ownsRow.lt h z e).1; omega)
theorem own_belw {w w' : World} {B : Nat} {t : TypeId} {m n : Nat} {s : Value} {xs : List Value} (h : w.ownsRow B t m s n xs) (k : Below w.heap.size w w') : w'.ownsRow B t m s n xs := by
  obtain ⟨h0, h1 | ⟨g, cap, cur, e, hB, hg, r⟩⟩ := h
  · exact ⟨h0, .inl h1⟩
  · exact ⟨h0, .inr ⟨g, cap, cur, e, hB, bel_heap k hg, r⟩⟩
/-- Bytes in a row of one's own. -/
def MB (B : Nat) (w : World) (s : Value) (n : Nat) (f : Nat → Int) : Prop := w.ownsRow B 5 1 s n (bsL .u8 f n)
theorem MB.sl {B : Nat} {w : World} {s : Value} {n : Nat} {f : Nat → Int} (h : MB B w s n f) : Sl .u8 w s n f := own_sl h
set_option maxHeartbeats 1000000 in
theorem rput_new (s t : Value) (n l : Nat) (f g : Nat → Int) (a : Nat) (w : World) (hl : 0 < l) (hn : n ≤ 4194304) (hs : Sl .u8 w s n f) (ht : Sl .u32 w t l g) (hg : ∀ i, i < l → 0 ≤ g i ∧ g i < 4294967296) (h : spE n a l = 0) :
    Calls Tryz.prog 44 #[s, .int .u32 a, t] w fun e w' => ∃ s', e = .returned (.tuple #[s', .int .i64 0]) ∧ MB w.heap.size w' s' n (ptB f a g l) ∧ Below w.heap.size w w' := by
  obtain ⟨_, ha4, han, hal⟩ := spE_ok h
  have HS := Lib.hid hs
  obtain ⟨p, c, rfl, _⟩ := hs
  have HL := Lib.hid ht
  obtain ⟨q, d, rfl, _⟩ := ht
  have HT := Lib.hid (fun W => M5.rspan_at p n c a l W hn (by omega) (by omega))
  rw [h] at HT
  have HG := Lib.hid hg
  clear hg h
  go_enter Tryz.func44, Tryz.ntmps44
  go_wp2_with fail
  refine (HT.out _).mono ?_; rintro e w1 ⟨rfl, rfl⟩
  clear HT
  go_wp2_with fail
  go_loopw [0, 9] (fun s i wr => ∃ k : Nat, k ≤ l ∧ i = .int .i64 k ∧ Sl .u8 wr s n (ptB f a g k) ∧ (0 < k → MB w.heap.size wr s n (ptB f a g k)) ∧ Below w.heap.size w wr) (fun _ i _ => l - (intOf i).toNat)
  case atStart => exact ⟨0, by omega, rfl, HS.out, fun h => absurd h (Nat.lt_irrefl _), Below.refl _ _⟩
  case round =>
    clear HS
    obtain ⟨k, hk, rfl, hs, hm, hx⟩ := hrel
    by_cases hlt : k < l
    · obtain ⟨q', d', hq, hcs⟩ := HL.out
      obtain ⟨rfl, rfl⟩ : q = q' ∧ d = d' := by simp only [Value.slice.injEq, true_and] at hq; exact hq
      obtain ⟨b, o, rfl, hcc⟩ := hcs (by omega)
      have hc := bel_cell hx (hcc k hlt)
      have HSt : Hid (∀ (W : World) (x : Value), Sl .u8 W x n (ptB f a g k) → Calls Tryz.prog 98 #[x, .int .u32 ((a : Int) + 4 * (k : Int)), .int .i64 4, .int .u32 (g k)] W fun e w' => ∃ s', e = .returned (.tuple #[s', .int .i64 0]) ∧ w'.ownsRow W.heap.size 5 1 s' n (bsL .u8 (ptB f a g (k + 1)) n) ∧ Below W.heap.size W w') := fun W x h => by
        have := M5.rstore_yes x n (ptB f a g k) (a + 4 * k) 4 (g k) W hn h (HG.out k hlt) (by unfold thE; rw [if_neg (by omega), if_neg (by omega), if_neg (by omega)])
        rw [show ((a + 4 * k : Nat) : Int) = (a : Int) + 4 * (k : Int) by omega] at this
        exact this
      have hk4 : 4 * (k : Int) < 4194304 := by omega
      have hak : (a : Int) + 4 * (k : Int) < 4194304 := by omega
      have hkl : (k : Int) < l := by omega
      have hk32 : (k : Int) < 4294967296 := by omega
      have HH := Lib.hid hs
      have hsz := hx.size
      clear hs hcs hq hcc hm
      go_wp2_with fail
      refine (HSt.out _ _ HH.out).mono ?_; rintro e w2 ⟨s2, rfl, own2, g2⟩
      have S2 := Lib.hid (own_sl own2)
      have O2 : Hid (MB w.heap.size w2 s2 n (ptB f a g (k + 1))) := own_less own2 hsz
      have G2 := bel_trans hx g2
      clear own2 g2 HSt HH hx hsz
      go_wp2_with fail
      go_roundw
      case rel => exact ⟨k + 1, by omega, by go_num, S2.out, fun _ => O2.out, G2⟩
      case measure => simp [intOf]; omega
    · obtain rfl : k = l := by omega
      have HH := Lib.hid (hm hl)
      clear hs hm
      go_wp2_with fail
      go_ret2
      exact ⟨_, rfl, HH.out, hx⟩
set_option maxRecDepth 100000 in
theorem Frame_at (q : DV) (x : Int) (p : Option Addr) (m k : Nat) (l : List Ent) (w : World) (hvl : q.vl = .slice p m k) (hn : 2 ≤ q.n) (hn' : q.n ≤ 32) (h0 : 0 ≤ x) (h1 : x < q.n) (hl : l.length ≤ 1000) (hL : LAt w (.slice p m k) l) :
    Calls Tryz.prog 139 #[.agg (drow q), .int .i64 x] w fun e w' => e = .returned (.int .u32 (atL l (place q.n x 0 14))) ∧ Below w.heap.size w w' := by
  have hX := Lib.hid (RowD.of_box w q)
  have gX : Hid (Below w.heap.size w (w.alloc (.cells (drow q) 73))) := (Below.refl _ _).alloc (Nat.le_refl _) _
  have HL := Lib.hid (hL.bel gX.out)
  clear hL
  go_enter Tryz.func139, Tryz.ntmps139
  go_upto_region 1 with (fail)
  change Code.wp _ _ _ _ (w.alloc (.cells (drow q) 73))
  generalize w.alloc (.cells (drow q) 73) = V at hX gX HL ⊢
  obtain ⟨x0, x1, x2, x3, x4⟩ := hX.out.all
  rw [hvl] at x1
  have HV := Lib.hid hvl
  clear hX hvl
  go_wp2_with fail
  refine (F3.refGet_at q.n x 0 14 (.slice p m k) l V hn hn' hl HL.out ⟨h0, h1, by decide, by decide, by decide, by decide⟩).mono ?_; rintro e w1 ⟨rfl, g1⟩
  have G1 := Lib.hid (bel_trans gX.out g1)
  clear g1 x0 x1 x2 x3 x4
  go_wp2_with fail
  go_ret
  exact ⟨rfl, G1.out⟩
/-- A long slice is no world's box. -/
theorem sl_far {k : IntKind} {w w' : World} {s : Value} {n : Nat} {f : Nat → Int} {z : Nat} {q : DV} (h : Sl k w s n f) (hz : RowD w z q) (hn : 6 ≤ n) (g : w.grownBy w' (some z)) : Sl k w' s n f := by
  obtain ⟨p, c, rfl, hc⟩ := h
  refine ⟨p, c, rfl, fun h0 => ?_⟩
  obtain ⟨b, o, rfl, hcc⟩ := hc h0
  have hb : b ≠ z := by
    rintro rfl
    have := hcc 5 (by omega)
    rw [cell_of_row _ _ _ _ _ _ hz, Array.getElem?_eq_none (by rw [drow_size]; omega)] at this
    cases this
  exact ⟨b, o, rfl, fun i hi => F3.only_cell_far g (hcc i hi) hb⟩
/-- What a window has, by the document's list. -/
def winL (l : List Ent) (n x : Int) (i : Nat) : Int := atL l (place n x 0 (16 + (i : Int)))
set_option maxRecDepth 100000 in
set_option maxHeartbeats 4000000 in
theorem Stored_at (q : DV) (x : Int) (p pm : Option Addr) (m k mk : Nat) (l : List Ent) (f : Nat → Int) (a : Nat) (w : World) (hvl : q.vl = .slice p m k) (hvm : q.vm = .slice pm 4096 mk) (hn : 2 ≤ q.n) (hn' : q.n ≤ 32) (h0 : 0 ≤ x) (h1 : x < q.n) (hl : l.length ≤ 1000) (hL : LAt w (.slice p m k) l)
    (hM : Sl .u8 w (.slice pm 4096 mk) 4096 f) (hw : ∀ i, i < 16 → 0 ≤ winL l q.n x i ∧ winL l q.n x i < 4294967296) (ha : atL l (place q.n x 0 14) = a) (hs : spE (4096 : Nat) a 16 = 0) :
    Calls Tryz.prog 86 #[.agg (drow q), .int .i64 x] w fun e w' => ∃ p' k', e = .returned (.tuple #[.agg (drow { q with vm := .slice p' 4096 k' }), .bool true]) ∧ MB w.heap.size w' (.slice p' 4096 k') 4096 (ptB f a (winL l q.n x) 16) ∧ Below w.heap.size w w' := by
  have HW := Lib.hid hw
  have HA := Lib.hid ha
  have HS := Lib.hid hs
  have HL := Lib.hid hL
  have HM := Lib.hid hM
  have OK : Hid q.Ok := ⟨by rw [hvl]; rfl, by rw [hvm]; rfl⟩
  have HF : Hid (∀ W : World, Below w.heap.size w W → Calls Tryz.prog 139 #[.agg (drow q), .int .i64 x] W fun e w' => e = .returned (.int .u32 (a : Int)) ∧ Below W.heap.size W w') := fun W g => by
    have := Frame_at q x p m k l W hvl hn hn' h0 h1 hl (hL.bel g)
    rw [ha] at this
    exact this
  clear hw ha hs hL hM
  go_enter Tryz.func86, Tryz.ntmps86
  go_upto_region 1 with (first
    | (refine d_box rfl _ rfl (some 2) rfl q rfl ?_; intro V1 r1 b1 s1)
    | (refine d_alloc rfl (some 4) rfl (by kernel_rfl) ?_; intro V2 r2 b2 s2))
  have r3 := Lib.hid (r1.out.bel b2)
  have G3 := Lib.hid (bel_trans b1 b2)
  have N3 : Hid (w.heap.size < V1.heap.size) := s1
  have N4 : Hid (V1.heap.size < V2.heap.size) := s2
  clear r1 b1 s1 b2 s2
  obtain ⟨x0, x1, x2, x3, x4⟩ := r3.out.all
  rw [hvl] at x1
  rw [hvm] at x2
  have HVL := Lib.hid hvl
  have HVM := Lib.hid hvm
  clear hvl hvm
  generalize V1.heap.size = z at r2 N3 N4 ⊢
  go_wp2_with fail
  refine (F3.refWindow_at q.n x p m k l V2 hn hn' h0 h1 hl (HL.out.bel G3.out)).mono ?_; rintro e w3 ⟨s', rfl, ho, g3⟩
  obtain ⟨gw, cw, rfl, hcells⟩ := F3.wlk_form ho (by decide)
  have SW : Hid (Sl .u32 w3 (.slice (some ⟨gw, 0, none⟩) 16 cw) 16 (winL l q.n x)) := ⟨_, _, rfl, fun _ => ⟨gw, 0, rfl, fun i hi => by rw [Nat.zero_add]; exact hcells i hi⟩⟩
  have r4 := Lib.hid (r3.out.bel g3)
  have z4 := Lib.hid (r2.out.bel g3)
  have G4 := Lib.hid (bel_trans G3.out g3)
  have N5 : Hid (z < w3.heap.size) := Nat.lt_of_lt_of_le N4.out g3.size
  clear ho hcells g3 r2 r3 G3 x0 x1 x2 x3 x4
  obtain ⟨x0, x1, x2, x3, x4⟩ := r4.out.all
  rw [HVL.out] at x1
  rw [HVM.out] at x2
  go_wp2_with fail
  have GD : Below w3.heap.size w3 w3.drew := Below.drew (Below.refl _ _)
  have HD : Hid (∀ W, Below w3.heap.size w3 W → W.cell? ⟨w.heap.size, 0, none⟩ = some (.int .i64 q.n) ∧ W.cell? ⟨w.heap.size, 1, none⟩ = some (.slice p m k) ∧ W.cell? ⟨w.heap.size, 2, none⟩ = some (.slice pm 4096 mk) ∧ W.cell? ⟨w.heap.size, 3, none⟩ = some (.int .i64 q.c) ∧ W.cell? ⟨w.heap.size, 4, none⟩ = some (.int .i64 q.v)) := fun W g => ⟨bel_cell g x0, bel_cell g x1, bel_cell g x2, bel_cell g x3, bel_cell g x4⟩
  have DD := HD.out _ GD
  have CP : Hid (∀ W, Below w3.heap.size w3 W → Calls Tryz.prog 44 #[.slice pm 4096 mk, .int .u32 (a : Int), .slice (some ⟨gw, 0, none⟩) 16 cw] W fun e w' => ∃ s', e = .returned (.tuple #[s', .int .i64 0]) ∧ MB w3.heap.size w' s' 4096 (ptB f a (winL l q.n x) 16) ∧ Below W.heap.size W w') := fun W g => (rput_new (.slice pm 4096 mk) (.slice (some ⟨gw, 0, none⟩) 16 cw) 4096 16 f (winL l q.n x) a W (by decide) (by decide) (HM.out.bel (bel_trans G4.out g)) (SW.out.bel g) HW.out HS.out).mono fun e w' ⟨s', h1, h2, h3⟩ => ⟨s', h1, own_less h2 g.size, h3⟩
  clear x0 x1 x2 x3 x4
  go_region_held3 (fun W => W.cell? ⟨w.heap.size, 0, none⟩ = some (.int .i64 q.n) ∧ W.cell? ⟨w.heap.size, 1, none⟩ = some (.slice p m k) ∧ W.cell? ⟨w.heap.size, 2, none⟩ = some (.slice pm 4096 mk) ∧ W.cell? ⟨w.heap.size, 3, none⟩ = some (.int .i64 q.c) ∧ W.cell? ⟨w.heap.size, 4, none⟩ = some (.int .i64 q.v))
    (first
      | exact DD
      | exact DF
      | exact DP)
    (first
      | (go_at_call 139; have C := HF.out _ (bel_trans G4.out GD); unfold drow at C; rw [HVL.out, HVM.out] at C; refine C.mono ?_; rintro e WF ⟨rfl, gf⟩; have GF := bel_trans GD gf; have DF := HD.out _ GF; clear gf C)
      | (go_at_call 44; refine (CP.out _ ?_).mono ?_; exact GF; rintro e WP ⟨sv, rfl, SV, gp⟩; obtain ⟨p', k', rfl⟩ := lenOf_own SV; have GP := bel_trans GF gp; have DP := HD.out _ GP; clear gp))
  have SV := Lib.hid SV
  have r5 := Lib.hid (r4.out.bel GP)
  have z5 := Lib.hid (z4.out.bel GP)
  have G5 := Lib.hid (bel_trans G4.out GP)
  clear GD HD DD CP GF DF GP DP r4 z4 G4 SW
  go_upto_region 4 with (refine d_store rfl 29 (.tmp 28) (.tmp 27) rfl q { q with vm := .slice p' 4096 k' } w.heap.size 2 rfl [.slice p' 4096 k'] rfl r5.out (by kernel_rfl) (one_one rfl) (Nat.le_of_ble_eq_true rfl) rfl ?_; intro V6 r6 g6)
  have z6 := Lib.hid (z5.out.only g6.out (by have := N3.out; omega))
  have G6 := Lib.hid (only_bel G5.out g6.out (Nat.le_refl _))
  have SV : Hid (MB w3.heap.size V6 (.slice p' 4096 k') 4096 (ptB f a (winL l q.n x) 16)) := own_keep SV.out (Nat.lt_trans N3.out N5.out) g6.out
  have OK' : Hid (DV.Ok { q with vm := .slice p' 4096 k' }) := ⟨OK.out.l, rfl⟩
  obtain ⟨x0, x1, x2, x3, x4⟩ := r6.out.all
  clear g6 r5 z5 G5 HVL HVM
  go_wp2_with (refine d_whole rfl (.tmp 4) (.tmp 29) rfl z dzero { q with vm := .slice p' 4096 k' } rfl rfl z6.out OK'.out ?_; intro V7 r7 g7)
  have G7 := Lib.hid (only_bel G6.out g7.out (Nat.le_of_lt N3.out))
  have SV : Hid (MB w.heap.size V7 (.slice p' 4096 k') 4096 (ptB f a (winL l q.n x) 16)) := own_less (own_keep SV.out N5.out g7.out) (Nat.le_of_lt (Nat.lt_trans N3.out N5.out))
  exact d_ret2 rfl rfl r7.out rfl ⟨_, _, rfl, SV.out, G7.out⟩
theorem lat_keep {B : Nat} {w w' : World} {s : Value} {l : List Ent} {z : Nat} (h : LAtB B w s l) (hz : z < B) (g : w.grownBy w' (some z)) : LAtB B w' s l :=
  World.ownsRow.kept h g (.inr fun e => by have := (World.ownsRow.lt h z e).1; omega)
set_option maxRecDepth 100000 in
set_option maxHeartbeats 4000000 in
theorem Loaded_at (q : DV) (x : Int) (p pm : Option Addr) (m k mk : Nat) (l : List Ent) (f : Nat → Int) (a : Nat) (w : World) (hvl : q.vl = .slice p m k) (hvm : q.vm = .slice pm 4096 mk) (hn : 2 ≤ q.n) (hn' : q.n ≤ 32) (h0 : 0 ≤ x) (h1 : x < q.n) (hl : l.length ≤ 800) (hL : LAt w (.slice p m k) l)
    (hM : Sl .u8 w (.slice pm 4096 mk) 4096 f) (hf : Bytes f) (ha : atL l (place q.n x 0 14) = a) (hs : spE (4096 : Nat) a 16 = 0) :
    Calls Tryz.prog 88 #[.agg (drow q), .int .i64 x] w fun e w' => ∃ p' m' k', e = .returned (.tuple #[.agg (drow { q with vl := .slice p' m' k' }), .bool true]) ∧ LAtB w.heap.size w' (.slice p' m' k') (l ++ F3.entF (x.toNat * 16) (M5.wdB f a) 16) ∧ Below w.heap.size w w' := by
  have HA := Lib.hid ha
  have HS := Lib.hid hs
  have HL := Lib.hid hL
  have HM := Lib.hid hM
  have HB := Lib.hid hf
  have OK : Hid q.Ok := ⟨by rw [hvl]; rfl, by rw [hvm]; rfl⟩
  have HF : Hid (∀ W : World, Below w.heap.size w W → Calls Tryz.prog 139 #[.agg (drow q), .int .i64 x] W fun e w' => e = .returned (.int .u32 (a : Int)) ∧ Below W.heap.size W w') := fun W g => by
    have := Frame_at q x p m k l W hvl hn hn' h0 h1 (by omega) (hL.bel g)
    rw [ha] at this
    exact this
  clear ha hs hL hM hf
  go_enter Tryz.func88, Tryz.ntmps88
  go_upto_region 1 with (first
    | (refine d_box rfl _ rfl (some 2) rfl q rfl ?_; intro V1 r1 b1 s1)
    | (refine d_alloc rfl (some 4) rfl (by kernel_rfl) ?_; intro V2 r2 b2 s2))
  have r3 := Lib.hid (r1.out.bel b2)
  have G3 := Lib.hid (bel_trans b1 b2)
  have N3 : Hid (w.heap.size < V1.heap.size) := s1
  have N4 : Hid (V1.heap.size < V2.heap.size) := s2
  clear r1 b1 s1 b2 s2
  obtain ⟨x0, x1, x2, x3, x4⟩ := r3.out.all
  rw [hvl] at x1
  rw [hvm] at x2
  have HVL := Lib.hid hvl
  have HVM := Lib.hid hvm
  clear hvl hvm
  generalize V1.heap.size = z at r2 N3 N4 ⊢
  go_wp2_with fail
  have GD : Below V2.heap.size V2 V2.drew := Below.drew (Below.refl _ _)
  have HD : Hid (∀ W, Below V2.heap.size V2 W → W.cell? ⟨w.heap.size, 0, none⟩ = some (.int .i64 q.n) ∧ W.cell? ⟨w.heap.size, 1, none⟩ = some (.slice p m k) ∧ W.cell? ⟨w.heap.size, 2, none⟩ = some (.slice pm 4096 mk) ∧ W.cell? ⟨w.heap.size, 3, none⟩ = some (.int .i64 q.c) ∧ W.cell? ⟨w.heap.size, 4, none⟩ = some (.int .i64 q.v)) := fun W g => ⟨bel_cell g x0, bel_cell g x1, bel_cell g x2, bel_cell g x3, bel_cell g x4⟩
  have DD := HD.out _ GD
  have CP : Hid (∀ W, Below V2.heap.size V2 W → Calls Tryz.prog 71 #[.slice pm 4096 mk, .int .u32 (a : Int), .int .i64 16] W fun e w' => ∃ s', e = .returned (.tuple #[s', .int .i64 0]) ∧ w'.ownsRow W.heap.size 22 1 s' 16 (bsL .u32 (M5.wdB f a) 16) ∧ Below W.heap.size W w') := fun W g => M5.rwords_yes (.slice pm 4096 mk) 4096 16 f a W (by decide) (HM.out.bel (bel_trans G3.out g)) HB.out HS.out
  clear x0 x1 x2 x3 x4
  go_region_held3 (fun W => W.cell? ⟨w.heap.size, 0, none⟩ = some (.int .i64 q.n) ∧ W.cell? ⟨w.heap.size, 1, none⟩ = some (.slice p m k) ∧ W.cell? ⟨w.heap.size, 2, none⟩ = some (.slice pm 4096 mk) ∧ W.cell? ⟨w.heap.size, 3, none⟩ = some (.int .i64 q.c) ∧ W.cell? ⟨w.heap.size, 4, none⟩ = some (.int .i64 q.v))
    (first
      | exact DD
      | exact DF
      | exact DP)
    (first
      | (go_at_call 139; have C := HF.out _ (bel_trans G3.out GD); unfold drow at C; rw [HVL.out, HVM.out] at C; refine C.mono ?_; rintro e WF ⟨rfl, gf⟩; have GF := bel_trans GD gf; have DF := HD.out _ GF; clear gf C)
      | (go_at_call 71; refine (CP.out _ ?_).mono ?_; exact GF; rintro e WP ⟨sv, rfl, SV, gp⟩; obtain ⟨gg, kk, rfl, _⟩ := own_form SV (by decide); have GP := bel_trans GF gp; have DP := HD.out _ GP; clear gp))
  have SV := Lib.hid SV
  have r5 := Lib.hid (r3.out.bel GP)
  have z5 := Lib.hid (r2.out.bel GP)
  have G5 := Lib.hid (bel_trans G3.out GP)
  have N5 : Hid (z < WP.heap.size) := Nat.lt_of_lt_of_le N4.out GP.size
  clear GD HD DD CP GF DF GP DP r3 r2 G3 N4
  obtain ⟨x0, x1, x2, x3, x4⟩ := r5.out.all
  rw [HVL.out] at x1
  go_wp2_with fail
  refine (F3.refPut_at q.n x p m k gg kk l (M5.wdB f a) WP hn hn' h0 h1 hl (HL.out.bel G5.out) (fun i hi => by
    obtain ⟨pq, cq, e, hc⟩ := own_sl SV.out
    obtain ⟨b, o, e2, hcc⟩ := hc (by decide)
    simp only [Value.slice.injEq] at e
    rw [e2] at e
    simp only [Option.some.injEq, Addr.mk.injEq] at e
    obtain ⟨⟨rfl, rfl, _⟩, _⟩ := e
    have := hcc i hi
    rwa [Nat.zero_add] at this)).mono ?_; rintro e w6 ⟨s', rfl, hL', g6⟩
  obtain ⟨p', m', k', rfl⟩ := F3.LAtB.slice hL'
  have r6 := Lib.hid (r5.out.bel g6)
  have z6 := Lib.hid (z5.out.bel g6)
  have G6 := Lib.hid (bel_trans G5.out g6)
  have L6 := Lib.hid hL'
  clear g6 hL' r5 z5 G5 SV x0 x1 x2 x3 x4
  go_upto_region 5 with (refine d_store rfl 35 (.tmp 28) (.tmp 26) rfl q { q with vl := .slice p' m' k' } w.heap.size 0 rfl [.int .i64 q.n, .slice p' m' k'] rfl r6.out (by kernel_rfl) (by intro v hv; simp at hv; rcases hv with rfl | rfl <;> rfl) (Nat.le_of_ble_eq_true rfl) rfl ?_; intro V7 r7 g7)
  have z7 := Lib.hid (z6.out.only g7.out (by have := N3.out; omega))
  have G7 := Lib.hid (only_bel G6.out g7.out (Nat.le_refl _))
  have L7 := Lib.hid (lat_keep L6.out (Nat.lt_trans N3.out N5.out) g7.out)
  have OK' : Hid (DV.Ok { q with vl := .slice p' m' k' }) := ⟨rfl, OK.out.m⟩
  obtain ⟨x0, x1, x2, x3, x4⟩ := r7.out.all
  clear g7 r6 z6 G6 L6 HVL HVM
  go_wp2_with (refine d_whole rfl (.tmp 4) (.tmp 29) rfl z dzero { q with vl := .slice p' m' k' } rfl rfl z7.out OK'.out ?_; intro V8 r8 g8)
  have G8 := Lib.hid (only_bel G7.out g8.out (Nat.le_of_lt N3.out))
  have L8 := Lib.hid (F3.LAtB.less (lat_keep L7.out N5.out g8.out) (by have := N3.out; have := N5.out; omega : w.heap.size ≤ WP.heap.size))
  exact d_ret2 rfl rfl r8.out rfl ⟨_, _, _, rfl, L8.out, G8.out⟩
set_option maxRecDepth 100000 in
set_option maxHeartbeats 4000000 in
theorem Save_at (q : DV) (tw la : Int) (p pm : Option Addr) (m k mk : Nat) (l : List Ent) (f : Nat → Int) (a : Nat) (w : World) (hvl : q.vl = .slice p m k) (hvm : q.vm = .slice pm 4096 mk) (hn : 2 ≤ q.n) (hn' : q.n ≤ 32) (h0 : 0 ≤ q.c) (h1 : q.c < q.n) (hto : (q.c + (q.n - 1)) % q.n = tw) (hla : (tw + (q.n - 1)) % q.n = la) (hl : l.length ≤ 800) (hL : LAt w (.slice p m k) l)
    (hM : Sl .u8 w (.slice pm 4096 mk) 4096 f) (hw : ∀ i, i < 16 → 0 ≤ winL l q.n la i ∧ winL l q.n la i < 4294967296) (ha : atL l (place q.n la 0 14) = a) (hs : spE (4096 : Nat) a 16 = 0) :
    Calls Tryz.prog 31 #[.agg (drow q)] w fun e w' => ∃ p' k', e = .returned (.tuple #[.agg (drow { q with vm := .slice p' 4096 k', v := la, c := tw }), .bool true]) ∧ MB w.heap.size w' (.slice p' 4096 k') 4096 (ptB f a (winL l q.n la) 16) ∧ Below w.heap.size w w' := by
  have t0 : 0 ≤ tw := by rw [← hto]; exact Int.emod_nonneg _ (by omega)
  have t1 : tw < q.n := by rw [← hto]; exact Int.emod_lt_of_pos _ (by omega)
  have l0 : 0 ≤ la := by rw [← hla]; exact Int.emod_nonneg _ (by omega)
  have l1 : la < q.n := by rw [← hla]; exact Int.emod_lt_of_pos _ (by omega)
  have OK : Hid q.Ok := ⟨by rw [hvl]; rfl, by rw [hvm]; rfl⟩
  have HF := Lib.hid (fun (W : World) (g : Below w.heap.size w W) => Stored_at q la p pm m k mk l f a W hvl hvm hn hn' l0 l1 (by omega) (hL.bel g) (hM.bel g) hw ha hs)
  have TO := Lib.hid hto
  have LA := Lib.hid hla
  have HL := Lib.hid hL
  have HM := Lib.hid hM
  clear hvl hvm hL hM ha hs hto hla
  go_enter Tryz.func31, Tryz.ntmps31
  go_upto_region 1 with (first
    | (refine d_box rfl _ rfl (some 1) rfl q rfl ?_; intro V1 r1 b1 s1)
    | (refine d_alloc rfl (some 2) rfl (by kernel_rfl) ?_; intro V2 r2 b2 s2))
  have r3 := Lib.hid (r1.out.bel b2)
  have G3 := Lib.hid (bel_trans b1 b2)
  have N3 : Hid (w.heap.size < V1.heap.size) := s1
  have N4 : Hid (V1.heap.size < V2.heap.size) := s2
  clear r1 b1 s1 b2 s2
  obtain ⟨x0, x1, x2, x3, x4⟩ := r3.out.all
  generalize V1.heap.size = z at r2 N3 N4 ⊢
  go_wp2_with fail
  have C := P4.rAhead_yes q.c q.n V2 hn hn' h0 h1
  rw [TO.out] at C
  refine C.mono ?_; rintro e w4 ⟨rfl, rfl⟩
  clear C
  go_wp2_with fail
  have C := P4.rAhead_yes tw q.n V2 hn hn' t0 t1
  rw [LA.out] at C
  refine C.mono ?_; rintro e w5 ⟨rfl, rfl⟩
  clear C
  go_wp2_with fail
  refine (HF.out _ G3.out).mono ?_; rintro e w6 ⟨p', k', rfl, SV, g6⟩
  have SV : Hid (MB V2.heap.size w6 (.slice p' 4096 k') 4096 (ptB f a (winL l q.n la) 16)) := SV
  have N4' := Lib.hid N4.out
  have r6 := Lib.hid (r3.out.bel g6)
  have z6 := Lib.hid (r2.out.bel g6)
  have G6 := Lib.hid (bel_trans G3.out g6)
  have N6 : Hid (z < w6.heap.size) := Nat.lt_of_lt_of_le N4.out g6.size
  clear g6 r3 r2 G3 N4 x0 x1 x2 x3 x4 HF
  have OK' : Hid (DV.Ok { q with vm := .slice p' 4096 k' }) := ⟨OK.out.l, rfl⟩
  go_upto_region 4 with (refine d_whole rfl (.tmp 1) (.tmp 30) rfl w.heap.size q { q with vm := .slice p' 4096 k' } rfl rfl r6.out OK'.out ?_; intro V7 r7 g7)
  have z7 := Lib.hid (z6.out.only g7.out (by have := N3.out; omega))
  have G7 := Lib.hid (only_bel G6.out g7.out (Nat.le_refl _))
  have SV : Hid (MB V2.heap.size V7 (.slice p' 4096 k') 4096 (ptB f a (winL l q.n la) 16)) := own_keep SV.out (Nat.lt_trans N3.out N4'.out) g7.out
  clear g7 r6 z6 G6
  go_upto_region 5 with (refine d_store rfl 3 (.tmp 33) (.tmp 32) rfl { q with vm := .slice p' 4096 k' } { q with vm := .slice p' 4096 k', v := la } w.heap.size 4 rfl [.int .i64 la] rfl r7.out (by kernel_rfl) (one_one rfl) (Nat.le_of_ble_eq_true rfl) rfl ?_; intro V8 r8 g8)
  have z8 := Lib.hid (z7.out.only g8.out (by have := N3.out; omega))
  have G8 := Lib.hid (only_bel G7.out g8.out (Nat.le_refl _))
  have SV : Hid (MB V2.heap.size V8 (.slice p' 4096 k') 4096 (ptB f a (winL l q.n la) 16)) := own_keep SV.out (Nat.lt_trans N3.out N4'.out) g8.out
  clear g8 r7 z7 G7
  go_upto_region 6 with (refine d_store rfl 3 (.tmp 35) (.tmp 34) rfl { q with vm := .slice p' 4096 k', v := la } { q with vm := .slice p' 4096 k', v := la, c := tw } w.heap.size 3 rfl [.int .i64 tw] rfl r8.out (by kernel_rfl) (one_one rfl) (Nat.le_of_ble_eq_true rfl) rfl ?_; intro V9 r9 g9)
  have z9 := Lib.hid (z8.out.only g9.out (by have := N3.out; omega))
  have G9 := Lib.hid (only_bel G8.out g9.out (Nat.le_refl _))
  have SV : Hid (MB V2.heap.size V9 (.slice p' 4096 k') 4096 (ptB f a (winL l q.n la) 16)) := own_keep SV.out (Nat.lt_trans N3.out N4'.out) g9.out
  obtain ⟨x0, x1, x2, x3, x4⟩ := r9.out.all
  clear g9 r8 z8 G8
  go_wp2_with (refine d_whole rfl (.tmp 2) (.tmp 36) rfl z dzero { q with vm := .slice p' 4096 k', v := la, c := tw } rfl rfl z9.out ⟨OK'.out.l, OK'.out.m⟩ ?_; intro V10 r10 g10)
  have G10 := Lib.hid (only_bel G9.out g10.out (Nat.le_of_lt N3.out))
  have SV : Hid (MB w.heap.size V10 (.slice p' 4096 k') 4096 (ptB f a (winL l q.n la) 16)) := own_less (own_keep SV.out N4'.out g10.out) (Nat.le_of_lt (Nat.lt_trans N3.out N4'.out))
  exact d_ret2 rfl rfl r10.out rfl ⟨_, _, rfl, SV.out, G10.out⟩
set_option maxRecDepth 100000 in
set_option maxHeartbeats 4000000 in
theorem Restore_at (q : DV) (tw la : Int) (p pm : Option Addr) (m k mk : Nat) (l : List Ent) (f : Nat → Int) (a : Nat) (w : World) (hvl : q.vl = .slice p m k) (hvm : q.vm = .slice pm 4096 mk) (hn : 2 ≤ q.n) (hn' : q.n ≤ 32) (h0 : 0 ≤ q.c) (h1 : q.c < q.n) (hto : (q.c + 1) % q.n = tw) (hla : (tw + 1) % q.n = la) (hl : l.length ≤ 800) (hL : LAt w (.slice p m k) l)
    (hM : Sl .u8 w (.slice pm 4096 mk) 4096 f) (hf : Bytes f) (ha : atL l (place q.n tw 0 14) = a) (hs : spE (4096 : Nat) a 16 = 0) :
    Calls Tryz.prog 32 #[.agg (drow q)] w fun e w' => ∃ p' m' k', e = .returned (.tuple #[.agg (drow { q with vl := .slice p' m' k', v := la, c := tw }), .bool true]) ∧ LAtB w.heap.size w' (.slice p' m' k') (l ++ F3.entF (tw.toNat * 16) (M5.wdB f a) 16) ∧ Below w.heap.size w w' := by
  have t0 : 0 ≤ tw := by rw [← hto]; exact Int.emod_nonneg _ (by omega)
  have t1 : tw < q.n := by rw [← hto]; exact Int.emod_lt_of_pos _ (by omega)
  have l0 : 0 ≤ la := by rw [← hla]; exact Int.emod_nonneg _ (by omega)
  have l1 : la < q.n := by rw [← hla]; exact Int.emod_lt_of_pos _ (by omega)
  have OK : Hid q.Ok := ⟨by rw [hvl]; rfl, by rw [hvm]; rfl⟩
  have HF := Lib.hid (fun (W : World) (g : Below w.heap.size w W) => Loaded_at q tw p pm m k mk l f a W hvl hvm hn hn' t0 t1 hl (hL.bel g) (hM.bel g) hf ha hs)
  have TO := Lib.hid hto
  have LA := Lib.hid hla
  have HL := Lib.hid hL
  have HM := Lib.hid hM
  clear hvl hvm hL hM ha hs hto hla
  go_enter Tryz.func32, Tryz.ntmps32
  go_upto_region 1 with (first
    | (refine d_box rfl _ rfl (some 1) rfl q rfl ?_; intro V1 r1 b1 s1)
    | (refine d_alloc rfl (some 2) rfl (by kernel_rfl) ?_; intro V2 r2 b2 s2))
  have r3 := Lib.hid (r1.out.bel b2)
  have G3 := Lib.hid (bel_trans b1 b2)
  have N3 : Hid (w.heap.size < V1.heap.size) := s1
  have N4 : Hid (V1.heap.size < V2.heap.size) := s2
  clear r1 b1 s1 b2 s2
  obtain ⟨x0, x1, x2, x3, x4⟩ := r3.out.all
  generalize V1.heap.size = z at r2 N3 N4 ⊢
  go_wp2_with fail
  have C := P4.rNext_yes q.c q.n 1 V2 hn hn' h0 h1 (by decide) (by decide)
  rw [TO.out] at C
  refine C.mono ?_; rintro e w4 ⟨rfl, rfl⟩
  clear C
  go_wp2_with fail
  have C := P4.rNext_yes tw q.n 1 V2 hn hn' t0 t1 (by decide) (by decide)
  rw [LA.out] at C
  refine C.mono ?_; rintro e w5 ⟨rfl, rfl⟩
  clear C
  go_wp2_with fail
  refine (HF.out _ G3.out).mono ?_; rintro e w6 ⟨p', m', k', rfl, LV, g6⟩
  have LV := Lib.hid LV
  have N4' := Lib.hid N4.out
  have r6 := Lib.hid (r3.out.bel g6)
  have z6 := Lib.hid (r2.out.bel g6)
  have G6 := Lib.hid (bel_trans G3.out g6)
  have N6 : Hid (z < w6.heap.size) := Nat.lt_of_lt_of_le N4.out g6.size
  clear g6 r3 r2 G3 N4 x0 x1 x2 x3 x4 HF
  have OK' : Hid (DV.Ok { q with vl := .slice p' m' k' }) := ⟨rfl, OK.out.m⟩
  go_upto_region 4 with (refine d_whole rfl (.tmp 1) (.tmp 30) rfl w.heap.size q { q with vl := .slice p' m' k' } rfl rfl r6.out OK'.out ?_; intro V7 r7 g7)
  have z7 := Lib.hid (z6.out.only g7.out (by have := N3.out; omega))
  have G7 := Lib.hid (only_bel G6.out g7.out (Nat.le_refl _))
  have LV := Lib.hid (lat_keep LV.out (Nat.lt_trans N3.out N4'.out) g7.out)
  clear g7 r6 z6 G6
  go_upto_region 5 with (refine d_store rfl 3 (.tmp 33) (.tmp 32) rfl { q with vl := .slice p' m' k' } { q with vl := .slice p' m' k', v := la } w.heap.size 4 rfl [.int .i64 la] rfl r7.out (by kernel_rfl) (one_one rfl) (Nat.le_of_ble_eq_true rfl) rfl ?_; intro V8 r8 g8)
  have z8 := Lib.hid (z7.out.only g8.out (by have := N3.out; omega))
  have G8 := Lib.hid (only_bel G7.out g8.out (Nat.le_refl _))
  have LV := Lib.hid (lat_keep LV.out (Nat.lt_trans N3.out N4'.out) g8.out)
  clear g8 r7 z7 G7
  go_upto_region 6 with (refine d_store rfl 3 (.tmp 35) (.tmp 34) rfl { q with vl := .slice p' m' k', v := la } { q with vl := .slice p' m' k', v := la, c := tw } w.heap.size 3 rfl [.int .i64 tw] rfl r8.out (by kernel_rfl) (one_one rfl) (Nat.le_of_ble_eq_true rfl) rfl ?_; intro V9 r9 g9)
  have z9 := Lib.hid (z8.out.only g9.out (by have := N3.out; omega))
  have G9 := Lib.hid (only_bel G8.out g9.out (Nat.le_refl _))
  have LV := Lib.hid (lat_keep LV.out (Nat.lt_trans N3.out N4'.out) g9.out)
  obtain ⟨x0, x1, x2, x3, x4⟩ := r9.out.all
  clear g9 r8 z8 G8
  go_wp2_with (refine d_whole rfl (.tmp 2) (.tmp 36) rfl z dzero { q with vl := .slice p' m' k', v := la, c := tw } rfl rfl z9.out ⟨OK'.out.l, OK'.out.m⟩ ?_; intro V10 r10 g10)
  have G10 := Lib.hid (only_bel G9.out g10.out (Nat.le_of_lt N3.out))
  have LV := Lib.hid (F3.LAtB.less (lat_keep LV.out N4'.out g10.out) (by have := N3.out; have := N4'.out; omega : w.heap.size ≤ V2.heap.size))
  exact d_ret2 rfl rfl r10.out rfl ⟨_, _, _, rfl, LV.out, G10.out⟩
end Go.Proofs.YtlmaikbnjdmhcaaGreatDoor.W8
