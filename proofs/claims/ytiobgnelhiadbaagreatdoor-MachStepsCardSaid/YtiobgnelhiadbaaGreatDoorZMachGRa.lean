/- The document's machine (layer 6) as a row of cells; what on, stopped come to. The document's machine (layer 6): what with, get, set, trap, window come to. -/
import Derived.Test.YtiobgnelhiadbaaGreatDoorZBaseG
import Derived.Great.BuildSlice
import Derived.Great.Ranges
import Derived.Great.Walk
import Derived.Laws.Tables
import Derived.Laws.Rows
import Derived.Test.YtiobgnelhiadbaaGreatDoorZMachGA
import Derived.Test.YtiobgnelhiadbaaGreatDoorZMemG
import Derived.Test.YtiobgnelhiadbaaGreatDoorZFileGR
import Derived.Test.YtiobgnelhiadbaaGreatDoorZPsrGR
namespace Go.Proofs.YtiobgnelhiadbaaGreatDoor.K6
open Go.RowKit
set_option linter.unusedVariables false
/-- What a document's machine is made of, as values. -/
structure RV where
  nw : Int
  fn : Int
  fs : Value
  ms : Value
  pc : Int
  cwp : Int
  pil : Int
  bank : Int
  fl : Int
  wim : Int
  tp : Value
  ts : Value
  ch : Value
  ot : Value
  sk : Int
  sv : Int
def rrow (q : RV) : Array Value := #[.int .i64 q.nw, .int .i64 q.fn, q.fs, q.ms, .int .u32 q.pc, .int .u8 q.cwp, .int .u8 q.pil, .int .u8 q.bank, .int .u8 q.fl, .int .u32 q.wim, q.tp, q.ts, q.ch, q.ot, .int .u8 q.sk, .int .u32 q.sv]
def rzero : RV := ⟨0, 0, .slice none 0 0, .slice none 0 0, 0, 0, 0, 0, 0, 0, .slice none 0 0, .slice none 0 0, .slice none 0 0, .slice none 0 0, 0, 0⟩
/-- The slices are slices. -/
structure RV.Ok (q : RV) : Prop where
  fs : q.fs.oneCell' = true
  ms : q.ms.oneCell' = true
  tp : q.tp.oneCell' = true
  ts : q.ts.oneCell' = true
  ch : q.ch.oneCell' = true
  ot : q.ot.oneCell' = true
theorem rrow_size (q : RV) : (rrow q).size = 16 := rfl
theorem rrow_info (q : RV) : (Tryz.prog.info? 39).map (·.size) = some (rrow q).size := by rw [rrow_size]; kernel_rfl
theorem rrow_under : Tryz.prog.underlying 39 = some (Tryz.prog.underlying 39 |>.get (by kernel_rfl)) := by simp
theorem rrow_one {q : RV} (h : q.Ok) : (rrow q).all (·.oneCell') = true := by
  obtain ⟨h1, h2, h3, h4, h5, h6⟩ := h
  rw [Array.all_eq_true_iff_forall_mem]
  intro v hv
  simp only [rrow, List.mem_toArray, List.mem_cons, List.not_mem_nil, or_false] at hv
  rcases hv with rfl | rfl | rfl | rfl | rfl | rfl | rfl | rfl | rfl | rfl | rfl | rfl | rfl | rfl | rfl | rfl <;> first | rfl | assumption
/-- In world w the block b holds a document's machine. -/
def RowQ (w : World) (b : Nat) (q : RV) : Prop := w.heap[b]? = some (.cells (rrow q) 39 (0, 0))
theorem RowQ.frozen {w : World} {b : Nat} {q : RV} (h : RowQ w b q) (j : Nat) : w.frozen? ⟨b, j, none⟩ = false := row_frozen h
theorem RowQ.lt {w : World} {b : Nat} {q : RV} (h : RowQ w b q) : b < w.heap.size := block_lt_of_cell (a := ⟨b, 0, none⟩) (row_cell h (v := .int .i64 q.nw) rfl)
theorem RowQ.bel {w w' : World} {b : Nat} {q : RV} (h : RowQ w b q) (k : Below w.heap.size w w') : RowQ w' b q := bel_heap k h
theorem RowQ.only {w w' : World} {b x : Nat} {q : RV} (h : RowQ w b q) (k : w.grownBy w' (some x)) (hx : b ≠ x) : RowQ w' b q := only_heap k hx h
/-- All cells, for the walk. -/
theorem RowQ.all {w : World} {b : Nat} {q : RV} (h : RowQ w b q) :
    w.cell? ⟨b, 0, none⟩ = some (.int .i64 q.nw) ∧ w.cell? ⟨b, 1, none⟩ = some (.int .i64 q.fn) ∧ w.cell? ⟨b, 2, none⟩ = some q.fs ∧ w.cell? ⟨b, 3, none⟩ = some q.ms ∧ w.cell? ⟨b, 4, none⟩ = some (.int .u32 q.pc) ∧ w.cell? ⟨b, 5, none⟩ = some (.int .u8 q.cwp) ∧ w.cell? ⟨b, 6, none⟩ = some (.int .u8 q.pil) ∧ w.cell? ⟨b, 7, none⟩ = some (.int .u8 q.bank) ∧ w.cell? ⟨b, 8, none⟩ = some (.int .u8 q.fl) ∧ w.cell? ⟨b, 9, none⟩ = some (.int .u32 q.wim) ∧ w.cell? ⟨b, 10, none⟩ = some q.tp ∧ w.cell? ⟨b, 11, none⟩ = some q.ts ∧ w.cell? ⟨b, 12, none⟩ = some q.ch ∧ w.cell? ⟨b, 13, none⟩ = some q.ot ∧ w.cell? ⟨b, 14, none⟩ = some (.int .u8 q.sk) ∧ w.cell? ⟨b, 15, none⟩ = some (.int .u32 q.sv) :=
  ⟨row_cell h rfl, row_cell h rfl, row_cell h rfl, row_cell h rfl, row_cell h rfl, row_cell h rfl, row_cell h rfl, row_cell h rfl, row_cell h rfl, row_cell h rfl, row_cell h rfl, row_cell h rfl, row_cell h rfl, row_cell h rfl, row_cell h rfl, row_cell h rfl⟩
/-! Laws for the walk: each hands on a world that is a name, and what is known of it. -/
theorem q_box {ops : Array Oper} {rest : List Oper} {o : Oper} {a : Act} {w : World} {Q : Exit → Act → World → Prop} (hgd : o.guard = none) (x : Operand) (ho : o.op = .box 39 x) (d : Option Tmp) (hd : o.dst = d) (q : RV) (hx : a.eval x = .agg (rrow q))
    (h : ∀ V, Hid (RowQ V w.heap.size q) → Below w.heap.size w V → Hid (w.heap.size < V.heap.size) → wpList Tryz.prog ops Q rest (a.put d (.pointer (some ⟨w.heap.size, 0, none⟩))) V) : wpList Tryz.prog ops Q (o :: rest) a w :=
  Great.wpList_boxTo hgd 39 x ho d hd w.heap.size rfl (rrow q) (by rw [hx]; rfl) (h _ (heap_alloc_last _ _) ((Below.refl _ _).alloc (Nat.le_refl _) _) (show _ < _ by simp))
theorem q_alloc {ops : Array Oper} {rest : List Oper} {o : Oper} {a : Act} {w : World} {Q : Exit → Act → World → Prop} (hgd : o.guard = none) (d : Option Tmp) (hd : o.dst = d)
    (hrun : (execOp a.eval o).run Tryz.prog w = .ok (.value (.pointer (some ⟨w.heap.size, 0, none⟩))) (w.alloc (.cells (rrow rzero) 39)))
    (h : ∀ V, Hid (RowQ V w.heap.size rzero) → Below w.heap.size w V → Hid (w.heap.size < V.heap.size) → wpList Tryz.prog ops Q rest (a.put d (.pointer (some ⟨w.heap.size, 0, none⟩))) V) : wpList Tryz.prog ops Q (o :: rest) a w :=
  Great.wpList_allocTo hgd d hd _ _ hrun (h _ (heap_alloc_last _ _) ((Below.refl _ _).alloc (Nat.le_refl _) _) (show _ < _ by simp))
theorem q_store {ops : Array Oper} {rest : List Oper} {o : Oper} {a : Act} {w : World} {Q : Exit → Act → World → Prop} (hgd : o.guard = none) (ty : TypeId) (x y : Operand) (ho : o.op = .store ty x y) (q q' : RV) (b j : Nat) (hx : a.eval x = .pointer (some ⟨b, j, none⟩)) (cs : List Value)
    (hy : (a.eval y).cells = cs.toArray) (hr : RowQ w b q) (hi : (Tryz.prog.info? ty).map (·.size) = some cs.length) (h1 : ∀ v ∈ cs, v.oneCell' = true) (hj : j + cs.length ≤ 16)
    (hq : (rrow q).toList.take j ++ cs ++ (rrow q).toList.drop (j + cs.length) = (rrow q').toList)
    (h : ∀ V, Hid (RowQ V b q') → w.grownBy V (some b) → wpList Tryz.prog ops Q rest (a.put o.dst undef) V) : wpList Tryz.prog ops Q (o :: rest) a w := by
  refine wpList_plain hgd fun K hK => ?_
  have hst := run_storeCells_at (P := Tryz.prog) b j 39 cs 0 (rrow q) w hr (by rw [rrow_size]; omega) h1
  simp only [Nat.add_zero] at hst
  rw [hq] at hst
  cases hz : Tryz.prog.info? ty with
  | none => simp [hz] at hi
  | some i =>
    have hs : i.size = cs.length := by simpa [hz] using hi
    have hsv : (storeVar ty ⟨b, j, none⟩ (a.eval y)).run Tryz.prog w = .ok () (w.setRow b (rrow q')) := by
      simp [storeVar, sizeOf, typeInfo, hz, hy, hs]
      simpa using hst
    unfold Oper.wp execOp
    simp only [ho, hx, Instr.storeAt, Instr.sureAddr, Sem.run_bind, Sem.run_pure, Result.andThen_ok, hsv]
    exact hK _ _ (h _ (setRow_heap _ _ _ _ _ _ hr) (only_row ⟨rfl, rfl, rfl, Nat.le_refl _, fun _ _ _ => rfl⟩ rfl))
theorem rv_one (k : IntKind) (x : Int) : ∀ v ∈ [Value.int k x], v.oneCell' = true := by
  intro v hv
  simp at hv
  subst hv
  rfl
theorem rrow_list {q : RV} (h : q.Ok) : ∀ v ∈ (rrow q).toList, v.oneCell' = true := fun v hv => Array.all_eq_true_iff_forall_mem.1 (rrow_one h) v (by simpa using hv)
/-- A machine that is a parameter is laid in a block of its own, and the result in another. -/
theorem q_start {ops : Array Oper} {rest : List Oper} {o o' : Oper} {a : Act} {w : World} {Q : Exit → Act → World → Prop} (hgd : o.guard = none) (hgd' : o'.guard = none) (x : Operand) (ho : o.op = .box 39 x) (d d' : Option Tmp) (hd : o.dst = d) (hd' : o'.dst = d') (q : RV) (hx : a.eval x = .agg (rrow q))
    (hrun : ∀ W : World, (execOp (a.put d (.pointer (some ⟨w.heap.size, 0, none⟩))).eval o').run Tryz.prog W = .ok (.value (.pointer (some ⟨W.heap.size, 0, none⟩))) (W.alloc (.cells (rrow rzero) 39)))
    (h : ∀ V z, Hid (RowQ V w.heap.size q) → Hid (RowQ V z rzero) → Below w.heap.size w V → Hid (w.heap.size < z) → wpList Tryz.prog ops Q rest ((a.put d (.pointer (some ⟨w.heap.size, 0, none⟩))).put d' (.pointer (some ⟨z, 0, none⟩))) V) : wpList Tryz.prog ops Q (o :: o' :: rest) a w :=
  q_box hgd x ho d hd q hx fun V1 r1 b1 s1 => q_alloc hgd' d' hd' (hrun V1) fun V2 z2 b2 s2 => h V2 V1.heap.size (r1.out.bel b2) z2 (bel_trans b1 b2) s1
set_option maxRecDepth 100000 in
/-- .. and at the end its cells are the result's. -/
theorem q_tail {ops : Array Oper} {rest : List Oper} {o o' : Oper} {a : Act} {w w0 : World} {Q : Exit → Act → World → Prop} (hgd : o.guard = none) (hgd' : o'.guard = none) (x y : Operand) (t : Tmp) (ho : o.op = .load 39 x) (ho' : o'.op = .store 39 y (.tmp t)) (hd : o.dst = some t)
    (b z : Nat) (q q0 : RV) (hx : a.eval x = .pointer (some ⟨b, 0, none⟩)) (hy : (a.put (some t) (.agg (rrow q))).eval y = .pointer (some ⟨z, 0, none⟩)) (ht : (a.put (some t) (.agg (rrow q))).eval (.tmp t) = .agg (rrow q)) (hr : RowQ w b q) (hz : RowQ w z q0) (hq : q.Ok) (hb : Below w0.heap.size w0 w) (hlt : w0.heap.size ≤ z)
    (h : ∀ V, Hid (RowQ V z q) → Hid (Below w0.heap.size w0 V) → Hid (w.grownBy V (some z)) → wpList Tryz.prog ops Q rest ((a.put (some t) (.agg (rrow q))).put o'.dst undef) V) : wpList Tryz.prog ops Q (o :: o' :: rest) a w := by
  refine wpList_load_row hgd 39 x ho b hx 39 (rrow q) (0, 0) _ hr rrow_under rfl (rrow_info _) ?_
  rw [hd]
  exact q_store hgd' _ y (.tmp t) ho' q0 q z 0 hy (rrow q).toList (by rw [ht]; rfl) hz (by kernel_rfl) (rrow_list hq) (Nat.le_of_ble_eq_true rfl) rfl fun V r g => h V r (only_bel hb g hlt) g
set_option maxRecDepth 100000 in
/-- A machine is stored whole. -/
theorem q_whole {ops : Array Oper} {rest : List Oper} {o : Oper} {a : Act} {w : World} {Q : Exit → Act → World → Prop} (hgd : o.guard = none) (x y : Operand) (ho : o.op = .store 39 x y) (z : Nat) (q0 q : RV) (hx : a.eval x = .pointer (some ⟨z, 0, none⟩)) (hy : a.eval y = .agg (rrow q)) (hz : RowQ w z q0) (hq : q.Ok)
    (h : ∀ V, Hid (RowQ V z q) → Hid (w.grownBy V (some z)) → wpList Tryz.prog ops Q rest (a.put o.dst undef) V) : wpList Tryz.prog ops Q (o :: rest) a w :=
  q_store hgd _ x y ho q0 q z 0 hx (rrow q).toList (by rw [hy]; rfl) hz (by kernel_rfl) (rrow_list hq) (Nat.le_of_ble_eq_true rfl) rfl fun V r g => h V r g
set_option maxRecDepth 100000 in
/-- A machine is loaded whole. -/
theorem q_load {ops : Array Oper} {rest : List Oper} {o : Oper} {a : Act} {w : World} {Q : Exit → Act → World → Prop} (hgd : o.guard = none) (x : Operand) (ho : o.op = .load 39 x) (d : Option Tmp) (hd : o.dst = d) (b : Nat) (q : RV) (hx : a.eval x = .pointer (some ⟨b, 0, none⟩)) (hr : RowQ w b q)
    (h : wpList Tryz.prog ops Q rest (a.put d (.agg (rrow q))) w) : wpList Tryz.prog ops Q (o :: rest) a w :=
  wpList_load_row hgd 39 x ho b hx 39 (rrow q) (0, 0) _ hr rrow_under rfl (rrow_info _) (hd ▸ h)
/-- An instruction in a block of its own. -/
def irow (o d s t : Int) (b : Bool) (n : Int) : Array Value := #[.int .u8 o, .int .u8 d, .int .u8 s, .int .u8 t, .bool b, .int .i32 n]
def InstQ (w : World) (c : Nat) (o d s t : Int) (b : Bool) (n : Int) : Prop := w.heap[c]? = some (.cells (irow o d s t b n) 88 (0, 0))
theorem InstQ.bel {w w' : World} {c : Nat} {o d s t : Int} {b : Bool} {n : Int} (h : InstQ w c o d s t b n) (k : Below w.heap.size w w') : InstQ w' c o d s t b n := bel_heap k h
theorem InstQ.only {w w' : World} {c z : Nat} {o d s t : Int} {b : Bool} {n : Int} {q : RV} (h : InstQ w c o d s t b n) (hz : RowQ w z q) (g : w.grownBy w' (some z)) : InstQ w' c o d s t b n :=
  only_heap g (by rintro rfl; unfold InstQ at h; unfold RowQ at hz; rw [hz] at h; simp at h) h
theorem InstQ.all {w : World} {c : Nat} {o d s t : Int} {b : Bool} {n : Int} (h : InstQ w c o d s t b n) :
    w.cell? ⟨c, 0, none⟩ = some (.int .u8 o) ∧ w.cell? ⟨c, 1, none⟩ = some (.int .u8 d) ∧ w.cell? ⟨c, 2, none⟩ = some (.int .u8 s) ∧ w.cell? ⟨c, 3, none⟩ = some (.int .u8 t) ∧ w.cell? ⟨c, 4, none⟩ = some (.bool b) ∧ w.cell? ⟨c, 5, none⟩ = some (.int .i32 n) :=
  ⟨row_cell h rfl, row_cell h rfl, row_cell h rfl, row_cell h rfl, row_cell h rfl, row_cell h rfl⟩
set_option maxRecDepth 100000 in
/-- A machine and an instruction that are parameters, and the result's block. -/
theorem q_start3 {ops : Array Oper} {rest : List Oper} {o o' o'' : Oper} {a : Act} {w : World} {Q : Exit → Act → World → Prop} (hgd : o.guard = none) (hgd' : o'.guard = none) (hgd'' : o''.guard = none) (x y : Operand) (ho : o.op = .box 39 x) (ho' : o'.op = .box 88 y) (d d' d'' : Option Tmp) (hd : o.dst = d) (hd' : o'.dst = d') (hd'' : o''.dst = d'') (q : RV) (hx : a.eval x = .agg (rrow q))
    (op rd rs rt : Int) (ib : Bool) (n : Int) (hy : (a.put d (.pointer (some ⟨w.heap.size, 0, none⟩))).eval y = .agg (irow op rd rs rt ib n))
    (hrun : ∀ (W : World) (c : Nat), (execOp ((a.put d (.pointer (some ⟨w.heap.size, 0, none⟩))).put d' (.pointer (some ⟨c, 0, none⟩))).eval o'').run Tryz.prog W = .ok (.value (.pointer (some ⟨W.heap.size, 0, none⟩))) (W.alloc (.cells (rrow rzero) 39)))
    (h : ∀ V c z, Hid (RowQ V w.heap.size q) → Hid (InstQ V c op rd rs rt ib n) → Hid (RowQ V z rzero) → Below w.heap.size w V → Hid (w.heap.size < z) → wpList Tryz.prog ops Q rest (((a.put d (.pointer (some ⟨w.heap.size, 0, none⟩))).put d' (.pointer (some ⟨c, 0, none⟩))).put d'' (.pointer (some ⟨z, 0, none⟩))) V) : wpList Tryz.prog ops Q (o :: o' :: o'' :: rest) a w := by
  refine q_box hgd x ho d hd q hx fun V1 r1 b1 s1 => ?_
  refine Great.wpList_boxTo hgd' 88 y ho' d' hd' V1.heap.size rfl (irow op rd rs rt ib n) (by rw [hy]; rfl) ?_
  have b2 : Below V1.heap.size V1 (V1.alloc (.cells (irow op rd rs rt ib n) 88)) := (Below.refl _ _).alloc (Nat.le_refl _) _
  have i2 : InstQ (V1.alloc (.cells (irow op rd rs rt ib n) 88)) V1.heap.size op rd rs rt ib n := heap_alloc_last _ _
  have s2 : V1.heap.size < (V1.alloc (.cells (irow op rd rs rt ib n) 88)).heap.size := by simp
  generalize V1.alloc (.cells (irow op rd rs rt ib n) 88) = V2 at *
  exact q_alloc hgd'' d'' hd'' (hrun V2 _) fun V3 z3 b3 s3 => h V3 _ _ ((r1.out.bel b2).bel b3) (i2.bel b3) z3 (bel_trans b1 (bel_trans b2 b3)) (Nat.lt_trans s1.out s2)
set_option maxRecDepth 100000 in
/-- What a call hands back that ends so. -/
theorem q_ret {fn : Func} {R : Ending → World → Prop} {a : Act} {w : World} {z : Nat} {p : Tmp} {q : RV} (h : fn.results = #[.cell p 39]) (hp : a.tmps.getD p undef = .pointer (some ⟨z, 0, none⟩)) (hz : RowQ w z q) (hd : a.defers = []) (hR : R (.returned (.agg (rrow q))) w) : bodyPost Tryz.prog fn R .ret a w :=
  bodyPost_ret (results_cell_row h _ _ _ _ _ _ _ hp hz rrow_under rfl (rrow_info _)) hd hR
set_option maxRecDepth 100000 in
theorem on_at (q : RV) (w : World) (hq : q.Ok) : Calls Tryz.prog 78 #[.agg (rrow q)] w fun e w' => e = .returned (.agg (rrow { q with pc := (q.pc + 4) % 4294967296 })) ∧ Below w.heap.size w w' := by
  have HQ : Hid ({ q with pc := (q.pc + 4) % 4294967296 } : RV).Ok := ⟨hq.1, hq.2, hq.3, hq.4, hq.5, hq.6⟩
  clear hq
  go_enter Tryz.func78, Tryz.ntmps78
  go_wp2_with (first
    | (refine q_start rfl rfl (.tmp 0) rfl (some 1) (some 2) rfl rfl q rfl (fun W => by kernel_rfl) ?_; intro V z r1 z1 b1 s1; obtain ⟨k0, k1, k2, k3, k4, k5, k6, k7, k8, k9, k10, k11, k12, k13, k14, k15⟩ := r1.out.all)
    | (refine q_store rfl _ (.tmp 6) (.tmp 5) rfl q { q with pc := (q.pc + 4) % 4294967296 } _ _ rfl _ rfl r1.out (by kernel_rfl) (rv_one _ _) (Nat.le_of_ble_eq_true rfl) rfl ?_; intro V2 r2 g2; have z2 := Lib.hid (z1.out.only g2 (by have := s1.out; omega)); have b2 := only_bel b1 g2 (Nat.le_refl _))
    | (refine q_tail rfl rfl (.tmp 1) (.tmp 2) 7 rfl rfl rfl _ _ _ _ rfl rfl rfl r2.out z2.out HQ.out b2 (Nat.le_of_lt s1.out) ?_; intro V3 z3 b3 y3))
  exact q_ret rfl rfl z3.out rfl ⟨rfl, b3.out⟩
set_option maxRecDepth 100000 in
theorem stopped_at (q : RV) (k v : Int) (w : World) (hq : q.Ok) : Calls Tryz.prog 75 #[.agg (rrow q), .int .u8 k, .int .u32 v] w fun e w' => e = .returned (.agg (rrow { q with sk := k, sv := v })) ∧ Below w.heap.size w w' := by
  have HQ : Hid ({ q with sk := k, sv := v } : RV).Ok := ⟨hq.1, hq.2, hq.3, hq.4, hq.5, hq.6⟩
  clear hq
  go_enter Tryz.func75, Tryz.ntmps75
  go_wp2_with (first
    | (refine q_start rfl rfl (.tmp 0) rfl (some 3) (some 6) rfl rfl q rfl (fun W => by kernel_rfl) ?_; intro V z r1 z1 b1 s1)
    | (refine q_store rfl _ (.tmp 10) (.tmp 9) rfl q { q with sk := k, sv := v } _ _ rfl [.int .u8 k, .int .u32 v] rfl r1.out (by kernel_rfl) (by intro u hu; simp at hu; rcases hu with rfl | rfl <;> rfl) (Nat.le_of_ble_eq_true rfl) rfl ?_; intro V2 r2 g2; have z2 := Lib.hid (z1.out.only g2 (by have := s1.out; omega)); have b2 := only_bel b1 g2 (Nat.le_refl _))
    | (refine q_tail rfl rfl (.tmp 3) (.tmp 6) 11 rfl rfl rfl _ _ _ _ rfl rfl rfl r2.out z2.out HQ.out b2 (Nat.le_of_lt s1.out) ?_; intro V3 z3 b3 y3))
  exact q_ret rfl rfl z3.out rfl ⟨rfl, b3.out⟩
end Go.Proofs.YtiobgnelhiadbaaGreatDoor.K6
namespace Go.Proofs.YtiobgnelhiadbaaGreatDoor.K6
open Go.RowKit
set_option linter.unusedVariables false
theorem u32_under : Tryz.prog.underlying 25 = some (.slice 22) := by kernel_rfl
theorem u32_parts : (Tryz.prog.info? 22).map (fun i => (i.zero, i.size, i.bytes)) = some (some (.int .u32 0), 1, 4) := by kernel_rfl
/-- A slice of numbers, in a block of elements of type t. -/
structure SlT (k : IntKind) (t : TypeId) (w : World) (s : Value) (n : Nat) (f : Nat → Int) : Prop where
  sl : Sl k w s n f
  ty : ∀ b o m c, s = .slice (some ⟨b, o, none⟩) m c → 0 < m → ∃ A fr, w.heap[b]? = some (.cells A t fr)
  cap : ∀ p m c, s = .slice p m c → m ≤ c
theorem SlT.bel {k : IntKind} {t : TypeId} {w w' : World} {s : Value} {n : Nat} {f : Nat → Int} (h : SlT k t w s n f) (g : Below w.heap.size w w') : SlT k t w' s n f :=
  ⟨h.sl.bel g, fun b o m c e hm => by obtain ⟨A, fr, hb⟩ := h.ty b o m c e hm; exact ⟨A, fr, bel_heap g hb⟩, h.cap⟩
theorem SlT.only {k : IntKind} {t : TypeId} {w w' : World} {s : Value} {n z : Nat} {f : Nat → Int} {q : RV} (h : SlT k t w s n f) (hz : RowQ w z q) (g : w.grownBy w' (some z)) (ht : t ≠ 39) : SlT k t w' s n f := by
  obtain ⟨⟨p, c, rfl, hp⟩, hty, hcap⟩ := h
  have hne : ∀ b o, p = some ⟨b, o, none⟩ → 0 < n → b ≠ z := by
    rintro b o rfl hn rfl
    obtain ⟨A, fr, hb⟩ := hty _ _ _ _ rfl hn
    unfold RowQ at hz
    rw [hz] at hb
    simp at hb
    exact ht hb.2.1.symm
  refine ⟨⟨p, c, rfl, fun hn => ?_⟩, fun b o m c' e hm => ?_, hcap⟩
  · obtain ⟨b, o, rfl, hc⟩ := hp hn
    refine ⟨b, o, rfl, fun i hi => ?_⟩
    rw [← hc i hi]
    simp only [World.cell?]
    rw [g.block b (block_lt_of_cell (hc i hi)) (fun e => hne b o rfl hn (by cases e; rfl))]
  · obtain ⟨A, fr, hb⟩ := hty b o m c' e hm
    cases e
    exact ⟨A, fr, only_heap g (hne b o rfl hm) hb⟩
theorem own_slt {k : IntKind} {t : TypeId} {w : World} {B : Nat} {s : Value} {n : Nat} {f : Nat → Int} (h : w.ownsRow B t 1 s n (bsL k f n)) : SlT k t w s n f :=
  ⟨own_sl h, fun b o m c e hm => by
    obtain ⟨_, hh | ⟨g, cap, cur, rfl, hB, hg, h1, h2, h3, h4⟩⟩ := h
    · obtain ⟨rfl, rfl⟩ := hh; cases e
    · cases e; exact ⟨_, _, hg⟩, fun p m c e => by
    obtain ⟨_, hh | ⟨g, cap, cur, rfl, hB, hg, h1, h2, h3, h4⟩⟩ := h
    · obtain ⟨rfl, rfl⟩ := hh; cases e; exact Nat.le_refl _
    · cases e; exact h1⟩
/-- A list that was made by append, or none. -/
def OwT (w : World) (s : Value) (n : Nat) (f : Nat → Int) : Prop := w.ownsRow 0 22 1 s n (bsL .u32 f n)
theorem OwT.slt {w : World} {s : Value} {n : Nat} {f : Nat → Int} (h : OwT w s n f) : SlT .u32 22 w s n f := own_slt h
theorem OwT.bel {w w' : World} {s : Value} {n : Nat} {f : Nat → Int} (h : OwT w s n f) (g : Below w.heap.size w w') : OwT w' s n f := by
  obtain ⟨hl, hh | ⟨x, cap, cur, hs, hB, hg, hr⟩⟩ := h
  · exact ⟨hl, .inl hh⟩
  · exact ⟨hl, .inr ⟨x, cap, cur, hs, hB, bel_heap g hg, hr⟩⟩
theorem OwT.only {w w' : World} {s : Value} {n z : Nat} {f : Nat → Int} {q : RV} (h : OwT w s n f) (hz : RowQ w z q) (g : w.grownBy w' (some z)) : OwT w' s n f := by
  obtain ⟨hl, hh | ⟨x, cap, cur, hs, hB, hg, hr⟩⟩ := h
  · exact ⟨hl, .inl hh⟩
  · refine ⟨hl, .inr ⟨x, cap, cur, hs, hB, only_heap g ?_ hg, hr⟩⟩
    rintro rfl
    unfold RowQ at hz
    rw [hz] at hg
    simp at hg
theorem SlT.nil (k : IntKind) (t : TypeId) (w : World) (f : Nat → Int) : SlT k t w (.slice none 0 0) 0 f := ⟨Sl.nil _ _ _ _ _, (fun b o m c e => by cases e), fun p m c e => by cases e; exact Nat.le_refl _⟩
/-- Blocks that are none of the document's machine's: all of them lie below B. -/
class Far where
  G : Nat → Prop
  B : Nat
  lt : ∀ i, G i → i < B
instance (priority := low) Far.noOne : Far := ⟨fun _ => False, 0, fun _ h => h.elim⟩
def Far.own [Far] (v : Value) : Prop := ∀ j, v.ownBlock = some j → ¬ Far.G j
def Far.sl [Far] (v : Value) : Prop := ∀ b o m c, v = .slice (some ⟨b, o, none⟩) m c → 0 < m → ¬ Far.G b
variable [Far]
theorem far_row {w : World} {B : Nat} {t : TypeId} {k : Nat} {s : Value} {n : Nat} {r : List Value} (h : w.ownsRow B t k s n r) (hB : Far.B ≤ B) : Far.own s ∧ Far.sl s := by
  obtain ⟨_, hh | ⟨g, cap, cur, rfl, hg, _⟩⟩ := h
  · obtain ⟨rfl, _⟩ := hh
    exact ⟨fun j hj => (by cases hj), fun b o m c e => (by cases e)⟩
  · have hn : ¬ Far.G g := fun e => by have := Far.lt g e; omega
    refine ⟨fun j hj => ?_, fun b o m c e _ => by cases e; exact hn⟩
    obtain rfl : g = j := by simpa [Value.ownBlock] using hj
    exact hn
theorem far_nil : Far.own (.slice none 0 0) ∧ Far.sl (.slice none 0 0) := ⟨fun j hj => (by cases hj), fun b o m c e => (by cases e)⟩
/-- In world w the value q is the document's machine m; the list of what was set in its file has at most L entries. -/
structure RefAt (w : World) (q : RV) (m : MS) (L : Nat) : Prop where
  nw : q.nw = m.nw
  fn : q.fn = m.nw
  file : ∃ l : List F3.Ent, F3.LAt w q.fs l ∧ F3.Step m.R l ∧ l.length ≤ L
  mem : SlT .u8 5 w q.ms m.sz m.f
  pc : q.pc = m.pc
  cwp : q.cwp = m.cwp
  pil : q.pil = m.pil
  bank : q.bank = m.bank
  fl : q.fl = m.fl
  wim : q.wim = m.wim
  tp : SlT .u32 22 w q.tp 17 m.tpc
  ts : SlT .u32 22 w q.ts 17 m.tps
  ch : SlT .u32 22 w q.ch m.cl m.ch
  ot : OwT w q.ot m.ol m.out
  sk : q.sk = m.sk
  sv : q.sv = m.sv
  ffs : Far.own q.fs
  fms : Far.sl q.ms
  ftp : Far.sl q.tp
  fts : Far.sl q.ts
  fch : Far.sl q.ch
  fot : Far.own q.ot
  low : Far.B ≤ w.heap.size
omit [Far] in
theorem sl_one {k : IntKind} {w : World} {s : Value} {n : Nat} {f : Nat → Int} (h : Sl k w s n f) : s.oneCell' = true := by obtain ⟨p, c, rfl, _⟩ := h; rfl
omit [Far] in
theorem lat_one {w : World} {s : Value} {l : List F3.Ent} (h : F3.LAt w s l) : s.oneCell' = true := by obtain ⟨p, c, rfl, _⟩ := h.form; rfl
theorem RefAt.ok {w : World} {q : RV} {m : MS} {L : Nat} (h : RefAt w q m L) : q.Ok := ⟨by obtain ⟨l, hl, _⟩ := h.file; exact lat_one hl, sl_one h.mem.sl, sl_one h.tp.sl, sl_one h.ts.sl, sl_one h.ch.sl, sl_one h.ot.slt.sl⟩
theorem RefAt.bel {w w' : World} {q : RV} {m : MS} {L : Nat} (h : RefAt w q m L) (k : Below w.heap.size w w') : RefAt w' q m L :=
  { h with file := by obtain ⟨l, hl, h2, h3⟩ := h.file; exact ⟨l, hl.bel k, h2, h3⟩, mem := h.mem.bel k, tp := h.tp.bel k, ts := h.ts.bel k, ch := h.ch.bel k, ot := h.ot.bel k, low := Nat.le_trans h.low k.size }
theorem RefAt.more {w : World} {q : RV} {m : MS} {L L' : Nat} (h : RefAt w q m L) (hL : L ≤ L') : RefAt w q m L' :=
  { h with file := by obtain ⟨l, hl, h2, h3⟩ := h.file; exact ⟨l, hl, h2, Nat.le_trans h3 hL⟩ }
theorem RefAt.only {w w' : World} {q q0 : RV} {m : MS} {L z : Nat} (h : RefAt w q m L) (hz : RowQ w z q0) (g : w.grownBy w' (some z)) : RefAt w' q m L :=
  { h with
    file := (by
      obtain ⟨l, hl, h2, h3⟩ := h.file
      refine ⟨l, World.ownsRow.kept hl g (.inr fun e => ?_), h2, h3⟩
      obtain ⟨_, hh | ⟨x, cap, cur, hs, hB, hg, _⟩⟩ := hl
      · rw [hh.1] at e; cases e
      · rw [hs] at e
        simp [Value.ownBlock] at e
        subst e
        unfold RowQ at hz
        rw [hz] at hg
        simp at hg),
    mem := h.mem.only hz g (by decide), tp := h.tp.only hz g (by decide), ts := h.ts.only hz g (by decide), ch := h.ch.only hz g (by decide), ot := h.ot.only hz g, low := Nat.le_trans h.low g.size }
set_option maxHeartbeats 1000000 in
set_option maxRecDepth 100000 in
theorem with_at (s : Value) (n i : Nat) (f : Nat → Int) (v : Int) (w : World) (hs : Sl .u32 w s n f) (hn : n ≤ 1000) (hi : i < n) :
    Calls Tryz.prog 133 #[s, .int .i64 i, .int .u32 v] w fun e w' => ∃ s', e = .returned s' ∧ SlT .u32 22 w' s' n (F3.upd f i v) ∧ (Far.B ≤ w.heap.size → Far.sl s') ∧ Below w.heap.size w w' := by
  obtain ⟨p, c, rfl, hp⟩ := hs
  obtain ⟨b, o, rfl, hc⟩ := hp (by omega)
  obtain ⟨i0, hi0, hz0, hz1, hz2⟩ := info_parts u32_parts
  have HC := Lib.hid hc
  clear hp hc
  have hnews : ∀ j u, (bsL .u32 f n)[j]? = some u → (w.alloc (.cells #[] 22)).cell? ((⟨b, o, none⟩ : Addr).add j) = some u := fun j u hj => by
    have hjn : j < n := by
      rcases Nat.lt_or_ge j n with hh | hh
      · exact hh
      · rw [List.getElem?_eq_none (by rw [bsL_len]; omega)] at hj; cases hj
    rw [bsL_get _ _ hjn] at hj
    rw [← hj, add_off]
    exact bel_cell ((Below.refl _ _).alloc (Nat.le_refl _) _) (HC.out j hjn)
  go_enter Tryz.func133, Tryz.ntmps133
  go_wp2_with (at_builtin; refine wpList_append_own _ rfl _ _ 25 rfl w.heap.size 22 i0 (.int .u32 0) 1 4 u32_under hi0 hz0 hz1 hz2 rfl (by decide) _ 0 [] rfl (World.ownsRow_made _ _ _ (Nat.le_refl _) (by decide) rfl) ⟨b, o, none⟩ n c (bsL .u32 f n) rfl (by rw [bsL_len, Nat.mul_one]) hnews (bsL_one _ _ _) (by unfold maxLen; omega) (by omega) (by simp) ?_; intro s' w3 hown hgrow hnil
               have X : Hid (w3.ownsRow w.heap.size 22 1 s' n (bsL .u32 f n) ∧ Below w.heap.size w w3) := ⟨by simpa using hown, Below.grown ((Below.refl _ _).alloc (Nat.le_refl _) _) hgrow (by simp) (fun j hj => by simp [Act.eval, Value.ownBlock] at hj; omega)⟩
               obtain ⟨own0, G0⟩ := X.out
               obtain ⟨g, c', rfl, hgB⟩ := own_form own0 (by omega)
               have hfz := own0.frozenAt i
               have hcell : w3.cell? ⟨g, i, none⟩ = some (.int .u32 (f i)) := by
                 obtain ⟨p', c2, hp', hcs⟩ := own_sl own0
                 obtain ⟨rfl, rfl⟩ : some ⟨g, 0, none⟩ = p' ∧ c' = c2 := by simp only [Value.slice.injEq, true_and] at hp'; exact hp'
                 obtain ⟨b', o', hb', hcs⟩ := hcs (by omega)
                 obtain ⟨rfl, rfl⟩ : g = b' ∧ 0 = o' := by simp only [Option.some.injEq, Addr.mk.injEq, and_true] at hb'; exact hb'
                 have := hcs i hi
                 rwa [Nat.zero_add] at this
               obtain ⟨own1, gr1⟩ := own0.stored i (.int .u32 v)
               rw [bsL_set] at own1
               have O1 := Lib.hid own1
               have G1 := Lib.hid (only_bel G0 gr1 hgB)
               clear hown hgrow hnil X own0 G0 own1 gr1)
  go_ret
  exact ⟨_, rfl, own_slt O1.out, fun h => (far_row O1.out h).2, G1.out⟩
theorem RefAt.named {w : World} {q : RV} {m : MS} {L : Nat} (h : RefAt w q m L) (hm : MOk m) {r : Int} (h0 : 0 ≤ r) (h1 : r < 32) : F3.Named q.nw q.cwp q.bank r := by
  rw [h.nw, h.cwp, h.bank]; exact hm.named h0 h1
set_option maxRecDepth 100000 in
theorem get_at (q : RV) (m : MS) (L : Nat) (r : Int) (w : World) (hA : RefAt w q m L) (hm : MOk m) (hL : L ≤ 1000) (h0 : 0 ≤ r) (h1 : r < 32) :
    Calls Tryz.prog 76 #[.agg (rrow q), .int .i64 r] w fun e w' => e = .returned (.int .u32 (m.get r)) ∧ Below w.heap.size w w' := by
  obtain ⟨l, hl, hS, hlen⟩ := hA.file
  have hN := hA.named hm h0 h1
  have hlt := F3.loc_lt (by rw [hA.nw]; exact hm.n32) hN
  have HG := Lib.hid (fun W (hW : F3.LAt W q.fs l) => F3.refGet_at q.nw q.cwp q.bank r q.fs l W (by rw [hA.nw]; exact hm.n2) (by rw [hA.nw]; exact hm.n32) (by omega) hW hN)
  have HV : Hid (F3.atL l (F3.place q.nw q.cwp q.bank r) = m.get r) := by
    unfold Hid MS.get
    rw [← F3.cellOf_loc (by rw [hA.nw]; exact hm.n32) hN, ← hS _ hlt, hA.nw, hA.cwp, hA.bank]
  rw [HV.out] at HG
  have HF := Lib.hid hl
  have hfn : Hid (q.fn = q.nw) := hA.fn.trans hA.nw.symm
  have hc0 : 0 ≤ q.cwp ∧ q.cwp < 256 := by rw [hA.cwp]; have := hm.c0; have := hm.c1; have := hm.n32; omega
  have hb0 : 0 ≤ q.bank ∧ q.bank < 256 := by rw [hA.bank]; have := hm.b0; have := hm.b1; omega
  obtain ⟨hc0, hc1⟩ := hc0
  obtain ⟨hb0, hb1⟩ := hb0
  clear hA hm hl hS hN hlt HV
  go_enter Tryz.func76, Tryz.ntmps76
  go_wp2_with (first
    | (refine q_box rfl (.tmp 0) rfl (some 2) rfl q rfl ?_; intro V r1 b1 s1; obtain ⟨k0, k1, k2, k3, k4, k5, k6, k7, k8, k9, k10, k11, k12, k13, k14, k15⟩ := r1.out.all; rw [hfn.out] at k1))
  refine (HG.out _ (HF.out.bel b1)).mono ?_; rintro e w2 ⟨rfl, g2⟩
  go_wp2_with fail
  go_ret
  exact ⟨rfl, bel_trans b1 g2⟩
/-- A call hands back the document's machine m'. -/
def Gives (w : World) (m' : MS) (L : Nat) (e : Ending) (w' : World) : Prop := ∃ q', e = .returned (.agg (rrow q')) ∧ RefAt w' q' m' L ∧ Below w.heap.size w w'
theorem on_ref (q : RV) (m : MS) (L : Nat) (w : World) (hA : RefAt w q m L) : Calls Tryz.prog 78 #[.agg (rrow q)] w (Gives w m.on L) :=
  (on_at q w hA.ok).mono fun e w' ⟨h1, h2⟩ => ⟨_, h1, { hA.bel h2 with pc := by show (q.pc + 4) % 4294967296 = _; rw [hA.pc]; rfl }, h2⟩
theorem stopped_ref (q : RV) (m : MS) (L : Nat) (k v : Int) (w : World) (hA : RefAt w q m L) : Calls Tryz.prog 75 #[.agg (rrow q), .int .u8 k, .int .u32 v] w (Gives w (m.stp k v) L) :=
  (stopped_at q k v w hA.ok).mono fun e w' ⟨h1, h2⟩ => ⟨_, h1, { hA.bel h2 with sk := rfl, sv := rfl }, h2⟩
omit [Far] in
theorem latb_only {B z : Nat} {w w' : World} {s : Value} {l : List F3.Ent} (h : F3.LAtB B w s l) (g : w.grownBy w' (some z)) (hz : z < B) : F3.LAtB B w' s l :=
  World.ownsRow.kept h g (.inr fun e => by have := (h.lt _ e).1; omega)
set_option maxHeartbeats 1000000 in
set_option maxRecDepth 100000 in
theorem set_ref (q : RV) (m : MS) (L : Nat) (r v : Int) (w : World) (hA : RefAt w q m L) (hm : MOk m) (hL : L ≤ 900) (h0 : 0 ≤ r) (h1 : r < 32) :
    Calls Tryz.prog 79 #[.agg (rrow q), .int .i64 r, .int .u32 v] w (Gives w (m.set r v) (L + 1)) := by
  have HA := Lib.hid hA
  obtain ⟨l, hl, hS, hlen⟩ := hA.file
  have hN := hA.named hm h0 h1
  have HT : Hid (F3.Step (m.set r v).R (l ++ [(F3.place q.nw q.cwp q.bank r, v)])) := by
    have := F3.step_set hS hm.n32 (hm.named h0 h1) v
    rw [← hA.nw, ← hA.cwp, ← hA.bank] at this
    unfold Hid MS.set
    rw [← hA.nw, ← hA.cwp, ← hA.bank]
    exact this
  obtain ⟨p, c, hfs, _⟩ := hl.form
  have HG := Lib.hid (fun W (hW : F3.LAt W (.slice p l.length c) l) => F3.refSet_at q.nw q.cwp q.bank r v p l.length c l W (by rw [hA.nw]; exact hm.n2) (by rw [hA.nw]; exact hm.n32) (by omega) hW hN)
  rw [hfs] at hl
  have HF := Lib.hid hl
  have HO := Lib.hid hA.ok
  have hfn : Hid (q.fn = q.nw) := hA.fn.trans hA.nw.symm
  have Hfs : Hid (q.fs = .slice p l.length c) := hfs
  have hc0 : 0 ≤ q.cwp ∧ q.cwp < 256 := by rw [hA.cwp]; have := hm.c0; have := hm.c1; have := hm.n32; omega
  have hb0 : 0 ≤ q.bank ∧ q.bank < 256 := by rw [hA.bank]; have := hm.b0; have := hm.b1; omega
  obtain ⟨hc0, hc1⟩ := hc0
  obtain ⟨hb0, hb1⟩ := hb0
  clear hA hm hl hS hN hfs
  go_enter Tryz.func79, Tryz.ntmps79
  go_wp2_with (first
    | (refine q_start rfl rfl (.tmp 0) rfl (some 3) (some 6) rfl rfl q rfl (fun W => by kernel_rfl) ?_; intro V z r1 z1 b1 s1; obtain ⟨k0, k1, k2, k3, k4, k5, k6, k7, k8, k9, k10, k11, k12, k13, k14, k15⟩ := r1.out.all; rw [hfn.out] at k1; rw [Hfs.out] at k2))
  refine (HG.out _ (HF.out.bel b1)).mono ?_; rintro e w2 ⟨s', rfl, l2, g2⟩
  have r2 := Lib.hid (r1.out.bel g2)
  have z2 := Lib.hid (z1.out.bel g2)
  have b2 := bel_trans b1 g2
  have L2 := Lib.hid l2
  have hzV : Hid (w.heap.size < V.heap.size) := r1.out.lt
  have hzz : Hid (z < V.heap.size) := z1.out.lt
  clear l2 k0 k1 k2 k3 k4 k5 k6 k7 k8 k9 k10 k11 k12 k13 k14 k15 r1 z1
  go_wp2_with (first
    | (refine q_store rfl _ (.tmp 23) (.tmp 21) rfl q { q with fn := q.nw, fs := s' } _ _ rfl [.int .i64 q.nw, s'] rfl r2.out (by kernel_rfl) (by intro u hu; simp at hu; rcases hu with rfl | rfl; rfl; exact lat_one L2.out.at) (Nat.le_of_ble_eq_true rfl) rfl ?_; intro V3 r3 g3; have z3 := Lib.hid (z2.out.only g3 (by have := s1.out; omega)); have b3 := only_bel b2 g3 (Nat.le_refl _); have L3 := Lib.hid (latb_only L2.out g3 hzV.out))
    | (refine q_tail rfl rfl (.tmp 3) (.tmp 6) 24 rfl rfl rfl _ _ { q with fn := q.nw, fs := s' } _ rfl rfl rfl r3.out z3.out ⟨lat_one L3.out.at, HO.out.2, HO.out.3, HO.out.4, HO.out.5, HO.out.6⟩ b3 (Nat.le_of_lt s1.out) ?_; intro V4 z4 b4 y4))
  have L4 := latb_only L3.out y4.out hzz.out
  exact q_ret rfl rfl z4.out rfl ⟨_, rfl, { HA.out.bel b4.out with fn := HA.out.nw, file := ⟨_, L4.at, HT.out, by simp; omega⟩, ffs := (far_row L4 (HA.out.bel b1).low).1 }, b4.out⟩
set_option maxHeartbeats 2000000 in
set_option maxRecDepth 100000 in
theorem trap_ref (q : RV) (m : MS) (L : Nat) (bk k pc : Int) (w : World) (hA : RefAt w q m L) (hm : MOk m) (h0 : 0 ≤ bk) (h1 : bk ≤ 16) (hk0 : 0 ≤ k) (hk1 : k < 256) :
    Calls Tryz.prog 72 #[.agg (rrow q), .int .u8 bk, .int .u8 k, .int .u32 pc] w (Gives w (m.trap bk k pc) L) := by
  have HA := Lib.hid hA
  have HO := Lib.hid hA.ok
  have HP := Lib.hid (fun W => P4.rPack_yes q.cwp q.pil q.bank q.fl q.nw W (by rw [hA.cwp]; exact hm.bytes.1) (by rw [hA.pil]; exact hm.bytes.2.1) (by rw [hA.bank]; exact hm.bytes.2.2.1) (by rw [hA.fl]; exact hm.bytes.2.2.2) (by rw [hA.cwp, hA.pil, hA.bank, hA.fl, hA.nw]; exact hm.state))
  have HW : Hid (P4.pword q.cwp q.pil q.bank q.fl = m.pw) := by unfold Hid MS.pw; rw [hA.cwp, hA.pil, hA.bank, hA.fl]
  rw [HW.out] at HP
  obtain ⟨j, rfl⟩ : ∃ j : Nat, bk = j := ⟨bk.toNat, by omega⟩
  have HT := Lib.hid (fun W (hW : Sl .u32 W q.tp 17 m.tpc) => with_at q.tp 17 j m.tpc pc W hW (by decide) (by omega))
  have HS := Lib.hid (fun W (hW : Sl .u32 W q.ts 17 m.tps) => with_at q.ts 17 j m.tps m.pw W hW (by decide) (by omega))
  clear hA hm HW
  go_enter Tryz.func72, Tryz.ntmps72
  go_wp2_with (first
    | (refine q_start rfl rfl (.tmp 0) rfl (some 4) (some 8) rfl rfl q rfl (fun W => by kernel_rfl) ?_; intro V z r1 z1 b1 s1; obtain ⟨k0, k1, k2, k3, k4, k5, k6, k7, k8, k9, k10, k11, k12, k13, k14, k15⟩ := r1.out.all))
  refine (HP.out _).mono ?_; rintro e w2 ⟨rfl, g2⟩
  have r2 := Lib.hid (r1.out.bel g2)
  have z2 := Lib.hid (z1.out.bel g2)
  have b2 := bel_trans b1 g2
  clear k0 k1 k2 k3 k4 k5 k6 k7 k8 k9 k10 k11 k12 k13 k14 k15 r1 z1 b1 g2 HP
  obtain ⟨k0, k1, k2, k3, k4, k5, k6, k7, k8, k9, k10, k11, k12, k13, k14, k15⟩ := r2.out.all
  go_wp2_with fail
  refine (HT.out _ (HA.out.tp.bel b2).sl).mono ?_; rintro e w3 ⟨s3, rfl, l3, f3, g3⟩
  have FT := Lib.hid (f3 (HA.out.bel b2).low)
  clear f3
  have r3 := Lib.hid (r2.out.bel g3)
  have z3 := Lib.hid (z2.out.bel g3)
  have b3 := bel_trans b2 g3
  have T3 := Lib.hid l3
  have hlt : Hid (w.heap.size < w2.heap.size ∧ z < w2.heap.size) := ⟨r2.out.lt, z2.out.lt⟩
  clear k0 k1 k2 k3 k4 k5 k6 k7 k8 k9 k10 k11 k12 k13 k14 k15 r2 z2 b2 g3 l3 HT
  go_wp2_with (first
    | (refine q_store rfl _ (.tmp 25) (.tmp 24) rfl q { q with tp := s3 } _ _ rfl [s3] (by obtain ⟨⟨p', c', rfl, _⟩, _, _⟩ := T3.out; rfl) r3.out (by kernel_rfl) (by intro u hu; simp at hu; subst hu; exact sl_one T3.out.sl) (Nat.le_of_ble_eq_true rfl) rfl ?_; intro V4 r4 g4; have z4 := Lib.hid (z3.out.only g4 (by have := s1.out; omega)); have b4 := only_bel b3 g4 (Nat.le_refl _); have T4 := Lib.hid (T3.out.only r3.out g4 (by decide)); obtain ⟨k0, k1, k2, k3, k4, k5, k6, k7, k8, k9, k10, k11, k12, k13, k14, k15⟩ := r4.out.all))
  refine (HS.out _ (HA.out.ts.bel b4).sl).mono ?_; rintro e w5 ⟨s5, rfl, l5, f5, g5⟩
  have FS := Lib.hid (f5 (HA.out.bel b4).low)
  clear f5
  have r5 := Lib.hid (r4.out.bel g5)
  have z5 := Lib.hid (z4.out.bel g5)
  have b5 := bel_trans b4 g5
  have T5 := Lib.hid (T4.out.bel g5)
  have S5 := Lib.hid l5
  have hlt5 : Hid (w.heap.size < V4.heap.size ∧ z < V4.heap.size) := ⟨r4.out.lt, z4.out.lt⟩
  clear k0 k1 k2 k3 k4 k5 k6 k7 k8 k9 k10 k11 k12 k13 k14 k15 r3 z3 r4 z4 b3 b4 g4 g5 l5 HS T3 T4
  go_wp2_with (first
    | (refine q_store rfl _ (.tmp 32) (.tmp 31) rfl { q with tp := s3 } { q with tp := s3, ts := s5 } _ _ rfl [s5] (by obtain ⟨⟨p', c', rfl, _⟩, _, _⟩ := S5.out; rfl) r5.out (by kernel_rfl) (by intro u hu; simp at hu; subst hu; exact sl_one S5.out.sl) (Nat.le_of_ble_eq_true rfl) rfl ?_; intro V6 r6 g6; have z6 := Lib.hid (z5.out.only g6 (by have := s1.out; omega)); have b6 := only_bel b5 g6 (Nat.le_refl _); have T6 := Lib.hid (T5.out.only r5.out g6 (by decide)); have S6 := Lib.hid (S5.out.only r5.out g6 (by decide)))
    | (refine q_store rfl _ (.tmp 35) (.tmp 33) rfl { q with tp := s3, ts := s5 } { q with tp := s3, ts := s5, bank := j } _ _ rfl _ rfl r6.out (by kernel_rfl) (rv_one _ _) (Nat.le_of_ble_eq_true rfl) rfl ?_; intro V7 r7 g7; have z7 := Lib.hid (z6.out.only g7 (by have := s1.out; omega)); have b7 := only_bel b6 g7 (Nat.le_refl _); have T7 := Lib.hid (T6.out.only r6.out g7 (by decide)); have S7 := Lib.hid (S6.out.only r6.out g7 (by decide)))
    | (refine q_store rfl _ (.tmp 40) (.tmp 39) rfl { q with tp := s3, ts := s5, bank := j } { q with tp := s3, ts := s5, bank := j, pc := 256 + 16 * k } _ _ rfl _ rfl r7.out (by kernel_rfl) (rv_one _ _) (Nat.le_of_ble_eq_true rfl) rfl ?_; intro V8 r8 g8; have z8 := Lib.hid (z7.out.only g8 (by have := s1.out; omega)); have b8 := only_bel b7 g8 (Nat.le_refl _); have T8 := Lib.hid (T7.out.only r7.out g8 (by decide)); have S8 := Lib.hid (S7.out.only r7.out g8 (by decide)))
    | (refine q_tail rfl rfl (.tmp 4) (.tmp 8) 41 rfl rfl rfl _ _ { q with tp := s3, ts := s5, bank := j, pc := 256 + 16 * k } _ rfl rfl rfl r8.out z8.out ⟨HO.out.1, HO.out.2, sl_one T8.out.sl, sl_one S8.out.sl, HO.out.5, HO.out.6⟩ b8 (Nat.le_of_lt s1.out) ?_; intro V9 z9 b9 y9))
  exact q_ret rfl rfl z9.out rfl ⟨_, rfl, { HA.out.bel b9.out with tp := T8.out.only z8.out y9.out (by decide), ts := S8.out.only z8.out y9.out (by decide), bank := rfl, pc := rfl, ftp := FT.out, fts := FS.out }, b9.out⟩
end Go.Proofs.YtiobgnelhiadbaaGreatDoor.K6
