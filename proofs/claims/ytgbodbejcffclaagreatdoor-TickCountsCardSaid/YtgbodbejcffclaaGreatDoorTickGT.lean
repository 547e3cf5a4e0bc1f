/- The document's answer of layer 9 (Taken): which levels are taken, and how often. -/
import Derived.Test.YtgbodbejcffclaaGreatDoorTickGM
import Derived.Deep.RegionHeld3
import Derived.Deep.RegionLaw
import Derived.Deep.DeepAppendWide
import Derived.Laws.AppendOwnNone
namespace Go.Proofs.YtgbodbejcffclaaGreatDoor.K6
open Go.RowKit T9
set_option linter.unusedVariables false
def lvs (op : List Fr) : List Value := op.reverse.map fun f => .int .u8 (f.1 : Int)
def lfs (op : List Fr) : List Value := op.reverse.map fun f => .int .i64 (f.2 : Int)
def oc (c : Nat → Nat) : Array Value := ((List.range 16).map fun k => Value.int .u32 (c k : Int)).toArray
theorem lvs_cons (k l : Nat) (r : List Fr) : lvs ((k, l) :: r) = lvs r ++ [.int .u8 (k : Int)] := by simp [lvs]
theorem lfs_cons (k l : Nat) (r : List Fr) : lfs ((k, l) :: r) = lfs r ++ [.int .i64 (l : Int)] := by simp [lfs]
theorem lvs_len (r : List Fr) : (lvs r).length = r.length := by simp [lvs]
theorem lfs_len (r : List Fr) : (lfs r).length = r.length := by simp [lfs]
theorem lvs_one (r : List Fr) : ∀ u ∈ lvs r, u.oneCell' = true := fun u hu => by simp only [lvs, List.mem_map] at hu; obtain ⟨_, _, rfl⟩ := hu; rfl
theorem lfs_one (r : List Fr) : ∀ u ∈ lfs r, u.oneCell' = true := fun u hu => by simp only [lfs, List.mem_map] at hu; obtain ⟨_, _, rfl⟩ := hu; rfl
theorem u8_under : Tryz.prog.underlying 29 = some (.slice 5) := by kernel_rfl
theorem u8_parts : (Tryz.prog.info? 5).map (fun i => (i.zero, i.size, i.bytes)) = some (some (.int .u8 0), 1, 1) := by kernel_rfl
theorem int_under : Tryz.prog.underlying 170 = some (.slice 3) := by kernel_rfl
theorem int_parts : (Tryz.prog.info? 3).map (fun i => (i.zero, i.size, i.bytes)) = some (some (.int .i64 0), 1, 8) := by kernel_rfl
section
variable {ops : Array Oper} {o : Oper} {a : Act} {w : World} {K : Act → World → Prop} {Q : Exit → Act → World → Prop}
/-- Behind an empty list of one's own a list is laid. -/
theorem wp_cat (s x : Operand) (S E : TypeId) (z : Value) (nb : Nat) (hu : Tryz.prog.underlying S = some (.slice E)) (hp : (Tryz.prog.info? E).map (fun i => (i.zero, i.size, i.bytes)) = some (some z, 1, nb)) (hzs : z.cells.size = 1) (hnb : nb ≤ 64)
    (hop : o.op = Op.call { callee := Callee.builtin Builtin.append, args := #[s, x], argTypes := #[S, S] })
    (B : Nat) (v1 vx : Value) (m : Nat) (xs : List Value) (hs : a.eval s = v1) (h1 : w.ownsRow B E 1 v1 0 []) (hx : a.eval x = vx) (hL : w.ownsRow 0 E 1 vx m xs) (hone : ∀ u ∈ xs, u.oneCell' = true) (hm : m ≤ 1000) (hB : B ≤ w.heap.size)
    (hK : ∀ v' w', w'.ownsRow B E 1 v' m xs → Below B w w' → (∀ k o, v1.ownBlock ≠ some k → w.heap[k]? = some o → w'.heap[k]? = some o) → K (a.put o.dst v') w') : Oper.wp Tryz.prog o a w K Q := by
  obtain ⟨i0, hi, hz0, hz1, hz2⟩ := info_parts hp
  obtain ⟨hlen, ⟨rfl, h0⟩ | ⟨g, cap, cur, rfl, _, hgg, q1, q2, q3, q4⟩⟩ := hL
  · subst h0
    obtain rfl : xs = [] := List.eq_nil_of_length_eq_zero (by simpa using hlen)
    have hrun := run_append_owned_none (P := Tryz.prog) (w := w) B S o.type E i0 1 hu hi v1 0 [] h1
    unfold Oper.wp
    simp [execOp, hop, resolve, invoke, builtin, hs, hx, hrun, Result.andThen]
    exact hK _ _ h1 (Below.refl _ _) (fun _ _ _ h => h)
  · have hbig : (0 + m + (0 + m) / 4 + 192) * nb ≤ 281474976710656 := Nat.le_trans (Nat.mul_le_mul (by omega : 0 + m + (0 + m) / 4 + 192 ≤ 2000) hnb) (by decide)
    refine wp_append_own_wide w s x S hop B E i0 _ 1 nb hu hi hz0 hz1 hz2 hzs (by decide) v1 0 [] hs h1 ⟨g, 0, none⟩ m cap xs hx (by simpa using hlen) ?_ hone (by unfold maxLen; omega) hbig hB ?_
    · intro j u hj
      rw [add_off, Nat.zero_add, cell_of_row _ _ _ _ _ _ hgg]
      have hjm : j < m := by have := (List.getElem?_eq_some_iff.1 hj).1; rw [hlen] at this; omega
      rw [← q4, List.getElem?_take_of_lt (by omega)] at hj
      simpa using hj
    · intro v' w' ho hgrow _
      rw [Nat.zero_add, List.nil_append] at ho
      refine hK v' w' ho ((Below.refl B w).grown hgrow hB (fun k hk => (h1.lt k hk).1)) (fun k o hk ho => ?_)
      rw [hgrow.block k (M5.heap_lt ho) (fun e => hk e.symm)]
      exact ho
/-- One value more. -/
theorem wp_one (s x : Operand) (S E : TypeId) (z : Value) (nb : Nat) (hu : Tryz.prog.underlying S = some (.slice E)) (hp : (Tryz.prog.info? E).map (fun i => (i.zero, i.size, i.bytes)) = some (some z, 1, nb)) (hzs : z.cells.size = 1) (hnb : nb ≤ 64)
    (hop : o.op = Op.call { callee := Callee.builtin Builtin.append, args := #[s, x], argTypes := #[S, S] })
    (B : Nat) (v1 : Value) (n : Nat) (xs : List Value) (u : Value) (hu1 : u.oneCell' = true) (hs : a.eval s = v1) (h1 : w.ownsRow B E 1 v1 n xs) (g c : Nat) (hx : a.eval x = .slice (some ⟨g, 0, none⟩) 1 c) (hc : w.heap[g]? = some (.cells #[u] E (0, 0))) (hn : n ≤ 1000) (hB : B ≤ w.heap.size)
    (hK : ∀ g' c' w', w'.ownsRow B E 1 (.slice (some ⟨g', 0, none⟩) (n + 1) c') (n + 1) (xs ++ [u]) → Below B w w' → K (a.put o.dst (.slice (some ⟨g', 0, none⟩) (n + 1) c')) w') : Oper.wp Tryz.prog o a w K Q := by
  obtain ⟨i0, hi, hz0, hz1, hz2⟩ := info_parts hp
  have hbig : (n + 1 + (n + 1) / 4 + 192) * nb ≤ 281474976710656 := Nat.le_trans (Nat.mul_le_mul (by omega : n + 1 + (n + 1) / 4 + 192 ≤ 2000) hnb) (by decide)
  refine wp_append_own_wide w s x S hop B E i0 _ 1 nb hu hi hz0 hz1 hz2 hzs (by decide) v1 n xs hs h1 ⟨g, 0, none⟩ 1 c [u] hx rfl ?_ (fun v hv => by simp at hv; subst hv; exact hu1) (by unfold maxLen; omega) hbig hB ?_
  · intro j v hj
    rw [add_off, Nat.zero_add, cell_of_row _ _ _ _ _ _ hc]
    simpa using hj
  · intro v' w' ho hgrow _
    obtain ⟨g', c', rfl⟩ : ∃ g' c', v' = .slice (some ⟨g', 0, none⟩) (n + 1) c' := by
      obtain ⟨_, ⟨_, h0⟩ | ⟨g', c', _, rfl, _⟩⟩ := ho
      · omega
      · exact ⟨g', c', rfl⟩
    exact hK g' c' w' ho ((Below.refl B w).grown hgrow hB (fun k hk => (h1.lt k hk).1))
theorem own_none {w : World} {B g : Nat} {E : TypeId} (h : w.heap[g]? = some (.cells #[] E (0, 0))) (hB : B ≤ g) : w.ownsRow B E 1 (.slice (some ⟨g, 0, none⟩) 0 0) 0 [] :=
  ⟨rfl, .inr ⟨g, 0, #[], rfl, hB, h, Nat.le_refl _, Nat.zero_le _, rfl, rfl⟩⟩
theorem own_low {w : World} {B C : Nat} {E : TypeId} {v : Value} {n : Nat} {xs : List Value} (h : w.ownsRow B E 1 v n xs) (hC : C ≤ B) : w.ownsRow C E 1 v n xs := by
  obtain ⟨h0, h | ⟨g, cap, cur, e, hB, rest⟩⟩ := h
  · exact ⟨h0, .inl h⟩
  · exact ⟨h0, .inr ⟨g, cap, cur, e, Nat.le_trans hC hB, rest⟩⟩
theorem own_bel {w w' : World} {B : Nat} {E : TypeId} {v : Value} {n : Nat} {xs : List Value} (h : w.ownsRow B E 1 v n xs) (k : Below w.heap.size w w') : w'.ownsRow B E 1 v n xs := A7.own_same h fun j hj => k.block j (h.lt j hj).2
end
theorem oc_get (c : Nat → Nat) {k : Nat} (h : k < 16) : (oc c)[k]? = some (.int .u32 (c k : Int)) := by simp [oc, h]
theorem oc_set (c : Nat → Nat) (k v : Nat) : (oc c).setIfInBounds k (.int .u32 (v : Int)) = oc (updN c k v) := by
  apply Array.ext
  · simp [oc]
  · intro i h1 h2
    simp only [oc, updN, List.getElem_toArray, List.getElem_map, List.getElem_range]
    by_cases e : k = i
    · subst e; simp
    · have e' : ¬ i = k := fun h => e h.symm
      simp [e, e']
/-- What Taken has in hand. -/
structure TK (w wr : World) (go : Nat) (vo vl : Value) (S : AB) : Prop where
  out : wr.heap[go]? = some (.cells (oc S.c) 22 (0, 0))
  o : wr.ownsRow w.heap.size 5 1 vo S.op.length (lvs S.op)
  l : wr.ownsRow w.heap.size 3 1 vl S.op.length (lfs S.op)
  gt : w.heap.size ≤ go
  g : Below w.heap.size w wr
theorem astep_open {p : Int} (h0 : 0 ≤ p) {S : AB} (h : Open p S.op) (lv : Nat) : Open p (astep p S lv).op ∧ (astep p S lv).op.length ≤ S.op.length + 1 := by
  have hp := (pl_ge h0 h).1
  unfold astep
  by_cases hl : lv ≤ 15 ∧ plOf p S.op < (lv : Int)
  · rw [if_pos hl]
    exact ⟨⟨hl.2, by omega, hl.1, by decide, by decide, h⟩, Nat.le_refl _⟩
  · rw [if_neg hl]
    match hop : S.op with
    | [] => exact ⟨trivial, Nat.le_succ _⟩
    | (k, l) :: r =>
      rw [hop] at h
      obtain ⟨a, b, c, d, e, f⟩ := h
      by_cases e1 : l = 1
      · simp only [e1, if_true]; exact ⟨f, by show r.length ≤ r.length + 1 + 1; omega⟩
      · simp only [if_neg e1]; exact ⟨⟨a, b, c, by omega, by omega, f⟩, by show r.length + 1 ≤ r.length + 1 + 1; omega⟩
theorem asteps_open {p : Int} (h0 : 0 ≤ p) (L : Nat → Nat) : ∀ n, Open p (asteps p L n).op ∧ (asteps p L n).op.length ≤ n
  | 0 => ⟨trivial, Nat.le_refl _⟩
  | n + 1 => by
    obtain ⟨a, b⟩ := asteps_open h0 L n
    obtain ⟨c, d⟩ := astep_open h0 a (L n)
    exact ⟨c, by show (astep p (asteps p L n) (L n)).op.length ≤ n + 1; omega⟩
section
variable {w wr : World} {go : Nat} {vo vl : Value} {S : AB}
theorem not_row {W : World} {g : Nat} {c : Array Value} {t t' : TypeId} {B : Nat} {v : Value} {n : Nat} {xs : List Value} (h : W.heap[g]? = some (.cells c t (0, 0))) (ht : t ≠ t') (hv : W.ownsRow B t' 1 v n xs) : ∀ j, v.ownBlock = some j → j ≠ g := fun j hj => A7.not_typ h ht (A7.own_typ hv hj)
theorem own_store {W : World} {g i : Nat} {u : Value} {B : Nat} {t : TypeId} {v : Value} {n : Nat} {xs : List Value} (hv : W.ownsRow B t 1 v n xs) (hn : ∀ j, v.ownBlock = some j → j ≠ g) : (W.setCell ⟨g, i, none⟩ u).ownsRow B t 1 v n xs :=
  A7.own_same hv fun j hj => by rw [heap_setCell_other _ _ _ _ (fun e => hn j hj e)]
/-- One tick more. -/
theorem TK.stored (T : TK w wr go vo vl S) {lv : Nat} (h : lv < 16) : TK w (wr.setCell ⟨go, lv, none⟩ (.int .u32 ((S.c lv : Int) + 1))) go vo vl ⟨S.op, updN S.c lv (S.c lv + 1), S.i⟩ ∧ ∀ b i u, wr.cell? ⟨b, i, none⟩ = some u → b ≠ go → (wr.setCell ⟨go, lv, none⟩ (.int .u32 ((S.c lv : Int) + 1))).cell? ⟨b, i, none⟩ = some u := by
  refine ⟨⟨?_, own_store T.o (not_row T.out (by decide) T.o), own_store T.l (not_row T.out (by decide) T.l), T.gt, ?_⟩, fun b i u hc hb => ?_⟩
  · have := heap_setCell_same wr go lv _ _ (.int .u32 ((S.c lv : Int) + 1)) T.out
    rw [this]
    have e := oc_set S.c lv (S.c lv + 1)
    rw [show ((S.c lv + 1 : Nat) : Int) = (S.c lv : Int) + 1 by omega] at e
    rw [e]
  · exact T.g.setCell T.gt _
  · rw [World.cell?_setCell_other _ _ _ _ (fun e => hb (by cases e; rfl))]; exact hc
end
theorem own_le {W : World} {B : Nat} {t : TypeId} {g n c : Nat} {xs : List Value} (h : W.ownsRow B t 1 (.slice (some ⟨g, 0, none⟩) n c) n xs) : n ≤ c := by
  obtain ⟨h0, ⟨h, _⟩ | ⟨g', cap, cur, e, hB, hg, a1, a2, a3, a4⟩⟩ := h
  · cases h
  · simp only [Value.slice.injEq] at e
    omega
theorem own_set {W : World} {B : Nat} {t : TypeId} {g n c : Nat} {xs : List Value} {u u' : Value} (h : W.ownsRow B t 1 (.slice (some ⟨g, 0, none⟩) n c) n (xs ++ [u])) : (W.setCell ⟨g, xs.length, none⟩ u').ownsRow B t 1 (.slice (some ⟨g, 0, none⟩) n c) n (xs ++ [u']) := by
  obtain ⟨h0, ⟨h, _⟩ | ⟨g', cap, cur, e, hB, hg, a1, a2, a3, a4⟩⟩ := h
  · cases h
  simp only [Value.slice.injEq, Option.some.injEq, Addr.mk.injEq] at e
  obtain ⟨⟨rfl, _⟩, _, rfl⟩ := e
  have hl : xs.length + 1 = n * 1 := by simpa using h0
  refine ⟨by simpa using h0, .inr ⟨g, c, cur.setIfInBounds xs.length u', rfl, hB, heap_setCell_same W g xs.length _ _ u' hg, a1, a2, by simpa using a3, ?_⟩⟩
  have e1 : (cur.setIfInBounds xs.length u').toList = cur.toList.set xs.length u' := by simp
  rw [e1, List.take_set, a4]
  simp
theorem TK.less {w wr : World} {go g gl co cl k l ib : Nat} {c : Nat → Nat} {r : List Fr} (T : TK w wr go (.slice (some ⟨g, 0, none⟩) (r.length + 1) co) (.slice (some ⟨gl, 0, none⟩) (r.length + 1) cl) ⟨(k, l) :: r, c, ib⟩) (u : Nat) :
    TK w (wr.setCell ⟨gl, r.length, none⟩ (.int .i64 (u : Int))) go (.slice (some ⟨g, 0, none⟩) (r.length + 1) co) (.slice (some ⟨gl, 0, none⟩) (r.length + 1) cl) ⟨(k, u) :: r, c, ib⟩ ∧
    TK w (wr.setCell ⟨gl, r.length, none⟩ (.int .i64 (u : Int))) go (.slice (some ⟨g, 0, none⟩) r.length co) (.slice (some ⟨gl, 0, none⟩) r.length cl) ⟨r, c, ib⟩ := by
  obtain ⟨cur, hgl⟩ := A7.own_typ T.l rfl
  have hge := (World.ownsRow.lt T.l gl rfl).1
  have hgo : go ≠ gl := A7.not_typ hgl (by decide) ⟨_, T.out⟩
  have To : wr.ownsRow w.heap.size 5 1 (.slice (some ⟨g, 0, none⟩) (r.length + 1) co) (r.length + 1) (lvs r ++ [.int .u8 (k : Int)]) := by rw [← lvs_cons k l]; exact T.o
  have Tl : wr.ownsRow w.heap.size 3 1 (.slice (some ⟨gl, 0, none⟩) (r.length + 1) cl) (r.length + 1) (lfs r ++ [.int .i64 (l : Int)]) := by rw [← lfs_cons k l]; exact T.l
  have Ts := own_set (u' := .int .i64 (u : Int)) Tl
  rw [lfs_len] at Ts
  have Os := own_store (i := r.length) (u := .int .i64 (u : Int)) To (not_row hgl (by decide) To)
  have hout : (wr.setCell ⟨gl, r.length, none⟩ (.int .i64 (u : Int))).heap[go]? = some (.cells (oc c) 22 (0, 0)) := by rw [heap_setCell_other _ _ _ _ (fun e => hgo e)]; exact T.out
  have G := T.g.setCell (p := ⟨gl, r.length, none⟩) hge (.int .i64 (u : Int))
  refine ⟨⟨hout, ?_, ?_, T.gt, G⟩, ⟨hout, ?_, ?_, T.gt, G⟩⟩
  · show World.ownsRow _ _ _ _ _ _ (lvs ((k, u) :: r)); rw [lvs_cons]; exact Os
  · show World.ownsRow _ _ _ _ _ _ (lfs ((k, u) :: r)); rw [lfs_cons]; exact Ts
  · exact A7.own_ahead Os (Nat.le_succ _) (by have h := lvs_len r; rw [← h]; simp)
  · exact A7.own_ahead Ts (Nat.le_succ _) (by have h := lfs_len r; rw [← h]; simp)
theorem own_in {V W : World} {B : Nat} {E : TypeId} {v : Value} {n : Nat} {xs : List Value} (h : V.ownsRow B E 1 v n xs) (k : Below V.heap.size V W) : W.ownsRow B E 1 v n xs := own_bel h k
theorem held_alloc {V W : World} {lb i : Nat} {u : Value} {o : Obj} (hc : W.cell? ⟨lb, i, none⟩ = some u) (hb : Below V.heap.size V W) : (W.alloc o).cell? ⟨lb, i, none⟩ = some u ∧ Below V.heap.size V (W.alloc o) :=
  ⟨bel_cell ((Below.refl _ _).alloc (Nat.le_refl _) _) hc, hb.alloc hb.size _⟩
theorem bel_two {V W W' : World} (hb : Below V.heap.size V W) (h : Below V.heap.size W W') : Below V.heap.size V W' := ⟨h.os.trans hb.os, h.tape.trans hb.tape, h.output.trans hb.output, Nat.le_trans hb.size h.size, fun i hi => (h.block i hi).trans (hb.block i hi)⟩
theorem held_bel {V W W' : World} {lb i : Nat} {u : Value} (hc : W.cell? ⟨lb, i, none⟩ = some u) (hb : Below V.heap.size V W) (hl : lb < V.heap.size) (h : Below V.heap.size W W') : W'.cell? ⟨lb, i, none⟩ = some u ∧ Below V.heap.size V W' :=
  ⟨(h.cell (p := ⟨lb, i, none⟩) hl).trans hc, ⟨h.os.trans hb.os, h.tape.trans hb.tape, h.output.trans hb.output, Nat.le_trans hb.size h.size, fun i hi => (h.block i hi).trans (hb.block i hi)⟩⟩
section
variable {ops : Array Oper} {o : Oper} {a : Act} {w : World} {K : Act → World → Prop} {Q : Exit → Act → World → Prop} {E : Prop}
theorem wpList_cat {rest : List Oper} {Q : Exit → Act → World → Prop} (hgd : o.guard = none) (s x : Operand) (S E : TypeId) (z : Value) (nb : Nat) (hu : Tryz.prog.underlying S = some (.slice E)) (hp : (Tryz.prog.info? E).map (fun i => (i.zero, i.size, i.bytes)) = some (some z, 1, nb)) (hzs : z.cells.size = 1) (hnb : nb ≤ 64)
    (hop : o.op = Op.call { callee := Callee.builtin Builtin.append, args := #[s, x], argTypes := #[S, S] })
    (B : Nat) (v1 vx : Value) (m : Nat) (xs : List Value) (hs : a.eval s = v1) (h1 : w.ownsRow B E 1 v1 0 []) (hx : a.eval x = vx) (hL : w.ownsRow 0 E 1 vx m xs) (hone : ∀ u ∈ xs, u.oneCell' = true) (hm : m ≤ 1000) (hB : B ≤ w.heap.size)
    (h : ∀ v' w', w'.ownsRow B E 1 v' m xs → Below B w w' → (∀ k o, v1.ownBlock ≠ some k → w.heap[k]? = some o → w'.heap[k]? = some o) → wpList Tryz.prog ops Q rest (a.put o.dst v') w') :
    wpList Tryz.prog ops Q (o :: rest) a w :=
  wpList_plain hgd fun K hK => wp_cat s x S E z nb hu hp hzs hnb hop B v1 vx m xs hs h1 hx hL hone hm hB fun v' w' a1 a2 a3 => hK _ _ (h v' w' a1 a2 a3)
theorem wpList_one {rest : List Oper} {Q : Exit → Act → World → Prop} (hgd : o.guard = none) (s x : Operand) (S E : TypeId) (z : Value) (nb : Nat) (hu : Tryz.prog.underlying S = some (.slice E)) (hp : (Tryz.prog.info? E).map (fun i => (i.zero, i.size, i.bytes)) = some (some z, 1, nb)) (hzs : z.cells.size = 1) (hnb : nb ≤ 64)
    (hop : o.op = Op.call { callee := Callee.builtin Builtin.append, args := #[s, x], argTypes := #[S, S] })
    (B : Nat) (v1 : Value) (n : Nat) (xs : List Value) (u : Value) (hu1 : u.oneCell' = true) (hs : a.eval s = v1) (h1 : w.ownsRow B E 1 v1 n xs) (g c : Nat) (hx : a.eval x = .slice (some ⟨g, 0, none⟩) 1 c) (hc : w.heap[g]? = some (.cells #[u] E (0, 0))) (hn : n ≤ 1000) (hB : B ≤ w.heap.size)
    (h : ∀ g' c' w', w'.ownsRow B E 1 (.slice (some ⟨g', 0, none⟩) (n + 1) c') (n + 1) (xs ++ [u]) → Below B w w' → wpList Tryz.prog ops Q rest (a.put o.dst (.slice (some ⟨g', 0, none⟩) (n + 1) c')) w') :
    wpList Tryz.prog ops Q (o :: rest) a w :=
  wpList_plain hgd fun K hK => wp_one s x S E z nb hu hp hzs hnb hop B v1 n xs u hu1 hs h1 g c hx hc hn hB fun g' c' w' a1 a2 => hK _ _ (h g' c' w' a1 a2)
theorem step_cat8 (hg : o.guard = none) (s x : Operand)
    (hop : o.op = Op.call { callee := Callee.builtin Builtin.append, args := #[s, x], argTypes := #[29, 29] })
    (B : Nat) (v1 vx : Value) (m : Nat) (xs : List Value) (hs : a.eval s = v1) (h1 : w.ownsRow B 5 1 v1 0 []) (hx : a.eval x = vx) (hL : w.ownsRow 0 5 1 vx m xs) (hone : ∀ u ∈ xs, u.oneCell' = true) (hm : m ≤ 1000) (hB : B ≤ w.heap.size)
    (hK : ∀ v' w', w'.ownsRow B 5 1 v' m xs → Below B w w' → (∀ k o, v1.ownBlock ≠ some k → w.heap[k]? = some o → w'.heap[k]? = some o) → K (a.put o.dst v') w') :
    if Region.wanted o (yielded ops a.tmps) = true then Oper.wp Tryz.prog o a w K Q else E := by
  have hw : Region.wanted o (yielded ops a.tmps) = true := by simp [Region.wanted, hg]
  rw [if_pos hw]
  exact wp_cat s x _ _ _ 1 u8_under u8_parts rfl (by decide) hop B v1 vx m xs hs h1 hx hL hone hm hB hK
theorem step_one8 (hg : o.guard = none) (s x : Operand)
    (hop : o.op = Op.call { callee := Callee.builtin Builtin.append, args := #[s, x], argTypes := #[29, 29] })
    (B : Nat) (v1 : Value) (n : Nat) (xs : List Value) (u : Value) (hu1 : u.oneCell' = true) (hs : a.eval s = v1) (h1 : w.ownsRow B 5 1 v1 n xs) (g c : Nat) (hx : a.eval x = .slice (some ⟨g, 0, none⟩) 1 c) (hc : w.heap[g]? = some (.cells #[u] 5 (0, 0))) (hn : n ≤ 1000) (hB : B ≤ w.heap.size)
    (hK : ∀ g' c' w', w'.ownsRow B 5 1 (.slice (some ⟨g', 0, none⟩) (n + 1) c') (n + 1) (xs ++ [u]) → Below B w w' → K (a.put o.dst (.slice (some ⟨g', 0, none⟩) (n + 1) c')) w') :
    if Region.wanted o (yielded ops a.tmps) = true then Oper.wp Tryz.prog o a w K Q else E := by
  have hw : Region.wanted o (yielded ops a.tmps) = true := by simp [Region.wanted, hg]
  rw [if_pos hw]
  exact wp_one s x _ _ _ 1 u8_under u8_parts rfl (by decide) hop B v1 n xs u hu1 hs h1 g c hx hc hn hB hK
end
set_option maxHeartbeats 4000000 in
set_option maxRecDepth 100000 in
theorem Taken_at {w : World} (v : Value) (p : Int) (N : Nat) (L : Nat → Nat) (h0 : 0 ≤ p) (h1 : p ≤ 15) (hN : N ≤ 100) (hv : Sl .u8 w v N (fun i => (L i : Int))) (hL : ∀ i, L i < 256) :
    Calls Tryz.prog 46 #[v, .int .u8 p] w fun e w' => ∃ go, e = .returned (.slice (some ⟨go, 0, none⟩) 16 16) ∧ w'.heap[go]? = some (.cells (oc (asteps p L N).c) 22 (0, 0)) ∧ w.heap.size ≤ go ∧ Below w.heap.size w w' := by
  obtain ⟨pv, cv, rfl, hv⟩ := hv
  have HV := Lib.hid hv
  have HL := Lib.hid hL
  have hmk : (Instr.makeSlice 25 (.int .i64 16) (.int .i64 16)).run Tryz.prog w = .ok (.slice (some ⟨w.heap.size, 0, none⟩) 16 16) (w.alloc (.cells (madeCells #[.int .u32 0] 16) 22)) := run_make_row' (P := Tryz.prog) 25 22 (.int .u32 0) 4 Tryz.underlying25 M5.u32_parts' rfl .i64 .i64 16 (by omega) (by omega) w
  rw [M5.made_words] at hmk
  have T0 : Hid (TK w (w.alloc (.cells (bsL .u32 (fun _ => 0) 16).toArray 22)) w.heap.size (.slice none 0 0) (.slice none 0 0) (asteps p L 0)) := ⟨heap_alloc_last _ _, World.ownsRow_nil _ _ _ _, World.ownsRow_nil _ _ _ _, Nat.le_refl _, (Below.refl _ _).alloc (Nat.le_refl _) _⟩
  generalize (bsL .u32 (fun _ => 0) 16).toArray = A16 at *
  clear hv hL
  go_enter Tryz.func46, Tryz.ntmps46
  go_wp2_with fail
  generalize w.alloc (.cells A16 22) = W0 at T0 ⊢
  go_loopw [6, 7, 8] (fun vo vl i wr => ∃ j : Nat, j ≤ N ∧ i = .int .i64 j ∧ TK w wr w.heap.size vo vl (asteps p L j)) (fun _ _ i _ => N - (intOf i).toNat)
  case atStart => exact ⟨0, Nat.zero_le _, rfl, T0.out⟩
  case round =>
    obtain ⟨j, hj, rfl, T⟩ := hrel
    by_cases hlt : j < N
    · obtain ⟨lb, lo, rfl, hc⟩ := HV.out (by omega)
      have cL := bel_cell T.g (hc j hlt)
      have hfar : lb < w.heap.size := block_lt_of_cell (a := ⟨lb, lo + j, none⟩) (hc j hlt)
      have hfar' : lb ≠ w.heap.size := by omega
      have HS : Hid (asteps p L (j + 1) = astep p (asteps p L j) (L j)) := rfl
      obtain ⟨hOp, hLen⟩ := asteps_open h0 L j
      obtain ⟨hSi, hSc⟩ := asteps_bd (p := p) L j
      have hlv := HL.out (L j)
      generalize L j = lv at *
      generalize asteps p L j = S at *
      obtain ⟨op, c, ib⟩ := S
      have HC : Hid (∀ k, c k ≤ j) := hSc
      have HO := Lib.hid hOp
      clear hc hSi
      rcases op with _ | ⟨⟨k, l⟩, r⟩
      · obtain ⟨po, co, rfl⟩ := lenOf_own T.o
        obtain ⟨pl, cl, rfl⟩ := lenOf_own T.l
        by_cases hTK : lv ≤ 15 ∧ p < (lv : Int)
        · have q1 : (lv : Int) ≤ 15 := by omega
          have q2 : p < (lv : Int) := hTK.2
          have q3 : lv < 16 := by omega
          have kout := row_cell (j := lv) T.out (oc_get c q3)
          have kfr := row_frozen (j := lv) T.out
          have hw1 : IntKind.u32.wrap ((c lv : Int) + 1) = (c lv : Int) + 1 := IntWalk.u32_in _ (by have := HC.out lv; omega)
          have nxt : Hid (asteps p L (j + 1) = ⟨(lv, 5) :: [], updN c lv (c lv + 1), ib⟩) := by
            unfold Hid
            rw [HS.out]
            unfold astep
            rw [if_pos (show lv ≤ 15 ∧ plOf p [] < (lv : Int) from hTK)]
          have st1 := Lib.hid (T.stored q3)
          have lop : Hid ((lvs []).length = 0 ∧ (lfs []).length = 0) := ⟨by rw [lvs_len]; rfl, by rw [lfs_len]; rfl⟩
          have hn100 : 0 ≤ 100 := by have : ([] : List Fr).length = 0 := rfl; have := hLen; simp only at this; omega
          clear hTK
          go_wp2_with fail
          change Code.wp _ _ _ _ (wr.setCell ⟨w.heap.size, lv, none⟩ (.int .u32 ((c lv : Int) + 1)))
          change Hid (TK w (wr.setCell ⟨w.heap.size, lv, none⟩ (.int .u32 ((c lv : Int) + 1))) w.heap.size _ _ _ ∧ _) at st1
          generalize wr.setCell ⟨w.heap.size, lv, none⟩ (.int .u32 ((c lv : Int) + 1)) = V at st1 ⊢
          have cL1 := st1.out.2 _ _ _ cL hfar'
          have O1 : Hid (V.ownsRow w.heap.size 5 1 _ 0 (lvs [])) := st1.out.1.o
          have L1 : Hid (V.ownsRow w.heap.size 3 1 _ 0 (lfs [])) := st1.out.1.l
          have U1 := Lib.hid st1.out.1.out
          have G1 := Lib.hid st1.out.1.g
          have hlV : lb < V.heap.size := Nat.lt_of_lt_of_le hfar G1.out.size
          clear st1 kout kfr T cL HS
          go_region_held3 (fun w' => w'.cell? ⟨lb, lo + j, none⟩ = some (.int .u8 (lv : Int)) ∧ Below V.heap.size V w')
            (first
              | exact ⟨cL1, (Below.refl _ _).drew⟩
              | (go_split_ands; exact held_alloc (by assumption) (by assumption))
              | (go_split_ands; exact held_bel (by assumption) (by assumption) hlV hbL))
            (first
              | (go_split_ands; refine step_cat8 rfl _ _ rfl V.heap.size (.slice (some ⟨_, 0, none⟩) 0 0) _ 0 (lvs []) rfl (by first | exact own_none (heap_alloc_last _ _) (by simp) | exact own_none (heap_alloc2_old _ _ _) (by simp) | exact own_none (heap_alloc2_new _ _ _) (by simp)) rfl (own_low (own_in O1.out (by assumption)) (Nat.zero_le _)) (lvs_one _) (by omega) (Below.size (by assumption)) ?_; intro v1 w3 ho1 hbL hkeep)
              | (go_split_ands; refine step_one8 rfl _ _ rfl V.heap.size _ 0 (lvs []) (.int .u8 (lv : Int)) rfl rfl (by first | exact ho1 | exact ho1.alloc _) _ _ rfl (by first | exact heap_alloc_last _ _ | exact hkeep _ _ (by simp [Value.ownBlock]) (heap_alloc2_old _ _ _) | exact hkeep _ _ (by simp [Value.ownBlock]) (heap_alloc2_new _ _ _)) (by omega) (Below.size (by assumption)) ?_; intro g2 k2 w4 ho2 hbL))
          all_goals
            rename_i hH
            have gV := Lib.hid hH.2
            have O2 : Hid (w4.ownsRow w.heap.size 5 1 (.slice (some ⟨g2, 0, none⟩) (0 + 1) k2) (0 + 1) (lvs ((lv, 5) :: []))) := by
              unfold Hid; rw [lvs_cons]; exact own_low ho2 G1.out.size
            have L2 := Lib.hid (own_in L1.out gV.out)
            clear hH ho1 ho2 hbL hkeep cL1
            go_wp2_with (first
              | (at_builtin; refine wpList_cat rfl _ _ 170 3 _ 8 int_under int_parts rfl (by decide) rfl w4.heap.size (.slice (some ⟨w4.heap.size, 0, none⟩) 0 0) _ 0 (lfs []) (by exact rfl) (by exact own_none (heap_alloc_last _ _) (Nat.le_refl _)) (by exact rfl) (by exact own_low (own_bel L2.out ((Below.refl _ _).alloc (Nat.le_refl _) _)) (Nat.zero_le _)) (lfs_one _) (by omega) (by simp) ?_
                 intro v5 w5 ho5 hb5 hk5
                 have B5 : Hid (Below w4.heap.size w4 w5) := bel_two ((Below.refl w4.heap.size w4).alloc (Nat.le_refl _) (.cells #[] 3)) hb5)
              | (at_builtin; refine wpList_one rfl _ _ 170 3 _ 8 int_under int_parts rfl (by decide) rfl w4.heap.size _ 0 (lfs []) (.int .i64 5) rfl (by exact rfl) (by exact own_bel ho5 ((Below.refl _ _).alloc (Nat.le_refl _) _)) w5.heap.size 1 (by exact rfl) (by exact heap_alloc_last _ _) (by omega) (by have := B5.out.size; simp; omega) ?_
                 intro g6 k6 w6 ho6 hb6
                 have B6 : Hid (Below w4.heap.size w4 w6) := bel_two (B5.out.alloc B5.out.size (.cells #[.int .i64 5] 3)) hb6))
            have G6 := Lib.hid (bel_trans G1.out (bel_trans gV.out B6.out))
            have FT : Hid (TK w w6 w.heap.size (.slice (some ⟨g2, 0, none⟩) (0 + 1) k2) (.slice (some ⟨g6, 0, none⟩) (0 + 1) k6) (asteps p L (j + 1))) := by
              unfold Hid
              rw [nxt.out]
              exact ⟨bel_heap (bel_trans gV.out B6.out) U1.out, own_in O2.out B6.out, by rw [lfs_cons]; exact own_low ho6 (Nat.le_trans G1.out.size gV.out.size), Nat.le_refl _, G6.out⟩
            clear ho5 hb5 hk5 ho6 hb6 B5 B6 U1
            go_wp2_with fail
            go_roundw
            case rel => exact ⟨j + 1, by omega, by go_num, FT.out⟩
            case measure => simp [intOf]; omega
        · have nxt : Hid (asteps p L (j + 1) = ⟨[], c, ib + 1⟩) := by
            unfold Hid
            rw [HS.out]
            unfold astep
            rw [if_neg (show ¬ (lv ≤ 15 ∧ plOf p [] < (lv : Int)) from hTK)]
          have FT : Hid (TK w wr w.heap.size (.slice po 0 co) (.slice pl 0 cl) (asteps p L (j + 1))) := by
            unfold Hid; rw [nxt.out]; exact ⟨T.out, T.o, T.l, T.gt, T.g⟩
          clear T HS
          by_cases hq : lv ≤ 15
          · have q1 : (lv : Int) ≤ 15 := by omega
            have q2 : (lv : Int) ≤ p := by omega
            clear hTK hq
            go_wp2_with fail
            go_roundw
            case rel => exact ⟨j + 1, by omega, by go_num, FT.out⟩
            case measure => simp [intOf]; omega
          · have q1 : (15 : Int) < lv := by omega
            clear hTK hq
            go_wp2_with fail
            go_roundw
            case rel => exact ⟨j + 1, by omega, by go_num, FT.out⟩
            case measure => simp [intOf]; omega
      · obtain ⟨o1, o2, o3, o4, o5, o6⟩ := hOp
        rcases A7.own_of T.o with ⟨_, h⟩ | ⟨g, co, rfl⟩
        · cases h
        rcases A7.own_of T.l with ⟨_, h⟩ | ⟨gl, cl, rfl⟩
        · cases h
        simp only [List.length_cons] at T
        have kO : wr.cell? ⟨g, r.length, none⟩ = some (.int .u8 (k : Int)) := by
          have h := A7.own_cell T.o r.length (.int .u8 (k : Int)) (by show (lvs ((k, l) :: r))[r.length]? = _; rw [lvs_cons, List.getElem?_append_right (by rw [lvs_len]; exact Nat.le_refl _), lvs_len]; simp)
          rw [Nat.zero_add] at h; exact h
        by_cases hTK : lv ≤ 15 ∧ (k : Int) < (lv : Int)
        · have q1 : (lv : Int) ≤ 15 := by omega
          have q2 : (k : Int) < (lv : Int) := hTK.2
          have q3 : lv < 16 := by omega
          have kout := row_cell (j := lv) T.out (oc_get c q3)
          have kfr := row_frozen (j := lv) T.out
          have hw1 : IntKind.u32.wrap ((c lv : Int) + 1) = (c lv : Int) + 1 := IntWalk.u32_in _ (by have := HC.out lv; omega)
          have nxt : Hid (asteps p L (j + 1) = ⟨(lv, 5) :: ((k, l) :: r), updN c lv (c lv + 1), ib⟩) := by
            unfold Hid
            rw [HS.out]
            unfold astep
            rw [if_pos (show lv ≤ 15 ∧ plOf p ((k, l) :: r) < (lv : Int) from hTK)]
          have st1 := Lib.hid (T.stored q3)
          have lop : Hid ((lvs ((k, l) :: r)).length = (r.length + 1) ∧ (lfs ((k, l) :: r)).length = (r.length + 1)) := ⟨by rw [lvs_len]; rfl, by rw [lfs_len]; rfl⟩
          have hn100 : (r.length + 1) ≤ 100 := by have : (((k, l) :: r) : List Fr).length = (r.length + 1) := rfl; have := hLen; simp only at this; omega
          clear hTK
          go_wp2_with fail
          change Code.wp _ _ _ _ (wr.setCell ⟨w.heap.size, lv, none⟩ (.int .u32 ((c lv : Int) + 1)))
          change Hid (TK w (wr.setCell ⟨w.heap.size, lv, none⟩ (.int .u32 ((c lv : Int) + 1))) w.heap.size _ _ _ ∧ _) at st1
          generalize wr.setCell ⟨w.heap.size, lv, none⟩ (.int .u32 ((c lv : Int) + 1)) = V at st1 ⊢
          have cL1 := st1.out.2 _ _ _ cL hfar'
          have O1 : Hid (V.ownsRow w.heap.size 5 1 _ (r.length + 1) (lvs ((k, l) :: r))) := st1.out.1.o
          have L1 : Hid (V.ownsRow w.heap.size 3 1 _ (r.length + 1) (lfs ((k, l) :: r))) := st1.out.1.l
          have U1 := Lib.hid st1.out.1.out
          have G1 := Lib.hid st1.out.1.g
          have hlV : lb < V.heap.size := Nat.lt_of_lt_of_le hfar G1.out.size
          clear st1 kout kfr T cL HS
          go_region_held3 (fun w' => w'.cell? ⟨lb, lo + j, none⟩ = some (.int .u8 (lv : Int)) ∧ Below V.heap.size V w')
            (first
              | exact ⟨cL1, (Below.refl _ _).drew⟩
              | (go_split_ands; exact held_alloc (by assumption) (by assumption))
              | (go_split_ands; exact held_bel (by assumption) (by assumption) hlV hbL))
            (first
              | (go_split_ands; refine step_cat8 rfl _ _ rfl V.heap.size (.slice (some ⟨_, 0, none⟩) 0 0) _ (r.length + 1) (lvs ((k, l) :: r)) rfl (by first | exact own_none (heap_alloc_last _ _) (by simp) | exact own_none (heap_alloc2_old _ _ _) (by simp) | exact own_none (heap_alloc2_new _ _ _) (by simp)) rfl (own_low (own_in O1.out (by assumption)) (Nat.zero_le _)) (lvs_one _) (by omega) (Below.size (by assumption)) ?_; intro v1 w3 ho1 hbL hkeep)
              | (go_split_ands; refine step_one8 rfl _ _ rfl V.heap.size _ (r.length + 1) (lvs ((k, l) :: r)) (.int .u8 (lv : Int)) rfl rfl (by first | exact ho1 | exact ho1.alloc _) _ _ rfl (by first | exact heap_alloc_last _ _ | exact hkeep _ _ (by simp [Value.ownBlock]) (heap_alloc2_old _ _ _) | exact hkeep _ _ (by simp [Value.ownBlock]) (heap_alloc2_new _ _ _)) (by omega) (Below.size (by assumption)) ?_; intro g2 k2 w4 ho2 hbL))
          all_goals
            rename_i hH
            have gV := Lib.hid hH.2
            have O2 : Hid (w4.ownsRow w.heap.size 5 1 (.slice (some ⟨g2, 0, none⟩) ((r.length + 1) + 1) k2) ((r.length + 1) + 1) (lvs ((lv, 5) :: ((k, l) :: r)))) := by
              unfold Hid; rw [lvs_cons]; exact own_low ho2 G1.out.size
            have L2 := Lib.hid (own_in L1.out gV.out)
            clear hH ho1 ho2 hbL hkeep cL1
            go_wp2_with (first
              | (at_builtin; refine wpList_cat rfl _ _ 170 3 _ 8 int_under int_parts rfl (by decide) rfl w4.heap.size (.slice (some ⟨w4.heap.size, 0, none⟩) 0 0) _ (r.length + 1) (lfs ((k, l) :: r)) (by exact rfl) (by exact own_none (heap_alloc_last _ _) (Nat.le_refl _)) (by exact rfl) (by exact own_low (own_bel L2.out ((Below.refl _ _).alloc (Nat.le_refl _) _)) (Nat.zero_le _)) (lfs_one _) (by omega) (by simp) ?_
                 intro v5 w5 ho5 hb5 hk5
                 have B5 : Hid (Below w4.heap.size w4 w5) := bel_two ((Below.refl w4.heap.size w4).alloc (Nat.le_refl _) (.cells #[] 3)) hb5)
              | (at_builtin; refine wpList_one rfl _ _ 170 3 _ 8 int_under int_parts rfl (by decide) rfl w4.heap.size _ (r.length + 1) (lfs ((k, l) :: r)) (.int .i64 5) rfl (by exact rfl) (by exact own_bel ho5 ((Below.refl _ _).alloc (Nat.le_refl _) _)) w5.heap.size 1 (by exact rfl) (by exact heap_alloc_last _ _) (by omega) (by have := B5.out.size; simp; omega) ?_
                 intro g6 k6 w6 ho6 hb6
                 have B6 : Hid (Below w4.heap.size w4 w6) := bel_two (B5.out.alloc B5.out.size (.cells #[.int .i64 5] 3)) hb6))
            have G6 := Lib.hid (bel_trans G1.out (bel_trans gV.out B6.out))
            have FT : Hid (TK w w6 w.heap.size (.slice (some ⟨g2, 0, none⟩) ((r.length + 1) + 1) k2) (.slice (some ⟨g6, 0, none⟩) ((r.length + 1) + 1) k6) (asteps p L (j + 1))) := by
              unfold Hid
              rw [nxt.out]
              exact ⟨bel_heap (bel_trans gV.out B6.out) U1.out, own_in O2.out B6.out, by rw [lfs_cons]; exact own_low ho6 (Nat.le_trans G1.out.size gV.out.size), Nat.le_refl _, G6.out⟩
            clear ho5 hb5 hk5 ho6 hb6 B5 B6 U1
            go_wp2_with fail
            go_roundw
            case rel => exact ⟨j + 1, by omega, by go_num, FT.out⟩
            case measure => simp [intOf]; omega
        · have kL : wr.cell? ⟨gl, r.length, none⟩ = some (.int .i64 (l : Int)) := by
            have h := A7.own_cell T.l r.length (.int .i64 (l : Int)) (by show (lfs ((k, l) :: r))[r.length]? = _; rw [lfs_cons, List.getElem?_append_right (by rw [lfs_len]; exact Nat.le_refl _), lfs_len]; simp)
            rw [Nat.zero_add] at h; exact h
          obtain ⟨cur, hgl⟩ := A7.own_typ T.l rfl
          have kF := row_frozen (j := r.length) hgl
          have nxt : Hid (asteps p L (j + 1) = if l = 1 then ⟨r, c, ib⟩ else ⟨(k, l - 1) :: r, c, ib⟩) := by
            unfold Hid
            rw [HS.out]
            unfold astep
            rw [if_neg (show ¬ (lv ≤ 15 ∧ plOf p ((k, l) :: r) < (lv : Int)) from hTK)]
          have LS := Lib.hid (T.less (l - 1))
          have hco : r.length ≤ co := by have := own_le T.o; omega
          have hcl : r.length ≤ cl := by have := own_le T.l; omega
          have e1 : ((l - 1 : Nat) : Int) = (l : Int) - 1 := by omega
          rw [e1] at LS
          have hl1 : (1 : Int) ≤ l := by omega
          have hl5 : (l : Int) ≤ 5 := by omega
          have hrn : r.length ≤ 100 := by have h := hLen; simp only [List.length_cons] at h; omega
          clear T HS hgl e1 hLen
          have hcmp : (lv : Int) ≤ 15 ∧ (lv : Int) ≤ k ∨ (15 : Int) < lv := by omega
          by_cases h1l : l = 1
          · subst h1l
            have FT : Hid (TK w (wr.setCell ⟨gl, r.length, none⟩ (.int .i64 0)) w.heap.size (.slice (some ⟨g, 0, none⟩) r.length co) (.slice (some ⟨gl, 0, none⟩) r.length cl) (asteps p L (j + 1))) := by
              unfold Hid; rw [nxt.out, if_pos rfl]; exact LS.out.2
            clear LS hTK
            rcases hcmp with ⟨q1, q2⟩ | q1
            · go_wp2_with fail
              go_roundw
              case rel => exact ⟨j + 1, by omega, by go_num, FT.out⟩
              case measure => simp [intOf]; omega
            · go_wp2_with fail
              go_roundw
              case rel => exact ⟨j + 1, by omega, by go_num, FT.out⟩
              case measure => simp [intOf]; omega
          · have FT : Hid (TK w (wr.setCell ⟨gl, r.length, none⟩ (.int .i64 ((l : Int) - 1))) w.heap.size (.slice (some ⟨g, 0, none⟩) (r.length + 1) co) (.slice (some ⟨gl, 0, none⟩) (r.length + 1) cl) (asteps p L (j + 1))) := by
              unfold Hid; rw [nxt.out, if_neg h1l]; exact LS.out.1
            have hne : ¬ (l : Int) - 1 = 0 := by omega
            clear LS hTK
            rcases hcmp with ⟨q1, q2⟩ | q1
            · go_wp2_with fail
              go_roundw
              case rel => exact ⟨j + 1, by omega, by go_num, FT.out⟩
              case measure => simp [intOf]; omega
            · go_wp2_with fail
              go_roundw
              case rel => exact ⟨j + 1, by omega, by go_num, FT.out⟩
              case measure => simp [intOf]; omega
    · obtain rfl : j = N := by omega
      have TT := Lib.hid T
      clear T
      go_wp2_with fail
      go_ret
      exact ⟨_, rfl, TT.out.out, TT.out.gt, TT.out.g⟩
end Go.Proofs.YtgbodbejcffclaaGreatDoor.K6
