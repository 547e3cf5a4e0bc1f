/- Package asm as it has landed: where a list lies; worlds in which only some blocks have turned; a value laid behind a row of one's own. -/
import Derived.Test.YtgbodbejcffclaaDoorAsmMath
import Derived.Test.YtgbodbejcffclaaDoorInstSmall
import Derived.Test.YtgbodbejcffclaaDoorSl
import Derived.Laws.AppendOwn
import Derived.ArgAppend
import Derived.Maps.OwnSet
import Derived.Maps.AppendAt
namespace Go.Proofs.YtgbodbejcffclaaDoor.A7
open Go.RowKit Go.Maps
set_option linter.unusedVariables false
/-! Worlds of which only some old blocks may have turned. -/
structure Turns (G : Nat → Prop) (w w' : World) : Prop where
  os : w'.os = w.os
  tape : w'.tape = w.tape
  output : w'.output = w.output
  size : w.heap.size ≤ w'.heap.size
  block : ∀ i, i < w.heap.size → ¬ G i → w'.heap[i]? = w.heap[i]?
theorem Turns.refl (G : Nat → Prop) (w : World) : Turns G w w := ⟨rfl, rfl, rfl, Nat.le_refl _, fun _ _ _ => rfl⟩
theorem Turns.of_bel {G : Nat → Prop} {w w' : World} (h : Below w.heap.size w w') : Turns G w w' := ⟨h.os, h.tape, h.output, h.size, fun i hi _ => h.block i hi⟩
theorem Turns.of_only {G : Nat → Prop} {w w' : World} {b : Nat} (h : w.grownBy w' (some b)) (hb : G b) : Turns G w w' :=
  ⟨h.os, h.tape, h.output, h.size, fun i hi hn => h.block i hi (fun e => hn (by injection e with e; exact e ▸ hb))⟩
theorem Turns.trans {G G' : Nat → Prop} {a b c : World} (h : Turns G a b) (k : Turns G' b c) (hg : ∀ i, G' i → G i ∨ a.heap.size ≤ i) : Turns G a c :=
  ⟨k.os.trans h.os, k.tape.trans h.tape, k.output.trans h.output, Nat.le_trans h.size k.size, fun i hi hn =>
    (k.block i (Nat.lt_of_lt_of_le hi h.size) (fun e => (hg i e).elim hn (fun hh => absurd hi (Nat.not_lt.2 hh)))).trans (h.block i hi hn)⟩
theorem Turns.bel {G : Nat → Prop} {a w w' : World} (h : Below a.heap.size a w) (k : Turns G w w') (hg : ∀ i, G i → a.heap.size ≤ i) : Below a.heap.size a w' :=
  ⟨k.os.trans h.os, k.tape.trans h.tape, k.output.trans h.output, Nat.le_trans h.size k.size, fun i hi =>
    (k.block i (Nat.lt_of_lt_of_le hi h.size) (fun e => absurd (hg i e) (Nat.not_le.2 hi))).trans (h.block i hi)⟩
theorem heap_lt {w : World} {b : Nat} {o : Obj} (h : w.heap[b]? = some o) : b < w.heap.size := by
  rcases Nat.lt_or_ge b w.heap.size with hl | hg
  · exact hl
  · rw [Array.getElem?_eq_none hg] at h; cases h
theorem Turns.heap {G : Nat → Prop} {w w' : World} (h : Turns G w w') {x : Nat} (hx : ¬ G x) {o : Obj} (hb : w.heap[x]? = some o) : w'.heap[x]? = some o := by
  rw [h.block x (heap_lt hb) hx]; exact hb
theorem Turns.cell {G : Nat → Prop} {w w' : World} (h : Turns G w w') {x j : Nat} (hx : ¬ G x) {v : Value} (hc : w.cell? ⟨x, j, none⟩ = some v) : w'.cell? ⟨x, j, none⟩ = some v :=
  (World.cell?_of_block (a := ⟨x, j, none⟩) (h.block x (block_lt_of_cell (a := ⟨x, j, none⟩) hc) hx)).trans hc
/-! The table of the instructions' fields. -/
def isTab (i : Nat) : Prop := i = 0
theorem tab_bel {w w' : World} (h : I2.Tab w) (k : Below w.heap.size w w') : I2.Tab w' := fun a ha b hb => bel_cell k (h a ha b hb)
theorem tab_turns {G : Nat → Prop} {w w' : World} (h : I2.Tab w) (k : Turns G w w') (hg : ∀ i, G i → ¬ isTab i) : I2.Tab w' := fun a ha b hb => k.cell (fun e => hg _ e rfl) (h a ha b hb)
theorem tab_lt {w : World} (h : I2.Tab w) {i : Nat} (hi : isTab i) : i < w.heap.size := by
  cases hi; exact block_lt_of_cell (a := ⟨_, 0 * 5 + 0, none⟩) (h 0 (by decide) 0 (by decide))
/-! Rows of one's own. -/
theorem own_same {w w' : World} {B : Nat} {t : TypeId} {s : Value} {n : Nat} {xs : List Value} (h : w.ownsRow B t 1 s n xs) (k : ∀ j, s.ownBlock = some j → w'.heap[j]? = w.heap[j]?) : w'.ownsRow B t 1 s n xs := by
  obtain ⟨h0, h | ⟨g, cap, cur, rfl, hB, hg, h1, h2, h3, h4⟩⟩ := h
  · exact ⟨h0, .inl h⟩
  · exact ⟨h0, .inr ⟨g, cap, cur, rfl, hB, (k g rfl).trans hg, h1, h2, h3, h4⟩⟩
theorem own_typ {w : World} {B : Nat} {t : TypeId} {s : Value} {n : Nat} {xs : List Value} (h : w.ownsRow B t 1 s n xs) {j : Nat} (hj : s.ownBlock = some j) : ∃ cur, w.heap[j]? = some (.cells cur t (0, 0)) := by
  obtain ⟨h0, h | ⟨g, cap, cur, rfl, hB, hg, h1, h2, h3, h4⟩⟩ := h
  · rw [h.1] at hj; cases hj
  · obtain rfl : g = j := by simpa [Value.ownBlock] using hj
    exact ⟨cur, hg⟩
/-- What lies ahead in a row that has become longer in its place. -/
theorem own_ahead {w : World} {B : Nat} {t : TypeId} {g c n m : Nat} {xs ys : List Value} (h : w.ownsRow B t 1 (.slice (some ⟨g, 0, none⟩) m c) m ys) (hn : n ≤ m) (hx : ys.take n = xs) : w.ownsRow B t 1 (.slice (some ⟨g, 0, none⟩) n c) n xs := by
  obtain ⟨h0, ⟨h, _⟩ | ⟨g', cap, cur, e, hB, hg, h1, h2, h3, h4⟩⟩ := h
  · cases h
  · injection e with e1 e2 e3
    injection e1 with e1
    injection e1 with e1
    subst e1 e3
    refine ⟨by rw [← hx, List.length_take, h0]; omega, .inr ⟨g, c, cur, rfl, hB, hg, by omega, h2, h3, ?_⟩⟩
    rw [← hx, ← h4, List.take_take]
    congr 1
    omega
/-- A value of one cell is laid behind a row of one's own. -/
theorem append_tell {w : World} (ty S E : TypeId) (z : Value) (nb : Nat) (hu : Tryd.prog.underlying S = some (.slice E)) (hp : (Tryd.prog.info? E).map (fun i => (i.zero, i.size, i.bytes)) = some (some z, 1, nb)) (hzs : z.cells.size = 1) (hnb : nb ≤ 64)
    (s : Value) (n : Nat) (xs : List Value) (u : Value) (h1u : u.oneCell' = true) (hown : w.ownsRow 0 E 1 s n xs) (c cc : Nat) (hc : w.heap[c]? = some (.cells #[u] E (0, 0))) (hn : n ≤ 1000000) :
    ∃ g' c' w', (Builtin.append_ #[S, S] ty #[s, .slice (some ⟨c, 0, none⟩) 1 cc]).run Tryd.prog w = .ok (.slice (some ⟨g', 0, none⟩) (n + 1) c') w' ∧ w'.ownsRow 0 E 1 (.slice (some ⟨g', 0, none⟩) (n + 1) c') (n + 1) (xs ++ [u]) ∧ w.grownBy w' s.ownBlock ∧ (s = .slice (some ⟨g', 0, none⟩) n c' ∨ (w.heap.size ≤ g' ∧ w.grownBy w' none)) := by
  obtain ⟨i0, hi, hz0, hz1, hz2⟩ := info_parts hp
  have hnews : ∀ j v, [u][j]? = some v → w.cell? ((⟨c, 0, none⟩ : Addr).add j) = some v := fun j v hj => by
    cases j with
    | zero => rw [add_off, cell_of_row _ _ _ _ _ _ hc]; simpa using hj
    | succ j => simp at hj
  have h1 : ∀ v ∈ [u], v.oneCell' = true := fun v hv => by simp at hv; subst hv; exact h1u
  have hbig : (n + 1) * nb ≤ 140737488355328 := Nat.le_trans (Nat.mul_le_mul (Nat.succ_le_succ hn) hnb) (by omega)
  obtain ⟨v', w', hrun, r1, r2, r3⟩ := run_append_own (P := Tryd.prog) w 0 S ty E i0 z 1 nb hu hi hz0 hz1 hz2 hzs (by decide) s n xs hown ⟨c, 0, none⟩ 1 cc [u] rfl hnews h1 (by unfold maxLen; omega) hbig (Nat.zero_le _)
  obtain ⟨g', c', rfl⟩ : ∃ g' c', v' = .slice (some ⟨g', 0, none⟩) (n + 1) c' := by
    obtain ⟨_, ⟨_, h0⟩ | ⟨g', c', _, rfl, _⟩⟩ := r1
    · omega
    · exact ⟨g', c', rfl⟩
  refine ⟨g', c', w', hrun, r1, r2, ?_⟩
  obtain ⟨hlen, ⟨rfl, h0⟩ | ⟨b0, cap, cur, rfl, _, hb0, hnc, hcm, hcs, hct⟩⟩ := hown
  · right
    subst h0
    obtain rfl : xs = [] := List.eq_nil_of_length_eq_zero (by simpa using hlen)
    obtain ⟨v2, w2, hrun2, q1, q2, _⟩ := run_append_own (P := Tryd.prog) w w.heap.size S ty E i0 z 1 nb hu hi hz0 hz1 hz2 hzs (by decide) (.slice none 0 0) 0 [] (World.ownsRow_nil w _ _ _) ⟨c, 0, none⟩ 1 cc [u] rfl hnews h1 (by unfold maxLen; omega) hbig (Nat.le_refl _)
    rw [hrun2] at hrun
    simp only [Result.ok.injEq] at hrun
    obtain ⟨rfl, rfl⟩ := hrun
    exact ⟨(q1.lt g' rfl).1, q2⟩
  · by_cases hroom : n + 1 ≤ cap
    · left
      have := run_append_room_cells (P := Tryd.prog) w S ty E i0 hu hi b0 0 n cap ⟨c, 0, none⟩ 1 cc [u] (by rw [hz1]; rfl) hnews h1 hroom
        (fun j hj => by
          obtain rfl : j = 0 := by simpa using hj
          rw [hz1, cell_of_row _ _ _ _ _ _ hb0]; simp; omega)
        (fun j hj => by rw [frozen_of_row _ _ _ _ _ hb0])
      rw [this] at hrun
      simp only [Result.ok.injEq, Value.slice.injEq, Option.some.injEq, Addr.mk.injEq] at hrun
      obtain ⟨⟨⟨rfl, _⟩, _, rfl⟩, _⟩ := hrun
      rfl
    · right
      obtain ⟨v2, w2, hrun2, q1, q2⟩ := run_append_arg_grows (P := Tryd.prog) w S ty E i0 z 1 nb hu hi hz0 hz1 hz2 hzs (by decide) ⟨b0, 0, none⟩ n cap xs (by rw [hlen])
        (fun j v hj => by
          have hjn : j < n := by
            rcases Nat.lt_or_ge j n with hh | hh
            · exact hh
            · rw [List.getElem?_eq_none (by rw [hlen]; omega)] at hj; cases hj
          rw [add_off, Nat.zero_add, cell_of_row _ _ _ _ _ _ hb0, ← hj, ← hct, List.getElem?_take_of_lt (by omega)]; simp)
        ⟨c, 0, none⟩ 1 cc [u] rfl hnews (by omega) (by unfold maxLen; omega) hbig
      rw [hrun2] at hrun
      simp only [Result.ok.injEq] at hrun
      obtain ⟨rfl, rfl⟩ := hrun
      exact ⟨(q1.lt g' rfl).1, q2⟩
/-- The same at the operation. -/
theorem wpList_tell {w : World} {ops : Array Oper} {rest : List Oper} {o : Oper} {a : Go.Act} {Q : Exit → Go.Act → World → Prop} (hgd : o.guard = none) (sx x : Operand) (S E : TypeId)
    (ho : o.op = .call { callee := .builtin .append, args := #[sx, x], argTypes := #[S, S] }) (z : Value) (nb : Nat) (hu : Tryd.prog.underlying S = some (.slice E)) (hp : (Tryd.prog.info? E).map (fun i => (i.zero, i.size, i.bytes)) = some (some z, 1, nb)) (hzs : z.cells.size = 1) (hnb : nb ≤ 64)
    (s : Value) (n : Nat) (xs : List Value) (u : Value) (h1u : u.oneCell' = true) (hs : a.eval sx = s) (hown : w.ownsRow 0 E 1 s n xs) (c cc : Nat) (hx : a.eval x = .slice (some ⟨c, 0, none⟩) 1 cc) (hc : w.heap[c]? = some (.cells #[u] E (0, 0))) (hn : n ≤ 1000000)
    (h : ∀ g' c' w', w'.ownsRow 0 E 1 (.slice (some ⟨g', 0, none⟩) (n + 1) c') (n + 1) (xs ++ [u]) → w.grownBy w' s.ownBlock → (s = .slice (some ⟨g', 0, none⟩) n c' ∨ (w.heap.size ≤ g' ∧ w.grownBy w' none)) → wpList Tryd.prog ops Q rest (a.put o.dst (.slice (some ⟨g', 0, none⟩) (n + 1) c')) w') :
    wpList Tryd.prog ops Q (o :: rest) a w := by
  refine wpList_plain hgd fun K hK => ?_
  obtain ⟨g', c', w', hr, r1, r2, r3⟩ := append_tell (w := w) o.type S E z nb hu hp hzs hnb s n xs u h1u hown c cc hc hn
  unfold Oper.wp execOp
  simp only [ho, resolve, invoke, builtin, Sem.run_bind, Sem.run_pure, Result.andThen_ok, List.map_toArray, List.map_cons, List.map_nil, hs, hx, hr]
  exact hK _ _ (h g' c' w' r1 r2 r3)
theorem words_under : Tryd.prog.underlying 29 = some (.slice 49) := by kernel_rfl
theorem words_parts : (Tryd.prog.info? 49).map (fun i => (i.zero, i.size, i.bytes)) = some (some (.int .u32 0), 1, 4) := by kernel_rfl
theorem comp_under : Tryd.prog.underlying 41 = some (.slice 52) := by kernel_rfl
theorem comp_parts : (Tryd.prog.info? 52).map (fun i => (i.zero, i.size, i.bytes)) = some (some .nilFunc, 1, 8) := by kernel_rfl
theorem string_keys : Keyed Tryd.prog 9 := string_keyed Tryd.underlying9
theorem key_of (s : ByteArray) (h : s.size ≤ maxLen) : keyOf Tryd.prog 9 (.string s) = some (key s) := WideMaps.keyOf_string_mk Tryd.underlying9 h
/-! Where a list lies. -/
/-- The value of a jump: a closure over its name, its instruction and its place. -/
def jval (bn bx ba : Nat) : Value := .func (.func 0) #[] #[.pointer (some ⟨bn, 0, none⟩), .pointer (some ⟨bx, 0, none⟩), .pointer (some ⟨ba, 0, none⟩)]
structure JIn (w : World) (G : Nat → Prop) (bn bx ba : Nat) (j : AJ) : Prop where
  name : w.heap[bn]? = some (.cells #[.string j.nm] 9 (0, 0))
  inst : w.heap[bx]? = some (.cells #[.int .u8 j.op, .int .u8 j.rd, .int .u8 0, .int .u8 0, .bool true, .int .i32 0] 57 (0, 0))
  pos : w.heap[ba]? = some (.cells #[.int .i64 j.pos] 3 (0, 0))
  gn : ¬ G bn
  gx : ¬ G bx
  ga : ¬ G ba
def JAt (w : World) (G : Nat → Prop) (v : Value) (j : AJ) : Prop := ∃ bn bx ba, v = jval bn bx ba ∧ JIn w G bn bx ba j
theorem JAt.turns {w w' : World} {G H G' : Nat → Prop} {v : Value} {j : AJ} (h : JAt w G v j) (k : Turns H w w') (hH : ∀ i, H i → G i ∨ w.heap.size ≤ i) (hg : ∀ i, G' i → G i ∨ w.heap.size ≤ i) : JAt w' G' v j := by
  obtain ⟨bn, bx, ba, rfl, h⟩ := h
  have l1 := heap_lt h.name
  have l2 := heap_lt h.inst
  have l3 := heap_lt h.pos
  have no : ∀ (K : Nat → Prop), (∀ i, K i → G i ∨ w.heap.size ≤ i) → ∀ i, ¬ G i → i < w.heap.size → ¬ K i := fun K hK i hi hl e => (hK i e).elim hi (fun h => by omega)
  exact ⟨bn, bx, ba, rfl, k.heap (no _ hH _ h.gn l1) h.name, k.heap (no _ hH _ h.gx l2) h.inst, k.heap (no _ hH _ h.ga l3) h.pos, no _ hg _ h.gn l1, no _ hg _ h.gx l2, no _ hg _ h.ga l3⟩
structure JOk (n : Nat) (j : AJ) : Prop where
  may : I2.may j.op j.rd 0 0 true 0 = true
  op : (j.op = 17 ∧ 0 ≤ j.rd ∧ j.rd ≤ 6) ∨ (j.op = 18 ∧ j.rd = 0)
  pos : j.pos < n
  nm : j.nm.size ≤ maxLen
theorem JOk.mono {n m : Nat} {j : AJ} (h : JOk n j) (k : n ≤ m) : JOk m j := { h with pos := Nat.lt_of_lt_of_le h.pos k }
structure AOk (q : AS) : Prop where
  n : q.n ≤ 100000
  ms : q.ms.length ≤ 100000
  at_ : ∀ p ∈ q.ms, p.2 ≤ q.n
  js : ∀ j ∈ q.js, JOk q.n j
  jl : q.js.length ≤ q.n
/-- In world w a list q lies in block b. All of its blocks that may turn are G's, all that may turn at all (those of other lists, too) K's. -/
structure AsmP (w : World) (b mp : Nat) (wv jv : Value) (vs : List Value) (G K : Nat → Prop) (q : AS) : Prop where
  box : w.heap[b]? = some (.cells #[.pointer (some ⟨b, 0, none⟩), wv, .map (some mp), jv] 43 (0, 0))
  words : w.ownsRow 0 49 1 wv q.n (bsL .u32 q.ws q.n)
  marks : w.ownsMap Tryd.prog 9 (plainElem Tryd.prog 3) mp q.ms.length (mD q.ms)
  jumps : w.ownsRow 0 52 1 jv q.js.length vs
  each : ∀ (i : Nat) (v : Value) (j : AJ), vs[i]? = some v → q.js[i]? = some j → JAt w K v j
  gb : G b
  gm : G mp
  gw : ∀ j, wv.ownBlock = some j → G j
  gj : ∀ j, jv.ownBlock = some j → G j
  sub : ∀ i, G i → K i
  klt : ∀ i, K i → i < w.heap.size
  far : ∀ i, G i → ¬ isTab i
  tab : I2.Tab w
  ok : AOk q
def AsmB (w : World) (b : Nat) (G K : Nat → Prop) (q : AS) : Prop := ∃ mp wv jv vs, AsmP w b mp wv jv vs G K q
section
variable {w w' : World} {b mp : Nat} {wv jv : Value} {vs : List Value} {G K : Nat → Prop} {q : AS}
theorem AsmP.lt (h : AsmP w b mp wv jv vs G K q) : ∀ i, G i → i < w.heap.size := fun i hi => h.klt i (h.sub i hi)
theorem AsmP.toB (h : AsmP w b mp wv jv vs G K q) : AsmB w b G K q := ⟨mp, wv, jv, vs, h⟩
theorem map_same {H : Type} {k : TypeId} {R : Value → Option (DataW H × List MemPlace)} {x n : Nat} {D : DataW H} (h : w.ownsMap Tryd.prog k R x n D) (e : w'.heap[x]? = w.heap[x]?) : w'.ownsMap Tryd.prog k R x n D := by
  obtain ⟨es, clock, hb, F⟩ := h
  exact ⟨es, clock, e.trans hb, F⟩
theorem AsmP.same (h : AsmP w b mp wv jv vs G K q) {H : Nat → Prop} (k : Turns H w w') (hH : ∀ i, G i → ¬ H i) (hT : ∀ i, H i → ¬ isTab i) (hJ : ∀ (i : Nat) (v : Value) (j : AJ), vs[i]? = some v → q.js[i]? = some j → JAt w' K v j) : AsmP w' b mp wv jv vs G K q :=
  have e := fun i (hi : G i) => k.block i (h.lt i hi) (hH i hi)
  { h with
    box := (e _ h.gb).trans h.box
    words := own_same h.words fun j hj => e _ (h.gw j hj)
    marks := map_same h.marks (e _ h.gm)
    jumps := own_same h.jumps fun j hj => e _ (h.gj j hj)
    each := hJ
    klt := fun i hi => Nat.lt_of_lt_of_le (h.klt i hi) k.size
    tab := tab_turns h.tab k hT }
theorem AsmP.bel (h : AsmP w b mp wv jv vs G K q) (k : Below w.heap.size w w') : AsmP w' b mp wv jv vs G K q :=
  h.same (H := fun _ => False) (Turns.of_bel k) (fun _ _ e => e) (fun _ e => e.elim) fun i v j hv hj => (h.each i v j hv hj).turns (H := fun _ => False) (Turns.of_bel k) (fun _ e => e.elim) (fun _ e => .inl e)
theorem AsmB.bel (h : AsmB w b G K q) (k : Below w.heap.size w w') : AsmB w' b G K q := by
  obtain ⟨mp, wv, jv, vs, h⟩ := h; exact (h.bel k).toB
/-! Its blocks are not the same ones. -/
theorem AsmP.bm (h : AsmP w b mp wv jv vs G K q) : b ≠ mp := by
  rintro rfl; obtain ⟨es, clock, hb, _⟩ := h.marks; rw [h.box] at hb; cases hb
theorem not_typ {c : Array Value} {t t' : TypeId} {y z : Nat} (hy : w.heap[y]? = some (.cells c t (0, 0))) (ht : t ≠ t') (hz : ∃ cur, w.heap[z]? = some (.cells cur t' (0, 0))) : z ≠ y := by
  rintro rfl; obtain ⟨cur, hz⟩ := hz; rw [hy] at hz; simp at hz; exact ht hz.2
theorem AsmP.wb (h : AsmP w b mp wv jv vs G K q) {j : Nat} (hj : wv.ownBlock = some j) : j ≠ b ∧ j ≠ mp ∧ jv.ownBlock ≠ some j := by
  refine ⟨not_typ h.box (by decide) (own_typ h.words hj), ?_, fun e => ?_⟩
  · rintro rfl; obtain ⟨es, clock, hb, _⟩ := h.marks; obtain ⟨cur, hc⟩ := own_typ h.words hj; rw [hc] at hb; cases hb
  · obtain ⟨cur, hc⟩ := own_typ h.words hj; exact not_typ hc (by decide) (own_typ h.jumps e) rfl
theorem AsmP.jb (h : AsmP w b mp wv jv vs G K q) {j : Nat} (hj : jv.ownBlock = some j) : j ≠ b ∧ j ≠ mp ∧ wv.ownBlock ≠ some j := by
  refine ⟨not_typ h.box (by decide) (own_typ h.jumps hj), ?_, fun e => ?_⟩
  · rintro rfl; obtain ⟨es, clock, hb, _⟩ := h.marks; obtain ⟨cur, hc⟩ := own_typ h.jumps hj; rw [hc] at hb; cases hb
  · obtain ⟨cur, hc⟩ := own_typ h.jumps hj; exact not_typ hc (by decide) (own_typ h.words e) rfl
/-- The same list among fewer blocks that may turn. -/
theorem AsmP.narrow {K' : Nat → Prop} (h : AsmP w b mp wv jv vs G K q) (hs : ∀ i, G i → K' i) (hk : ∀ i, K' i → K i) : AsmP w b mp wv jv vs G K' q :=
  { h with
    each := fun i v j hv hj => (h.each i v j hv hj).turns (H := fun _ => False) (Turns.refl _ _) (fun _ e => e.elim) (fun i e => .inl (hk i e))
    sub := hs
    klt := fun i hi => h.klt i (hk i hi) }
theorem AsmP.widen (h : AsmP w b mp wv jv vs G K q) : AsmP w b mp wv jv vs G (fun i => K i ∨ G i) q := h.narrow (fun _ e => .inr e) (fun i e => e.elim id (h.sub i))
theorem AsmB.widen (h : AsmB w b G K q) : AsmB w b G (fun i => K i ∨ G i) q := by
  obtain ⟨mp, wv, jv, vs, h⟩ := h; exact h.widen.toB
/-- Another list turns, or new blocks are laid. -/
theorem AsmB.beside {H H' : Nat → Prop} (h : AsmB w b G K q) (k : Turns H w w') (hG : ∀ i, G i → ¬ H i) (hH : ∀ i, H i → K i) (hT : ∀ i, H i → ¬ isTab i) (low : ∀ i, H' i → H i ∨ w.heap.size ≤ i) (lt' : ∀ i, H' i → i < w'.heap.size) : AsmB w' b G (fun i => K i ∨ H' i) q := by
  obtain ⟨mp, wv, jv, vs, h⟩ := h
  have low' : ∀ i, (K i ∨ H' i) → K i ∨ w.heap.size ≤ i := fun i hi => hi.elim .inl fun e => (low i e).imp (hH i) id
  have e := fun i (hi : G i) => k.block i (h.lt i hi) (hG i hi)
  exact ⟨mp, wv, jv, vs, { h with
    box := (e _ h.gb).trans h.box
    words := own_same h.words fun j hj => e _ (h.gw j hj)
    marks := map_same h.marks (e _ h.gm)
    jumps := own_same h.jumps fun j hj => e _ (h.gj j hj)
    each := fun i v j hv hj => (h.each i v j hv hj).turns k (fun i hi => .inl (hH i hi)) low'
    sub := fun i hi => .inl (h.sub i hi)
    klt := fun i hi => hi.elim (fun e => Nat.lt_of_lt_of_le (h.klt i e) k.size) (lt' i)
    tab := tab_turns h.tab k hT }⟩
/-- What every call on a list ends with. -/
def Left (w : World) (b : Nat) (G K : Nat → Prop) (q' : AS) (w' : World) : Prop := ∃ G', AsmB w' b G' (fun i => K i ∨ G' i) q' ∧ Turns G w w' ∧ ∀ i, G' i → G i ∨ w.heap.size ≤ i
theorem Left.bel (h : AsmB w b G K q) (k : Below w.heap.size w w') : Left w b G K q w' := ⟨G, (h.bel k).widen, Turns.of_bel k, fun _ e => .inl e⟩
end
end Go.Proofs.YtgbodbejcffclaaDoor.A7
