/- Package asm: a list of instructions with marks, as numbers and names. Package asm as it has landed: where a list lies; worlds in which only some blocks have turned; a value laid behind a row of one's own. Package asm as it has landed: New, Len, At, Mark. Package asm as it has landed: Mark; what a list keeps when one of its blocks turns. Package asm as it has landed: Put. Package asm as it has landed: constants. Package asm as it has landed: Const; a jump's closure; jumps. Package asm as it has landed: Jump, Call. Package asm as it has landed: Jump, Call, Words. Package asm as it has landed: several lists at once; two rows of words that are the same. A list of package asm that is put to: what has turned since a world. A list without jumps: its words. -/
import Derived.Test.YtmpagjijjahohaaGreatDoorBaseG
import Derived.Maps.OwnSet
import Derived.Maps.Views
import Derived.Test.YtmpagjijjahohaaGreatDoorInstG
import Derived.Laws.AppendOwn
import Derived.ArgAppend
import Derived.Maps.AppendAt
import Derived.Carry
import Derived.LaidEqlPtr
import Derived.Deep.RegionHeld3
import Derived.StillTailTactics
import Derived.WalkArith
import Derived.IntWalk
import Derived.Deep.DeepCutAuto
import Derived.Lib.SliceRun
namespace Go.Proofs.YtmpagjijjahohaaGreatDoor.A7
open Go.RowKit Go.Maps
set_option linter.unusedVariables false
/-- A jump: where it stands, what it is, where it goes. -/
structure AJ where
  pos : Nat
  op : Int
  rd : Int
  nm : ByteArray
/-- A list: its instructions' words, its marks, its jumps. -/
structure AS where
  n : Nat
  ws : Nat → Int
  ms : List (ByteArray × Nat)
  js : List AJ
/-- A list without instructions. -/
def AS.nil : AS := ⟨0, fun _ => 0, [], []⟩
def AS.add (q : AS) (u : Int) : AS := { q with n := q.n + 1, ws := F3.upd q.ws q.n u }
def AS.adds (q : AS) (f : Nat → Int) : Nat → AS
  | 0 => q
  | k + 1 => (q.adds f k).add (f k)
theorem AS.adds_n (q : AS) (f : Nat → Int) : ∀ k, (q.adds f k).n = q.n + k
  | 0 => rfl
  | k + 1 => by simp only [AS.adds, AS.add, AS.adds_n q f k]; omega
theorem AS.adds_ms (q : AS) (f : Nat → Int) : ∀ k, (q.adds f k).ms = q.ms
  | 0 => rfl
  | k + 1 => by simp only [AS.adds, AS.add, AS.adds_ms q f k]
theorem AS.adds_js (q : AS) (f : Nat → Int) : ∀ k, (q.adds f k).js = q.js
  | 0 => rfl
  | k + 1 => by simp only [AS.adds, AS.add, AS.adds_js q f k]
/-- The place of a mark. -/
def look (l : List (ByteArray × Nat)) (s : ByteArray) : Option Nat := l.foldl (fun r p => if p.1 = s then some p.2 else r) none
theorem look_nil (s : ByteArray) : look [] s = none := rfl
theorem look_snoc (l : List (ByteArray × Nat)) (k : ByteArray) (v : Nat) (s : ByteArray) : look (l ++ [(k, v)]) s = if k = s then some v else look l s := by
  simp [look, List.foldl_append]
def AS.mark (q : AS) (s : ByteArray) : AS := { q with ms := q.ms ++ [(s, q.n)] }
def AS.jump (q : AS) (op rd : Int) (s : ByteArray) : AS := { q.add (I2.enc op rd 0 0 true 0) with js := q.js ++ [⟨q.n, op, rd, s⟩] }
/-- The word of a jump whose name stands at t. -/
def AJ.word (j : AJ) (t : Nat) : Int := I2.enc j.op j.rd 0 0 true ((t : Int) - j.pos)
/-- Words as they are when the jumps are complete: none if a name is no mark. -/
def fin (ms : List (ByteArray × Nat)) : List AJ → (Nat → Int) → Option (Nat → Int)
  | [], f => some f
  | j :: l, f => match look ms j.nm with
    | none => none
    | some t => fin ms l (F3.upd f j.pos (j.word t))
def AS.words (q : AS) : Option (Nat → Int) := fin q.ms q.js q.ws
/-! The marks as the model reads them. -/
def key (s : ByteArray) : Lit := .string s.data.toList
theorem key_is (s : ByteArray) : WideAt.IsKeyLit (key s) := by unfold key WideAt.IsKeyLit; trivial
theorem key_inj {a b : ByteArray} (h : key a = key b) : a = b := by
  unfold key at h
  injection h with h
  cases a; cases b
  simp at h
  congr 1
def mD (l : List (ByteArray × Nat)) : DataW Unit := l.foldl (fun D p => D.put (key p.1) (.lit (.int .i64 p.2))) (.map [])
theorem mD_snoc (l : List (ByteArray × Nat)) (k : ByteArray) (v : Nat) : mD (l ++ [(k, v)]) = (mD l).put (key k) (.lit (.int .i64 v)) := by
  simp [mD, List.foldl_append]
theorem mD_map (l : List (ByteArray × Nat)) : IsMap (mD l) := by
  have : ∀ (l : List (ByteArray × Nat)) (D : DataW Unit), IsMap D → IsMap (l.foldl (fun D p => D.put (key p.1) (.lit (.int .i64 p.2))) D) := by
    intro l
    induction l with
    | nil => intro D h; exact h
    | cons p l ih => intro D h; exact ih _ (h.put _ _)
  exact this l _ isMap_empty
theorem snocs {α : Type} {P : List α → Prop} (h0 : P []) (h1 : ∀ l x, P l → P (l ++ [x])) (l : List α) : P l := by
  have : ∀ r : List α, P r.reverse := by
    intro r
    induction r with
    | nil => exact h0
    | cons x r ih => rw [List.reverse_cons]; exact h1 _ _ ih
  simpa using this l.reverse
theorem mD_has (l : List (ByteArray × Nat)) (s : ByteArray) : Maps.has (mD l) (key s) = (look l s).isSome := by
  refine snocs (P := fun l => Maps.has (mD l) (key s) = (look l s).isSome) rfl (fun l x ih => ?_) l
  obtain ⟨k, v⟩ := x
  rw [mD_snoc, look_snoc]
  by_cases e : k = s
  · subst e; rw [has_put_same (mD_map l) (key_is _), if_pos rfl]; rfl
  · rw [has_put_other (fun h => e (key_inj h).symm), if_neg e]; exact ih
theorem mD_at (l : List (ByteArray × Nat)) (s : ByteArray) (z : Int) : (mD l).atKey (key s) (.lit (.int .i64 z)) = .lit (.int .i64 (match look l s with | some v => (v : Int) | none => z)) := by
  refine snocs (P := fun l => (mD l).atKey (key s) (.lit (.int .i64 z)) = .lit (.int .i64 (match look l s with | some v => (v : Int) | none => z))) rfl (fun l x ih => ?_) l
  obtain ⟨k, v⟩ := x
  rw [mD_snoc, look_snoc]
  by_cases e : k = s
  · subst e; rw [atKey_put_same (mD_map l) (key_is _), if_pos rfl]
  · rw [atKey_put_other (fun h => e (key_inj h).symm), if_neg e]; exact ih
end Go.Proofs.YtmpagjijjahohaaGreatDoor.A7
namespace Go.Proofs.YtmpagjijjahohaaGreatDoor.A7
open Go.RowKit Go.Maps
set_option linter.unusedVariables false
/-! Worlds of which only some old blocks may have turned. -/
structure Turns (G : Nat → Prop) (w w' : World) : Prop where
  os : w'.os = w.os
  tape : w'.tape = w.tape
  output : w'.output = w.output
  size : w.heap.size ≤ w'.heap.size
  block : ∀ i, i < w.heap.size → ¬ G i → w'.heap[i]? = w.heap[i]?
theorem Turns.refl (G : Nat → Prop) (w : World) : Turns G w w := ⟨rfl, rfl, rfl, Nat.le_refl _, fun _ _ _ => rfl⟩
theorem Turns.of_bel {G : Nat → Prop} {w w' : World} (h : Below w.heap.size w w') : Turns G w w' := ⟨h.os, h.tape, h.output, h.size, fun i hi _ => h.block i hi⟩
theorem Turns.of_only {G : Nat → Prop} {w w' : World} {b : Nat} (h : w.grownBy w' (some b)) (hb : G b) : Turns G w w' :=
  ⟨h.os, h.tape, h.output, h.size, fun i hi hn => h.block i hi (fun e => hn (by injection e with e; exact e ▸ hb))⟩
theorem Turns.trans {G G' : Nat → Prop} {a b c : World} (h : Turns G a b) (k : Turns G' b c) (hg : ∀ i, G' i → G i ∨ a.heap.size ≤ i) : Turns G a c :=
  ⟨k.os.trans h.os, k.tape.trans h.tape, k.output.trans h.output, Nat.le_trans h.size k.size, fun i hi hn =>
    (k.block i (Nat.lt_of_lt_of_le hi h.size) (fun e => (hg i e).elim hn (fun hh => absurd hi (Nat.not_lt.2 hh)))).trans (h.block i hi hn)⟩
theorem Turns.bel {G : Nat → Prop} {a w w' : World} (h : Below a.heap.size a w) (k : Turns G w w') (hg : ∀ i, G i → a.heap.size ≤ i) : Below a.heap.size a w' :=
  ⟨k.os.trans h.os, k.tape.trans h.tape, k.output.trans h.output, Nat.le_trans h.size k.size, fun i hi =>
    (k.block i (Nat.lt_of_lt_of_le hi h.size) (fun e => absurd (hg i e) (Nat.not_le.2 hi))).trans (h.block i hi)⟩
theorem heap_lt {w : World} {b : Nat} {o : Obj} (h : w.heap[b]? = some o) : b < w.heap.size := by
  rcases Nat.lt_or_ge b w.heap.size with hl | hg
  · exact hl
  · rw [Array.getElem?_eq_none hg] at h; cases h
theorem Turns.heap {G : Nat → Prop} {w w' : World} (h : Turns G w w') {x : Nat} (hx : ¬ G x) {o : Obj} (hb : w.heap[x]? = some o) : w'.heap[x]? = some o := by
  rw [h.block x (heap_lt hb) hx]; exact hb
theorem Turns.cell {G : Nat → Prop} {w w' : World} (h : Turns G w w') {x j : Nat} (hx : ¬ G x) {v : Value} (hc : w.cell? ⟨x, j, none⟩ = some v) : w'.cell? ⟨x, j, none⟩ = some v :=
  (World.cell?_of_block (a := ⟨x, j, none⟩) (h.block x (block_lt_of_cell (a := ⟨x, j, none⟩) hc) hx)).trans hc
/-! The table of the instructions' fields. -/
def isTab (i : Nat) : Prop := i = 0
theorem tab_bel {w w' : World} (h : I2.Tab w) (k : Below w.heap.size w w') : I2.Tab w' := fun a ha b hb => bel_cell k (h a ha b hb)
theorem tab_turns {G : Nat → Prop} {w w' : World} (h : I2.Tab w) (k : Turns G w w') (hg : ∀ i, G i → ¬ isTab i) : I2.Tab w' := fun a ha b hb => k.cell (fun e => hg _ e rfl) (h a ha b hb)
theorem tab_lt {w : World} (h : I2.Tab w) {i : Nat} (hi : isTab i) : i < w.heap.size := by
  cases hi; exact block_lt_of_cell (a := ⟨_, 0 * 5 + 0, none⟩) (h 0 (by decide) 0 (by decide))
/-! Rows of one's own. -/
theorem own_same {w w' : World} {B : Nat} {t : TypeId} {s : Value} {n : Nat} {xs : List Value} (h : w.ownsRow B t 1 s n xs) (k : ∀ j, s.ownBlock = some j → w'.heap[j]? = w.heap[j]?) : w'.ownsRow B t 1 s n xs := by
  obtain ⟨h0, h | ⟨g, cap, cur, rfl, hB, hg, h1, h2, h3, h4⟩⟩ := h
  · exact ⟨h0, .inl h⟩
  · exact ⟨h0, .inr ⟨g, cap, cur, rfl, hB, (k g rfl).trans hg, h1, h2, h3, h4⟩⟩
theorem own_typ {w : World} {B : Nat} {t : TypeId} {s : Value} {n : Nat} {xs : List Value} (h : w.ownsRow B t 1 s n xs) {j : Nat} (hj : s.ownBlock = some j) : ∃ cur, w.heap[j]? = some (.cells cur t (0, 0)) := by
  obtain ⟨h0, h | ⟨g, cap, cur, rfl, hB, hg, h1, h2, h3, h4⟩⟩ := h
  · rw [h.1] at hj; cases hj
  · obtain rfl : g = j := by simpa [Value.ownBlock] using hj
    exact ⟨cur, hg⟩
/-- What lies ahead in a row that has become longer in its place. -/
theorem own_ahead {w : World} {B : Nat} {t : TypeId} {g c n m : Nat} {xs ys : List Value} (h : w.ownsRow B t 1 (.slice (some ⟨g, 0, none⟩) m c) m ys) (hn : n ≤ m) (hx : ys.take n = xs) : w.ownsRow B t 1 (.slice (some ⟨g, 0, none⟩) n c) n xs := by
  obtain ⟨h0, ⟨h, _⟩ | ⟨g', cap, cur, e, hB, hg, h1, h2, h3, h4⟩⟩ := h
  · cases h
  · injection e with e1 e2 e3
    injection e1 with e1
    injection e1 with e1
    subst e1 e3
    refine ⟨by rw [← hx, List.length_take, h0]; omega, .inr ⟨g, c, cur, rfl, hB, hg, by omega, h2, h3, ?_⟩⟩
    rw [← hx, ← h4, List.take_take]
    congr 1
    omega
/-- A value of one cell is laid behind a row of one's own. -/
theorem append_tell {w : World} (ty S E : TypeId) (z : Value) (nb : Nat) (hu : Tryz.prog.underlying S = some (.slice E)) (hp : (Tryz.prog.info? E).map (fun i => (i.zero, i.size, i.bytes)) = some (some z, 1, nb)) (hzs : z.cells.size = 1) (hnb : nb ≤ 64)
    (s : Value) (n : Nat) (xs : List Value) (u : Value) (h1u : u.oneCell' = true) (hown : w.ownsRow 0 E 1 s n xs) (c cc : Nat) (hc : w.heap[c]? = some (.cells #[u] E (0, 0))) (hn : n ≤ 1000000) :
    ∃ g' c' w', (Builtin.append_ #[S, S] ty #[s, .slice (some ⟨c, 0, none⟩) 1 cc]).run Tryz.prog w = .ok (.slice (some ⟨g', 0, none⟩) (n + 1) c') w' ∧ w'.ownsRow 0 E 1 (.slice (some ⟨g', 0, none⟩) (n + 1) c') (n + 1) (xs ++ [u]) ∧ w.grownBy w' s.ownBlock ∧ (s = .slice (some ⟨g', 0, none⟩) n c' ∨ (w.heap.size ≤ g' ∧ w.grownBy w' none)) := by
  obtain ⟨i0, hi, hz0, hz1, hz2⟩ := info_parts hp
  have hnews : ∀ j v, [u][j]? = some v → w.cell? ((⟨c, 0, none⟩ : Addr).add j) = some v := fun j v hj => by
    cases j with
    | zero => rw [add_off, cell_of_row _ _ _ _ _ _ hc]; simpa using hj
    | succ j => simp at hj
  have h1 : ∀ v ∈ [u], v.oneCell' = true := fun v hv => by simp at hv; subst hv; exact h1u
  have hbig : (n + 1) * nb ≤ 140737488355328 := Nat.le_trans (Nat.mul_le_mul (Nat.succ_le_succ hn) hnb) (by omega)
  obtain ⟨v', w', hrun, r1, r2, r3⟩ := run_append_own (P := Tryz.prog) w 0 S ty E i0 z 1 nb hu hi hz0 hz1 hz2 hzs (by decide) s n xs hown ⟨c, 0, none⟩ 1 cc [u] rfl hnews h1 (by unfold maxLen; omega) hbig (Nat.zero_le _)
  obtain ⟨g', c', rfl⟩ : ∃ g' c', v' = .slice (some ⟨g', 0, none⟩) (n + 1) c' := by
    obtain ⟨_, ⟨_, h0⟩ | ⟨g', c', _, rfl, _⟩⟩ := r1
    · omega
    · exact ⟨g', c', rfl⟩
  refine ⟨g', c', w', hrun, r1, r2, ?_⟩
  obtain ⟨hlen, ⟨rfl, h0⟩ | ⟨b0, cap, cur, rfl, _, hb0, hnc, hcm, hcs, hct⟩⟩ := hown
  · right
    subst h0
    obtain rfl : xs = [] := List.eq_nil_of_length_eq_zero (by simpa using hlen)
    obtain ⟨v2, w2, hrun2, q1, q2, _⟩ := run_append_own (P := Tryz.prog) w w.heap.size S ty E i0 z 1 nb hu hi hz0 hz1 hz2 hzs (by decide) (.slice none 0 0) 0 [] (World.ownsRow_nil w _ _ _) ⟨c, 0, none⟩ 1 cc [u] rfl hnews h1 (by unfold maxLen; omega) hbig (Nat.le_refl _)
    rw [hrun2] at hrun
    simp only [Result.ok.injEq] at hrun
    obtain ⟨rfl, rfl⟩ := hrun
    exact ⟨(q1.lt g' rfl).1, q2⟩
  · by_cases hroom : n + 1 ≤ cap
    · left
      have := run_append_room_cells (P := Tryz.prog) w S ty E i0 hu hi b0 0 n cap ⟨c, 0, none⟩ 1 cc [u] (by rw [hz1]; rfl) hnews h1 hroom
        (fun j hj => by
          obtain rfl : j = 0 := by simpa using hj
          rw [hz1, cell_of_row _ _ _ _ _ _ hb0]; simp; omega)
        (fun j hj => by rw [frozen_of_row _ _ _ _ _ hb0])
      rw [this] at hrun
      simp only [Result.ok.injEq, Value.slice.injEq, Option.some.injEq, Addr.mk.injEq] at hrun
      obtain ⟨⟨⟨rfl, _⟩, _, rfl⟩, _⟩ := hrun
      rfl
    · right
      obtain ⟨v2, w2, hrun2, q1, q2⟩ := run_append_arg_grows (P := Tryz.prog) w S ty E i0 z 1 nb hu hi hz0 hz1 hz2 hzs (by decide) ⟨b0, 0, none⟩ n cap xs (by rw [hlen])
        (fun j v hj => by
          have hjn : j < n := by
            rcases Nat.lt_or_ge j n with hh | hh
            · exact hh
            · rw [List.getElem?_eq_none (by rw [hlen]; omega)] at hj; cases hj
          rw [add_off, Nat.zero_add, cell_of_row _ _ _ _ _ _ hb0, ← hj, ← hct, List.getElem?_take_of_lt (by omega)]; simp)
        ⟨c, 0, none⟩ 1 cc [u] rfl hnews (by omega) (by unfold maxLen; omega) hbig
      rw [hrun2] at hrun
      simp only [Result.ok.injEq] at hrun
      obtain ⟨rfl, rfl⟩ := hrun
      exact ⟨(q1.lt g' rfl).1, q2⟩
/-- The same at the operation. -/
theorem wpList_tell {w : World} {ops : Array Oper} {rest : List Oper} {o : Oper} {a : Go.Act} {Q : Exit → Go.Act → World → Prop} (hgd : o.guard = none) (sx x : Operand) (S E : TypeId)
    (ho : o.op = .call { callee := .builtin .append, args := #[sx, x], argTypes := #[S, S] }) (z : Value) (nb : Nat) (hu : Tryz.prog.underlying S = some (.slice E)) (hp : (Tryz.prog.info? E).map (fun i => (i.zero, i.size, i.bytes)) = some (some z, 1, nb)) (hzs : z.cells.size = 1) (hnb : nb ≤ 64)
    (s : Value) (n : Nat) (xs : List Value) (u : Value) (h1u : u.oneCell' = true) (hs : a.eval sx = s) (hown : w.ownsRow 0 E 1 s n xs) (c cc : Nat) (hx : a.eval x = .slice (some ⟨c, 0, none⟩) 1 cc) (hc : w.heap[c]? = some (.cells #[u] E (0, 0))) (hn : n ≤ 1000000)
    (h : ∀ g' c' w', w'.ownsRow 0 E 1 (.slice (some ⟨g', 0, none⟩) (n + 1) c') (n + 1) (xs ++ [u]) → w.grownBy w' s.ownBlock → (s = .slice (some ⟨g', 0, none⟩) n c' ∨ (w.heap.size ≤ g' ∧ w.grownBy w' none)) → wpList Tryz.prog ops Q rest (a.put o.dst (.slice (some ⟨g', 0, none⟩) (n + 1) c')) w') :
    wpList Tryz.prog ops Q (o :: rest) a w := by
  refine wpList_plain hgd fun K hK => ?_
  obtain ⟨g', c', w', hr, r1, r2, r3⟩ := append_tell (w := w) o.type S E z nb hu hp hzs hnb s n xs u h1u hown c cc hc hn
  unfold Oper.wp execOp
  simp only [ho, resolve, invoke, builtin, Sem.run_bind, Sem.run_pure, Result.andThen_ok, List.map_toArray, List.map_cons, List.map_nil, hs, hx, hr]
  exact hK _ _ (h g' c' w' r1 r2 r3)
theorem words_under : Tryz.prog.underlying 26 = some (.slice 32) := by kernel_rfl
theorem words_parts : (Tryz.prog.info? 32).map (fun i => (i.zero, i.size, i.bytes)) = some (some (.int .u32 0), 1, 4) := by kernel_rfl
theorem comp_under : Tryz.prog.underlying 234 = some (.slice 238) := by kernel_rfl
theorem comp_parts : (Tryz.prog.info? 238).map (fun i => (i.zero, i.size, i.bytes)) = some (some .nilFunc, 1, 8) := by kernel_rfl
theorem string_keys : Keyed Tryz.prog 9 := string_keyed Tryz.underlying9
theorem key_of (s : ByteArray) (h : s.size ≤ maxLen) : keyOf Tryz.prog 9 (.string s) = some (key s) := WideMaps.keyOf_string_mk Tryz.underlying9 h
/-! Where a list lies. -/
/-- The value of a jump: a closure over its name, its instruction and its place. -/
def jval (bn bx ba : Nat) : Value := .func (.func 374) #[] #[.pointer (some ⟨bn, 0, none⟩), .pointer (some ⟨bx, 0, none⟩), .pointer (some ⟨ba, 0, none⟩)]
structure JIn (w : World) (G : Nat → Prop) (bn bx ba : Nat) (j : AJ) : Prop where
  name : w.heap[bn]? = some (.cells #[.string j.nm] 9 (0, 0))
  inst : w.heap[bx]? = some (.cells #[.int .u8 j.op, .int .u8 j.rd, .int .u8 0, .int .u8 0, .bool true, .int .i32 0] 106 (0, 0))
  pos : w.heap[ba]? = some (.cells #[.int .i64 j.pos] 3 (0, 0))
  gn : ¬ G bn
  gx : ¬ G bx
  ga : ¬ G ba
def JAt (w : World) (G : Nat → Prop) (v : Value) (j : AJ) : Prop := ∃ bn bx ba, v = jval bn bx ba ∧ JIn w G bn bx ba j
theorem JAt.turns {w w' : World} {G H G' : Nat → Prop} {v : Value} {j : AJ} (h : JAt w G v j) (k : Turns H w w') (hH : ∀ i, H i → G i ∨ w.heap.size ≤ i) (hg : ∀ i, G' i → G i ∨ w.heap.size ≤ i) : JAt w' G' v j := by
  obtain ⟨bn, bx, ba, rfl, h⟩ := h
  have l1 := heap_lt h.name
  have l2 := heap_lt h.inst
  have l3 := heap_lt h.pos
  have no : ∀ (K : Nat → Prop), (∀ i, K i → G i ∨ w.heap.size ≤ i) → ∀ i, ¬ G i → i < w.heap.size → ¬ K i := fun K hK i hi hl e => (hK i e).elim hi (fun h => by omega)
  exact ⟨bn, bx, ba, rfl, k.heap (no _ hH _ h.gn l1) h.name, k.heap (no _ hH _ h.gx l2) h.inst, k.heap (no _ hH _ h.ga l3) h.pos, no _ hg _ h.gn l1, no _ hg _ h.gx l2, no _ hg _ h.ga l3⟩
structure JOk (n : Nat) (j : AJ) : Prop where
  may : I2.may j.op j.rd 0 0 true 0 = true
  op : (j.op = 17 ∧ 0 ≤ j.rd ∧ j.rd ≤ 6) ∨ (j.op = 18 ∧ j.rd = 0)
  pos : j.pos < n
  nm : j.nm.size ≤ maxLen
theorem JOk.mono {n m : Nat} {j : AJ} (h : JOk n j) (k : n ≤ m) : JOk m j := { h with pos := Nat.lt_of_lt_of_le h.pos k }
structure AOk (q : AS) : Prop where
  n : q.n ≤ 100000
  ms : q.ms.length ≤ 100000
  at_ : ∀ p ∈ q.ms, p.2 ≤ q.n
  js : ∀ j ∈ q.js, JOk q.n j
  jl : q.js.length ≤ q.n
/-- In world w a list q lies in block b. All of its blocks that may turn are G's, all that may turn at all (those of other lists, too) K's. -/
structure AsmP (w : World) (b mp : Nat) (wv jv : Value) (vs : List Value) (G K : Nat → Prop) (q : AS) : Prop where
  box : w.heap[b]? = some (.cells #[.pointer (some ⟨b, 0, none⟩), wv, .map (some mp), jv] 236 (0, 0))
  words : w.ownsRow 0 32 1 wv q.n (bsL .u32 q.ws q.n)
  marks : w.ownsMap Tryz.prog 9 (plainElem Tryz.prog 3) mp q.ms.length (mD q.ms)
  jumps : w.ownsRow 0 238 1 jv q.js.length vs
  each : ∀ (i : Nat) (v : Value) (j : AJ), vs[i]? = some v → q.js[i]? = some j → JAt w K v j
  gb : G b
  gm : G mp
  gw : ∀ j, wv.ownBlock = some j → G j
  gj : ∀ j, jv.ownBlock = some j → G j
  sub : ∀ i, G i → K i
  klt : ∀ i, K i → i < w.heap.size
  far : ∀ i, G i → ¬ isTab i
  tab : I2.Tab w
  ok : AOk q
def AsmB (w : World) (b : Nat) (G K : Nat → Prop) (q : AS) : Prop := ∃ mp wv jv vs, AsmP w b mp wv jv vs G K q
section
variable {w w' : World} {b mp : Nat} {wv jv : Value} {vs : List Value} {G K : Nat → Prop} {q : AS}
theorem AsmP.lt (h : AsmP w b mp wv jv vs G K q) : ∀ i, G i → i < w.heap.size := fun i hi => h.klt i (h.sub i hi)
theorem AsmP.toB (h : AsmP w b mp wv jv vs G K q) : AsmB w b G K q := ⟨mp, wv, jv, vs, h⟩
theorem map_same {H : Type} {k : TypeId} {R : Value → Option (DataW H × List MemPlace)} {x n : Nat} {D : DataW H} (h : w.ownsMap Tryz.prog k R x n D) (e : w'.heap[x]? = w.heap[x]?) : w'.ownsMap Tryz.prog k R x n D := by
  obtain ⟨es, clock, hb, F⟩ := h
  exact ⟨es, clock, e.trans hb, F⟩
theorem AsmP.same (h : AsmP w b mp wv jv vs G K q) {H : Nat → Prop} (k : Turns H w w') (hH : ∀ i, G i → ¬ H i) (hT : ∀ i, H i → ¬ isTab i) (hJ : ∀ (i : Nat) (v : Value) (j : AJ), vs[i]? = some v → q.js[i]? = some j → JAt w' K v j) : AsmP w' b mp wv jv vs G K q :=
  have e := fun i (hi : G i) => k.block i (h.lt i hi) (hH i hi)
  { h with
    box := (e _ h.gb).trans h.box
    words := own_same h.words fun j hj => e _ (h.gw j hj)
    marks := map_same h.marks (e _ h.gm)
    jumps := own_same h.jumps fun j hj => e _ (h.gj j hj)
    each := hJ
    klt := fun i hi => Nat.lt_of_lt_of_le (h.klt i hi) k.size
    tab := tab_turns h.tab k hT }
theorem AsmP.bel (h : AsmP w b mp wv jv vs G K q) (k : Below w.heap.size w w') : AsmP w' b mp wv jv vs G K q :=
  h.same (H := fun _ => False) (Turns.of_bel k) (fun _ _ e => e) (fun _ e => e.elim) fun i v j hv hj => (h.each i v j hv hj).turns (H := fun _ => False) (Turns.of_bel k) (fun _ e => e.elim) (fun _ e => .inl e)
theorem AsmB.bel (h : AsmB w b G K q) (k : Below w.heap.size w w') : AsmB w' b G K q := by
  obtain ⟨mp, wv, jv, vs, h⟩ := h; exact (h.bel k).toB
/-! Its blocks are not the same ones. -/
theorem AsmP.bm (h : AsmP w b mp wv jv vs G K q) : b ≠ mp := by
  rintro rfl; obtain ⟨es, clock, hb, _⟩ := h.marks; rw [h.box] at hb; cases hb
theorem not_typ {c : Array Value} {t t' : TypeId} {y z : Nat} (hy : w.heap[y]? = some (.cells c t (0, 0))) (ht : t ≠ t') (hz : ∃ cur, w.heap[z]? = some (.cells cur t' (0, 0))) : z ≠ y := by
  rintro rfl; obtain ⟨cur, hz⟩ := hz; rw [hy] at hz; simp at hz; exact ht hz.2
theorem AsmP.wb (h : AsmP w b mp wv jv vs G K q) {j : Nat} (hj : wv.ownBlock = some j) : j ≠ b ∧ j ≠ mp ∧ jv.ownBlock ≠ some j := by
  refine ⟨not_typ h.box (by decide) (own_typ h.words hj), ?_, fun e => ?_⟩
  · rintro rfl; obtain ⟨es, clock, hb, _⟩ := h.marks; obtain ⟨cur, hc⟩ := own_typ h.words hj; rw [hc] at hb; cases hb
  · obtain ⟨cur, hc⟩ := own_typ h.words hj; exact not_typ hc (by decide) (own_typ h.jumps e) rfl
theorem AsmP.jb (h : AsmP w b mp wv jv vs G K q) {j : Nat} (hj : jv.ownBlock = some j) : j ≠ b ∧ j ≠ mp ∧ wv.ownBlock ≠ some j := by
  refine ⟨not_typ h.box (by decide) (own_typ h.jumps hj), ?_, fun e => ?_⟩
  · rintro rfl; obtain ⟨es, clock, hb, _⟩ := h.marks; obtain ⟨cur, hc⟩ := own_typ h.jumps hj; rw [hc] at hb; cases hb
  · obtain ⟨cur, hc⟩ := own_typ h.jumps hj; exact not_typ hc (by decide) (own_typ h.words e) rfl
/-- The same list among fewer blocks that may turn. -/
theorem AsmP.narrow {K' : Nat → Prop} (h : AsmP w b mp wv jv vs G K q) (hs : ∀ i, G i → K' i) (hk : ∀ i, K' i → K i) : AsmP w b mp wv jv vs G K' q :=
  { h with
    each := fun i v j hv hj => (h.each i v j hv hj).turns (H := fun _ => False) (Turns.refl _ _) (fun _ e => e.elim) (fun i e => .inl (hk i e))
    sub := hs
    klt := fun i hi => h.klt i (hk i hi) }
theorem AsmP.widen (h : AsmP w b mp wv jv vs G K q) : AsmP w b mp wv jv vs G (fun i => K i ∨ G i) q := h.narrow (fun _ e => .inr e) (fun i e => e.elim id (h.sub i))
theorem AsmB.widen (h : AsmB w b G K q) : AsmB w b G (fun i => K i ∨ G i) q := by
  obtain ⟨mp, wv, jv, vs, h⟩ := h; exact h.widen.toB
/-- Another list turns, or new blocks are laid. -/
theorem AsmB.beside {H H' : Nat → Prop} (h : AsmB w b G K q) (k : Turns H w w') (hG : ∀ i, G i → ¬ H i) (hH : ∀ i, H i → K i) (hT : ∀ i, H i → ¬ isTab i) (low : ∀ i, H' i → H i ∨ w.heap.size ≤ i) (lt' : ∀ i, H' i → i < w'.heap.size) : AsmB w' b G (fun i => K i ∨ H' i) q := by
  obtain ⟨mp, wv, jv, vs, h⟩ := h
  have low' : ∀ i, (K i ∨ H' i) → K i ∨ w.heap.size ≤ i := fun i hi => hi.elim .inl fun e => (low i e).imp (hH i) id
  have e := fun i (hi : G i) => k.block i (h.lt i hi) (hG i hi)
  exact ⟨mp, wv, jv, vs, { h with
    box := (e _ h.gb).trans h.box
    words := own_same h.words fun j hj => e _ (h.gw j hj)
    marks := map_same h.marks (e _ h.gm)
    jumps := own_same h.jumps fun j hj => e _ (h.gj j hj)
    each := fun i v j hv hj => (h.each i v j hv hj).turns k (fun i hi => .inl (hH i hi)) low'
    sub := fun i hi => .inl (h.sub i hi)
    klt := fun i hi => hi.elim (fun e => Nat.lt_of_lt_of_le (h.klt i e) k.size) (lt' i)
    tab := tab_turns h.tab k hT }⟩
/-- What every call on a list ends with. -/
def Left (w : World) (b : Nat) (G K : Nat → Prop) (q' : AS) (w' : World) : Prop := ∃ G', AsmB w' b G' (fun i => K i ∨ G' i) q' ∧ Turns G w w' ∧ ∀ i, G' i → G i ∨ w.heap.size ≤ i
theorem Left.bel (h : AsmB w b G K q) (k : Below w.heap.size w w') : Left w b G K q w' := ⟨G, (h.bel k).widen, Turns.of_bel k, fun _ e => .inl e⟩
end
end Go.Proofs.YtmpagjijjahohaaGreatDoor.A7
namespace Go.Proofs.YtmpagjijjahohaaGreatDoor.A7
open Go.RowKit Go.Maps
set_option linter.unusedVariables false
section
variable {w w' : World} {b mp : Nat} {wv jv : Value} {vs : List Value} {G K : Nat → Prop} {q : AS}
/-- A list's parts, all new, make a list. -/
theorem made_list (hb : w'.heap[b]? = some (.cells #[.pointer (some ⟨b, 0, none⟩), wv, .map (some mp), jv] 236 (0, 0))) (words : w'.ownsRow 0 32 1 wv q.n (bsL .u32 q.ws q.n))
    (marks : w'.ownsMap Tryz.prog 9 (plainElem Tryz.prog 3) mp q.ms.length (mD q.ms)) (jumps : w'.ownsRow 0 238 1 jv q.js.length vs)
    (each : ∀ (i : Nat) (v : Value) (j : AJ), vs[i]? = some v → q.js[i]? = some j → JAt w' (fun x => K x ∨ w.heap.size ≤ x) v j) (hK : ∀ i, K i → i < w.heap.size)
    (lb : w.heap.size ≤ b) (lm : w.heap.size ≤ mp) (lw : ∀ j, wv.ownBlock = some j → w.heap.size ≤ j) (lj : ∀ j, jv.ownBlock = some j → w.heap.size ≤ j) (hT : I2.Tab w) (g : Below w.heap.size w w') (ok : AOk q) :
    AsmP w' b mp wv jv vs (fun i => i = b ∨ i = mp ∨ wv.ownBlock = some i ∨ jv.ownBlock = some i) (fun i => K i ∨ (i = b ∨ i = mp ∨ wv.ownBlock = some i ∨ jv.ownBlock = some i)) q ∧ ∀ i, (i = b ∨ i = mp ∨ wv.ownBlock = some i ∨ jv.ownBlock = some i) → w.heap.size ≤ i := by
  have low : ∀ i, (i = b ∨ i = mp ∨ wv.ownBlock = some i ∨ jv.ownBlock = some i) → w.heap.size ≤ i := by
    rintro i (rfl | rfl | e | e)
    · exact lb
    · exact lm
    · exact lw _ e
    · exact lj _ e
  refine ⟨{
    box := hb, words := words, marks := marks, jumps := jumps
    each := fun i v j hv hj => (each i v j hv hj).turns (H := fun _ => False) (Turns.refl _ _) (fun _ e => e.elim) (fun i hi => .inl (hi.imp id (low i)))
    gb := .inl rfl, gm := .inr (.inl rfl), gw := fun j hj => .inr (.inr (.inl hj)), gj := fun j hj => .inr (.inr (.inr hj))
    sub := fun _ hi => .inr hi
    klt := fun i hi => hi.elim (fun e => Nat.lt_of_lt_of_le (hK i e) g.size) ?_
    far := fun i hi e => by have := low i hi; have := tab_lt hT e; omega
    tab := tab_bel hT g
    ok := ok }, low⟩
  rintro (rfl | rfl | e | e)
  · exact heap_lt hb
  · exact marks.lt
  · exact (words.lt _ e).2
  · exact (jumps.lt _ e).2
theorem ptr_under : Tryz.prog.underlying 185 = some (.pointer 236) := by kernel_rfl
theorem asm_info : ∃ i, Tryz.prog.info? 236 = some i := Option.isSome_iff_exists.1 (by kernel_rfl)
theorem eq_self (a : Addr) (W : World) : (binOp .eql 185 (.pointer (some a)) (.pointer (some a))).run Tryz.prog W = .ok (.bool true) W := by
  obtain ⟨i, hi⟩ := asm_info
  exact run_eql_ptr_same W a ptr_under hi
theorem eq_none (a : Addr) (W : World) : (binOp .eql 185 (.pointer none) (.pointer (some a))).run Tryz.prog W = .ok (.bool false) W := by
  have h : ∀ d : Nat, (Op.equalIn (d + 1) 185 (.pointer none) (.pointer (some a))).run Tryz.prog W = .ok false W := fun d => by
    simp [Op.equalIn, run_underlying ptr_under]
  simp only [binOp]
  simp [Op.equal, Op.maxDepth, h 9999]
theorem isObject_yes (x y z : Value) (w : World) (hc : w.heap[b]? = some (.cells #[.pointer (some ⟨b, 0, none⟩), x, y, z] 236 (0, 0))) :
    Calls Tryz.prog 178 #[.pointer (some ⟨b, 0, none⟩)] w fun e w' => e = .returned (.bool true) ∧ w' = w := by
  have k0 := row_cell hc (j := 0) (v := .pointer (some ⟨b, 0, none⟩)) rfl
  clear hc
  have hq := eq_self ⟨b, 0, none⟩
  go_enter Tryz.func178, Tryz.ntmps178
  go_wp2
  go_ret
  exact ⟨rfl, rfl⟩
/-- A pointer to a list that is none. -/
def NoAsm (w : World) (v : Value) : Prop := v = .pointer none ∨ ∃ b, v = .pointer (some ⟨b, 0, none⟩) ∧ w.cell? ⟨b, 0, none⟩ = some (.pointer none)
theorem isObject_no (v : Value) (w : World) (h : NoAsm w v) :
    Calls Tryz.prog 178 #[v] w fun e w' => e = .returned (.bool false) ∧ w' = w := by
  rcases h with rfl | ⟨b, rfl, k0⟩
  · go_enter Tryz.func178, Tryz.ntmps178
    go_wp2
    go_ret
    exact ⟨rfl, rfl⟩
  · have hq := eq_none ⟨b, 0, none⟩
    go_enter Tryz.func178, Tryz.ntmps178
    go_wp2
    go_ret
    exact ⟨rfl, rfl⟩
theorem object_at (x y z : Value) (w : World) :
    Calls Tryz.prog 227 #[.agg #[.pointer none, x, y, z]] w fun e w' => e = .returned (.pointer (some ⟨w.heap.size, 0, none⟩)) ∧ w'.heap[w.heap.size]? = some (.cells #[.pointer (some ⟨w.heap.size, 0, none⟩), x, y, z] 236 (0, 0)) ∧ Below w.heap.size w w' := by
  go_enter Tryz.func227, Tryz.ntmps227
  go_wp2
  go_ret
  exact ⟨rfl, heap_alloc_last _ _, (Below.refl _ _).alloc (Nat.le_refl _) _⟩
theorem nil_ok : AOk AS.nil where
  n := Nat.zero_le _
  ms := Nat.zero_le _
  at_ := fun p h => by simp [AS.nil] at h
  js := fun p h => by simp [AS.nil] at h
  jl := Nat.le_refl _
theorem New_at (w : World) (hT : I2.Tab w) (hK : ∀ i, K i → i < w.heap.size) :
    Calls Tryz.prog 171 #[] w fun e w' => ∃ b G, e = .returned (.pointer (some ⟨b, 0, none⟩)) ∧ AsmB w' b G (fun i => K i ∨ G i) AS.nil ∧ Below w.heap.size w w' ∧ ∀ i, G i → w.heap.size ≤ i := by
  have hmm := @run_makeMap Tryz.prog
  have HT := Lib.hid hT
  have HK := Lib.hid hK
  clear hT hK
  go_enter Tryz.func171, Tryz.ntmps171
  go_wp2_with fail
  refine (object_at _ _ _ _).mono ?_; rintro e w1 ⟨rfl, hb, g1⟩
  have M := World.ownsMap_made w Tryz.prog 9 (plainElem (H := Unit) Tryz.prog 3)
  have gg : Below w.heap.size w (w.alloc (.map #[] 0)) := (Below.refl _ _).alloc (Nat.le_refl _) _
  have s1 : (w.alloc (.map #[] 0)).heap.size = w.heap.size + 1 := by simp
  generalize w.alloc (.map #[] 0) = V at *
  have M1 := map_same M (g1.block w.heap.size (by omega))
  have X := Lib.hid (made_list (w := w) (q := AS.nil) (vs := []) hb (World.ownsRow_nil _ _ _ _) M1 (World.ownsRow_nil _ _ _ _) (fun i v j hv => by simp at hv) HK.out (by omega) (Nat.le_refl _) (fun j e => by cases e) (fun j e => by cases e) HT.out (bel_trans gg g1) nil_ok)
  have G1 := Lib.hid (bel_trans gg g1)
  clear M M1 gg g1 hb
  go_wp2
  go_ret
  rw [← s1]
  exact ⟨_, _, rfl, X.out.1.toB, G1.out, X.out.2⟩
theorem AsmP.cells (h : AsmP w b mp wv jv vs G K q) : w.cell? ⟨b, 0, none⟩ = some (.pointer (some ⟨b, 0, none⟩)) ∧ w.cell? ⟨b, 1, none⟩ = some wv ∧ w.cell? ⟨b, 2, none⟩ = some (.map (some mp)) ∧ w.cell? ⟨b, 3, none⟩ = some jv :=
  ⟨row_cell h.box rfl, row_cell h.box rfl, row_cell h.box rfl, row_cell h.box rfl⟩
theorem AsmP.wform (h : AsmP w b mp wv jv vs G K q) : ∃ p c, wv = .slice p q.n c := lenOf_own h.words
theorem AsmP.jform (h : AsmP w b mp wv jv vs G K q) : ∃ p c, jv = .slice p q.js.length c := lenOf_own h.jumps
theorem Len_at (h : AsmB w b G K q) : Calls Tryz.prog 373 #[.pointer (some ⟨b, 0, none⟩)] w fun e w' => e = .returned (.int .i64 q.n) ∧ w' = w := by
  obtain ⟨mp, wv, jv, vs, h⟩ := h
  obtain ⟨k0, k1, k2, k3⟩ := h.cells
  obtain ⟨p, c, rfl⟩ := h.wform
  have B := Lib.hid h.box
  clear h
  go_enter Tryz.func373, Tryz.ntmps373
  go_wp2_with fail
  refine (isObject_yes _ _ _ _ B.out).mono ?_; rintro e w1 ⟨rfl, rfl⟩
  go_wp2_with fail
  go_ret
  exact ⟨rfl, rfl⟩
theorem Len_no (v : Value) (w : World) (h : NoAsm w v) : Calls Tryz.prog 373 #[v] w fun e w' => e = .returned (.int .i64 0) ∧ w' = w := by
  have H := Lib.hid h
  clear h
  go_enter Tryz.func373, Tryz.ntmps373
  go_wp2_with fail
  refine (isObject_no _ _ H.out).mono ?_; rintro e w1 ⟨rfl, rfl⟩
  go_wp2_with fail
  go_ret
  exact ⟨rfl, rfl⟩
theorem zero_int (w : World) : (zeroValue 3).run Tryz.prog w = .ok (.int .i64 0) w := by kernel_rfl
/-- What At answers. -/
def atV (q : AS) (s : ByteArray) : Int := match look q.ms s with | some v => (v : Int) | none => 0
def atE (q : AS) (s : ByteArray) : Int := match look q.ms s with | some _ => 0 | none => 7
theorem lit_inj {a b : Int} (h : (DataW.lit (.int .i64 a) : DataW Unit) = .lit (.int .i64 b)) : a = b := by
  injection h with h; injection h with _ h
theorem At_at (s : ByteArray) (hs : s.size ≤ maxLen) (h : AsmB w b G K q) : Calls Tryz.prog 111 #[.pointer (some ⟨b, 0, none⟩), .string s] w fun e w' => e = .returned (.tuple #[.int .i64 (atV q s), .int .i64 (atE q s)]) ∧ w' = w := by
  obtain ⟨mp, wv, jv, vs, h⟩ := h
  obtain ⟨k0, k1, k2, k3⟩ := h.cells
  have B := Lib.hid h.box
  have M := Lib.hid h.marks
  have hkey := key_of s hs
  have hat : ∀ c : Int, (mD q.ms).atKey (key s) (.lit (.int .i64 0)) = .lit (.int .i64 c) → c = atV q s := fun c hc => by rw [mD_at] at hc; exact (lit_inj hc).symm
  have hhas := mD_has q.ms s
  have hE : atE q s = if (look q.ms s).isSome then 0 else 7 := by unfold atE; cases look q.ms s <;> rfl
  have hV : (look q.ms s).isSome = false → atV q s = 0 := by unfold atV; cases look q.ms s <;> simp
  generalize mD q.ms = D at *
  generalize atV q s = V0 at *
  generalize atE q s = E0 at *
  generalize (look q.ms s).isSome = I0 at *
  have HA := Lib.hid hat
  have HE := Lib.hid hE
  have HV := Lib.hid hV
  clear h hat hE hV
  cases I0
  · go_enter Tryz.func111, Tryz.ntmps111
    go_wp2_with fail
    refine (isObject_yes _ _ _ _ B.out).mono ?_; rintro e w1 ⟨rfl, rfl⟩
    go_wp2_with (at_lookup; refine wpList_lookup_own_ok_int _ rfl _ _ 233 rfl 9 3 .i64 string_keys Tryz.underlying233 Tryz.underlying3 (zero_int _) mp _ _ rfl M.out _ _ rfl hkey ?_; intro c hc _; rw [hhas]; obtain rfl := HA.out c hc; clear hc)
    go_ret2
    have e1 := HE.out
    have e2 := HV.out
    simp at e1 e2
    subst e1 e2
    exact ⟨rfl, rfl⟩
  · go_enter Tryz.func111, Tryz.ntmps111
    go_wp2_with fail
    refine (isObject_yes _ _ _ _ B.out).mono ?_; rintro e w1 ⟨rfl, rfl⟩
    go_wp2_with (at_lookup; refine wpList_lookup_own_ok_int _ rfl _ _ 233 rfl 9 3 .i64 string_keys Tryz.underlying233 Tryz.underlying3 (zero_int _) mp _ _ rfl M.out _ _ rfl hkey ?_; intro c hc _; rw [hhas]; obtain rfl := HA.out c hc; clear hc)
    go_ret2
    have e1 := HE.out
    simp at e1
    subst e1
    exact ⟨rfl, rfl⟩
theorem At_no (v : Value) (s : ByteArray) (w : World) (h : NoAsm w v) : Calls Tryz.prog 111 #[v, .string s] w fun e w' => e = .returned (.tuple #[.int .i64 0, .int .i64 1]) ∧ w' = w := by
  have H := Lib.hid h
  clear h
  go_enter Tryz.func111, Tryz.ntmps111
  go_wp2_with fail
  refine (isObject_no _ _ H.out).mono ?_; rintro e w1 ⟨rfl, rfl⟩
  go_wp2_with fail
  go_ret2
  exact ⟨rfl, rfl⟩
theorem Mark_no (v : Value) (s : ByteArray) (w : World) (h : NoAsm w v) : Calls Tryz.prog 242 #[v, .string s] w fun e w' => e = .returned (.int .i64 1) ∧ w' = w := by
  have H := Lib.hid h
  clear h
  go_enter Tryz.func242, Tryz.ntmps242
  go_wp2_with fail
  refine (isObject_no _ _ H.out).mono ?_; rintro e w1 ⟨rfl, rfl⟩
  go_wp2_with fail
  go_ret
  exact ⟨rfl, rfl⟩
end
end Go.Proofs.YtmpagjijjahohaaGreatDoor.A7
namespace Go.Proofs.YtmpagjijjahohaaGreatDoor.A7
open Go.RowKit Go.Maps
set_option linter.unusedVariables false
section
variable {w w' : World} {b mp : Nat} {wv jv : Value} {vs : List Value} {G K : Nat → Prop} {q : AS}
theorem only_own {s : Value} {B : Nat} {t : TypeId} {n : Nat} {xs : List Value} {x : Nat} (h : w.ownsRow B t 1 s n xs) (k : w.grownBy w' (some x)) (hx : ∀ j, s.ownBlock = some j → j ≠ x) : w'.ownsRow B t 1 s n xs :=
  own_same h fun j hj => k.block j (h.lt j hj).2 (fun e => hx j hj (by injection e))
theorem only_map {H : Type} {kt : TypeId} {R : Value → Option (DataW H × List MemPlace)} {x y n : Nat} {D : DataW H} (h : w.ownsMap Tryz.prog kt R x n D) (k : w.grownBy w' (some y)) (hx : x ≠ y) : w'.ownsMap Tryz.prog kt R x n D :=
  map_same h (k.block x h.lt (fun e => hx (by injection e)))
theorem AsmP.eachOnly (h : AsmP w b mp wv jv vs G K q) {x : Nat} (k : w.grownBy w' (some x)) (hx : G x) : ∀ (i : Nat) (v : Value) (j : AJ), vs[i]? = some v → q.js[i]? = some j → JAt w' K v j :=
  fun i v j hv hj => (h.each i v j hv hj).turns (H := fun i => i = x) (Turns.of_only k rfl) (fun i e => .inl (h.sub _ (e ▸ hx))) (fun _ e => .inl e)
theorem AsmP.ltOnly (h : AsmP w b mp wv jv vs G K q) {x : Nat} (k : w.grownBy w' (some x)) : ∀ i, K i → i < w'.heap.size := fun i hi => Nat.lt_of_lt_of_le (h.klt i hi) k.size
theorem AsmP.tabOnly (h : AsmP w b mp wv jv vs G K q) {x : Nat} (k : w.grownBy w' (some x)) (hx : G x) : I2.Tab w' := tab_turns h.tab (Turns.of_only (G := G) k hx) h.far
theorem AsmP.marked (h : AsmP w b mp wv jv vs G K q) (s : ByteArray) (hm : q.ms.length < 100000) (k : w.grownBy w' (some mp)) (own : w'.ownsMap Tryz.prog 9 (plainElem Tryz.prog 3) mp (q.ms.length + 1) ((mD q.ms).put (key s) (.lit (.int .i64 q.n)))) : AsmP w' b mp wv jv vs G K (q.mark s) :=
  { h with
    box := only_heap k h.bm h.box
    words := only_own h.words k fun j hj => (h.wb hj).2.1
    marks := by
      have e : (q.mark s).ms = q.ms ++ [(s, q.n)] := rfl
      rw [e, mD_snoc, List.length_append]; exact own
    jumps := only_own h.jumps k fun j hj => (h.jb hj).2.1
    each := h.eachOnly k h.gm
    klt := h.ltOnly k
    tab := h.tabOnly k h.gm
    ok :=
      { n := h.ok.n
        ms := by show (q.ms ++ [(s, q.n)]).length ≤ 100000; rw [List.length_append]; exact hm
        at_ := fun p hp => by
          have hp' : p ∈ q.ms ++ [(s, q.n)] := hp
          rcases List.mem_append.1 hp' with hp' | hp'
          · exact h.ok.at_ p hp'
          · simp at hp'; subst hp'; exact Nat.le_refl _
        js := h.ok.js
        jl := h.ok.jl } }
theorem Mark_state (s : ByteArray) (hs : s.size ≤ maxLen) (h : AsmB w b G K q) (hl : (look q.ms s).isSome = true) : Calls Tryz.prog 242 #[.pointer (some ⟨b, 0, none⟩), .string s] w fun e w' => e = .returned (.int .i64 9) ∧ w' = w := by
  obtain ⟨mp, wv, jv, vs, h⟩ := h
  obtain ⟨k0, k1, k2, k3⟩ := h.cells
  have B := Lib.hid h.box
  have M := Lib.hid h.marks
  have hkey := key_of s hs
  have hhas := mD_has q.ms s
  rw [hl] at hhas
  generalize mD q.ms = D at *
  clear h hl
  go_enter Tryz.func242, Tryz.ntmps242
  go_wp2_with fail
  refine (isObject_yes _ _ _ _ B.out).mono ?_; rintro e w1 ⟨rfl, rfl⟩
  go_wp2_with (at_lookup; refine wpList_lookup_own_ok_int _ rfl _ _ 233 rfl 9 3 .i64 string_keys Tryz.underlying233 Tryz.underlying3 (zero_int _) mp _ _ rfl M.out _ _ rfl hkey ?_; intro c hc _; rw [hhas])
  go_ret
  exact ⟨rfl, rfl⟩
set_option maxRecDepth 100000 in
theorem Mark_yes (s : ByteArray) (hs : s.size ≤ maxLen) (h : AsmB w b G K q) (hm : q.ms.length < 100000) (hl : look q.ms s = none) : Calls Tryz.prog 242 #[.pointer (some ⟨b, 0, none⟩), .string s] w fun e w' => e = .returned (.int .i64 0) ∧ Left w b G K (q.mark s) w' := by
  obtain ⟨mp, wv, jv, vs, h⟩ := h
  obtain ⟨k0, k1, k2, k3⟩ := h.cells
  obtain ⟨p, c, rfl⟩ := h.wform
  have B := Lib.hid h.box
  have hkey := key_of s hs
  have hhas := mD_has q.ms s
  rw [hl] at hhas
  have gd : Below w.heap.size w w.drew := (Below.refl _ _).drew
  have M := Lib.hid h.marks
  have M2 := Lib.hid (h.bel gd).marks
  have hwf : (Lit.int .i64 (q.n : Int)).wf = true := WalkArith.wf_i64 (by have := h.ok.n; omega)
  have hml : q.ms.length < maxLen := by unfold maxLen; omega
  have P := Lib.hid (h.bel gd)
  have GD := Lib.hid gd
  have HM := Lib.hid hm
  clear h hl gd hm
  go_enter Tryz.func242, Tryz.ntmps242
  go_wp2_with fail
  refine (isObject_yes _ _ _ _ B.out).mono ?_; rintro e w1 ⟨rfl, rfl⟩
  go_wp2_with (at_lookup; refine wpList_lookup_own_ok_int _ rfl _ _ 233 rfl 9 3 .i64 string_keys Tryz.underlying233 Tryz.underlying3 (zero_int _) mp _ _ rfl M.out _ _ rfl hkey ?_; intro c hc _; rw [hhas])
  go_still_tail 10, (by kernel_rfl)
  change wpList _ _ _ _ _ w1.drew
  have X : Hid (∀ W', W'.ownsMap Tryz.prog 9 (plainElem Tryz.prog 3) mp (q.ms.length + 1) ((mD q.ms).put (key s) (.lit (.int .i64 q.n))) → w1.drew.grownBy W' (some mp) → Left w1 b G K (q.mark s) W') := fun W' own gr =>
    ⟨G, (P.out.marked s HM.out gr own).widen.toB, (Turns.of_bel GD.out).trans (G' := G) (Turns.of_only gr P.out.gm) (fun _ e => .inl e), fun _ e => .inl e⟩
  clear P GD k0 k1 k2 k3 B M
  generalize w1.drew = V at *
  go_wp2_with (at_mapUpdate; refine wpList_mapUpdate_own _ rfl _ _ _ 233 rfl 9 3 string_keys Tryz.underlying233 (plainElem Tryz.prog 3) mp _ _ rfl M2.out hml _ _ _ rfl rfl hkey _ [] (plainElem_int Tryz.underlying3 hwf) ?_; intro w4 own4 g4; have L := Lib.hid (X.out w4 own4 g4); clear own4 g4 X M2)
  go_ret
  exact ⟨rfl, L.out⟩
end
end Go.Proofs.YtmpagjijjahohaaGreatDoor.A7
namespace Go.Proofs.YtmpagjijjahohaaGreatDoor.A7
open Go.RowKit Go.Maps
set_option linter.unusedVariables false
/-- An instruction. -/
structure XI where
  o : Int
  d : Int
  s : Int
  t : Int
  b : Bool
  n : Int
structure XB (x : XI) : Prop where
  o : 0 ≤ x.o ∧ x.o ≤ 255
  d : 0 ≤ x.d ∧ x.d ≤ 255
  s : 0 ≤ x.s ∧ x.s ≤ 255
  t : 0 ≤ x.t ∧ x.t ≤ 255
  n : -2147483648 ≤ x.n ∧ x.n ≤ 2147483647
def XI.may (x : XI) : Bool := I2.may x.o x.d x.s x.t x.b x.n
def XI.word (x : XI) : Int := I2.eW x.o x.d x.s x.t x.b x.n
def XI.row (x : XI) : List Value := [.int .u8 x.o, .int .u8 x.d, .int .u8 x.s, .int .u8 x.t, .bool x.b, .int .i32 x.n]
/-- A slice of instructions. -/
def Ins (w : World) (H : Nat → Prop) (l : Value) (k : Nat) (X : Nat → XI) : Prop :=
  ∃ p c, l = .slice p k c ∧ (0 < k → ∃ b o, p = some ⟨b, o, none⟩ ∧ ¬ H b ∧ ∀ i, i < k → w.cell? ⟨b, o + i * 6, none⟩ = some (.int .u8 (X i).o) ∧ w.cell? ⟨b, o + i * 6 + 1, none⟩ = some (.int .u8 (X i).d) ∧ w.cell? ⟨b, o + i * 6 + 2, none⟩ = some (.int .u8 (X i).s) ∧ w.cell? ⟨b, o + i * 6 + 3, none⟩ = some (.int .u8 (X i).t) ∧ w.cell? ⟨b, o + i * 6 + 4, none⟩ = some (.bool (X i).b) ∧ w.cell? ⟨b, o + i * 6 + 5, none⟩ = some (.int .i32 (X i).n))
theorem bsL_snoc (f : Nat → Int) (n : Nat) (u : Int) : bsL .u32 f n ++ [.int .u32 u] = bsL .u32 (F3.upd f n u) (n + 1) := by
  unfold bsL
  rw [List.range_succ, List.map_append]
  congr 1
  · apply List.map_congr_left
    intro i hi
    have : i ≠ n := by simp at hi; omega
    simp [F3.upd, this]
  · simp [F3.upd]
theorem bsL_take (f g : Nat → Int) (n m : Nat) (h : n ≤ m) (e : ∀ i, i < n → f i = g i) : (bsL .u32 f m).take n = bsL .u32 g n := by
  apply List.ext_getElem?
  intro i
  unfold bsL
  rw [List.getElem?_take]
  by_cases hi : i < n
  · rw [if_pos hi]
    have him : i < m := by omega
    simp [hi, him, e i hi]
  · rw [if_neg hi, List.getElem?_eq_none (by simp; omega)]
theorem adds_low (q : AS) (f : Nat → Int) : ∀ k i, i < q.n → (q.adds f k).ws i = q.ws i
  | 0, _, _ => rfl
  | k + 1, i, hi => by
    have := adds_low q f k i hi
    simp only [AS.adds, AS.add, F3.upd]
    rw [AS.adds_n]
    rw [if_neg (by omega)]
    exact this
/-- Put's words, as far as they go. -/
structure PutR (w wr : World) (wv s : Value) (q : AS) (f : Nat → Int) (k : Nat) : Prop where
  row : wr.ownsRow 0 32 1 s (q.n + k) (bsL .u32 (q.adds f k).ws (q.n + k))
  old : wr.ownsRow 0 32 1 wv q.n (bsL .u32 q.ws q.n)
  turn : Turns (fun i => wv.ownBlock = some i) w wr
  loc : ∀ j, s.ownBlock = some j → wv.ownBlock = some j ∨ w.heap.size ≤ j
theorem own_cap {w : World} {B B' : Nat} {t : TypeId} {g n m c c' : Nat} {xs ys : List Value} (h : w.ownsRow B t 1 (.slice (some ⟨g, 0, none⟩) n c) n xs) (k : w.ownsRow B' t 1 (.slice (some ⟨g, 0, none⟩) m c') m ys) : c = c' := by
  obtain ⟨_, ⟨h, _⟩ | ⟨g1, c1, cur1, e1, _, hg1, _, _, hs1, _⟩⟩ := h
  · cases h
  obtain ⟨_, ⟨k, _⟩ | ⟨g2, c2, cur2, e2, _, hg2, _, _, hs2, _⟩⟩ := k
  · cases k
  simp only [Value.slice.injEq, Option.some.injEq, Addr.mk.injEq] at e1 e2
  obtain ⟨⟨rfl, _⟩, _, rfl⟩ := e1
  obtain ⟨⟨rfl, _⟩, _, rfl⟩ := e2
  rw [hg1] at hg2
  simp at hg2
  subst hg2
  omega
theorem own_of {w : World} {B : Nat} {t : TypeId} {s : Value} {n : Nat} {xs : List Value} (h : w.ownsRow B t 1 s n xs) : (s = .slice none 0 0 ∧ n = 0) ∨ ∃ g c, s = .slice (some ⟨g, 0, none⟩) n c := by
  obtain ⟨_, h | ⟨g, c, cur, rfl, _⟩⟩ := h
  · exact .inl h
  · exact .inr ⟨g, c, rfl⟩
theorem Turns.of_grown {w w' : World} {s : Value} (h : w.grownBy w' s.ownBlock) : Turns (fun i => s.ownBlock = some i) w w' :=
  ⟨h.os, h.tape, h.output, h.size, fun i hi hn => h.block i hi (fun e => hn e.symm)⟩
section
variable {w wr w2 : World} {b mp : Nat} {wv s jv : Value} {vs : List Value} {G K : Nat → Prop} {q : AS} {f : Nat → Int} {k : Nat}
theorem PutR.zero (h : w.ownsRow 0 32 1 wv q.n (bsL .u32 q.ws q.n)) : PutR w w wv wv q f 0 := ⟨h, h, Turns.refl _ _, fun _ e => .inl e⟩
theorem PutR.bel (R : PutR w wr wv s q f k) (g : Below wr.heap.size wr w2) : PutR w w2 wv s q f k :=
  ⟨own_same R.row fun j hj => g.block j (R.row.lt j hj).2, own_same R.old fun j hj => g.block j (R.old.lt j hj).2, R.turn.trans (G' := fun _ => False) (Turns.of_bel g) (fun _ e => e.elim), R.loc⟩
theorem PutR.step {g' c' : Nat} {u : Int} (hu : f k = u) (R : PutR w wr wv s q f k) (own : w2.ownsRow 0 32 1 (.slice (some ⟨g', 0, none⟩) (q.n + k + 1) c') (q.n + k + 1) (bsL .u32 (q.adds f k).ws (q.n + k) ++ [.int .u32 u])) (gr : wr.grownBy w2 s.ownBlock)
    (loc : s = .slice (some ⟨g', 0, none⟩) (q.n + k) c' ∨ (wr.heap.size ≤ g' ∧ wr.grownBy w2 none)) : PutR w w2 wv (.slice (some ⟨g', 0, none⟩) (q.n + k + 1) c') q f (k + 1) := by
  subst hu
  rw [bsL_snoc] at own
  have ews : F3.upd (q.adds f k).ws (q.n + k) (f k) = (q.adds f (k + 1)).ws := by simp only [AS.adds, AS.add]; rw [AS.adds_n]
  rw [ews] at own
  refine ⟨own, ?_, R.turn.trans (Turns.of_grown gr) R.loc, fun j hj => ?_⟩
  · rcases own_of R.old with ⟨rfl, h0⟩ | ⟨g, cap, rfl⟩
    · exact own_same R.old fun j hj => by cases hj
    · rcases loc with rfl | ⟨hn, gn⟩
      · by_cases e : g = g'
        · subst e
          obtain rfl := own_cap R.old R.row
          exact own_ahead own (by omega) (bsL_take _ _ _ _ (by omega) fun i hi => adds_low q f (k + 1) i hi)
        · refine own_same R.old fun j hj => gr.block j (R.old.lt j hj).2 fun e' => ?_
          simp [Value.ownBlock] at hj e'
          omega
      · exact own_same R.old fun j hj => gn.block j (R.old.lt j hj).2 (by simp)
  · simp [Value.ownBlock] at hj
    subst hj
    rcases loc with rfl | ⟨hn, gn⟩
    · exact R.loc _ rfl
    · exact .inr (Nat.le_trans R.turn.size hn)
theorem AsmP.put_no (h : AsmP w b mp wv jv vs G K q) (R : PutR w wr wv s q f k) : AsmP wr b mp wv jv vs G K q ∧ Turns G w wr := by
  have T : Turns G w wr := ⟨R.turn.os, R.turn.tape, R.turn.output, R.turn.size, fun i hi hn => R.turn.block i hi fun e => hn (h.gw i e)⟩
  exact ⟨{ h with
    box := R.turn.heap (fun e => (h.wb e).1 rfl) h.box
    words := R.old
    marks := map_same h.marks (R.turn.block mp h.marks.lt fun e => (h.wb e).2.1 rfl)
    jumps := own_same h.jumps fun j hj => R.turn.block j (h.jumps.lt j hj).2 fun e => (h.wb e).2.2 hj
    each := fun i v j hv hj => (h.each i v j hv hj).turns T (fun _ e => .inl (h.sub _ e)) (fun _ e => .inl e)
    klt := fun i hi => Nat.lt_of_lt_of_le (h.klt i hi) R.turn.size
    tab := tab_turns h.tab T h.far }, T⟩
theorem adds_ok (h : AOk q) (hn : q.n + k ≤ 100000) : AOk (q.adds f k) where
  n := by rw [AS.adds_n]; exact hn
  ms := by rw [AS.adds_ms]; exact h.ms
  at_ := fun p hp => by rw [AS.adds_ms] at hp; rw [AS.adds_n]; exact Nat.le_trans (h.at_ p hp) (Nat.le_add_right _ _)
  js := fun p hp => by rw [AS.adds_js] at hp; rw [AS.adds_n]; exact (h.js p hp).mono (Nat.le_add_right _ _)
  jl := by rw [AS.adds_n, AS.adds_js]; exact Nat.le_trans h.jl (Nat.le_add_right _ _)
theorem AsmP.put_yes (h : AsmP w b mp wv jv vs G K q) (R : PutR w wr wv s q f k) (hn : q.n + k ≤ 100000) :
    AsmP (wr.setCell ⟨b, 1, none⟩ s) b mp s jv vs (fun i => G i ∨ s.ownBlock = some i) (fun i => K i ∨ (G i ∨ s.ownBlock = some i)) (q.adds f k) ∧ Turns G w (wr.setCell ⟨b, 1, none⟩ s) ∧ ∀ i, (G i ∨ s.ownBlock = some i) → G i ∨ w.heap.size ≤ i := by
  obtain ⟨P, T⟩ := h.put_no R
  have k1 : wr.grownBy (wr.setCell ⟨b, 1, none⟩ s) (some b) := only_cell ⟨rfl, rfl, rfl, Nat.le_refl _, fun _ _ _ => rfl⟩ 1 s
  have T2 : Turns G w (wr.setCell ⟨b, 1, none⟩ s) := T.trans (G' := G) (Turns.of_only k1 h.gb) (fun _ e => .inl e)
  have low : ∀ i, (G i ∨ s.ownBlock = some i) → G i ∨ w.heap.size ≤ i := fun i hi => hi.elim .inl fun e => (R.loc i e).imp (h.gw i) id
  refine ⟨{
    box := heap_setCell_same wr b 1 _ _ s P.box
    words := by
      rw [AS.adds_n]
      exact only_own R.row k1 fun j hj => not_typ P.box (by decide) (own_typ R.row hj)
    marks := by rw [AS.adds_ms]; exact only_map P.marks k1 P.bm.symm
    jumps := by rw [AS.adds_js]; exact only_own P.jumps k1 fun j hj => (P.jb hj).1
    each := fun i v j hv hj => by rw [AS.adds_js] at hj; exact (h.each i v j hv hj).turns T2 (fun _ e => .inl (h.sub _ e)) (fun i hi => hi.elim .inl fun e => (low i e).imp (h.sub i) id)
    gb := .inl h.gb, gm := .inl h.gm, gw := fun j hj => .inr hj, gj := fun j hj => .inl (h.gj j hj)
    sub := fun _ hi => .inr hi
    klt := fun i hi => hi.elim (fun e => Nat.lt_of_lt_of_le (P.klt i e) k1.size) fun hi => hi.elim (fun e => Nat.lt_of_lt_of_le (P.lt i e) k1.size) fun e => Nat.lt_of_lt_of_le (R.row.lt i e).2 k1.size
    far := fun i hi ht => (low i hi).elim (fun e => h.far i e ht) fun e => absurd (tab_lt h.tab ht) (Nat.not_lt.2 e)
    tab := tab_turns h.tab T2 h.far
    ok := adds_ok h.ok hn }, T2, low⟩
theorem Put_no (v l : Value) (w : World) (h : NoAsm w v) : Calls Tryz.prog 239 #[v, l] w fun e w' => e = .returned (.int .i64 1) ∧ w' = w := by
  have H := Lib.hid h
  clear h
  go_enter Tryz.func239, Tryz.ntmps239
  go_wp2_with fail
  refine (isObject_no _ _ H.out).mono ?_; rintro e w1 ⟨rfl, rfl⟩
  go_wp2_with fail
  go_ret
  exact ⟨rfl, rfl⟩
set_option maxHeartbeats 2000000 in
set_option maxRecDepth 10000 in
/-- Put: all instructions' words are laid behind, or, if one is not valid, none. -/
theorem Put_any {l : Value} {X : Nat → XI} (h : AsmB w b G K q) (hi : Ins w G l k X) (hx : ∀ i, i < k → XB (X i)) (hn : q.n + k ≤ 100000) :
    Calls Tryz.prog 239 #[.pointer (some ⟨b, 0, none⟩), l] w fun e w' =>
      (e = .returned (.int .i64 0) ∧ (∀ i, i < k → (X i).may = true) ∧ Left w b G K (q.adds (fun i => (X i).word) k) w') ∨ (e = .returned (.int .i64 2) ∧ (∃ i, i < k ∧ (X i).may = false) ∧ Left w b G K q w') := by
  obtain ⟨mp, wv, jv, vs, h⟩ := h
  obtain ⟨lp, lc, rfl, hcs⟩ := hi
  obtain ⟨k0, k1, k2, k3⟩ := h.cells
  obtain ⟨p, c, rfl⟩ := h.wform
  have B := Lib.hid h.box
  have P := Lib.hid h
  have HC := Lib.hid hcs
  have HX := Lib.hid hx
  have HN := Lib.hid hn
  have R0 := Lib.hid (PutR.zero (f := fun i => (X i).word) h.words)
  clear h hcs hx
  go_enter Tryz.func239, Tryz.ntmps239
  go_wp2_with fail
  refine (isObject_yes _ _ _ _ B.out).mono ?_; rintro e w1 ⟨rfl, rfl⟩
  go_wp2_with fail
  go_loopw [5, 19] (fun s i wr => ∃ j : Nat, j ≤ k ∧ i = .int .i64 j ∧ (∀ i, i < j → (X i).may = true) ∧ PutR w1 wr (.slice p q.n c) s q (fun i => (X i).word) j) (fun _ i _ => k - (intOf i).toNat)
  case atStart => exact ⟨0, Nat.zero_le _, rfl, fun _ h => absurd h (Nat.not_lt_zero _), R0.out⟩
  case round =>
    obtain ⟨j, hj, rfl, hm, R⟩ := hrel
    have HM := Lib.hid hm
    clear hm
    by_cases hlt : j < k
    · obtain ⟨lb, lo, rfl, hlb, hcell⟩ := HC.out (by omega)
      have hc := hcell j hlt
      have hbx := HX.out j hlt
      obtain ⟨x, hX⟩ : ∃ x, x = X j := ⟨_, rfl⟩
      have hfu : (fun i => (X i).word) j = x.word := by rw [hX]
      have hmx : (X j).may = x.may := by rw [hX]
      rw [← hX] at hc hbx
      have hno : ¬ (Value.slice p q.n c).ownBlock = some lb := fun e => hlb (P.out.gw lb e)
      obtain ⟨c0, c1, c2, c3, c4, c5⟩ := hc
      replace c0 := R.turn.cell hno c0
      replace c1 := R.turn.cell hno c1
      replace c2 := R.turn.cell hno c2
      replace c3 := R.turn.cell hno c3
      replace c4 := R.turn.cell hno c4
      replace c5 := R.turn.cell hno c5
      have HT := Lib.hid (tab_turns (G := fun i => (Value.slice p q.n c).ownBlock = some i) P.out.tab R.turn (fun i e => P.out.far i (P.out.gw i e)))
      obtain ⟨o, d, s0, t0, bb, n0⟩ := x
      have HB := Lib.hid hbx
      have R := Lib.hid R
      have hml : Hid (q.n + j ≤ 1000000) := by have := HN.out; unfold Hid; omega
      clear hbx hcell
      simp only at c0 c1 c2 c3 c4 c5
      cases hmay : XI.may ⟨o, d, s0, t0, bb, n0⟩
      · have he := I2.eE_no (o := o) (d := d) (s := s0) (t := t0) (b := bb) (n := n0) hmay
        have HF := Lib.hid (hmx.trans hmay)
        go_wp2_with fail
        refine (I2.enc_any o d s0 t0 bb n0 _ (tab_bel HT.out ((Below.refl _ _).alloc (Nat.le_refl _) _)) HB.out.o HB.out.d HB.out.s HB.out.t).mono ?_; rintro e w2 ⟨rfl, g2⟩
        rw [he]
        have R2 := Lib.hid (R.out.bel (bel_trans ((Below.refl _ _).alloc (Nat.le_refl _) _) g2.bel))
        go_wp2_with fail
        go_ret
        obtain ⟨P2, T2⟩ := P.out.put_no R2.out
        exact .inr ⟨rfl, ⟨j, hlt, HF.out⟩, ⟨G, P2.widen.toB, T2, fun _ e => .inl e⟩⟩
      · have he := I2.eE_yes (o := o) (d := d) (s := s0) (t := t0) (b := bb) (n := n0) hmay
        have HF := Lib.hid (hmx.trans hmay)
        have HU := Lib.hid hfu
        clear hfu
        go_wp2_with fail
        refine (I2.enc_any o d s0 t0 bb n0 _ (tab_bel HT.out ((Below.refl _ _).alloc (Nat.le_refl _) _)) HB.out.o HB.out.d HB.out.s HB.out.t).mono ?_; rintro e w2 ⟨rfl, g2⟩
        rw [he]
        have R2 := Lib.hid (R.out.bel (bel_trans ((Below.refl _ _).alloc (Nat.le_refl _) _) g2.bel))
        have hw : XI.word ⟨o, d, s0, t0, bb, n0⟩ = I2.eW o d s0 t0 bb n0 := rfl
        generalize I2.eW o d s0 t0 bb n0 = u at *
        clear R g2 c0 c1 c2 c3 c4 c5
        go_wp2_with (at_builtin; refine wpList_tell rfl _ _ 26 32 rfl _ 4 words_under words_parts rfl (by decide) _ _ _ (.int .u32 u) rfl rfl (R2.out.bel ((Below.refl _ _).alloc (Nat.le_refl _) _)).row w2.heap.size 1 rfl (heap_alloc_last _ _) hml.out ?_
                     intro g' c' w3 own gr loc
                     have R3 := Lib.hid ((R2.out.bel ((Below.refl _ _).alloc (Nat.le_refl _) (.cells #[.int .u32 u] 32))).step (HU.out.trans hw) own gr loc)
                     clear own gr loc R2)
        go_roundw
        case rel => exact ⟨j + 1, by omega, by go_num, fun i hi => (Nat.lt_succ_iff_lt_or_eq.1 hi).elim (HM.out i) (fun e => e ▸ HF.out), R3.out⟩
        case measure => simp [intOf]; omega
    · obtain rfl : j = k := by omega
      obtain ⟨sp, sc, rfl⟩ := lenOf_own R.row
      obtain ⟨P2, T2, low⟩ := P.out.put_yes R HN.out
      have P2 := Lib.hid P2
      have T2 := Lib.hid T2
      have LO := Lib.hid low
      have k1' := (P.out.put_no R).1.cells.2.1
      have f1 := row_frozen (j := 1) (P.out.put_no R).1.box
      clear R low
      go_wp2_with fail
      go_ret
      exact .inl ⟨rfl, HM.out, ⟨_, P2.out.toB, T2.out, LO.out⟩⟩
theorem Put_yes {l : Value} {X : Nat → XI} (h : AsmB w b G K q) (hi : Ins w G l k X) (hx : ∀ i, i < k → XB (X i)) (hn : q.n + k ≤ 100000) (hm : ∀ i, i < k → (X i).may = true) :
    Calls Tryz.prog 239 #[.pointer (some ⟨b, 0, none⟩), l] w fun e w' => e = .returned (.int .i64 0) ∧ Left w b G K (q.adds (fun i => (X i).word) k) w' :=
  (Put_any h hi hx hn).mono fun e w' hh => hh.elim (fun hh => ⟨hh.1, hh.2.2⟩) fun ⟨_, ⟨i, hi, hf⟩, _⟩ => by rw [hm i hi] at hf; cases hf
theorem Put_bad {l : Value} {X : Nat → XI} (h : AsmB w b G K q) (hi : Ins w G l k X) (hx : ∀ i, i < k → XB (X i)) (hn : q.n + k ≤ 100000) {i : Nat} (hik : i < k) (hm : (X i).may = false) :
    Calls Tryz.prog 239 #[.pointer (some ⟨b, 0, none⟩), l] w fun e w' => e = .returned (.int .i64 2) ∧ Left w b G K q w' :=
  (Put_any h hi hx hn).mono fun e w' hh => hh.elim (fun ⟨_, hh, _⟩ => by rw [hh i hik] at hm; cases hm) fun hh => ⟨hh.1, hh.2.2⟩
end
end Go.Proofs.YtmpagjijjahohaaGreatDoor.A7
namespace Go.Proofs.YtmpagjijjahohaaGreatDoor.A7
open Go.RowKit Go.Maps
set_option linter.unusedVariables false
def small (w : Int) : Bool := decide (w ≤ 16383 ∨ 4294950912 ≤ w)
def sgn (w : Int) : Int := if 2147483648 ≤ w then w - 4294967296 else w
/-- A constant's instructions: how many, and which. -/
def cK (w : Int) : Nat := if small w then 1 else if w % 2048 = 0 then 1 else 2
def cX (rd w : Int) (i : Nat) : XI := if small w then ⟨1, rd, 0, 0, true, sgn w⟩ else if i = 0 then ⟨15, rd, 0, 0, true, w / 2048⟩ else ⟨7, rd, rd, 0, true, w % 2048⟩
theorem nat_mask11 (n : Nat) : n &&& 2047 = n % 2048 := Nat.and_two_pow_sub_one_eq_mod n 11
theorem and_11 (x : Int) (h : 0 ≤ x ∧ x < 4294967296) : bits .and .u32 x 2047 = x % 2048 := by
  rw [u32_and x 2047 h.1 h.2 (by decide) (by decide)]
  have : (2047 : Int).toNat = 2047 := rfl
  rw [this, nat_mask11]; omega
theorem wrap_sgn (u : Int) (hu : 0 ≤ u ∧ u < 4294967296) : IntKind.i32.wrap u = sgn u := by
  unfold sgn
  simp [IntKind.wrap, IntKind.bits, IntKind.signed]
  split <;> split <;> omega
theorem wrap_same (u : Int) (hu : 0 ≤ u ∧ u < 2147483648) : IntKind.i32.wrap u = u := by
  rw [wrap_sgn u (by omega)]; unfold sgn; rw [if_neg (by omega)]
theorem own_ins {w : World} {B : Nat} {v : Value} {k : Nat} {xs : List Value} {X : Nat → XI} (h : w.ownsRow B 106 6 v k xs) (hx : ∀ i, i < k → ∀ j, j < 6 → xs[i * 6 + j]? = (X i).row[j]?) : Ins w (fun b => b < B) v k X := by
  obtain ⟨hl, ⟨rfl, rfl⟩ | ⟨g, cap, cur, rfl, hB, hg, h1, h2, h3, h4⟩⟩ := h
  · exact ⟨none, 0, rfl, fun h => absurd h (Nat.lt_irrefl _)⟩
  · refine ⟨_, _, rfl, fun _ => ⟨g, 0, rfl, by omega, fun i hi => ?_⟩⟩
    have key : ∀ j, j < 6 → ∀ v, (X i).row[j]? = some v → w.cell? ⟨g, 0 + i * 6 + j, none⟩ = some v := by
      intro j hj v hv
      rw [← hx i hi j hj, ← h4, List.getElem?_take_of_lt (by omega)] at hv
      rw [Nat.zero_add, cell_of_row _ _ _ _ _ _ hg]
      simpa using hv
    exact ⟨key 0 (by decide) _ rfl, key 1 (by decide) _ rfl, key 2 (by decide) _ rfl, key 3 (by decide) _ rfl, key 4 (by decide) _ rfl, key 5 (by decide) _ rfl⟩
theorem Ins.mono {w : World} {H H' : Nat → Prop} {v : Value} {k : Nat} {X : Nat → XI} (h : Ins w H v k X) (hh : ∀ i, H' i → H i) : Ins w H' v k X := by
  obtain ⟨p, c, rfl, h⟩ := h
  exact ⟨p, c, rfl, fun hk => by obtain ⟨b, o, rfl, hb, hc⟩ := h hk; exact ⟨b, o, rfl, fun e => hb (hh _ e), hc⟩⟩
theorem Ins.bel {w w' : World} {H : Nat → Prop} {v : Value} {k : Nat} {X : Nat → XI} (h : Ins w H v k X) (g : Below w.heap.size w w') : Ins w' H v k X := by
  obtain ⟨p, c, rfl, h⟩ := h
  exact ⟨p, c, rfl, fun hk => by obtain ⟨b, o, rfl, hb, hc⟩ := h hk; exact ⟨b, o, rfl, hb, fun i hi => by obtain ⟨a0, a1, a2, a3, a4, a5⟩ := hc i hi; exact ⟨bel_cell g a0, bel_cell g a1, bel_cell g a2, bel_cell g a3, bel_cell g a4, bel_cell g a5⟩⟩⟩
/-- One instruction in a new block. -/
theorem one_ins (x : XI) (w : World) : Ins (w.alloc (.cells x.row.toArray 106)) (fun b => b < w.heap.size) (.slice (some ⟨w.heap.size, 0, none⟩) 1 1) 1 (fun _ => x) := by
  have h := heap_alloc_last w (.cells x.row.toArray 106)
  refine ⟨_, _, rfl, fun _ => ⟨_, _, rfl, Nat.lt_irrefl _, fun i hi => ?_⟩⟩
  obtain rfl : i = 0 := by omega
  have hr : (w.alloc (.cells x.row.toArray 106)).heap[w.heap.size]? = some (.cells x.row.toArray 106 (0, 0)) := h
  exact ⟨row_cell hr rfl, row_cell hr rfl, row_cell hr rfl, row_cell hr rfl, row_cell hr rfl, row_cell hr rfl⟩
theorem one_own (x : XI) (w : World) : (w.alloc (.cells x.row.toArray 106)).ownsRow w.heap.size 106 6 (.slice (some ⟨w.heap.size, 0, none⟩) 1 1) 1 x.row := by
  refine ⟨rfl, .inr ⟨_, 1, x.row.toArray, rfl, Nat.le_refl _, heap_alloc_last w (.cells x.row.toArray 106), Nat.le_refl _, by unfold maxLen; omega, rfl, rfl⟩⟩
theorem inst_parts : (Tryz.prog.info? 106).map (fun i => (i.zero, i.size, i.bytes)) = some (some (.agg #[.int .u8 0, .int .u8 0, .int .u8 0, .int .u8 0, .bool false, .int .i32 0]), 6, 12) := by kernel_rfl
theorem row_one (x : XI) : ∀ v ∈ x.row, v.oneCell' = true := by
  intro v hv
  simp only [XI.row, List.mem_cons, List.not_mem_nil, or_false] at hv
  rcases hv with rfl | rfl | rfl | rfl | rfl | rfl <;> rfl
theorem new_inst (x : XI) (b : Nat) (w : World) (hb : b = w.heap.size) : ∀ j v, x.row[j]? = some v → (w.alloc (.cells x.row.toArray 106)).cell? ((⟨b, 0, none⟩ : Addr).add j) = some v := by
  subst hb
  intro j v hj
  have h : (w.alloc (.cells x.row.toArray 106)).heap[w.heap.size]? = some (.cells x.row.toArray 106 (0, 0)) := heap_alloc_last _ _
  rw [add_off, Nat.zero_add]
  exact row_cell h (by simpa using hj)
end Go.Proofs.YtmpagjijjahohaaGreatDoor.A7
namespace Go.Proofs.YtmpagjijjahohaaGreatDoor.A7
open Go.RowKit Go.Maps
set_option linter.unusedVariables false
section
variable {w w' : World} {b mp : Nat} {wv jv : Value} {vs : List Value} {G K : Nat → Prop} {q : AS}
theorem Left.after {w1 : World} (g : Below w.heap.size w w1) (h : Left w1 b G K q w') : Left w b G K q w' := by
  obtain ⟨G', hA, T, low⟩ := h
  exact ⟨G', hA, (Turns.of_bel g).trans T (fun _ e => .inl e), fun i hi => (low i hi).imp id fun e => Nat.le_trans g.size e⟩
theorem AsmB.lt (h : AsmB w b G K q) : ∀ i, G i → i < w.heap.size := by obtain ⟨mp, wv, jv, vs, h⟩ := h; exact h.lt
theorem AsmB.klt (h : AsmB w b G K q) : ∀ i, K i → i < w.heap.size := by obtain ⟨mp, wv, jv, vs, h⟩ := h; exact h.klt
theorem AsmB.sub (h : AsmB w b G K q) : ∀ i, G i → K i := by obtain ⟨mp, wv, jv, vs, h⟩ := h; exact h.sub
theorem AsmB.far (h : AsmB w b G K q) : ∀ i, G i → ¬ isTab i := by obtain ⟨mp, wv, jv, vs, h⟩ := h; exact h.far
theorem AsmB.tab (h : AsmB w b G K q) : I2.Tab w := by obtain ⟨mp, wv, jv, vs, h⟩ := h; exact h.tab
theorem AsmB.ok (h : AsmB w b G K q) : AOk q := by obtain ⟨mp, wv, jv, vs, h⟩ := h; exact h.ok
theorem cX_b (rd u : Int) (i : Nat) (hr : 0 ≤ rd ∧ rd ≤ 255) (hu : 0 ≤ u ∧ u < 4294967296) : XB (cX rd u i) := by
  unfold cX
  split
  · rename_i h
    have : u ≤ 16383 ∨ 4294950912 ≤ u := of_decide_eq_true h
    exact ⟨by simp only; omega, hr, by simp only; omega, by simp only; omega, by unfold sgn; simp only; split <;> omega⟩
  · split
    · exact ⟨by simp only; omega, hr, by simp only; omega, by simp only; omega, by simp only; omega⟩
    · exact ⟨by simp only; omega, hr, hr, by simp only; omega, by simp only; omega⟩
theorem cX_may (rd u : Int) (i : Nat) (hr : 0 ≤ rd ∧ rd ≤ 255) (hu : 0 ≤ u ∧ u < 4294967296) : (cX rd u i).may = decide (rd ≤ 31) := by
  unfold cX XI.may
  split
  · rename_i h
    have h1 : u ≤ 16383 ∨ 4294950912 ≤ u := of_decide_eq_true h
    simp only
    rw [I2.mayKa_t _ _ _ _ _ hr.1 (by decide) (by decide) (by unfold I2.Ka; omega)]
    refine decide_eq_decide.2 ⟨fun h => h.1, fun h => ⟨h, by decide, rfl, ?_⟩⟩
    unfold sgn; split <;> omega
  · split
    · simp only
      rw [I2.may3_t _ _ _ _ _ hr.1 (by decide) (by decide) rfl]
      exact decide_eq_decide.2 ⟨fun h => h.1, fun h => ⟨h, rfl, rfl, by omega⟩⟩
    · simp only
      rw [I2.mayKa_t _ _ _ _ _ hr.1 hr.1 (by decide) (by unfold I2.Ka; omega)]
      exact decide_eq_decide.2 ⟨fun h => h.1, fun h => ⟨h, h, rfl, by omega⟩⟩
def AS.const (q : AS) (rd u : Int) : AS := q.adds (fun i => (cX rd u i).word) (cK u)
theorem cK_le (u : Int) : cK u ≤ 2 := by unfold cK; split <;> (try split) <;> omega
theorem cK_pos (u : Int) : 0 < cK u := by unfold cK; split <;> (try split) <;> omega
theorem NoAsm.bel {v : Value} (h : NoAsm w v) (g : Below w.heap.size w w') : NoAsm w' v := h.imp id fun ⟨b, e, hc⟩ => ⟨b, e, bel_cell g hc⟩
/-! A jump's closure. -/
theorem reaching_at (o d s t n m : Int) (x : Bool) (w : World) (hm : -2147483648 ≤ m ∧ m ≤ 2147483647) :
    Calls Tryz.prog 375 #[.agg #[.int .u8 o, .int .u8 d, .int .u8 s, .int .u8 t, .bool x, .int .i32 n], .int .i64 m] w fun e w' => e = .returned (.agg #[.int .u8 o, .int .u8 d, .int .u8 s, .int .u8 t, .bool x, .int .i32 m]) ∧ Below w.heap.size w w' := by
  have hw : IntKind.i32.wrap m = m := by simp [IntKind.wrap, IntKind.bits, IntKind.signed]; split <;> omega
  go_enter Tryz.func375, Tryz.ntmps375
  go_wp2
  refine bodyPost_ret (v := .agg #[.int .u8 o, .int .u8 d, .int .u8 s, .int .u8 t, .bool x, .int .i32 m]) (by simp [results, Tryz.results375, go_sem]) rfl ⟨rfl, ((Below.refl _ _).alloc (Nat.le_refl _) _).alloc (by simp) _⟩
theorem jmay {n : Nat} {j : AJ} (h : JOk n j) (m : Int) (h0 : -1048576 ≤ m) (h1 : m ≤ 1048575) : I2.may j.op j.rd 0 0 true m = true := by
  rcases h.op with ⟨e, r0, r1⟩ | ⟨e, r0⟩
  · rw [I2.may4_t _ _ _ _ _ r0 (by decide) (by decide) e]
    exact decide_eq_true ⟨r1, rfl, rfl, h0, h1⟩
  · rw [I2.may5_t _ _ _ _ _ (by omega) (by decide) (by decide) e]
    exact decide_eq_true ⟨r0, rfl, rfl, h0, h1⟩
theorem JOk.ob {n : Nat} {j : AJ} (h : JOk n j) : (0 ≤ j.op ∧ j.op ≤ 255) ∧ (0 ≤ j.rd ∧ j.rd ≤ 255) := by
  rcases h.op with ⟨e, r0, r1⟩ | ⟨e, r0⟩ <;> omega
theorem jump1_none {ms : List (ByteArray × Nat)} {n bn bx ba : Nat} {j : AJ} (v : Value) (J : JIn w G bn bx ba j) (k : JOk n j) (M : w.ownsMap Tryz.prog 9 (plainElem Tryz.prog 3) mp ms.length (mD ms)) (hl : look ms j.nm = none) :
    Calls Tryz.prog 374 #[v, .map (some mp), .pointer (some ⟨bn, 0, none⟩), .pointer (some ⟨bx, 0, none⟩), .pointer (some ⟨ba, 0, none⟩)] w fun e w' => e = .returned (.int .i64 7) ∧ w' = w := by
  have c0 := row_cell J.name (j := 0) (v := .string j.nm) rfl
  have hkey := key_of j.nm k.nm
  have hhas := mD_has ms j.nm
  rw [hl] at hhas
  have M := Lib.hid M
  generalize mD ms = D at *
  generalize j.nm = s at *
  clear J k hl
  go_enter Tryz.func374, Tryz.ntmps374
  go_wp2_with (at_lookup; refine wpList_lookup_own_ok_int _ rfl _ _ 233 rfl 9 3 .i64 string_keys Tryz.underlying233 Tryz.underlying3 (zero_int _) mp _ _ rfl M.out _ _ rfl hkey ?_; intro c hc _; rw [hhas])
  go_ret
  exact ⟨rfl, rfl⟩
/-- A cell of a row of one's own is stored. -/
theorem own_set {B : Nat} {g n c : Nat} {f : Nat → Int} (h : w.ownsRow B 32 1 (.slice (some ⟨g, 0, none⟩) n c) n (bsL .u32 f n)) (i : Nat) (hi : i < n) (u : Int) : (w.setCell ⟨g, i, none⟩ (.int .u32 u)).ownsRow B 32 1 (.slice (some ⟨g, 0, none⟩) n c) n (bsL .u32 (F3.upd f i u) n) ∧ w.grownBy (w.setCell ⟨g, i, none⟩ (.int .u32 u)) (some g) := by
  refine ⟨?_, only_cell ⟨rfl, rfl, rfl, Nat.le_refl _, fun _ _ _ => rfl⟩ i _⟩
  obtain ⟨h0, ⟨h, _⟩ | ⟨g', cap, cur, e, hB, hg, h1, h2, h3, h4⟩⟩ := h
  · cases h
  · simp only [Value.slice.injEq, Option.some.injEq, Addr.mk.injEq] at e
    obtain ⟨⟨rfl, _⟩, _, rfl⟩ := e
    refine ⟨by unfold bsL; simp, .inr ⟨g, c, cur.setIfInBounds i (.int .u32 u), rfl, hB, heap_setCell_same w g i _ _ _ hg, h1, h2, by simpa using h3, ?_⟩⟩
    apply List.ext_getElem?
    intro k
    have hk := congrArg (fun l => l[k]?) h4
    simp only [List.getElem?_take] at hk ⊢
    by_cases hkn : k < n * 1
    · rw [if_pos hkn] at hk ⊢
      simp only [Array.getElem?_toList] at hk ⊢
      rw [Array.getElem?_setIfInBounds]
      have hkn' : k < n := by omega
      have hb : ∀ f', (bsL .u32 f' n)[k]? = some (.int .u32 (f' k)) := fun f' => by unfold bsL; simp [hkn']
      rw [hb] at hk ⊢
      by_cases e : i = k
      · subst e
        rw [if_pos rfl, if_pos (by omega)]
        simp [F3.upd]
      · have e' : ¬ k = i := fun h => e h.symm
        rw [if_neg e, hk]
        simp [F3.upd, e']
    · rw [if_neg hkn, List.getElem?_eq_none (by unfold bsL; simp; omega)]
theorem jump1_yes {ms : List (ByteArray × Nat)} {n bn bx ba t B g c : Nat} {j : AJ} {f : Nat → Int} (J : JIn w G bn bx ba j) (k : JOk n j) (M : w.ownsMap Tryz.prog 9 (plainElem Tryz.prog 3) mp ms.length (mD ms)) (hl : look ms j.nm = some t) (ht : t ≤ 100000) (hn : n ≤ 100000) (hT : I2.Tab w)
    (own : w.ownsRow B 32 1 (.slice (some ⟨g, 0, none⟩) n c) n (bsL .u32 f n)) :
    Calls Tryz.prog 374 #[.slice (some ⟨g, 0, none⟩) n c, .map (some mp), .pointer (some ⟨bn, 0, none⟩), .pointer (some ⟨bx, 0, none⟩), .pointer (some ⟨ba, 0, none⟩)] w fun e w' => e = .returned (.int .i64 0) ∧ w'.ownsRow B 32 1 (.slice (some ⟨g, 0, none⟩) n c) n (bsL .u32 (F3.upd f j.pos (j.word t)) n) ∧ w.grownBy w' (some g) := by
  have c0 := row_cell J.name (j := 0) (v := .string j.nm) rfl
  have hkey := key_of j.nm k.nm
  have hhas := mD_has ms j.nm
  have hat : Hid (∀ c : Int, (mD ms).atKey (key j.nm) (.lit (.int .i64 0)) = .lit (.int .i64 c) → c = (t : Int)) := fun c hc => by rw [mD_at, hl] at hc; exact (lit_inj hc).symm
  rw [hl] at hhas
  replace M := Lib.hid M
  have JJ := Lib.hid J
  have O := Lib.hid own
  have T := Lib.hid hT
  have hpos := k.pos
  obtain ⟨d, hd⟩ : ∃ d, d = (t : Int) - (j.pos : Int) := ⟨_, rfl⟩
  have hw : j.word t = I2.enc j.op j.rd 0 0 true d := by rw [hd]; rfl
  have hm := jmay k d (by omega) (by omega)
  have he := I2.eE_yes hm
  have hu := I2.eW_yes hm
  have hob := Lib.hid k.ob
  have hdb : Hid (-2147483648 ≤ d ∧ d ≤ 2147483647) := by unfold Hid; omega
  have hwd : Hid (IntKind.i64.wrap ((t : Int) - (j.pos : Int)) = d) := by
    unfold Hid; rw [← hd]; simp [IntKind.wrap, IntKind.bits, IntKind.signed]; omega
  have cx0 := row_cell J.inst (j := 0) (v := .int .u8 j.op) rfl
  have cx1 := row_cell J.inst (j := 1) (v := .int .u8 j.rd) rfl
  have cx2 := row_cell J.inst (j := 2) (v := .int .u8 0) rfl
  have cx3 := row_cell J.inst (j := 3) (v := .int .u8 0) rfl
  have cx4 := row_cell J.inst (j := 4) (v := .bool true) rfl
  have cx5 := row_cell J.inst (j := 5) (v := .int .i32 0) rfl
  have cp := row_cell J.pos (j := 0) (v := .int .i64 j.pos) rfl
  obtain ⟨P, hP⟩ : ∃ P : Int, P = (j.pos : Int) := ⟨_, rfl⟩
  obtain ⟨T0, hT0⟩ : ∃ P : Int, P = (t : Int) := ⟨_, rfl⟩
  rw [← hP, ← hT0] at hwd
  rw [← hT0] at hat
  have cp' : w.cell? ⟨ba, 0, none⟩ = some (.int .i64 P) := by rw [hP]; exact cp
  have hwd' := hwd.out
  rw [hw]
  have HP := Lib.hid hP
  have HPOS := Lib.hid hpos
  generalize mD ms = D at *
  generalize j.nm = s at *
  generalize hop : j.op = op at *
  generalize hrd : j.rd = rd at *
  generalize I2.enc op rd 0 0 true d = u at *
  clear J k hl hd hm hw cp own hT hop hrd hP hT0 ht hn hpos
  go_enter Tryz.func374, Tryz.ntmps374
  go_wp2_with (at_lookup; refine wpList_lookup_own_ok_int _ rfl _ _ 233 rfl 9 3 .i64 string_keys Tryz.underlying233 Tryz.underlying3 (zero_int _) mp _ _ rfl M.out _ _ rfl hkey ?_; intro c hc _; rw [hhas]; obtain rfl := hat.out c hc; clear hc)
  refine (reaching_at op rd 0 0 0 d true w hdb.out).mono ?_; rintro e w1 ⟨rfl, g1⟩
  have G1 := Lib.hid g1
  clear g1
  go_wp2_with fail
  refine (I2.enc_any op rd 0 0 true d w1 (tab_bel T.out G1.out) hob.out.1 hob.out.2 (by decide) (by decide)).mono ?_; rintro e w2 ⟨rfl, g2⟩
  rw [he, hu]
  have G2 := Lib.hid (bel_trans G1.out g2.bel)
  have cp2 := bel_cell G2.out cp'
  have O2 := Lib.hid (own_same O.out fun j hj => G2.out.block j (O.out.lt j hj).2)
  clear g2 c0 cx0 cx1 cx2 cx3 cx4 cx5 cp' he hu M G1
  go_upto_region 7 with fail
  obtain rfl := HP.out
  have X := Lib.hid (own_set O2.out j.pos HPOS.out u)
  have hpos := HPOS.out
  obtain ⟨cg, hg⟩ : ∃ v, w2.cell? ⟨g, j.pos, none⟩ = some v := by
    obtain ⟨_, ⟨h, _⟩ | ⟨g', cap, cur, e, hB, hg, h1, h2, h3, h4⟩⟩ := O2.out
    · cases h
    · simp only [Value.slice.injEq, Option.some.injEq, Addr.mk.injEq] at e
      obtain ⟨⟨rfl, _⟩, _, rfl⟩ := e
      exact ⟨_, row_cell hg (Array.getElem?_eq_getElem (by omega))⟩
  have hfz : w2.frozen? ⟨g, j.pos, none⟩ = false := by
    obtain ⟨_, ⟨h, _⟩ | ⟨g', cap, cur, e, hB, hg, h1, h2, h3, h4⟩⟩ := O2.out
    · cases h
    · simp only [Value.slice.injEq, Option.some.injEq, Addr.mk.injEq] at e
      obtain ⟨⟨rfl, _⟩, _, rfl⟩ := e
      exact row_frozen hg
  go_wp2_with fail
  go_ret
  exact ⟨rfl, X.out.1, only_trans (bel_only G2.out _) X.out.2⟩
end
end Go.Proofs.YtmpagjijjahohaaGreatDoor.A7
namespace Go.Proofs.YtmpagjijjahohaaGreatDoor.A7
open Go.RowKit Go.Maps
set_option linter.unusedVariables false
section
variable {w w2 : World} {b mp : Nat} {wv jv : Value} {vs : List Value} {G K : Nat → Prop} {q : AS}
theorem AsmP.jumped {g' c' bn bx ba : Nat} {j : AJ} (h : AsmP w b mp wv jv vs G K q) (own : w2.ownsRow 0 238 1 (.slice (some ⟨g', 0, none⟩) (q.js.length + 1) c') (q.js.length + 1) (vs ++ [jval bn bx ba])) (gr : w.grownBy w2 jv.ownBlock) (loc : jv = .slice (some ⟨g', 0, none⟩) q.js.length c' ∨ (w.heap.size ≤ g' ∧ w.grownBy w2 none))
    (J : JIn w K bn bx ba j) (jok : JOk q.n j) (hl : q.js.length + 1 ≤ q.n) :
    AsmP (w2.setCell ⟨b, 3, none⟩ (.slice (some ⟨g', 0, none⟩) (q.js.length + 1) c')) b mp wv (.slice (some ⟨g', 0, none⟩) (q.js.length + 1) c') (vs ++ [jval bn bx ba]) (fun i => G i ∨ i = g') (fun i => K i ∨ (G i ∨ i = g')) { q with js := q.js ++ [j] } ∧
    Turns G w (w2.setCell ⟨b, 3, none⟩ (.slice (some ⟨g', 0, none⟩) (q.js.length + 1) c')) ∧ ∀ i, (G i ∨ i = g') → G i ∨ w.heap.size ≤ i := by
  have T1 : Turns G w w2 := ⟨gr.os, gr.tape, gr.output, gr.size, fun i hi hn => gr.block i hi fun e => hn (h.gj i e.symm)⟩
  have B2 := (gr.block b (h.lt _ h.gb) fun e => (h.jb e.symm).1 rfl).trans h.box
  have W2 := own_same h.words fun j hj => gr.block j (h.words.lt j hj).2 fun e => (h.jb e.symm).2.2 hj
  have M2 := map_same h.marks (gr.block mp h.marks.lt fun e => (h.jb e.symm).2.1 rfl)
  have k1 : w2.grownBy (w2.setCell ⟨b, 3, none⟩ (.slice (some ⟨g', 0, none⟩) (q.js.length + 1) c')) (some b) := only_cell ⟨rfl, rfl, rfl, Nat.le_refl _, fun _ _ _ => rfl⟩ 3 _
  have T2 : Turns G w (w2.setCell ⟨b, 3, none⟩ (.slice (some ⟨g', 0, none⟩) (q.js.length + 1) c')) := T1.trans (G' := G) (Turns.of_only k1 h.gb) (fun _ e => .inl e)
  have low : ∀ i, (G i ∨ i = g') → G i ∨ w.heap.size ≤ i := fun i hi => hi.elim .inl fun e => by
    subst e
    rcases loc with rfl | ⟨hn, _⟩
    · exact .inl (h.gj _ rfl)
    · exact .inr hn
  have lowK : ∀ i, (K i ∨ (G i ∨ i = g')) → K i ∨ w.heap.size ≤ i := fun i hi => hi.elim .inl fun e => (low i e).imp (h.sub i) id
  have hlen : vs.length = q.js.length := by have := h.jumps.1; simpa using this
  refine ⟨{
    box := heap_setCell_same w2 b 3 _ _ _ B2
    words := only_own W2 k1 fun j hj => (h.wb hj).1
    marks := only_map M2 k1 h.bm.symm
    jumps := by
      have e : ({ q with js := q.js ++ [j] } : AS).js.length = q.js.length + 1 := by simp
      rw [e]
      exact only_own own k1 fun j hj => not_typ B2 (by decide) (own_typ own hj)
    each := fun i v x hv hx => by
      have hx' : (q.js ++ [j])[i]? = some x := hx
      by_cases hi : i < q.js.length
      · rw [List.getElem?_append_left (by omega)] at hv
        rw [List.getElem?_append_left hi] at hx'
        exact (h.each i v x hv hx').turns T2 (fun _ e => .inl (h.sub _ e)) lowK
      · rw [List.getElem?_append_right (by omega)] at hv
        rw [List.getElem?_append_right (by omega)] at hx'
        have h0 : i - q.js.length = 0 := by
          rcases Nat.eq_zero_or_pos (i - q.js.length) with h | h
          · exact h
          · rw [List.getElem?_eq_none (by simp; omega)] at hx'; cases hx'
        rw [hlen, h0] at hv
        rw [h0] at hx'
        simp at hv hx'
        subst hv hx'
        exact JAt.turns (w := w) (G := K) ⟨bn, bx, ba, rfl, J⟩ T2 (fun _ e => .inl (h.sub _ e)) lowK
    gb := .inl h.gb, gm := .inl h.gm, gw := fun j hj => .inl (h.gw j hj), gj := fun j hj => .inr (by simpa [Value.ownBlock] using hj.symm)
    sub := fun _ hi => .inr hi
    klt := fun i hi => hi.elim (fun e => Nat.lt_of_lt_of_le (h.klt i e) T2.size) fun hi => hi.elim (fun e => Nat.lt_of_lt_of_le (h.lt i e) T2.size) fun e => by subst e; exact Nat.lt_of_lt_of_le (own.lt _ rfl).2 k1.size
    far := fun i hi ht => (low i hi).elim (fun e => h.far i e ht) fun e => absurd (tab_lt h.tab ht) (Nat.not_lt.2 e)
    tab := tab_turns h.tab T2 h.far
    ok :=
      { n := h.ok.n
        ms := h.ok.ms
        at_ := h.ok.at_
        js := fun x hx => by
          have hx' : x ∈ q.js ++ [j] := hx
          rcases List.mem_append.1 hx' with hx' | hx'
          · exact h.ok.js x hx'
          · simp at hx'; subst hx'; exact jok
        jl := by show (q.js ++ [j]).length ≤ q.n; rw [List.length_append]; exact hl } }, T2, low⟩
theorem JIn.turns {w w' : World} {G H G' : Nat → Prop} {bn bx ba : Nat} {j : AJ} (h : JIn w G bn bx ba j) (k : Turns H w w') (hH : ∀ i, H i → G i ∨ w.heap.size ≤ i) (hg : ∀ i, G' i → G i ∨ w.heap.size ≤ i) : JIn w' G' bn bx ba j := by
  have l1 := heap_lt h.name
  have l2 := heap_lt h.inst
  have l3 := heap_lt h.pos
  have no : ∀ (K : Nat → Prop), (∀ i, K i → G i ∨ w.heap.size ≤ i) → ∀ i, ¬ G i → i < w.heap.size → ¬ K i := fun K hK i hi hl e => (hK i e).elim hi (fun h => by omega)
  exact ⟨k.heap (no _ hH _ h.gn l1) h.name, k.heap (no _ hH _ h.gx l2) h.inst, k.heap (no _ hH _ h.ga l3) h.pos, no _ hg _ h.gn l1, no _ hg _ h.gx l2, no _ hg _ h.ga l3⟩
/-- The world ahead of a jump's Put. -/
def jW (w : World) (o d : Int) (s : ByteArray) (n : Nat) : World := ((w.alloc (.cells #[.int .u8 o, .int .u8 d, .int .u8 0, .int .u8 0, .bool true, .int .i32 0] 106)).alloc (.cells #[.string s] 9)).alloc (.cells #[.int .i64 n] 3)
theorem jW_in (w : World) (o d : Int) (s : ByteArray) (n : Nat) (hG : ∀ i, G i → i < w.heap.size) : JIn (jW w o d s n) G (w.heap.size + 1) w.heap.size (w.heap.size + 1 + 1) ⟨n, o, d, s⟩ ∧ Below w.heap.size w (jW w o d s n) := by
  have no : ∀ i, w.heap.size ≤ i → ¬ G i := fun i hi e => absurd (hG i e) (Nat.not_lt.2 hi)
  have s1 : (w.alloc (.cells #[.int .u8 o, .int .u8 d, .int .u8 0, .int .u8 0, .bool true, .int .i32 0] 106)).heap.size = w.heap.size + 1 := by simp
  have s2 : ((w.alloc (.cells #[.int .u8 o, .int .u8 d, .int .u8 0, .int .u8 0, .bool true, .int .i32 0] 106)).alloc (.cells #[.string s] 9)).heap.size = w.heap.size + 1 + 1 := by simp
  exact ⟨⟨row_alloc (row_born s1), row_alloc (row_alloc (row_born rfl)), row_born s2, no _ (by omega), no _ (by omega), no _ (by omega)⟩, (((Below.refl _ _).alloc (Nat.le_refl _) _).alloc (by simp) _).alloc (by simp; omega) _⟩
theorem jW_ins (w : World) (o d : Int) (s : ByteArray) (n : Nat) (hG : ∀ i, G i → i < w.heap.size) : Ins ((jW w o d s n).alloc (.cells #[.int .u8 o, .int .u8 d, .int .u8 0, .int .u8 0, .bool true, .int .i32 0] 106)) G (.slice (some ⟨w.heap.size + 1 + 1 + 1, 0, none⟩) 1 1) 1 (fun _ => ⟨o, d, 0, 0, true, 0⟩) := by
  have h := one_ins ⟨o, d, 0, 0, true, 0⟩ (jW w o d s n)
  have e : (jW w o d s n).heap.size = w.heap.size + 1 + 1 + 1 := by simp [jW]
  rw [e] at h
  exact h.mono fun i hi => by have := hG i hi; omega
theorem jump_no (v : Value) (s : ByteArray) (o d : Int) (w : World) (h : NoAsm w v) : Calls Tryz.prog 354 #[v, .agg #[.int .u8 o, .int .u8 d, .int .u8 0, .int .u8 0, .bool true, .int .i32 0], .string s] w fun e w' => e = .returned (.int .i64 1) ∧ Below w.heap.size w w' := by
  have H := Lib.hid h
  clear h
  go_enter Tryz.func354, Tryz.ntmps354
  go_wp2_with fail
  refine (Len_no _ _ (H.out.bel (((Below.refl _ _).alloc (Nat.le_refl _) _).alloc (by simp) _))).mono ?_; rintro e w1 ⟨rfl, rfl⟩
  go_wp2_with fail
  have g := ((jW_in (G := fun _ => False) w o d s 0 (fun _ e => e.elim)).2).alloc (jW_in (G := fun _ => False) w o d s 0 (fun _ e => e.elim)).2.size (.cells #[.int .u8 o, .int .u8 d, .int .u8 0, .int .u8 0, .bool true, .int .i32 0] 106)
  have GG := Lib.hid g
  refine (Put_no _ _ _ (H.out.bel g)).mono ?_; rintro e w2 ⟨rfl, rfl⟩
  clear g
  go_wp2_with fail
  go_ret
  exact ⟨rfl, GG.out⟩
theorem jump_bad (o d : Int) (s : ByteArray) (h : AsmB w b G K q) (hx : XB ⟨o, d, 0, 0, true, 0⟩) (hm : I2.may o d 0 0 true 0 = false) (hn : q.n + 1 ≤ 100000) :
    Calls Tryz.prog 354 #[.pointer (some ⟨b, 0, none⟩), .agg #[.int .u8 o, .int .u8 d, .int .u8 0, .int .u8 0, .bool true, .int .i32 0], .string s] w fun e w' => e = .returned (.int .i64 2) ∧ Left w b G K q w' := by
  have H := Lib.hid h
  have HX := Lib.hid hx
  have HM := Lib.hid hm
  have HN := Lib.hid hn
  clear h hx hm hn
  go_enter Tryz.func354, Tryz.ntmps354
  go_wp2_with fail
  refine (Len_at (H.out.bel (((Below.refl _ _).alloc (Nat.le_refl _) _).alloc (by simp) _))).mono ?_; rintro e w1 ⟨rfl, rfl⟩
  go_wp2_with fail
  have g1 := (jW_in (G := G) w o d s q.n H.out.lt).2
  have g := g1.alloc g1.size (.cells #[.int .u8 o, .int .u8 d, .int .u8 0, .int .u8 0, .bool true, .int .i32 0] 106)
  have GG := Lib.hid g
  refine (Put_bad (X := fun _ => ⟨o, d, 0, 0, true, 0⟩) (k := 1) (H.out.bel g) (jW_ins w o d s q.n H.out.lt) (fun _ _ => HX.out) HN.out (i := 0) (by decide) HM.out).mono ?_; rintro e w2 ⟨rfl, L⟩
  have L := Lib.hid (Left.after GG.out L)
  clear g g1
  go_wp2_with fail
  go_ret
  exact ⟨rfl, L.out⟩
set_option maxHeartbeats 1000000 in
theorem jump_yes (o d : Int) (s : ByteArray) (h : AsmB w b G K q) (hx : XB ⟨o, d, 0, 0, true, 0⟩) (hop : (o = 17 ∧ 0 ≤ d ∧ d ≤ 6) ∨ (o = 18 ∧ d = 0)) (hm : I2.may o d 0 0 true 0 = true) (hs : s.size ≤ maxLen) (hn : q.n + 1 ≤ 100000) :
    Calls Tryz.prog 354 #[.pointer (some ⟨b, 0, none⟩), .agg #[.int .u8 o, .int .u8 d, .int .u8 0, .int .u8 0, .bool true, .int .i32 0], .string s] w fun e w' => e = .returned (.int .i64 0) ∧ Left w b G K (q.jump o d s) w' := by
  have hmf : ∀ (fn : Fn) (first cap : Array Value) (w : World), (Instr.makeFunc fn first cap).run Tryz.prog w = .ok (.func fn first cap) w := fun _ _ _ _ => rfl
  have H := Lib.hid h
  have HX := Lib.hid hx
  have HM := Lib.hid hm
  have HN := Lib.hid hn
  have HO : Hid (JOk (q.n + 1) ⟨q.n, o, d, s⟩) := ⟨hm, hop, Nat.lt_succ_self _, hs⟩
  have HJ : Hid (q.js.length + 1 ≤ q.n + 1) := Nat.succ_le_succ h.ok.jl
  have hq : q.jump o d s = { q.adds (fun _ => XI.word ⟨o, d, 0, 0, true, 0⟩) 1 with js := (q.adds (fun _ => XI.word ⟨o, d, 0, 0, true, 0⟩) 1).js ++ [⟨q.n, o, d, s⟩] } := by
    have e : XI.word ⟨o, d, 0, 0, true, 0⟩ = I2.enc o d 0 0 true 0 := I2.eW_yes hm
    unfold AS.jump
    rw [← e]
    rfl
  obtain ⟨q1, hq1⟩ : ∃ q1, q1 = q.adds (fun _ => XI.word ⟨o, d, 0, 0, true, 0⟩) 1 := ⟨_, rfl⟩
  have en : q1.n = q.n + 1 := by rw [hq1]; rfl
  have ej : q1.js = q.js := by rw [hq1]; rfl
  rw [← hq1] at hq
  rw [hq]
  have HQ := Lib.hid hq1
  rw [← en, ← ej] at HJ
  rw [← en] at HO
  clear h hx hm hn hop hs hq hq1 en ej
  go_enter Tryz.func354, Tryz.ntmps354
  go_wp2_with fail
  refine (Len_at (H.out.bel (((Below.refl _ _).alloc (Nat.le_refl _) _).alloc (by simp) _))).mono ?_; rintro e w1 ⟨rfl, rfl⟩
  go_wp2_with fail
  obtain ⟨J1, g1⟩ := jW_in (G := K) w o d s q.n H.out.klt
  have gx : Below (jW w o d s q.n).heap.size (jW w o d s q.n) ((jW w o d s q.n).alloc (.cells #[.int .u8 o, .int .u8 d, .int .u8 0, .int .u8 0, .bool true, .int .i32 0] 106)) := (Below.refl _ _).alloc (Nat.le_refl _) _
  have GG := Lib.hid (bel_trans g1 gx)
  have J2 := Lib.hid (J1.turns (H := fun _ => False) (G' := K) (Turns.of_bel gx) (fun _ e => e.elim) (fun _ e => .inl e))
  refine (Put_yes (X := fun _ => ⟨o, d, 0, 0, true, 0⟩) (k := 1) (H.out.bel GG.out) (jW_ins w o d s q.n H.out.lt) (fun _ _ => HX.out) HN.out (fun _ _ => HM.out)).mono ?_; rintro e w4 ⟨rfl, L⟩
  change Left _ b G K (q.adds (fun _ => XI.word ⟨o, d, 0, 0, true, 0⟩) 1) w4 at L
  rw [← HQ.out] at L
  obtain ⟨G4, ⟨mp, wv, jv, vs, P4⟩, T4, low4⟩ := L
  have J4 := Lib.hid (J2.out.turns (G' := fun i => K i ∨ G4 i) T4 (fun _ e => .inl (H.out.sub _ e)) (fun i hi => hi.elim .inl fun e => (low4 i e).imp (H.out.sub i) id))
  have LW : Hid (Turns G w w4 ∧ ∀ i, G4 i → G i ∨ w.heap.size ≤ i) := ⟨(Turns.of_bel GG.out).trans T4 (fun _ e => .inl e), fun i hi => (low4 i hi).imp id fun e => Nat.le_trans GG.out.size e⟩
  obtain ⟨k0, k1, k2, k3⟩ := P4.cells
  obtain ⟨p, c, rfl⟩ := P4.jform
  have gx5 : Below w4.heap.size w4 (w4.alloc (.cells #[jval (w.heap.size + 1) w.heap.size (w.heap.size + 1 + 1)] 238)) := (Below.refl _ _).alloc (Nat.le_refl _) _
  have hjl : Hid (q1.js.length ≤ 1000000) := by have h1 := P4.ok.jl; have h2 := P4.ok.n; unfold Hid; omega
  have P5 := Lib.hid (P4.bel gx5)
  have J5 := Lib.hid (J4.out.turns (H := fun _ => False) (G' := fun i => K i ∨ G4 i) (Turns.of_bel gx5) (fun _ e => e.elim) (fun _ e => .inl e))
  have GX := Lib.hid gx5
  have hrow : Hid ((w4.alloc (.cells #[jval (w.heap.size + 1) w.heap.size (w.heap.size + 1 + 1)] 238)).heap[w4.heap.size]? = some (.cells #[jval (w.heap.size + 1) w.heap.size (w.heap.size + 1 + 1)] 238 (0, 0))) := heap_alloc_last _ _
  clear T4 low4 J1 g1 gx J2 GG HQ P4 J4 gx5
  go_wp2_with (at_builtin; refine wpList_tell rfl _ _ 234 238 rfl _ 8 comp_under comp_parts rfl (by decide) _ _ _ (jval (w.heap.size + 1) w.heap.size (w.heap.size + 1 + 1)) rfl rfl P5.out.jumps w4.heap.size 1 rfl hrow.out hjl.out ?_
               intro g' c' w5 own gr loc
               have X := Lib.hid (P5.out.jumped own gr loc J5.out HO.out HJ.out)
               have hb5 : w5.heap[b]? = _ := (gr.block b (P5.out.lt _ P5.out.gb) fun e => (P5.out.jb e.symm).1 rfl).trans P5.out.box
               have k3' := row_cell hb5 (j := 3) rfl
               have f3' := row_frozen (j := 3) hb5
               clear own gr loc k0 k1 k2 k3 hrow hb5)
  go_ret
  exact ⟨rfl, ⟨_, (X.out.1.narrow (K' := fun i => K i ∨ (G4 i ∨ i = g')) (fun _ e => .inr e) (fun i e => e.elim (fun e => .inl (.inl e)) .inr)).toB, LW.out.1.trans ((Turns.of_bel (G := G4) GX.out).trans X.out.2.1 (fun _ e => .inl e)) LW.out.2, fun i hi => (X.out.2.2 i hi).elim (LW.out.2 i) fun e => .inr (Nat.le_trans LW.out.1.size (Nat.le_trans GX.out.size e))⟩⟩
end
end Go.Proofs.YtmpagjijjahohaaGreatDoor.A7
namespace Go.Proofs.YtmpagjijjahohaaGreatDoor.A7
open Go.RowKit Go.Maps
set_option linter.unusedVariables false
section
variable {w w2 : World} {b mp : Nat} {wv jv : Value} {vs : List Value} {G K : Nat → Prop} {q : AS}
theorem xb_jump (o d : Int) (ho : 0 ≤ o ∧ o ≤ 255) (hd : 0 ≤ d ∧ d ≤ 255) : XB ⟨o, d, 0, 0, true, 0⟩ := ⟨ho, hd, by simp only; omega, by simp only; omega, by simp only; omega⟩
theorem Jump_no (v : Value) (d : Int) (s : ByteArray) (w : World) (h : NoAsm w v) : Calls Tryz.prog 282 #[v, .int .u8 d, .string s] w fun e w' => e = .returned (.int .i64 1) ∧ Below w.heap.size w w' := by
  have H := Lib.hid h
  clear h
  go_enter Tryz.func282, Tryz.ntmps282
  go_wp2_with fail
  refine (jump_no v s 17 d w H.out).mono ?_; rintro e w1 ⟨rfl, g⟩
  go_wp2_with fail
  go_ret
  exact ⟨rfl, g⟩
theorem Jump_yes (d : Int) (s : ByteArray) (h : AsmB w b G K q) (hd : 0 ≤ d ∧ d ≤ 6) (hs : s.size ≤ maxLen) (hn : q.n + 1 ≤ 100000) :
    Calls Tryz.prog 282 #[.pointer (some ⟨b, 0, none⟩), .int .u8 d, .string s] w fun e w' => e = .returned (.int .i64 0) ∧ Left w b G K (q.jump 17 d s) w' := by
  have C := Lib.hid (jump_yes 17 d s h (xb_jump 17 d (by decide) (by omega)) (.inl ⟨rfl, hd.1, hd.2⟩) (by rw [I2.may4_t _ _ _ _ _ hd.1 (by decide) (by decide) rfl]; exact decide_eq_true ⟨hd.2, rfl, rfl, by decide, by decide⟩) hs hn)
  clear h hd hs hn
  go_enter Tryz.func282, Tryz.ntmps282
  go_wp2_with fail
  refine C.out.mono ?_; rintro e w1 ⟨rfl, L⟩
  have L := Lib.hid L
  go_wp2_with fail
  go_ret
  exact ⟨rfl, L.out⟩
theorem Jump_bad (d : Int) (s : ByteArray) (h : AsmB w b G K q) (hd : 6 < d ∧ d ≤ 255) (hn : q.n + 1 ≤ 100000) :
    Calls Tryz.prog 282 #[.pointer (some ⟨b, 0, none⟩), .int .u8 d, .string s] w fun e w' => e = .returned (.int .i64 2) ∧ Left w b G K q w' := by
  have C := Lib.hid (jump_bad 17 d s h (xb_jump 17 d (by decide) (by omega)) (by rw [I2.may4_t _ _ _ _ _ (by omega) (by decide) (by decide) rfl]; exact decide_eq_false fun h => by omega) hn)
  clear h hd hn
  go_enter Tryz.func282, Tryz.ntmps282
  go_wp2_with fail
  refine C.out.mono ?_; rintro e w1 ⟨rfl, L⟩
  have L := Lib.hid L
  go_wp2_with fail
  go_ret
  exact ⟨rfl, L.out⟩
theorem eq_nil (a : Option Addr) (n c n' c' : Nat) (W : World) : (binOp .eql 26 (.slice a n c) (.slice none n' c')).run Tryz.prog W = .ok (.bool a.isNone) W := Lib.run_eql_slice_nil W _ _ a n c n' c' words_under
theorem bsL_one (f : Nat → Int) (n : Nat) : ∀ u ∈ bsL .u32 f n, u.oneCell' = true := by
  intro u hu
  simp [bsL] at hu
  obtain ⟨i, _, rfl⟩ := hu
  rfl
theorem own_cell {B : Nat} {t : TypeId} {g n c : Nat} {xs : List Value} (h : w.ownsRow B t 1 (.slice (some ⟨g, 0, none⟩) n c) n xs) : ∀ (j : Nat) (u : Value), xs[j]? = some u → w.cell? ⟨g, 0 + j, none⟩ = some u := by
  obtain ⟨h0, ⟨h, _⟩ | ⟨g', cap, cur, e, hB, hg, h1, h2, h3, h4⟩⟩ := h
  · cases h
  · simp only [Value.slice.injEq, Option.some.injEq, Addr.mk.injEq] at e
    obtain ⟨⟨rfl, _⟩, _, rfl⟩ := e
    intro j u hu
    have hj : j < n * 1 := by
      rcases Nat.lt_or_ge j (n * 1) with h | h
      · exact h
      · rw [List.getElem?_eq_none (by omega)] at hu; cases hu
    rw [Nat.zero_add]
    rw [← h4, List.getElem?_take, if_pos hj] at hu
    exact row_cell hg (by simpa using hu)
set_option maxRecDepth 10000 in
theorem cloneW_at {s : Value} {n : Nat} {f : Nat → Int} (own : w.ownsRow 0 32 1 s n (bsL .u32 f n)) (hn : n ≤ 100000) :
    Calls Tryz.prog 37 #[s] w fun e w' => ∃ v, e = .returned v ∧ w'.ownsRow w.heap.size 32 1 v n (bsL .u32 f n) ∧ Below w.heap.size w w' := by
  obtain ⟨i0, hi, hz0, hz1, hz2⟩ := info_parts words_parts
  have hq := eq_nil
  rcases own_of own with ⟨rfl, rfl⟩ | ⟨g, c, rfl⟩
  · clear own
    go_enter Tryz.func37, Tryz.ntmps37
    go_wp2
    go_ret
    exact ⟨_, rfl, World.ownsRow_nil _ _ _ _, Below.refl _ _⟩
  · have hnews : Hid (∀ (j : Nat) (u : Value), (bsL .u32 f n)[j]? = some u → (w.alloc (.cells #[] 32)).cell? ((⟨g, 0, none⟩ : Addr).add j) = some u) := fun j u hj => by
      rw [add_off]
      exact bel_cell ((Below.refl _ _).alloc (Nat.le_refl _) _) (own_cell own j u hj)
    clear own
    go_enter Tryz.func37, Tryz.ntmps37
    go_wp2_with (at_builtin; refine wpList_append_own _ rfl _ _ 26 rfl w.heap.size 32 i0 (.int .u32 0) 1 4 words_under hi hz0 hz1 hz2 rfl (by decide) _ _ _ rfl (World.ownsRow_made w #[] 0 (Nat.le_refl _) (Nat.zero_le _) (by simp)) ⟨g, 0, none⟩ n c (bsL .u32 f n) rfl ?qc1 ?qc2 ?qc3 ?qc4 ?qc5 ?qc6 ?_)
    case qc1 => unfold bsL; simp
    case qc2 => exact hnews.out
    case qc3 => exact bsL_one f n
    case qc4 => unfold maxLen; omega
    case qc5 => omega
    case qc6 => simp
    intro v' w1 hown hgrow hnil
    have X : Hid (w1.ownsRow w.heap.size 32 1 v' n (bsL .u32 f n) ∧ Below w.heap.size w w1) := ⟨by simpa using hown, ((Below.refl _ w).alloc (Nat.le_refl _) _).grown hgrow (by simp) (by intro k hk; simp [Value.ownBlock] at hk; omega)⟩
    clear hown hgrow hnil
    go_wp2
    go_ret
    exact ⟨_, rfl, X.out.1, X.out.2⟩
theorem look_mem (l : List (ByteArray × Nat)) (s : ByteArray) (t : Nat) : look l s = some t → ∃ p ∈ l, p.2 = t := by
  refine snocs (P := fun l => look l s = some t → ∃ p ∈ l, p.2 = t) (fun h => by simp [look_nil] at h) (fun l x ih h => ?_) l
  obtain ⟨k, v⟩ := x
  rw [look_snoc] at h
  by_cases e : k = s
  · rw [if_pos e] at h
    injection h with h
    exact ⟨(k, v), by simp, h⟩
  · rw [if_neg e] at h
    obtain ⟨p, hp, e2⟩ := ih h
    exact ⟨p, List.mem_append_left _ hp, e2⟩
theorem Words_no (v : Value) (w : World) (h : NoAsm w v) : Calls Tryz.prog 110 #[v] w fun e w' => e = .returned (.tuple #[.slice none 0 0, .int .i64 1]) ∧ w' = w := by
  have H := Lib.hid h
  clear h
  go_enter Tryz.func110, Tryz.ntmps110
  go_wp2_with fail
  refine (isObject_no _ _ H.out).mono ?_; rintro e w1 ⟨rfl, rfl⟩
  go_wp2_with fail
  go_ret2
  exact ⟨rfl, rfl⟩
set_option maxHeartbeats 1000000 in
theorem Words_any (h : AsmB w b G K q) :
    Calls Tryz.prog 110 #[.pointer (some ⟨b, 0, none⟩)] w fun e w' => (∃ f v, q.words = some f ∧ e = .returned (.tuple #[v, .int .i64 0]) ∧ w'.ownsRow w.heap.size 32 1 v q.n (bsL .u32 f q.n) ∧ Below w.heap.size w w') ∨ (q.words = none ∧ e = .returned (.tuple #[.slice none 0 0, .int .i64 7]) ∧ Below w.heap.size w w') := by
  obtain ⟨mp, wv, jv, vs, h⟩ := h
  obtain ⟨k0, k1, k2, k3⟩ := h.cells
  obtain ⟨p, c, rfl⟩ := h.wform
  obtain ⟨jp, jc, rfl⟩ := h.jform
  have P := Lib.hid h
  have hjb : q.js.length ≤ 100000 := Nat.le_trans h.ok.jl h.ok.n
  clear h
  go_enter Tryz.func110, Tryz.ntmps110
  go_wp2_with fail
  refine (isObject_yes _ _ _ _ P.out.box).mono ?_; rintro e w1 ⟨rfl, rfl⟩
  go_wp2_with fail
  refine (cloneW_at P.out.words P.out.ok.n).mono ?_; rintro e w2 ⟨v, rfl, O, g2⟩
  have P2 := Lib.hid (P.out.bel g2)
  have O2 := Lib.hid O
  have G2 := Lib.hid g2
  clear k0 k1 k2 k3 O g2
  obtain ⟨k0, k1, k2, k3⟩ := P2.out.cells
  obtain ⟨vp, vc, rfl⟩ := lenOf_own O2.out
  go_wp2_with fail
  go_loopw [21] (fun i wr => ∃ (k : Nat) (f : Nat → Int), k ≤ q.js.length ∧ i = .int .i64 k ∧ fin q.ms (q.js.drop k) f = q.words ∧ wr.ownsRow w1.heap.size 32 1 (.slice vp q.n vc) q.n (bsL .u32 f q.n) ∧ Below w1.heap.size w1 wr) (fun i _ => q.js.length - (intOf i).toNat)
  case atStart => exact ⟨0, q.ws, Nat.zero_le _, rfl, rfl, O2.out, G2.out⟩
  case round =>
    obtain ⟨k, f, hk, rfl, hf, own, g⟩ := hrel
    have F := Lib.hid hf
    have O3 := Lib.hid own
    have P3 := Lib.hid (P.out.bel g)
    have G3 := Lib.hid g
    clear hf own g k0 k1 k2 k3
    obtain ⟨k0, k1, k2, k3⟩ := P3.out.cells
    by_cases hlt : k < q.js.length
    · have hlen : vs.length = q.js.length := by have := P.out.jumps.1; simpa using this
      obtain ⟨bn, bx, ba, hv, J⟩ := P3.out.each k _ _ (List.getElem?_eq_getElem (by omega)) (List.getElem?_eq_getElem hlt)
      obtain ⟨jg, rfl⟩ : ∃ jg, jp = some ⟨jg, 0, none⟩ := by
        rcases own_of P3.out.jumps with ⟨_, h0⟩ | ⟨g', c', e⟩
        · omega
        · injection e with e; exact ⟨g', e⟩
      have hcell := own_cell P3.out.jumps k _ ((List.getElem?_eq_getElem (by omega)).trans (congrArg some hv))
      rw [Nat.zero_add] at hcell
      unfold jval at hcell
      have hdrop : q.js.drop k = q.js[k] :: q.js.drop (k + 1) := List.drop_eq_getElem_cons hlt
      have jok := P.out.ok.js _ (List.getElem_mem hlt)
      have hfk : ∀ t, look q.ms (q.js[k]).nm = some t → t ≤ 100000 := fun t h => by
        obtain ⟨p, hp, e⟩ := look_mem _ _ _ h
        have := P.out.ok.at_ p hp
        have := P.out.ok.n
        omega
      have F2 := F.out
      rw [hdrop] at F2
      generalize q.js[k] = j at *
      have JJ := Lib.hid J
      have JO := Lib.hid jok
      cases hl : look q.ms j.nm with
      | none =>
        have FF : Hid (q.words = none) := by
          have := F2; simp only [fin, hl] at this; exact this.symm
        clear J jok hfk F2 hdrop hv
        go_wp2_with fail
        refine (jump1_none _ JJ.out JO.out P3.out.marks hl).mono ?_; rintro e w3 ⟨rfl, rfl⟩
        go_wp2_with fail
        go_ret2
        exact .inr ⟨FF.out, rfl, G3.out⟩
      | some t =>
        have FF : Hid (fin q.ms (q.js.drop (k + 1)) (F3.upd f j.pos (j.word t)) = q.words) := by
          have := F2; simp only [fin, hl] at this; exact this
        have HT := Lib.hid (hfk t hl)
        have HL := Lib.hid hl
        have hqn : 0 < q.n := by have := P.out.ok.jl; omega
        obtain ⟨vg, rfl⟩ : ∃ vg, vp = some ⟨vg, 0, none⟩ := by
          rcases own_of O3.out with ⟨_, h0⟩ | ⟨g', c', e⟩
          · omega
          · injection e with e; exact ⟨g', e⟩
        clear J jok hfk F2 hdrop hv hl hqn
        go_wp2_with fail
        refine (jump1_yes JJ.out JO.out P3.out.marks HL.out HT.out P.out.ok.n P3.out.tab O3.out).mono ?_; rintro e w3 ⟨rfl, o4, g4⟩
        have X : Hid (w3.ownsRow w1.heap.size 32 1 (.slice (some ⟨vg, 0, none⟩) q.n vc) q.n (bsL .u32 (F3.upd f j.pos (j.word t)) q.n) ∧ Below w1.heap.size w1 w3) := ⟨o4, only_bel G3.out g4 (O3.out.lt vg rfl).1⟩
        clear o4 g4 O3 JJ JO HL HT P3 hcell k0 k1 k2 k3
        go_wp2_with fail
        go_roundw
        case rel => exact ⟨k + 1, _, by omega, by go_num, FF.out, X.out.1, X.out.2⟩
        case measure => simp [intOf]; omega
    · obtain rfl : k = q.js.length := by omega
      have F1 : Hid (some f = q.words) := by have := F.out; rw [List.drop_length] at this; exact this
      go_wp2_with fail
      go_ret2
      exact .inl ⟨f, _, F1.out.symm, rfl, O3.out, G3.out⟩
end
end Go.Proofs.YtmpagjijjahohaaGreatDoor.A7
namespace Go.Proofs.YtmpagjijjahohaaGreatDoor.A7
open Go.RowKit Go.Maps
set_option linter.unusedVariables false
/-- Three lists, all made since w0; nothing that was there in w0 has turned. -/
def Tri (w0 w : World) (a b c : Nat) (qa qb qc : AS) : Prop := ∃ Ga Gb Gc K : Nat → Prop, AsmB w a Ga K qa ∧ AsmB w b Gb K qb ∧ AsmB w c Gc K qc ∧ (∀ i, Ga i → ¬ Gb i) ∧ (∀ i, Ga i → ¬ Gc i) ∧ (∀ i, Gb i → ¬ Gc i) ∧ (∀ i, (Ga i ∨ Gb i ∨ Gc i) → w0.heap.size ≤ i) ∧ Below w0.heap.size w0 w
section
variable {w0 w w' : World} {a b c : Nat} {qa qb qc q' : AS}
theorem Tri.rot (h : Tri w0 w a b c qa qb qc) : Tri w0 w b c a qb qc qa := by
  obtain ⟨Ga, Gb, Gc, K, A, B, C, ab, ac, bc, low, g⟩ := h
  exact ⟨Gb, Gc, Ga, K, B, C, A, bc, fun i hb ha => ab i ha hb, fun i hc ha => ac i ha hc, fun i hi => low i (by rcases hi with h | h | h <;> simp [h]), g⟩
theorem Tri.bel (h : Tri w0 w a b c qa qb qc) : Below w0.heap.size w0 w := by obtain ⟨Ga, Gb, Gc, K, A, B, C, ab, ac, bc, low, g⟩ := h; exact g
theorem Tri.more (h : Tri w0 w a b c qa qb qc) (k : Below w.heap.size w w') : Tri w0 w' a b c qa qb qc := by
  obtain ⟨Ga, Gb, Gc, K, A, B, C, ab, ac, bc, low, g⟩ := h
  exact ⟨Ga, Gb, Gc, K, A.bel k, B.bel k, C.bel k, ab, ac, bc, low, bel_trans g k⟩
theorem Tri.see (h : Tri w0 w a b c qa qb qc) : ∃ G K, AsmB w a G K qa := by obtain ⟨Ga, Gb, Gc, K, A, _⟩ := h; exact ⟨_, _, A⟩
theorem Tri.left (h : Tri w0 w a b c qa qb qc) {F : Nat} {xs : Array Value} {r : Value} (P : ∀ G K, AsmB w a G K qa → Calls Tryz.prog F xs w fun e w' => e = .returned r ∧ Left w a G K q' w') : Calls Tryz.prog F xs w fun e w' => e = .returned r ∧ Tri w0 w' a b c q' qb qc := by
  obtain ⟨Ga, Gb, Gc, K, A, B, C, ab, ac, bc, low, g⟩ := h
  refine (P Ga K A).mono ?_
  rintro e w' ⟨rfl, G', A', T, lo⟩
  have l1 := A'.lt
  have no : ∀ (H : Nat → Prop), (∀ i, Ga i → ¬ H i) → (∀ i, H i → i < w.heap.size) → ∀ i, G' i → ¬ H i := fun H hH hl i hi e => (lo i hi).elim (fun h => hH i h e) fun h => absurd (hl i e) (Nat.not_lt.2 h)
  refine ⟨rfl, G', Gb, Gc, fun i => K i ∨ G' i, A', B.beside T (fun i hb ha => ab i ha hb) A.sub A.far lo l1, C.beside T (fun i hc ha => ac i ha hc) A.sub A.far lo l1, no Gb ab B.lt, no Gc ac C.lt, bc, fun i hi => ?_, Turns.bel g T (fun i hi => low i (.inl hi))⟩
  rcases hi with h | h
  · exact (lo i h).elim (fun h => low i (.inl h)) fun h => Nat.le_trans g.size h
  · exact low i (.inr h)
theorem Tri.left2 {u : World} (h : Tri w0 u a b c qa qb qc) (k : Below u.heap.size u w) {F : Nat} {xs : Array Value} {r : Value} (P : ∀ G K, AsmB w a G K qa → (∀ i, G i → i < u.heap.size) → Calls Tryz.prog F xs w fun e w' => e = .returned r ∧ Left w a G K q' w') : Calls Tryz.prog F xs w fun e w' => e = .returned r ∧ Tri w0 w' a b c q' qb qc := by
  obtain ⟨Ga, Gb, Gc, K, A, B, C, ab, ac, bc, low, g⟩ := h
  refine (P Ga K (A.bel k) A.lt).mono ?_
  replace A := A.bel k
  replace B := B.bel k
  replace C := C.bel k
  replace g := bel_trans g k
  rintro e w' ⟨rfl, G', A', T, lo⟩
  have l1 := A'.lt
  have no : ∀ (H : Nat → Prop), (∀ i, Ga i → ¬ H i) → (∀ i, H i → i < w.heap.size) → ∀ i, G' i → ¬ H i := fun H hH hl i hi e => (lo i hi).elim (fun h => hH i h e) fun h => absurd (hl i e) (Nat.not_lt.2 h)
  refine ⟨rfl, G', Gb, Gc, fun i => K i ∨ G' i, A', B.beside T (fun i hb ha => ab i ha hb) A.sub A.far lo l1, C.beside T (fun i hc ha => ac i ha hc) A.sub A.far lo l1, no Gb ab B.lt, no Gc ac C.lt, bc, fun i hi => ?_, Turns.bel g T (fun i hi => low i (.inl hi))⟩
  rcases hi with h | h
  · exact (lo i h).elim (fun h => low i (.inl h)) fun h => Nat.le_trans g.size h
  · exact low i (.inr h)
/-- A new list beside others. -/
theorem AsmB.besideNew {Ga K G : Nat → Prop} (h : AsmB w a Ga K qa) (k : Below w.heap.size w w') (low : ∀ i, G i → w.heap.size ≤ i) (lt' : ∀ i, G i → i < w'.heap.size) : AsmB w' a Ga (fun i => K i ∨ G i) qa :=
  h.beside (H := fun _ => False) (Turns.of_bel k) (fun _ _ e => e) (fun _ e => e.elim) (fun _ e => e.elim) (fun i hi => .inr (low i hi)) lt'
set_option maxHeartbeats 1000000 in
theorem Same_yes (s t : Value) (m : Nat) (f g : Nat → Int) (w : World) (hm : m ≤ 4194304) (h1 : Sl .u32 w s m f) (h2 : Sl .u32 w t m g) (he : ∀ i, i < m → f i = g i) :
    Calls Tryz.prog 14 #[s, t] w fun e w' => e = .returned (.bool true) ∧ Below w.heap.size w w' := by
  obtain ⟨p, c, rfl, h1⟩ := h1
  obtain ⟨q, d, rfl, h2⟩ := h2
  have H1 := Lib.hid h1
  have H2 := Lib.hid h2
  have HE := Lib.hid he
  clear h1 h2 he
  go_enter Tryz.func14, Tryz.ntmps14
  go_wp2
  go_loopw [5] (fun i wr => ∃ k : Nat, k ≤ m ∧ i = .int .i64 k ∧ Below w.heap.size w wr) (fun i _ => m - (intOf i).toNat)
  case atStart => exact ⟨0, by omega, rfl, Below.refl _ _⟩
  case round =>
    obtain ⟨k, hk, rfl, hg⟩ := hrel
    by_cases hlt : k < m
    · obtain ⟨a, o, rfl, ha⟩ := H1.out (by omega)
      obtain ⟨b, r, rfl, hb⟩ := H2.out (by omega)
      have ca := bel_cell hg (ha k hlt)
      have cb := bel_cell hg (hb k hlt)
      rw [← HE.out k hlt] at cb
      have hk32 : k < 4194304 := by omega
      clear ha hb H1 H2
      go_wp2
      go_quiet (fail)
      go_wp2
      go_roundw
      case rel => exact ⟨k + 1, by omega, by go_num, bel_drewN hg _⟩
      case measure => simp [intOf]; omega
    · obtain rfl : k = m := by omega
      go_wp2
      go_ret
      exact ⟨rfl, hg⟩
theorem lit_sl (l : List Int) (n : Nat) (hl : l.length = n) (w : World) : Sl .u32 (w.alloc (.cells (l.map (Value.int .u32)).toArray 32)) (.slice (some ⟨w.heap.size, 0, none⟩) n n) n (fun i => l.getD i 0) := by
  have h : (w.alloc (.cells (l.map (Value.int .u32)).toArray 32)).heap[w.heap.size]? = some (.cells (l.map (Value.int .u32)).toArray 32 (0, 0)) := heap_alloc_last _ _
  refine ⟨_, _, rfl, fun _ => ⟨_, 0, rfl, fun i hi => row_cell h ?_⟩⟩
  rw [Nat.zero_add]
  have hi' : i < l.length := by omega
  simp [hi', List.getD]
theorem range_eq {f : Nat → Int} {l : List Int} {n : Nat} (h : (List.range n).map f = l) : ∀ i, i < n → f i = l.getD i 0 := by
  intro i hi
  subst h
  simp [List.getD, hi]
end
end Go.Proofs.YtmpagjijjahohaaGreatDoor.A7
namespace Go.Proofs.YtmpagjijjahohaaGreatDoor.A7
open Go.RowKit Go.Maps
set_option linter.unusedVariables false
/-- A list lies in world w; since w0 only blocks of G0 and new ones have turned. -/
def Has (w0 w : World) (b : Nat) (G0 : Nat → Prop) (q : AS) : Prop := ∃ G K, AsmB w b G K q ∧ (∀ i, G i → G0 i ∨ w0.heap.size ≤ i) ∧ Turns G0 w0 w
section
variable {w0 w w' : World} {b : Nat} {G G0 K : Nat → Prop} {q q' : AS}
theorem Has.start (h : AsmB w b G K q) : Has w w b G q := ⟨G, K, h, fun _ e => .inl e, Turns.refl _ _⟩
theorem Has.left (h : Has w0 w b G0 q) {F : Nat} {xs : Array Value} {r : Value} (P : ∀ G K, AsmB w b G K q → (∀ i, G i → i < w.heap.size) → Calls Tryz.prog F xs w fun e w' => e = .returned r ∧ Left w b G K q' w') : Calls Tryz.prog F xs w fun e w' => e = .returned r ∧ Has w0 w' b G0 q' := by
  obtain ⟨G, K, A, lo, T⟩ := h
  refine (P G K A A.lt).mono ?_
  rintro e w' ⟨rfl, G', A', T', lo'⟩
  refine ⟨rfl, G', _, A', fun i hi => ?_, T.trans T' lo⟩
  exact (lo' i hi).elim (lo i) fun e => .inr (Nat.le_trans T.size e)
theorem Has.bel (h : Has w0 w b G0 q) (k : Below w.heap.size w w') : Has w0 w' b G0 q := by
  obtain ⟨G, K, A, lo, T⟩ := h
  exact ⟨G, K, A.bel k, lo, T.trans (G' := fun _ => False) (Turns.of_bel k) (fun _ e => e.elim)⟩
theorem Has.see (h : Has w0 w b G0 q) : ∃ G K, AsmB w b G K q := by obtain ⟨G, K, A, _⟩ := h; exact ⟨G, K, A⟩
theorem Has.turns (h : Has w0 w b G0 q) : Turns G0 w0 w := by obtain ⟨G, K, A, _, T⟩ := h; exact T
/-- A nil slice has no instruction. -/
theorem nil_ins (H : Nat → Prop) (X : Nat → XI) (V : World) : Ins V H (.slice none 0 0) 0 X := ⟨none, 0, rfl, fun h => absurd h (by decide)⟩
/-- Words of a list without jumps. -/
theorem Words_nil (h : AsmB w b G K q) (hj : q.js = []) :
    Calls Tryz.prog 110 #[.pointer (some ⟨b, 0, none⟩)] w fun e w' => ∃ v, e = .returned (.tuple #[v, .int .i64 0]) ∧ w'.ownsRow w.heap.size 32 1 v q.n (bsL .u32 q.ws q.n) ∧ Below w.heap.size w w' := by
  obtain ⟨mp, wv, jv, vs, h⟩ := h
  obtain ⟨k0, k1, k2, k3⟩ := h.cells
  obtain ⟨p, c, rfl⟩ := h.wform
  obtain ⟨jp, jc, rfl⟩ := h.jform
  have hl : q.js.length = 0 := by rw [hj]; rfl
  rw [hl] at k3
  have P := Lib.hid h
  clear h hj hl
  go_enter Tryz.func110, Tryz.ntmps110
  go_wp2_with fail
  refine (isObject_yes _ _ _ _ P.out.box).mono ?_; rintro e w1 ⟨rfl, rfl⟩
  go_wp2_with fail
  refine (cloneW_at P.out.words P.out.ok.n).mono ?_; rintro e w2 ⟨v, rfl, O, g2⟩
  have k3' := bel_cell g2 k3
  have O2 := Lib.hid O
  have G2 := Lib.hid g2
  clear k0 k1 k2 k3 O g2
  obtain ⟨vp, vc, rfl⟩ := lenOf_own O2.out
  go_wp2_with fail
  go_loopw [21] (fun i wr => i = .int .i64 0 ∧ wr = w2) (fun i _ => 0)
  case atStart => exact ⟨rfl, rfl⟩
  case round =>
    obtain ⟨rfl, rfl⟩ := hrel
    go_wp2_with fail
    go_ret2
    exact ⟨_, rfl, O2.out, G2.out⟩
theorem adds_zero (q : AS) (f : Nat → Int) : q.adds f 0 = q := rfl
theorem Put_none (h : AsmB w b G K q) : Calls Tryz.prog 239 #[.pointer (some ⟨b, 0, none⟩), .slice none 0 0] w fun e w' => e = .returned (.int .i64 0) ∧ Left w b G K q w' := by
  have hn : q.n ≤ 100000 := by obtain ⟨mp, wv, jv, vs, h⟩ := h; exact h.ok.n
  exact Put_yes (X := fun _ => ⟨0, 0, 0, 0, false, 0⟩) (k := 0) h (nil_ins _ _ _) (fun i hi => absurd hi (Nat.not_lt_zero _)) (by omega) (fun i hi => absurd hi (Nat.not_lt_zero _))
end
end Go.Proofs.YtmpagjijjahohaaGreatDoor.A7
