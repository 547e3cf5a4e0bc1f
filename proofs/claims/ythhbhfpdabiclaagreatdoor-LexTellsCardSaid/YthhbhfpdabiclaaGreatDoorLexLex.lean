/- lex (layer 12): Lex. By genlexlex.py. -/
import Derived.Test.YthhbhfpdabiclaaGreatDoorLexApp
namespace Go.Proofs.YthhbhfpdabiclaaGreatDoor.L12
open Go.RowKit Go.Shelf
set_option linter.unusedVariables false
attribute [local go_sem] Oper.semAt_some
/-- What lies when the lines begin. -/
structure Base (w W1 : World) (b6 : Nat) : Prop where
  bel : Below w.heap.size w W1
  z : w.heap.size + 4 < b6
  z6 : b6 < W1.heap.size
  r2 : Boxed W1 w.heap.size 23 (.slice none 0 0)
  r3 : W1.heap[w.heap.size + 1]? = some (.cells #[.int .i64 0, .int .i64 0] 25 (0, 0))
  r4 : Boxed W1 (w.heap.size + 1 + 1) 26 (.int .i64 0)
  r6 : Boxed W1 b6 40 (.slice (some ⟨w.heap.size + 1 + 1 + 1 + 1, 0, none⟩) 6 6)
  rows : Rows6 W1 (w.heap.size + 1 + 1 + 1 + 1)
/-- What the loops keep. -/
structure LexI (w W1 : World) (toks : List Tok) (O : Ow) (W : World) : Prop where
  old : ∀ k, k < W1.heap.size → O k
  os : W.os = W1.os
  tape : W.tape = W1.tape
  output : W.output = W1.output
  keep : ∀ k, k < W1.heap.size → k ≠ w.heap.size + 1 + 1 + 1 → W.heap[k]? = W1.heap[k]?
  bnd : ∀ k, O k → k < W.heap.size
  row : ∃ v, Boxed W (w.heap.size + 1 + 1 + 1) 23 v ∧ W.ownsRow (W1.heap.size + 1) 37 5 v toks.length (tokRow toks) ∧ ∀ g, v.ownBlock = some g → O g
theorem row_same {A B : World} {base e size k : Nat} {v : Value} {xs : List Value} (h : A.ownsRow base e size v k xs) (hk : ∀ g, v.ownBlock = some g → B.heap[g]? = A.heap[g]?) : B.ownsRow base e size v k xs := by
  obtain ⟨h1, h2⟩ := h
  refine ⟨h1, h2.imp id ?_⟩
  rintro ⟨g, cap, cur, rfl, a1, a2, a3⟩
  exact ⟨g, cap, cur, rfl, a1, (hk g rfl).trans a2, a3⟩
theorem LexI.framed {w W1 : World} (hb : w.heap.size + 1 + 1 + 1 < W1.heap.size) {β : Type} (f : β → List Tok) : Framed (fun (p : β) O W => LexI w W1 (f p) O W) := fun p O A B h k => by
  obtain ⟨v, q1, q2, q3⟩ := h.row
  exact ⟨h.old, k.os.trans h.os, k.tape.trans h.tape, k.output.trans h.output, fun j hj hn => (k.block j (h.old j hj)).trans (h.keep j hj hn), fun j hj => Nat.lt_of_lt_of_le (h.bnd j hj) k.size,
    v, (k.block _ (h.old _ hb)).trans q1, row_same q2 (fun g hg => k.block g (q3 g hg)), q3⟩
theorem LexI.fr {w W1 : World} (hb : w.heap.size + 1 + 1 + 1 < W1.heap.size) {toks : List Tok} {O : Ow} {A B : World} (h : LexI w W1 toks O A) (k : FrO O A B) : LexI w W1 toks O B := LexI.framed hb (fun (_ : Unit) => toks) () O A B h k
theorem LexI.more {w W1 : World} {toks : List Tok} {O O' : Ow} {W : World} (h : LexI w W1 toks O W) (h1 : ∀ k, O k → O' k) (h2 : ∀ k, O' k → k < W.heap.size) : LexI w W1 toks O' W := by
  obtain ⟨v, q1, q2, q3⟩ := h.row
  exact ⟨fun k hk => h1 k (h.old k hk), h.os, h.tape, h.output, h.keep, h2, v, q1, q2, fun g hg => h1 g (q3 g hg)⟩
theorem LexI.size {w W1 : World} {toks : List Tok} {O : Ow} {W : World} (h : LexI w W1 toks O W) (z : w.heap.size + 4 < W1.heap.size) : W1.heap.size ≤ W.heap.size := by
  have := h.bnd (W1.heap.size - 1) (h.old _ (by omega)); omega
theorem SeqO.inRound {α : Type} {F : Fence} {n : Nat} {P : Program} {g : Nat} {lb : Array Value} {encs : α → Array Value} {G : Ow} {S Sp : List α → Prop} {V : List α → α → Prop} {w : World} (l : Nat) (h : SeqO F n P g lb encs G S Sp V w) : SeqO (F.inRound l) n P g lb encs G S Sp V w := h
theorem Nx.pre {α : Type} {L : List α} {pre : List α} {x : α} (h : Nx L pre x) {y : α} (hy : y ∈ pre) : y ∈ L := by
  obtain ⟨r, rfl⟩ := h
  simp [hy]
theorem wds_mem : ∀ (l cur : List UInt8) (c : Nat), ∀ p ∈ wds c cur l, p.2.length ≤ cur.length + l.length
  | [], cur, c, p, h => by
    unfold wds at h
    split at h
    · simp at h
    · simp at h; subst h; simp
  | b :: t, cur, c, p, h => by
    unfold wds at h
    split at h
    · split at h
      · have := wds_mem t [] (c + 1) p h; simp at this ⊢; omega
      · rcases List.mem_cons.1 h with rfl | h
        · simp
        · have := wds_mem t [] (c + 1) p h; simp at this ⊢; omega
    · have := wds_mem t (cur ++ [b]) (c + 1) p h; simp at this ⊢; omega
theorem LexI.below {w W1 : World} {b6 : Nat} (b : Base w W1 b6) {toks : List Tok} {O : Ow} {W : World} (h : LexI w W1 toks O W) : Below w.heap.size w W :=
  have z := b.z
  have z6 := b.z6
  ⟨h.os.trans b.bel.os, h.tape.trans b.bel.tape, h.output.trans b.bel.output, by have := h.bnd (W1.heap.size - 1) (h.old _ (by omega)); omega, fun k hk => (h.keep k (by omega) (by omega)).trans (b.bel.block k hk)⟩
theorem LexI.rows {w W1 : World} {b6 : Nat} (b : Base w W1 b6) {toks : List Tok} {O : Ow} {W : World} (h : LexI w W1 toks O W) : Rows6 W (w.heap.size + 1 + 1 + 1 + 1) := fun j hj => by
  have z := b.z
  have z6 := b.z6
  have e := h.keep (w.heap.size + 1 + 1 + 1 + 1) (by omega) (by omega)
  obtain ⟨q1, q2⟩ := b.rows j hj
  exact ⟨(World.cell?_of_block (a := ⟨w.heap.size + 1 + 1 + 1 + 1, 2 * j, none⟩) e).trans q1, (World.cell?_of_block (a := ⟨w.heap.size + 1 + 1 + 1 + 1, 2 * j + 1, none⟩) e).trans q2⟩
theorem LexI.tab {w W1 : World} {b6 : Nat} (b : Base w W1 b6) {toks : List Tok} {O : Ow} {W : World} (h : LexI w W1 toks O W) : Boxed W b6 40 (.slice (some ⟨w.heap.size + 1 + 1 + 1 + 1, 0, none⟩) 6 6) :=
  have z := b.z
  (h.keep b6 b.z6 (by omega)).trans b.r6
theorem own_ge {W : World} {base e size k : Nat} {v : Value} {xs : List Value} (h : W.ownsRow base e size v k xs) {g : Nat} (hg : v.ownBlock = some g) : base ≤ g := by
  obtain ⟨_, ⟨rfl, _⟩ | ⟨g', cap, cur, rfl, a1, _⟩⟩ := h
  · cases hg
  · simp only [Value.ownBlock, Option.some.injEq] at hg; omega
theorem LexI.box {W1 : World} {V V1 : World} {v : Value} {k : Nat} {xs : List Value} {B : Nat} (hv : Boxed V B 23 v) (hr : V.ownsRow (W1.heap.size + 1) 37 5 v k xs) (q2 : V.grownBy V1 v.ownBlock) : Boxed V1 B 23 v := hv.kept q2 (hv.not_row (by decide) hr)
theorem LexI.add {w W1 : World} {b6 : Nat} (b : Base w W1 b6) {toks : List Tok} {O : Ow} {W V V1 : World} {v : Value} {g' c' : Nat} {t : Tok} (p : LexI w W1 toks O W) (hv : Boxed W (w.heap.size + 1 + 1 + 1) 23 v) (hr : W.ownsRow (W1.heap.size + 1) 37 5 v toks.length (tokRow toks)) (ho : ∀ g, v.ownBlock = some g → O g) (oV : OnlyO (fun _ => False) W V)
    (q1 : V1.ownsRow (W1.heap.size + 1) 37 5 (.slice (some ⟨g', 0, none⟩) (toks.length + 1) c') (toks.length + 1) (tokRow toks ++ tokCells t)) (q2 : V.grownBy V1 v.ownBlock) (q3 : v = .slice (some ⟨g', 0, none⟩) toks.length c' ∨ (V.heap.size ≤ g' ∧ V.grownBy V1 none)) :
    ∃ O', (∀ k, O k → O' k) ∧ (∀ k, k < W.heap.size → k ≠ w.heap.size + 1 + 1 + 1 → v.ownBlock ≠ some k → (V1.setCell ⟨w.heap.size + 1 + 1 + 1, 0, none⟩ (.slice (some ⟨g', 0, none⟩) (toks.length + 1) c')).heap[k]? = W.heap[k]?) ∧ ExtO O W O' ∧ OnlyO O W (V1.setCell ⟨w.heap.size + 1 + 1 + 1, 0, none⟩ (.slice (some ⟨g', 0, none⟩) (toks.length + 1) c')) ∧ LexI w W1 (toks ++ [t]) O' (V1.setCell ⟨w.heap.size + 1 + 1 + 1, 0, none⟩ (.slice (some ⟨g', 0, none⟩) (toks.length + 1) c')) := by
  have z := b.z
  have z6 := b.z6
  have o5 : O (w.heap.size + 1 + 1 + 1) := p.old _ (by omega)
  have sV := oV.size
  have hge : W1.heap.size + 1 ≤ g' := own_ge q1 rfl
  have hn : some (w.heap.size + 1 + 1 + 1) ≠ v.ownBlock := hv.not_row (by decide) hr
  have bV : Boxed V1 (w.heap.size + 1 + 1 + 1) 23 v := (q2.block _ (Nat.lt_of_lt_of_le hv.lt sV) hn).trans ((oV.block _ hv.lt (fun h => h)).trans hv)
  have hlt : g' < V1.heap.size := (q1.lt g' rfl).2
  have gS := grownBy_setCell' V1 (w.heap.size + 1 + 1 + 1) (.slice (some ⟨g', 0, none⟩) (toks.length + 1) c')
  have same : ∀ k, k < W.heap.size → k ≠ w.heap.size + 1 + 1 + 1 → v.ownBlock ≠ some k → (V1.setCell ⟨w.heap.size + 1 + 1 + 1, 0, none⟩ (.slice (some ⟨g', 0, none⟩) (toks.length + 1) c')).heap[k]? = W.heap[k]? := fun k h1 h2 h3 =>
    (gS.block k (by have := q2.size; omega) (by simpa using h2)).trans ((q2.block k (by omega) (fun e => h3 e.symm)).trans (oV.block k h1 (fun h => h)))
  refine ⟨fun k => O k ∨ k = g', fun k h => .inl h, same, fun k h => ?_, ⟨gS.os.trans (q2.os.trans oV.os), gS.tape.trans (q2.tape.trans oV.tape), gS.output.trans (q2.output.trans oV.output), by have := gS.size; have := q2.size; omega, fun k h1 h2 => same k h1 (fun e => h2 (e ▸ o5)) (fun e => h2 (ho k e))⟩, ?_⟩
  · rcases h with h | rfl
    · exact .inl h
    · rcases q3 with rfl | ⟨q3, _⟩
      · exact .inl (ho _ rfl)
      · exact .inr (by omega)
  · refine ⟨fun k h => .inl (p.old k h), (gS.os.trans (q2.os.trans oV.os)).trans p.os, (gS.tape.trans (q2.tape.trans oV.tape)).trans p.tape, (gS.output.trans (q2.output.trans oV.output)).trans p.output,
      fun k h1 h2 => (same k (by have := p.size (by omega); omega) h2 (fun e => by have := own_ge hr e; omega)).trans (p.keep k h1 h2), fun k h => ?_, _, bV.set _, ?_, fun g h => ?_⟩
    · have := gS.size
      have := q2.size
      rcases h with h | h
      · have := p.bnd k h; omega
      · omega
    · rw [List.length_append, tokRow_snoc]
      exact row_same q1 fun g h => gS.block g (q1.lt g h).2 (by have := own_ge q1 h; simp; omega)
    · simp only [Value.ownBlock, Option.some.injEq] at h
      exact .inr h.symm
/-- What lies when a word has no kind. -/
structure LexR (w W1 : World) (n c : Nat) (O : Ow) (W : World) : Prop where
  old : ∀ k, k < W1.heap.size → O k
  bel : Below w.heap.size w W
  bnd : ∀ k, O k → k < W.heap.size
  r2 : Boxed W w.heap.size 23 (.slice none 0 0)
  r3 : W.heap[w.heap.size + 1]? = some (.cells #[.int .i64 (n : Nat), .int .i64 (c : Nat)] 25 (0, 0))
  r4 : Boxed W (w.heap.size + 1 + 1) 26 (.int .i64 120)
theorem LexR.fr {w W1 : World} (hb : w.heap.size + 4 < W1.heap.size) {n c : Nat} {O : Ow} {A B : World} (h : LexR w W1 n c O A) (k : FrO O A B) : LexR w W1 n c O B :=
  ⟨h.old, ⟨k.os.trans h.bel.os, k.tape.trans h.bel.tape, k.output.trans h.bel.output, Nat.le_trans h.bel.size k.size, fun j hj => (k.block j (h.old j (by omega))).trans (h.bel.block j hj)⟩, fun j hj => Nat.lt_of_lt_of_le (h.bnd j hj) k.size,
    (k.block _ (h.old _ (by omega))).trans h.r2, (k.block _ (h.old _ (by omega))).trans h.r3, (k.block _ (h.old _ (by omega))).trans h.r4⟩
theorem LexR.more {w W1 : World} {n c : Nat} {O O' : Ow} {W : World} (h : LexR w W1 n c O W) (h1 : ∀ k, O k → O' k) (h2 : ∀ k, O' k → k < W.heap.size) : LexR w W1 n c O' W :=
  ⟨fun k hk => h1 k (h.old k hk), h.bel, h2, h.r2, h.r3, h.r4⟩
theorem only_set {A : World} {a : Addr} {v : Value} {O : Ow} (h : O a.block) : OnlyO O A (A.setCell a v) :=
  ⟨rfl, rfl, rfl, by simp [World.setCell], fun k hk hn => Below.heap_setCell A a v k (fun e => hn (e ▸ h))⟩
theorem row_base {A : World} {base b' e size k : Nat} {v : Value} {xs : List Value} (h : A.ownsRow base e size v k xs) (hb : b' ≤ base) : A.ownsRow b' e size v k xs := by
  obtain ⟨h1, h2⟩ := h
  refine ⟨h1, h2.imp id ?_⟩
  rintro ⟨g, cap, cur, rfl, a1, a2, a3⟩
  exact ⟨g, cap, cur, rfl, Nat.le_trans hb a1, a2, a3⟩
/-- The results, stored. -/
theorem res_of {W : World} {b : Nat} {v0 p0 p1 e0 : Value} (v p q e : Value) (d2 : Boxed W b 23 v0) (d3 : W.heap[b + 1]? = some (.cells #[p0, p1] 25 (0, 0))) (d4 : Boxed W (b + 1 + 1) 26 e0) :
    Boxed ((((W.setCell ⟨b, 0, none⟩ v).setCell ⟨b + 1, 0, none⟩ p).setCell ⟨b + 1, 1, none⟩ q).setCell ⟨b + 1 + 1, 0, none⟩ e) b 23 v ∧
    ((((W.setCell ⟨b, 0, none⟩ v).setCell ⟨b + 1, 0, none⟩ p).setCell ⟨b + 1, 1, none⟩ q).setCell ⟨b + 1 + 1, 0, none⟩ e).heap[b + 1]? = some (.cells #[p, q] 25 (0, 0)) ∧
    Boxed ((((W.setCell ⟨b, 0, none⟩ v).setCell ⟨b + 1, 0, none⟩ p).setCell ⟨b + 1, 1, none⟩ q).setCell ⟨b + 1 + 1, 0, none⟩ e) (b + 1 + 1) 26 e ∧
    OnlyO (fun k => k = b ∨ k = b + 1 ∨ k = b + 1 + 1) W ((((W.setCell ⟨b, 0, none⟩ v).setCell ⟨b + 1, 0, none⟩ p).setCell ⟨b + 1, 1, none⟩ q).setCell ⟨b + 1 + 1, 0, none⟩ e) := by
  refine ⟨?_, ?_, ?_, (((only_set (.inl rfl)).trans (only_set (.inr (.inl rfl))) (ExtO.refl _ _)).trans (only_set (.inr (.inl rfl))) (ExtO.refl _ _)).trans (only_set (.inr (.inr rfl))) (ExtO.refl _ _)⟩
  · unfold Boxed
    rw [heap_setCell_other _ _ _ _ (by show b ≠ b + 1 + 1; omega), heap_setCell_other _ _ _ _ (by show b ≠ b + 1; omega), heap_setCell_other _ _ _ _ (by show b ≠ b + 1; omega)]
    exact d2.set _
  · rw [heap_setCell_other _ _ _ _ (by show b + 1 ≠ b + 1 + 1; omega)]
    have e1 := heap_setCell_same _ _ 0 _ _ p ((heap_setCell_other W ⟨b, 0, none⟩ (b + 1) v (by show b + 1 ≠ b; omega)).trans d3)
    have e2 := heap_setCell_same _ _ 1 _ _ q e1
    exact e2
  · have e1 : Boxed (((W.setCell ⟨b, 0, none⟩ v).setCell ⟨b + 1, 0, none⟩ p).setCell ⟨b + 1, 1, none⟩ q) (b + 1 + 1) 26 e0 := by
      unfold Boxed
      rw [heap_setCell_other _ _ _ _ (by show b + 1 + 1 ≠ b + 1; omega), heap_setCell_other _ _ _ _ (by show b + 1 + 1 ≠ b + 1; omega), heap_setCell_other _ _ _ _ (by show b + 1 + 1 ≠ b; omega)]
      exact d4
    exact e1.set _
theorem LexR.of {w W1 : World} {b6 : Nat} (b : Base w W1 b6) {toks : List Tok} {O : Ow} {W : World} (p : LexI w W1 toks O W) (n c : Nat) (tmp : Obj) :
    LexR w W1 n c O (((((W.setCell ⟨w.heap.size, 0, none⟩ (.slice none 0 0)).setCell ⟨w.heap.size + 1, 0, none⟩ (.int .i64 (n : Nat))).setCell ⟨w.heap.size + 1, 1, none⟩ (.int .i64 (c : Nat))).setCell ⟨w.heap.size + 1 + 1, 0, none⟩ (.int .i64 120)).alloc tmp).drew ∧
    OnlyO O W (((((W.setCell ⟨w.heap.size, 0, none⟩ (.slice none 0 0)).setCell ⟨w.heap.size + 1, 0, none⟩ (.int .i64 (n : Nat))).setCell ⟨w.heap.size + 1, 1, none⟩ (.int .i64 (c : Nat))).setCell ⟨w.heap.size + 1 + 1, 0, none⟩ (.int .i64 120)).alloc tmp).drew := by
  have z := b.z
  have z6 := b.z6
  have zW := p.size (by omega)
  obtain ⟨x2, x3, x4, o1⟩ := res_of (.slice none 0 0) (.int .i64 (n : Nat)) (.int .i64 (c : Nat)) (.int .i64 120) ((p.keep _ (by omega) (by omega)).trans b.r2) ((p.keep _ (by omega) (by omega)).trans b.r3) ((p.keep _ (by omega) (by omega)).trans b.r4)
  generalize ((((W.setCell ⟨w.heap.size, 0, none⟩ (.slice none 0 0)).setCell ⟨w.heap.size + 1, 0, none⟩ (.int .i64 (n : Nat))).setCell ⟨w.heap.size + 1, 1, none⟩ (.int .i64 (c : Nat))).setCell ⟨w.heap.size + 1 + 1, 0, none⟩ (.int .i64 120)) = V at x2 x3 x4 o1
  have o : OnlyO (fun k => k = w.heap.size ∨ k = w.heap.size + 1 ∨ k = w.heap.size + 1 + 1) W (V.alloc tmp).drew := (o1.trans (only_alloc _ _ _) (ExtO.refl _ _)).trans (only_drew _ _) (ExtO.refl _ _)
  have sV := o1.size
  refine ⟨⟨p.old, ?_, fun k hk => Nat.lt_of_lt_of_le (p.bnd k hk) o.size, (Below.heap_alloc V _ _ x2.lt).trans x2, (Below.heap_alloc V _ _ (by omega)).trans x3, (Below.heap_alloc V _ _ x4.lt).trans x4⟩, o.wide fun k _ hk => p.old k (by omega)⟩
  have pb := p.below b
  exact ⟨o.os.trans pb.os, o.tape.trans pb.tape, o.output.trans pb.output, Nat.le_trans pb.size o.size, fun k hk => (o.block k (by omega) (by omega)).trans (pb.block k hk)⟩
/-- What Lex hands back. -/
def LexO (s : List UInt8) (w : World) (e : Ending) (w' : World) : Prop := Below w.heap.size w w' ∧ match lexS s with
  | (toks, none) => ∃ v, e = .returned (.tuple #[v, .agg #[.int .i64 0, .int .i64 0], .int .i64 0]) ∧ w'.ownsRow w.heap.size 37 5 v toks.length (tokRow toks)
  | (_, some (n, c)) => e = .returned (.tuple #[.slice none 0 0, .agg #[.int .i64 (n : Nat), .int .i64 (c : Nat)], .int .i64 120])
set_option maxRecDepth 100000 in
set_option maxHeartbeats 4000000 in
theorem Lex_short (s : List UInt8) (hs : s.length ≤ 65536) (w : World) (hT : LT w) : CallsIn Fence.wide 12 Tryz.prog 6 #[.string (St s)] w (LexO s w) := by
  have hsz : (St s).size = s.length := rfl
  refine callsIn_of_wp_marks Tryz.func6 rfl trivial ?_ rfl
  simp only [Tryz.ntmps6, List.size_toArray, List.length_cons, List.length_nil, Nat.reduceAdd, Nat.reduceSub, Array.replicate_succ, Array.replicate_zero, List.push_toArray, List.append_toArray, List.nil_append, List.cons_append]
  gi_wp2_with (refine ⟨trivial, (callsIn_wide.2 (rows_at _)).mono ?_⟩; rintro e w5 ⟨rfl, hR, g5⟩)
  gi_wp2_with (refine ⟨trivial, (callsIn_wide.2 (lines_at s _)).mono ?_⟩; rintro e w6 ⟨rfl, hw6⟩)
  subst hw6
  obtain ⟨b6, W1, hb6, hb, bX, eW, el⟩ : ∃ (b6 : Nat) (W1 : World), w5.heap.size = b6 ∧ Base w W1 b6 ∧ SBx W1.heap.size s (W1.alloc (.cells #[.string (St s)] 9)) ∧ w5.alloc (.cells #[.slice (some ⟨w.heap.size + 1 + 1 + 1 + 1, 0, none⟩) 6 6] 40) = W1 ∧ w5.heap.size + 1 = W1.heap.size ∧ Boxed W1 (w.heap.size + 1 + 1 + 1) 23 (.slice none 0 0) := by
    have z5 := g5.size
    simp only [World.size_alloc] at z5
    have t2 : Boxed w5 w.heap.size 23 (.slice none 0 0) := (g5.block _ (by simp only [World.size_alloc]; omega)).trans ((((Boxed.new w _ _).alloc _).alloc _).alloc _)
    have t3 : w5.heap[w.heap.size + 1]? = some (.cells #[.int .i64 0, .int .i64 0] 25 (0, 0)) := (g5.block _ (by simp only [World.size_alloc]; omega)).trans (row_alloc (row_alloc (row_born (by simp))))
    have t4 : Boxed w5 (w.heap.size + 1 + 1) 26 (.int .i64 0) := (g5.block _ (by simp only [World.size_alloc]; omega)).trans (row_alloc (row_born (by simp)))
    have t5 : Boxed w5 (w.heap.size + 1 + 1 + 1) 23 (.slice none 0 0) := (g5.block _ (by simp only [World.size_alloc]; omega)).trans (row_born (by simp))
    have tb : Below w.heap.size w w5 := ((((((Below.refl _ w).alloc (Nat.le_refl _) _).alloc (by simp) _).alloc (by simp; omega) _).alloc (by simp; omega) _)).trans (g5.mono (by simp; omega))
    simp only [World.size_alloc] at hR
    refine ⟨_, _, rfl, ⟨tb.alloc tb.size _, ?_, by simp, t2.alloc _, row_alloc t3, t4.alloc _, Boxed.new _ _ _, hR.bel ((Below.refl _ _).alloc (Nat.le_refl _) _)⟩, Boxed.new _ _ _, rfl, by simp, t5.alloc _⟩
    have := (hR 0 (by omega)).1
    exact block_lt_of_cell this
  obtain ⟨el, bL⟩ := el
  rw [hb6, eW, ← hb6, el, hb6]
  clear eW g5 hR
  have h1 : 1 ≤ 12 := by decide
  have z := hb.z
  have z6 := hb.z6
  have zb : w.heap.size + 1 + 1 + 1 < W1.heap.size := by omega
  have zc : w.heap.size + 4 < W1.heap.size := by omega
  refine range_o (F := Fence.wide) rfl h1 (gf := 37) (lb := #[.pointer (some ⟨W1.heap.size, 0, none⟩)]) rfl trivial (enters_of Tryz.func37 (by kernel_rfl) rfl)
    (lines_seq 11 (by decide) W1.heap.size s hs (W1.alloc (.cells #[.string (St s)] 9)) bX) (Below.refl _ _) (fun _ => rfl)
    (fun pre O W => ∃ toks, lexL pre = (toks, none) ∧ LexI w W1 toks O W) (fun c pre O W => c = .ret ∧ ∃ toks n k, lexL pre = (toks, some (n, k)) ∧ LexR w W1 n k O W)
    (fun pre O A B ⟨t, h1, h2⟩ k => ⟨t, h1, h2.fr zb k⟩) (fun c pre O A B ⟨h0, t, n, q, h1, h2⟩ k => ⟨h0, t, n, q, h1, h2.fr zc k⟩) (fun pre O A ⟨t, h1, h2⟩ => h2.bnd) (fun c pre O A ⟨h0, t, n, q, h1, h2⟩ => h2.bnd)
    (fun x a' O W => ∃ b7, O b7 ∧ W1.heap.size ≤ b7 ∧ Boxed W b7 3 (.int .i64 (x.1 : Nat)) ∧ a' = { tmps := #[.string (St s), undef, .pointer (some ⟨w.heap.size, 0, none⟩), .pointer (some ⟨w.heap.size + 1, 0, none⟩), .pointer (some ⟨w.heap.size + 1 + 1, 0, none⟩), .pointer (some ⟨w.heap.size + 1 + 1 + 1, 0, none⟩), .pointer (some ⟨b6, 0, none⟩), .pointer (some ⟨b7, 0, none⟩), .string (St x.2), undef, undef, undef, undef, .string (St s), .int .i64 (s.length : Nat), .bool (decide ((65536 : Int) < (s.length : Nat))), undef, .slice (some ⟨w.heap.size + 1 + 1 + 1 + 1, 0, none⟩) 6 6, .string (St s), .func (.func 37) #[] #[.pointer (some ⟨W1.heap.size, 0, none⟩)], .int .i64 (x.1 : Nat), .string (St x.2), undef, undef, undef, undef, undef, undef, undef, undef, undef, undef, undef, undef, undef, undef, undef, undef, undef, undef, undef, undef, undef, undef, undef, undef, undef, undef, undef, undef, undef, undef, undef, undef, undef], defers := [] })
    (fun x a' _ O A B ⟨b7, h1, h2, h3, h4⟩ k => ⟨b7, h1, h2, (k.block b7 h1).trans h3, h4⟩)
    (fun k => k < W1.heap.size) (fun k hk => ⟨by rw [World.size_alloc]; omega, by omega⟩)
    ⟨[], rfl, fun k hk => hk, rfl, rfl, rfl, fun k hk _ => Below.heap_alloc W1 _ k hk, fun k hk => by rw [World.size_alloc]; omega, _, bL.alloc _, World.ownsRow_nil _ _ _ _, fun g hg => by cases hg⟩
    ?assign ?body ?done ?stop
  case assign =>
    rintro l pre x O W K ⟨toks, q1, q2⟩ hK
    simp only [encN]
    gi_wp2
    refine hK _ (fun k => O k ∨ k = W.heap.size) _ (fun k hk => hk.imp id (fun e => by omega)) (only_alloc _ _ _) ⟨toks, q1, ?_⟩ ⟨W.heap.size, .inr rfl, q2.size zc, Boxed.new _ _ _, rfl⟩
    exact (q2.fr zb ((only_alloc (fun _ => False) W _).fr q2.bnd fun _ _ h => h)).more (fun k h => .inl h) fun k h => by
      rw [World.size_alloc]
      rcases h with h | h
      · have := q2.bnd k h; omega
      · omega
  case body =>
    rintro l pre x a' O W hl ⟨r, hr⟩ nl ⟨toks, q1, q2⟩ ⟨b7, hO7, h7, B7, rfl⟩ hnx
    have h10 : 1 ≤ 12 - 1 - 1 := by decide
    have hx6 : x.2.length ≤ 65536 := Nat.le_trans (lines_bound hnx.mem.1) hs
    have hcnt := lexL_len pre fun y hy => Nat.le_trans (lines_bound (hnx.pre hy)) hs
    have hpl : pre.length ≤ 65535 := by have := hnx.mem.2; have := lines_count s; omega
    rw [q1] at hcnt
    gi_wp2_with (refine ⟨trivial, CallsIn.inRound l ((callsIn_wide.2 (words_at x.2 _)).mono ?_)⟩; rintro e w6 ⟨rfl, hw6⟩)
    subst hw6
    have bL2 : SBx W.heap.size x.2 (W.alloc (.cells #[.string (St x.2)] 9)) := Boxed.new _ _ _
    have hrl : l < W.heap.size := (Array.getElem?_eq_some_iff.1 hr).1
    have oA : OnlyO (fun _ => False) W (W.alloc (.cells #[.string (St x.2)] 9)) := only_alloc _ _ _
    refine range_n (F := Fence.wide.inRound l) (l₀ := l) (r₀ := r) rfl ((Below.heap_alloc W _ l hrl).trans hr) (by decide) (gf := 41) (lb := #[.pointer (some ⟨W.heap.size, 0, none⟩)]) rfl trivial (enters_of Tryz.func41 (by kernel_rfl) rfl)
      (SeqO.inRound l (words_seq 9 (by decide) W.heap.size x.2 hx6 (W.alloc (.cells #[.string (St x.2)] 9)) bL2)) (Below.refl _ _) (fun _ => rfl)
      (fun pre' O W => ∃ tk, lexW x.1 pre' = (tk, none) ∧ LexI w W1 (toks ++ tk) O W ∧ O b7 ∧ Boxed W b7 3 (.int .i64 (x.1 : Nat))) (fun c pre' O W => c = .ret ∧ ∃ tk n k, lexW x.1 pre' = (tk, some (n, k)) ∧ LexR w W1 n k O W)
      (fun pre' O A B ⟨t, h1, h2, h3, h4⟩ k => ⟨t, h1, h2.fr zb k, h3, (k.block b7 h3).trans h4⟩) (fun c pre' O A B ⟨h0, t, n, q, h1, h2⟩ k => ⟨h0, t, n, q, h1, h2.fr zc k⟩) (fun pre' O A ⟨t, h1, h2, h3⟩ => h2.bnd) (fun c pre' O A ⟨h0, t, n, q, h1, h2⟩ => h2.bnd)
      (fun y a' O _ => a' = { tmps := #[.string (St s), undef, .pointer (some ⟨w.heap.size, 0, none⟩), .pointer (some ⟨w.heap.size + 1, 0, none⟩), .pointer (some ⟨w.heap.size + 1 + 1, 0, none⟩), .pointer (some ⟨w.heap.size + 1 + 1 + 1, 0, none⟩), .pointer (some ⟨b6, 0, none⟩), .pointer (some ⟨b7, 0, none⟩), .string (St x.2), .int .i64 (y.1 : Nat), .string (St y.2), undef, undef, .string (St s), .int .i64 (s.length : Nat), .bool (decide ((65536 : Int) < (s.length : Nat))), undef, .slice (some ⟨w.heap.size + 1 + 1 + 1 + 1, 0, none⟩) 6 6, .string (St s), .func (.func 37) #[] #[.pointer (some ⟨W1.heap.size, 0, none⟩)], .int .i64 (x.1 : Nat), .string (St x.2), .string (St x.2), .func (.func 41) #[] #[.pointer (some ⟨W.heap.size, 0, none⟩)], .int .i64 (y.1 : Nat), .string (St y.2), undef, undef, undef, undef, undef, undef, undef, undef, undef, undef, undef, undef, undef, undef, undef, undef, undef, undef, undef, undef, undef, undef, undef, undef, undef, undef, undef, undef, undef], defers := [] }) (fun y a' _ _ _ _ h _ => h)
      O (fun k hk => ⟨by rw [World.size_alloc]; omega, fun h => by have := q2.bnd k h; omega⟩)
      ⟨[], rfl, by rw [List.append_nil]; exact q2.fr zb (oA.fr q2.bnd fun _ _ h => h), hO7, B7.alloc _⟩
      ?assign2 ?body2 ?done2 ?stop2
    case assign2 =>
      rintro l2 pre' y O2 W2 K hI hK
      simp only [encN]
      gi_wp2
      exact hK _ _ _ (ExtO.refl _ _) (OnlyO.refl _ _) hI rfl
    case body2 =>
      rintro l2 pre' y a'' O2 W2 hl2 _ nl2 ⟨tk, p1, p2, hO72, B72⟩ rfl hny
      have hy6 : y.2.length ≤ 65536 := Nat.le_trans (by have := wds_mem _ _ _ y hny.mem.1; simpa using this) hx6
      have tc := (p2.tab hb).cell
      have n7 := B72.cell
      have TK := Lib.hid (token_at y.2 hy6 (w.heap.size + 1 + 1 + 1 + 1) 6 W2 (hT.bel (p2.below hb)) (p2.rows hb))
      cases hw : tokW y.2 with
      | none =>
        rw [hw] at TK
        change Hid (Calls _ _ _ _ fun e w' => e = .returned (.tuple #[.agg #[.int .u8 0, .string (St []), .int .u32 0, .int .i64 0, .int .i64 0], .bool false]) ∧ Below W2.heap.size W2 w') at TK
        gi_wp2_with fail
        refine ⟨trivial, CallsIn.inRound l2 ((callsIn_wide.2 TK.out).mono ?_)⟩
        rintro e w7 ⟨rfl, g7⟩
        have p7 := p2.fr zb (fr_below p2.bnd g7)
        have B7b : Boxed w7 b7 3 (.int .i64 (x.1 : Nat)) := (g7.block _ B72.lt).trans B72
        have n7b := B7b.cell
        have l7b := B7b.lt
        have z7 := p7.size zc
        have d2 : Boxed w7 w.heap.size 23 (.slice none 0 0) := (p7.keep _ (by omega) (by omega)).trans hb.r2
        have d3 : w7.heap[w.heap.size + 1]? = some (.cells #[.int .i64 0, .int .i64 0] 25 (0, 0)) := (p7.keep _ (by omega) (by omega)).trans hb.r3
        have d4 : Boxed w7 (w.heap.size + 1 + 1) 26 (.int .i64 0) := (p7.keep _ (by omega) (by omega)).trans hb.r4
        have e2 := d2.cell
        have f2 := d2.frozen
        have e4 := d4.cell
        have f4 := d4.frozen
        have e30 : w7.cell? ⟨w.heap.size + 1, 0, none⟩ = some (.int .i64 0) := row_cell d3 rfl
        have e31 : w7.cell? ⟨w.heap.size + 1, 1, none⟩ = some (.int .i64 0) := row_cell d3 rfl
        have f30 : w7.frozen? ⟨w.heap.size + 1, 0, none⟩ = false := row_frozen d3
        have f31 : w7.frozen? ⟨w.heap.size + 1, 1, none⟩ = false := row_frozen d3
        have l2' : w.heap.size < w7.heap.size := d2.lt
        have l3' : w.heap.size + 1 < w7.heap.size := by omega
        have l4' : w.heap.size + 1 + 1 < w7.heap.size := d4.lt
        have hmx : Tryz.prog.follows .mixedOrders = true := by kernel_rfl
        gi_wp2
        have hsn := lexW_snoc (c := y.1) (x := y.2) p1
        rw [hw] at hsn
        obtain ⟨fR, fO⟩ := LexR.of hb p7 x.1 y.1 (.cells #[.int .u8 0, .string (St []), .int .u32 0, .int .i64 (x.1 : Nat), .int .i64 (y.1 : Nat)] 37)
        have FR := Lib.hid fR
        have FO := Lib.hid fO
        have HS := Lib.hid hsn
        clear fR fO hsn
        gi_region_with_o fail
        all_goals gi_wp2
        all_goals exact ⟨O2, ExtO.refl _ _, (only_below g7).trans (O' := O2) FO.out (ExtO.refl _ _), rfl, tk, x.1, y.1, HS.out, FR.out⟩
      | some q =>
        obtain ⟨kd, tx, nm⟩ := q
        rw [hw] at TK
        change Hid (Calls _ _ _ _ fun e w' => e = .returned (.tuple #[.agg #[.int .u8 (kd : Nat), .string (St tx), .int .u32 (nm : Nat), .int .i64 0, .int .i64 0], .bool true]) ∧ Below W2.heap.size W2 w') at TK
        have hn8 : (toks ++ tk).length ≤ 8589934592 := by
          have h1 := lexW_len x.1 pre'
          rw [p1] at h1
          have h2 := wds_len x.2 [] 1
          simp only [if_true] at h2
          have h3 := hny.mem.2
          simp only [] at h1 hcnt
          rw [List.length_append]
          omega
        gi_wp2_with fail
        refine ⟨trivial, CallsIn.inRound l2 ((callsIn_wide.2 TK.out).mono ?_)⟩
        rintro e w7 ⟨rfl, g7⟩
        have p7 := p2.fr zb (fr_below p2.bnd g7)
        have B7b : Boxed w7 b7 3 (.int .i64 (x.1 : Nat)) := (g7.block _ B72.lt).trans B72
        have n7b := B7b.cell
        have l7b := B7b.lt
        obtain ⟨v, r1, r2, r3⟩ := p7.row
        have c5 := r1.cell
        have f5 := r1.frozen
        have l5 := r1.lt
        have z7 := p7.size zc
        have hrow8 : World.ownsRow ((w7.alloc (.cells #[.int .u8 (kd : Nat), .string (St tx), .int .u32 (nm : Nat), .int .i64 (x.1 : Nat), .int .i64 (y.1 : Nat)] 37)).alloc (.cells #[.int .u8 (kd : Nat), .string (St tx), .int .u32 (nm : Nat), .int .i64 (x.1 : Nat), .int .i64 (y.1 : Nat)] 37)) (W1.heap.size + 1) 37 5 v (toks ++ tk).length (tokRow (toks ++ tk)) := (r2.alloc _).alloc _
        have hc8 : ((w7.alloc (.cells #[.int .u8 (kd : Nat), .string (St tx), .int .u32 (nm : Nat), .int .i64 (x.1 : Nat), .int .i64 (y.1 : Nat)] 37)).alloc (.cells #[.int .u8 (kd : Nat), .string (St tx), .int .u32 (nm : Nat), .int .i64 (x.1 : Nat), .int .i64 (y.1 : Nat)] 37)).heap[w7.heap.size + 1]? = some (.cells (tokCells ⟨kd, tx, nm, x.1, y.1⟩).toArray 37 (0, 0)) := by
          have := World.alloc_heap_new (w7.alloc (.cells #[.int .u8 (kd : Nat), .string (St tx), .int .u32 (nm : Nat), .int .i64 (x.1 : Nat), .int .i64 (y.1 : Nat)] 37)) (.cells #[.int .u8 (kd : Nat), .string (St tx), .int .u32 (nm : Nat), .int .i64 (x.1 : Nat), .int .i64 (y.1 : Nat)] 37)
          rw [World.size_alloc] at this
          exact this
        have hb8 : W1.heap.size + 1 ≤ ((w7.alloc (.cells #[.int .u8 (kd : Nat), .string (St tx), .int .u32 (nm : Nat), .int .i64 (x.1 : Nat), .int .i64 (y.1 : Nat)] 37)).alloc (.cells #[.int .u8 (kd : Nat), .string (St tx), .int .u32 (nm : Nat), .int .i64 (x.1 : Nat), .int .i64 (y.1 : Nat)] 37)).heap.size := by simp only [World.size_alloc]; omega
        have bx8 : Boxed ((w7.alloc (.cells #[.int .u8 (kd : Nat), .string (St tx), .int .u32 (nm : Nat), .int .i64 (x.1 : Nat), .int .i64 (y.1 : Nat)] 37)).alloc (.cells #[.int .u8 (kd : Nat), .string (St tx), .int .u32 (nm : Nat), .int .i64 (x.1 : Nat), .int .i64 (y.1 : Nat)] 37)) (w.heap.size + 1 + 1 + 1) 23 v := (r1.alloc _).alloc _
        have o8 : OnlyO (fun _ => False) w7 ((w7.alloc (.cells #[.int .u8 (kd : Nat), .string (St tx), .int .u32 (nm : Nat), .int .i64 (x.1 : Nat), .int .i64 (y.1 : Nat)] 37)).alloc (.cells #[.int .u8 (kd : Nat), .string (St tx), .int .u32 (nm : Nat), .int .i64 (x.1 : Nat), .int .i64 (y.1 : Nat)] 37)) := (only_alloc _ _ _).trans (O' := fun _ => False) (only_alloc _ _ _) (ExtO.refl _ _)
        gi_wp2_with (gi_at_builtin; refine wpListIn_tok rfl _ _ rfl (W1.heap.size + 1) v (toks ++ tk).length (tokRow (toks ++ tk)) ⟨kd, tx, nm, x.1, y.1⟩ ?e1 ?e2 ?e3 (w7.heap.size + 1) 1 ?e4 ?e5 hn8 ?e6; (case e1 => rfl); (case e3 => exact hb8); (case e4 => rfl); (case e5 => exact hc8); (case e2 => exact hrow8); intro g' c' V1 a1 a2 a3; have bV := LexI.box bx8 hrow8 a2; have cV := bV.cell; have fV := bV.frozen)
        obtain ⟨O9, k1, k2, k3, k4, k5⟩ := p7.add hb r1 r2 r3 o8 a1 a2 a3
        have nb : v.ownBlock ≠ some b7 := fun e => B7b.not_row (by decide) r2 e.symm
        have hsn := lexW_snoc (c := y.1) (x := y.2) p1
        rw [hw] at hsn
        rw [List.length_append] at k2 k4 k5
        exact ⟨O9, fun k hk => (k3 k hk).imp id (fun q => Nat.le_trans g7.size q), (only_below g7).trans (O' := O2) k4 (ExtO.refl _ _), tk ++ [⟨kd, tx, nm, x.1, y.1⟩], hsn, by rw [← List.append_assoc]; exact k5, k1 _ hO72, (k2 b7 l7b (by omega) nb).trans B7b⟩
    case done2 =>
      rintro xs O' W5 rfl ⟨tk, p1, p2, hO72, B72⟩ hext honly
      obtain ⟨v, r1, r2, r3⟩ := p2.row
      have c5 := r1.cell
      have f5 := r1.frozen
      have l5 := r1.lt
      have n7 := B72.cell
      have l7 := B72.lt
      have z5 := p2.size zc
      have hsx : (St x.2).size = x.2.length := rfl
      have hn8 : (toks ++ tk).length ≤ 8589934592 := by
        have h1 := lexW_len x.1 (wds 1 [] x.2)
        rw [p1] at h1
        have h2 := wds_len x.2 [] 1
        simp only [if_true] at h2
        simp only [] at h1 hcnt
        rw [List.length_append]
        omega
      have hrow8 : World.ownsRow (W5.alloc (.cells #[.int .u8 6, .string ⟨#[]⟩, .int .u32 0, .int .i64 (x.1 : Nat), .int .i64 ((x.2.length : Nat) + 1)] 37)) (W1.heap.size + 1) 37 5 v (toks ++ tk).length (tokRow (toks ++ tk)) := r2.alloc _
      have hc8 : (W5.alloc (.cells #[.int .u8 6, .string ⟨#[]⟩, .int .u32 0, .int .i64 (x.1 : Nat), .int .i64 ((x.2.length : Nat) + 1)] 37)).heap[W5.heap.size]? = some (.cells (tokCells ⟨6, [], 0, x.1, x.2.length + 1⟩).toArray 37 (0, 0)) := World.alloc_heap_new W5 (.cells #[.int .u8 6, .string ⟨#[]⟩, .int .u32 0, .int .i64 (x.1 : Nat), .int .i64 ((x.2.length : Nat) + 1)] 37)
      have hb8 : W1.heap.size + 1 ≤ (W5.alloc (.cells #[.int .u8 6, .string ⟨#[]⟩, .int .u32 0, .int .i64 (x.1 : Nat), .int .i64 ((x.2.length : Nat) + 1)] 37)).heap.size := by simp only [World.size_alloc]; omega
      have bx8 : Boxed (W5.alloc (.cells #[.int .u8 6, .string ⟨#[]⟩, .int .u32 0, .int .i64 (x.1 : Nat), .int .i64 ((x.2.length : Nat) + 1)] 37)) (w.heap.size + 1 + 1 + 1) 23 v := r1.alloc _
      have o8 : OnlyO (fun _ => False) W5 (W5.alloc (.cells #[.int .u8 6, .string ⟨#[]⟩, .int .u32 0, .int .i64 (x.1 : Nat), .int .i64 ((x.2.length : Nat) + 1)] 37)) := only_alloc _ _ _
      gi_wp2_with (gi_at_builtin; refine wpListIn_tok rfl _ _ rfl (W1.heap.size + 1) v (toks ++ tk).length (tokRow (toks ++ tk)) ⟨6, [], 0, x.1, x.2.length + 1⟩ ?d1 ?d2 ?d3 (W5.heap.size) 1 ?d4 ?d5 hn8 ?d6; (case d1 => rfl); (case d3 => exact hb8); (case d4 => rfl); (case d5 => exact hc8); (case d2 => exact hrow8); intro g' c' V1 a1 a2 a3; have bV := LexI.box bx8 hrow8 a2; have cV := bV.cell; have fV := bV.frozen)
      obtain ⟨O9, k1, k2, k3, k4, k5⟩ := p2.add hb r1 r2 r3 o8 a1 a2 a3
      rw [List.length_append] at k4 k5
      have hsn := lexL_snoc (n := x.1) (x := x.2) q1
      rw [p1] at hsn
      have oW : OnlyO O W W5 := ⟨honly.os, honly.tape, honly.output, Nat.le_trans (by simp) honly.size, fun k h1 h2 => (honly.block k (by rw [World.size_alloc]; omega) (fun q => q.elim h2 (fun q => by omega))).trans (Below.heap_alloc W _ k h1)⟩
      have eW : ExtO O W O' := fun k hk => (hext k hk).imp id (fun q => by rw [World.size_alloc] at q; omega)
      exact ⟨O9, eW.trans k3 oW.size, oW.trans k4 eW, _, hsn, k5⟩
    case stop2 =>
      rintro c pre' O' W5 ⟨rst, hp⟩ ⟨rfl, tk, n, k, p1, p2⟩ hext honly
      have hsn := lexL_snoc (n := x.1) (x := x.2) q1
      rw [← hp, lexW_pre p1] at hsn
      have oW : OnlyO O W W5 := ⟨honly.os, honly.tape, honly.output, Nat.le_trans (by simp) honly.size, fun k h1 h2 => (honly.block k (by rw [World.size_alloc]; omega) (fun q => q.elim h2 (fun q => by omega))).trans (Below.heap_alloc W _ k h1)⟩
      have eW : ExtO O W O' := fun k hk => (hext k hk).imp id (fun q => by rw [World.size_alloc] at q; omega)
      gi_wp2
      exact ⟨O', eW, oW, rfl, _, n, k, hsn, p2⟩
  case done =>
    rintro D xs O' W hD rfl ⟨toks, q1, q2⟩ hext honly hK nD
    obtain ⟨v, r1, r2, r3⟩ := q2.row
    have c5 := r1.cell
    have d2 : Boxed W w.heap.size 23 (.slice none 0 0) := (q2.keep _ (by omega) (by omega)).trans hb.r2
    have d3 : W.heap[w.heap.size + 1]? = some (.cells #[.int .i64 0, .int .i64 0] 25 (0, 0)) := (q2.keep _ (by omega) (by omega)).trans hb.r3
    have d4 : Boxed W (w.heap.size + 1 + 1) 26 (.int .i64 0) := (q2.keep _ (by omega) (by omega)).trans hb.r4
    have e2 := d2.cell
    have f2 := d2.frozen
    have e4 := d4.cell
    have f4 := d4.frozen
    have e30 : W.cell? ⟨w.heap.size + 1, 0, none⟩ = some (.int .i64 0) := row_cell d3 rfl
    have e31 : W.cell? ⟨w.heap.size + 1, 1, none⟩ = some (.int .i64 0) := row_cell d3 rfl
    have f30 : W.frozen? ⟨w.heap.size + 1, 0, none⟩ = false := row_frozen d3
    have f31 : W.frozen? ⟨w.heap.size + 1, 1, none⟩ = false := row_frozen d3
    obtain ⟨p0, n0, c0, rfl⟩ : ∃ p n c, v = .slice p n c := by
      obtain ⟨_, ⟨rfl, _⟩ | ⟨g, c, _, rfl, _⟩⟩ := r2
      · exact ⟨_, _, _, rfl⟩
      · exact ⟨_, _, _, rfl⟩
    gi_wp2
    obtain ⟨x2, x3, x4, o1⟩ := res_of (.slice p0 n0 c0) (.int .i64 0) (.int .i64 0) (.int .i64 0) d2 d3 d4
    generalize ((((W.setCell ⟨w.heap.size, 0, none⟩ (.slice p0 n0 c0)).setCell ⟨w.heap.size + 1, 0, none⟩ (.int .i64 0)).setCell ⟨w.heap.size + 1, 1, none⟩ (.int .i64 0)).setCell ⟨w.heap.size + 1 + 1, 0, none⟩ (.int .i64 0)) = V at x2 x3 x4 o1
    rw [World.size_alloc] at hD
    have hDW : D < W.heap.size := (Array.getElem?_eq_some_iff.1 hK).1
    refine ⟨by simp, .inl ⟨_, _, rfl, run_takeDeferred ((o1.block D hDW (by omega)).trans hK), ?_⟩⟩
    have y2 : Boxed (V.putObj D (.deferred none)) w.heap.size 23 (.slice p0 n0 c0) := (World.putObj_heap_other (by omega)).trans x2
    have y3 : (V.putObj D (.deferred none)).heap[w.heap.size + 1]? = _ := (World.putObj_heap_other (by omega)).trans x3
    have y4 : Boxed (V.putObj D (.deferred none)) (w.heap.size + 1 + 1) 26 (.int .i64 0) := (World.putObj_heap_other (by omega)).trans x4
    have yr : World.ownsRow (V.putObj D (.deferred none)) w.heap.size 37 5 (.slice p0 n0 c0) toks.length (tokRow toks) := row_base (row_same r2 fun g hg => by
      have hge := own_ge r2 hg
      have hgO := r3 g hg
      exact (World.putObj_heap_other (by rintro rfl; exact nD hgO)).trans (o1.block g (q2.bnd g hgO) (by omega))) (by omega)
    have yb : Below w.heap.size w (V.putObj D (.deferred none)) := by
      have pb := q2.below hb
      exact ⟨o1.os.trans pb.os, o1.tape.trans pb.tape, o1.output.trans pb.output, by simp; exact Nat.le_trans pb.size o1.size, fun j hj => (World.putObj_heap_other (by omega)).trans ((o1.block j (by have := pb.size; omega) (by omega)).trans (pb.block j hj))⟩
    generalize V.putObj D (.deferred none) = W9 at y2 y3 y4 yr yb
    have g2 := y2.cell
    have g30 : W9.cell? ⟨w.heap.size + 1, 0, none⟩ = some (.int .i64 0) := row_cell y3 rfl
    have g31 : W9.cell? ⟨w.heap.size + 1, 1, none⟩ = some (.int .i64 0) := row_cell y3 rfl
    have g4 := y4.cell
    refine ⟨.tuple #[.slice p0 n0 c0, .agg #[.int .i64 0, .int .i64 0], .int .i64 0], (by simp [results, Tryz.results6, go_sem, g2, g30, g31, g4]), yb, ?_⟩
    unfold lexS
    rw [q1]
    exact ⟨_, rfl, yr⟩
  case stop =>
    rintro D c pre O' W hD hp ⟨rfl, toks, n, k, q1, q2⟩ hext honly hK nD
    gi_wp2
    refine ⟨by simp, .inl ⟨_, _, rfl, run_takeDeferred hK, ?_⟩⟩
    have hpo := fr_put (A := W) (o := .deferred none) nD
    have q3 := q2.fr zc hpo
    generalize W.putObj D (.deferred none) = W9 at q3
    have c2 := q3.r2.cell
    have c30 : W9.cell? ⟨w.heap.size + 1, 0, none⟩ = some (.int .i64 (n : Nat)) := row_cell q3.r3 rfl
    have c31 : W9.cell? ⟨w.heap.size + 1, 1, none⟩ = some (.int .i64 (k : Nat)) := row_cell q3.r3 rfl
    have c4 := q3.r4.cell
    refine ⟨.tuple #[.slice none 0 0, .agg #[.int .i64 (n : Nat), .int .i64 (k : Nat)], .int .i64 120], (by simp [results, Tryz.results6, go_sem, c2, c30, c31, c4]), q3.bel, ?_⟩
    obtain ⟨rst, hp⟩ := hp
    unfold lexS
    rw [← hp, lexL_pre q1]
theorem Lex_at (s : List UInt8) (hs : s.length ≤ 65536) (w : World) (hT : LT w) : Calls Tryz.prog 6 #[.string (St s)] w (LexO s w) := callsIn_wide.1 (Lex_short s hs w hT)
end Go.Proofs.YthhbhfpdabiclaaGreatDoor.L12
