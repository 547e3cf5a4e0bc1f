/- A range over a function whose iterator has variables of its own (shared): which blocks the loop's owner holds, and that nobody else touches them. -/
import Derived.RangeFuncNested
import Derived.RangeFuncBound
import Derived.RangeFuncCalls
import Derived.RangeFuncLeaves
namespace Go.Proofs.YthhbhfpdabiclaaGreatDoor
open Go.RowKit
set_option linter.unusedVariables false
abbrev Ow := Nat → Prop
/-- B is A, but for blocks that are not O's. -/
structure FrO (O : Ow) (A B : World) : Prop where
  os : B.os = A.os
  tape : B.tape = A.tape
  output : B.output = A.output
  size : A.heap.size ≤ B.heap.size
  block : ∀ k, O k → B.heap[k]? = A.heap[k]?
/-- Of what lay in A nothing has turned but O's. -/
structure OnlyO (O : Ow) (A B : World) : Prop where
  os : B.os = A.os
  tape : B.tape = A.tape
  output : B.output = A.output
  size : A.heap.size ≤ B.heap.size
  block : ∀ k, k < A.heap.size → ¬ O k → B.heap[k]? = A.heap[k]?
/-- O' are O's, and new ones. -/
def ExtO (O : Ow) (A : World) (O' : Ow) : Prop := ∀ k, O' k → O k ∨ A.heap.size ≤ k
theorem OnlyO.refl (O : Ow) (A : World) : OnlyO O A A := ⟨rfl, rfl, rfl, Nat.le_refl _, fun _ _ _ => rfl⟩
theorem ExtO.refl (O : Ow) (A : World) : ExtO O A O := fun _ h => .inl h
theorem OnlyO.trans {O O' : Ow} {A B C : World} (h : OnlyO O A B) (k : OnlyO O' B C) (e : ExtO O A O') : OnlyO O A C :=
  ⟨k.os.trans h.os, k.tape.trans h.tape, k.output.trans h.output, Nat.le_trans h.size k.size, fun j hj hn => (k.block j (Nat.lt_of_lt_of_le hj h.size) (fun ho => (e j ho).elim hn (fun hh => by omega))).trans (h.block j hj hn)⟩
theorem ExtO.trans {O O' O'' : Ow} {A B : World} (h : ExtO O A O') (k : ExtO O' B O'') (s : A.heap.size ≤ B.heap.size) : ExtO O A O'' := fun j hj => (k j hj).elim (h j) (fun hh => .inr (Nat.le_trans s hh))
theorem OnlyO.wide {O O' : Ow} {A B : World} (h : OnlyO O A B) (e : ∀ k, k < A.heap.size → O k → O' k) : OnlyO O' A B := ⟨h.os, h.tape, h.output, h.size, fun j hj hn => h.block j hj (fun ho => hn (e j hj ho))⟩
theorem OnlyO.fr {O O' : Ow} {A B : World} (h : OnlyO O A B) (hb : ∀ k, O' k → k < A.heap.size) (hd : ∀ k, O' k → ¬ O k) : FrO O' A B := ⟨h.os, h.tape, h.output, h.size, fun k hk => h.block k (hb k hk) (hd k hk)⟩
theorem FrO.trans {O : Ow} {A B C : World} (h : FrO O A B) (k : FrO O B C) : FrO O A C := ⟨k.os.trans h.os, k.tape.trans h.tape, k.output.trans h.output, Nat.le_trans h.size k.size, fun j hj => (k.block j hj).trans (h.block j hj)⟩
theorem only_put {A : World} {l : Nat} {o : Obj} {O : Ow} (h : O l) : OnlyO O A (A.putObj l o) := ⟨rfl, rfl, rfl, by simp, fun k _ hn => World.putObj_heap_other (fun e => hn (e ▸ h))⟩
theorem fr_put {A : World} {l : Nat} {o : Obj} {O : Ow} (h : ¬ O l) : FrO O A (A.putObj l o) := ⟨rfl, rfl, rfl, by simp, fun k hk => World.putObj_heap_other (fun e => h (e ▸ hk))⟩
theorem only_alloc (O : Ow) (A : World) (o : Obj) : OnlyO O A (A.alloc o) := ⟨rfl, rfl, rfl, by simp, fun k hk _ => by
  show (A.heap.push o)[k]? = _
  rw [Array.getElem?_push, if_neg (by omega)]⟩
theorem only_below {O : Ow} {A B : World} (h : Below A.heap.size A B) : OnlyO O A B := ⟨h.os, h.tape, h.output, h.size, fun k hk _ => h.block k hk⟩
theorem below_only {A B : World} {O : Ow} (h : OnlyO O A B) (hO : ∀ k, k < A.heap.size → ¬ O k) : Below A.heap.size A B := ⟨h.os, h.tape, h.output, h.size, fun k hk => h.block k hk (hO k hk)⟩
def Framed {β : Type} (J : β → Ow → World → Prop) : Prop := ∀ s O A B, J s O A → FrO O A B → J s O B
def Bounded {β : Type} (J : β → Ow → World → Prop) : Prop := ∀ s O A, J s O A → ∀ k, O k → k < A.heap.size
/-- An iterator: whatever the loop's owner holds, it hands on one after the other; of what lay it turns G's blocks alone. -/
def SeqO {α : Type} (F : Fence) (n : Nat) (P : Program) (g : Nat) (lb : Array Value) (encs : α → Array Value) (G : Ow) (S Sp : List α → Prop) (V : List α → α → Prop) (w : World) : Prop :=
  ∀ (l : Nat) (J Jx : List α → Ow → World → Prop) (O : Ow) (W : World), Below w.heap.size w W → Framed J → Framed Jx → Bounded J → Bounded Jx → (∀ k, G k → ¬ O k) →
    (∀ pre x O1 W1, J pre O1 W1 → V pre x → ExtO O W O1 → YieldAt F (n - 1) P l (encs x) W1 fun e W' => ∃ O', ExtO O1 W1 O' ∧ OnlyO O1 W1 W' ∧
      ((e = .returned (.bool true) ∧ J (pre ++ [x]) O' W') ∨ (e = .returned (.bool false) ∧ Jx (pre ++ [x]) O' W'))) →
    J [] O W →
    CallsIn F n P g (#[.func (.yield l) #[] #[]] ++ lb) W fun e W' => (∃ v, e = .returned v) ∧ ∃ O', ExtO O W O' ∧ OnlyO (fun k => O k ∨ G k) W W' ∧ ((∃ xs, S xs ∧ J xs O' W') ∨ (∃ pre, Sp pre ∧ Jx pre O' W'))
/-- How a round may be left. -/
def postO {α : Type} (I : List α → Ow → World → Prop) (Ix : Code → List α → Ow → World → Prop) (xs : List α) (O : Ow) (W : World) : Exit → Act → World → Prop
  | .normal, _, W' => ∃ O', ExtO O W O' ∧ OnlyO O W W' ∧ I xs O' W'
  | .ret, _, W' => ∃ O', ExtO O W O' ∧ OnlyO O W W' ∧ Ix .ret xs O' W'
  | .exit id, _, W' => ∃ O', ExtO O W O' ∧ OnlyO O W W' ∧ Ix (.exit id) xs O' W'
  | .goto t, _, W' => ∃ O', ExtO O W O' ∧ OnlyO O W W' ∧ Ix (.goto t) xs O' W'
  | .panic _, _, _ => False
  | .outgrown, _, _ => False
variable {F : Fence} {n : Nat} {P : Program}
/-- The law's own invariant: the owner's, the loop's record (in block l), and what else of book-keeping there is (X, of E's blocks). -/
def JO {α : Type} (I : List α → Ow → World → Prop) (l : Nat) (r : Loop) (E : Ow) (X : World → Prop) (pre : List α) (O : Ow) (W : World) : Prop :=
  ∃ O1, (∀ k, O k ↔ (O1 k ∨ k = l ∨ E k)) ∧ ¬ O1 l ∧ (∀ k, E k → ¬ O1 k) ∧ I pre O1 W ∧ W.heap[l]? = some (.loop r) ∧ X W
structure Book (l : Nat) (E : Ow) (X : World → Prop) : Prop where
  keep : ∀ A B : World, X A → (∀ k, E k → B.heap[k]? = A.heap[k]?) → X B
  bound : ∀ A : World, X A → ∀ k, E k → k < A.heap.size
  far : ¬ E l
theorem jo_framed {α : Type} {I : List α → Ow → World → Prop} {l : Nat} {r : Loop} {E : Ow} {X : World → Prop} (b : Book l E X) (hI : Framed I) : Framed (JO I l r E X) := fun pre O A B ⟨O1, e, h1, h2, h3, h4, h5⟩ k =>
  ⟨O1, e, h1, h2, hI _ _ _ _ h3 ⟨k.os, k.tape, k.output, k.size, fun j hj => k.block j ((e j).2 (.inl hj))⟩, (k.block l ((e l).2 (.inr (.inl rfl)))).trans h4, b.keep _ _ h5 fun j hj => k.block j ((e j).2 (.inr (.inr hj)))⟩
theorem jo_bounded {α : Type} {I : List α → Ow → World → Prop} {l : Nat} {r : Loop} {E : Ow} {X : World → Prop} (b : Book l E X) (hI : Bounded I) : Bounded (JO I l r E X) := fun pre O A ⟨O1, e, h1, h2, h3, h4, h5⟩ k hk => by
  rcases (e k).1 hk with h | h | h
  · exact hI _ _ _ h3 k h
  · subst h; exact (Array.getElem?_eq_some_iff.1 h4).1
  · exact b.bound _ h5 k h
/-- A round. -/
theorem round_o {α : Type} {ps : Array Tmp} {assign body : Code} {a : Act} {fn : Nat} (hfn : F.fn fn) {encs : α → Array Value} {V : List α → α → Prop} (hps : ∀ x, (encs x).size = ps.size)
    (I : List α → Ow → World → Prop) (Ix : Code → List α → Ow → World → Prop) (hI : Framed I) (hIx : ∀ c, Framed (Ix c)) (bI : Bounded I) (Ax : α → Act → Ow → World → Prop) (hAx : ∀ x a', Framed (fun (_ : Unit) O W => Ax x a' O W))
    {l : Nat} {E : Ow} {X : World → Prop} (bk : Book l E X) (rec : LoopState → Option Code → Loop) (df : Nat) (hrec : rec = fun st pe => { state := st, pending := pe, fn, tmps := a.tmps, params := ps, assign, body, defers := df })
    (hassign : ∀ (pre : List α) (x : α) (O : Ow) (W : World) (K : Act → World → Prop), I pre O W → (∀ a' O' W', ExtO O W O' → OnlyO O W W' → I pre O' W' → Ax x a' O' W' → K a' W') →
      assign.wpIn (F.inRound l) n P (Exit.then K (fun _ _ _ => False)) { tmps := (ps.zip (encs x)).foldl (fun t (p, v) => t.setIfInBounds p v) a.tmps, defers := [] } W)
    (hbody : ∀ (pre : List α) (x : α) (a' : Act) (O : Ow) (W : World), (∃ r, W.heap[l]? = some (.loop r)) → ¬ O l → I pre O W → Ax x a' O W → V pre x → body.wpIn (F.inRound l) n P (postO I Ix (pre ++ [x]) O W) a' W)
    (pre : List α) (x : α) (O : Ow) (W : World) (h : JO I l (rec .ready none) E X pre O W) (hlen : V pre x) :
    YieldAt F n P l (encs x) W fun e W' => ∃ O', ExtO O W O' ∧ OnlyO O W W' ∧
      ((e = .returned (.bool true) ∧ JO I l (rec .ready none) E X (pre ++ [x]) O' W') ∨ (e = .returned (.bool false) ∧ ∃ c, JO (Ix c) l (rec .done (some c)) E X (pre ++ [x]) O' W')) := by
  obtain ⟨O1, e, h1, h2, h3, h4, h5⟩ := h
  have hlt : l < W.heap.size := (Array.getElem?_eq_some_iff.1 h4).1
  have hy := run_yield (P := P) (args := encs x) h4 (by rw [hrec]; exact hps x)
  rw [hrec] at hy
  refine ⟨fn, _, assign, body, hy, roundIn_of_wpIn hfn (hassign pre x O1 W _ h3 ?_)⟩
  clear hy
  intro a' O2 Wa x1 x2 x3 x4
  have n2 : ¬ O2 l := fun hh => (x1 l hh).elim h1 (fun k => by omega)
  have m2 : ∀ k, E k → ¬ O2 k := fun k hk hh => (x1 k hh).elim (h2 k hk) (fun q => by have := bk.bound _ h5 k hk; omega)
  have l2 : Wa.heap[l]? = some (.loop (rec .ready none)) := (x2.block l hlt h1).trans h4
  have y2 : X Wa := bk.keep _ _ h5 fun k hk => x2.block k (bk.bound _ h5 k hk) (h2 k hk)
  have hlt2 : l < Wa.heap.size := Nat.lt_of_lt_of_le hlt x2.size
  refine ⟨_, run_beginRound l2 (by rw [hrec]), ?_⟩
  have l3 : (Wa.putObj l (.loop { rec .ready none with state := .busy })).heap[l]? = some (.loop { rec .ready none with state := .busy }) := World.putObj_heap_same hlt2
  have y3 : X (Wa.putObj l (.loop { rec .ready none with state := .busy })) := bk.keep _ _ y2 fun k hk => World.putObj_heap_other (fun q => bk.far (q ▸ hk))
  have i3 := hI _ _ _ _ x3 (fr_put (o := .loop { rec .ready none with state := .busy }) n2)
  have a3 := hAx x a' () _ _ _ x4 (fr_put (o := .loop { rec .ready none with state := .busy }) n2)
  have o3 : OnlyO O W (Wa.putObj l (.loop { rec .ready none with state := .busy })) :=
    (x2.wide fun k _ hk => (e k).2 (.inl hk)).trans (O' := O) (only_put ((e l).2 (.inr (.inl rfl)))) (ExtO.refl _ _)
  generalize Wa.putObj l (.loop { rec .ready none with state := .busy }) = W3 at l3 y3 i3 a3 o3
  have hlt3 : l < W3.heap.size := (Array.getElem?_eq_some_iff.1 l3).1
  refine wpIn_mono (hbody pre x a' O2 W3 ⟨_, l3⟩ n2 i3 a3 hlen) ?_
  have x1' : ExtO O W O2 := fun k hk => (x1 k hk).imp (fun q => (e k).2 (.inl q)) id
  have fin : ∀ (jump : Option Code) (W4 : World) (O4 : Ow) (Y : List α → Ow → World → Prop), Framed Y → ExtO O2 W3 O4 → OnlyO O2 W3 W4 → Y (pre ++ [x]) O4 W4 →
      (Instr.endRound l jump).run P W4 = .ok (.bool jump.isNone) (W4.putObj l (.loop (rec (if jump.isNone then .ready else .done) jump))) ∧
      ExtO O W (fun k => O4 k ∨ k = l ∨ E k) ∧ OnlyO O W (W4.putObj l (.loop (rec (if jump.isNone then .ready else .done) jump))) ∧
      JO Y l (rec (if jump.isNone then .ready else .done) jump) E X (pre ++ [x]) (fun k => O4 k ∨ k = l ∨ E k) (W4.putObj l (.loop (rec (if jump.isNone then .ready else .done) jump))) := fun jump W4 O4 Y hY e4 o4 y4 => by
    have l4 : W4.heap[l]? = some (.loop { rec .ready none with state := .busy }) := (o4.block l hlt3 n2).trans l3
    have n4 : ¬ O4 l := fun hh => (e4 l hh).elim n2 (fun k => by omega)
    have m4 : ∀ k, E k → ¬ O4 k := fun k hk hh => (e4 k hh).elim (m2 k hk) (fun q => by have := bk.bound _ y3 k hk; omega)
    have z4 : X W4 := bk.keep _ _ y3 fun k hk => o4.block k (bk.bound _ y3 k hk) (m2 k hk)
    have := run_endRound (P := P) jump l4
    rw [hrec] at this ⊢
    refine ⟨this, fun k hk => ?_, ?_, O4, fun k => Iff.rfl, n4, m4, hY _ _ _ _ y4 (fr_put n4), World.putObj_heap_same (Array.getElem?_eq_some_iff.1 l4).1, bk.keep _ _ z4 fun k hk => World.putObj_heap_other (fun q => bk.far (q ▸ hk))⟩
    · rcases hk with h | h | h
      · exact (e4 k h).elim (x1' k) (fun q => .inr (Nat.le_trans o3.size q))
      · exact .inl ((e k).2 (.inr (.inl h)))
      · exact .inl ((e k).2 (.inr (.inr h)))
    · exact (o3.trans o4 x1').trans (O' := O) (only_put ((e l).2 (.inr (.inl rfl)))) (ExtO.refl _ _)
  rintro ex a4 W4 hp
  cases ex with
  | normal =>
    obtain ⟨O4, e4, o4, y4⟩ := hp
    obtain ⟨f1, f2, f3, f4⟩ := fin none W4 O4 I hI e4 o4 y4
    exact ⟨_, _, f1, _, f2, f3, .inl ⟨rfl, f4⟩⟩
  | ret =>
    obtain ⟨O4, e4, o4, y4⟩ := hp
    obtain ⟨f1, f2, f3, f4⟩ := fin (some .ret) W4 O4 _ (hIx _) e4 o4 y4
    exact ⟨_, _, f1, _, f2, f3, .inr ⟨rfl, _, f4⟩⟩
  | exit id =>
    obtain ⟨O4, e4, o4, y4⟩ := hp
    obtain ⟨f1, f2, f3, f4⟩ := fin (some (.exit id)) W4 O4 _ (hIx _) e4 o4 y4
    exact ⟨_, _, f1, _, f2, f3, .inr ⟨rfl, _, f4⟩⟩
  | goto t =>
    obtain ⟨O4, e4, o4, y4⟩ := hp
    obtain ⟨f1, f2, f3, f4⟩ := fin (some (.goto t)) W4 O4 _ (hIx _) e4 o4 y4
    exact ⟨_, _, f1, _, f2, f3, .inr ⟨rfl, _, f4⟩⟩
  | panic ch => exact hp.elim
  | outgrown => exact hp.elim
theorem only_two {w : World} {O : Ow} {W2 : World} {l : Nat} {G : Ow} {E : Ow} {W1 : World} (h1 : OnlyO O w W1) (hs : w.heap.size ≤ l) (hE : ∀ k, E k → w.heap.size ≤ k) {O1 : Ow} (he : ∀ k, O1 k ↔ (O k ∨ k = l ∨ E k)) (h2 : OnlyO (fun k => O1 k ∨ G k) W1 W2) : OnlyO (fun k => O k ∨ G k) w W2 :=
  ⟨h2.os.trans h1.os, h2.tape.trans h1.tape, h2.output.trans h1.output, Nat.le_trans h1.size h2.size, fun k hk hn => (h2.block k (Nat.lt_of_lt_of_le hk h1.size) (fun hh => by
    rcases hh with hh | hh
    · rcases (he k).1 hh with q | q | q
      · exact hn (.inl q)
      · omega
      · have := hE k q; omega
    · exact hn (.inr hh))).trans (h1.block k hk (fun q => hn (.inl q)))⟩
/-- The law, at an outermost loop. -/
theorem range_o {α : Type} {g : Operand} {ps : Array Tmp} {assign body : Code} {Q : Exit → Act → World → Prop} {a : Act} {w : World}
    (hro : F.round = none) (h1 : 1 ≤ n) {gf : Nat} {lb : Array Value} (hg : a.eval g = .func (.func gf) #[] lb) (hFg : F.fn gf) (eg : ∀ args w, (callFunc gf args).run P w = .ok (.enter gf args) w)
    {encs : α → Array Value} {G : Ow} {S Sp : List α → Prop} {V : List α → α → Prop} {w0 : World} (hseq : SeqO F (n - 1) P gf lb encs G S Sp V w0) (hb0 : Below w0.heap.size w0 w) (hps : ∀ x, (encs x).size = ps.size)
    (I : List α → Ow → World → Prop) (Ix : Code → List α → Ow → World → Prop) (hI : Framed I) (hIx : ∀ c, Framed (Ix c)) (bI : Bounded I) (bIx : ∀ c, Bounded (Ix c)) (Ax : α → Act → Ow → World → Prop) (hAx : ∀ x a', Framed (fun (_ : Unit) O W => Ax x a' O W))
    (O : Ow) (hG : ∀ k, G k → k < w.heap.size ∧ ¬ O k) (h0 : I [] O w)
    (hassign : ∀ (l : Nat) (pre : List α) (x : α) (O : Ow) (W : World) (K : Act → World → Prop), I pre O W → (∀ a' O' W', ExtO O W O' → OnlyO O W W' → I pre O' W' → Ax x a' O' W' → K a' W') →
      assign.wpIn (F.inRound l) (n - 1 - 1) P (Exit.then K (fun _ _ _ => False)) { tmps := (ps.zip (encs x)).foldl (fun t (p, v) => t.setIfInBounds p v) a.tmps, defers := [] } W)
    (hbody : ∀ (l : Nat) (pre : List α) (x : α) (a' : Act) (O : Ow) (W : World), w.heap.size ≤ l → (∃ r, W.heap[l]? = some (.loop r)) → ¬ O l → I pre O W → Ax x a' O W → V pre x → body.wpIn (F.inRound l) (n - 1 - 1) P (postO I Ix (pre ++ [x]) O W) a' W)
    (hdone : ∀ (D : Nat) (xs : List α) (O' : Ow) (W : World), w.heap.size ≤ D → S xs → I xs O' W → ExtO O w O' → OnlyO (fun k => O k ∨ G k) w W → W.heap[D]? = some (.deferred (some [])) → ¬ O' D → Q .normal { a with defers := { target := .collected D, args := #[] } :: a.defers } W)
    (hstop : ∀ (D : Nat) (c : Code) (pre : List α) (O' : Ow) (W : World), w.heap.size ≤ D → Sp pre → Ix c pre O' W → ExtO O w O' → OnlyO (fun k => O k ∨ G k) w W → W.heap[D]? = some (.deferred (some [])) → ¬ O' D → c.wpIn F n P Q { a with defers := { target := .collected D, args := #[] } :: a.defers } W) :
    (Code.rangeFunc g ps assign body).wpIn F n P Q a w := by
  refine wpIn_rangeFunc ?_
  intro fn hfn
  rw [hro]
  obtain ⟨rec, hrec⟩ : ∃ rec : LoopState → Option Code → Loop, rec = fun st pe => { state := st, pending := pe, fn, tmps := a.tmps, params := ps, assign, body, defers := w.heap.size } := ⟨_, rfl⟩
  obtain ⟨W1, hW1⟩ : ∃ W1, (w.alloc (.deferred (some []))).alloc (.loop (rec .ready none)) = W1 := ⟨_, rfl⟩
  have hL1 : W1.heap[w.heap.size + 1]? = some (.loop (rec .ready none)) := by
    rw [← hW1]; have := World.alloc_heap_new (w.alloc (.deferred (some []))) (.loop (rec .ready none)); rwa [World.size_alloc] at this
  have hK1 : W1.heap[w.heap.size]? = some (.deferred (some [])) := by
    rw [← hW1]; exact (Below.heap_alloc _ _ _ (by simp)).trans (World.alloc_heap_new w _)
  have o1 : ∀ O : Ow, OnlyO O w W1 := fun O => by rw [← hW1]; exact (only_alloc O _ _).trans (O' := O) (only_alloc O _ _) (ExtO.refl _ _)
  have hb := bI _ _ _ h0
  have hI1 : I [] O W1 := hI _ _ _ _ h0 ((o1 (fun _ => False)).fr hb fun _ _ h => h)
  have hb1 : Below w0.heap.size w0 W1 := hb0.trans (((below_only (o1 (fun _ => False)) fun _ _ h => h)).mono hb0.size)
  refine ⟨w.heap.size + 1, [{ target := .collected w.heap.size, args := #[] }], W1, { target := .fn (.func gf) lb, args := #[.func (.yield (w.heap.size + 1)) #[] #[]] }, W1, gf,
    #[.func (.yield (w.heap.size + 1)) #[] #[]] ++ lb, W1, ?_, ?_, ?_, ?_, fun _ => h1, ?_⟩
  · rw [← hW1, hrec]; exact run_enterLoop_outer _ _ _ _ _
  · simp only [resolve, hg]
    simp [go_sem]
  · intro f' hf'; simp [Target.leads] at hf'; subst hf'; exact hFg
  · simp [invoke, go_sem, eg]
  · have bk : Book (w.heap.size + 1) (fun k => k = w.heap.size) (fun W => W.heap[w.heap.size]? = some (.deferred (some []))) :=
      ⟨fun A B h k => (k _ rfl).trans h, fun A h k e => by subst e; exact (Array.getElem?_eq_some_iff.1 h).1, by omega⟩
    refine (hseq (w.heap.size + 1) (JO I (w.heap.size + 1) (rec .ready none) (fun k => k = w.heap.size) (fun W => W.heap[w.heap.size]? = some (.deferred (some []))))
      (fun pre O W => ∃ c, JO (Ix c) (w.heap.size + 1) (rec .done (some c)) (fun k => k = w.heap.size) (fun W => W.heap[w.heap.size]? = some (.deferred (some []))) pre O W)
      (fun k => O k ∨ k = w.heap.size + 1 ∨ k = w.heap.size) W1 hb1 (jo_framed bk hI) (fun s O A B ⟨c, h⟩ k => ⟨c, jo_framed bk (hIx c) _ _ _ _ h k⟩) (jo_bounded bk bI) (fun s O A ⟨c, h⟩ => jo_bounded bk (bIx c) _ _ _ h)
      (fun k hk hh => ?_) ?_ ⟨O, fun k => Iff.rfl, fun h => by have := hb _ h; omega, fun k e h => by subst e; have := hb _ h; omega, hI1, hL1, hK1⟩).mono ?_
    · obtain ⟨q1, q2⟩ := hG k hk
      rcases hh with h | h | h
      · exact q2 h
      · omega
      · omega
    · rintro pre x O1 W hJ hlen _
      exact round_o hfn hps I Ix hI hIx bI Ax hAx bk rec _ hrec (hassign _) (fun pre x a' O W => hbody _ pre x a' O W (by omega)) pre x O1 W hJ hlen
    · rintro e W2 ⟨⟨v, rfl⟩, O', hx, ho, (⟨xs, hS, O1, he, n1, m1, hi, hl, hk⟩ | ⟨pre, hSp, c, O1, he, n1, m1, hi, hl, hk⟩)⟩
      · have hq := only_two (E := fun k => k = w.heap.size) (o1 O) (Nat.le_succ _) (fun k e => by omega) (fun k => Iff.rfl) ho
        have hx' : ExtO O w O1 := fun k hh => (hx k ((he k).2 (.inl hh))).elim (fun q => by
          rcases q with q | q | q
          · exact .inl q
          · exact .inr (by omega)
          · exact .inr (by omega)) (fun q => .inr (Nat.le_trans (o1 O).size q))
        refine ⟨none, _, by have := run_endLoop (P := P) hl (by rw [hrec]; simp); rw [hrec] at this; exact this, hdone _ xs O1 _ (Nat.le_refl _) hS (hI _ _ _ _ hi (fr_put n1)) hx' ?_ ((World.putObj_heap_other (by omega)).trans hk) (m1 _ rfl)⟩
        exact ⟨hq.os, hq.tape, hq.output, by simp; exact hq.size, fun k hk hn => (World.putObj_heap_other (by omega)).trans (hq.block k hk hn)⟩
      · have hq := only_two (E := fun k => k = w.heap.size) (o1 O) (Nat.le_succ _) (fun k e => by omega) (fun k => Iff.rfl) ho
        have hx' : ExtO O w O1 := fun k hh => (hx k ((he k).2 (.inl hh))).elim (fun q => by
          rcases q with q | q | q
          · exact .inl q
          · exact .inr (by omega)
          · exact .inr (by omega)) (fun q => .inr (Nat.le_trans (o1 O).size q))
        refine ⟨some c, _, by have := run_endLoop (P := P) hl (by rw [hrec]; simp); rw [hrec] at this; exact this, hstop _ c pre O1 _ (Nat.le_refl _) hSp (hIx c _ _ _ _ hi (fr_put n1)) hx' ?_ ((World.putObj_heap_other (by omega)).trans hk) (m1 _ rfl)⟩
        exact ⟨hq.os, hq.tape, hq.output, by simp; exact hq.size, fun k hk hn => (World.putObj_heap_other (by omega)).trans (hq.block k hk hn)⟩
/-- The law, in a round of the loop l₀. -/
theorem range_n {α : Type} {g : Operand} {ps : Array Tmp} {assign body : Code} {Q : Exit → Act → World → Prop} {a : Act} {w : World}
    {l₀ : Nat} {r₀ : Loop} (hro : F.round = some l₀) (hl₀ : w.heap[l₀]? = some (.loop r₀)) (h1 : 1 ≤ n) {gf : Nat} {lb : Array Value} (hg : a.eval g = .func (.func gf) #[] lb) (hFg : F.fn gf) (eg : ∀ args w, (callFunc gf args).run P w = .ok (.enter gf args) w)
    {encs : α → Array Value} {G : Ow} {S Sp : List α → Prop} {V : List α → α → Prop} {w0 : World} (hseq : SeqO F (n - 1) P gf lb encs G S Sp V w0) (hb0 : Below w0.heap.size w0 w) (hps : ∀ x, (encs x).size = ps.size)
    (I : List α → Ow → World → Prop) (Ix : Code → List α → Ow → World → Prop) (hI : Framed I) (hIx : ∀ c, Framed (Ix c)) (bI : Bounded I) (bIx : ∀ c, Bounded (Ix c)) (Ax : α → Act → Ow → World → Prop) (hAx : ∀ x a', Framed (fun (_ : Unit) O W => Ax x a' O W))
    (O : Ow) (hG : ∀ k, G k → k < w.heap.size ∧ ¬ O k) (h0 : I [] O w)
    (hassign : ∀ (l : Nat) (pre : List α) (x : α) (O : Ow) (W : World) (K : Act → World → Prop), I pre O W → (∀ a' O' W', ExtO O W O' → OnlyO O W W' → I pre O' W' → Ax x a' O' W' → K a' W') →
      assign.wpIn (F.inRound l) (n - 1 - 1) P (Exit.then K (fun _ _ _ => False)) { tmps := (ps.zip (encs x)).foldl (fun t (p, v) => t.setIfInBounds p v) a.tmps, defers := [] } W)
    (hbody : ∀ (l : Nat) (pre : List α) (x : α) (a' : Act) (O : Ow) (W : World), w.heap.size ≤ l → (∃ r, W.heap[l]? = some (.loop r)) → ¬ O l → I pre O W → Ax x a' O W → V pre x → body.wpIn (F.inRound l) (n - 1 - 1) P (postO I Ix (pre ++ [x]) O W) a' W)
    (hdone : ∀ (xs : List α) (O' : Ow) (W : World), S xs → I xs O' W → ExtO O w O' → OnlyO (fun k => O k ∨ G k) w W → Q .normal a W)
    (hstop : ∀ (c : Code) (pre : List α) (O' : Ow) (W : World), Sp pre → Ix c pre O' W → ExtO O w O' → OnlyO (fun k => O k ∨ G k) w W → c.wpIn F n P Q a W) :
    (Code.rangeFunc g ps assign body).wpIn F n P Q a w := by
  refine wpIn_rangeFunc ?_
  intro fn hfn
  rw [hro]
  obtain ⟨rec, hrec⟩ : ∃ rec : LoopState → Option Code → Loop, rec = fun st pe => { state := st, pending := pe, fn, tmps := a.tmps, params := ps, assign, body, defers := r₀.defers } := ⟨_, rfl⟩
  obtain ⟨W1, hW1⟩ : ∃ W1, w.alloc (.loop (rec .ready none)) = W1 := ⟨_, rfl⟩
  have hL1 : W1.heap[w.heap.size]? = some (.loop (rec .ready none)) := by rw [← hW1]; exact World.alloc_heap_new w _
  have o1 : ∀ O : Ow, OnlyO O w W1 := fun O => by rw [← hW1]; exact only_alloc O _ _
  have hb := bI _ _ _ h0
  have hI1 : I [] O W1 := hI _ _ _ _ h0 ((o1 (fun _ => False)).fr hb fun _ _ h => h)
  have hb1 : Below w0.heap.size w0 W1 := hb0.trans (((below_only (o1 (fun _ => False)) fun _ _ h => h)).mono hb0.size)
  refine ⟨w.heap.size, [], W1, { target := .fn (.func gf) lb, args := #[.func (.yield w.heap.size) #[] #[]] }, W1, gf,
    #[.func (.yield w.heap.size) #[] #[]] ++ lb, W1, ?_, ?_, ?_, ?_, fun _ => h1, ?_⟩
  · rw [← hW1, hrec]; exact run_enterLoop_inner hl₀ _ _ _ _ _
  · simp only [resolve, hg]
    simp [go_sem]
  · intro f' hf'; simp [Target.leads] at hf'; subst hf'; exact hFg
  · simp [invoke, go_sem, eg]
  · have bk : Book w.heap.size (fun _ => False) (fun _ => True) := ⟨fun _ _ _ _ => trivial, fun _ _ _ h => h.elim, fun h => h⟩
    refine (hseq w.heap.size (JO I w.heap.size (rec .ready none) (fun _ => False) (fun _ => True))
      (fun pre O W => ∃ c, JO (Ix c) w.heap.size (rec .done (some c)) (fun _ => False) (fun _ => True) pre O W)
      (fun k => O k ∨ k = w.heap.size ∨ False) W1 hb1 (jo_framed bk hI) (fun s O A B ⟨c, h⟩ k => ⟨c, jo_framed bk (hIx c) _ _ _ _ h k⟩) (jo_bounded bk bI) (fun s O A ⟨c, h⟩ => jo_bounded bk (bIx c) _ _ _ h)
      (fun k hk hh => ?_) ?_ ⟨O, fun k => Iff.rfl, fun h => by have := hb _ h; omega, fun k e h => e, hI1, hL1, trivial⟩).mono ?_
    · obtain ⟨q1, q2⟩ := hG k hk
      rcases hh with h | h | h
      · exact q2 h
      · omega
      · exact h
    · rintro pre x O1 W hJ hlen _
      exact round_o hfn hps I Ix hI hIx bI Ax hAx bk rec _ hrec (hassign _) (fun pre x a' O W => hbody _ pre x a' O W (by omega)) pre x O1 W hJ hlen
    · rintro e W2 ⟨⟨v, rfl⟩, O', hx, ho, (⟨xs, hS, O1, he, n1, m1, hi, hl, hk⟩ | ⟨pre, hSp, c, O1, he, n1, m1, hi, hl, hk⟩)⟩
      · have hq := only_two (E := fun _ => False) (o1 O) (Nat.le_refl _) (fun k e => e.elim) (fun k => Iff.rfl) ho
        have hx' : ExtO O w O1 := fun k hh => (hx k ((he k).2 (.inl hh))).elim (fun q => by
          rcases q with q | q | q
          · exact .inl q
          · exact .inr (by omega)
          · exact q.elim) (fun q => .inr (Nat.le_trans (o1 O).size q))
        refine ⟨none, _, by have := run_endLoop (P := P) hl (by rw [hrec]; simp); rw [hrec] at this; exact this, hdone xs O1 _ hS (hI _ _ _ _ hi (fr_put n1)) hx' ?_⟩
        exact ⟨hq.os, hq.tape, hq.output, by simp; exact hq.size, fun k hk hn => (World.putObj_heap_other (by omega)).trans (hq.block k hk hn)⟩
      · have hq := only_two (E := fun _ => False) (o1 O) (Nat.le_refl _) (fun k e => e.elim) (fun k => Iff.rfl) ho
        have hx' : ExtO O w O1 := fun k hh => (hx k ((he k).2 (.inl hh))).elim (fun q => by
          rcases q with q | q | q
          · exact .inl q
          · exact .inr (by omega)
          · exact q.elim) (fun q => .inr (Nat.le_trans (o1 O).size q))
        refine ⟨some c, _, by have := run_endLoop (P := P) hl (by rw [hrec]; simp); rw [hrec] at this; exact this, hstop c pre O1 _ hSp (hIx c _ _ _ _ hi (fr_put n1)) hx' ?_⟩
        exact ⟨hq.os, hq.tape, hq.output, by simp; exact hq.size, fun k hk hn => (World.putObj_heap_other (by omega)).trans (hq.block k hk hn)⟩
end Go.Proofs.YthhbhfpdabiclaaGreatDoor
