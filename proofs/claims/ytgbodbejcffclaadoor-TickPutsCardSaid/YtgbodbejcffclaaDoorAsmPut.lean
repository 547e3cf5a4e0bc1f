/- Package asm as it has landed: Put. -/
import Derived.Test.YtgbodbejcffclaaDoorAsmMark
import Derived.Test.YtgbodbejcffclaaDoorInstCode
namespace Go.Proofs.YtgbodbejcffclaaDoor.A7
open Go.RowKit Go.Maps
set_option linter.unusedVariables false
/-- An instruction. -/
structure XI where
  o : Int
  d : Int
  s : Int
  t : Int
  b : Bool
  n : Int
structure XB (x : XI) : Prop where
  o : 0 ≤ x.o ∧ x.o ≤ 255
  d : 0 ≤ x.d ∧ x.d ≤ 255
  s : 0 ≤ x.s ∧ x.s ≤ 255
  t : 0 ≤ x.t ∧ x.t ≤ 255
  n : -2147483648 ≤ x.n ∧ x.n ≤ 2147483647
def XI.may (x : XI) : Bool := I2.may x.o x.d x.s x.t x.b x.n
def XI.word (x : XI) : Int := I2.eW x.o x.d x.s x.t x.b x.n
def XI.row (x : XI) : List Value := [.int .u8 x.o, .int .u8 x.d, .int .u8 x.s, .int .u8 x.t, .bool x.b, .int .i32 x.n]
/-- A slice of instructions. -/
def Ins (w : World) (H : Nat → Prop) (l : Value) (k : Nat) (X : Nat → XI) : Prop :=
  ∃ p c, l = .slice p k c ∧ (0 < k → ∃ b o, p = some ⟨b, o, none⟩ ∧ ¬ H b ∧ ∀ i, i < k → w.cell? ⟨b, o + i * 6, none⟩ = some (.int .u8 (X i).o) ∧ w.cell? ⟨b, o + i * 6 + 1, none⟩ = some (.int .u8 (X i).d) ∧ w.cell? ⟨b, o + i * 6 + 2, none⟩ = some (.int .u8 (X i).s) ∧ w.cell? ⟨b, o + i * 6 + 3, none⟩ = some (.int .u8 (X i).t) ∧ w.cell? ⟨b, o + i * 6 + 4, none⟩ = some (.bool (X i).b) ∧ w.cell? ⟨b, o + i * 6 + 5, none⟩ = some (.int .i32 (X i).n))
theorem bsL_snoc (f : Nat → Int) (n : Nat) (u : Int) : bsL .u32 f n ++ [.int .u32 u] = bsL .u32 (F3.upd f n u) (n + 1) := by
  unfold bsL
  rw [List.range_succ, List.map_append]
  congr 1
  · apply List.map_congr_left
    intro i hi
    have : i ≠ n := by simp at hi; omega
    simp [F3.upd, this]
  · simp [F3.upd]
theorem bsL_take (f g : Nat → Int) (n m : Nat) (h : n ≤ m) (e : ∀ i, i < n → f i = g i) : (bsL .u32 f m).take n = bsL .u32 g n := by
  apply List.ext_getElem?
  intro i
  unfold bsL
  rw [List.getElem?_take]
  by_cases hi : i < n
  · rw [if_pos hi]
    have him : i < m := by omega
    simp [hi, him, e i hi]
  · rw [if_neg hi, List.getElem?_eq_none (by simp; omega)]
theorem adds_low (q : AS) (f : Nat → Int) : ∀ k i, i < q.n → (q.adds f k).ws i = q.ws i
  | 0, _, _ => rfl
  | k + 1, i, hi => by
    have := adds_low q f k i hi
    simp only [AS.adds, AS.add, F3.upd]
    rw [AS.adds_n]
    rw [if_neg (by omega)]
    exact this
/-- Put's words, as far as they go. -/
structure PutR (w wr : World) (wv s : Value) (q : AS) (f : Nat → Int) (k : Nat) : Prop where
  row : wr.ownsRow 0 49 1 s (q.n + k) (bsL .u32 (q.adds f k).ws (q.n + k))
  old : wr.ownsRow 0 49 1 wv q.n (bsL .u32 q.ws q.n)
  turn : Turns (fun i => wv.ownBlock = some i) w wr
  loc : ∀ j, s.ownBlock = some j → wv.ownBlock = some j ∨ w.heap.size ≤ j
theorem own_cap {w : World} {B B' : Nat} {t : TypeId} {g n m c c' : Nat} {xs ys : List Value} (h : w.ownsRow B t 1 (.slice (some ⟨g, 0, none⟩) n c) n xs) (k : w.ownsRow B' t 1 (.slice (some ⟨g, 0, none⟩) m c') m ys) : c = c' := by
  obtain ⟨_, ⟨h, _⟩ | ⟨g1, c1, cur1, e1, _, hg1, _, _, hs1, _⟩⟩ := h
  · cases h
  obtain ⟨_, ⟨k, _⟩ | ⟨g2, c2, cur2, e2, _, hg2, _, _, hs2, _⟩⟩ := k
  · cases k
  simp only [Value.slice.injEq, Option.some.injEq, Addr.mk.injEq] at e1 e2
  obtain ⟨⟨rfl, _⟩, _, rfl⟩ := e1
  obtain ⟨⟨rfl, _⟩, _, rfl⟩ := e2
  rw [hg1] at hg2
  simp at hg2
  subst hg2
  omega
theorem own_of {w : World} {B : Nat} {t : TypeId} {s : Value} {n : Nat} {xs : List Value} (h : w.ownsRow B t 1 s n xs) : (s = .slice none 0 0 ∧ n = 0) ∨ ∃ g c, s = .slice (some ⟨g, 0, none⟩) n c := by
  obtain ⟨_, h | ⟨g, c, cur, rfl, _⟩⟩ := h
  · exact .inl h
  · exact .inr ⟨g, c, rfl⟩
theorem Turns.of_grown {w w' : World} {s : Value} (h : w.grownBy w' s.ownBlock) : Turns (fun i => s.ownBlock = some i) w w' :=
  ⟨h.os, h.tape, h.output, h.size, fun i hi hn => h.block i hi (fun e => hn e.symm)⟩
section
variable {w wr w2 : World} {b mp : Nat} {wv s jv : Value} {vs : List Value} {G K : Nat → Prop} {q : AS} {f : Nat → Int} {k : Nat}
theorem PutR.zero (h : w.ownsRow 0 49 1 wv q.n (bsL .u32 q.ws q.n)) : PutR w w wv wv q f 0 := ⟨h, h, Turns.refl _ _, fun _ e => .inl e⟩
theorem PutR.bel (R : PutR w wr wv s q f k) (g : Below wr.heap.size wr w2) : PutR w w2 wv s q f k :=
  ⟨own_same R.row fun j hj => g.block j (R.row.lt j hj).2, own_same R.old fun j hj => g.block j (R.old.lt j hj).2, R.turn.trans (G' := fun _ => False) (Turns.of_bel g) (fun _ e => e.elim), R.loc⟩
theorem PutR.step {g' c' : Nat} {u : Int} (hu : f k = u) (R : PutR w wr wv s q f k) (own : w2.ownsRow 0 49 1 (.slice (some ⟨g', 0, none⟩) (q.n + k + 1) c') (q.n + k + 1) (bsL .u32 (q.adds f k).ws (q.n + k) ++ [.int .u32 u])) (gr : wr.grownBy w2 s.ownBlock)
    (loc : s = .slice (some ⟨g', 0, none⟩) (q.n + k) c' ∨ (wr.heap.size ≤ g' ∧ wr.grownBy w2 none)) : PutR w w2 wv (.slice (some ⟨g', 0, none⟩) (q.n + k + 1) c') q f (k + 1) := by
  subst hu
  rw [bsL_snoc] at own
  have ews : F3.upd (q.adds f k).ws (q.n + k) (f k) = (q.adds f (k + 1)).ws := by simp only [AS.adds, AS.add]; rw [AS.adds_n]
  rw [ews] at own
  refine ⟨own, ?_, R.turn.trans (Turns.of_grown gr) R.loc, fun j hj => ?_⟩
  · rcases own_of R.old with ⟨rfl, h0⟩ | ⟨g, cap, rfl⟩
    · exact own_same R.old fun j hj => by cases hj
    · rcases loc with rfl | ⟨hn, gn⟩
      · by_cases e : g = g'
        · subst e
          obtain rfl := own_cap R.old R.row
          exact own_ahead own (by omega) (bsL_take _ _ _ _ (by omega) fun i hi => adds_low q f (k + 1) i hi)
        · refine own_same R.old fun j hj => gr.block j (R.old.lt j hj).2 fun e' => ?_
          simp [Value.ownBlock] at hj e'
          omega
      · exact own_same R.old fun j hj => gn.block j (R.old.lt j hj).2 (by simp)
  · simp [Value.ownBlock] at hj
    subst hj
    rcases loc with rfl | ⟨hn, gn⟩
    · exact R.loc _ rfl
    · exact .inr (Nat.le_trans R.turn.size hn)
theorem AsmP.put_no (h : AsmP w b mp wv jv vs G K q) (R : PutR w wr wv s q f k) : AsmP wr b mp wv jv vs G K q ∧ Turns G w wr := by
  have T : Turns G w wr := ⟨R.turn.os, R.turn.tape, R.turn.output, R.turn.size, fun i hi hn => R.turn.block i hi fun e => hn (h.gw i e)⟩
  exact ⟨{ h with
    box := R.turn.heap (fun e => (h.wb e).1 rfl) h.box
    words := R.old
    marks := map_same h.marks (R.turn.block mp h.marks.lt fun e => (h.wb e).2.1 rfl)
    jumps := own_same h.jumps fun j hj => R.turn.block j (h.jumps.lt j hj).2 fun e => (h.wb e).2.2 hj
    each := fun i v j hv hj => (h.each i v j hv hj).turns T (fun _ e => .inl (h.sub _ e)) (fun _ e => .inl e)
    klt := fun i hi => Nat.lt_of_lt_of_le (h.klt i hi) R.turn.size
    tab := tab_turns h.tab T h.far }, T⟩
theorem adds_ok (h : AOk q) (hn : q.n + k ≤ 100000) : AOk (q.adds f k) where
  n := by rw [AS.adds_n]; exact hn
  ms := by rw [AS.adds_ms]; exact h.ms
  at_ := fun p hp => by rw [AS.adds_ms] at hp; rw [AS.adds_n]; exact Nat.le_trans (h.at_ p hp) (Nat.le_add_right _ _)
  js := fun p hp => by rw [AS.adds_js] at hp; rw [AS.adds_n]; exact (h.js p hp).mono (Nat.le_add_right _ _)
  jl := by rw [AS.adds_n, AS.adds_js]; exact Nat.le_trans h.jl (Nat.le_add_right _ _)
theorem AsmP.put_yes (h : AsmP w b mp wv jv vs G K q) (R : PutR w wr wv s q f k) (hn : q.n + k ≤ 100000) :
    AsmP (wr.setCell ⟨b, 1, none⟩ s) b mp s jv vs (fun i => G i ∨ s.ownBlock = some i) (fun i => K i ∨ (G i ∨ s.ownBlock = some i)) (q.adds f k) ∧ Turns G w (wr.setCell ⟨b, 1, none⟩ s) ∧ ∀ i, (G i ∨ s.ownBlock = some i) → G i ∨ w.heap.size ≤ i := by
  obtain ⟨P, T⟩ := h.put_no R
  have k1 : wr.grownBy (wr.setCell ⟨b, 1, none⟩ s) (some b) := only_cell ⟨rfl, rfl, rfl, Nat.le_refl _, fun _ _ _ => rfl⟩ 1 s
  have T2 : Turns G w (wr.setCell ⟨b, 1, none⟩ s) := T.trans (G' := G) (Turns.of_only k1 h.gb) (fun _ e => .inl e)
  have low : ∀ i, (G i ∨ s.ownBlock = some i) → G i ∨ w.heap.size ≤ i := fun i hi => hi.elim .inl fun e => (R.loc i e).imp (h.gw i) id
  refine ⟨{
    box := heap_setCell_same wr b 1 _ _ s P.box
    words := by
      rw [AS.adds_n]
      exact only_own R.row k1 fun j hj => not_typ P.box (by decide) (own_typ R.row hj)
    marks := by rw [AS.adds_ms]; exact only_map P.marks k1 P.bm.symm
    jumps := by rw [AS.adds_js]; exact only_own P.jumps k1 fun j hj => (P.jb hj).1
    each := fun i v j hv hj => by rw [AS.adds_js] at hj; exact (h.each i v j hv hj).turns T2 (fun _ e => .inl (h.sub _ e)) (fun i hi => hi.elim .inl fun e => (low i e).imp (h.sub i) id)
    gb := .inl h.gb, gm := .inl h.gm, gw := fun j hj => .inr hj, gj := fun j hj => .inl (h.gj j hj)
    sub := fun _ hi => .inr hi
    klt := fun i hi => hi.elim (fun e => Nat.lt_of_lt_of_le (P.klt i e) k1.size) fun hi => hi.elim (fun e => Nat.lt_of_lt_of_le (P.lt i e) k1.size) fun e => Nat.lt_of_lt_of_le (R.row.lt i e).2 k1.size
    far := fun i hi ht => (low i hi).elim (fun e => h.far i e ht) fun e => absurd (tab_lt h.tab ht) (Nat.not_lt.2 e)
    tab := tab_turns h.tab T2 h.far
    ok := adds_ok h.ok hn }, T2, low⟩
theorem Put_no (v l : Value) (w : World) (h : NoAsm w v) : Calls Tryd.prog 19 #[v, l] w fun e w' => e = .returned (.int .i64 1) ∧ w' = w := by
  have H := Lib.hid h
  clear h
  go_enter Tryd.func19, Tryd.ntmps19
  go_wp2_with fail
  refine (isObject_no _ _ H.out).mono ?_; rintro e w1 ⟨rfl, rfl⟩
  go_wp2_with fail
  go_ret
  exact ⟨rfl, rfl⟩
set_option maxHeartbeats 2000000 in
set_option maxRecDepth 10000 in
/-- Put: all instructions' words are laid behind, or, if one is not valid, none. -/
theorem Put_any {l : Value} {X : Nat → XI} (h : AsmB w b G K q) (hi : Ins w G l k X) (hx : ∀ i, i < k → XB (X i)) (hn : q.n + k ≤ 100000) :
    Calls Tryd.prog 19 #[.pointer (some ⟨b, 0, none⟩), l] w fun e w' =>
      (e = .returned (.int .i64 0) ∧ (∀ i, i < k → (X i).may = true) ∧ Left w b G K (q.adds (fun i => (X i).word) k) w') ∨ (e = .returned (.int .i64 2) ∧ (∃ i, i < k ∧ (X i).may = false) ∧ Left w b G K q w') := by
  obtain ⟨mp, wv, jv, vs, h⟩ := h
  obtain ⟨lp, lc, rfl, hcs⟩ := hi
  obtain ⟨k0, k1, k2, k3⟩ := h.cells
  obtain ⟨p, c, rfl⟩ := h.wform
  have B := Lib.hid h.box
  have P := Lib.hid h
  have HC := Lib.hid hcs
  have HX := Lib.hid hx
  have HN := Lib.hid hn
  have R0 := Lib.hid (PutR.zero (f := fun i => (X i).word) h.words)
  clear h hcs hx
  go_enter Tryd.func19, Tryd.ntmps19
  go_wp2_with fail
  refine (isObject_yes _ _ _ _ B.out).mono ?_; rintro e w1 ⟨rfl, rfl⟩
  go_wp2_with fail
  go_loopw [5, 19] (fun s i wr => ∃ j : Nat, j ≤ k ∧ i = .int .i64 j ∧ (∀ i, i < j → (X i).may = true) ∧ PutR w1 wr (.slice p q.n c) s q (fun i => (X i).word) j) (fun _ i _ => k - (intOf i).toNat)
  case atStart => exact ⟨0, Nat.zero_le _, rfl, fun _ h => absurd h (Nat.not_lt_zero _), R0.out⟩
  case round =>
    obtain ⟨j, hj, rfl, hm, R⟩ := hrel
    have HM := Lib.hid hm
    clear hm
    by_cases hlt : j < k
    · obtain ⟨lb, lo, rfl, hlb, hcell⟩ := HC.out (by omega)
      have hc := hcell j hlt
      have hbx := HX.out j hlt
      obtain ⟨x, hX⟩ : ∃ x, x = X j := ⟨_, rfl⟩
      have hfu : (fun i => (X i).word) j = x.word := by rw [hX]
      have hmx : (X j).may = x.may := by rw [hX]
      rw [← hX] at hc hbx
      have hno : ¬ (Value.slice p q.n c).ownBlock = some lb := fun e => hlb (P.out.gw lb e)
      obtain ⟨c0, c1, c2, c3, c4, c5⟩ := hc
      replace c0 := R.turn.cell hno c0
      replace c1 := R.turn.cell hno c1
      replace c2 := R.turn.cell hno c2
      replace c3 := R.turn.cell hno c3
      replace c4 := R.turn.cell hno c4
      replace c5 := R.turn.cell hno c5
      have HT := Lib.hid (tab_turns (G := fun i => (Value.slice p q.n c).ownBlock = some i) P.out.tab R.turn (fun i e => P.out.far i (P.out.gw i e)))
      obtain ⟨o, d, s0, t0, bb, n0⟩ := x
      have HB := Lib.hid hbx
      have R := Lib.hid R
      have hml : Hid (q.n + j ≤ 1000000) := by have := HN.out; unfold Hid; omega
      clear hbx hcell
      simp only at c0 c1 c2 c3 c4 c5
      cases hmay : XI.may ⟨o, d, s0, t0, bb, n0⟩
      · have he := I2.eE_no (o := o) (d := d) (s := s0) (t := t0) (b := bb) (n := n0) hmay
        have HF := Lib.hid (hmx.trans hmay)
        go_wp2_with fail
        refine (I2.enc_any o d s0 t0 bb n0 _ (tab_bel HT.out ((Below.refl _ _).alloc (Nat.le_refl _) _)) HB.out.o HB.out.d HB.out.s HB.out.t).mono ?_; rintro e w2 ⟨rfl, g2⟩
        rw [he]
        have R2 := Lib.hid (R.out.bel (bel_trans ((Below.refl _ _).alloc (Nat.le_refl _) _) g2.bel))
        go_wp2_with fail
        go_ret
        obtain ⟨P2, T2⟩ := P.out.put_no R2.out
        exact .inr ⟨rfl, ⟨j, hlt, HF.out⟩, ⟨G, P2.widen.toB, T2, fun _ e => .inl e⟩⟩
      · have he := I2.eE_yes (o := o) (d := d) (s := s0) (t := t0) (b := bb) (n := n0) hmay
        have HF := Lib.hid (hmx.trans hmay)
        have HU := Lib.hid hfu
        clear hfu
        go_wp2_with fail
        refine (I2.enc_any o d s0 t0 bb n0 _ (tab_bel HT.out ((Below.refl _ _).alloc (Nat.le_refl _) _)) HB.out.o HB.out.d HB.out.s HB.out.t).mono ?_; rintro e w2 ⟨rfl, g2⟩
        rw [he]
        have R2 := Lib.hid (R.out.bel (bel_trans ((Below.refl _ _).alloc (Nat.le_refl _) _) g2.bel))
        have hw : XI.word ⟨o, d, s0, t0, bb, n0⟩ = I2.eW o d s0 t0 bb n0 := rfl
        generalize I2.eW o d s0 t0 bb n0 = u at *
        clear R g2 c0 c1 c2 c3 c4 c5
        go_wp2_with (at_builtin; refine wpList_tell rfl _ _ 29 49 rfl _ 4 words_under words_parts rfl (by decide) _ _ _ (.int .u32 u) rfl rfl (R2.out.bel ((Below.refl _ _).alloc (Nat.le_refl _) _)).row w2.heap.size 1 rfl (heap_alloc_last _ _) hml.out ?_
                     intro g' c' w3 own gr loc
                     have R3 := Lib.hid ((R2.out.bel ((Below.refl _ _).alloc (Nat.le_refl _) (.cells #[.int .u32 u] 49))).step (HU.out.trans hw) own gr loc)
                     clear own gr loc R2)
        go_roundw
        case rel => exact ⟨j + 1, by omega, by go_num, fun i hi => (Nat.lt_succ_iff_lt_or_eq.1 hi).elim (HM.out i) (fun e => e ▸ HF.out), R3.out⟩
        case measure => simp [intOf]; omega
    · obtain rfl : j = k := by omega
      obtain ⟨sp, sc, rfl⟩ := lenOf_own R.row
      obtain ⟨P2, T2, low⟩ := P.out.put_yes R HN.out
      have P2 := Lib.hid P2
      have T2 := Lib.hid T2
      have LO := Lib.hid low
      have k1' := (P.out.put_no R).1.cells.2.1
      have f1 := row_frozen (j := 1) (P.out.put_no R).1.box
      clear R low
      go_wp2_with fail
      go_ret
      exact .inl ⟨rfl, HM.out, ⟨_, P2.out.toB, T2.out, LO.out⟩⟩
theorem Put_yes {l : Value} {X : Nat → XI} (h : AsmB w b G K q) (hi : Ins w G l k X) (hx : ∀ i, i < k → XB (X i)) (hn : q.n + k ≤ 100000) (hm : ∀ i, i < k → (X i).may = true) :
    Calls Tryd.prog 19 #[.pointer (some ⟨b, 0, none⟩), l] w fun e w' => e = .returned (.int .i64 0) ∧ Left w b G K (q.adds (fun i => (X i).word) k) w' :=
  (Put_any h hi hx hn).mono fun e w' hh => hh.elim (fun hh => ⟨hh.1, hh.2.2⟩) fun ⟨_, ⟨i, hi, hf⟩, _⟩ => by rw [hm i hi] at hf; cases hf
theorem Put_bad {l : Value} {X : Nat → XI} (h : AsmB w b G K q) (hi : Ins w G l k X) (hx : ∀ i, i < k → XB (X i)) (hn : q.n + k ≤ 100000) {i : Nat} (hik : i < k) (hm : (X i).may = false) :
    Calls Tryd.prog 19 #[.pointer (some ⟨b, 0, none⟩), l] w fun e w' => e = .returned (.int .i64 2) ∧ Left w b G K q w' :=
  (Put_any h hi hx hn).mono fun e w' hh => hh.elim (fun ⟨_, hh, _⟩ => by rw [hh i hik] at hm; cases hm) fun hh => ⟨hh.1, hh.2.2⟩
end
end Go.Proofs.YtgbodbejcffclaaDoor.A7
