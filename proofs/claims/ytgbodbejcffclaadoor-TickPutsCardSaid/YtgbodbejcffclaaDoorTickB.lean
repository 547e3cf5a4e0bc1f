/- Package tick as it has landed: Tick and All. -/
import Derived.Test.YtgbodbejcffclaaDoorTickA
namespace Go.Proofs.YtgbodbejcffclaaDoor.A7
open Go.RowKit Go.Maps T9
set_option linter.unusedVariables false
/-- A list lies in world w; since w0 only blocks of G0 and new ones have turned. -/
def Has (w0 w : World) (b : Nat) (G0 : Nat → Prop) (q : AS) : Prop := ∃ G K, AsmB w b G K q ∧ (∀ i, G i → G0 i ∨ w0.heap.size ≤ i) ∧ Turns G0 w0 w
section
variable {w0 w w' : World} {b : Nat} {G G0 K : Nat → Prop} {q q' : AS}
theorem Has.start (h : AsmB w b G K q) : Has w w b G q := ⟨G, K, h, fun _ e => .inl e, Turns.refl _ _⟩
theorem Has.left (h : Has w0 w b G0 q) {F : Nat} {xs : Array Value} {r : Value} (P : ∀ G K, AsmB w b G K q → (∀ i, G i → i < w.heap.size) → Calls Tryd.prog F xs w fun e w' => e = .returned r ∧ Left w b G K q' w') : Calls Tryd.prog F xs w fun e w' => e = .returned r ∧ Has w0 w' b G0 q' := by
  obtain ⟨G, K, A, lo, T⟩ := h
  refine (P G K A A.lt).mono ?_
  rintro e w' ⟨rfl, G', A', T', lo'⟩
  refine ⟨rfl, G', _, A', fun i hi => ?_, T.trans T' lo⟩
  exact (lo' i hi).elim (lo i) fun e => .inr (Nat.le_trans T.size e)
theorem Has.bel (h : Has w0 w b G0 q) (k : Below w.heap.size w w') : Has w0 w' b G0 q := by
  obtain ⟨G, K, A, lo, T⟩ := h
  exact ⟨G, K, A.bel k, lo, T.trans (G' := fun _ => False) (Turns.of_bel k) (fun _ e => e.elim)⟩
theorem Has.see (h : Has w0 w b G0 q) : ∃ G K, AsmB w b G K q := by obtain ⟨G, K, A, _⟩ := h; exact ⟨G, K, A⟩
theorem Has.turns (h : Has w0 w b G0 q) : Turns G0 w0 w := by obtain ⟨G, K, A, _, T⟩ := h; exact T
/-- A nil slice has no instruction. -/
theorem nil_ins (H : Nat → Prop) (X : Nat → XI) (V : World) : Ins V H (.slice none 0 0) 0 X := ⟨none, 0, rfl, fun h => absurd h (by decide)⟩
theorem rows_ins {V : World} {x k : Nat} {H : Nat → Prop} (h : V.heap[x]? = some (.cells (tRows k).toArray 57 (0, 0))) (hx : ¬ H x) : Ins V H (.slice (some ⟨x, 0, none⟩) 4 4) 4 (tX k) := by
  refine ⟨_, _, rfl, fun _ => ⟨x, 0, rfl, hx, fun i hi => ?_⟩⟩
  rcases (by omega : i = 0 ∨ i = 1 ∨ i = 2 ∨ i = 3) with rfl | rfl | rfl | rfl <;> exact ⟨row_cell h rfl, row_cell h rfl, row_cell h rfl, row_cell h rfl, row_cell h rfl, row_cell h rfl⟩
/-- Words of a list without jumps. -/
theorem Words_nil (h : AsmB w b G K q) (hj : q.js = []) :
    Calls Tryd.prog 10 #[.pointer (some ⟨b, 0, none⟩)] w fun e w' => ∃ v, e = .returned (.tuple #[v, .int .i64 0]) ∧ w'.ownsRow w.heap.size 49 1 v q.n (bsL .u32 q.ws q.n) ∧ Below w.heap.size w w' := by
  obtain ⟨mp, wv, jv, vs, h⟩ := h
  obtain ⟨k0, k1, k2, k3⟩ := h.cells
  obtain ⟨p, c, rfl⟩ := h.wform
  obtain ⟨jp, jc, rfl⟩ := h.jform
  have hl : q.js.length = 0 := by rw [hj]; rfl
  rw [hl] at k3
  have P := Lib.hid h
  clear h hj hl
  go_enter Tryd.func10, Tryd.ntmps10
  go_wp2_with fail
  refine (isObject_yes _ _ _ _ P.out.box).mono ?_; rintro e w1 ⟨rfl, rfl⟩
  go_wp2_with fail
  refine (cloneW_at P.out.words P.out.ok.n).mono ?_; rintro e w2 ⟨v, rfl, O, g2⟩
  have k3' := bel_cell g2 k3
  have O2 := Lib.hid O
  have G2 := Lib.hid g2
  clear k0 k1 k2 k3 O g2
  obtain ⟨vp, vc, rfl⟩ := lenOf_own O2.out
  go_wp2_with fail
  go_loopw [21] (fun i wr => i = .int .i64 0 ∧ wr = w2) (fun i _ => 0)
  case atStart => exact ⟨rfl, rfl⟩
  case round =>
    obtain ⟨rfl, rfl⟩ := hrel
    go_wp2_with fail
    go_ret2
    exact ⟨_, rfl, O2.out, G2.out⟩
theorem adds_zero (q : AS) (f : Nat → Int) : q.adds f 0 = q := rfl
/-- What Tick makes of a list. -/
def tk (q : AS) (k : Nat) : AS := (q.mark (nm k)).adds (fun i => (tX k i).word) 4
theorem Put_none (h : AsmB w b G K q) : Calls Tryd.prog 19 #[.pointer (some ⟨b, 0, none⟩), .slice none 0 0] w fun e w' => e = .returned (.int .i64 0) ∧ Left w b G K q w' := by
  have hn : q.n ≤ 100000 := by obtain ⟨mp, wv, jv, vs, h⟩ := h; exact h.ok.n
  exact Put_yes (X := fun _ => tAd) (k := 0) h (nil_ins _ _ _) (fun i hi => absurd hi (Nat.not_lt_zero _)) (by omega) (fun i hi => absurd hi (Nat.not_lt_zero _))
theorem Tick_yes (k : Nat) (h1 : 1 ≤ k) (h2 : k ≤ 15) (h : Has w0 w b G0 q) (hl : look q.ms (nm k) = none) (hm : q.ms.length < 100000) (hn : q.n + 4 ≤ 100000) :
    Calls Tryd.prog 7 #[.pointer (some ⟨b, 0, none⟩), .int .i64 k] w fun e w' => e = .returned (.int .i64 0) ∧ Has w0 w' b G0 (tk q k) := by
  have H := Lib.hid h
  have HL := Lib.hid hl
  have i1 : (1 : Int) ≤ k := by omega
  have i2 : (k : Int) ≤ 15 := by omega
  have L : Hid (∀ W, Calls Tryd.prog 17 #[.int .i64 k] W fun e w' => e = .returned (.bool true) ∧ w' = W) := fun W => by have := isLevel_at k W; rw [decide_eq_true (⟨i1, i2⟩ : 1 ≤ (k : Int) ∧ (k : Int) ≤ 15)] at this; exact this
  clear h hl
  go_enter Tryd.func7, Tryd.ntmps7
  go_wp2_with fail
  refine (H.out.left fun G K A _ => Put_none A).mono ?_; rintro e w1 ⟨rfl, H1⟩
  have H1 := Lib.hid H1
  clear H
  go_wp2_with fail
  refine (L.out _).mono ?_; rintro e w2 ⟨rfl, rfl⟩
  go_wp2_with fail
  refine (Name_at k _ h1 h2).mono ?_; rintro e w3 ⟨rfl, rfl⟩
  go_wp2_with fail
  refine (H1.out.left fun G K A _ => Mark_yes (nm k) (nm_size k) A hm HL.out).mono ?_; rintro e w4 ⟨rfl, H4⟩
  have H4 := Lib.hid H4
  clear H1
  go_wp2_with fail
  refine (handler_at k _ h1 h2).mono ?_; rintro e w5 ⟨rfl, h5⟩
  have hb : w5.heap[w4.heap.size]? = some (.cells (tRows k).toArray 57 (0, 0)) := by rw [h5]; exact heap_alloc_last _ _
  have g5 : Below w4.heap.size w4 w5 := by rw [h5]; exact (Below.refl _ _).alloc (Nat.le_refl _) _
  have HB := Lib.hid hb
  have H5 : Hid (∃ G K, AsmB w5 b G K (q.mark (nm k)) ∧ (∀ i, G i → G0 i ∨ w0.heap.size ≤ i) ∧ Turns G0 w0 w5 ∧ ¬ G w4.heap.size) := by
    obtain ⟨G, K, A, lo, T⟩ := H4.out
    exact ⟨G, K, A.bel g5, lo, T.trans (G' := fun _ => False) (Turns.of_bel g5) (fun _ e => e.elim), fun e => Nat.lt_irrefl _ (A.lt _ e)⟩
  clear h5 hb g5 H4
  obtain ⟨G, K, A, lo, T, hx⟩ := H5.out
  have CP := Lib.hid (Put_yes (k := 4) (X := tX k) A (rows_ins HB.out hx) (fun i _ => tX_b ⟨i1, i2⟩ i) (by show q.n + 4 ≤ 100000; exact hn) (fun i _ => tX_may ⟨i1, i2⟩ i))
  have LO := Lib.hid lo
  have TT := Lib.hid T
  clear A lo T hx
  go_wp2_with fail
  refine CP.out.mono ?_; rintro e w6 ⟨rfl, G', A', T', lo'⟩
  have E : Hid (Has w0 w6 b G0 (tk q k)) := ⟨G', _, A', fun i hi => (lo' i hi).elim (LO.out i) fun e => .inr (Nat.le_trans TT.out.size e), TT.out.trans T' LO.out⟩
  clear A' T' lo' CP
  go_wp2_with fail
  go_ret
  exact ⟨rfl, E.out⟩
theorem Tick_arg (n : Int) (hn : ¬ (1 ≤ n ∧ n ≤ 15)) (h : Has w0 w b G0 q) :
    Calls Tryd.prog 7 #[.pointer (some ⟨b, 0, none⟩), .int .i64 n] w fun e w' => e = .returned (.int .i64 2) ∧ Has w0 w' b G0 q := by
  have H := Lib.hid h
  have L : Hid (∀ W, Calls Tryd.prog 17 #[.int .i64 n] W fun e w' => e = .returned (.bool false) ∧ w' = W) := fun W => by have := isLevel_at n W; rw [decide_eq_false hn] at this; exact this
  clear h hn
  go_enter Tryd.func7, Tryd.ntmps7
  go_wp2_with fail
  refine (H.out.left fun G K A _ => Put_none A).mono ?_; rintro e w1 ⟨rfl, H1⟩
  have H1 := Lib.hid H1
  clear H
  go_wp2_with fail
  refine (L.out _).mono ?_; rintro e w2 ⟨rfl, rfl⟩
  go_wp2_with fail
  go_ret
  exact ⟨rfl, H1.out⟩
theorem Tick_state (k : Nat) (h1 : 1 ≤ k) (h2 : k ≤ 15) (h : Has w0 w b G0 q) (hl : (look q.ms (nm k)).isSome = true) :
    Calls Tryd.prog 7 #[.pointer (some ⟨b, 0, none⟩), .int .i64 k] w fun e w' => e = .returned (.int .i64 9) ∧ Has w0 w' b G0 q := by
  have H := Lib.hid h
  have HL := Lib.hid hl
  have i1 : (1 : Int) ≤ k := by omega
  have i2 : (k : Int) ≤ 15 := by omega
  have L : Hid (∀ W, Calls Tryd.prog 17 #[.int .i64 k] W fun e w' => e = .returned (.bool true) ∧ w' = W) := fun W => by have := isLevel_at k W; rw [decide_eq_true (⟨i1, i2⟩ : 1 ≤ (k : Int) ∧ (k : Int) ≤ 15)] at this; exact this
  clear h hl
  go_enter Tryd.func7, Tryd.ntmps7
  go_wp2_with fail
  refine (H.out.left fun G K A _ => Put_none A).mono ?_; rintro e w1 ⟨rfl, H1⟩
  have H1 := Lib.hid H1
  clear H
  go_wp2_with fail
  refine (L.out _).mono ?_; rintro e w2 ⟨rfl, rfl⟩
  go_wp2_with fail
  refine (Name_at k _ h1 h2).mono ?_; rintro e w3 ⟨rfl, rfl⟩
  go_wp2_with fail
  obtain ⟨G, K, A⟩ := H1.out.see
  refine (Mark_state (nm k) (nm_size k) A HL.out).mono ?_; rintro e w4 ⟨rfl, rfl⟩
  clear A
  go_wp2_with fail
  go_ret
  exact ⟨rfl, H1.out⟩
theorem Tick_nil (v : Value) (n : Int) (w : World) (h : NoAsm w v) : Calls Tryd.prog 7 #[v, .int .i64 n] w fun e w' => e = .returned (.int .i64 1) ∧ w' = w := by
  have H := Lib.hid h
  clear h
  go_enter Tryd.func7, Tryd.ntmps7
  go_wp2_with fail
  refine (Put_no _ _ _ H.out).mono ?_; rintro e w1 ⟨rfl, rfl⟩
  go_wp2_with fail
  go_ret
  exact ⟨rfl, rfl⟩
/-- Is a level's mark there? -/
theorem unmarked_no (k : Nat) (h1 : 1 ≤ k) (h2 : k ≤ 15) (h : AsmB w b G K q) (hl : look q.ms (nm k) = none) :
    Calls Tryd.prog 25 #[.pointer (some ⟨b, 0, none⟩), .int .i64 k] w fun e w' => e = .returned (.int .i64 0) ∧ w' = w := by
  have H := Lib.hid (At_at (nm k) (nm_size k) h)
  unfold atV atE at H
  rw [hl] at H
  clear h hl
  go_enter Tryd.func25, Tryd.ntmps25
  go_wp2_with fail
  refine (Name_at k _ h1 h2).mono ?_; rintro e w3 ⟨rfl, rfl⟩
  go_wp2_with fail
  refine H.out.mono ?_; rintro e w4 ⟨rfl, rfl⟩
  go_wp2_with fail
  go_ret
  exact ⟨rfl, rfl⟩
theorem unmarked_yes (k : Nat) (h1 : 1 ≤ k) (h2 : k ≤ 15) (h : AsmB w b G K q) (hl : (look q.ms (nm k)).isSome = true) :
    Calls Tryd.prog 25 #[.pointer (some ⟨b, 0, none⟩), .int .i64 k] w fun e w' => e = .returned (.int .i64 9) ∧ w' = w := by
  obtain ⟨t, ht⟩ := Option.isSome_iff_exists.1 hl
  have H := Lib.hid (At_at (nm k) (nm_size k) h)
  unfold atV atE at H
  rw [ht] at H
  clear h hl ht
  go_enter Tryd.func25, Tryd.ntmps25
  go_wp2_with fail
  refine (Name_at k _ h1 h2).mono ?_; rintro e w3 ⟨rfl, rfl⟩
  go_wp2_with fail
  refine H.out.mono ?_; rintro e w4 ⟨rfl, rfl⟩
  go_wp2_with fail
  go_ret
  exact ⟨rfl, rfl⟩
end
end Go.Proofs.YtgbodbejcffclaaDoor.A7
