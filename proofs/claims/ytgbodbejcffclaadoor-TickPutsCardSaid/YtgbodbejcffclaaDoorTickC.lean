/- Package tick as it has landed: each, All. -/
import Derived.Test.YtgbodbejcffclaaDoorTickB
namespace Go.Proofs.YtgbodbejcffclaaDoor.A7
open Go.RowKit Go.Maps T9
set_option linter.unusedVariables false
section
variable {w0 w w' : World} {b : Nat} {G G0 K : Nat → Prop} {q q' : AS}
theorem each_un (bx : Nat) (I : Nat → World → Prop) (w : World) (h0 : I 0 w) (hI : ∀ k W, k < 15 → I k W → Calls Tryd.prog 24 #[.int .i64 ((k + 1 : Nat) : Int), .pointer (some ⟨bx, 0, none⟩)] W fun e W' => e = .returned (.int .i64 0) ∧ I (k + 1) W') :
    Calls Tryd.prog 23 #[.func (.func 24) #[] #[.pointer (some ⟨bx, 0, none⟩)]] w fun e w' => e = .returned (.int .i64 0) ∧ I 15 w' := by
  have H0 := Lib.hid h0
  have HI := Lib.hid hI
  clear h0 hI
  go_enter Tryd.func23, Tryd.ntmps23
  go_wp2_with fail
  go_loopw [5] (fun i wr => ∃ k : Nat, k ≤ 15 ∧ i = .int .i64 k ∧ I k wr) (fun i _ => 15 - (intOf i).toNat)
  case atStart => exact ⟨0, by decide, rfl, H0.out⟩
  case round =>
    obtain ⟨k, hk, rfl, hi⟩ := hrel
    have HK := Lib.hid hi
    clear hi
    by_cases hlt : k < 15
    · have hlt' : (k : Int) < 15 := by omega
      have C := HI.out k wr hlt HK.out
      have e1 : ((k + 1 : Nat) : Int) = (k : Int) + 1 := by omega
      rw [e1] at C
      have C := Lib.hid C
      go_wp2_with fail
      refine C.out.mono ?_; rintro e w1 ⟨rfl, h1⟩
      have H1 := Lib.hid h1
      clear h1
      go_wp2_with fail
      go_roundw
      case rel => exact ⟨k + 1, by omega, by go_num, H1.out⟩
      case measure => simp [intOf]; omega
    · obtain rfl : k = 15 := by omega
      go_wp2_with fail
      go_ret
      exact ⟨rfl, HK.out⟩
theorem each_st (bx N : Nat) (hN : N < 15) (I : Nat → World → Prop) (w : World) (h0 : I 0 w) (hI : ∀ k W, k < N → I k W → Calls Tryd.prog 24 #[.int .i64 ((k + 1 : Nat) : Int), .pointer (some ⟨bx, 0, none⟩)] W fun e W' => e = .returned (.int .i64 0) ∧ I (k + 1) W')
    (hE : ∀ W, I N W → Calls Tryd.prog 24 #[.int .i64 ((N + 1 : Nat) : Int), .pointer (some ⟨bx, 0, none⟩)] W fun e W' => e = .returned (.int .i64 9) ∧ I N W') :
    Calls Tryd.prog 23 #[.func (.func 24) #[] #[.pointer (some ⟨bx, 0, none⟩)]] w fun e w' => e = .returned (.int .i64 9) ∧ I N w' := by
  have H0 := Lib.hid h0
  have HI := Lib.hid hI
  have HE := Lib.hid hE
  clear h0 hI hE
  go_enter Tryd.func23, Tryd.ntmps23
  go_wp2_with fail
  go_loopw [5] (fun i wr => ∃ k : Nat, k ≤ N ∧ i = .int .i64 k ∧ I k wr) (fun i _ => 15 - (intOf i).toNat)
  case atStart => exact ⟨0, Nat.zero_le _, rfl, H0.out⟩
  case round =>
    obtain ⟨k, hk, rfl, hi⟩ := hrel
    have HK := Lib.hid hi
    clear hi
    have hlt' : (k : Int) < 15 := by omega
    have e1 : ((k + 1 : Nat) : Int) = (k : Int) + 1 := by omega
    by_cases hlt : k < N
    · have C := HI.out k wr hlt HK.out
      rw [e1] at C
      have C := Lib.hid C
      clear e1
      go_wp2_with fail
      refine C.out.mono ?_; rintro e w1 ⟨rfl, h1⟩
      have H1 := Lib.hid h1
      clear h1
      go_wp2_with fail
      go_roundw
      case rel => exact ⟨k + 1, by omega, by go_num, H1.out⟩
      case measure => simp [intOf]; omega
    · obtain rfl : k = N := by omega
      have C := HE.out wr HK.out
      rw [e1] at C
      have C := Lib.hid C
      clear e1
      go_wp2_with fail
      refine C.out.mono ?_; rintro e w1 ⟨rfl, h1⟩
      have H1 := Lib.hid h1
      clear h1
      go_wp2_with fail
      go_ret
      exact ⟨rfl, H1.out⟩
theorem each_ni (bx N : Nat) (hN : N < 15) (I : Nat → World → Prop) (w : World) (h0 : I 0 w) (hI : ∀ k W, k < N → I k W → Calls Tryd.prog 24 #[.int .i64 ((k + 1 : Nat) : Int), .pointer (some ⟨bx, 0, none⟩)] W fun e W' => e = .returned (.int .i64 0) ∧ I (k + 1) W')
    (hE : ∀ W, I N W → Calls Tryd.prog 24 #[.int .i64 ((N + 1 : Nat) : Int), .pointer (some ⟨bx, 0, none⟩)] W fun e W' => e = .returned (.int .i64 1) ∧ I N W') :
    Calls Tryd.prog 23 #[.func (.func 24) #[] #[.pointer (some ⟨bx, 0, none⟩)]] w fun e w' => e = .returned (.int .i64 1) ∧ I N w' := by
  have H0 := Lib.hid h0
  have HI := Lib.hid hI
  have HE := Lib.hid hE
  clear h0 hI hE
  go_enter Tryd.func23, Tryd.ntmps23
  go_wp2_with fail
  go_loopw [5] (fun i wr => ∃ k : Nat, k ≤ N ∧ i = .int .i64 k ∧ I k wr) (fun i _ => 15 - (intOf i).toNat)
  case atStart => exact ⟨0, Nat.zero_le _, rfl, H0.out⟩
  case round =>
    obtain ⟨k, hk, rfl, hi⟩ := hrel
    have HK := Lib.hid hi
    clear hi
    have hlt' : (k : Int) < 15 := by omega
    have e1 : ((k + 1 : Nat) : Int) = (k : Int) + 1 := by omega
    by_cases hlt : k < N
    · have C := HI.out k wr hlt HK.out
      rw [e1] at C
      have C := Lib.hid C
      clear e1
      go_wp2_with fail
      refine C.out.mono ?_; rintro e w1 ⟨rfl, h1⟩
      have H1 := Lib.hid h1
      clear h1
      go_wp2_with fail
      go_roundw
      case rel => exact ⟨k + 1, by omega, by go_num, H1.out⟩
      case measure => simp [intOf]; omega
    · obtain rfl : k = N := by omega
      have C := HE.out wr HK.out
      rw [e1] at C
      have C := Lib.hid C
      clear e1
      go_wp2_with fail
      refine C.out.mono ?_; rintro e w1 ⟨rfl, h1⟩
      have H1 := Lib.hid h1
      clear h1
      go_wp2_with fail
      go_ret
      exact ⟨rfl, H1.out⟩
theorem each_tk (bx : Nat) (I : Nat → World → Prop) (w : World) (h0 : I 0 w) (hI : ∀ k W, k < 15 → I k W → Calls Tryd.prog 26 #[.int .i64 ((k + 1 : Nat) : Int), .pointer (some ⟨bx, 0, none⟩)] W fun e W' => e = .returned (.int .i64 0) ∧ I (k + 1) W') :
    Calls Tryd.prog 23 #[.func (.func 26) #[] #[.pointer (some ⟨bx, 0, none⟩)]] w fun e w' => e = .returned (.int .i64 0) ∧ I 15 w' := by
  have H0 := Lib.hid h0
  have HI := Lib.hid hI
  clear h0 hI
  go_enter Tryd.func23, Tryd.ntmps23
  go_wp2_with fail
  go_loopw [5] (fun i wr => ∃ k : Nat, k ≤ 15 ∧ i = .int .i64 k ∧ I k wr) (fun i _ => 15 - (intOf i).toNat)
  case atStart => exact ⟨0, by decide, rfl, H0.out⟩
  case round =>
    obtain ⟨k, hk, rfl, hi⟩ := hrel
    have HK := Lib.hid hi
    clear hi
    by_cases hlt : k < 15
    · have hlt' : (k : Int) < 15 := by omega
      have C := HI.out k wr hlt HK.out
      have e1 : ((k + 1 : Nat) : Int) = (k : Int) + 1 := by omega
      rw [e1] at C
      have C := Lib.hid C
      go_wp2_with fail
      refine C.out.mono ?_; rintro e w1 ⟨rfl, h1⟩
      have H1 := Lib.hid h1
      clear h1
      go_wp2_with fail
      go_roundw
      case rel => exact ⟨k + 1, by omega, by go_num, H1.out⟩
      case measure => simp [intOf]; omega
    · obtain rfl : k = 15 := by omega
      go_wp2_with fail
      go_ret
      exact ⟨rfl, HK.out⟩
/-- The closures, with the list's box. -/
theorem un_no {bx : Nat} {v : Value} (k : Nat) (h1 : 1 ≤ k) (h2 : k ≤ 15) (hb : w.cell? ⟨bx, 0, none⟩ = some (.pointer (some ⟨b, 0, none⟩))) (h : AsmB w b G K q) (hl : look q.ms (nm k) = none) :
    Calls Tryd.prog 24 #[.int .i64 k, .pointer (some ⟨bx, 0, none⟩)] w fun e w' => e = .returned (.int .i64 0) ∧ w' = w := by
  have C := Lib.hid (unmarked_no k h1 h2 h hl)
  clear h hl
  go_enter Tryd.func24, Tryd.ntmps24
  go_wp2_with fail
  refine C.out.mono ?_; rintro e w1 ⟨rfl, rfl⟩
  go_wp2_with fail
  go_ret
  exact ⟨rfl, rfl⟩
theorem un_yes {bx : Nat} (k : Nat) (h1 : 1 ≤ k) (h2 : k ≤ 15) (hb : w.cell? ⟨bx, 0, none⟩ = some (.pointer (some ⟨b, 0, none⟩))) (h : AsmB w b G K q) (hl : (look q.ms (nm k)).isSome = true) :
    Calls Tryd.prog 24 #[.int .i64 k, .pointer (some ⟨bx, 0, none⟩)] w fun e w' => e = .returned (.int .i64 9) ∧ w' = w := by
  have C := Lib.hid (unmarked_yes k h1 h2 h hl)
  clear h hl
  go_enter Tryd.func24, Tryd.ntmps24
  go_wp2_with fail
  refine C.out.mono ?_; rintro e w1 ⟨rfl, rfl⟩
  go_wp2_with fail
  go_ret
  exact ⟨rfl, rfl⟩
theorem un_nil {bx : Nat} (k : Nat) (h1 : 1 ≤ k) (h2 : k ≤ 15) (v : Value) (hb : w.cell? ⟨bx, 0, none⟩ = some v) (h : NoAsm w v) :
    Calls Tryd.prog 24 #[.int .i64 k, .pointer (some ⟨bx, 0, none⟩)] w fun e w' => e = .returned (.int .i64 1) ∧ w' = w := by
  have C : Hid (Calls Tryd.prog 25 #[v, .int .i64 k] w fun e w' => e = .returned (.int .i64 1) ∧ w' = w) := by
    have H := Lib.hid h
    clear hb h
    unfold Hid
    go_enter Tryd.func25, Tryd.ntmps25
    go_wp2_with fail
    refine (Name_at k _ h1 h2).mono ?_; rintro e w3 ⟨rfl, rfl⟩
    go_wp2_with fail
    refine (At_no _ _ _ H.out).mono ?_; rintro e w4 ⟨rfl, rfl⟩
    go_wp2_with fail
    go_ret
    exact ⟨rfl, rfl⟩
  clear h
  go_enter Tryd.func24, Tryd.ntmps24
  go_wp2_with fail
  refine C.out.mono ?_; rintro e w1 ⟨rfl, rfl⟩
  go_wp2_with fail
  go_ret
  exact ⟨rfl, rfl⟩
theorem tk_yes {bx : Nat} (k : Nat) (h1 : 1 ≤ k) (h2 : k ≤ 15) (hb : w.cell? ⟨bx, 0, none⟩ = some (.pointer (some ⟨b, 0, none⟩))) (h : Has w0 w b G0 q) (hl : look q.ms (nm k) = none) (hm : q.ms.length < 100000) (hn : q.n + 4 ≤ 100000) :
    Calls Tryd.prog 26 #[.int .i64 k, .pointer (some ⟨bx, 0, none⟩)] w fun e w' => e = .returned (.int .i64 0) ∧ Has w0 w' b G0 (tk q k) := by
  have C := Lib.hid (Tick_yes k h1 h2 h hl hm hn)
  clear h hl
  go_enter Tryd.func26, Tryd.ntmps26
  go_wp2_with fail
  refine C.out.mono ?_; rintro e w1 ⟨rfl, h1⟩
  have H1 := Lib.hid h1
  clear h1
  go_wp2_with fail
  go_ret
  exact ⟨rfl, H1.out⟩
/-- What All makes of a list without marks. -/
def tks (q : AS) : Nat → AS
  | 0 => q
  | k + 1 => tk (tks q k) (k + 1)
theorem nm_inj {i j : Nat} (hi : 1 ≤ i) (hi' : i ≤ 15) (hj : 1 ≤ j) (hj' : j ≤ 15) (h : nm i = nm j) : i = j := by
  rcases ks hi hi' with rfl | rfl | rfl | rfl | rfl | rfl | rfl | rfl | rfl | rfl | rfl | rfl | rfl | rfl | rfl <;>
  rcases ks hj hj' with rfl | rfl | rfl | rfl | rfl | rfl | rfl | rfl | rfl | rfl | rfl | rfl | rfl | rfl | rfl <;> first | rfl | exact absurd h (by decide)
theorem tk_ms (q : AS) (k : Nat) : (tk q k).ms = q.ms ++ [(nm k, q.n)] := by unfold tk; rw [AS.adds_ms]; rfl
theorem tk_n (q : AS) (k : Nat) : (tk q k).n = q.n + 4 := by unfold tk; rw [AS.adds_n]; rfl
theorem tk_js (q : AS) (k : Nat) : (tk q k).js = q.js := by unfold tk; rw [AS.adds_js]; rfl
theorem tks_n (q : AS) : ∀ k, (tks q k).n = q.n + 4 * k
  | 0 => rfl
  | k + 1 => by show (tk (tks q k) (k + 1)).n = _; rw [tk_n, tks_n q k]; omega
theorem tks_js (q : AS) : ∀ k, (tks q k).js = q.js
  | 0 => rfl
  | k + 1 => by show (tk (tks q k) (k + 1)).js = _; rw [tk_js, tks_js q k]
theorem tks_len (q : AS) : ∀ k, (tks q k).ms.length = q.ms.length + k
  | 0 => rfl
  | k + 1 => by show (tk (tks q k) (k + 1)).ms.length = _; rw [tk_ms, List.length_append, tks_len q k]; rfl
theorem tks_look (q : AS) (hq : ∀ j, 1 ≤ j → j ≤ 15 → look q.ms (nm j) = none) : ∀ k, k ≤ 15 → ∀ j, k < j → j ≤ 15 → look (tks q k).ms (nm j) = none
  | 0, _, j, h1, h2 => hq j h1 h2
  | k + 1, hk, j, h1, h2 => by
    show look (tk (tks q k) (k + 1)).ms (nm j) = none
    rw [tk_ms, look_snoc, if_neg (fun e => by have := nm_inj (by omega) (by omega) (by omega) h2 e; omega)]
    exact tks_look q hq k (by omega) j (by omega) h2
/-- Where a level's mark stands behind All. -/
theorem tks_at (q : AS) : ∀ k, k ≤ 15 → ∀ j, 1 ≤ j → j ≤ k → look (tks q k).ms (nm j) = some (q.n + 4 * (j - 1))
  | 0, _, j, h1, h2 => by omega
  | k + 1, hk, j, h1, h2 => by
    show look (tk (tks q k) (k + 1)).ms (nm j) = _
    rw [tk_ms, look_snoc, tks_n]
    by_cases e : j = k + 1
    · subst e; rw [if_pos rfl]; congr 1
    · rw [if_neg (fun h => e (nm_inj (by omega) (by omega) h1 (by omega) h).symm)]
      exact tks_at q k (by omega) j h1 (by omega)
/-- Which words stand there. -/
theorem tks_ws (q : AS) : ∀ k, ∀ j i, 1 ≤ j → j ≤ k → i < 4 → (tks q k).ws (q.n + 4 * (j - 1) + i) = (tX j i).word
  | 0, j, i, h1, h2, h3 => by omega
  | k + 1, j, i, h1, h2, h3 => by
    have hn := tks_n q k
    show (AS.adds ((tks q k).mark (nm (k + 1))) (fun i => (tX ((k + 1 : Nat) : Int) i).word) 4).ws _ = _
    by_cases e : j = k + 1
    · subst e
      have hb : ∀ (p : AS) (f : Nat → Int) (n i : Nat), i < n → (p.adds f n).ws (p.n + i) = f i := fun p f n => by
        induction n with
        | zero => intro i h; omega
        | succ n ih =>
          intro i h
          show F3.upd (p.adds f n).ws (p.adds f n).n (f n) (p.n + i) = f i
          rw [AS.adds_n]
          by_cases e : i = n
          · subst e; rw [F3.upd_same]
          · rw [F3.upd_ne _ _ (by omega)]; exact ih i (by omega)
      have := hb ((tks q k).mark (nm (k + 1))) (fun i => (tX ((k + 1 : Nat) : Int) i).word) 4 i h3
      have en : ((tks q k).mark (nm (k + 1))).n + i = q.n + 4 * (k + 1 - 1) + i := by show (tks q k).n + i = _; rw [hn]; rfl
      rw [en] at this
      exact this
    · rw [adds_low _ _ _ _ (by show _ < (tks q k).n; rw [hn]; omega)]
      exact tks_ws q k j i h1 (by omega) h3
theorem All_yes (h : Has w0 w b G0 q) (hq : ∀ j, 1 ≤ j → j ≤ 15 → look q.ms (nm j) = none) (hm : q.ms.length ≤ 1000) (hn : q.n ≤ 1000) :
    Calls Tryd.prog 14 #[.pointer (some ⟨b, 0, none⟩)] w fun e w' => e = .returned (.int .i64 0) ∧ Has w0 w' b G0 (tks q 15) := by
  have hb : (w.alloc (.cells #[.pointer (some ⟨b, 0, none⟩)] 22)).heap[w.heap.size]? = some (.cells #[.pointer (some ⟨b, 0, none⟩)] 22 (0, 0)) := heap_alloc_last _ _
  have gb : Below w.heap.size w (w.alloc (.cells #[.pointer (some ⟨b, 0, none⟩)] 22)) := (Below.refl _ _).alloc (Nat.le_refl _) _
  have H1 : Hid (Has w0 (w.alloc (.cells #[.pointer (some ⟨b, 0, none⟩)] 22)) b G0 q ∧ ∃ G K, AsmB (w.alloc (.cells #[.pointer (some ⟨b, 0, none⟩)] 22)) b G K q ∧ ¬ G w.heap.size ∧ (∀ i, G i → G0 i ∨ w0.heap.size ≤ i) ∧ Turns G0 w0 (w.alloc (.cells #[.pointer (some ⟨b, 0, none⟩)] 22))) := by
    refine ⟨h.bel gb, ?_⟩
    obtain ⟨G, K, A, lo, T⟩ := h
    exact ⟨G, K, A.bel gb, fun e => Nat.lt_irrefl _ (A.lt _ e), lo, T.trans (G' := fun _ => False) (Turns.of_bel gb) (fun _ e => e.elim)⟩
  have HB := Lib.hid (row_cell (j := 0) hb rfl)
  have HBK := Lib.hid hb
  have HQ := Lib.hid hq
  clear h hb gb hq
  go_enter Tryd.func14, Tryd.ntmps14
  go_upto_region 1 with (fail)
  change Code.wp _ _ _ _ (w.alloc (.cells #[.pointer (some ⟨b, 0, none⟩)] 22))
  generalize w.alloc (.cells #[.pointer (some ⟨b, 0, none⟩)] 22) = V at H1 HB HBK ⊢
  obtain ⟨HH, G, K, A, hx, lo, T⟩ := H1.out
  have E1 := Lib.hid (each_un w.heap.size (fun _ W => W = V) V rfl (fun k W hk hW => by
    subst hW
    exact (un_no (v := .pointer none) (k + 1) (by omega) (by omega) HB.out A (HQ.out (k + 1) (by omega) (by omega))).mono fun e w' ⟨h1, h2⟩ => ⟨h1, h2⟩))
  have E2 := Lib.hid (each_tk w.heap.size (fun k W => Has V W b G (tks q k)) V (Has.start A) (fun k W hk hW =>
    tk_yes (k + 1) (by omega) (by omega) (hW.turns.cell hx HB.out) hW (tks_look q HQ.out k (by omega) (k + 1) (by omega) (by omega)) (by rw [tks_len]; omega) (by rw [tks_n]; omega)))
  have LO := Lib.hid lo
  have TT := Lib.hid T
  clear A HH lo T
  go_wp2_with fail
  refine E1.out.mono ?_; rintro e w1 ⟨rfl, rfl⟩
  go_wp2_with fail
  refine E2.out.mono ?_; rintro e w2 ⟨rfl, h2⟩
  have F2 : Hid (Has w0 w2 b G0 (tks q 15)) := by
    obtain ⟨G2, K2, A2, lo2, T2⟩ := h2
    exact ⟨G2, K2, A2, fun i hi => (lo2 i hi).elim (LO.out i) fun e => .inr (Nat.le_trans TT.out.size e), TT.out.trans T2 LO.out⟩
  clear h2
  go_wp2_with fail
  go_ret
  exact ⟨rfl, F2.out⟩
theorem All_state (N : Nat) (hN : N < 15) (h : Has w0 w b G0 q) (hq : ∀ j, 1 ≤ j → j ≤ N → look q.ms (nm j) = none) (hl : (look q.ms (nm (N + 1))).isSome = true) :
    Calls Tryd.prog 14 #[.pointer (some ⟨b, 0, none⟩)] w fun e w' => e = .returned (.int .i64 9) ∧ Has w0 w' b G0 q := by
  have hb : (w.alloc (.cells #[.pointer (some ⟨b, 0, none⟩)] 22)).heap[w.heap.size]? = some (.cells #[.pointer (some ⟨b, 0, none⟩)] 22 (0, 0)) := heap_alloc_last _ _
  have gb : Below w.heap.size w (w.alloc (.cells #[.pointer (some ⟨b, 0, none⟩)] 22)) := (Below.refl _ _).alloc (Nat.le_refl _) _
  have H1 := Lib.hid (h.bel gb)
  have HB := Lib.hid (row_cell (j := 0) hb rfl)
  have HQ := Lib.hid hq
  have HL := Lib.hid hl
  clear h hb gb hq hl
  go_enter Tryd.func14, Tryd.ntmps14
  go_upto_region 1 with (fail)
  change Code.wp _ _ _ _ (w.alloc (.cells #[.pointer (some ⟨b, 0, none⟩)] 22))
  generalize w.alloc (.cells #[.pointer (some ⟨b, 0, none⟩)] 22) = V at H1 HB ⊢
  obtain ⟨G, K, A⟩ := H1.out.see
  have E1 := Lib.hid (each_st w.heap.size N hN (fun _ W => W = V) V rfl (fun k W hk hW => by
      subst hW
      exact (un_no (v := .pointer none) (k + 1) (by omega) (by omega) HB.out A (HQ.out (k + 1) (by omega) (by omega))).mono fun e w' ⟨h1, h2⟩ => ⟨h1, h2⟩)
    (fun W hW => by
      subst hW
      exact (un_yes (N + 1) (by omega) (by omega) HB.out A HL.out).mono fun e w' ⟨h1, h2⟩ => ⟨h1, h2⟩))
  clear A
  go_wp2_with fail
  refine E1.out.mono ?_; rintro e w1 ⟨rfl, rfl⟩
  go_wp2_with fail
  go_ret
  exact ⟨rfl, H1.out⟩
theorem All_nil (w : World) :
    Calls Tryd.prog 14 #[.pointer none] w fun e w' => e = .returned (.int .i64 1) ∧ Below w.heap.size w w' := by
  have hb : (w.alloc (.cells #[.pointer none] 22)).heap[w.heap.size]? = some (.cells #[.pointer none] 22 (0, 0)) := heap_alloc_last _ _
  have gb : Hid (Below w.heap.size w (w.alloc (.cells #[.pointer none] 22))) := (Below.refl _ _).alloc (Nat.le_refl _) _
  have HB := Lib.hid (row_cell (j := 0) hb rfl)
  clear hb
  go_enter Tryd.func14, Tryd.ntmps14
  go_upto_region 1 with (fail)
  change Code.wp _ _ _ _ (w.alloc (.cells #[.pointer none] 22))
  generalize w.alloc (.cells #[.pointer none] 22) = V at gb HB ⊢
  have E1 := Lib.hid (each_ni w.heap.size 0 (by decide) (fun _ W => W = V) V rfl (fun k W hk hW => absurd hk (Nat.not_lt_zero _))
    (fun W hW => by
      subst hW
      exact (un_nil 1 (by omega) (by omega) _ HB.out (.inl rfl)).mono fun e w' ⟨h1, h2⟩ => ⟨h1, h2⟩))
  go_wp2_with fail
  refine E1.out.mono ?_; rintro e w1 ⟨rfl, rfl⟩
  go_wp2_with fail
  go_ret
  exact ⟨rfl, gb.out⟩
end
end Go.Proofs.YtgbodbejcffclaaDoor.A7
