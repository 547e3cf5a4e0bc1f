/- The instructions of the handlers of interrupts (layer 9), as the document has them. Package tick as it has landed: Name, the handlers. Package tick as it has landed: Tick and All. Package tick as it has landed: each, All. -/
import Derived.Test.YtmpagjijjahohaaGreatDoorAsmG
namespace Go.Proofs.YtmpagjijjahohaaGreatDoor.T9
open Go.RowKit
set_option linter.unusedVariables false
/-! The four instructions of a level's handler, the vector's, and the program's. -/
def tLd (k : Int) : A7.XI := ⟨22, 1, 0, 0, true, 4 * k⟩
def tAd : A7.XI := ⟨1, 1, 1, 0, true, 1⟩
def tSt (k : Int) : A7.XI := ⟨23, 1, 0, 0, true, 4 * k⟩
def tRt : A7.XI := ⟨32, 0, 0, 0, false, 0⟩
def tBr : A7.XI := ⟨17, 0, 0, 0, true, 60⟩
def tGo : A7.XI := ⟨1, 8, 8, 0, true, 1⟩
theorem tLd_b {k : Int} (h : 1 ≤ k ∧ k ≤ 15) : A7.XB (tLd k) := ⟨⟨by show (0 : Int) ≤ 22; decide, by show (22 : Int) ≤ 255; decide⟩, ⟨by show (0 : Int) ≤ 1; decide, by show (1 : Int) ≤ 255; decide⟩, ⟨by show (0 : Int) ≤ 0; decide, by show (0 : Int) ≤ 255; decide⟩, ⟨by show (0 : Int) ≤ 0; decide, by show (0 : Int) ≤ 255; decide⟩, by show -2147483648 ≤ 4 * k; omega, by show 4 * k ≤ 2147483647; omega⟩
theorem tSt_b {k : Int} (h : 1 ≤ k ∧ k ≤ 15) : A7.XB (tSt k) := ⟨⟨by show (0 : Int) ≤ 23; decide, by show (23 : Int) ≤ 255; decide⟩, ⟨by show (0 : Int) ≤ 1; decide, by show (1 : Int) ≤ 255; decide⟩, ⟨by show (0 : Int) ≤ 0; decide, by show (0 : Int) ≤ 255; decide⟩, ⟨by show (0 : Int) ≤ 0; decide, by show (0 : Int) ≤ 255; decide⟩, by show -2147483648 ≤ 4 * k; omega, by show 4 * k ≤ 2147483647; omega⟩
theorem tAd_b : A7.XB tAd := ⟨by decide, by decide, by decide, by decide, by decide⟩
theorem tRt_b : A7.XB tRt := ⟨by decide, by decide, by decide, by decide, by decide⟩
theorem tBr_b : A7.XB tBr := ⟨by decide, by decide, by decide, by decide, by decide⟩
theorem tGo_b : A7.XB tGo := ⟨by decide, by decide, by decide, by decide, by decide⟩
theorem tLd_may {k : Int} (h : 1 ≤ k ∧ k ≤ 15) : (tLd k).may = true := by
  rcases (by omega : k = 1 ∨ k = 2 ∨ k = 3 ∨ k = 4 ∨ k = 5 ∨ k = 6 ∨ k = 7 ∨ k = 8 ∨ k = 9 ∨ k = 10 ∨ k = 11 ∨ k = 12 ∨ k = 13 ∨ k = 14 ∨ k = 15) with rfl | rfl | rfl | rfl | rfl | rfl | rfl | rfl | rfl | rfl | rfl | rfl | rfl | rfl | rfl <;> kernel_rfl
theorem tSt_may {k : Int} (h : 1 ≤ k ∧ k ≤ 15) : (tSt k).may = true := by
  rcases (by omega : k = 1 ∨ k = 2 ∨ k = 3 ∨ k = 4 ∨ k = 5 ∨ k = 6 ∨ k = 7 ∨ k = 8 ∨ k = 9 ∨ k = 10 ∨ k = 11 ∨ k = 12 ∨ k = 13 ∨ k = 14 ∨ k = 15) with rfl | rfl | rfl | rfl | rfl | rfl | rfl | rfl | rfl | rfl | rfl | rfl | rfl | rfl | rfl <;> kernel_rfl
theorem tAd_may : tAd.may = true := by kernel_rfl
theorem tRt_may : tRt.may = true := by kernel_rfl
theorem tBr_may : tBr.may = true := by kernel_rfl
theorem tGo_may : tGo.may = true := by kernel_rfl
def tX (k : Int) (j : Nat) : A7.XI := if j = 0 then tLd k else if j = 1 then tAd else if j = 2 then tSt k else tRt
def tW (i : Nat) : Int := (tX ((i / 4 + 1 : Nat) : Int) (i % 4)).word
theorem tX_b {k : Int} (h : 1 ≤ k ∧ k ≤ 15) (j : Nat) : A7.XB (tX k j) := by
  unfold tX
  split; · exact tLd_b h
  split; · exact tAd_b
  split; · exact tSt_b h
  exact tRt_b
theorem tX_may {k : Int} (h : 1 ≤ k ∧ k ≤ 15) (j : Nat) : (tX k j).may = true := by
  unfold tX
  split; · exact tLd_may h
  split; · exact tAd_may
  split; · exact tSt_may h
  exact tRt_may
theorem xw_w {x : A7.XI} (h : A7.XB x) : 0 ≤ x.word ∧ x.word < 4294967296 := I2.eW_bd h.o h.d h.s h.t
end Go.Proofs.YtmpagjijjahohaaGreatDoor.T9
namespace Go.Proofs.YtmpagjijjahohaaGreatDoor.T9
open Go.RowKit
open A7 (AS AsmB XI XB)
set_option linter.unusedVariables false
/-- A level's mark. -/
def nm (k : Nat) : ByteArray := if k < 10 then ⟨#[116, 105, 99, 107, 48 + k.toUInt8]⟩ else ⟨#[116, 105, 99, 107, 49, 38 + k.toUInt8]⟩
/-- Its digits. -/
def sm (k : Nat) : ByteArray := if k < 10 then ⟨#[48 + k.toUInt8]⟩ else ⟨#[49, 38 + k.toUInt8]⟩
theorem nm_size (k : Nat) : (nm k).size ≤ maxLen := by unfold nm; split <;> exact of_decide_eq_true (by kernel_rfl)
theorem ks {k : Nat} (h1 : 1 ≤ k) (h2 : k ≤ 15) : k = 1 ∨ k = 2 ∨ k = 3 ∨ k = 4 ∨ k = 5 ∨ k = 6 ∨ k = 7 ∨ k = 8 ∨ k = 9 ∨ k = 10 ∨ k = 11 ∨ k = 12 ∨ k = 13 ∨ k = 14 ∨ k = 15 := by omega
theorem isLevel_at (n : Int) (w : World) : Calls Tryz.prog 355 #[.int .i64 n] w fun e w' => e = .returned (.bool (decide (1 ≤ n ∧ n ≤ 15))) ∧ w' = w := by
  by_cases h : 1 ≤ n ∧ n ≤ 15
  · have e : decide (1 ≤ n ∧ n ≤ 15) = true := decide_eq_true h
    rw [e]
    obtain ⟨h1, h2⟩ := h
    go_enter Tryz.func355, Tryz.ntmps355
    go_wp2
    go_ret
    exact ⟨rfl, rfl⟩
  · have e : decide (1 ≤ n ∧ n ≤ 15) = false := decide_eq_false h
    rw [e]
    by_cases h1 : 1 ≤ n
    · have h2 : decide (n ≤ 15) = false := decide_eq_false (by omega)
      clear h e
      go_enter Tryz.func355, Tryz.ntmps355
      go_wp2
      go_ret
      exact ⟨by simp, rfl⟩
    · have h2 : n < 1 := by omega
      clear h e h1
      go_enter Tryz.func355, Tryz.ntmps355
      go_wp2
      go_ret
      exact ⟨rfl, rfl⟩
set_option maxRecDepth 100000 in
theorem small_at (k : Nat) (w : World) (h1 : 1 ≤ k) (h2 : k ≤ 15) : Calls Tryz.prog 219 #[.int .i64 k] w fun e w' => e = .returned (.string (sm k)) ∧ w' = w := by
  rcases ks h1 h2 with rfl | rfl | rfl | rfl | rfl | rfl | rfl | rfl | rfl | rfl | rfl | rfl | rfl | rfl | rfl <;>
  (go_enter Tryz.func219, Tryz.ntmps219
   go_wp2
   go_ret
   exact ⟨by kernel_rfl, rfl⟩)
theorem nm_low {k : Nat} (h1 : 1 ≤ k) (h2 : k ≤ 15) : (⟨#[116, 105, 99, 107]⟩ : ByteArray) ++ sm k = nm k := by
  rcases ks h1 h2 with rfl | rfl | rfl | rfl | rfl | rfl | rfl | rfl | rfl | rfl | rfl | rfl | rfl | rfl | rfl <;> kernel_rfl
theorem FormatInt_at (k : Nat) (w : World) (h1 : 1 ≤ k) (h2 : k ≤ 15) : Calls Tryz.prog 163 #[.int .i64 k, .int .i64 10] w fun e w' => e = .returned (.string (sm k)) ∧ w' = w := by
  have i1 : (0 : Int) ≤ k := by omega
  have i2 : (k : Int) < 100 := by omega
  have C := Lib.hid (small_at k w h1 h2)
  go_enter Tryz.func163, Tryz.ntmps163
  go_wp2_with fail
  refine C.out.mono ?_; rintro e w1 ⟨rfl, rfl⟩
  go_wp2_with fail
  go_ret
  exact ⟨rfl, rfl⟩
theorem iItoa_at (k : Nat) (w : World) (h1 : 1 ≤ k) (h2 : k ≤ 15) : Calls Tryz.prog 105 #[.int .i64 k] w fun e w' => e = .returned (.string (sm k)) ∧ w' = w := by
  have C := Lib.hid (FormatInt_at k w h1 h2)
  go_enter Tryz.func105, Tryz.ntmps105
  go_wp2_with fail
  refine C.out.mono ?_; rintro e w1 ⟨rfl, rfl⟩
  go_wp2_with fail
  go_ret
  exact ⟨rfl, rfl⟩
theorem Itoa_at (k : Nat) (w : World) (h1 : 1 ≤ k) (h2 : k ≤ 15) : Calls Tryz.prog 67 #[.int .i64 k] w fun e w' => e = .returned (.string (sm k)) ∧ w' = w := by
  have C := Lib.hid (iItoa_at k w h1 h2)
  go_enter Tryz.func67, Tryz.ntmps67
  go_wp2_with fail
  refine C.out.mono ?_; rintro e w1 ⟨rfl, rfl⟩
  go_wp2_with fail
  go_ret
  exact ⟨rfl, rfl⟩
theorem Name_at (k : Nat) (w : World) (h1 : 1 ≤ k) (h2 : k ≤ 15) : Calls Tryz.prog 283 #[.int .i64 k] w fun e w' => e = .returned (.string (nm k)) ∧ w' = w := by
  have C := Lib.hid (Itoa_at k w h1 h2)
  have L := Lib.hid (isLevel_at k w)
  have e : decide (1 ≤ (k : Int) ∧ (k : Int) ≤ 15) = true := decide_eq_true (by omega)
  rw [e] at L
  have N := Lib.hid (nm_low h1 h2)
  have hs : ¬ 9223372036854775807 < 4 + (sm k).size := by unfold sm; split <;> exact of_decide_eq_true (by kernel_rfl)
  go_enter Tryz.func283, Tryz.ntmps283
  go_wp2_with fail
  refine L.out.mono ?_; rintro e w1 ⟨rfl, rfl⟩
  go_wp2_with fail
  refine C.out.mono ?_; rintro e w1 ⟨rfl, rfl⟩
  go_wp2_with fail
  rw [N.out]
  go_ret
  exact ⟨rfl, rfl⟩
theorem Name_no (n : Int) (w : World) (h : ¬ (1 ≤ n ∧ n ≤ 15)) : Calls Tryz.prog 283 #[.int .i64 n] w fun e w' => e = .returned (.string ⟨#[]⟩) ∧ w' = w := by
  have L := Lib.hid (isLevel_at n w)
  have e : decide (1 ≤ n ∧ n ≤ 15) = false := decide_eq_false h
  rw [e] at L
  clear h e
  go_enter Tryz.func283, Tryz.ntmps283
  go_wp2_with fail
  refine L.out.mono ?_; rintro e w1 ⟨rfl, rfl⟩
  go_wp2_with fail
  go_ret
  exact ⟨rfl, rfl⟩
/-- The rows of a level's handler. -/
def tRows (k : Int) : List Value := (tX k 0).row ++ (tX k 1).row ++ (tX k 2).row ++ (tX k 3).row
theorem handler_at (k : Nat) (w : World) (h1 : 1 ≤ k) (h2 : k ≤ 15) : Calls Tryz.prog 358 #[.int .i64 k] w fun e w' => e = .returned (.slice (some ⟨w.heap.size, 0, none⟩) 4 4) ∧ w' = w.alloc (.cells (tRows k).toArray 106) := by
  have i1 : (1 : Int) ≤ k := by omega
  have i2 : (k : Int) ≤ 15 := by omega
  go_enter Tryz.func358, Tryz.ntmps358
  go_wp2
  go_ret
  exact ⟨rfl, rfl⟩
end Go.Proofs.YtmpagjijjahohaaGreatDoor.T9
namespace Go.Proofs.YtmpagjijjahohaaGreatDoor.A7
open Go.RowKit Go.Maps T9
set_option linter.unusedVariables false
section
variable {w0 w w' : World} {b : Nat} {G G0 K : Nat → Prop} {q q' : AS}
theorem rows_ins {V : World} {x k : Nat} {H : Nat → Prop} (h : V.heap[x]? = some (.cells (tRows k).toArray 106 (0, 0))) (hx : ¬ H x) : Ins V H (.slice (some ⟨x, 0, none⟩) 4 4) 4 (tX k) := by
  refine ⟨_, _, rfl, fun _ => ⟨x, 0, rfl, hx, fun i hi => ?_⟩⟩
  rcases (by omega : i = 0 ∨ i = 1 ∨ i = 2 ∨ i = 3) with rfl | rfl | rfl | rfl <;> exact ⟨row_cell h rfl, row_cell h rfl, row_cell h rfl, row_cell h rfl, row_cell h rfl, row_cell h rfl⟩
/-- What Tick makes of a list. -/
def tk (q : AS) (k : Nat) : AS := (q.mark (nm k)).adds (fun i => (tX k i).word) 4
theorem Tick_yes (k : Nat) (h1 : 1 ≤ k) (h2 : k ≤ 15) (h : Has w0 w b G0 q) (hl : look q.ms (nm k) = none) (hm : q.ms.length < 100000) (hn : q.n + 4 ≤ 100000) :
    Calls Tryz.prog 290 #[.pointer (some ⟨b, 0, none⟩), .int .i64 k] w fun e w' => e = .returned (.int .i64 0) ∧ Has w0 w' b G0 (tk q k) := by
  have H := Lib.hid h
  have HL := Lib.hid hl
  have i1 : (1 : Int) ≤ k := by omega
  have i2 : (k : Int) ≤ 15 := by omega
  have L : Hid (∀ W, Calls Tryz.prog 355 #[.int .i64 k] W fun e w' => e = .returned (.bool true) ∧ w' = W) := fun W => by have := isLevel_at k W; rw [decide_eq_true (⟨i1, i2⟩ : 1 ≤ (k : Int) ∧ (k : Int) ≤ 15)] at this; exact this
  clear h hl
  go_enter Tryz.func290, Tryz.ntmps290
  go_wp2_with fail
  refine (H.out.left fun G K A _ => Put_none A).mono ?_; rintro e w1 ⟨rfl, H1⟩
  have H1 := Lib.hid H1
  clear H
  go_wp2_with fail
  refine (L.out _).mono ?_; rintro e w2 ⟨rfl, rfl⟩
  go_wp2_with fail
  refine (Name_at k _ h1 h2).mono ?_; rintro e w3 ⟨rfl, rfl⟩
  go_wp2_with fail
  refine (H1.out.left fun G K A _ => Mark_yes (nm k) (nm_size k) A hm HL.out).mono ?_; rintro e w4 ⟨rfl, H4⟩
  have H4 := Lib.hid H4
  clear H1
  go_wp2_with fail
  refine (handler_at k _ h1 h2).mono ?_; rintro e w5 ⟨rfl, h5⟩
  have hb : w5.heap[w4.heap.size]? = some (.cells (tRows k).toArray 106 (0, 0)) := by rw [h5]; exact heap_alloc_last _ _
  have g5 : Below w4.heap.size w4 w5 := by rw [h5]; exact (Below.refl _ _).alloc (Nat.le_refl _) _
  have HB := Lib.hid hb
  have H5 : Hid (∃ G K, AsmB w5 b G K (q.mark (nm k)) ∧ (∀ i, G i → G0 i ∨ w0.heap.size ≤ i) ∧ Turns G0 w0 w5 ∧ ¬ G w4.heap.size) := by
    obtain ⟨G, K, A, lo, T⟩ := H4.out
    exact ⟨G, K, A.bel g5, lo, T.trans (G' := fun _ => False) (Turns.of_bel g5) (fun _ e => e.elim), fun e => Nat.lt_irrefl _ (A.lt _ e)⟩
  clear h5 hb g5 H4
  obtain ⟨G, K, A, lo, T, hx⟩ := H5.out
  have CP := Lib.hid (Put_yes (k := 4) (X := tX k) A (rows_ins HB.out hx) (fun i _ => tX_b ⟨i1, i2⟩ i) (by show q.n + 4 ≤ 100000; exact hn) (fun i _ => tX_may ⟨i1, i2⟩ i))
  have LO := Lib.hid lo
  have TT := Lib.hid T
  clear A lo T hx
  go_wp2_with fail
  refine CP.out.mono ?_; rintro e w6 ⟨rfl, G', A', T', lo'⟩
  have E : Hid (Has w0 w6 b G0 (tk q k)) := ⟨G', _, A', fun i hi => (lo' i hi).elim (LO.out i) fun e => .inr (Nat.le_trans TT.out.size e), TT.out.trans T' LO.out⟩
  clear A' T' lo' CP
  go_wp2_with fail
  go_ret
  exact ⟨rfl, E.out⟩
theorem Tick_arg (n : Int) (hn : ¬ (1 ≤ n ∧ n ≤ 15)) (h : Has w0 w b G0 q) :
    Calls Tryz.prog 290 #[.pointer (some ⟨b, 0, none⟩), .int .i64 n] w fun e w' => e = .returned (.int .i64 2) ∧ Has w0 w' b G0 q := by
  have H := Lib.hid h
  have L : Hid (∀ W, Calls Tryz.prog 355 #[.int .i64 n] W fun e w' => e = .returned (.bool false) ∧ w' = W) := fun W => by have := isLevel_at n W; rw [decide_eq_false hn] at this; exact this
  clear h hn
  go_enter Tryz.func290, Tryz.ntmps290
  go_wp2_with fail
  refine (H.out.left fun G K A _ => Put_none A).mono ?_; rintro e w1 ⟨rfl, H1⟩
  have H1 := Lib.hid H1
  clear H
  go_wp2_with fail
  refine (L.out _).mono ?_; rintro e w2 ⟨rfl, rfl⟩
  go_wp2_with fail
  go_ret
  exact ⟨rfl, H1.out⟩
theorem Tick_state (k : Nat) (h1 : 1 ≤ k) (h2 : k ≤ 15) (h : Has w0 w b G0 q) (hl : (look q.ms (nm k)).isSome = true) :
    Calls Tryz.prog 290 #[.pointer (some ⟨b, 0, none⟩), .int .i64 k] w fun e w' => e = .returned (.int .i64 9) ∧ Has w0 w' b G0 q := by
  have H := Lib.hid h
  have HL := Lib.hid hl
  have i1 : (1 : Int) ≤ k := by omega
  have i2 : (k : Int) ≤ 15 := by omega
  have L : Hid (∀ W, Calls Tryz.prog 355 #[.int .i64 k] W fun e w' => e = .returned (.bool true) ∧ w' = W) := fun W => by have := isLevel_at k W; rw [decide_eq_true (⟨i1, i2⟩ : 1 ≤ (k : Int) ∧ (k : Int) ≤ 15)] at this; exact this
  clear h hl
  go_enter Tryz.func290, Tryz.ntmps290
  go_wp2_with fail
  refine (H.out.left fun G K A _ => Put_none A).mono ?_; rintro e w1 ⟨rfl, H1⟩
  have H1 := Lib.hid H1
  clear H
  go_wp2_with fail
  refine (L.out _).mono ?_; rintro e w2 ⟨rfl, rfl⟩
  go_wp2_with fail
  refine (Name_at k _ h1 h2).mono ?_; rintro e w3 ⟨rfl, rfl⟩
  go_wp2_with fail
  obtain ⟨G, K, A⟩ := H1.out.see
  refine (Mark_state (nm k) (nm_size k) A HL.out).mono ?_; rintro e w4 ⟨rfl, rfl⟩
  clear A
  go_wp2_with fail
  go_ret
  exact ⟨rfl, H1.out⟩
theorem Tick_nil (v : Value) (n : Int) (w : World) (h : NoAsm w v) : Calls Tryz.prog 290 #[v, .int .i64 n] w fun e w' => e = .returned (.int .i64 1) ∧ w' = w := by
  have H := Lib.hid h
  clear h
  go_enter Tryz.func290, Tryz.ntmps290
  go_wp2_with fail
  refine (Put_no _ _ _ H.out).mono ?_; rintro e w1 ⟨rfl, rfl⟩
  go_wp2_with fail
  go_ret
  exact ⟨rfl, rfl⟩
/-- Is a level's mark there? -/
theorem unmarked_no (k : Nat) (h1 : 1 ≤ k) (h2 : k ≤ 15) (h : AsmB w b G K q) (hl : look q.ms (nm k) = none) :
    Calls Tryz.prog 288 #[.pointer (some ⟨b, 0, none⟩), .int .i64 k] w fun e w' => e = .returned (.int .i64 0) ∧ w' = w := by
  have H := Lib.hid (At_at (nm k) (nm_size k) h)
  unfold atV atE at H
  rw [hl] at H
  clear h hl
  go_enter Tryz.func288, Tryz.ntmps288
  go_wp2_with fail
  refine (Name_at k _ h1 h2).mono ?_; rintro e w3 ⟨rfl, rfl⟩
  go_wp2_with fail
  refine H.out.mono ?_; rintro e w4 ⟨rfl, rfl⟩
  go_wp2_with fail
  go_ret
  exact ⟨rfl, rfl⟩
theorem unmarked_yes (k : Nat) (h1 : 1 ≤ k) (h2 : k ≤ 15) (h : AsmB w b G K q) (hl : (look q.ms (nm k)).isSome = true) :
    Calls Tryz.prog 288 #[.pointer (some ⟨b, 0, none⟩), .int .i64 k] w fun e w' => e = .returned (.int .i64 9) ∧ w' = w := by
  obtain ⟨t, ht⟩ := Option.isSome_iff_exists.1 hl
  have H := Lib.hid (At_at (nm k) (nm_size k) h)
  unfold atV atE at H
  rw [ht] at H
  clear h hl ht
  go_enter Tryz.func288, Tryz.ntmps288
  go_wp2_with fail
  refine (Name_at k _ h1 h2).mono ?_; rintro e w3 ⟨rfl, rfl⟩
  go_wp2_with fail
  refine H.out.mono ?_; rintro e w4 ⟨rfl, rfl⟩
  go_wp2_with fail
  go_ret
  exact ⟨rfl, rfl⟩
end
end Go.Proofs.YtmpagjijjahohaaGreatDoor.A7
namespace Go.Proofs.YtmpagjijjahohaaGreatDoor.A7
open Go.RowKit Go.Maps T9
set_option linter.unusedVariables false
section
variable {w0 w w' : World} {b : Nat} {G G0 K : Nat → Prop} {q q' : AS}
theorem each_un (bx : Nat) (I : Nat → World → Prop) (w : World) (h0 : I 0 w) (hI : ∀ k W, k < 15 → I k W → Calls Tryz.prog 287 #[.int .i64 ((k + 1 : Nat) : Int), .pointer (some ⟨bx, 0, none⟩)] W fun e W' => e = .returned (.int .i64 0) ∧ I (k + 1) W') :
    Calls Tryz.prog 286 #[.func (.func 287) #[] #[.pointer (some ⟨bx, 0, none⟩)]] w fun e w' => e = .returned (.int .i64 0) ∧ I 15 w' := by
  have H0 := Lib.hid h0
  have HI := Lib.hid hI
  clear h0 hI
  go_enter Tryz.func286, Tryz.ntmps286
  go_wp2_with fail
  go_loopw [5] (fun i wr => ∃ k : Nat, k ≤ 15 ∧ i = .int .i64 k ∧ I k wr) (fun i _ => 15 - (intOf i).toNat)
  case atStart => exact ⟨0, by decide, rfl, H0.out⟩
  case round =>
    obtain ⟨k, hk, rfl, hi⟩ := hrel
    have HK := Lib.hid hi
    clear hi
    by_cases hlt : k < 15
    · have hlt' : (k : Int) < 15 := by omega
      have C := HI.out k wr hlt HK.out
      have e1 : ((k + 1 : Nat) : Int) = (k : Int) + 1 := by omega
      rw [e1] at C
      have C := Lib.hid C
      go_wp2_with fail
      refine C.out.mono ?_; rintro e w1 ⟨rfl, h1⟩
      have H1 := Lib.hid h1
      clear h1
      go_wp2_with fail
      go_roundw
      case rel => exact ⟨k + 1, by omega, by go_num, H1.out⟩
      case measure => simp [intOf]; omega
    · obtain rfl : k = 15 := by omega
      go_wp2_with fail
      go_ret
      exact ⟨rfl, HK.out⟩
theorem each_st (bx N : Nat) (hN : N < 15) (I : Nat → World → Prop) (w : World) (h0 : I 0 w) (hI : ∀ k W, k < N → I k W → Calls Tryz.prog 287 #[.int .i64 ((k + 1 : Nat) : Int), .pointer (some ⟨bx, 0, none⟩)] W fun e W' => e = .returned (.int .i64 0) ∧ I (k + 1) W')
    (hE : ∀ W, I N W → Calls Tryz.prog 287 #[.int .i64 ((N + 1 : Nat) : Int), .pointer (some ⟨bx, 0, none⟩)] W fun e W' => e = .returned (.int .i64 9) ∧ I N W') :
    Calls Tryz.prog 286 #[.func (.func 287) #[] #[.pointer (some ⟨bx, 0, none⟩)]] w fun e w' => e = .returned (.int .i64 9) ∧ I N w' := by
  have H0 := Lib.hid h0
  have HI := Lib.hid hI
  have HE := Lib.hid hE
  clear h0 hI hE
  go_enter Tryz.func286, Tryz.ntmps286
  go_wp2_with fail
  go_loopw [5] (fun i wr => ∃ k : Nat, k ≤ N ∧ i = .int .i64 k ∧ I k wr) (fun i _ => 15 - (intOf i).toNat)
  case atStart => exact ⟨0, Nat.zero_le _, rfl, H0.out⟩
  case round =>
    obtain ⟨k, hk, rfl, hi⟩ := hrel
    have HK := Lib.hid hi
    clear hi
    have hlt' : (k : Int) < 15 := by omega
    have e1 : ((k + 1 : Nat) : Int) = (k : Int) + 1 := by omega
    by_cases hlt : k < N
    · have C := HI.out k wr hlt HK.out
      rw [e1] at C
      have C := Lib.hid C
      clear e1
      go_wp2_with fail
      refine C.out.mono ?_; rintro e w1 ⟨rfl, h1⟩
      have H1 := Lib.hid h1
      clear h1
      go_wp2_with fail
      go_roundw
      case rel => exact ⟨k + 1, by omega, by go_num, H1.out⟩
      case measure => simp [intOf]; omega
    · obtain rfl : k = N := by omega
      have C := HE.out wr HK.out
      rw [e1] at C
      have C := Lib.hid C
      clear e1
      go_wp2_with fail
      refine C.out.mono ?_; rintro e w1 ⟨rfl, h1⟩
      have H1 := Lib.hid h1
      clear h1
      go_wp2_with fail
      go_ret
      exact ⟨rfl, H1.out⟩
theorem each_ni (bx N : Nat) (hN : N < 15) (I : Nat → World → Prop) (w : World) (h0 : I 0 w) (hI : ∀ k W, k < N → I k W → Calls Tryz.prog 287 #[.int .i64 ((k + 1 : Nat) : Int), .pointer (some ⟨bx, 0, none⟩)] W fun e W' => e = .returned (.int .i64 0) ∧ I (k + 1) W')
    (hE : ∀ W, I N W → Calls Tryz.prog 287 #[.int .i64 ((N + 1 : Nat) : Int), .pointer (some ⟨bx, 0, none⟩)] W fun e W' => e = .returned (.int .i64 1) ∧ I N W') :
    Calls Tryz.prog 286 #[.func (.func 287) #[] #[.pointer (some ⟨bx, 0, none⟩)]] w fun e w' => e = .returned (.int .i64 1) ∧ I N w' := by
  have H0 := Lib.hid h0
  have HI := Lib.hid hI
  have HE := Lib.hid hE
  clear h0 hI hE
  go_enter Tryz.func286, Tryz.ntmps286
  go_wp2_with fail
  go_loopw [5] (fun i wr => ∃ k : Nat, k ≤ N ∧ i = .int .i64 k ∧ I k wr) (fun i _ => 15 - (intOf i).toNat)
  case atStart => exact ⟨0, Nat.zero_le _, rfl, H0.out⟩
  case round =>
    obtain ⟨k, hk, rfl, hi⟩ := hrel
    have HK := Lib.hid hi
    clear hi
    have hlt' : (k : Int) < 15 := by omega
    have e1 : ((k + 1 : Nat) : Int) = (k : Int) + 1 := by omega
    by_cases hlt : k < N
    · have C := HI.out k wr hlt HK.out
      rw [e1] at C
      have C := Lib.hid C
      clear e1
      go_wp2_with fail
      refine C.out.mono ?_; rintro e w1 ⟨rfl, h1⟩
      have H1 := Lib.hid h1
      clear h1
      go_wp2_with fail
      go_roundw
      case rel => exact ⟨k + 1, by omega, by go_num, H1.out⟩
      case measure => simp [intOf]; omega
    · obtain rfl : k = N := by omega
      have C := HE.out wr HK.out
      rw [e1] at C
      have C := Lib.hid C
      clear e1
      go_wp2_with fail
      refine C.out.mono ?_; rintro e w1 ⟨rfl, h1⟩
      have H1 := Lib.hid h1
      clear h1
      go_wp2_with fail
      go_ret
      exact ⟨rfl, H1.out⟩
theorem each_tk (bx : Nat) (I : Nat → World → Prop) (w : World) (h0 : I 0 w) (hI : ∀ k W, k < 15 → I k W → Calls Tryz.prog 289 #[.int .i64 ((k + 1 : Nat) : Int), .pointer (some ⟨bx, 0, none⟩)] W fun e W' => e = .returned (.int .i64 0) ∧ I (k + 1) W') :
    Calls Tryz.prog 286 #[.func (.func 289) #[] #[.pointer (some ⟨bx, 0, none⟩)]] w fun e w' => e = .returned (.int .i64 0) ∧ I 15 w' := by
  have H0 := Lib.hid h0
  have HI := Lib.hid hI
  clear h0 hI
  go_enter Tryz.func286, Tryz.ntmps286
  go_wp2_with fail
  go_loopw [5] (fun i wr => ∃ k : Nat, k ≤ 15 ∧ i = .int .i64 k ∧ I k wr) (fun i _ => 15 - (intOf i).toNat)
  case atStart => exact ⟨0, by decide, rfl, H0.out⟩
  case round =>
    obtain ⟨k, hk, rfl, hi⟩ := hrel
    have HK := Lib.hid hi
    clear hi
    by_cases hlt : k < 15
    · have hlt' : (k : Int) < 15 := by omega
      have C := HI.out k wr hlt HK.out
      have e1 : ((k + 1 : Nat) : Int) = (k : Int) + 1 := by omega
      rw [e1] at C
      have C := Lib.hid C
      go_wp2_with fail
      refine C.out.mono ?_; rintro e w1 ⟨rfl, h1⟩
      have H1 := Lib.hid h1
      clear h1
      go_wp2_with fail
      go_roundw
      case rel => exact ⟨k + 1, by omega, by go_num, H1.out⟩
      case measure => simp [intOf]; omega
    · obtain rfl : k = 15 := by omega
      go_wp2_with fail
      go_ret
      exact ⟨rfl, HK.out⟩
/-- The closures, with the list's box. -/
theorem un_no {bx : Nat} {v : Value} (k : Nat) (h1 : 1 ≤ k) (h2 : k ≤ 15) (hb : w.cell? ⟨bx, 0, none⟩ = some (.pointer (some ⟨b, 0, none⟩))) (h : AsmB w b G K q) (hl : look q.ms (nm k) = none) :
    Calls Tryz.prog 287 #[.int .i64 k, .pointer (some ⟨bx, 0, none⟩)] w fun e w' => e = .returned (.int .i64 0) ∧ w' = w := by
  have C := Lib.hid (unmarked_no k h1 h2 h hl)
  clear h hl
  go_enter Tryz.func287, Tryz.ntmps287
  go_wp2_with fail
  refine C.out.mono ?_; rintro e w1 ⟨rfl, rfl⟩
  go_wp2_with fail
  go_ret
  exact ⟨rfl, rfl⟩
theorem un_yes {bx : Nat} (k : Nat) (h1 : 1 ≤ k) (h2 : k ≤ 15) (hb : w.cell? ⟨bx, 0, none⟩ = some (.pointer (some ⟨b, 0, none⟩))) (h : AsmB w b G K q) (hl : (look q.ms (nm k)).isSome = true) :
    Calls Tryz.prog 287 #[.int .i64 k, .pointer (some ⟨bx, 0, none⟩)] w fun e w' => e = .returned (.int .i64 9) ∧ w' = w := by
  have C := Lib.hid (unmarked_yes k h1 h2 h hl)
  clear h hl
  go_enter Tryz.func287, Tryz.ntmps287
  go_wp2_with fail
  refine C.out.mono ?_; rintro e w1 ⟨rfl, rfl⟩
  go_wp2_with fail
  go_ret
  exact ⟨rfl, rfl⟩
theorem un_nil {bx : Nat} (k : Nat) (h1 : 1 ≤ k) (h2 : k ≤ 15) (v : Value) (hb : w.cell? ⟨bx, 0, none⟩ = some v) (h : NoAsm w v) :
    Calls Tryz.prog 287 #[.int .i64 k, .pointer (some ⟨bx, 0, none⟩)] w fun e w' => e = .returned (.int .i64 1) ∧ w' = w := by
  have C : Hid (Calls Tryz.prog 288 #[v, .int .i64 k] w fun e w' => e = .returned (.int .i64 1) ∧ w' = w) := by
    have H := Lib.hid h
    clear hb h
    unfold Hid
    go_enter Tryz.func288, Tryz.ntmps288
    go_wp2_with fail
    refine (Name_at k _ h1 h2).mono ?_; rintro e w3 ⟨rfl, rfl⟩
    go_wp2_with fail
    refine (At_no _ _ _ H.out).mono ?_; rintro e w4 ⟨rfl, rfl⟩
    go_wp2_with fail
    go_ret
    exact ⟨rfl, rfl⟩
  clear h
  go_enter Tryz.func287, Tryz.ntmps287
  go_wp2_with fail
  refine C.out.mono ?_; rintro e w1 ⟨rfl, rfl⟩
  go_wp2_with fail
  go_ret
  exact ⟨rfl, rfl⟩
theorem tk_yes {bx : Nat} (k : Nat) (h1 : 1 ≤ k) (h2 : k ≤ 15) (hb : w.cell? ⟨bx, 0, none⟩ = some (.pointer (some ⟨b, 0, none⟩))) (h : Has w0 w b G0 q) (hl : look q.ms (nm k) = none) (hm : q.ms.length < 100000) (hn : q.n + 4 ≤ 100000) :
    Calls Tryz.prog 289 #[.int .i64 k, .pointer (some ⟨bx, 0, none⟩)] w fun e w' => e = .returned (.int .i64 0) ∧ Has w0 w' b G0 (tk q k) := by
  have C := Lib.hid (Tick_yes k h1 h2 h hl hm hn)
  clear h hl
  go_enter Tryz.func289, Tryz.ntmps289
  go_wp2_with fail
  refine C.out.mono ?_; rintro e w1 ⟨rfl, h1⟩
  have H1 := Lib.hid h1
  clear h1
  go_wp2_with fail
  go_ret
  exact ⟨rfl, H1.out⟩
/-- What All makes of a list without marks. -/
def tks (q : AS) : Nat → AS
  | 0 => q
  | k + 1 => tk (tks q k) (k + 1)
theorem nm_inj {i j : Nat} (hi : 1 ≤ i) (hi' : i ≤ 15) (hj : 1 ≤ j) (hj' : j ≤ 15) (h : nm i = nm j) : i = j := by
  rcases ks hi hi' with rfl | rfl | rfl | rfl | rfl | rfl | rfl | rfl | rfl | rfl | rfl | rfl | rfl | rfl | rfl <;>
  rcases ks hj hj' with rfl | rfl | rfl | rfl | rfl | rfl | rfl | rfl | rfl | rfl | rfl | rfl | rfl | rfl | rfl <;> first | rfl | exact absurd h (by decide)
theorem tk_ms (q : AS) (k : Nat) : (tk q k).ms = q.ms ++ [(nm k, q.n)] := by unfold tk; rw [AS.adds_ms]; rfl
theorem tk_n (q : AS) (k : Nat) : (tk q k).n = q.n + 4 := by unfold tk; rw [AS.adds_n]; rfl
theorem tk_js (q : AS) (k : Nat) : (tk q k).js = q.js := by unfold tk; rw [AS.adds_js]; rfl
theorem tks_n (q : AS) : ∀ k, (tks q k).n = q.n + 4 * k
  | 0 => rfl
  | k + 1 => by show (tk (tks q k) (k + 1)).n = _; rw [tk_n, tks_n q k]; omega
theorem tks_js (q : AS) : ∀ k, (tks q k).js = q.js
  | 0 => rfl
  | k + 1 => by show (tk (tks q k) (k + 1)).js = _; rw [tk_js, tks_js q k]
theorem tks_len (q : AS) : ∀ k, (tks q k).ms.length = q.ms.length + k
  | 0 => rfl
  | k + 1 => by show (tk (tks q k) (k + 1)).ms.length = _; rw [tk_ms, List.length_append, tks_len q k]; rfl
theorem tks_look (q : AS) (hq : ∀ j, 1 ≤ j → j ≤ 15 → look q.ms (nm j) = none) : ∀ k, k ≤ 15 → ∀ j, k < j → j ≤ 15 → look (tks q k).ms (nm j) = none
  | 0, _, j, h1, h2 => hq j h1 h2
  | k + 1, hk, j, h1, h2 => by
    show look (tk (tks q k) (k + 1)).ms (nm j) = none
    rw [tk_ms, look_snoc, if_neg (fun e => by have := nm_inj (by omega) (by omega) (by omega) h2 e; omega)]
    exact tks_look q hq k (by omega) j (by omega) h2
/-- Where a level's mark stands behind All. -/
theorem tks_at (q : AS) : ∀ k, k ≤ 15 → ∀ j, 1 ≤ j → j ≤ k → look (tks q k).ms (nm j) = some (q.n + 4 * (j - 1))
  | 0, _, j, h1, h2 => by omega
  | k + 1, hk, j, h1, h2 => by
    show look (tk (tks q k) (k + 1)).ms (nm j) = _
    rw [tk_ms, look_snoc, tks_n]
    by_cases e : j = k + 1
    · subst e; rw [if_pos rfl]; congr 1
    · rw [if_neg (fun h => e (nm_inj (by omega) (by omega) h1 (by omega) h).symm)]
      exact tks_at q k (by omega) j h1 (by omega)
/-- Which words stand there. -/
theorem tks_ws (q : AS) : ∀ k, ∀ j i, 1 ≤ j → j ≤ k → i < 4 → (tks q k).ws (q.n + 4 * (j - 1) + i) = (tX j i).word
  | 0, j, i, h1, h2, h3 => by omega
  | k + 1, j, i, h1, h2, h3 => by
    have hn := tks_n q k
    show (AS.adds ((tks q k).mark (nm (k + 1))) (fun i => (tX ((k + 1 : Nat) : Int) i).word) 4).ws _ = _
    by_cases e : j = k + 1
    · subst e
      have hb : ∀ (p : AS) (f : Nat → Int) (n i : Nat), i < n → (p.adds f n).ws (p.n + i) = f i := fun p f n => by
        induction n with
        | zero => intro i h; omega
        | succ n ih =>
          intro i h
          show F3.upd (p.adds f n).ws (p.adds f n).n (f n) (p.n + i) = f i
          rw [AS.adds_n]
          by_cases e : i = n
          · subst e; rw [F3.upd_same]
          · rw [F3.upd_ne _ _ (by omega)]; exact ih i (by omega)
      have := hb ((tks q k).mark (nm (k + 1))) (fun i => (tX ((k + 1 : Nat) : Int) i).word) 4 i h3
      have en : ((tks q k).mark (nm (k + 1))).n + i = q.n + 4 * (k + 1 - 1) + i := by show (tks q k).n + i = _; rw [hn]; rfl
      rw [en] at this
      exact this
    · rw [adds_low _ _ _ _ (by show _ < (tks q k).n; rw [hn]; omega)]
      exact tks_ws q k j i h1 (by omega) h3
theorem All_yes (h : Has w0 w b G0 q) (hq : ∀ j, 1 ≤ j → j ≤ 15 → look q.ms (nm j) = none) (hm : q.ms.length ≤ 1000) (hn : q.n ≤ 1000) :
    Calls Tryz.prog 238 #[.pointer (some ⟨b, 0, none⟩)] w fun e w' => e = .returned (.int .i64 0) ∧ Has w0 w' b G0 (tks q 15) := by
  have hb : (w.alloc (.cells #[.pointer (some ⟨b, 0, none⟩)] 185)).heap[w.heap.size]? = some (.cells #[.pointer (some ⟨b, 0, none⟩)] 185 (0, 0)) := heap_alloc_last _ _
  have gb : Below w.heap.size w (w.alloc (.cells #[.pointer (some ⟨b, 0, none⟩)] 185)) := (Below.refl _ _).alloc (Nat.le_refl _) _
  have H1 : Hid (Has w0 (w.alloc (.cells #[.pointer (some ⟨b, 0, none⟩)] 185)) b G0 q ∧ ∃ G K, AsmB (w.alloc (.cells #[.pointer (some ⟨b, 0, none⟩)] 185)) b G K q ∧ ¬ G w.heap.size ∧ (∀ i, G i → G0 i ∨ w0.heap.size ≤ i) ∧ Turns G0 w0 (w.alloc (.cells #[.pointer (some ⟨b, 0, none⟩)] 185))) := by
    refine ⟨h.bel gb, ?_⟩
    obtain ⟨G, K, A, lo, T⟩ := h
    exact ⟨G, K, A.bel gb, fun e => Nat.lt_irrefl _ (A.lt _ e), lo, T.trans (G' := fun _ => False) (Turns.of_bel gb) (fun _ e => e.elim)⟩
  have HB := Lib.hid (row_cell (j := 0) hb rfl)
  have HBK := Lib.hid hb
  have HQ := Lib.hid hq
  clear h hb gb hq
  go_enter Tryz.func238, Tryz.ntmps238
  go_upto_region 1 with (fail)
  change Code.wp _ _ _ _ (w.alloc (.cells #[.pointer (some ⟨b, 0, none⟩)] 185))
  generalize w.alloc (.cells #[.pointer (some ⟨b, 0, none⟩)] 185) = V at H1 HB HBK ⊢
  obtain ⟨HH, G, K, A, hx, lo, T⟩ := H1.out
  have E1 := Lib.hid (each_un w.heap.size (fun _ W => W = V) V rfl (fun k W hk hW => by
    subst hW
    exact (un_no (v := .pointer none) (k + 1) (by omega) (by omega) HB.out A (HQ.out (k + 1) (by omega) (by omega))).mono fun e w' ⟨h1, h2⟩ => ⟨h1, h2⟩))
  have E2 := Lib.hid (each_tk w.heap.size (fun k W => Has V W b G (tks q k)) V (Has.start A) (fun k W hk hW =>
    tk_yes (k + 1) (by omega) (by omega) (hW.turns.cell hx HB.out) hW (tks_look q HQ.out k (by omega) (k + 1) (by omega) (by omega)) (by rw [tks_len]; omega) (by rw [tks_n]; omega)))
  have LO := Lib.hid lo
  have TT := Lib.hid T
  clear A HH lo T
  go_wp2_with fail
  refine E1.out.mono ?_; rintro e w1 ⟨rfl, rfl⟩
  go_wp2_with fail
  refine E2.out.mono ?_; rintro e w2 ⟨rfl, h2⟩
  have F2 : Hid (Has w0 w2 b G0 (tks q 15)) := by
    obtain ⟨G2, K2, A2, lo2, T2⟩ := h2
    exact ⟨G2, K2, A2, fun i hi => (lo2 i hi).elim (LO.out i) fun e => .inr (Nat.le_trans TT.out.size e), TT.out.trans T2 LO.out⟩
  clear h2
  go_wp2_with fail
  go_ret
  exact ⟨rfl, F2.out⟩
theorem All_state (N : Nat) (hN : N < 15) (h : Has w0 w b G0 q) (hq : ∀ j, 1 ≤ j → j ≤ N → look q.ms (nm j) = none) (hl : (look q.ms (nm (N + 1))).isSome = true) :
    Calls Tryz.prog 238 #[.pointer (some ⟨b, 0, none⟩)] w fun e w' => e = .returned (.int .i64 9) ∧ Has w0 w' b G0 q := by
  have hb : (w.alloc (.cells #[.pointer (some ⟨b, 0, none⟩)] 185)).heap[w.heap.size]? = some (.cells #[.pointer (some ⟨b, 0, none⟩)] 185 (0, 0)) := heap_alloc_last _ _
  have gb : Below w.heap.size w (w.alloc (.cells #[.pointer (some ⟨b, 0, none⟩)] 185)) := (Below.refl _ _).alloc (Nat.le_refl _) _
  have H1 := Lib.hid (h.bel gb)
  have HB := Lib.hid (row_cell (j := 0) hb rfl)
  have HQ := Lib.hid hq
  have HL := Lib.hid hl
  clear h hb gb hq hl
  go_enter Tryz.func238, Tryz.ntmps238
  go_upto_region 1 with (fail)
  change Code.wp _ _ _ _ (w.alloc (.cells #[.pointer (some ⟨b, 0, none⟩)] 185))
  generalize w.alloc (.cells #[.pointer (some ⟨b, 0, none⟩)] 185) = V at H1 HB ⊢
  obtain ⟨G, K, A⟩ := H1.out.see
  have E1 := Lib.hid (each_st w.heap.size N hN (fun _ W => W = V) V rfl (fun k W hk hW => by
      subst hW
      exact (un_no (v := .pointer none) (k + 1) (by omega) (by omega) HB.out A (HQ.out (k + 1) (by omega) (by omega))).mono fun e w' ⟨h1, h2⟩ => ⟨h1, h2⟩)
    (fun W hW => by
      subst hW
      exact (un_yes (N + 1) (by omega) (by omega) HB.out A HL.out).mono fun e w' ⟨h1, h2⟩ => ⟨h1, h2⟩))
  clear A
  go_wp2_with fail
  refine E1.out.mono ?_; rintro e w1 ⟨rfl, rfl⟩
  go_wp2_with fail
  go_ret
  exact ⟨rfl, H1.out⟩
theorem All_nil (w : World) :
    Calls Tryz.prog 238 #[.pointer none] w fun e w' => e = .returned (.int .i64 1) ∧ Below w.heap.size w w' := by
  have hb : (w.alloc (.cells #[.pointer none] 185)).heap[w.heap.size]? = some (.cells #[.pointer none] 185 (0, 0)) := heap_alloc_last _ _
  have gb : Hid (Below w.heap.size w (w.alloc (.cells #[.pointer none] 185))) := (Below.refl _ _).alloc (Nat.le_refl _) _
  have HB := Lib.hid (row_cell (j := 0) hb rfl)
  clear hb
  go_enter Tryz.func238, Tryz.ntmps238
  go_upto_region 1 with (fail)
  change Code.wp _ _ _ _ (w.alloc (.cells #[.pointer none] 185))
  generalize w.alloc (.cells #[.pointer none] 185) = V at gb HB ⊢
  have E1 := Lib.hid (each_ni w.heap.size 0 (by decide) (fun _ W => W = V) V rfl (fun k W hk hW => absurd hk (Nat.not_lt_zero _))
    (fun W hW => by
      subst hW
      exact (un_nil 1 (by omega) (by omega) _ HB.out (.inl rfl)).mono fun e w' ⟨h1, h2⟩ => ⟨h1, h2⟩))
  go_wp2_with fail
  refine E1.out.mono ?_; rintro e w1 ⟨rfl, rfl⟩
  go_wp2_with fail
  go_ret
  exact ⟨rfl, gb.out⟩
end
end Go.Proofs.YtmpagjijjahohaaGreatDoor.A7
