/- lex (layer 12): Text, Reg. -/
import Derived.Test.YthhbhfpdabiclaaGreatDoorLexLex
namespace Go.Proofs.YthhbhfpdabiclaaGreatDoor.L12
open Go.RowKit Go.Shelf
set_option linter.unusedVariables false
theorem Reg_no (n : Int) (h : n < 0 ∨ 4095 < n) (h0 : -9223372036854775808 ≤ n) (h1 : n ≤ 9223372036854775807) (w : World) : Calls Tryz.prog 13 #[.int .i64 n] w fun e w' => e = .returned (.string ⟨#[]⟩) ∧ w' = w := by
  rcases h with h | h
  · go_enter Tryz.func13, Tryz.ntmps13
    go_wp2_with fail
    go_ret
    exact ⟨rfl, rfl⟩
  · have hn : ¬ n < 0 := by omega
    go_enter Tryz.func13, Tryz.ntmps13
    go_wp2_with fail
    go_ret
    exact ⟨rfl, rfl⟩
theorem Itoa_at (n : Nat) (h : n ≤ 4095) (w : World) (hT : LT w) : Calls Tryz.prog 29 #[.int .i64 n] w fun e w' => e = .returned (.string (St (Lib.decDigits n))) ∧ Below w.heap.size w w' := by
  refine (Any.strconv_Itoa shItoa n (by omega) (by omega) w hT.pow).mono ?_
  rintro e w' ⟨rfl, k, os, rfl⟩
  refine ⟨?_, ?_⟩
  · have : Lib.itoa (n : Int) = Lib.decDigits n := by unfold Lib.itoa; rw [if_neg (by omega)]; rfl
    rw [this]; rfl
  · exact below_grow _ _ _
theorem dec_len : ∀ (k n : Nat), n < 10 ^ (k + 1) → (Lib.decDigits n).length ≤ k + 1
  | 0, n, h => by rw [Lib.decDigits_one (by omega)]; simp
  | k + 1, n, h => by
    rw [Lib.decDigits]
    split
    · simp
    · have := dec_len k (n / 10) (by have : 10 ^ (k + 1 + 1) = 10 ^ (k + 1) * 10 := Nat.pow_succ _ _; omega)
      simp only [List.length_append, List.length_cons, List.length_nil]
      omega
theorem dec_len4 (n : Nat) (h : n ≤ 4095) : (Lib.decDigits n).length ≤ 4 := dec_len 3 n (by omega)
theorem Reg_yes (n : Nat) (h : n ≤ 4095) (w : World) (hT : LT w) : Calls Tryz.prog 13 #[.int .i64 n] w fun e w' => e = .returned (.string (St (118 :: Lib.decDigits n))) ∧ Below w.heap.size w w' := by
  have I := Lib.hid (Itoa_at n h w hT)
  have hd0 : (Lib.decDigits n).length ≤ 4 := dec_len4 n h
  generalize Lib.decDigits n = d at I hd0
  have hd : (St d).size ≤ 4 := hd0
  have hc : (⟨#[118]⟩ : ByteArray) ++ St d = St (118 :: d) := by
    rw [← St_of ((⟨#[118]⟩ : ByteArray) ++ St d)]
    congr 1
  go_enter Tryz.func13, Tryz.ntmps13
  go_wp2_with (refine I.out.mono ?_; rintro e w2 ⟨rfl, g2⟩)
  go_ret
  exact ⟨rfl, g2⟩
/-- What Text writes. -/
def txtL : List Tok → List UInt8
  | [] => []
  | t :: r => if t.kind = 6 then 10 :: txtL r else t.text ++ (if t.kind = 1 then [58] else []) ++ (match r with | [] => [] | u :: _ => if u.kind = 6 then [] else [32]) ++ txtL r
/-- A slice of tokens. -/
def TokAt (w : World) (p : Option Addr) (l : List Tok) : Prop := ∀ j t, l[j]? = some t → ∃ g, p = some ⟨g, 0, none⟩ ∧ w.cell? ⟨g, j * 5, none⟩ = some (.int .u8 (t.kind : Nat)) ∧ w.cell? ⟨g, j * 5 + 1, none⟩ = some (.string (St t.text)) ∧ w.cell? ⟨g, j * 5 + 2, none⟩ = some (.int .u32 (t.num : Nat)) ∧ w.cell? ⟨g, j * 5 + 3, none⟩ = some (.int .i64 (t.line : Nat)) ∧ w.cell? ⟨g, j * 5 + 4, none⟩ = some (.int .i64 (t.col : Nat))
theorem TokAt.bel {w w' : World} {p : Option Addr} {l : List Tok} (h : TokAt w p l) (k : Below w.heap.size w w') : TokAt w' p l := fun j t hj => by
  obtain ⟨g, a0, a1, a2, a3, a4, a5⟩ := h j t hj
  exact ⟨g, a0, bel_cell k a1, bel_cell k a2, bel_cell k a3, bel_cell k a4, bel_cell k a5⟩
theorem tokRow_get : ∀ (l : List Tok) (j i : Nat) (t : Tok), l[j]? = some t → i < 5 → (tokRow l)[j * 5 + i]? = (tokCells t)[i]?
  | x :: l, 0, i, t, h, hi => by
    have : x = t := by simpa using h
    subst this
    show (tokCells x ++ tokRow l)[0 * 5 + i]? = _
    rw [List.getElem?_append_left (by simp [tokCells]; omega)]
    congr 1; omega
  | x :: l, j + 1, i, t, h, hi => by
    have ih := tokRow_get l j i t (by simpa using h) hi
    show (tokCells x ++ tokRow l)[(j + 1) * 5 + i]? = _
    have hl : (tokCells x).length = 5 := rfl
    rw [List.getElem?_append_right (by omega), hl, ← ih]
    congr 1; omega
theorem TokAt.of {w : World} {base : Nat} {v : Value} {l : List Tok} (h : w.ownsRow base 37 5 v l.length (tokRow l)) : ∃ p c, v = .slice p l.length c ∧ TokAt w p l := by
  obtain ⟨h1, ⟨rfl, h2⟩ | ⟨g, cap, cur, rfl, a1, a2, a3, a4, a5, a6⟩⟩ := h
  · obtain rfl := List.eq_nil_of_length_eq_zero h2
    exact ⟨_, _, rfl, fun j t hj => by simp at hj⟩
  · refine ⟨_, _, rfl, fun j t hj => ⟨g, rfl, ?_⟩⟩
    have hjl : j < l.length := (List.getElem?_eq_some_iff.1 hj).1
    have cell : ∀ i u, i < 5 → (tokCells t)[i]? = some u → w.cell? ⟨g, j * 5 + i, none⟩ = some u := fun i u hi hu => by
      rw [cell_of_row _ _ _ _ _ _ a2, ← hu, ← tokRow_get l j i t hj hi, ← a6, List.getElem?_take_of_lt (by omega)]
      simp
    exact ⟨cell 0 _ (by omega) rfl, cell 1 _ (by omega) rfl, cell 2 _ (by omega) rfl, cell 3 _ (by omega) rfl, cell 4 _ (by omega) rfl⟩
/-- A builder that holds these bytes. -/
def Bu (B b : Nat) (acc : List UInt8) (w : World) : Prop := Lib.IsBuilderF 52 5 B b (Lib.byteCells acc) w
theorem Write_at (B b : Nat) (acc x : List UInt8) (w : World) (h : Bu B b acc w) (hl : acc.length + x.length ≤ 140737488355328) (hB : B ≤ w.heap.size) : Calls Tryz.prog 21 #[.pointer (some ⟨b, 0, none⟩), .string (St x)] w fun e w' => (∃ v, e = .returned v) ∧ Bu B b (acc ++ x) w' ∧ Below B w w' ∧ Lib.OthersKept 5 (some b) w w' := by
  refine (Any.Builder_WriteString_k shWriteString shWriteX B b (Lib.byteCells acc) (St x) w h (by rw [Lib.byteCells_length, St_size]; exact hl) hB).mono ?_
  rintro e w' ⟨rfl, h1, h2, h3⟩
  refine ⟨⟨_, rfl⟩, .inr ?_, h2, h3⟩
  rw [Lib.byteCells_append]
  exact h1
theorem String_at (B b : Nat) (acc : List UInt8) (w : World) (h : Bu B b acc w) (hB : B ≤ w.heap.size) : Calls Tryz.prog 22 #[.pointer (some ⟨b, 0, none⟩)] w fun e w' => e = .returned (.string (St acc)) ∧ Below B w w' := by
  refine (Any.Builder_String_any_k shString shStringX B b acc w h hB).mono ?_
  rintro e w' ⟨rfl, h1, h2, h3⟩
  exact ⟨rfl, h2⟩
end Go.Proofs.YthhbhfpdabiclaaGreatDoor.L12
