/- The head of layer 7's statements: lists whose words the document fixes. -/
import Derived.Test.YtoecanjhkbeemaaDoorAsmTri
import Derived.Deep.DeepCutAuto
namespace Go.Proofs.YtoecanjhkbeemaaDoor.A7
open Go.RowKit Go.Maps
set_option linter.unusedVariables false
def qa0 : AS := AS.nil.const 1 5
def qa1 : AS := qa0.const 1 4294967295
def qa2 : AS := qa1.const 1 305419896
def qa3 : AS := qa2.const 1 32768
def qb0 : AS := AS.nil.jump 17 0 ⟨#[120]⟩
def qb1 : AS := qb0.adds (fun _ => XI.word ⟨32, 0, 0, 0, false, 0⟩) 1
def qb2 : AS := qb1.mark ⟨#[120]⟩
def qc0 : AS := AS.nil.jump 18 0 ⟨#[121]⟩
theorem n_a0 : AS.nil.n + 2 ≤ 100000 := of_decide_eq_true (by kernel_rfl)
theorem n_a1 : qa0.n + 2 ≤ 100000 := of_decide_eq_true (by kernel_rfl)
theorem n_a2 : qa1.n + 2 ≤ 100000 := of_decide_eq_true (by kernel_rfl)
theorem n_a3 : qa2.n + 2 ≤ 100000 := of_decide_eq_true (by kernel_rfl)
theorem n_b0 : AS.nil.n + 1 ≤ 100000 := of_decide_eq_true (by kernel_rfl)
theorem n_b1 : qb0.n + 1 ≤ 100000 := of_decide_eq_true (by kernel_rfl)
theorem x_sz : (⟨#[120]⟩ : ByteArray).size ≤ maxLen := of_decide_eq_true (by kernel_rfl)
theorem y_sz : (⟨#[121]⟩ : ByteArray).size ≤ maxLen := of_decide_eq_true (by kernel_rfl)
theorem m_b1 : look qb1.ms ⟨#[120]⟩ = none := by kernel_rfl
theorem l_b1 : qb1.ms.length < 100000 := of_decide_eq_true (by kernel_rfl)
theorem m_b2 : (look qb2.ms ⟨#[120]⟩).isSome = true := by kernel_rfl
theorem w_a : (qa3.words.map fun f => (List.range 5).map f) = some [69238789, 69271551, 1008879242, 471959160, 1008730128] := by kernel_rfl
theorem w_b : (qb2.words.map fun f => (List.range 2).map f) = some [1140850690, 2147483648] := by kernel_rfl
theorem w_c : qc0.words.isNone = true := by kernel_rfl
theorem na : qa3.n = 5 := by kernel_rfl
theorem nb : qb2.n = 2 := by kernel_rfl
theorem nc : qc0.n = 1 := by kernel_rfl
theorem at_b : atV qb2 ⟨#[120]⟩ = 2 ∧ atE qb2 ⟨#[120]⟩ = 0 := ⟨by kernel_rfl, by kernel_rfl⟩
theorem ret_may : I2.may 32 0 0 0 false 0 = true := by kernel_rfl
section
variable {w0 w w' : World} {a b c : Nat} {qa qb qc q' : AS}
/-- A list's words, as the head reads them. -/
theorem words_a (h : Tri w0 w a b c qa3 qb qc) : Calls Tryd.prog 12 #[.pointer (some ⟨a, 0, none⟩)] w fun e w' => ∃ v, e = .returned (.tuple #[v, .int .i64 0]) ∧ Sl .u32 w' v 5 (fun i => [69238789, 69271551, 1008879242, 471959160, 1008730128].getD i 0) ∧ Tri w0 w' a b c qa3 qb qc := by
  obtain ⟨G, K, A⟩ := h.see
  refine (Words_any A).mono ?_
  rintro e w' (⟨f, v, hf, rfl, own, g⟩ | ⟨hf, _⟩)
  · have e1 := w_a
    rw [hf] at e1
    rw [na] at own
    exact ⟨v, rfl, (own_sl own).congr (range_eq (by simpa using e1)), h.more g⟩
  · have e1 := w_a; rw [hf] at e1; cases e1
theorem words_b (h : Tri w0 w b c a qb2 qc qa) : Calls Tryd.prog 12 #[.pointer (some ⟨b, 0, none⟩)] w fun e w' => ∃ v, e = .returned (.tuple #[v, .int .i64 0]) ∧ Sl .u32 w' v 2 (fun i => [1140850690, 2147483648].getD i 0) ∧ Tri w0 w' b c a qb2 qc qa ∧ Below w.heap.size w w' := by
  obtain ⟨G, K, A⟩ := h.see
  refine (Words_any A).mono ?_
  rintro e w' (⟨f, v, hf, rfl, own, g⟩ | ⟨hf, _⟩)
  · have e1 := w_b
    rw [hf] at e1
    rw [nb] at own
    exact ⟨v, rfl, (own_sl own).congr (range_eq (by simpa using e1)), h.more g, g⟩
  · have e1 := w_b; rw [hf] at e1; cases e1
theorem words_c (h : Tri w0 w c a b qc0 qa qb) : Calls Tryd.prog 12 #[.pointer (some ⟨c, 0, none⟩)] w fun e w' => e = .returned (.tuple #[.slice none 0 0, .int .i64 7]) ∧ Tri w0 w' c a b qc0 qa qb ∧ Below w.heap.size w w' := by
  obtain ⟨G, K, A⟩ := h.see
  refine (Words_any A).mono ?_
  rintro e w' (⟨f, v, hf, _⟩ | ⟨hf, rfl, g⟩)
  · have e1 := w_c; rw [hf] at e1; cases e1
  · exact ⟨rfl, h.more g, g⟩
end
set_option maxHeartbeats 4000000 in
set_option maxRecDepth 20000 in
theorem head_at (w : World) (hT : I2.Tab w) : Calls Tryd.prog 6 #[] w fun e w' => e = .returned (.bool true) ∧ Below w.heap.size w w' := by
  have HT := Lib.hid hT
  clear hT
  go_enter Tryd.func6, Tryd.ntmps6
  go_wp2_with fail
  refine (New_at (K := fun _ => False) w HT.out (fun _ e => e.elim)).mono ?_; rintro e w1 ⟨a, Ga, rfl, A1, g1, low1⟩
  have A1 := Lib.hid A1
  have G1 := Lib.hid g1
  have L1 := Lib.hid low1
  clear g1 low1
  go_wp2_with fail
  refine (New_at w1 (tab_bel HT.out G1.out) A1.out.klt).mono ?_; rintro e w2 ⟨b, Gb, rfl, B2, g2, low2⟩
  have B2 := Lib.hid B2
  have A2 := Lib.hid (A1.out.besideNew g2 low2 B2.out.lt)
  have G2 := Lib.hid g2
  have L2 := Lib.hid low2
  clear g2 low2
  go_wp2_with fail
  refine (New_at w2 (tab_bel HT.out (bel_trans G1.out G2.out)) B2.out.klt).mono ?_; rintro e w3 ⟨c, Gc, rfl, C3, g3, low3⟩
  have T3 : Hid (Tri w w3 a b c AS.nil AS.nil AS.nil) := by
    have s1 := G1.out.size
    have s2 := G2.out.size
    have s3 := g3.size
    refine ⟨Ga, Gb, Gc, _, A2.out.besideNew g3 low3 C3.lt, B2.out.besideNew g3 low3 C3.lt, C3, fun i ha hb => ?_, fun i ha hc => ?_, fun i hb hc => ?_, ?_, bel_trans (bel_trans G1.out G2.out) g3⟩
    · have := A1.out.lt i ha; have := L2.out i hb; omega
    · have := A2.out.lt i ha; have := low3 i hc; omega
    · have := B2.out.lt i hb; have := low3 i hc; omega
    · rintro i (h | h | h)
      · exact L1.out i h
      · exact Nat.le_trans s1 (L2.out i h)
      · exact Nat.le_trans (Nat.le_trans s1 s2) (low3 i h)
  clear A1 B2 A2 C3 g3 low3 G1 G2 L1 L2
  go_wp2_with fail
  refine ((T3.out).left (fun G K A => Const_yes (q := AS.nil) 1 5 A ⟨by decide, by decide⟩ ⟨by decide, by decide⟩ n_a0)).mono ?_; rintro e w4 ⟨rfl, T⟩
  have T4 := Lib.hid (T)
  clear T T3
  go_wp2_with fail
  refine ((T4.out).left (fun G K A => Const_yes (q := qa0) 1 4294967295 A ⟨by decide, by decide⟩ ⟨by decide, by decide⟩ n_a1)).mono ?_; rintro e w5 ⟨rfl, T⟩
  have T5 := Lib.hid (T)
  clear T T4
  go_wp2_with fail
  refine ((T5.out).left (fun G K A => Const_yes (q := qa1) 1 305419896 A ⟨by decide, by decide⟩ ⟨by decide, by decide⟩ n_a2)).mono ?_; rintro e w6 ⟨rfl, T⟩
  have T6 := Lib.hid (T)
  clear T T5
  go_wp2_with fail
  refine ((T6.out).left (fun G K A => Const_yes (q := qa2) 1 32768 A ⟨by decide, by decide⟩ ⟨by decide, by decide⟩ n_a3)).mono ?_; rintro e w7 ⟨rfl, T⟩
  have T7 := Lib.hid (T)
  clear T T6
  change Hid (Tri w w7 a b c qa3 AS.nil AS.nil) at T7
  go_wp2_with fail
  refine ((T7.out.rot).left (fun G K A => Jump_yes (q := AS.nil) 0 ⟨#[120]⟩ A ⟨by decide, by decide⟩ x_sz n_b0)).mono ?_; rintro e w8 ⟨rfl, T⟩
  have T8 := Lib.hid (T)
  clear T T7
  change Hid (Tri w w8 b c a qb0 AS.nil qa3) at T8
  have gx : Below w8.heap.size w8 (w8.alloc (.cells (XI.row ⟨32, 0, 0, 0, false, 0⟩).toArray 49)) := (Below.refl _ _).alloc (Nat.le_refl _) _
  have GX := Lib.hid gx
  have II := Lib.hid (one_ins ⟨32, 0, 0, 0, false, 0⟩ w8)
  have LT := Lib.hid T8.out
  clear gx
  go_wp2_with fail
  refine (LT.out.left2 GX.out (fun G K A low => Put_yes (q := qb0) (k := 1) (X := fun _ => ⟨32, 0, 0, 0, false, 0⟩) A (II.out.mono low) (fun _ _ => ⟨by decide, by decide, by decide, by decide, by decide⟩) n_b1 (fun _ _ => ret_may))).mono ?_; rintro e w9 ⟨rfl, T⟩
  have T9 : Hid (Tri w w9 b c a qb1 AS.nil qa3) := T
  clear T T8 GX II LT
  go_wp2_with fail
  refine ((T9.out).left (fun G K A => Mark_yes (q := qb1) ⟨#[120]⟩ x_sz A l_b1 m_b1)).mono ?_; rintro e w10 ⟨rfl, T⟩
  have T10 := Lib.hid (T)
  clear T T9
  change Hid (Tri w w10 b c a qb2 AS.nil qa3) at T10
  go_wp2_with fail
  obtain ⟨G, K, A⟩ := T10.out.see
  refine (Mark_state ⟨#[120]⟩ x_sz A m_b2).mono ?_; rintro e w11 ⟨rfl, rfl⟩
  clear A
  go_wp2_with fail
  refine (T10.out.rot.left (fun G K A => Call_yes (q := AS.nil) ⟨#[121]⟩ A y_sz n_b0)).mono ?_; rintro e w12 ⟨rfl, T⟩
  have T12 : Hid (Tri w w12 c a b qc0 qa3 qb2) := T
  clear T T10
  go_wp2_with fail
  refine (words_a T12.out.rot).mono ?_; rintro e w13 ⟨l, rfl, SL, T⟩
  have SL := Lib.hid SL
  have T13 := Lib.hid T
  clear T T12
  go_wp2_with fail
  refine (words_b T13.out.rot).mono ?_; rintro e w14 ⟨m, rfl, SM, T, g⟩
  have SL := Lib.hid (SL.out.bel g)
  have SM := Lib.hid SM
  have T14 := Lib.hid T
  clear T T13 g
  go_wp2_with fail
  refine (words_c T14.out.rot).mono ?_; rintro e w15 ⟨rfl, T, g⟩
  have SL := Lib.hid (SL.out.bel g)
  have SM := Lib.hid (SM.out.bel g)
  have T15 := Lib.hid T
  clear T T14 g
  go_wp2_with fail
  obtain ⟨Gz, Kz, A⟩ := T15.out.rot.rot.see
  refine (At_at ⟨#[120]⟩ x_sz A).mono ?_; rintro e w16 ⟨rfl, rfl⟩
  rw [at_b.1, at_b.2]
  clear A
  obtain ⟨pl, cl, rfl, _⟩ := SL.out
  obtain ⟨pm, cm, rfl, _⟩ := SM.out
  have gl : Below w16.heap.size w16 (w16.alloc (.cells ([69238789, 69271551, 1008879242, 471959160, 1008730128].map (Value.int .u32)).toArray 34)) := (Below.refl _ _).alloc (Nat.le_refl _) _
  have SS := Lib.hid (Same_yes _ _ 5 _ _ _ (by decide) (SL.out.bel gl) (lit_sl _ 5 rfl w16) (fun _ _ => rfl))
  have GL := Lib.hid gl
  clear gl
  go_wp2_with fail
  refine SS.out.mono ?_; rintro e w17 ⟨rfl, g⟩
  have GL2 := Lib.hid (bel_trans GL.out g)
  have SM := Lib.hid (SM.out.bel GL2.out)
  have gl : Below w17.heap.size w17 (w17.alloc (.cells ([1140850690, 2147483648].map (Value.int .u32)).toArray 34)) := (Below.refl _ _).alloc (Nat.le_refl _) _
  have SS2 := Lib.hid (Same_yes _ _ 2 _ _ _ (by decide) (SM.out.bel gl) (lit_sl _ 2 rfl w17) (fun _ _ => rfl))
  have GL3 := Lib.hid (bel_trans GL2.out gl)
  clear gl g SS GL
  go_wp2_with fail
  refine SS2.out.mono ?_; rintro e w18 ⟨rfl, g⟩
  have GL4 := Lib.hid (bel_trans GL3.out g)
  have TZ := Lib.hid (T15.out.more GL4.out)
  obtain ⟨Gy, Ky, A⟩ := TZ.out.see
  have HL := Lib.hid (Len_at A)
  rw [nc] at HL
  clear A g SS2 GL2 GL3
  go_wp2_with fail
  refine HL.out.mono ?_; rintro e w19 ⟨rfl, rfl⟩
  go_wp2_with fail
  go_ret
  exact ⟨rfl, TZ.out.bel⟩
end Go.Proofs.YtoecanjhkbeemaaDoor.A7
