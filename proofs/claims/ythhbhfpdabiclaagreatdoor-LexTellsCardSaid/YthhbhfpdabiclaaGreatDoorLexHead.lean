/- lex (layer 12): the statements' example. -/
import Derived.Test.YthhbhfpdabiclaaGreatDoorLexEval
namespace Go.Proofs.YthhbhfpdabiclaaGreatDoor.L12
open Go.RowKit Go.Shelf
set_option linter.unusedVariables false
theorem Lex_bad (s : List UInt8) (hs : s.length ≤ 65536) (n c : Nat) (hx : (lexS s).2 = some (n, c)) (w : World) (hT : LT w) : Calls Tryz.prog 6 #[.string (St s)] w fun e w' => e = .returned (.tuple #[.slice none 0 0, .agg #[.int .i64 (n : Nat), .int .i64 (c : Nat)], .int .i64 120]) ∧ Below w.heap.size w w' := by
  refine (Lex_at s hs w hT).mono ?_
  rintro e w' ⟨h1, h2⟩
  obtain ⟨t, ht⟩ : ∃ t, lexS s = (t, some (n, c)) := ⟨_, Prod.ext rfl hx⟩
  rw [ht] at h2
  exact ⟨h2, h1⟩
theorem Lex_good (s : List UInt8) (hs : s.length ≤ 65536) (l : List Tok) (k : Nat) (hk : l.length = k) (hx : lexS s = (l, none)) (w : World) (hT : LT w) : Calls Tryz.prog 6 #[.string (St s)] w fun e w' => (∃ p c, e = .returned (.tuple #[.slice p k c, .agg #[.int .i64 0, .int .i64 0], .int .i64 0]) ∧ TokAt w' p l) ∧ Below w.heap.size w w' := by
  subst hk
  refine (Lex_at s hs w hT).mono ?_
  rintro e w' ⟨h1, h2⟩
  rw [hx] at h2
  obtain ⟨v, rfl, hv⟩ := h2
  obtain ⟨p, c, rfl, hp⟩ := TokAt.of hv
  exact ⟨⟨p, c, rfl, hp⟩, h1⟩
set_option maxRecDepth 100000 in
set_option maxHeartbeats 4000000 in
theorem wrong_at (s : List UInt8) (hs : s.length ≤ 65536) (n c : Nat) (hx : (lexS s).2 = some (n, c)) (w : World) (hT : LT w) : Calls Tryz.prog 14 #[.string (St s), .int .i64 (n : Nat), .int .i64 (c : Nat)] w fun e w' => e = .returned (.bool true) ∧ Below w.heap.size w w' := by
  have C := Lib.hid (Lex_bad s hs n c hx w hT)
  clear hT hx
  go_enter Tryz.func14, Tryz.ntmps14
  go_wp2_with (refine C.out.mono ?_; rintro e w1 ⟨rfl, g1⟩)
  go_ret
  exact ⟨rfl, g1.alloc g1.size _⟩
theorem TokAt.lit {w : World} {g : Nat} {l : List Tok} (h : w.heap[g]? = some (.cells (tokRow l).toArray 37 (0, 0))) : TokAt w (some ⟨g, 0, none⟩) l := fun j t hj => by
  have cell : ∀ i u, i < 5 → (tokCells t)[i]? = some u → w.cell? ⟨g, j * 5 + i, none⟩ = some u := fun i u hi hu => by
    rw [cell_of_row _ _ _ _ _ _ h, ← hu, ← tokRow_get l j i t hj hi]
    simp
  exact ⟨g, rfl, cell 0 _ (by omega) rfl, cell 1 _ (by omega) rfl, cell 2 _ (by omega) rfl, cell 3 _ (by omega) rfl, cell 4 _ (by omega) rfl⟩
theorem dec_4095 : Lib.decDigits 4095 = [52, 48, 57, 53] := by
  rw [Lib.decDigits, dif_neg (by decide), Lib.decDigits, dif_neg (by decide), Lib.decDigits, dif_neg (by decide), Lib.decDigits, dif_pos (by decide)]
  decide
theorem reg_top (w : World) (hT : LT w) : Calls Tryz.prog 13 #[.int .i64 4095] w fun e w' => e = .returned (.string ⟨#[118, 52, 48, 57, 53]⟩) ∧ Below w.heap.size w w' := by
  have h := Reg_yes 4095 (by decide) w hT
  rw [dec_4095] at h
  exact h
def lA : List Tok := [⟨0, [97, 100, 100], 0, 1, 1⟩, ⟨2, [118, 49], 1, 1, 5⟩, ⟨2, [118, 48], 0, 1, 8⟩, ⟨2, [118, 49, 50], 12, 1, 11⟩, ⟨6, [], 0, 1, 14⟩]
def lB : List Tok := [⟨1, [115, 116, 97, 114, 116], 0, 1, 1⟩, ⟨6, [], 0, 1, 7⟩, ⟨0, [99, 111, 110, 115, 116], 0, 2, 2⟩, ⟨2, [118, 48], 0, 2, 8⟩, ⟨3, [45, 49], 4294967295, 2, 11⟩, ⟨6, [], 0, 2, 13⟩]
set_option maxRecDepth 100000 in
set_option maxHeartbeats 4000000 in
theorem head_at (w : World) (hT : LT w) : Calls Tryz.prog 5 #[] w fun e w' => e = .returned (.bool true) ∧ Below w.heap.size w w' := by
  have CA := fun W hT => Lib.hid (Lex_good [97, 100, 100, 32, 118, 49, 32, 118, 48, 32, 118, 49, 50] (by decide) lA 5 rfl src_a W hT)
  have CB := fun W hT => Lib.hid (Lex_good [115, 116, 97, 114, 116, 58, 10, 32, 99, 111, 110, 115, 116, 32, 118, 48, 32, 45, 49] (by decide) lB 6 rfl src_b W hT)
  have CC := fun W hT => Lib.hid (Lex_good [35, 32, 97, 108, 108, 32, 111, 102, 32, 105, 116] (by decide) [] 0 rfl src_c W hT)
  have HT := Lib.hid hT
  clear hT
  go_enter Tryz.func5, Tryz.ntmps5
  go_wp2_with fail
  refine (CA _ HT.out).out.mono ?_
  rintro e w1 ⟨⟨pa, ca, rfl, ta⟩, g1⟩
  go_wp2_with fail
  have b1 : Below w.heap.size w (w1.alloc (.cells #[.int .i64 0, .int .i64 0] 25)) := g1.alloc g1.size _
  refine (CB _ (HT.out.bel b1)).out.mono ?_
  rintro e w2 ⟨⟨pb, cb, rfl, tb⟩, g2⟩
  have b2 := b1.trans (g2.mono b1.size)
  go_wp2_with fail
  have b3 : Below w.heap.size w (w2.alloc (.cells #[.int .i64 0, .int .i64 0] 25)) := b2.alloc b2.size _
  refine (CC _ (HT.out.bel b3)).out.mono ?_
  rintro e w3 ⟨⟨pc, cc, rfl, tc⟩, g3⟩
  have b4 := b3.trans (g3.mono b3.size)
  have k13 : Below w1.heap.size w1 w3 := ((Below.refl _ w1).alloc (Nat.le_refl _) _).trans ((g2.mono (by simp)).trans ((((Below.refl _ w2).alloc (Nat.le_refl _) _).mono (by have := g2.size; simp at this; omega)).trans (g3.mono (by have := g2.size; simp at this ⊢; omega))))
  have k23 : Below w2.heap.size w2 w3 := ((Below.refl _ w2).alloc (Nat.le_refl _) _).trans (g3.mono (by simp))
  have ta3 := ta.bel k13
  have tb3 := tb.bel k23
  obtain ⟨ga, rfl, _, _, an, _⟩ := ta3 3 _ rfl
  have lga := block_lt_of_cell an
  simp only [Nat.reduceMul, Nat.reduceAdd] at an
  have W4 : Below w3.heap.size w3 ((w3.alloc (.cells #[.int .i64 0, .int .i64 0] 25)).alloc (.cells #[.int .u8 1, .string ⟨#[115, 116, 97, 114, 116]⟩, .int .u32 0, .int .i64 1, .int .i64 1, .int .u8 6, .string ⟨#[]⟩, .int .u32 0, .int .i64 1, .int .i64 7, .int .u8 0, .string ⟨#[99, 111, 110, 115, 116]⟩, .int .u32 0, .int .i64 2, .int .i64 2, .int .u8 2, .string ⟨#[118, 48]⟩, .int .u32 0, .int .i64 2, .int .i64 8, .int .u8 3, .string ⟨#[45, 49]⟩, .int .u32 4294967295, .int .i64 2, .int .i64 11, .int .u8 6, .string ⟨#[]⟩, .int .u32 0, .int .i64 2, .int .i64 13] 37)) := ((Below.refl _ w3).alloc (Nat.le_refl _) _).alloc (by simp) _
  have tw : TokAt ((w3.alloc (.cells #[.int .i64 0, .int .i64 0] 25)).alloc (.cells #[.int .u8 1, .string ⟨#[115, 116, 97, 114, 116]⟩, .int .u32 0, .int .i64 1, .int .i64 1, .int .u8 6, .string ⟨#[]⟩, .int .u32 0, .int .i64 1, .int .i64 7, .int .u8 0, .string ⟨#[99, 111, 110, 115, 116]⟩, .int .u32 0, .int .i64 2, .int .i64 2, .int .u8 2, .string ⟨#[118, 48]⟩, .int .u32 0, .int .i64 2, .int .i64 8, .int .u8 3, .string ⟨#[45, 49]⟩, .int .u32 4294967295, .int .i64 2, .int .i64 11, .int .u8 6, .string ⟨#[]⟩, .int .u32 0, .int .i64 2, .int .i64 13] 37)) (some ⟨w3.heap.size + 1, 0, none⟩) lB := TokAt.lit (l := lB) (row_born (by simp))
  have ta4 := Lib.hid (ta3.bel W4)
  have SY := Lib.hid (Same_yes lB (by decide) pb (some ⟨w3.heap.size + 1, 0, none⟩) cb 6 _ (tb3.bel W4) tw)
  have b5 := b4.trans (W4.mono b4.size)
  clear ta tb tc ta3 tb3 tw
  go_wp2_with fail
  refine SY.out.mono ?_
  rintro e w5 ⟨rfl, g5⟩
  have c5 := b5.trans (g5.mono b5.size)
  have ta5 := Lib.hid (ta4.out.bel g5)
  clear ta4 SY
  go_wp2_with fail
  refine (wrong_at [118, 52, 48, 57, 54] (by decide) 1 1 bad_1 _ (HT.out.bel c5)).mono ?_
  rintro e w6 ⟨rfl, g6⟩
  have c6 := c5.trans (g6.mono c5.size)
  have ta6 := Lib.hid (ta5.out.bel g6)
  clear ta5
  go_wp2_with fail
  refine (wrong_at [118, 48, 49] (by decide) 1 1 bad_2 _ (HT.out.bel c6)).mono ?_
  rintro e w7 ⟨rfl, g7⟩
  have c7 := c6.trans (g7.mono c6.size)
  have ta7 := Lib.hid (ta6.out.bel g7)
  clear ta6
  go_wp2_with fail
  refine (wrong_at [45, 48] (by decide) 1 1 bad_3 _ (HT.out.bel c7)).mono ?_
  rintro e w8 ⟨rfl, g8⟩
  have c8 := c7.trans (g8.mono c7.size)
  have ta8 := Lib.hid (ta7.out.bel g8)
  clear ta7
  go_wp2_with fail
  refine (wrong_at [48, 48, 55] (by decide) 1 1 bad_4 _ (HT.out.bel c8)).mono ?_
  rintro e w9 ⟨rfl, g9⟩
  have c9 := c8.trans (g9.mono c8.size)
  have ta9 := Lib.hid (ta8.out.bel g9)
  clear ta8
  go_wp2_with fail
  refine (wrong_at [97, 45, 98] (by decide) 1 1 bad_5 _ (HT.out.bel c9)).mono ?_
  rintro e w10 ⟨rfl, g10⟩
  have c10 := c9.trans (g10.mono c9.size)
  have ta10 := Lib.hid (ta9.out.bel g10)
  clear ta9
  go_wp2_with fail
  refine (wrong_at [52, 50, 57, 52, 57, 54, 55, 50, 57, 54] (by decide) 1 1 bad_6 _ (HT.out.bel c10)).mono ?_
  rintro e w11 ⟨rfl, g11⟩
  have c11 := c10.trans (g11.mono c10.size)
  have ta11 := Lib.hid (ta10.out.bel g11)
  clear ta10
  go_wp2_with fail
  refine (wrong_at [32, 32, 120, 32, 63] (by decide) 1 5 bad_7 _ (HT.out.bel c11)).mono ?_
  rintro e w12 ⟨rfl, g12⟩
  have c12 := c11.trans (g12.mono c11.size)
  have ta12 := Lib.hid (ta11.out.bel g12)
  clear ta11
  go_wp2_with fail
  refine (reg_top _ (HT.out.bel c12)).mono ?_
  rintro e w13 ⟨rfl, g13⟩
  have c13 := c12.trans (g13.mono c12.size)
  have ta13 := Lib.hid (ta12.out.bel g13)
  clear ta12
  go_wp2_with fail
  refine (Reg_no 4096 (by omega) (by omega) (by omega) _).mono ?_
  rintro e w14 ⟨rfl, rfl⟩
  go_wp2_with fail
  refine (Text_at lA (by decide) (by decide) _ ca _ ta13.out).mono ?_
  rintro e w15 ⟨rfl, g15⟩
  have c15 := c13.trans (g15.mono c13.size)
  have htx : ((St (txtL lA)).toList == [97, 100, 100, 32, 118, 49, 32, 118, 48, 32, 118, 49, 50, 10]) = true := by rw [St_toList]; decide
  go_wp2_with fail
  try rw [htx]
  go_ret
  exact ⟨rfl, c15⟩
end Go.Proofs.YthhbhfpdabiclaaGreatDoor.L12
