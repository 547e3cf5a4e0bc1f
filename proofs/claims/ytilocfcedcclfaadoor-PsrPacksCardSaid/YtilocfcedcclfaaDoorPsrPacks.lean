/- The walk of layer 4's statement PsrPacks: it returns true; of what was there nothing has turned. -/
import Derived.Test.YtilocfcedcclfaaDoorPsrHead
namespace Go.Proofs.YtilocfcedcclfaaDoor
open Go.RowKit
set_option linter.unusedVariables false
abbrev psrV (a b c d : Int) : Value := .agg #[.int .u8 a, .int .u8 b, .int .u8 c, .int .u8 d]
/-- A state's word, of the code and of the document. -/
theorem packs_both (a b c d n : Int) (ha : Byte a) (hb : Byte b) (hc : Byte c) (hd : Byte d) : ∃ y k : Int, 0 ≤ y ∧ y < 4294967296 ∧
    (∀ W : World, Calls Tryd.prog 7 #[psrV a b c d, .int .i64 n] W fun e w' => e = .returned (.tuple #[.int .u32 y, .int .i64 k]) ∧ Below W.heap.size W w') ∧
    (∀ W : World, Calls Tryd.prog 8 #[psrV a b c d, .int .i64 n] W fun e w' => e = .returned (.tuple #[.int .u32 y, .int .i64 k]) ∧ Below W.heap.size W w') ∧
    (k = 0 ∧ State a b c d n ∧ y = pword a b c d ∨ k = 2 ∧ ¬ State a b c d n) := by
  by_cases h : State a b c d n
  · refine ⟨pword a b c d, 0, ?_, ?_, fun W => Pack_yes a b c d n W ha hb hc hd h, fun W => rPack_yes a b c d n W ha hb hc hd h, .inl ⟨rfl, h, rfl⟩⟩ <;> (unfold State at h; unfold Byte at *; unfold pword; omega)
  · exact ⟨0, 2, by omega, by omega, fun W => Pack_no a b c d n W ha hb hc hd h, fun W => rPack_no a b c d n W ha hb hc hd h, .inr ⟨rfl, h⟩⟩
/-- A word's state, of the code and of the document. -/
theorem unpacks_both (v n : Int) (hv : 0 ≤ v ∧ v < 4294967296) : ∃ y0 y1 y2 y3 k : Int, Byte y0 ∧ Byte y1 ∧ Byte y2 ∧ Byte y3 ∧
    (∀ W : World, Calls Tryd.prog 9 #[.int .u32 v, .int .i64 n] W fun e w' => e = .returned (.tuple #[psrV y0 y1 y2 y3, .int .i64 k]) ∧ Below W.heap.size W w') ∧
    (∀ W : World, Calls Tryd.prog 10 #[.int .u32 v, .int .i64 n] W fun e w' => e = .returned (.tuple #[psrV y0 y1 y2 y3, .int .i64 k]) ∧ Below W.heap.size W w') ∧
    (k = 0 ∧ v < 262144 ∧ WState v n ∧ y0 = v % 32 ∧ y1 = v / 32 % 16 ∧ y2 = v / 512 % 32 ∧ y3 = v / 16384 % 16 ∨ (k = 2 ∨ k = 5) ∧ ¬ (v < 262144 ∧ WState v n)) := by
  obtain ⟨b0, b1, b2, b3⟩ := parts_byte v
  have z : Byte 0 := ⟨by decide, by decide⟩
  by_cases hn : 2 ≤ n ∧ n ≤ 32
  · by_cases h : v < 262144 ∧ WState v n
    · exact ⟨_, _, _, _, 0, b0, b1, b2, b3, fun W => Unpack_yes v n W ⟨hv.1, h.1⟩ h.2, fun W => rUnpack_yes v n W ⟨hv.1, h.1⟩ h.2, .inl ⟨rfl, h.1, h.2, rfl, rfl, rfl, rfl⟩⟩
    · exact ⟨_, _, _, _, 5, z, z, z, z, fun W => Unpack_form v n W hn.1 hn.2 hv h, fun W => rUnpack_form v n W hn.1 hn.2 hv h, .inr ⟨.inr rfl, h⟩⟩
  · exact ⟨_, _, _, _, 2, z, z, z, z, fun W => Unpack_arg v n W hn, fun W => rUnpack_arg v n W hn, .inr ⟨.inl rfl, fun h => hn ⟨h.2.1, h.2.2.1⟩⟩⟩
theorem back_state {a b c d n : Int} (ha : Byte a) (hb : Byte b) (hc : Byte c) (hd : Byte d) (h : State a b c d n) :
    pword a b c d % 32 = a ∧ pword a b c d / 32 % 16 = b ∧ pword a b c d / 512 % 32 = c ∧ pword a b c d / 16384 % 16 = d ∧ 0 ≤ pword a b c d ∧ pword a b c d < 262144 := by
  unfold State at h; unfold Byte at *; unfold pword; omega
theorem eq_psr (x0 x1 x2 x3 : Int) (W : World) : (Op.equalIn 10000 23 (.agg #[.int .u8 x0, .int .u8 x1, .int .u8 x2, .int .u8 x3]) (.agg #[.int .u8 x0, .int .u8 x1, .int .u8 x2, .int .u8 x3])).run Tryd.prog W = .ok true W := by simp [go_sem]
theorem row_lt {w : World} {b : Nat} {o : Obj} (h : w.heap[b]? = some o) : b < w.heap.size := by
  rcases Nat.lt_or_ge b w.heap.size with hh | hh
  · exact hh
  · rw [Array.getElem?_eq_none hh] at h; cases h
set_option maxHeartbeats 4000000 in
set_option maxRecDepth 100000 in
theorem packs_walk (a b c d v n : Int) (ha : Byte a) (hb : Byte b) (hc : Byte c) (hd : Byte d) (hv : 0 ≤ v ∧ v < 4294967296) (w : World) (hT : TabAt w) :
    Calls Tryd.prog 3 #[psrV a b c d, .int .u32 v, .int .i64 n] w fun e w' => e = .returned (.bool true) ∧ Below w.heap.size w w' := by
  obtain ⟨y, k, hy0, hy1, hP, hR, hk⟩ := packs_both a b c d n ha hb hc hd
  obtain ⟨q0, q1, q2, q3, g, c0, c1, c2, c3, hU, hV, hg⟩ := unpacks_both v n hv
  obtain ⟨p0, p1, p2, p3, i, d0, d1, d2, d3, hB, hB', hi⟩ := unpacks_both y n ⟨hy0, hy1⟩
  obtain ⟨m, j, hm0, hm1, hA, hA', hj⟩ := packs_both q0 q1 q2 q3 n c0 c1 c2 c3
  have h1 : k = 2 ∨ k = 0 ∧ p0 = a ∧ p1 = b ∧ p2 = c ∧ p3 = d ∧ i = 0 := by
    rcases hk with ⟨rfl, hs, rfl⟩ | ⟨rfl, _⟩
    · obtain ⟨e0, e1, e2, e3, e4, e5⟩ := back_state ha hb hc hd hs
      have hW : WState (pword a b c d) n := by unfold WState; rw [e0, e1, e2, e3]; exact hs
      rcases hi with ⟨rfl, _, _, rfl, rfl, rfl, rfl⟩ | ⟨_, hh⟩
      · exact .inr ⟨rfl, e0, e1, e2, e3, rfl⟩
      · exact absurd ⟨e5, hW⟩ hh
    · exact .inl rfl
  have h2 : (g = 2 ∨ g = 5) ∨ g = 0 ∧ m = v ∧ j = 0 := by
    rcases hg with ⟨rfl, h5, hs, rfl, rfl, rfl, rfl⟩ | ⟨h, _⟩
    · rcases hj with ⟨rfl, _, rfl⟩ | ⟨_, hh⟩
      · exact .inr ⟨rfl, (pword_parts hv).2 h5, rfl⟩
      · exact absurd hs hh
    · exact .inl h
  have HP := Lib.hid hP
  have HR := Lib.hid hR
  have HU := Lib.hid hU
  have HV := Lib.hid hV
  have HB := Lib.hid hB
  have HA := Lib.hid hA
  have HT := Lib.hid hT
  have H1 := Lib.hid h1
  have H2 := Lib.hid h2
  clear hB' hm0 hm1 hA' hP hR hk hU hV hg hB hi hA hj h1 h2 hy0 hy1 c0 c1 c2 c3 d0 d1 d2 d3 hT hv ha hb hc hd
  have E1 : ∀ W : World, (Op.equalIn 10000 23 (.agg #[.int .u8 q0, .int .u8 q1, .int .u8 q2, .int .u8 q3]) (.agg #[.int .u8 q0, .int .u8 q1, .int .u8 q2, .int .u8 q3])).run Tryd.prog W = .ok true W := eq_psr q0 q1 q2 q3
  have E2 : ∀ W : World, (Op.equalIn 10000 23 (.agg #[.int .u8 a, .int .u8 b, .int .u8 c, .int .u8 d]) (.agg #[.int .u8 a, .int .u8 b, .int .u8 c, .int .u8 d])).run Tryd.prog W = .ok true W := eq_psr a b c d
  go_enter Tryd.func3, Tryd.ntmps3
  go_wp2_with fail
  refine (HP.out _).mono ?_; rintro e w1 ⟨rfl, g1⟩
  have R1 : w1.heap[w.heap.size]? = some (.cells #[.int .u8 a, .int .u8 b, .int .u8 c, .int .u8 d] 23 (0, 0)) := bel_heap g1 (row_born rfl)
  have G1 := bel_trans ((Below.refl _ _).alloc (Nat.le_refl _) _) g1
  clear g1
  obtain ⟨⟨x0, x1, x2, x3⟩, z0⟩ := four_at R1
  go_wp2_with fail
  clear x0 x1 x2 x3 z0
  refine (HR.out _).mono ?_; rintro e w2 ⟨rfl, g2⟩
  have R2 := bel_heap g2 R1
  have G2 := bel_trans G1 g2
  clear g2 R1 G1
  go_wp2_with fail
  refine (HU.out _).mono ?_; rintro e w3 ⟨rfl, g3⟩
  have R3 := bel_heap g3 R2
  have G3 := bel_trans G2 g3
  clear g3 R2 G2
  go_wp2_with fail
  refine (HV.out _).mono ?_; rintro e w4 ⟨rfl, g4⟩
  have R4 := bel_heap g4 (row_alloc R3)
  have Q4 : w4.heap[w3.heap.size]? = some (.cells #[.int .u8 q0, .int .u8 q1, .int .u8 q2, .int .u8 q3] 23 (0, 0)) := bel_heap g4 (row_born rfl)
  have G4 := bel_trans (bel_trans G3 ((Below.refl _ _).alloc (Nat.le_refl _) _)) g4
  have z3 := G3.size
  clear g4 R3 G3
  obtain ⟨⟨u0, u1, u2, u3⟩, z0⟩ := four_at Q4
  have zQ := row_lt Q4
  clear z0 z3
  go_wp2_with fail
  clear u0 u1 u2 u3 zQ
  refine (HB.out _).mono ?_; rintro e w5 ⟨rfl, g5⟩
  have R5 := bel_heap g5 (row_alloc R4)
  have Q5 := bel_heap g5 (row_alloc Q4)
  have G5 := bel_trans (bel_trans G4 ((Below.refl _ _).alloc (Nat.le_refl _) _)) g5
  clear g5 R4 Q4 G4
  obtain ⟨⟨u0, u1, u2, u3⟩, z0⟩ := four_at Q5
  have zQ := row_lt Q5
  clear z0
  go_wp2_with fail
  clear u0 u1 u2 u3 zQ
  refine (HA.out _).mono ?_; rintro e w6 ⟨rfl, g6⟩
  have R6 := bel_heap g6 (row_alloc R5)
  have B6 : w6.heap[w5.heap.size]? = some (.cells #[.int .u8 p0, .int .u8 p1, .int .u8 p2, .int .u8 p3] 23 (0, 0)) := bel_heap g6 (row_born rfl)
  have G6 := bel_trans (bel_trans G5 ((Below.refl _ _).alloc (Nat.le_refl _) _)) g6
  clear g6 R5 Q5 G5
  have T6 := Lib.hid (HT.out.bel G6)
  obtain ⟨⟨u0, u1, u2, u3⟩, z0⟩ := four_at R6
  obtain ⟨⟨v0, v1, v2, v3⟩, z1⟩ := four_at B6
  clear z0 z1 R6 B6 HT HP HR HU HV HB HA
  have H1' := H1.out
  have H2' := H2.out
  clear H1 H2
  rcases H1' with rfl | ⟨rfl, rfl, rfl, rfl, rfl, rfl⟩ <;> rcases H2' with (rfl | rfl) | ⟨rfl, rfl, rfl⟩
  all_goals
    go_wp2_with fail
    refine (head_any _ T6.out).mono ?_; rintro e w7 ⟨rfl, g7⟩
    go_wp2_with fail
    go_ret
    exact ⟨rfl, bel_trans G6 g7⟩
end Go.Proofs.YtilocfcedcclfaaDoor
