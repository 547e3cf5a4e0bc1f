/- lex (layer 12): LexTells' walk. -/
import Derived.Test.YthhbhfpdabiclaaGreatDoorLexRl
import Derived.Test.YthhbhfpdabiclaaGreatDoorLexRt
import Derived.Test.YthhbhfpdabiclaaGreatDoorLexHead
namespace Go.Proofs.YthhbhfpdabiclaaGreatDoor.L12
open Go.RowKit Go.Shelf
set_option linter.unusedVariables false
theorem refLex_bad (s : List UInt8) (hs : s.length ≤ 65536) (n c : Nat) (hx : (lexS s).2 = some (n, c)) (w : World) : Calls Tryz.prog 7 #[.string (St s)] w fun e w' => e = .returned (.tuple #[.slice none 0 0, .agg #[.int .i64 (n : Nat), .int .i64 (c : Nat)], .int .i64 120]) ∧ Below w.heap.size w w' := by
  refine (refLex_at s hs w).mono ?_
  rintro e w' ⟨h1, h2⟩
  obtain ⟨t, ht⟩ : ∃ t, lexS s = (t, some (n, c)) := ⟨_, Prod.ext rfl hx⟩
  rw [ht] at h2
  exact ⟨h2, h1⟩
theorem refLex_good (s : List UInt8) (hs : s.length ≤ 65536) (l : List Tok) (k : Nat) (hk : l.length = k) (hx : lexS s = (l, none)) (w : World) : Calls Tryz.prog 7 #[.string (St s)] w fun e w' => (∃ p c, e = .returned (.tuple #[.slice p k c, .agg #[.int .i64 0, .int .i64 0], .int .i64 0]) ∧ TokAt w' p l) ∧ Below w.heap.size w w' := by
  subst hk
  refine (refLex_at s hs w).mono ?_
  rintro e w' ⟨h1, h2⟩
  rw [hx] at h2
  obtain ⟨v, rfl, hv⟩ := h2
  obtain ⟨p, c, rfl, hp⟩ := TokAt.of hv
  exact ⟨⟨p, c, rfl, hp⟩, h1⟩
set_option maxRecDepth 100000 in
set_option maxHeartbeats 4000000 in
theorem tells_long (a : ByteArray) (h : 3000 < a.size) (ha : a.size ≤ 9223372036854775807) (w : World) (hT : LT w) : Calls Tryz.prog 3 #[.string a] w fun e w' => e = .returned (.bool true) ∧ Below w.heap.size w w' := by
  have H := Lib.hid (head_at w hT)
  clear hT
  have h1' : (3000 : Int) < a.size := by omega
  clear h
  go_enter Tryz.func3, Tryz.ntmps3
  go_wp2_with fail
  refine H.out.mono ?_; rintro e w1 ⟨rfl, g1⟩
  go_wp2_with fail
  go_ret
  exact ⟨rfl, g1⟩
set_option maxRecDepth 100000 in
set_option maxHeartbeats 4000000 in
theorem tells_core (s : List UInt8) (hs : s.length ≤ 3000) (l : List Tok) (hl : l.length ≤ 6000) (ht : (txtL l).length ≤ 9000) (x y f : Int)
    (HA : ∀ W, LT W → Calls Tryz.prog 6 #[.string (St s)] W fun e w' => (∃ p c, e = .returned (.tuple #[.slice p l.length c, .agg #[.int .i64 x, .int .i64 y], .int .i64 f]) ∧ TokAt w' p l) ∧ Below W.heap.size W w')
    (HB : ∀ W, Calls Tryz.prog 7 #[.string (St s)] W fun e w' => (∃ p c, e = .returned (.tuple #[.slice p l.length c, .agg #[.int .i64 x, .int .i64 y], .int .i64 f]) ∧ TokAt w' p l) ∧ Below W.heap.size W w')
    (w : World) (hT : LT w) : Calls Tryz.prog 3 #[.string (St s)] w fun e w' => e = .returned (.bool true) ∧ Below w.heap.size w w' := by
  have HT := Lib.hid hT
  have LA := fun W hT => Lib.hid (HA W hT)
  have LB := fun W => Lib.hid (HB W)
  have HTX : Hid (∀ p c W, TokAt W p l → Calls Tryz.prog 9 #[.slice p l.length c] W fun e w' => e = .returned (.string (St (txtL l))) ∧ Below W.heap.size W w') := fun p c W h => Text_at l (by omega) (by omega) p c W h
  have HTY : Hid (∀ p c W, TokAt W p l → Calls Tryz.prog 10 #[.slice p l.length c] W fun e w' => e = .returned (.string (St (txtL l))) ∧ w' = W) := fun p c W h => refText_at l (by omega) (by omega) p c W h
  have HSM : Hid (∀ p c q d W, TokAt W p l → TokAt W q l → Calls Tryz.prog 8 #[.slice p l.length c, .slice q l.length d] W fun e w' => e = .returned (.bool true) ∧ Below W.heap.size W w') := fun p c q d W h h' => Same_yes l (by omega) p q c d W h h'
  have sa : (St s).size = s.length := rfl
  have hs1 : ¬ (3000 : Int) < (s.length : Nat) := by omega
  generalize St (txtL l) = X at HTX HTY
  have hxx : (X.toList == X.toList) = true := by simp
  clear hT HA HB ht
  go_enter Tryz.func3, Tryz.ntmps3
  go_wp2_with fail
  refine (LA _ HT.out).out.mono ?_
  rintro e w1 ⟨⟨p1, c1, rfl, t1⟩, g1⟩
  have b1 : Below w.heap.size w (w1.alloc (.cells #[.int .i64 x, .int .i64 y] 25)) := g1.alloc g1.size _
  have k1 : Below w1.heap.size w1 (w1.alloc (.cells #[.int .i64 x, .int .i64 y] 25)) := (Below.refl _ _).alloc (Nat.le_refl _) _
  have T1 := Lib.hid (t1.bel k1)
  have r1 := heap_alloc_last w1 (.cells #[.int .i64 x, .int .i64 y] 25)
  clear t1 g1
  go_wp2_with fail
  generalize hV1 : w1.alloc (.cells #[.int .i64 x, .int .i64 y] 25) = V1 at b1 k1 T1 r1 ⊢
  clear hV1 k1
  refine (LB _).out.mono ?_
  rintro e w2 ⟨⟨p2, c2, rfl, t2⟩, g2⟩
  have b2 := b1.trans (g2.mono b1.size)
  have b3 : Below w.heap.size w (w2.alloc (.cells #[.int .i64 x, .int .i64 y] 25)) := b2.alloc b2.size _
  have k3 : Below w2.heap.size w2 (w2.alloc (.cells #[.int .i64 x, .int .i64 y] 25)) := (Below.refl _ _).alloc (Nat.le_refl _) _
  have T2 := Lib.hid (t2.bel k3)
  have T1b := Lib.hid ((T1.out.bel g2).bel k3)
  have r1b := bel_heap k3 (bel_heap g2 r1)
  have r2 := heap_alloc_last w2 (.cells #[.int .i64 x, .int .i64 y] 25)
  clear t2 r1
  go_wp2_with fail
  generalize hV2 : w2.alloc (.cells #[.int .i64 x, .int .i64 y] 25) = V2 at b3 k3 T2 T1b r1b r2 ⊢
  clear hV2 k3
  refine (HSM.out p1 c1 p2 c2 _ T1b.out T2.out).mono ?_
  rintro e w3 ⟨rfl, g3⟩
  have b4 := b3.trans (g3.mono b3.size)
  have T2c := Lib.hid (T2.out.bel g3)
  have T1c := Lib.hid (T1b.out.bel g3)
  have ra := bel_heap g3 r1b
  have rb := bel_heap g3 r2
  have a0 : w3.cell? ⟨w1.heap.size, 0, none⟩ = some (.int .i64 x) := row_cell ra rfl
  have a1 : w3.cell? ⟨w1.heap.size, 1, none⟩ = some (.int .i64 y) := row_cell ra rfl
  have a2 : w3.cell? ⟨w2.heap.size, 0, none⟩ = some (.int .i64 x) := row_cell rb rfl
  have a3 : w3.cell? ⟨w2.heap.size, 1, none⟩ = some (.int .i64 y) := row_cell rb rfl
  clear r1b r2 ra rb
  go_wp2_with fail
  refine (HTX.out p1 c1 _ T1c.out).mono ?_
  rintro e w5 ⟨rfl, g5⟩
  have b5 := b4.trans (g5.mono b4.size)
  have T2d := Lib.hid (T2c.out.bel g5)
  clear a0 a1 a2 a3
  go_wp2_with fail
  refine (HTY.out p2 c2 _ T2d.out).mono ?_
  rintro e w6 ⟨rfl, rfl⟩
  have H := Lib.hid (head_at _ (HT.out.bel b5))
  go_wp2_with fail
  refine H.out.mono ?_; rintro e w7 ⟨rfl, g7⟩
  go_wp2_with fail
  go_ret
  exact ⟨rfl, b5.trans (g7.mono b5.size)⟩
theorem tells_walk (a : ByteArray) (ha : a.size ≤ 9223372036854775807) (w : World) (hT : LT w) : Calls Tryz.prog 3 #[.string a] w fun e w' => e = .returned (.bool true) ∧ Below w.heap.size w w' := by
  by_cases hl : 3000 < a.size
  · exact tells_long a hl ha w hT
  · have h1 : a.data.toList.length ≤ 3000 := by have : a.size = a.data.toList.length := rfl; omega
    rw [← St_of a]
    generalize a.data.toList = s at h1
    clear hl ha
    cases xs : lexS s with
    | mk l e =>
      cases e with
      | none =>
        have hc := lex_count xs
        have ht := txt_size xs
        exact tells_core s h1 l (by omega) (by omega) 0 0 0 (fun W hW => Lex_good s (by omega) l l.length rfl xs W hW) (fun W => refLex_good s (by omega) l l.length rfl xs W) w hT
      | some e =>
        obtain ⟨n, c⟩ := e
        refine tells_core s h1 [] (by simp) (by simp [txtL]) n c 120 (fun W hW => (Lex_bad s (by omega) n c (by rw [xs]) W hW).mono ?_) (fun W => (refLex_bad s (by omega) n c (by rw [xs]) W).mono ?_) w hT
        · rintro e w' ⟨rfl, g⟩
          exact ⟨⟨none, 0, rfl, fun j t hj => by simp at hj⟩, g⟩
        · rintro e w' ⟨rfl, g⟩
          exact ⟨⟨none, 0, rfl, fun j t hj => by simp at hj⟩, g⟩
end Go.Proofs.YthhbhfpdabiclaaGreatDoor.L12
