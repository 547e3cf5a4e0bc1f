/- lex (layer 12): LexJoins' walk. -/
import Derived.Test.YtmpagjijjahohabDoorLexJoin
import Derived.Test.YtmpagjijjahohabDoorLexHead
namespace Go.Proofs.YtmpagjijjahohabDoor.L12
open Go.RowKit Go.Shelf
set_option linter.unusedVariables false
set_option maxRecDepth 100000 in
set_option maxHeartbeats 4000000 in
theorem joins_long (a b : ByteArray) (h : 1500 < a.size ∨ 1500 < b.size) (ha : a.size ≤ 9223372036854775807) (hb : b.size ≤ 9223372036854775807) (w : World) (hT : LT w) : Calls Tryd.prog 4 #[.string a, .string b] w fun e w' => e = .returned (.bool true) ∧ Below w.heap.size w w' := by
  have H := Lib.hid (head_at w hT)
  clear hT
  by_cases h1 : 1500 < a.size
  · have h1' : (1500 : Int) < a.size := by omega
    clear h
    go_enter Tryd.func4, Tryd.ntmps4
    go_wp2_with fail
    refine H.out.mono ?_; rintro e w1 ⟨rfl, g1⟩
    go_wp2_with fail
    go_ret
    exact ⟨rfl, g1⟩
  · have h1' : ¬ (1500 : Int) < a.size := by omega
    have h2' : (1500 : Int) < b.size := by omega
    clear h
    go_enter Tryd.func4, Tryd.ntmps4
    go_wp2_with fail
    refine H.out.mono ?_; rintro e w1 ⟨rfl, g1⟩
    go_wp2_with fail
    go_ret
    exact ⟨rfl, g1⟩
set_option maxRecDepth 100000 in
set_option maxHeartbeats 4000000 in
theorem joins_bad (a b : List UInt8) (ha : a.length ≤ 1500) (hb : b.length ≤ 1500) (ea eb ez : Int) (va vb : Value) (pa qa pb qb pz qz : Int) (hbad : ea ≠ 0 ∨ eb ≠ 0) (w : World) (hT : LT w)
    (A : ∀ W, Below w.heap.size w W → Calls Tryd.prog 6 #[.string (St a)] W fun e w' => (∃ p k c, e = .returned (.tuple #[.slice p k c, .agg #[.int .i64 pa, .int .i64 qa], .int .i64 ea])) ∧ Below W.heap.size W w')
    (B : ∀ W, Below w.heap.size w W → Calls Tryd.prog 6 #[.string (St b)] W fun e w' => (∃ p k c, e = .returned (.tuple #[.slice p k c, .agg #[.int .i64 pb, .int .i64 qb], .int .i64 eb])) ∧ Below W.heap.size W w')
    (Z : ∀ W, Below w.heap.size w W → Calls Tryd.prog 6 #[.string (St (a ++ 10 :: b))] W fun e w' => e = .returned (.tuple #[.slice none 0 0, .agg #[.int .i64 pz, .int .i64 qz], .int .i64 120]) ∧ Below W.heap.size W w') :
    Calls Tryd.prog 4 #[.string (St a), .string (St b)] w fun e w' => e = .returned (.bool true) ∧ Below w.heap.size w w' := by
  have HA := Lib.hid A
  have HB := Lib.hid B
  have HZ := Lib.hid Z
  have HT := Lib.hid hT
  have sa : (St a).size = a.length := rfl
  have sb : (St b).size = b.length := rfl
  have cat : (St a ++ ⟨#[10]⟩) ++ St b = St (a ++ 10 :: b) := by
    rw [← St_of ((St a ++ ⟨#[10]⟩) ++ St b)]
    congr 1
    simp
  clear A B Z hT
  go_enter Tryd.func4, Tryd.ntmps4
  go_wp2_with fail
  refine (HA.out _ (Below.refl _ _)).mono ?_
  rintro e w1 ⟨⟨xp, xk, xc, rfl⟩, g1⟩
  go_wp2_with fail
  have b1 : Below w.heap.size w (w1.alloc (.cells #[.int .i64 pa, .int .i64 qa] 25)) := g1.alloc g1.size _
  refine (HB.out _ b1).mono ?_
  rintro e w2 ⟨⟨yp, yk, yc, rfl⟩, g2⟩
  have b2 := b1.trans (g2.mono b1.size)
  have b3 : Below w.heap.size w (w2.alloc (.cells #[.int .i64 pb, .int .i64 qb] 25)) := b2.alloc b2.size _
  go_wp2_with fail
  refine (HZ.out _ b3).mono ?_
  rintro e w3 ⟨rfl, g3⟩
  have b4 := b3.trans (g3.mono b3.size)
  have b5 : Below w.heap.size w (w3.alloc (.cells #[.int .i64 pz, .int .i64 qz] 25)) := b4.alloc b4.size _
  have H := Lib.hid (head_at _ (HT.out.bel b5))
  by_cases he : ea = 0
  · have hf : ¬ eb = 0 := by
      rcases hbad with h | h
      · exact (h he).elim
      · exact h
    clear hbad
    go_wp2_with fail
    refine H.out.mono ?_; rintro e w4 ⟨rfl, g4⟩
    go_wp2_with fail
    go_ret
    exact ⟨rfl, b5.trans (g4.mono b5.size)⟩
  · clear hbad
    go_wp2_with fail
    refine H.out.mono ?_; rintro e w4 ⟨rfl, g4⟩
    go_wp2_with fail
    go_ret
    exact ⟨rfl, b5.trans (g4.mono b5.size)⟩
end Go.Proofs.YtmpagjijjahohabDoor.L12
