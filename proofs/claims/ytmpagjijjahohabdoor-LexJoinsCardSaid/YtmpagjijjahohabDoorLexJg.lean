/- lex (layer 12): LexJoins, where both sources are good. -/
import Derived.Test.YtmpagjijjahohabDoorLexCat
namespace Go.Proofs.YtmpagjijjahohabDoor.L12
open Go.RowKit Go.Shelf
set_option linter.unusedVariables false
set_option maxRecDepth 100000 in
set_option maxHeartbeats 4000000 in
theorem joins_good (a b : List UInt8) (ha : a.length ≤ 1500) (hb : b.length ≤ 1500) (la lb lz : List Tok) (xa : lexS a = (la, none)) (xb : lexS b = (lb, none)) (xz : lexS (a ++ 10 :: b) = (lz, none)) (hz : lz.map bare = (la ++ lb).map bare) (w : World) (hT : LT w) :
    Calls Tryd.prog 4 #[.string (St a), .string (St b)] w fun e w' => e = .returned (.bool true) ∧ Below w.heap.size w w' := by
  have HA := fun W hT => Lib.hid (Lex_good2 a (by omega) la xa W hT)
  have HB := fun W hT => Lib.hid (Lex_good2 b (by omega) lb xb W hT)
  have HZ := fun W hT => Lib.hid (Lex_good2 (a ++ 10 :: b) (by simp; omega) lz xz W hT)
  have HT := Lib.hid hT
  have sa : (St a).size = a.length := rfl
  have sb : (St b).size = b.length := rfl
  have cat : (St a ++ ⟨#[10]⟩) ++ St b = St (a ++ 10 :: b) := by
    rw [← St_of ((St a ++ ⟨#[10]⟩) ++ St b)]
    congr 1
    simp
  clear hT
  go_enter Tryd.func4, Tryd.ntmps4
  go_wp2_with fail
  refine (HA _ HT.out).out.mono ?_
  rintro e w1 ⟨⟨p1, c1, rfl, t1, n1⟩, g1⟩
  go_wp2_with fail
  have b1 : Below w.heap.size w (w1.alloc (.cells #[.int .i64 0, .int .i64 0] 25)) := g1.alloc g1.size _
  refine (HB _ (HT.out.bel b1)).out.mono ?_
  rintro e w2 ⟨⟨p2, c2, rfl, t2, n2⟩, g2⟩
  have b2 := b1.trans (g2.mono b1.size)
  have b3 : Below w.heap.size w (w2.alloc (.cells #[.int .i64 0, .int .i64 0] 25)) := b2.alloc b2.size _
  go_wp2_with fail
  refine (HZ _ (HT.out.bel b3)).out.mono ?_
  rintro e w3 ⟨⟨p3, c3, rfl, t3, n3⟩, g3⟩
  have b4 := b3.trans (g3.mono b3.size)
  have b5 : Below w.heap.size w (w3.alloc (.cells #[.int .i64 0, .int .i64 0] 25)) := b4.alloc b4.size _
  have k13 : Below w1.heap.size w1 w3 := ((Below.refl _ w1).alloc (Nat.le_refl _) _).trans ((g2.mono (by simp)).trans ((((Below.refl _ w2).alloc (Nat.le_refl _) _).mono (by have := g2.size; simp at this; omega)).trans (g3.mono (by have := g2.size; simp at this ⊢; omega))))
  have k23 : Below w2.heap.size w2 w3 := ((Below.refl _ w2).alloc (Nat.le_refl _) _).trans (g3.mono (by simp))
  have kV : Below w3.heap.size w3 ((w3.alloc (.cells #[.int .i64 0, .int .i64 0] 25)).alloc (.cells #[] 33)) := ((Below.refl _ w3).alloc (Nat.le_refl _) _).alloc (by simp) _
  have u1 := t1.bel k13
  have u2 := t2.bel k23
  have z3 : w.heap.size ≤ w3.heap.size := b4.size
  have hb0 : w3.heap.size + 1 ≤ ((w3.alloc (.cells #[.int .i64 0, .int .i64 0] 25)).alloc (.cells #[] 33)).heap.size := by simp
  have hown0 : World.ownsRow ((w3.alloc (.cells #[.int .i64 0, .int .i64 0] 25)).alloc (.cells #[] 33)) (w3.heap.size + 1) 33 5 (.slice (some ⟨w3.heap.size + 1, 0, none⟩) 0 0) 0 [] := ⟨rfl, .inr ⟨_, 0, #[], rfl, Nat.le_refl _, row_born (by simp), Nat.le_refl _, Nat.zero_le _, rfl, rfl⟩⟩
  have v1V := u1.bel kV
  have htx : txtL lz = txtL la ++ txtL lb := by
    rw [txtL_bare lz (la ++ lb) hz]
    refine txtL_append la lb ?_
    have h := lexL_ends (lns 1 (chk [] a))
    unfold lexS at xa
    rw [xa] at h
    exact h rfl
  obtain ⟨la1, la2⟩ := lexS_size (by omega) xa
  obtain ⟨lb1, lb2⟩ := lexS_size (by omega) xb
  obtain ⟨lz1, lz2⟩ := lexS_size (by simp; omega) xz
  have hn1 : 0 + la.length ≤ 8589934592 := by omega
  have hn2 : 0 + la.length + lb.length ≤ 8589934592 := by omega
  have HT5 := HT.out.bel b5
  have U2 := Lib.hid u2
  have U3 := Lib.hid t3
  have U1 := Lib.hid u1
  clear u1 u2 t1 t2 t3 k13 k23 xa xb xz
  go_upto_region 8 with (fail)
  go_wp2_with (first
    | (at_builtin; refine wpList_catG rfl _ _ rfl (w3.heap.size + 1) _ 0 [] ?x1 hown0 hb0 la p1 c1 ?x2 v1V n1 hn1 ?x3; (case x1 => rfl); (case x2 => rfl); intro v1 V1 q1 r1; have h1 : Below w3.heap.size ((w3.alloc (.cells #[.int .i64 0, .int .i64 0] 25)).alloc (.cells #[] 33)) V1 := grown_below r1 (fun g hg => by simp only [Value.ownBlock, Option.some.injEq] at hg; omega) (by simp; omega); have k1 := kV.trans h1; have w2V := U2.out.bel k1; have hb1 : w3.heap.size + 1 ≤ V1.heap.size := Nat.le_trans hb0 r1.size)
    | (at_builtin; refine wpList_catG rfl _ _ rfl (w3.heap.size + 1) v1 (0 + la.length) ([] ++ tokRow la) ?y1 q1 hb1 lb p2 c2 ?y2 w2V n2 hn2 ?y3; (case y1 => rfl); (case y2 => rfl); intro v2 V2 q2 r2))
  have h2 := (grown_below r2 (fun g hg => own_ge q1 hg) hb1).mono (Nat.le_succ w3.heap.size)
  have k2 := k1.trans h2
  have q3 : World.ownsRow V2 (w3.heap.size + 1) 33 5 v2 (la ++ lb).length (tokRow (la ++ lb)) := by simpa [tokRow] using q2
  obtain ⟨p4, c4, e4, t4⟩ := TokAt.of q3
  subst e4
  clear q1 q2 q3 r1 r2 hown0 v1V w2V
  refine (Alike_yes lz (la ++ lb) hz (by omega) p3 p4 c3 c4 V2 (U3.out.bel k2) t4).mono ?_
  rintro e V3 ⟨rfl, g5⟩
  have k3 := k2.trans (g5.mono k2.size)
  go_wp2_with fail
  refine (Text_at lz (by omega) (by omega) p3 c3 _ (U3.out.bel k3)).mono ?_
  rintro e V4 ⟨rfl, g6⟩
  have k4 := k3.trans (g6.mono k3.size)
  go_wp2_with fail
  refine (Text_at la (by omega) (by omega) p1 c1 _ (U1.out.bel k4)).mono ?_
  rintro e V5 ⟨rfl, g7⟩
  have k5 := k4.trans (g7.mono k4.size)
  go_wp2_with fail
  have w2V2 : TokAt V5 p2 lb := U2.out.bel k5
  refine (Text_at lb (by omega) (by omega) p2 c2 _ w2V2).mono ?_
  rintro e V6 ⟨rfl, g8⟩
  have k6 := k5.trans (g8.mono k5.size)
  have b6 : Below w.heap.size w V6 := b4.trans (k6.mono z3)
  generalize txtL lz = yz at htx lz2 ⊢
  generalize txtL la = ya at htx la2 ⊢
  generalize txtL lb = yb at htx lb2 ⊢
  subst htx
  have sy1 : (St ya).size = ya.length := rfl
  have sy2 : (St yb).size = yb.length := rfl
  have cat2 : St ya ++ St yb = St (ya ++ yb) := by
    rw [← St_of (St ya ++ St yb)]
    congr 1
  go_wp2_with fail
  refine (head_at _ (HT.out.bel b6)).mono ?_
  rintro e V7 ⟨rfl, g9⟩
  go_wp2_with fail
  go_ret
  exact ⟨rfl, b6.trans (g9.mono b6.size)⟩
theorem joins_walk (a b : ByteArray) (ha : a.size ≤ 9223372036854775807) (hb : b.size ≤ 9223372036854775807) (w : World) (hT : LT w) : Calls Tryd.prog 4 #[.string a, .string b] w fun e w' => e = .returned (.bool true) ∧ Below w.heap.size w w' := by
  by_cases hl : 1500 < a.size ∨ 1500 < b.size
  · exact joins_long a b hl ha hb w hT
  · have h1 : a.data.toList.length ≤ 1500 := by have : a.size = a.data.toList.length := rfl; omega
    have h2 : b.data.toList.length ≤ 1500 := by have : b.size = b.data.toList.length := rfl; omega
    rw [← St_of a, ← St_of b]
    generalize a.data.toList = x at h1
    generalize b.data.toList = y at h2
    clear hl ha hb
    have lt : ∀ W, Below w.heap.size w W → LT W := fun W k => hT.bel k
    cases xa : lexS x with
    | mk la ea =>
      cases xb : lexS y with
      | mk lb eb =>
        cases ea with
        | none =>
          cases eb with
          | none =>
            obtain ⟨lz, xz, hz⟩ := join_good xa xb
            exact joins_good x y h1 h2 la lb lz xa xb xz hz w hT
          | some e =>
            obtain ⟨n, c, hz⟩ := join_bad (a := x) (b := y) (.inr (by rw [xb]; simp))
            refine joins_bad x y h1 h2 0 120 0 .nilFunc .nilFunc 0 0 e.1 e.2 n c (.inr (by decide)) w hT (fun W k => ?_) (fun W k => ?_) (fun W k => ?_)
            · refine (Lex_good x (by omega) la la.length rfl xa W (lt W k)).mono ?_
              rintro e w' ⟨⟨p, c, rfl, _⟩, g⟩
              exact ⟨⟨_, _, _, rfl⟩, g⟩
            · refine (Lex_bad y (by omega) e.1 e.2 (by rw [xb]) W (lt W k)).mono ?_
              rintro e w' ⟨rfl, g⟩
              exact ⟨⟨_, _, _, rfl⟩, g⟩
            · exact Lex_bad (x ++ 10 :: y) (by simp; omega) n c hz W (lt W k)
        | some e =>
          obtain ⟨n, c, hz⟩ := join_bad (a := x) (b := y) (.inl (by rw [xa]; simp))
          have LY : ∃ ey q1 q2 : Int, ∀ W, Below w.heap.size w W → Calls Tryd.prog 6 #[.string (St y)] W fun e w' => (∃ p k c, e = .returned (.tuple #[.slice p k c, .agg #[.int .i64 q1, .int .i64 q2], .int .i64 ey])) ∧ Below W.heap.size W w' := by
            cases eb with
            | none =>
              refine ⟨0, 0, 0, fun W k => (Lex_good y (by omega) lb lb.length rfl xb W (lt W k)).mono ?_⟩
              rintro e w' ⟨⟨p, c, rfl, _⟩, g⟩
              exact ⟨⟨_, _, _, rfl⟩, g⟩
            | some f =>
              refine ⟨120, f.1, f.2, fun W k => (Lex_bad y (by omega) f.1 f.2 (by rw [xb]) W (lt W k)).mono ?_⟩
              rintro e w' ⟨rfl, g⟩
              exact ⟨⟨_, _, _, rfl⟩, g⟩
          obtain ⟨ey, q1, q2, LY⟩ := LY
          refine joins_bad x y h1 h2 120 ey 0 .nilFunc .nilFunc e.1 e.2 q1 q2 n c (.inl (by decide)) w hT (fun W k => ?_) LY (fun W k => ?_)
          · refine (Lex_bad x (by omega) e.1 e.2 (by rw [xa]) W (lt W k)).mono ?_
            rintro e w' ⟨rfl, g⟩
            exact ⟨⟨_, _, _, rfl⟩, g⟩
          · exact Lex_bad (x ++ 10 :: y) (by simp; omega) n c hz W (lt W k)
end Go.Proofs.YtmpagjijjahohabDoor.L12
