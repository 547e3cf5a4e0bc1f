/- The walk of layer 11's statement BootWords: it returns true; of what was there nothing has turned. -/
import Derived.Test.YtmpagjijjahohaaGreatDoorBootGQ
namespace Go.Proofs.YtmpagjijjahohaaGreatDoor.B11
open Go.RowKit
set_option linter.unusedVariables false
theorem bF_vec (nw : Int) {i : Nat} (hi : i < 128) : bF nw (64 + i) = vW i := by
  unfold bF
  rw [if_neg (by omega), show 64 + i - 64 = i by omega]
  exact bW_vec nw hi
theorem bF_low (nw : Int) {i : Nat} (hi : i < 64) : bF nw i = 0 := by
  unfold bF
  rw [if_pos hi]
/-- What the last part has in hand: the words of a runtime, and where its types lead. -/
structure Led (w wr : World) (g : Nat) (nw : Int) (v : Value) (k : Nat) : Prop where
  low : ∀ i, i < 405 → wr.cell? ⟨g, i, none⟩ = some (.int .u32 (bF nw i))
  row : wr.ownsRow w.heap.size 3 1 v (tos k).length (ivs (tos k))
  typ : ∃ cur, wr.heap[g]? = some (.cells cur 32 (0, 0))
  g : Below w.heap.size w wr
  tab : I2.Tab wr
theorem Led.bel {w wr w' : World} {g : Nat} {nw : Int} {v : Value} {k : Nat} (h : Led w wr g nw v k) (b : Below wr.heap.size wr w') : Led w w' g nw v k :=
  ⟨fun i hi => bel_cell b (h.low i hi), A7.own_same h.row fun j hj => b.block j (h.row.lt j hj).2, by obtain ⟨cur, hc⟩ := h.typ; exact ⟨cur, bel_heap b hc⟩, bel_trans h.g b, A7.tab_bel h.tab b⟩
set_option maxRecDepth 100000 in
set_option maxHeartbeats 8000000 in
theorem bootWords_walk (nw : Int) (s : Value) (m : Nat) (xs : Nat → Int) (w : World) (hT : I2.Tab w) (hs : Sl .i64 w s m xs) : Calls Tryz.prog 3 #[.int .i64 nw, s] w fun e w' => e = .returned (.bool true) ∧ Below w.heap.size w w' := by
  obtain ⟨p, c, rfl, hc⟩ := hs
  have HC : Hid (∀ W, Below w.heap.size w W → ∀ i, i < m → ∃ b o, p = some ⟨b, o, none⟩ ∧ W.cell? ⟨b, o + i, none⟩ = some (.int .i64 (xs i))) := fun W k i hi => by
    obtain ⟨b, o, hp, h⟩ := hc (by omega)
    exact ⟨b, o, hp, bel_cell k (h i hi)⟩
  have HT := Lib.hid hT
  have DK : Hid (w.heap.size ≠ 0) := by have := tab_pos hT; unfold Hid; omega
  clear hc hT
  go_enter Tryz.func3, Tryz.ntmps3
  go_wp2_with fail
  refine (new_at w).mono ?_; rintro e w1 ⟨rfl, ka, g1⟩
  have SZ : Hid (w.heap.size < w1.heap.size) := A7.heap_lt ka.box
  go_wp2_with fail
  refine (new_at w1).mono ?_; rintro e w2 ⟨rfl, kb, g2⟩
  have A0 : Hid (Ask w w2 w.heap.size w1.heap.size (.slice none 0 0) [] (fun _ => none)) :=
    ⟨Nat.le_of_lt SZ.out, ka.bel g2, kb, World.ownsRow_nil _ _ _ _, fun i hi => ⟨fun h => (by cases h), fun h => (by cases h)⟩, bel_trans g1 g2, A7.tab_bel HT.out (bel_trans g1 g2)⟩
  have DB : Hid (w1.heap.size ≠ w.heap.size) := by have := SZ.out; unfold Hid; omega
  have DB0 : Hid (w1.heap.size ≠ 0) := by have := SZ.out; unfold Hid; omega
  clear ka kb g1 g2
  generalize hb : w1.heap.size = b at A0 DB DB0 ⊢
  clear hb SZ
  by_cases h40 : 40 < m
  · have h40' : (40 : Int) < (m : Int) := by omega
    go_wp2_with fail
    refine (bhead_at w2 A0.out.tab).mono ?_; rintro e w3 ⟨rfl, g3⟩
    have G3 := Lib.hid (bel_trans A0.out.g g3)
    clear g3
    go_wp2_with fail
    go_ret
    exact ⟨rfl, G3.out⟩
  have h40' : ¬ (40 : Int) < (m : Int) := by omega
  go_wp2_with fail
  go_loopw [7, 8] (fun v i wr => ∃ (k : Nat) (L : List Int) (S : Nat → Option Value), k ≤ m ∧ i = .int .i64 k ∧ Ask w wr w.heap.size b v L S ∧ L.length ≤ k) (fun _ i _ => (m - intOf i).toNat)
  case atStart => exact ⟨0, [], _, Nat.zero_le _, rfl, A0.out, Nat.le_refl _⟩
  case round =>
    obtain ⟨k, L, S, hk, rfl, hA, hl⟩ := hrel
    have A := Lib.hid hA
    have HL := Lib.hid hl
    clear A0 hA hl
    by_cases hlt : k < m
    · obtain ⟨bb, oo, rfl, c0⟩ := HC.out _ A.out.g k hlt
      have hlt' : (k : Int) < (m : Int) := by omega
      have hd : decide ((k : Int) ≥ (m : Int)) = false := decide_eq_false (by omega)
      have hL40 : L.length ≤ 40 := by have := HL.out; omega
      obtain ⟨x, hx⟩ : ∃ x, xs k = x := ⟨_, rfl⟩
      have CX : Hid (∀ W, Below w.heap.size w W → W.cell? ⟨bb, oo + k, none⟩ = some (.int .i64 x)) := fun W gW => by
        obtain ⟨b', o', e1, e2⟩ := HC.out W gW k hlt
        injection e1 with e1; injection e1 with e1 e3
        subst e1; subst e3
        rw [hx] at e2
        exact e2
      rw [hx] at c0
      clear hx
      by_cases hv : 2 ≤ x ∧ x ≤ 32
      · obtain ⟨i, hi, hxi⟩ : ∃ i : Nat, i < 31 ∧ (i : Int) + 2 = x := ⟨(x - 2).toNat, by omega, by omega⟩
        have hx2 : (2 : Int) ≤ x := hv.1
        have hx32 : x ≤ 32 := hv.2
        have C := words_of w.heap.size i hi S L.length (by omega) _ A.out.tab A.out.ka DK.out
        rw [hxi] at C
        have CW := Lib.hid C
        have HI := Lib.hid hi
        have HX := Lib.hid hxi
        clear C hi hxi hv
        go_wp2_with fail
        refine CW.out.mono ?_; rintro e w3 ⟨v3, rfl, o3, S3, n3, K3, s1, s2, s3, g3⟩
        obtain ⟨g9, c9, rfl⟩ := own_form o3 (by decide)
        by_cases hm : x ∈ L
        · have A3 := Lib.hid (A.out.old (Nat.le_refl _) DB.out DK.out HI.out (by rw [HX.out]; exact hm) K3 s1 s2 s3 g3)
          have c0 := CX.out _ A3.out.g
          have HM := Lib.hid hm
          clear o3 K3 s1 s2 s3 g3 hm CW
          go_wp2_with fail
          refine (has_at _ L x _ _ A3.out.row (by omega)).mono ?_; rintro e w4 ⟨rfl, rfl⟩
          rw [decide_eq_true HM.out]
          go_wp2_with fail
          go_roundw
          case rel => exact ⟨k + 1, L, S3, by omega, by first | rfl | simp, A3.out, by have := HL.out; omega⟩
          case measure => simp only [intOf]; omega
        · obtain ⟨q1, q2, q3, q4, q5, q6⟩ := A.out.new (Nat.le_refl _) DB.out DK.out HI.out (by rw [HX.out]; exact hm) K3 s1 s2 s3 g3
          rw [HX.out] at q6
          have Q1 := Lib.hid q1
          have Q2 := Lib.hid q2
          have Q3 := Lib.hid q3
          have Q4 := Lib.hid q4
          have Q5 := Lib.hid q5
          have Q6 := Lib.hid q6
          have c0 := CX.out _ Q4.out
          have HM := Lib.hid hm
          clear o3 K3 s1 s2 s3 g3 hm CW q1 q2 q3 q4 q5 q6
          go_wp2_with fail
          refine (has_at _ L x _ _ Q3.out (by omega)).mono ?_; rintro e w4 ⟨rfl, rfl⟩
          rw [decide_eq_false HM.out]
          have gA : Hid (Below w3.heap.size w3 (w3.alloc (.cells #[.int .i64 x] 3))) := (Below.refl _ _).alloc (Nat.le_refl _) _
          have rA := Lib.hid (A7.own_same Q3.out fun j hj => gA.out.block j (Q3.out.lt j hj).2)
          have cA : Hid ((w3.alloc (.cells #[.int .i64 x] 3)).heap[w3.heap.size]? = some (.cells #[.int .i64 x] 3 (0, 0))) := heap_alloc_last _ _
          have bA : Hid (w.heap.size ≤ (w3.alloc (.cells #[.int .i64 x] 3)).heap.size) := Nat.le_trans Q4.out.size gA.out.size
          go_wp2_with (refine wpList_num rfl _ _ rfl w.heap.size _ L x rfl rA.out w3.heap.size 1 rfl cA.out (by omega) bA.out ?_; intro g' c' w5 o5 g5)
          have hown : ∀ j, u7.ownBlock = some j → ∃ cur, (w3.alloc (.cells #[.int .i64 x] 3)).heap[j]? = some (.cells cur 3 (0, 0)) := fun j hj => A7.own_typ rA.out hj
          have A5 : Hid (Ask w w5 w.heap.size b (.slice (some ⟨g', 0, none⟩) (L.length + 1) c') (L ++ [x]) S3) :=
            ⟨A.out.gb, by have := (Q1.out.bel gA.out).grown g5 hown; rw [show ((L ++ [x]).length : Int) = (L.length : Int) + 1 by simp]; exact this,
             (Q2.out.bel gA.out).grown g5 hown, o5, Q6.out,
             (bel_trans Q4.out gA.out).trans ((Below.refl _ _).grown g5 bA.out fun k hk => (rA.out.lt k hk).1),
             tab_num (A7.tab_bel Q5.out gA.out) rA.out g5 (Nat.pos_of_ne_zero DK.out)⟩
          go_roundw
          case rel => exact ⟨k + 1, L ++ [x], S3, by omega, by first | rfl | simp, A5.out, by have := HL.out; simp; omega⟩
          case measure => simp only [intOf]; omega
      · have CW := Lib.hid (words_arg w.heap.size x hv S L.length _ A.out.ka)
        have HV := Lib.hid hv
        clear hv
        go_wp2_with fail
        refine CW.out.mono ?_; rintro e w3 ⟨rfl, g3⟩
        have A3 := Lib.hid (A.out.bel g3)
        have c0 := CX.out _ A3.out.g
        clear CW g3
        by_cases h2 : 2 ≤ x
        · have h32 : ¬ x ≤ 32 := fun h => HV.out ⟨h2, h⟩
          go_wp2_with fail
          go_roundw
          case rel => exact ⟨k + 1, L, S, by omega, by first | rfl | simp, A3.out, by have := HL.out; omega⟩
          case measure => simp only [intOf]; omega
        · go_wp2_with fail
          go_roundw
          case rel => exact ⟨k + 1, L, S, by omega, by first | rfl | simp, A3.out, by have := HL.out; omega⟩
          case measure => simp only [intOf]; omega
    · obtain rfl : k = m := by omega
      obtain ⟨p5, c5, rfl, _⟩ := own_nums A.out.row
      have hL40 : L.length ≤ 40 := by have := HL.out; omega
      clear HL HC hk
      go_wp2_with fail
      refine (count_is A.out.ka).mono ?_; rintro e w3 ⟨rfl, rfl⟩
      by_cases hv : 2 ≤ nw ∧ nw ≤ 32
      · obtain ⟨i, hi, hxi⟩ : ∃ i : Nat, i < 31 ∧ (i : Int) + 2 = nw := ⟨(nw - 2).toNat, by omega, by omega⟩
        have hx2 : ¬ nw < 2 := by omega
        have hx32 : ¬ (32 : Int) < nw := by omega
        have C := words_of w.heap.size i hi S L.length (by omega) _ A.out.tab A.out.ka DK.out
        rw [hxi] at C
        have CW := Lib.hid C
        have HI := Lib.hid hi
        have HX := Lib.hid hxi
        clear C hi hxi hv
        go_wp2_with fail
        refine CW.out.mono ?_; rintro e w4 ⟨v4, rfl, o4, S4, n4, K4, s1, s2, s3, g4⟩
        obtain ⟨ga, ca, rfl⟩ := own_form o4 (by decide)
        have KB4 := Lib.hid (A.out.kb.other g4 DB.out)
        have T4 := Lib.hid (tab_only A.out.tab g4 DK.out)
        have G4 := Lib.hid (only_bel A.out.g g4 (Nat.le_refl _))
        have O4 := Lib.hid (own_lessD o4 (Nat.zero_le _))
        clear CW K4 s1 s2 s3 g4 o4
        have C := words_of b i HI.out (fun _ => none) 0 (by decide) _ T4.out KB4.out DB0.out
        rw [HX.out] at C
        have CW := Lib.hid C
        clear C
        go_wp2_with fail
        refine CW.out.mono ?_; rintro e w5 ⟨v5, rfl, o5, S5, n5, K5, s1, s2, s3, g5⟩
        obtain ⟨gb, cb, rfl⟩ := own_form o5 (by decide)
        have hn5 : n5 = 1 := by rw [s3]; rfl
        subst hn5
        have S51 := Lib.hid s1
        have O4 := Lib.hid (World.ownsRow.kept O4.out g5 (.inr (own_far KB4.out.box O4.out)))
        have O5 := Lib.hid (own_lessD o5 (Nat.zero_le _))
        have hbw : w.heap.size ≤ b := A.out.gb
        have G5 := Lib.hid (only_bel G4.out g5 hbw)
        have T5 := Lib.hid (tab_only T4.out g5 DB0.out)
        have KB5 := Lib.hid K5
        clear CW K5 s1 s2 s3 g5 o5 KB4 T4 G4
        have C := start_of b i HI.out S5 1 (by decide) _ T5.out KB5.out DB0.out
        rw [HX.out] at C
        have CW := Lib.hid C
        clear C
        go_wp2_with fail
        refine CW.out.mono ?_; rintro e w6 ⟨rfl, S6, n6, K6, s1, s2, s3, g6⟩
        have hn6 : n6 = 1 := by
          obtain ⟨z, hz⟩ := Option.isSome_iff_exists.1 S51.out
          rw [s3, hz]; rfl
        subst hn6
        have O4 := Lib.hid (World.ownsRow.kept O4.out g6 (.inr (own_far KB5.out.box O4.out)))
        have O5 := Lib.hid (World.ownsRow.kept O5.out g6 (.inr (own_far KB5.out.box O5.out)))
        have G6 := Lib.hid (only_bel G5.out g6 hbw)
        have T6 := Lib.hid (tab_only T5.out g6 DB0.out)
        have KB6 := Lib.hid K6
        clear CW K6 s1 s2 s3 g6 KB5 T5 G5 S51 HX HI hbw
        go_wp2_with fail
        refine (M5.words_same _ _ 405 (bF nw) (bF nw) _ (by decide) (own_sl O4.out) (own_sl O5.out) (fun _ _ => rfl)).mono ?_; rintro e w7 ⟨rfl, g7⟩
        have O4 := Lib.hid (A7.own_same O4.out fun j hj => g7.block j (O4.out.lt j hj).2)
        have G7 := Lib.hid (bel_trans G6.out g7)
        have T7 := Lib.hid (A7.tab_bel T6.out g7)
        have KB7 := Lib.hid (KB6.out.bel g7)
        clear g7 G6 T6 KB6 O5
        obtain ⟨g9, e9, hc⟩ := own_cells O4.out (by decide)
        injection e9 with e9
        injection e9 with e9 _ _
        subst e9
        have L7 : Hid (Led w w7 ga nw (.slice none 0 0) 0) := ⟨hc, World.ownsRow_nil _ _ _ _, A7.own_typ O4.out rfl, G7.out, T7.out⟩
        clear hc O4 G7 T7
        go_wp2_with fail
        refine (count_is KB7.out).mono ?_; rintro e w8 ⟨rfl, rfl⟩
        go_wp2_with fail
        refine (zeros_of ga 405 ca (by decide) _ fun i hi => (L7.out.low i (by omega)).trans (by rw [bF_low nw hi])).mono ?_; rintro e w9 ⟨rfl, rfl⟩
        clear KB7 DB DB0 A
        go_wp2_with fail
        go_loopw [18, 19] (fun v i wr => ∃ k : Nat, k ≤ 32 ∧ i = .int .i64 k ∧ Led w wr ga nw v k) (fun _ i _ => (32 - intOf i).toNat)
        case atStart => exact ⟨0, by decide, rfl, L7.out⟩
        case round =>
          obtain ⟨k, hk, rfl, hA⟩ := hrel
          have A := Lib.hid hA
          clear L7 hA
          by_cases hlt : k < 32
          · have hlt' : (k : Int) < 32 := by omega
            have TY := Lib.hid (fun W => types_at k hlt W)
            have cs : ∀ W, Below wr.heap.size wr W → ∀ j, j < 4 → W.cell? ⟨ga, 64 + 4 * k + j, none⟩ = some (.int .u32 (vW (4 * k + j))) := fun W hW j hj => by
              rw [bel_cell hW (A.out.low (64 + 4 * k + j) (by omega)), show 64 + 4 * k + j = 64 + (4 * k + j) by omega, bF_vec nw (by omega)]
            cases hH : hasH k with
            | true =>
              have hkk : k = 1 ∨ k = 2 ∨ k = 3 ∨ k = 4 ∨ k = 17 ∨ k = 18 ∨ k = 19 ∨ k = 20 ∨ k = 21 ∨ k = 22 ∨ k = 23 ∨ k = 24 ∨ k = 25 ∨ k = 26 ∨ k = 27 ∨ k = 28 ∨ k = 29 ∨ k = 30 ∨ k = 31 := by
                have := hH
                simp [hasH] at this
                omega
              obtain ⟨n1, n2⟩ := tos_new hlt hH
              obtain ⟨z, hz⟩ : ∃ z : Int, 256 + 4 * (tgt k : Int) = z := ⟨_, rfl⟩
              have hz0 : 0 ≤ z := by omega
              have hz1 : z < 1600 := by omega
              have hzw : IntKind.i64.wrap z = z := IntWalk.i64_in _ (by omega)
              have hz2 : ¬ (1600 : Int) ≤ z := by omega
              have CL := leads_yes ga ca k hkk wr (fun j hj => cs wr (Below.refl _ _) j hj)
              rw [hz] at CL n1
              have CW := Lib.hid CL
              have N1 := Lib.hid n1
              have HS := Lib.hid (tos_succ k)
              rw [hH, hz] at HS
              have HH := Lib.hid hH
              have hlen := tos_len k
              rw [hH] at TY
              clear CL n1 hkk cs hH hz n2
              go_wp2_with fail
              refine CW.out.mono ?_; rintro e w8 ⟨rfl, rfl⟩
              go_wp2_with fail
              refine (TY.out _).mono ?_; rintro e w8 ⟨rfl, rfl⟩
              go_wp2_with fail
              refine (has_at _ (tos k) z _ _ A.out.row (by omega)).mono ?_; rintro e w8 ⟨rfl, rfl⟩
              rw [decide_eq_false N1.out]
              go_wp2_with fail
              refine (TY.out _).mono ?_; rintro e w8 ⟨rfl, rfl⟩
              have gA : Hid (Below wr.heap.size wr (wr.alloc (.cells #[.int .i64 z] 3))) := (Below.refl _ _).alloc (Nat.le_refl _) _
              have rA := Lib.hid (A.out.bel gA.out)
              have cA : Hid ((wr.alloc (.cells #[.int .i64 z] 3)).heap[wr.heap.size]? = some (.cells #[.int .i64 z] 3 (0, 0))) := heap_alloc_last _ _
              have bA : Hid (w.heap.size ≤ (wr.alloc (.cells #[.int .i64 z] 3)).heap.size) := rA.out.g.size
              go_wp2_with (refine wpList_num rfl _ _ rfl w.heap.size _ (tos k) z rfl rA.out.row wr.heap.size 1 rfl cA.out (by omega) bA.out ?_; intro g' c' w9 o9 g9)
              have A5 : Hid (Led w w9 ga nw (.slice (some ⟨g', 0, none⟩) ((tos k).length + 1) c') (k + 1)) := by
                obtain ⟨cur, ht⟩ := rA.out.typ
                have hne : some ga ≠ u18.ownBlock := fun e => by
                  obtain ⟨cur', hc'⟩ := A7.own_typ rA.out.row e.symm
                  rw [ht] at hc'
                  injection hc' with hc'
                  injection hc' with _ hc' _
                  exact absurd hc' (by decide)
                have hga := g9.block ga (A7.heap_lt ht) hne
                refine ⟨fun i hi => ?_, ?_, ⟨cur, hga.trans ht⟩, (rA.out.g).trans ((Below.refl _ _).grown g9 bA.out fun k hk => (rA.out.row.lt k hk).1), tab_num rA.out.tab rA.out.row g9 (Nat.pos_of_ne_zero DK.out)⟩
                · rw [← rA.out.low i hi]
                  unfold World.cell?
                  rw [hga]
                · rw [HS.out]; exact o9
              go_roundw
              case rel => exact ⟨k + 1, by omega, by first | rfl | simp, A5.out⟩
              case measure => simp only [intOf]; omega
            | false =>
              have hkk : k = 0 ∨ k = 5 ∨ k = 6 ∨ k = 7 ∨ k = 8 ∨ k = 9 ∨ k = 10 ∨ k = 11 ∨ k = 12 ∨ k = 13 ∨ k = 14 ∨ k = 15 ∨ k = 16 := by
                have := hH
                simp [hasH] at this
                omega
              have CW := Lib.hid (leads_no ga ca k hkk wr cs)
              have HS := Lib.hid (tos_succ k)
              rw [hH] at HS
              rw [hH] at TY
              clear hkk cs hH
              go_wp2_with fail
              refine CW.out.mono ?_; rintro e w8 ⟨rfl, g8⟩
              have A8 := Lib.hid (A.out.bel g8)
              clear g8
              go_wp2_with fail
              refine (TY.out _).mono ?_; rintro e w9 ⟨rfl, rfl⟩
              go_wp2_with fail
              refine (TY.out _).mono ?_; rintro e w9 ⟨rfl, rfl⟩
              go_wp2_with fail
              have A5 : Hid (Led w w8 ga nw u18 (k + 1)) := ⟨A8.out.low, by rw [HS.out]; exact A8.out.row, A8.out.typ, A8.out.g, A8.out.tab⟩
              go_roundw
              case rel => exact ⟨k + 1, by omega, by first | rfl | simp, A5.out⟩
              case measure => simp only [intOf]; omega
          · obtain rfl : k = 32 := by omega
            have HT9 := Lib.hid A.out.tab
            have G9 := Lib.hid A.out.g
            clear A
            go_wp2_with fail
            refine (bhead_at _ HT9.out).mono ?_; rintro e w9 ⟨rfl, g9⟩
            have G10 := Lib.hid (bel_trans G9.out g9)
            clear g9
            go_wp2_with fail
            go_ret
            exact ⟨rfl, G10.out⟩
      · have C1 := Lib.hid (words_arg w.heap.size nw hv S L.length _ A.out.ka)
        have HV := Lib.hid hv
        clear hv
        go_wp2_with fail
        refine C1.out.mono ?_; rintro e w4 ⟨rfl, g4⟩
        have A4 := Lib.hid (A.out.bel g4)
        have C2 := Lib.hid (words_arg b nw HV.out _ 0 _ A4.out.kb)
        clear C1 g4 A
        go_wp2_with fail
        refine C2.out.mono ?_; rintro e w5 ⟨rfl, g5⟩
        have A5 := Lib.hid (A4.out.bel g5)
        have C3 := Lib.hid (start_arg b nw HV.out _ 0 _ A5.out.kb)
        clear C2 g5 A4
        go_wp2_with fail
        refine C3.out.mono ?_; rintro e w6 ⟨rfl, g6⟩
        have A6 := Lib.hid (A5.out.bel g6)
        clear C3 g6 A5
        by_cases h2 : nw < 2
        · go_wp2_with fail
          refine (count_is A6.out.kb).mono ?_; rintro e w7 ⟨rfl, rfl⟩
          go_wp2_with fail
          refine (bhead_at _ A6.out.tab).mono ?_; rintro e w7 ⟨rfl, g7⟩
          have G7 := Lib.hid (bel_trans A6.out.g g7)
          clear g7
          go_wp2_with fail
          go_ret
          exact ⟨rfl, G7.out⟩
        · have h32 : (32 : Int) < nw := by have := HV.out; omega
          go_wp2_with fail
          refine (count_is A6.out.kb).mono ?_; rintro e w7 ⟨rfl, rfl⟩
          go_wp2_with fail
          refine (bhead_at _ A6.out.tab).mono ?_; rintro e w7 ⟨rfl, g7⟩
          have G7 := Lib.hid (bel_trans A6.out.g g7)
          clear g7
          go_wp2_with fail
          go_ret
          exact ⟨rfl, G7.out⟩
end Go.Proofs.YtmpagjijjahohaaGreatDoor.B11
