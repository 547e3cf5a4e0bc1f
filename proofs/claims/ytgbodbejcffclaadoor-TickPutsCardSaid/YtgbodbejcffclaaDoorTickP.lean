/- TickPuts (layer 9), walked. -/
import Derived.Test.YtgbodbejcffclaaDoorTickC
import Derived.Test.YtgbodbejcffclaaDoorAsmTri
import Derived.Laws.IdiomStrings
namespace Go.Proofs.YtgbodbejcffclaaDoor.A7
open Go.RowKit Go.Maps T9
set_option linter.unusedVariables false
set_option maxRecDepth 100000 in
theorem refName_at (k : Nat) (w : World) (h1 : 1 ≤ k) (h2 : k ≤ 15) : Calls Tryd.prog 6 #[.int .i64 k] w fun e w' => e = .returned (.string (nm k)) ∧ Below w.heap.size w w' := by
  have C : ∀ (V : World) (g : Nat) (u : UInt8), V.heap[g]? = some (.cells #[.int .u8 u.toNat] 5 (0, 0)) → (convert 45 9 (.slice (some ⟨g, 0, none⟩) 1 1)).run Tryd.prog V = .ok (.string ⟨#[u]⟩) V := fun V g u h =>
    run_convert_bytes_back V _ _ 5 ⟨g, 0, none⟩ 1 [u] Tryd.underlying45 Tryd.underlying5 Tryd.underlying9 (fun j hj => by
      obtain rfl : j = 0 := by simpa using hj
      rw [add_off, cell_of_row _ _ _ _ _ _ h]; rfl)
  have B : ∀ u : Int, Below w.heap.size w (w.alloc (.cells #[.int .u8 u] 5)) := fun u => (Below.refl _ _).alloc (Nat.le_refl _) _
  have hN : ∀ (n : Nat) (V : World), n ≤ 255 → V.heap[w.heap.size]? = some (.cells #[.int .u8 (n : Int)] 5 (0, 0)) → (convert 45 9 (.slice (some ⟨w.heap.size, 0, none⟩) 1 1)).run Tryd.prog V = .ok (.string ⟨#[n.toUInt8]⟩) V := fun n V hn h => C V _ n.toUInt8 (by rw [h]; simp [Nat.mod_eq_of_lt (by omega : n < 256)])
  rcases ks h1 h2 with rfl | rfl | rfl | rfl | rfl | rfl | rfl | rfl | rfl | rfl | rfl | rfl | rfl | rfl | rfl
  · have c := hN 49 _ (by decide) (heap_alloc_last w (.cells #[.int .u8 49] 5))
    clear C hN
    go_enter Tryd.func6, Tryd.ntmps6
    go_wp2
    go_ret
    exact ⟨by kernel_rfl, B _⟩
  · have c := hN 50 _ (by decide) (heap_alloc_last w (.cells #[.int .u8 50] 5))
    clear C hN
    go_enter Tryd.func6, Tryd.ntmps6
    go_wp2
    go_ret
    exact ⟨by kernel_rfl, B _⟩
  · have c := hN 51 _ (by decide) (heap_alloc_last w (.cells #[.int .u8 51] 5))
    clear C hN
    go_enter Tryd.func6, Tryd.ntmps6
    go_wp2
    go_ret
    exact ⟨by kernel_rfl, B _⟩
  · have c := hN 52 _ (by decide) (heap_alloc_last w (.cells #[.int .u8 52] 5))
    clear C hN
    go_enter Tryd.func6, Tryd.ntmps6
    go_wp2
    go_ret
    exact ⟨by kernel_rfl, B _⟩
  · have c := hN 53 _ (by decide) (heap_alloc_last w (.cells #[.int .u8 53] 5))
    clear C hN
    go_enter Tryd.func6, Tryd.ntmps6
    go_wp2
    go_ret
    exact ⟨by kernel_rfl, B _⟩
  · have c := hN 54 _ (by decide) (heap_alloc_last w (.cells #[.int .u8 54] 5))
    clear C hN
    go_enter Tryd.func6, Tryd.ntmps6
    go_wp2
    go_ret
    exact ⟨by kernel_rfl, B _⟩
  · have c := hN 55 _ (by decide) (heap_alloc_last w (.cells #[.int .u8 55] 5))
    clear C hN
    go_enter Tryd.func6, Tryd.ntmps6
    go_wp2
    go_ret
    exact ⟨by kernel_rfl, B _⟩
  · have c := hN 56 _ (by decide) (heap_alloc_last w (.cells #[.int .u8 56] 5))
    clear C hN
    go_enter Tryd.func6, Tryd.ntmps6
    go_wp2
    go_ret
    exact ⟨by kernel_rfl, B _⟩
  · have c := hN 57 _ (by decide) (heap_alloc_last w (.cells #[.int .u8 57] 5))
    clear C hN
    go_enter Tryd.func6, Tryd.ntmps6
    go_wp2
    go_ret
    exact ⟨by kernel_rfl, B _⟩
  · have c := hN 48 _ (by decide) (heap_alloc_last w (.cells #[.int .u8 48] 5))
    clear C hN
    go_enter Tryd.func6, Tryd.ntmps6
    go_wp2
    go_ret
    exact ⟨by kernel_rfl, B _⟩
  · have c := hN 49 _ (by decide) (heap_alloc_last w (.cells #[.int .u8 49] 5))
    clear C hN
    go_enter Tryd.func6, Tryd.ntmps6
    go_wp2
    go_ret
    exact ⟨by kernel_rfl, B _⟩
  · have c := hN 50 _ (by decide) (heap_alloc_last w (.cells #[.int .u8 50] 5))
    clear C hN
    go_enter Tryd.func6, Tryd.ntmps6
    go_wp2
    go_ret
    exact ⟨by kernel_rfl, B _⟩
  · have c := hN 51 _ (by decide) (heap_alloc_last w (.cells #[.int .u8 51] 5))
    clear C hN
    go_enter Tryd.func6, Tryd.ntmps6
    go_wp2
    go_ret
    exact ⟨by kernel_rfl, B _⟩
  · have c := hN 52 _ (by decide) (heap_alloc_last w (.cells #[.int .u8 52] 5))
    clear C hN
    go_enter Tryd.func6, Tryd.ntmps6
    go_wp2
    go_ret
    exact ⟨by kernel_rfl, B _⟩
  · have c := hN 53 _ (by decide) (heap_alloc_last w (.cells #[.int .u8 53] 5))
    clear C hN
    go_enter Tryd.func6, Tryd.ntmps6
    go_wp2
    go_ret
    exact ⟨by kernel_rfl, B _⟩
theorem refName_no (n : Int) (w : World) (h : ¬ (1 ≤ n ∧ n ≤ 15)) : Calls Tryd.prog 6 #[.int .i64 n] w fun e w' => e = .returned (.string ⟨#[]⟩) ∧ w' = w := by
  by_cases h1 : n < 1
  · clear h
    go_enter Tryd.func6, Tryd.ntmps6
    go_wp2
    go_ret
    exact ⟨rfl, rfl⟩
  · have h2 : 15 < n := by omega
    clear h
    go_enter Tryd.func6, Tryd.ntmps6
    go_wp2
    go_ret
    exact ⟨rfl, rfl⟩
theorem tX_words {k : Nat} (h1 : 1 ≤ k) (h2 : k ≤ 15) : (tX k 0).word = 1478524928 + 4 * (k : Int) ∧ (tX k 1).word = 69304321 ∧ (tX k 2).word = 1545633792 + 4 * (k : Int) ∧ (tX k 3).word = 2147483648 := by
  refine ⟨?_, by kernel_rfl, ?_, by kernel_rfl⟩ <;>
  rcases ks h1 h2 with rfl | rfl | rfl | rfl | rfl | rfl | rfl | rfl | rfl | rfl | rfl | rfl | rfl | rfl | rfl <;> kernel_rfl
theorem refWords_at (k : Nat) (w : World) (h1 : 1 ≤ k) (h2 : k ≤ 15) : Calls Tryd.prog 12 #[.int .i64 k] w fun e w' => ∃ v, e = .returned v ∧ Sl .u32 w' v 4 (fun i => (tX k i).word) ∧ Below w.heap.size w w' := by
  have i1 : (1 : Int) ≤ k := by omega
  have i2 : (k : Int) ≤ 15 := by omega
  obtain ⟨e0, e1, e2, e3⟩ := tX_words h1 h2
  have S : Hid (Sl .u32 (w.alloc (.cells #[.int .u32 (1478524928 + 4 * (k : Int)), .int .u32 69304321, .int .u32 (1545633792 + 4 * (k : Int)), .int .u32 2147483648] 49)) (.slice (some ⟨w.heap.size, 0, none⟩) 4 4) 4 (fun i => (tX k i).word)) := by
    refine (lit_sl [1478524928 + 4 * (k : Int), 69304321, 1545633792 + 4 * (k : Int), 2147483648] 4 rfl w).congr fun i hi => ?_
    rcases (by omega : i = 0 ∨ i = 1 ∨ i = 2 ∨ i = 3) with rfl | rfl | rfl | rfl
    · exact e0.symm
    · exact e1.symm
    · exact e2.symm
    · exact e3.symm
  clear e0 e1 e2 e3
  go_enter Tryd.func12, Tryd.ntmps12
  go_wp2
  go_ret
  exact ⟨_, rfl, S.out, (Below.refl _ _).alloc (Nat.le_refl _) _⟩
theorem h3_look : look (tk AS.nil 3).ms (nm 3) = some 0 := by kernel_rfl
theorem h3_n : (tk AS.nil 3).n = 4 := by kernel_rfl
theorem h3_at : atV (tk AS.nil 3) ⟨#[116, 105, 99, 107, 51]⟩ = 0 ∧ atE (tk AS.nil 3) ⟨#[116, 105, 99, 107, 51]⟩ = 0 := ⟨by kernel_rfl, by kernel_rfl⟩
theorem h3_sz : (⟨#[116, 105, 99, 107, 51]⟩ : ByteArray).size ≤ maxLen := of_decide_eq_true (by kernel_rfl)
theorem h3_ws : (List.range 4).map (tk AS.nil 3).ws = [1478524940, 69304321, 1545633804, 2147483648] := by kernel_rfl
theorem nm15 : nm 15 = ⟨#[116, 105, 99, 107, 49, 53]⟩ := by kernel_rfl
set_option maxHeartbeats 4000000 in
set_option maxRecDepth 20000 in
theorem thead_at (w : World) (hT : I2.Tab w) : Calls Tryd.prog 9 #[] w fun e w' => e = .returned (.bool true) ∧ Below w.heap.size w w' := by
  have HT := Lib.hid hT
  clear hT
  go_enter Tryd.func9, Tryd.ntmps9
  go_wp2_with fail
  refine (New_at (K := fun _ => False) w HT.out (fun _ e => e.elim)).mono ?_; rintro e w1 ⟨a, Ga, rfl, A1, g1, low1⟩
  have H1 := Lib.hid (Has.start A1)
  have G1 := Lib.hid g1
  have L1 := Lib.hid low1
  have BB : Hid (∀ W, Turns Ga w1 W → Below w.heap.size w W) := fun W T => Turns.bel G1.out T L1.out
  clear A1 g1 low1
  go_wp2_with fail
  refine (Tick_yes 3 (by decide) (by decide) H1.out rfl (by decide) (by decide)).mono ?_; rintro e w2 ⟨rfl, H2⟩
  have H2 := Lib.hid H2
  clear H1
  go_wp2_with fail
  obtain ⟨G, K, A⟩ := H2.out.see
  refine (Words_nil A rfl).mono ?_; rintro e w3 ⟨l, rfl, own, g3⟩
  rw [h3_n] at own
  have SL := Lib.hid ((own_sl own).congr (range_eq h3_ws))
  have H3 := Lib.hid (H2.out.bel g3)
  clear A own g3 H2
  go_wp2_with fail
  obtain ⟨G, K, A⟩ := H3.out.see
  refine (At_at ⟨#[116, 105, 99, 107, 51]⟩ h3_sz A).mono ?_; rintro e w4 ⟨rfl, rfl⟩
  rw [h3_at.1, h3_at.2]
  clear A
  obtain ⟨pl, cl, rfl, _⟩ := SL.out
  have gl : Below w4.heap.size w4 (w4.alloc (.cells ([1478524940, 69304321, 1545633804, 2147483648].map (Value.int .u32)).toArray 49)) := (Below.refl _ _).alloc (Nat.le_refl _) _
  have SS := Lib.hid (Same_yes _ _ 4 _ _ _ (by decide) (SL.out.bel gl) (lit_sl _ 4 rfl w4) (fun _ _ => rfl))
  have GL := Lib.hid gl
  clear gl
  go_wp2_with fail
  refine SS.out.mono ?_; rintro e w5 ⟨rfl, g5⟩
  have H5 := Lib.hid (H3.out.bel (bel_trans GL.out g5))
  clear g5 SS GL H3 SL
  go_wp2_with fail
  refine (Tick_arg 16 (by decide) H5.out).mono ?_; rintro e w6 ⟨rfl, H6⟩
  have H6 := Lib.hid H6
  clear H5
  go_wp2_with fail
  refine (Tick_state 3 (by decide) (by decide) H6.out (by rw [h3_look]; rfl)).mono ?_; rintro e w7 ⟨rfl, H7⟩
  have H7 := Lib.hid H7
  clear H6
  go_wp2_with fail
  refine (Name_at 15 _ (by decide) (by decide)).mono ?_; rintro e w8 ⟨rfl, rfl⟩
  rw [nm15]
  go_wp2_with fail
  refine (Name_no 0 _ (by decide)).mono ?_; rintro e w9 ⟨rfl, rfl⟩
  go_wp2_with fail
  refine (Tick_nil _ 3 _ (.inl rfl)).mono ?_; rintro e w10 ⟨rfl, rfl⟩
  go_wp2_with fail
  refine (All_nil _).mono ?_; rintro e w11 ⟨rfl, g11⟩
  have G11 := Lib.hid (bel_trans (BB.out _ H7.out.turns) g11)
  clear g11 H7
  go_wp2_with fail
  go_ret
  exact ⟨rfl, G11.out⟩
/-- A slice of a row of words. -/
theorem sl_part {w : World} {v : Value} {n : Nat} {f : Nat → Int} (h : Sl .u32 w v n f) (hn : 0 < n) : ∃ g o c, v = .slice (some ⟨g, o, none⟩) n c ∧ ∀ a m c', a + m ≤ n → Sl .u32 w (.slice (some ⟨g, o + a, none⟩) m c') m (fun i => f (a + i)) := by
  obtain ⟨p, c, rfl, h⟩ := h
  obtain ⟨g, o, rfl, hc⟩ := h hn
  exact ⟨g, o, c, rfl, fun a m c' hm => ⟨_, _, rfl, fun _ => ⟨g, o + a, rfl, fun i hi => by have := hc (a + i) (by omega); rw [← Nat.add_assoc] at this; exact this⟩⟩⟩
set_option maxHeartbeats 4000000 in
set_option maxRecDepth 20000 in
theorem puts_walk (n : Int) (there : Bool) (w : World) (hT : I2.Tab w) : Calls Tryd.prog 3 #[.int .i64 n, .bool there] w fun e w' => e = .returned (.bool true) ∧ Below w.heap.size w w' := by
  have HT := Lib.hid hT
  clear hT
  go_enter Tryd.func3, Tryd.ntmps3
  go_wp2_with fail
  refine (New_at (K := fun _ => False) w HT.out (fun _ e => e.elim)).mono ?_; rintro e w1 ⟨a, Ga, rfl, A1, g1, low1⟩
  have A1 := Lib.hid A1
  have G1 := Lib.hid g1
  have L1 := Lib.hid low1
  clear g1 low1
  go_wp2_with fail
  refine (New_at w1 (tab_bel HT.out G1.out) A1.out.klt).mono ?_; rintro e w2 ⟨b, Gb, rfl, B2, g2, low2⟩
  have Ha := Lib.hid (Has.start (A1.out.bel g2))
  have G2 := Lib.hid (bel_trans G1.out g2)
  have dis : Hid (∀ i, Ga i → ¬ Gb i) := fun i h h' => by have := A1.out.lt i h; have := low2 i h'; omega
  have BA : Hid (∀ W, Turns Ga w2 W → Below w.heap.size w W) := fun W T => Turns.bel G2.out T L1.out
  have BB : Hid (∀ i, Gb i → w.heap.size ≤ i) := fun i h => Nat.le_trans G1.out.size (low2 i h)
  have FA := Lib.hid A1.out.far
  have B2 := Lib.hid B2
  have HEAD : Hid (∀ W : World, Below w.heap.size w W → Calls Tryd.prog 9 #[] W fun e w' => e = .returned (.bool true) ∧ Below w.heap.size w w') := fun W k => (thead_at W (tab_bel HT.out k)).mono fun e w' ⟨h1, h2⟩ => ⟨h1, bel_trans k h2⟩
  clear A1 g2 low2 G1 L1
  by_cases hk : 1 ≤ n ∧ n ≤ 15
  · obtain ⟨k, rfl⟩ : ∃ k : Nat, n = k := ⟨n.toNat, by omega⟩
    have h1 : 1 ≤ k := by omega
    have h2 : k ≤ 15 := by omega
    have i1 : (1 : Int) ≤ k := by omega
    have i2 : (k : Int) ≤ 15 := by omega
    clear hk
    go_wp2_with fail
    refine (Name_at k _ h1 h2).mono ?_; rintro e w3 ⟨rfl, rfl⟩
    go_wp2_with fail
    refine (refName_at k _ h1 h2).mono ?_; rintro e w4 ⟨rfl, g4⟩
    have Ha4 := Lib.hid (Ha.out.bel g4)
    have B4 := Lib.hid (B2.out.bel g4)
    clear Ha
    go_wp2_with fail
    refine (Tick_yes k h1 h2 Ha4.out rfl (by decide) (by decide)).mono ?_; rintro e w5 ⟨rfl, Ha5⟩
    have Ha5 := Lib.hid Ha5
    clear Ha4
    go_wp2_with fail
    obtain ⟨G, K, A⟩ := Ha5.out.see
    refine (Words_nil A rfl).mono ?_; rintro e w6 ⟨l, rfl, own, g6⟩
    have en : (tk AS.nil k).n = 4 := by rw [tk_n]; rfl
    rw [en] at own
    have SL := Lib.hid ((own_sl own).congr (f' := fun i => (tX k i).word) (fun i hi => by
      rcases (by omega : i = 0 ∨ i = 1 ∨ i = 2 ∨ i = 3) with rfl | rfl | rfl | rfl <;> rfl))
    have Ha6 := Lib.hid (Ha5.out.bel g6)
    have OW := Lib.hid own
    have far6 : Hid (∀ j, l.ownBlock = some j → ¬ Gb j) := fun j hj hb => by
      have q1 := (own.lt j hj).1
      have q2 := B4.out.lt j hb
      have q3 := Ha5.out.turns.size
      have q4 := g4.size
      have q5 := B2.out.lt j hb
      omega
    have G6 := Lib.hid (BA.out _ Ha6.out.turns)
    have B6 := Lib.hid (B2.out.beside Ha6.out.turns (fun i h h' => dis.out i h' h) (fun i h => .inl (.inr h)) FA.out (fun i h => .inl h) (fun i h => Nat.lt_of_lt_of_le (Nat.lt_of_lt_of_le (B2.out.klt i (.inl (.inr h))) Ha6.out.turns.size) (Nat.le_refl _)))
    clear A own g6 Ha5 en B4 B2 Ha6
    obtain ⟨pl, cl, rfl, _⟩ := id SL.out
    go_wp2_with fail
    refine (refWords_at k _ h1 h2).mono ?_; rintro e w7 ⟨v, rfl, SV, g7⟩
    have SS := Lib.hid (Same_yes _ _ 4 _ _ _ (by decide) (SL.out.bel g7) SV (fun _ _ => rfl))
    have GL := Lib.hid g7
    obtain ⟨pv, cv, rfl, _⟩ := id SV
    clear SV g7
    go_wp2_with fail
    refine SS.out.mono ?_; rintro e w8 ⟨rfl, g8⟩
    have g68 := bel_trans GL.out g8
    have B8 := Lib.hid (B6.out.bel g68)
    have G8 := Lib.hid (bel_trans G6.out g68)
    have O8 := Lib.hid (own_same (w' := w8) OW.out fun j hj => g68.block j (OW.out.lt j hj).2)
    have BW : Hid (∀ W, Turns Gb w8 W → Below w.heap.size w W) := fun W T => Turns.bel G8.out T BB.out
    clear g8 g68 SS GL SL OW B6 G6
    have H8 := Lib.hid (Has.start B8.out)
    cases there
    · go_wp2_with fail
      refine (All_yes H8.out (fun j _ _ => rfl) (by decide) (by decide)).mono ?_; rintro e w9 ⟨rfl, H9⟩
      have H9 := Lib.hid H9
      clear H8
      go_wp2_with fail
      obtain ⟨G, K, A⟩ := H9.out.see
      refine (Words_nil A rfl).mono ?_; rintro e w10 ⟨m, rfl, own, g10⟩
      have en : (tks AS.nil 15).n = 60 := by rw [tks_n]; rfl
      rw [en] at own
      have H10 := Lib.hid (H9.out.bel g10)
      have OM := Lib.hid own
      clear A own g10 H9 en
      obtain ⟨gm, cm, hm, hc60⟩ : ∃ g c, m = .slice (some ⟨g, 0, none⟩) 60 c ∧ 60 ≤ c := by
        obtain ⟨_, ⟨_, h0⟩ | ⟨g, cap, cur, rfl, hB, hg, q1, _⟩⟩ := OM.out
        · cases h0
        · exact ⟨g, cap, rfl, q1⟩
      subst hm
      go_wp2_with fail
      refine (refName_at k _ h1 h2).mono ?_; rintro e w11 ⟨rfl, g11⟩
      have H11 := Lib.hid (H10.out.bel g11)
      have SM := Lib.hid ((own_sl OM.out).bel g11)
      clear H10 OM g11
      go_wp2_with fail
      obtain ⟨G, K, A⟩ := H11.out.see
      have AT := Lib.hid (At_at (nm k) (nm_size k) A)
      have e1 : atV (tks AS.nil 15) (nm k) = 4 * ((k : Int) - 1) := by
        unfold atV; rw [tks_at AS.nil 15 (by decide) k h1 h2]; show ((0 + 4 * (k - 1) : Nat) : Int) = _; omega
      have e2 : atE (tks AS.nil 15) (nm k) = 0 := by unfold atE; rw [tks_at AS.nil 15 (by decide) k h1 h2]
      rw [e1, e2] at AT
      clear e1 e2 A
      refine AT.out.mono ?_; rintro e w12 ⟨rfl, rfl⟩
      have O12 := Lib.hid (own_same (w' := w12) O8.out fun j hj => H11.out.turns.block j (O8.out.lt j hj).2 (far6.out j hj))
      clear AT
      have SP : Hid (Sl .u32 w12 (.slice (some ⟨gm, 4 * (k - 1), none⟩) 4 (cm - 4 * (k - 1))) 4 (fun i => (tX k i).word)) := by
        obtain ⟨g', o', c', e, hp⟩ := sl_part SM.out (by decide)
        simp only [Value.slice.injEq, Option.some.injEq, Addr.mk.injEq] at e
        obtain ⟨⟨rfl, rfl, _⟩, _, rfl⟩ := e
        have := hp (4 * (k - 1)) 4 (cm - 4 * (k - 1)) (by omega)
        rw [Nat.zero_add] at this
        refine this.congr fun i hi => ?_
        have q := tks_ws AS.nil 15 k i h1 h2 hi
        rw [show AS.nil.n = 0 from rfl, Nat.zero_add] at q
        exact q
      have SL := Lib.hid ((own_sl O12.out).congr (f' := fun i => (tX k i).word) (fun i hi => by
        rcases (by omega : i = 0 ∨ i = 1 ∨ i = 2 ∨ i = 3) with rfl | rfl | rfl | rfl <;> rfl))
      have SS := Lib.hid (Same_yes _ _ 4 _ _ _ (by decide) SP.out SL.out (fun _ _ => rfl))
      clear SP SL O12 SM O8
      go_wp2_with fail
      refine SS.out.mono ?_; rintro e w13 ⟨rfl, g13⟩
      have G13 := Lib.hid (bel_trans (BW.out _ H11.out.turns) g13)
      clear g13 SS H11
      go_wp2_with fail
      refine (HEAD.out _ G13.out).mono ?_; rintro e w14 ⟨rfl, g14⟩
      go_wp2_with fail
      go_ret
      exact ⟨rfl, g14⟩
    · go_wp2_with fail
      refine (refName_at k _ h1 h2).mono ?_; rintro e w9 ⟨rfl, g9⟩
      have H9 := Lib.hid (H8.out.bel g9)
      clear H8 g9
      go_wp2_with fail
      refine (H9.out.left fun G K A _ => Mark_yes (nm k) (nm_size k) A (by decide) rfl).mono ?_; rintro e w10 ⟨rfl, H10⟩
      have H10 := Lib.hid H10
      clear H9
      go_wp2_with fail
      obtain ⟨N, rfl⟩ : ∃ N, k = N + 1 := ⟨k - 1, by omega⟩
      have CA := Lib.hid (All_state N (by omega) H10.out (fun j j1 j2 => by
        show look ([] ++ [(nm (N + 1), 0)]) (nm j) = none
        rw [look_snoc, if_neg (fun e => by have := nm_inj (by omega) (by omega) j1 (by omega) e; omega)]; rfl)
        (by show (look ([] ++ [(nm (N + 1), 0)]) (nm (N + 1))).isSome = true; rw [look_snoc, if_pos rfl]; rfl))
      refine CA.out.mono ?_; rintro e w11 ⟨rfl, H11⟩
      have H11 := Lib.hid H11
      clear CA H10
      go_wp2_with fail
      obtain ⟨G, K, A⟩ := H11.out.see
      have CL := Lib.hid (Len_at A)
      have en : (AS.nil.mark (nm (N + 1))).n = 0 := rfl
      rw [en] at CL
      clear en A
      refine CL.out.mono ?_; rintro e w12 ⟨rfl, rfl⟩
      have G12 := Lib.hid (BW.out _ H11.out.turns)
      clear CL H11
      go_wp2_with fail
      refine (HEAD.out _ G12.out).mono ?_; rintro e w14 ⟨rfl, g14⟩
      go_wp2_with fail
      go_ret
      exact ⟨rfl, g14⟩
  · have L : Hid (¬ (1 ≤ n ∧ n ≤ 15)) := hk
    have hor : n < 1 ∨ 15 < n := by omega
    clear hk
    go_wp2_with fail
    refine (Name_no n _ L.out).mono ?_; rintro e w3 ⟨rfl, rfl⟩
    go_wp2_with fail
    refine (refName_no n _ L.out).mono ?_; rintro e w4 ⟨rfl, rfl⟩
    go_wp2_with fail
    refine (Tick_arg n L.out Ha.out).mono ?_; rintro e w5 ⟨rfl, Ha5⟩
    have Ha5 := Lib.hid Ha5
    clear Ha B2
    obtain ⟨G, K, A⟩ := Ha5.out.see
    have CL := Lib.hid (Len_at A)
    rw [show AS.nil.n = 0 from rfl] at CL
    have G5 := Lib.hid (BA.out _ Ha5.out.turns)
    clear A Ha5
    rcases hor with h | h
    · go_wp2_with fail
      refine CL.out.mono ?_; rintro e w6 ⟨rfl, rfl⟩
      go_wp2_with fail
      refine (HEAD.out _ G5.out).mono ?_; rintro e w7 ⟨rfl, g7⟩
      go_wp2_with fail
      go_ret
      exact ⟨rfl, g7⟩
    · go_wp2_with fail
      refine CL.out.mono ?_; rintro e w6 ⟨rfl, rfl⟩
      go_wp2_with fail
      refine (HEAD.out _ G5.out).mono ?_; rintro e w7 ⟨rfl, g7⟩
      go_wp2_with fail
      go_ret
      exact ⟨rfl, g7⟩
end Go.Proofs.YtgbodbejcffclaaDoor.A7
