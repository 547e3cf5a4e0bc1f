/- The walk of layer 3's statement FilePlays: it returns true; of what was there nothing has turned. -/
import Derived.Test.YthhkecdcgalcbaaFilePlay
import Derived.Deep.DeepCutAuto
import Derived.Deep.RegionHeld3
namespace Go.Proofs.Ythhkecdcgalcbaa
open Go.RowKit
set_option linter.unusedVariables false
/-- The acts, cell by cell. -/
def ActsAt (w : World) (b o len : Nat) : Prop := ∀ i, i < len → ∃ (p : Bool) (x k r v : Int), w.cell? ⟨b, o + i * 5, none⟩ = some (.bool p) ∧ w.cell? ⟨b, o + i * 5 + 1, none⟩ = some (.int .i64 x) ∧ w.cell? ⟨b, o + i * 5 + 2, none⟩ = some (.int .i64 k) ∧ w.cell? ⟨b, o + i * 5 + 3, none⟩ = some (.int .i64 r) ∧ w.cell? ⟨b, o + i * 5 + 4, none⟩ = some (.int .u32 v) ∧ 0 ≤ v ∧ v < 4294967296
set_option maxHeartbeats 4000000 in
set_option maxRecDepth 100000 in
theorem filePlays_bad (n : Int) (sp : Option Addr) (len cap : Nat) (w : World) (h : n < 2 ∨ 32 < n) :
    Calls Try.prog 3 #[.int .i64 n, .slice sp len cap] w fun e w' => e = .returned (.bool true) ∧ Below w.heap.size w w' := by
  go_enter Try.func3, Try.ntmps3
  go_wp2_with fail
  refine (new_bad n _ h).mono ?_; rintro e w1 ⟨rfl, rfl⟩
  go_wp2_with fail
  refine (refNew_bad n _ h).mono ?_; rintro e w2 ⟨rfl, g2⟩
  have g3 := g2.alloc g2.size (.cells #[.int .i64 0, .slice none 0 0] 29)
  go_wp2_with fail
  refine (head_any _).mono ?_; rintro e w4 ⟨rfl, g4⟩
  have g5 := bel_trans g3 g4
  go_wp2
  go_ret
  exact ⟨rfl, g5⟩
set_option maxHeartbeats 4000000 in
set_option maxRecDepth 100000 in
theorem filePlays_wide (n : Int) (sp : Option Addr) (len cap : Nat) (w : World) (h : 6 < n) (h' : n ≤ 32) :
    Calls Try.prog 3 #[.int .i64 n, .slice sp len cap] w fun e w' => e = .returned (.bool true) ∧ Below w.heap.size w w' := by
  go_enter Try.func3, Try.ntmps3
  go_wp2_with fail
  refine (new_at n _ (by omega) h').mono ?_; rintro e w1 ⟨rfl, g1, F⟩
  go_wp2_with fail
  refine (refNew_at n _ (by omega) h').mono ?_; rintro e w2 ⟨rfl, g2⟩
  have G2 := bel_trans g1 g2
  have g3 := G2.alloc G2.size (.cells #[.int .i64 n, .slice none 0 0] 29)
  go_wp2_with fail
  refine (head_any _).mono ?_; rintro e w4 ⟨rfl, g4⟩
  have g5 := bel_trans g3 g4
  go_wp2
  go_ret
  exact ⟨rfl, g5⟩
theorem put_not (b : Nat) (n x : Int) (p : Option Addr) (m c : Nat) (w : World) (hc : w.cell? ⟨b, 0, none⟩ = some (.int .i64 n)) (hn : 2 ≤ n) (hn' : n ≤ 32) (hm : m ≤ 16) (h : x < 0 ∨ n ≤ x ∨ m < 16) :
    Calls Try.prog 13 #[.pointer (some ⟨b, 0, none⟩), .int .i64 x, .slice p m c] w fun e w' => e = .returned (.int .i64 2) ∧ w = w' := by
  by_cases hx : x < 0 ∨ n ≤ x
  · exact put_bad b n x _ w hc hn hx
  · exact put_len b n x p m c w hc hn hn' (by omega) (by omega) (by omega)
set_option maxHeartbeats 40000000 in
set_option maxRecDepth 100000 in
theorem filePlays_main (n : Int) (s o len cap : Nat) (w : World) (h : 2 ≤ n) (h' : n ≤ 6) (hA : ActsAt w s o len) :
    Calls Try.prog 3 #[.int .i64 n, .slice (some ⟨s, o, none⟩) len cap] w fun e w' => e = .returned (.bool true) ∧ Below w.heap.size w w' := by
  have HA := Lib.hid hA
  have hn' : n ≤ 32 := by omega
  clear hA
  go_enter Try.func3, Try.ntmps3
  go_wp2_with fail
  refine (new_at n _ h hn').mono ?_; rintro e w1 ⟨rfl, g1, F⟩
  go_wp2_with fail
  refine (refNew_at n _ h hn').mono ?_; rintro e w2 ⟨rfl, g2⟩
  have G2 := bel_trans g1 g2
  have F2 := F.bel g2
  have hzf : w.heap.size < w2.heap.size := F2.lt
  have g3 := (Below.refl w2.heap.size w2).alloc (Nat.le_refl _) (.cells #[.int .i64 n, .slice none 0 0] 29)
  have K0 : Lp w2.heap.size w.heap.size n (fun _ => 0) none 0 0 [] (w2.alloc (.cells #[.int .i64 n, .slice none 0 0] 29)) :=
    ⟨cell_of_row _ _ _ _ _ _ (heap_alloc_last _ _), cell_of_row _ _ _ _ _ _ (heap_alloc_last _ _), frozen_of_row _ _ _ _ _ (heap_alloc_last _ _), frozen_of_row _ _ _ _ _ (heap_alloc_last _ _), F2.bel g3, LAt.nil _, (fun e => by cases e), by omega⟩
  have G3 := bel_trans G2 g3
  clear g1 g2 G2 F F2 g3 w1
  have hzw : w.heap.size ≤ w2.heap.size := by omega
  go_wp2_with fail
  generalize w2.alloc (.cells #[.int .i64 n, .slice none 0 0] 29) = W at K0 G3 ⊢
  generalize w2.heap.size = z at K0 hzf hzw ⊢
  go_loopw [5, 9] (fun f i wr => ∃ (k b : Nat) (R : Nat → Int) (p : Option Addr) (m c : Nat) (L : List Ent), k ≤ len ∧ k ≤ 30 ∧ i = .int .i64 (k : Int) ∧ f = .pointer (some ⟨b, 0, none⟩) ∧ Lp z b n R p m c L wr ∧ Hid (Step R L ∧ L.length ≤ 16 * k) ∧ Below w.heap.size w wr)
    (fun _ i _ => 30 - (intOf i).toNat)
  case atStart => exact ⟨0, _, _, none, 0, 0, [], by omega, by omega, rfl, rfl, K0, ⟨step_new, by simp⟩, G3⟩
  case round =>
    clear K0 G3 W
    obtain ⟨k, b, R, p, m, c, L, hk, hk', rfl, rfl, K, HS, hg⟩ := hrel
    have hz1 : z < wr.heap.size := block_lt_of_cell (a := ⟨z, 0, none⟩) K.q0
    have hb1 : b < wr.heap.size := K.file.lt
    by_cases hlt : k < len ∧ k < 30
    · obtain ⟨hl1, hl2⟩ := hlt
      go_wp2_with fail
      refine (copy_at b n R _ K.file h).mono ?_; rintro e w3 ⟨rfl, g3, FC⟩
      have G3 := bel_trans hg g3
      have K3 := K.bel g3
      have hw3 : wr.heap.size < w3.heap.size := FC.lt
      have b0 := K3.q0
      have b1 := K3.q1
      obtain ⟨ap, a1, a2, a3, a4, x0, x1, x2, x3, x4, hv, hv'⟩ := HA.out k hl1
      have y0 := bel_cell G3 x0
      have y1 := bel_cell G3 x1
      have y2 := bel_cell G3 x2
      have y3 := bel_cell G3 x3
      have y4 := bel_cell G3 x4
      have hs3 : s < w3.heap.size := block_lt_of_cell (a := ⟨s, o + k * 5, none⟩) y0
      have hz3 : z < w3.heap.size := by omega
      clear x0 x1 x2 x3 x4
      have gA : Below w3.heap.size w3 ((w3.alloc (.cells #[.int .i64 n, .slice p m c] 29)).alloc (.cells #[.bool ap, .int .i64 a1, .int .i64 a2, .int .i64 a3, .int .u32 a4] 36)) := ((Below.refl _ _).alloc (Nat.le_refl _) _).alloc (by simp) _
      have B2 := two_boxes w3 #[.int .i64 n, .slice p m c] #[.bool ap, .int .i64 a1, .int .i64 a2, .int .i64 a3, .int .u32 a4] 29 36
      have KA := K3.bel gA
      have KX : Lp z wr.heap.size n R p m c L _ := ⟨KA.q0, KA.q1, KA.f0, KA.f1, FC.bel gA, KA.list, KA.far, by omega⟩
      have WX : Was w3.heap.size (w3.heap.size + 1) b n R p m c L a1 a2 a3 a4 _ := ⟨B2.1 0 _ rfl, B2.1 1 _ rfl, B2.2.1 1 _ rfl, B2.2.1 2 _ rfl, B2.2.1 3 _ rfl, B2.2.1 4 _ rfl, KA.file, KA.list⟩
      have GX := bel_trans G3 gA
      have HF := Lib.hid (K.list.lt' (Nat.le_refl wr.heap.size))
      have hsx : w.heap.size ≤ wr.heap.size := hg.size
      clear B2 KA gA
      go_upto_if 64 with (fail)
      clear y0 y1 y2 y3 y4 b0 b1 hs3 hz3 g3 K3 G3 FC
      generalize ((w3.alloc (.cells #[.int .i64 n, .slice p m c] 29)).alloc (.cells #[.bool ap, .int .i64 a1, .int .i64 a2, .int .i64 a3, .int .u32 a4] 36)) = V at KX WX GX ⊢
      generalize w3.heap.size = t at WX hw3 ⊢
      have hbz : b ≠ z := K.ne
      have hfz := Lib.hid K.far
      clear K hg
      generalize wr.heap.size = c0 at KX HF hw3 hz1 hb1 hsx ⊢
      clear wr
      clear w3
      go_cut [6, 13] (fun s6 s13 wx => ∃ (v : Int) (R' : Nat → Int) (L' : List Ent) (p' : Option Addr) (m' c' : Nat), s6 = .int .i64 v ∧ s13 = .int .i64 v ∧ Lp z c0 n R' p' m' c' L' wx ∧ Was t (t + 1) b n R p m c L a1 a2 a3 a4 wx ∧ Hid (Step R' L' ∧ L'.length ≤ L.length + 16) ∧ Below w.heap.size w wx)
      case first =>
        have hLl : L.length ≤ 600 := by have := HS.out.2; omega
        have hzV : z < V.heap.size := block_lt_of_cell (a := ⟨z, 0, none⟩) KX.q0
        have hcV : c0 < V.heap.size := KX.file.lt
        have b0 := KX.q0
        have b1 := KX.q1
        have x1 := WX.x1
        have x2 := WX.x2
        have x3 := WX.x3
        have x4 := WX.x4
        cases ap
        · by_cases hN : Named n a1 a2 a3
          · go_wp2_with fail
            refine (refSet_at n a1 a2 a3 a4 p m c L _ h hn' (by omega) KX.list hN).mono ?_; rintro e w5 ⟨s', rfl, hL5, g5⟩
            obtain ⟨p5, m5, c5, rfl⟩ := hL5.slice
            have K5 := KX.bel g5
            have W5 := WX.bel g5
            have c00 := K5.q0
            have c01 := K5.q1
            have c02 := K5.f0
            have c03 := K5.f1
            go_upto_region 21 with (fail)
            have K6 := K5.store hL5.at (hL5.ge' hzV)
            have W6 := W5.store (n2 := n) (v := .slice p5 m5 c5) (by omega) (by omega) hbz hfz.out
            have G6 : Below w.heap.size w (boxed w5 z n (.slice p5 m5 c5)) := ((bel_trans GX g5).setCell (p := ⟨z, 0, none⟩) hzw _).setCell (p := ⟨z, 1, none⟩) hzw _
            unfold boxed at K6 W6 G6
            generalize (w5.setCell ⟨z, 0, none⟩ (.int .i64 n)).setCell ⟨z, 1, none⟩ (.slice p5 m5 c5) = w6 at K6 W6 G6 ⊢
            have z1 := W6.x1
            have z2 := W6.x2
            have z3 := W6.x3
            have z4 := W6.x4
            go_wp2_with fail
            refine (set_at c0 n a1 a2 a3 a4 R _ K6.file h hn' hN).mono ?_; rintro e w7 ⟨rfl, k7, F7⟩
            have K7 := K6.only k7 F7 (hL5.ge' hcV)
            have W7 := W6.only k7 (by omega) (by omega) (by omega) HF.out
            have G7 := only_bel G6 k7 hsx
            go_wp2_with fail
            go_meet
            exact ⟨0, _, _, _, _, _, rfl, rfl, K7, W7, ⟨step_set HS.out.1 hn' hN a4, by simp⟩, G7⟩
          · go_wp2_with fail
            refine (refSet_bad n a1 a2 a3 a4 p m c _ hN).mono ?_; rintro e w5 ⟨rfl, g5⟩
            have K5 := KX.bel g5
            have W5 := WX.bel g5
            have c00 := K5.q0
            have c01 := K5.q1
            have c02 := K5.f0
            have c03 := K5.f1
            go_upto_region 21 with (fail)
            have K6 := K5.store K5.list hfz.out
            have W6 := W5.store (n2 := n) (v := .slice p m c) (by omega) (by omega) hbz hfz.out
            have G6 : Below w.heap.size w (boxed w5 z n (.slice p m c)) := ((bel_trans GX g5).setCell (p := ⟨z, 0, none⟩) hzw _).setCell (p := ⟨z, 1, none⟩) hzw _
            unfold boxed at K6 W6 G6
            generalize (w5.setCell ⟨z, 0, none⟩ (.int .i64 n)).setCell ⟨z, 1, none⟩ (.slice p m c) = w6 at K6 W6 G6 ⊢
            have z1 := W6.x1
            have z2 := W6.x2
            have z3 := W6.x3
            have z4 := W6.x4
            go_wp2_with fail
            refine (set_bad c0 n a1 a2 a3 a4 R _ K6.file h hN).mono ?_; rintro e w7 ⟨rfl, rfl⟩
            go_wp2_with fail
            go_meet
            exact ⟨2, R, L, p, m, c, rfl, rfl, K6, W6, ⟨HS.out.1, by omega⟩, G6⟩
        · have WD := WX.bel (Below.refl _ _).drew
          have KD := KX.bel (Below.refl _ _).drew
          have GD := GX.drew
          go_upto_if 67 with (fail)
          go_cut [14] (fun s14 wx => ∃ M : Nat, s14 = .int .i64 (M : Int) ∧ (M = 15 ∨ M = 16) ∧ V = wx)
          case first =>
            by_cases h31 : 31 < a3
            · go_wp2_with fail
              go_meet
              exact ⟨15, rfl, .inl rfl, rfl⟩
            · go_wp2_with fail
              go_meet
              exact ⟨16, rfl, .inr rfl, rfl⟩
          case rest =>
            obtain ⟨M, rfl, hM, rfl⟩ := hcut
            have hM0 : 0 < M := by omega
            have hM16 : M ≤ 16 := by omega
            by_cases hgood : (0 ≤ a1 ∧ a1 < n) ∧ M = 16
            · obtain ⟨⟨h0, h1⟩, rfl⟩ := hgood
              go_upto_region 18 with (fail)
              go_cut [13] (fun s13 wx => ∃ (p' : Option Addr) (m' c' : Nat), s13 = .int .i64 0 ∧ Lp z c0 n R p' m' c' (L ++ entF (a1.toNat * 16) (wd a4) 16) wx ∧ Was t (t + 1) b n R p m c L a1 a2 a3 a4 wx ∧ Hid ((Value.slice p' m' c').ownBlock ≠ some c0) ∧ Below w.heap.size w wx)
              case first =>
                go_region_with (first
                    | (go_at_call 12; refine (words_any a4 16 _ hv hv' (by decide)).mono ?_; rintro e w5 ⟨sw, rfl, ho, g5⟩; obtain ⟨gw, cw, rfl, hgw, hcw⟩ := words_form ho (by decide); have HW := Lib.hid hcw; clear hcw ho; have K5 := KD.bel g5; have W5 := WD.bel g5; have b50 := K5.q0; have b51 := K5.q1; have b52 := W5.x1)
                    | (go_at_call 11; refine (refPut_at n a1 p m c gw cw L (wd a4) _ h hn' h0 h1 (by omega) K5.list HW.out).mono ?_; rintro e w6 ⟨s6, rfl, hL6, g6⟩; obtain ⟨p6, m6, c6, rfl⟩ := hL6.slice; have K6 := K5.bel g6; have W6 := W5.bel g6; have b60 := K6.q0; have b61 := K6.q1; have b62 := K6.f0; have b63 := K6.f1))
                all_goals
                  have K7 := K6.store hL6.at (hL6.ge' (Nat.lt_of_lt_of_le hzV g5.size))
                  have W7 := W6.store (n2 := n) (v := .slice p6 m6 c6) (by omega) (by omega) hbz hfz.out
                  have G7 : Below w.heap.size w (boxed w6 z n (.slice p6 m6 c6)) := ((bel_trans (bel_trans GD g5) g6).setCell (p := ⟨z, 0, none⟩) hzw _).setCell (p := ⟨z, 1, none⟩) hzw _
                  unfold boxed at K7 W7 G7
                  go_wp2_with fail
                  go_meet
                  exact ⟨_, _, _, rfl, K7, W7, (hL6.ge' (Nat.lt_of_lt_of_le hcV g5.size)), G7⟩
              case rest =>
                obtain ⟨p6, m6, c6, rfl, K7, W7, HF6, G7⟩ := hcut
                clear KD WD GD KX WX GX b0 b1 x1 x2 x3 x4
                have z1' := W7.x1
                have z4' := W7.x4
                have W7D := W7.bel (Below.refl _ _).drew
                have K7D := K7.bel (Below.refl _ _).drew
                have G7D := G7.drew
                go_wp2_with fail
                go_region_held3 (fun w' => w'.cell? ⟨t + 1, 1, none⟩ = some (.int .i64 a1) ∧ w'.cell? ⟨t + 1, 4, none⟩ = some (.int .u32 a4))
                  (first
                    | exact ⟨W7D.x1, W7D.x4⟩
                    | exact ⟨W8.x1, W8.x4⟩
                    | exact ⟨W9.x1, W9.x4⟩)
                  (first
                    | (go_at_call 12; refine (words_any a4 16 _ hv hv' (by decide)).mono ?_; rintro e w8 ⟨sw2, rfl, ho2, g8⟩; obtain ⟨gw2, cw2, rfl, hgw2, hcw2⟩ := words_form ho2 (by decide); have HW2 := Lib.hid hcw2; clear hcw2 ho2; have K8 := K7D.bel g8; have W8 := W7D.bel g8; have G8 := bel_trans G7D g8)
                    | (go_at_call 13; refine (put_at c0 n a1 R (wd a4) gw2 cw2 _ K8.file h hn' h0 h1 HW2.out).mono ?_; rintro e w9 ⟨rfl, k9, F9⟩; have K9 := K8.only k9 F9 HF6.out; have W9 := W8.only k9 (by omega) (by omega) (by omega) HF.out; have G9 := only_bel G8 k9 hsx))
                all_goals
                  go_wp2_with fail
                  go_meet
                  exact ⟨0, _, _, _, _, _, rfl, rfl, K9, W9, ⟨step_putF HS.out.1 h0 (by omega) (wd a4), by rw [List.length_append, entF_len]; omega⟩, G9⟩
            · have hbad : a1 < 0 ∨ n ≤ a1 ∨ M < 16 := by omega
              clear hgood hM
              go_upto_region 18 with (fail)
              go_cut [13] (fun s13 wx => s13 = .int .i64 2 ∧ Lp z c0 n R p m c L wx ∧ Was t (t + 1) b n R p m c L a1 a2 a3 a4 wx ∧ Below w.heap.size w wx)
              case first =>
                go_region_with (first
                    | (go_at_call 12; refine (words_any a4 M _ hv hv' hM16).mono ?_; rintro e w5 ⟨sw, rfl, ho, g5⟩; obtain ⟨gw, cw, rfl, hgw, hcw⟩ := words_form ho hM0; have HW := Lib.hid hcw; clear hcw ho; have K5 := KD.bel g5; have W5 := WD.bel g5; have b50 := K5.q0; have b51 := K5.q1; have b52 := W5.x1)
                    | (go_at_call 11; refine (refPut_bad n a1 p _ m c M cw _ hM16 hbad).mono ?_; rintro e w6 ⟨rfl, g6⟩; have K6 := K5.bel g6; have W6 := W5.bel g6; have b60 := K6.q0; have b61 := K6.q1; have b62 := K6.f0; have b63 := K6.f1))
                all_goals
                  have K7 := K6.store K6.list hfz.out
                  have W7 := W6.store (n2 := n) (v := .slice p m c) (by omega) (by omega) hbz hfz.out
                  have G7 : Below w.heap.size w (boxed w6 z n (.slice p m c)) := ((bel_trans (bel_trans GD g5) g6).setCell (p := ⟨z, 0, none⟩) hzw _).setCell (p := ⟨z, 1, none⟩) hzw _
                  unfold boxed at K7 W7 G7
                  go_wp2_with fail
                  go_meet
                  exact ⟨rfl, K7, W7, G7⟩
              case rest =>
                obtain ⟨rfl, K7, W7, G7⟩ := hcut
                clear KD WD GD KX WX GX b0 b1 x1 x2 x3 x4
                have z1' := W7.x1
                have z4' := W7.x4
                have W7D := W7.bel (Below.refl _ _).drew
                have K7D := K7.bel (Below.refl _ _).drew
                have G7D := G7.drew
                go_wp2_with fail
                go_region_held3 (fun w' => w'.cell? ⟨t + 1, 1, none⟩ = some (.int .i64 a1) ∧ w'.cell? ⟨t + 1, 4, none⟩ = some (.int .u32 a4))
                  (first
                    | exact ⟨W7D.x1, W7D.x4⟩
                    | exact ⟨W8.x1, W8.x4⟩
                    | exact ⟨W9.x1, W9.x4⟩)
                  (first
                    | (go_at_call 12; refine (words_any a4 M _ hv hv' hM16).mono ?_; rintro e w8 ⟨sw2, rfl, ho2, g8⟩; obtain ⟨gw2, cw2, rfl, hgw2, hcw2⟩ := words_form ho2 hM0; have HW2 := Lib.hid hcw2; clear hcw2 ho2; have K8 := K7D.bel g8; have W8 := W7D.bel g8; have G8 := bel_trans G7D g8)
                    | (go_at_call 13; refine (put_not c0 n a1 _ M _ _ K8.file.nw h hn' hM16 hbad).mono ?_; rintro e w9 ⟨rfl, rfl⟩; have K9 := K8; have W9 := W8; have G9 := G8))
                all_goals
                  go_wp2_with fail
                  go_meet
                  exact ⟨2, R, L, p, m, c, rfl, rfl, K9, W9, ⟨HS.out.1, by omega⟩, G9⟩
      case rest =>
        obtain ⟨v, R', L', p', m', c', rfl, rfl, K9, W9, HS9, G9⟩ := hcut
        clear KX WX GX V
        have hL9 : L'.length ≤ 1000 := by have := HS.out.2; have := HS9.out.2; omega
        have hL8 : L.length ≤ 1000 := by have := HS.out.2; omega
        have hvv : (v != v) = false := by simp
        by_cases hN : Named n a1 a2 a3
        · have x1 := W9.x1
          have x2 := W9.x2
          have x3 := W9.x3
          go_wp2_with fail
          refine (get_step c0 n a1 a2 a3 R' L' _ K9.file h hn' hN HS9.out.1).mono ?_; rintro e w10 ⟨rfl, g10⟩
          have K10 := K9.bel g10
          have W10 := W9.bel g10
          have G10 := bel_trans G9 g10
          clear K9 W9 G9 g10 x1 x2 x3
          have x1 := W10.x1
          have x2 := W10.x2
          have x3 := W10.x3
          have b0 := K10.q0
          have b1 := K10.q1
          go_wp2_with fail
          refine (refGet_at n a1 a2 a3 _ L' _ h hn' hL9 K10.list hN).mono ?_; rintro e w11 ⟨rfl, g11⟩
          have K11 := K10.bel g11
          have W11 := W10.bel g11
          have G11 := bel_trans G10 g11
          have haa : (atL L' (place n a1 a2 a3) != atL L' (place n a1 a2 a3)) = false := by simp
          clear K10 W10 G10 g11 x1 x2 x3 b0 b1
          have b0 := K11.q0
          have b1 := K11.q1
          go_wp2_with fail
          refine (same_step c0 n R' p' m' c' L' _ K11.file K11.list HS9.out.1 h hn' hL9).mono ?_; rintro e w12 ⟨rfl, g12⟩
          have K12 := K11.bel g12
          have W12 := W11.bel g12
          have G12 := bel_trans G11 g12
          clear K11 W11 G11 g12 b0 b1
          have s0 := W12.s0
          have s1 := W12.s1
          go_wp2_with fail
          refine (same_step b n R p m c L _ W12.file W12.list HS.out.1 h hn' hL8).mono ?_; rintro e w13 ⟨rfl, g13⟩
          have K13 := K12.bel g13
          have G13 := bel_trans G12 g13
          clear K12 W12 G12 g13 s0 s1
          go_wp2
          go_roundw
          case rel => exact ⟨k + 1, c0, R', p', m', c', L', by omega, by omega, by go_num, rfl, K13, ⟨HS9.out.1, by have := HS.out.2; have := HS9.out.2; omega⟩, G13⟩
          case measure => simp [intOf]; omega
        · have x1 := W9.x1
          have x2 := W9.x2
          have x3 := W9.x3
          go_wp2_with fail
          refine (get_bad c0 n a1 a2 a3 R' _ K9.file h hN).mono ?_; rintro e w10 ⟨rfl, rfl⟩
          have b0 := K9.q0
          have b1 := K9.q1
          go_wp2_with fail
          refine (refGet_bad n a1 a2 a3 _ _ hN).mono ?_; rintro e w11 ⟨rfl, g11⟩
          have K11 := K9.bel g11
          have W11 := W9.bel g11
          have G11 := bel_trans G9 g11
          clear K9 W9 G9 g11 x1 x2 x3 b0 b1
          have b0 := K11.q0
          have b1 := K11.q1
          go_wp2_with fail
          refine (same_step c0 n R' p' m' c' L' _ K11.file K11.list HS9.out.1 h hn' hL9).mono ?_; rintro e w12 ⟨rfl, g12⟩
          have K12 := K11.bel g12
          have W12 := W11.bel g12
          have G12 := bel_trans G11 g12
          clear K11 W11 G11 g12 b0 b1
          have s0 := W12.s0
          have s1 := W12.s1
          go_wp2_with fail
          refine (same_step b n R p m c L _ W12.file W12.list HS.out.1 h hn' hL8).mono ?_; rintro e w13 ⟨rfl, g13⟩
          have K13 := K12.bel g13
          have G13 := bel_trans G12 g13
          clear K12 W12 G12 g13 s0 s1
          go_wp2
          go_roundw
          case rel => exact ⟨k + 1, c0, R', p', m', c', L', by omega, by omega, by go_num, rfl, K13, ⟨HS9.out.1, by have := HS.out.2; have := HS9.out.2; omega⟩, G13⟩
          case measure => simp [intOf]; omega
    · by_cases hl : k < len
      · obtain rfl : k = 30 := by omega
        go_wp2_with fail
        refine (head_any _).mono ?_; rintro e v1 ⟨rfl, x1⟩
        go_wp2
        go_ret
        exact ⟨rfl, bel_trans hg x1⟩
      · obtain rfl : k = len := by omega
        go_wp2_with fail
        refine (head_any _).mono ?_; rintro e v1 ⟨rfl, x1⟩
        go_wp2
        go_ret
        exact ⟨rfl, bel_trans hg x1⟩
set_option maxHeartbeats 4000000 in
set_option maxRecDepth 100000 in
theorem filePlays_none (n : Int) (sp : Option Addr) (cap : Nat) (w : World) (h : 2 ≤ n) (h' : n ≤ 6) :
    Calls Try.prog 3 #[.int .i64 n, .slice sp 0 cap] w fun e w' => e = .returned (.bool true) ∧ Below w.heap.size w w' := by
  have hn' : n ≤ 32 := by omega
  go_enter Try.func3, Try.ntmps3
  go_wp2_with fail
  refine (new_at n _ h hn').mono ?_; rintro e w1 ⟨rfl, g1, F⟩
  go_wp2_with fail
  refine (refNew_at n _ h hn').mono ?_; rintro e w2 ⟨rfl, g2⟩
  have G2 := bel_trans g1 g2
  have g3 := G2.alloc G2.size (.cells #[.int .i64 n, .slice none 0 0] 29)
  go_wp2_with fail
  generalize w2.alloc (.cells #[.int .i64 n, .slice none 0 0] 29) = W at g3 ⊢
  go_loop [9] (fun i => i = .int .i64 0) (fun _ => 0)
  case atStart => exact rfl
  case round =>
    subst hrel
    go_wp2_with fail
    refine (head_any _).mono ?_; rintro e v1 ⟨rfl, x1⟩
    go_wp2
    go_ret
    exact ⟨rfl, bel_trans g3 x1⟩
end Go.Proofs.Ythhkecdcgalcbaa
