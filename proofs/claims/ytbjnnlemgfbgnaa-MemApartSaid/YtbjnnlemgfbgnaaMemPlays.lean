/- The walk of layer 5's statement MemPlays, over the contracts wanted of package mem. -/
import Derived.Test.YtbjnnlemgfbgnaaMemBoth
import Derived.Deep.DeepCutAuto
import Derived.Deep.CutBlock
import Derived.Deep.OwnRows
namespace Go.Proofs.Ytbjnnlemgfbgnaa
open Go.RowKit
set_option linter.unusedVariables false
/-- An act, cell by cell. -/
structure MAct (w : World) (b o : Nat) (wh ad mn x : Int) (p : Option Addr) (l c : Nat) (h : Nat → Int) : Prop where
  c0 : w.cell? ⟨b, o, none⟩ = some (.int .u8 wh)
  c1 : w.cell? ⟨b, o + 1, none⟩ = some (.int .u32 ad)
  c2 : w.cell? ⟨b, o + 2, none⟩ = some (.int .i64 mn)
  c3 : w.cell? ⟨b, o + 3, none⟩ = some (.int .u32 x)
  c4 : w.cell? ⟨b, o + 4, none⟩ = some (.slice p l c)
  sl : Sl .u32 w (.slice p l c) l h
  i0 : 0 ≤ wh ∧ wh < 256
  i1 : 0 ≤ ad ∧ ad < 4294967296
  i2 : -9223372036854775808 ≤ mn ∧ mn ≤ 9223372036854775807
  i3 : 0 ≤ x ∧ x < 4294967296
  ih : ∀ i, 0 ≤ h i ∧ h i < 4294967296
def MActs (w : World) (b o len : Nat) : Prop := ∀ i, i < len → ∃ wh ad mn x p l c h, MAct w b (o + i * 5) wh ad mn x p l c h
theorem act_cells {w : World} {z : Nat} {t : TypeId} {a b c d e : Value} (h : w.heap[z]? = some (.cells #[a, b, c, d, e] t (0, 0))) :
    w.cell? ⟨z, 0, none⟩ = some a ∧ w.cell? ⟨z, 1, none⟩ = some b ∧ w.cell? ⟨z, 2, none⟩ = some c ∧ w.cell? ⟨z, 3, none⟩ = some d ∧ w.cell? ⟨z, 4, none⟩ = some e := ⟨row_cell h rfl, row_cell h rfl, row_cell h rfl, row_cell h rfl, row_cell h rfl⟩
/-- What a round has when its act is to be done: the memory, its copy, the document's bytes, the act in its box. -/
structure PS (M : MemC) (v v' q : Value) (g g' z n : Nat) (f : Nat → Int) (wh ad mn x : Int) (p : Option Addr) (l c : Nat) (h : Nat → Int) (w : World) : Prop where
  old : M.At w v g n f
  row : w.heap[z]? = some (.cells #[.int .u8 wh, .int .u32 ad, .int .i64 mn, .int .u32 x, .slice p l c] 34 (0, 0))
  bytes : Sl .u8 w q n f
  list : Sl .u32 w (.slice p l c) l h
  f1 : g ≠ g'
  f2 : z ≠ g'
  f3 : Off q n g'
  f4 : Off (.slice p l c) l g'
theorem PS.bel {M : MemC} {v v' q : Value} {g g' z n : Nat} {f : Nat → Int} {wh ad mn x : Int} {p : Option Addr} {l c : Nat} {h : Nat → Int} {w w' : World} (H : PS M v v' q g g' z n f wh ad mn x p l c h w) (k : Below w.heap.size w w') : PS M v v' q g g' z n f wh ad mn x p l c h w' :=
  ⟨M.bel H.old k, bel_heap k H.row, H.bytes.bel k, H.list.bel k, H.f1, H.f2, H.f3, H.f4⟩
theorem PS.only {M : MemC} {v v' q : Value} {g g' z n : Nat} {f f' : Nat → Int} {wh ad mn x : Int} {p : Option Addr} {l c : Nat} {h : Nat → Int} {w w' : World} (H : PS M v v' q g g' z n f wh ad mn x p l c h w) (hA : M.At w v' g' n f') (k : w.grownBy w' (some g')) : PS M v v' q g g' z n f wh ad mn x p l c h w' :=
  ⟨M.only H.old hA H.f1 k, only_heap k H.f2 H.row, H.bytes.only k H.f3, H.list.only k H.f4, H.f1, H.f2, H.f3, H.f4⟩
set_option maxHeartbeats 8000000 in
set_option maxRecDepth 100000 in
theorem plays_main (M : MemC) (n : Nat) (sp : Option Addr) (len cap : Nat) (w : World) (hn : n ≤ 200) (hn4 : n % 4 = 0) (hA : 0 < len → ∃ s o, sp = some ⟨s, o, none⟩ ∧ MActs w s o len) :
    Calls Try.prog 3 #[.int .i64 n, .slice sp len cap] w fun e w' => e = .returned (.bool true) ∧ Below w.heap.size w w' := by
  have HA := Lib.hid hA
  have HM : Hid (MaySize n) := ⟨by omega, by omega, by omega⟩
  clear hA hn4
  go_enter Try.func3, Try.ntmps3
  go_wp2_with fail
  refine (M.new_yes n _ HM.out).mono ?_; rintro e w1 ⟨v, g, rfl, A1, hgB, G1⟩
  obtain ⟨a, rfl⟩ := M.ptr A1
  go_wp2_with fail
  refine (rmay_yes n _ HM.out).mono ?_; rintro e w2 ⟨rfl, rfl⟩
  have hmk := run_make_row' (P := Try.prog) 30 5 (.int .u8 0) 1 Try.underlying30 byte_parts rfl .i64 .i64 n (by omega) (by omega) w1
  have A2 : M.At (w1.alloc (.cells (madeCells #[.int .u8 0] n) 5)) (.pointer (some a)) g n (fun _ => 0) := M.bel A1 (alloc_bel _ _)
  have Q2 : Sl .u8 (w1.alloc (.cells (madeCells #[.int .u8 0] n) 5)) (.slice (some ⟨w1.heap.size, 0, none⟩) n n) n (fun _ => 0) :=
    ⟨_, _, rfl, fun _ => ⟨_, 0, rfl, fun i hi => by rw [Nat.zero_add]; exact (World.rowIs_made w1 (.int .u8 0) n 5).cell hi⟩⟩
  have G2 : Below w.heap.size w (w1.alloc (.cells (madeCells #[.int .u8 0] n) 5)) := bel_trans G1 (alloc_bel _ _)
  go_wp2_with fail
  generalize w1.alloc (.cells (madeCells #[.int .u8 0] n) 5) = W at A2 Q2 G2 ⊢
  generalize w1.heap.size = z0 at Q2 ⊢
  clear hmk A1 G1 hgB w1
  go_loopw [5, 7, 8] (fun s5 s7 i wr => ∃ (k : Nat) (a : Addr) (g : Nat) (p : Option Addr) (c : Nat) (f : Nat → Int), k ≤ len ∧ k ≤ 30 ∧ i = .int .i64 (k : Int) ∧ s5 = .pointer (some a) ∧ s7 = .slice p n c ∧ M.At wr (.pointer (some a)) g n f ∧ Sl .u8 wr (.slice p n c) n f ∧ Below w.heap.size w wr)
    (fun _ _ i _ => 30 - (intOf i).toNat)
  case atStart => exact ⟨0, a, g, _, _, _, by omega, by omega, rfl, rfl, rfl, A2, Q2, G2⟩
  case round =>
    clear A2 Q2 G2 W
    obtain ⟨k, a, g, p, c, f, hk, hk', rfl, rfl, rfl, A, Q, G⟩ := hrel
    by_cases hlt : k < len ∧ k < 30
    · obtain ⟨hl1, hl2⟩ := hlt
      obtain ⟨s, o, rfl, HAct⟩ := HA.out (by omega)
      obtain ⟨wh, ad, mn, x, tp, tl, tc, h, X⟩ := HAct k hl1
      have y0 := bel_cell G X.c0
      have y1 := bel_cell G X.c1
      have y2 := bel_cell G X.c2
      have y3 := bel_cell G X.c3
      have y4 := bel_cell G X.c4
      have T0 := X.sl.bel G
      have i1 := X.i1
      have i2 := X.i2
      have i3 := X.i3
      have IH := Lib.hid X.ih
      obtain ⟨wh0, wh1⟩ := X.i0
      have HQ := Lib.hid Q
      have HAt := Lib.hid A
      have HT := Lib.hid T0
      clear X A Q T0 HAct
      by_cases h60 : 60 < tl
      · go_wp2_with fail
        refine (head_any M _).mono ?_; rintro e w9 ⟨rfl, g9⟩
        have G9 := bel_trans G (bel_trans (alloc_bel wr _) g9)
        go_wp2_with fail
        go_ret
        exact ⟨rfl, G9⟩
      · go_wp2_with fail
        refine (M.copy (M.bel HAt.out (alloc_bel _ _))).mono ?_; rintro e w3 ⟨v', g', rfl, A3, hg3, G3⟩
        obtain ⟨b, rfl⟩ := M.ptr A3
        have GA := bel_trans (alloc_bel wr _) G3
        have hgw : g < wr.heap.size := M.lt HAt.out
        have hgz : wr.heap.size < g' := by simp at hg3; omega
        have S : PS M (.pointer (some a)) (.pointer (some b)) (.slice p n c) g g' wr.heap.size n f wh ad mn x tp tl tc h w3 :=
          ⟨M.bel HAt.out GA, bel_heap G3 (row_born rfl), HQ.out.bel GA, HT.out.bel GA, by omega, by omega, HQ.out.off (by omega), HT.out.off (by omega)⟩
        have GW := bel_trans G GA
        have hwg : w.heap.size ≤ g' := by have := G.size; omega
        have HBy := Lib.hid (M.bytes A3)
        have hg'w : g' < w3.heap.size := M.lt A3
        have htl : tl ≤ 60 := by omega
        clear y0 y1 y2 y3 y4 HAt HQ HT GA G3 hg3 hgw G
        generalize wr.heap.size = z at S hgz ⊢
        clear wr
        obtain ⟨r0, r1, r2, r3, r4⟩ := act_cells S.row
        go_upto_block 2 with (fail)
        go_cut [7, 12, 13, 80] (fun s7 s12 s13 s80 wx => ∃ (kk : Int) (p' : Option Addr) (c' : Nat) (F : Nat → Int), s7 = .slice p' n c' ∧ s12 = .int .i64 kk ∧ s13 = .int .i64 kk ∧ M.At wx (.pointer (some b)) g' n F ∧ Sl .u8 wx (.slice p' n c') n F ∧ PS M (.pointer (some a)) (.pointer (some b)) (.slice p n c) g g' z n f wh ad mn x tp tl tc h wx ∧ Below w.heap.size w wx)
        case first =>
          have hwh : wh % 3 = 0 ∨ wh % 3 = 1 ∨ wh % 3 = 2 := by omega
          rcases hwh with e0 | e0 | e0
          · obtain ⟨kk, F, HR0, HC0⟩ := store_both M n f ad mn x (by omega) i1 i2 i3
            have HR := Lib.hid HR0
            have HC := Lib.hid HC0
            clear HR0 HC0
            go_wp2_with fail
            refine (HR.out _ _ S.bytes).mono ?_; rintro e w4 ⟨q', rfl, Q4, O4, g4⟩
            have Q4' := Q4
            obtain ⟨p', c', rfl, _⟩ := Q4'
            have S4 := S.bel g4
            have A4 := M.bel A3 g4
            have O5 := Lib.hid (O4 g' hg'w S.f3)
            have G4 := bel_trans GW g4
            have HQ4 := Lib.hid Q4
            clear Q4 O4 g4 S A3 GW r0 r1 r2 r3 r4
            obtain ⟨r0, r1, r2, r3, r4⟩ := act_cells S4.row
            go_wp2_with fail
            refine (HC.out _ _ _ A4).mono ?_; rintro e w5 ⟨rfl, A5, k5⟩
            have S5 := S4.only A4 k5
            have HQ5 := Lib.hid (HQ4.out.only k5 O5.out)
            have G5 := only_bel G4 k5 hwg
            clear S4 A4 HQ4 G4 k5 r0 r1 r2 r3 r4
            go_wp2_with fail
            go_meet
            exact ⟨kk, _, _, F, rfl, rfl, rfl, A5, HQ5.out, S5, G5⟩
          · obtain ⟨kk, F, HR0, HC0⟩ := put_both M n tl f h ad (by omega) i1 htl IH.out
            have HR := Lib.hid HR0
            have HC := Lib.hid HC0
            clear HR0 HC0
            go_wp2_with fail
            refine (HR.out _ _ _ S.bytes S.list).mono ?_; rintro e w4 ⟨q', rfl, Q4, O4, g4⟩
            have Q4' := Q4
            obtain ⟨p', c', rfl, _⟩ := Q4'
            have S4 := S.bel g4
            have A4 := M.bel A3 g4
            have O5 := Lib.hid (O4 g' hg'w S.f3)
            have G4 := bel_trans GW g4
            have HQ4 := Lib.hid Q4
            clear Q4 O4 g4 S A3 GW r0 r1 r2 r3 r4
            obtain ⟨r0, r1, r2, r3, r4⟩ := act_cells S4.row
            go_wp2_with fail
            refine (HC.out _ _ _ _ A4 S4.list).mono ?_; rintro e w5 ⟨rfl, A5, k5⟩
            have S5 := S4.only A4 k5
            have HQ5 := Lib.hid (HQ4.out.only k5 O5.out)
            have G5 := only_bel G4 k5 hwg
            clear S4 A4 HQ4 G4 k5 r0 r1 r2 r3 r4
            go_wp2_with fail
            go_meet
            exact ⟨kk, _, _, F, rfl, rfl, rfl, A5, HQ5.out, S5, G5⟩
          · obtain ⟨kk, m, F, hm, HR0, HC0⟩ := words_both M n f ad mn (by omega) HBy.out i1 i2
            have HR := Lib.hid HR0
            have HC := Lib.hid HC0
            clear HR0 HC0
            go_wp2_with fail
            refine (HC.out _ _ _ A3).mono ?_; rintro e w4 ⟨s4, rfl, L4, g4⟩
            have S4 := S.bel g4
            have A4 := M.bel A3 g4
            have G4 := bel_trans GW g4
            have L4' := L4
            obtain ⟨p4, c4, rfl, _⟩ := L4'
            have HL4 := Lib.hid L4
            clear L4 g4 S A3 GW r0 r1 r2 r3 r4
            obtain ⟨r0, r1, r2, r3, r4⟩ := act_cells S4.row
            go_wp2_with fail
            refine (HR.out _ _ S4.bytes).mono ?_; rintro e w5 ⟨s5, rfl, L5, g5⟩
            have S5 := S4.bel g5
            have A5 := M.bel A4 g5
            have G5 := bel_trans G4 g5
            have HL5 := Lib.hid (HL4.out.bel g5)
            have L5' := L5
            obtain ⟨p5, c5, rfl, _⟩ := L5'
            have HK5 := Lib.hid L5
            clear L5 g5 S4 A4 G4 HL4 r0 r1 r2 r3 r4
            go_wp2_with fail
            refine (words_same _ _ m F F _ hm HL5.out HK5.out (fun i _ => rfl)).mono ?_; rintro e w6 ⟨rfl, g6⟩
            have S6 := S5.bel g6
            have A6 := M.bel A5 g6
            have G6 := bel_trans G5 g6
            clear g6 S5 A5 G5 HL5 HK5
            go_wp2_with fail
            go_meet
            exact ⟨kk, _, _, f, rfl, rfl, rfl, A6, S6.bytes, S6, G6⟩
        case rest =>
          clear r0 r1 r2 r3 r4 S A3 GW HBy hg'w w3
          obtain ⟨kk, p', c', F, rfl, rfl, rfl, A4, Q4, S4, G4⟩ := hcut
          obtain ⟨r, ke, HR0, HC0⟩ := load_both M n F ad mn (by omega) (M.bytes A4) i1 i2
          have HR := Lib.hid HR0
          have HC := Lib.hid HC0
          have HQ4 := Lib.hid Q4
          clear HR0 HC0 Q4
          obtain ⟨r0, r1, r2, r3, r4⟩ := act_cells S4.row
          go_wp2_with fail
          refine (HC.out _ _ _ A4).mono ?_; rintro e w5 ⟨rfl, g5⟩
          have S5 := S4.bel g5
          have A5 := M.bel A4 g5
          have G5 := bel_trans G4 g5
          have HQ5 := Lib.hid (HQ4.out.bel g5)
          clear g5 S4 A4 G4 HQ4 r0 r1 r2 r3 r4
          obtain ⟨r0, r1, r2, r3, r4⟩ := act_cells S5.row
          go_wp2_with fail
          refine (HR.out _ _ HQ5.out).mono ?_; rintro e w6 ⟨rfl, g6⟩
          have S6 := S5.bel g6
          have A6 := M.bel A5 g6
          have G6 := bel_trans G5 g6
          have HQ6 := Lib.hid (HQ5.out.bel g6)
          clear g6 S5 A5 G5 HQ5 r0 r1 r2 r3 r4
          go_wp2_with fail
          refine (same_at M _ _ _ _ _ _ A6 HQ6.out).mono ?_; rintro e w7 ⟨rfl, g7⟩
          have S7 := S6.bel g7
          have A7 := M.bel A6 g7
          have G7 := bel_trans G6 g7
          have HQ7 := Lib.hid (HQ6.out.bel g7)
          clear g7 S6 A6 G6 HQ6
          go_wp2_with fail
          refine (same_at M _ _ _ _ _ _ S7.old S7.bytes).mono ?_; rintro e w8 ⟨rfl, g8⟩
          have A8 := M.bel A7 g8
          have G8 := bel_trans G7 g8
          have HQ8 := Lib.hid (HQ7.out.bel g8)
          clear g8 S7 A7 G7 HQ7
          go_wp2_with fail
          go_roundw
          case rel => exact ⟨k + 1, b, g', p', c', F, by omega, by omega, by go_num, rfl, rfl, A8, HQ8.out, G8⟩
          case measure => simp [intOf]; omega
    · go_wp2_with fail
      all_goals
        refine (head_any M _).mono ?_; rintro e w9 ⟨rfl, g9⟩
        have G9 := bel_trans G g9
        go_wp2_with fail
        go_ret
        exact ⟨rfl, G9⟩
set_option maxHeartbeats 4000000 in
set_option maxRecDepth 100000 in
theorem plays_bad (M : MemC) (n : Int) (sp : Option Addr) (len cap : Nat) (w : World) (hi : -9223372036854775808 ≤ n ∧ n ≤ 9223372036854775807) (hm : ¬ MaySize n) :
    Calls Try.prog 3 #[.int .i64 n, .slice sp len cap] w fun e w' => e = .returned (.bool true) ∧ Below w.heap.size w w' := by
  have HM := Lib.hid hm
  clear hm
  go_enter Try.func3, Try.ntmps3
  go_wp2_with fail
  refine (M.new_no n _ hi HM.out).mono ?_; rintro e w1 ⟨rfl, G1⟩
  go_wp2_with fail
  refine (rmay_no n _ HM.out).mono ?_; rintro e w2 ⟨rfl, rfl⟩
  go_wp2_with fail
  refine (head_any M _).mono ?_; rintro e w9 ⟨rfl, g9⟩
  have G9 := bel_trans G1 g9
  go_wp2_with fail
  go_ret
  exact ⟨rfl, G9⟩
set_option maxHeartbeats 4000000 in
set_option maxRecDepth 100000 in
theorem plays_wide (M : MemC) (n : Nat) (sp : Option Addr) (len cap : Nat) (w : World) (hm : MaySize n) (hw : 200 < n) :
    Calls Try.prog 3 #[.int .i64 n, .slice sp len cap] w fun e w' => e = .returned (.bool true) ∧ Below w.heap.size w w' := by
  have HM := Lib.hid hm
  clear hm
  go_enter Try.func3, Try.ntmps3
  go_wp2_with fail
  refine (M.new_yes n _ HM.out).mono ?_; rintro e w1 ⟨v, g, rfl, A1, hgB, G1⟩
  obtain ⟨a, rfl⟩ := M.ptr A1
  go_wp2_with fail
  refine (rmay_yes n _ HM.out).mono ?_; rintro e w2 ⟨rfl, rfl⟩
  have HS := Lib.hid (M.size_at A1)
  go_wp2_with fail
  refine (HS.out).mono ?_; rintro e w2 ⟨rfl, g2⟩
  go_wp2_with fail
  refine (head_any M _).mono ?_; rintro e w9 ⟨rfl, g9⟩
  have G9 := bel_trans (bel_trans G1 g2) g9
  go_wp2_with fail
  go_ret
  exact ⟨rfl, G9⟩
theorem plays_walk (M : MemC) (n : Int) (sp : Option Addr) (len cap : Nat) (w : World) (hi : -9223372036854775808 ≤ n ∧ n ≤ 9223372036854775807) (hA : 0 < len → ∃ s o, sp = some ⟨s, o, none⟩ ∧ MActs w s o len) :
    Calls Try.prog 3 #[.int .i64 n, .slice sp len cap] w fun e w' => e = .returned (.bool true) ∧ Below w.heap.size w w' := by
  by_cases hm : MaySize n
  · obtain ⟨m, rfl⟩ : ∃ m : Nat, n = m := ⟨n.toNat, by have := hm.1; omega⟩
    by_cases hw : 200 < m
    · exact plays_wide M m sp len cap w hm hw
    · exact plays_main M m sp len cap w (by omega) (by have := hm.2.2; omega) hA
  · exact plays_bad M n sp len cap w hi hm
end Go.Proofs.Ytbjnnlemgfbgnaa
