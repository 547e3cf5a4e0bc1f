/- SwapWords (layer 10), walked: the handlers of two lists, of which one holds something already. -/
import Derived.Test.YtiobgnelhiadbaaGreatDoorYSwapGH
import Derived.Test.YtiobgnelhiadbaaGreatDoorYSwapGZ
namespace Go.Proofs.YtiobgnelhiadbaaGreatDoor.S10
open Go.RowKit K6
open A7 (XI XB AS AJ AsmB Has Typed)
open W8 (gX gX_mem sFr sBr)
set_option linter.unusedVariables false
/-- What stands ahead. -/
def rX : XI := ⟨32, 0, 0, 0, false, 0⟩
def rQ (k : Nat) : AS := AS.nil.adds (fun _ => rX.word) k
theorem rQ_n (k : Nat) : (rQ k).n = k := by unfold rQ; rw [A7.AS.adds_n]; exact Nat.zero_add k
theorem rQ_ms (k : Nat) : (rQ k).ms = [] := by unfold rQ; rw [A7.AS.adds_ms]; rfl
theorem rQ_js (k : Nat) : (rQ k).js = [] := by unfold rQ; rw [A7.AS.adds_js]; rfl
theorem rX_b : XB rX := ⟨⟨by decide, by decide⟩, ⟨by decide, by decide⟩, ⟨by decide, by decide⟩, ⟨by decide, by decide⟩, ⟨by decide, by decide⟩⟩
theorem rX_may : rX.may = true := by kernel_rfl
/-- One more is put. -/
theorem has_put {w0 w : World} {b : Nat} {G0 : Nat → Prop} {k : Nat} (h : Has w0 w b G0 (rQ k)) (hk : k < 1000) :
    Calls Tryz.prog 37 #[.pointer (some ⟨b, 0, none⟩), .slice (some ⟨w.heap.size, 0, none⟩) 1 1] (w.alloc (.cells #[.int .u8 32, .int .u8 0, .int .u8 0, .int .u8 0, .bool false, .int .i32 0] 88)) fun e w' => e = .returned (.int .i64 0) ∧ Has w0 w' b G0 (rQ (k + 1)) := by
  obtain ⟨G, K, A, lo, T⟩ := h
  have gA : Below w.heap.size w (w.alloc (.cells #[.int .u8 32, .int .u8 0, .int .u8 0, .int .u8 0, .bool false, .int .i32 0] 88)) := bel_alK (Below.refl _ _)
  refine (A7.Put_yes (X := fun _ => rX) (k := 1) (A.bel gA) ((A7.one_ins rX w).mono (fun i hi => A.lt i hi)) (fun _ _ => rX_b) (by rw [rQ_n]; omega) (fun _ _ => rX_may)).mono ?_
  rintro e w' ⟨rfl, G', A', T', lo'⟩
  refine ⟨rfl, G', _, A', fun i hi => ?_, (T.trans (G' := fun _ => False) (A7.Turns.of_bel gA) (fun _ e => e.elim)).trans T' lo⟩
  exact (lo' i hi).elim (lo i) fun e => .inr (Nat.le_trans T.size (Nat.le_trans gA.size e))
theorem sl_tail {w : World} {g c M N : Nat} {f : Nat → Int} (h : Sl .u32 w (.slice (some ⟨g, 0, none⟩) (M + N) c) (M + N) f) (c' : Nat) (hn : 0 < N) : Sl .u32 w (.slice (some ⟨g, M, none⟩) N c') N (fun i => f (M + i)) := by
  obtain ⟨p, c, e, hp⟩ := h
  obtain ⟨g', o, rfl, hc⟩ := hp (by omega)
  simp only [Value.slice.injEq, Option.some.injEq, Addr.mk.injEq] at e
  obtain ⟨⟨rfl, rfl, _⟩, _, rfl⟩ := e
  exact ⟨_, _, rfl, fun _ => ⟨g, M, rfl, fun i hi => by have := hc (M + i) (by omega); rw [Nat.zero_add] at this; exact this⟩⟩
theorem own_slice {w : World} {B n : Nat} {v : Value} {xs : List Value} (h : w.ownsRow B 22 1 v n xs) (hn : 0 < n) : ∃ g c, v = .slice (some ⟨g, 0, none⟩) n c ∧ n ≤ c := by
  obtain ⟨_, ⟨_, h0⟩ | ⟨g, cap, cur, rfl, hB, hg, q1, _⟩⟩ := h
  · omega
  · exact ⟨g, cap, rfl, q1⟩
set_option maxRecDepth 100000 in
set_option maxHeartbeats 8000000 in
theorem words_walk (a0 : Int) (M : Nat) (h0 : 0 ≤ a0) (hM : M ≤ 255) (w : World) (hT : Tabs w) :
    Calls Tryz.prog 6 #[.int .u8 a0, .int .u8 M] w fun e w' => e = .returned (.bool true) ∧ Below w.heap.size w w' := by
  have HT := Lib.hid hT
  have HEAD : Hid (∀ W : World, Below w.heap.size w W → Calls Tryz.prog 19 #[] W fun e w' => e = .returned (.bool true) ∧ Below w.heap.size w w') := fun W k => (zhead_at W (HT.out.bel k)).mono fun e w' ⟨h1, h2⟩ => ⟨h1, bel_trans k h2⟩
  have e1 : Int.tmod a0 31 = a0 % 31 := Int.tmod_eq_emod_of_nonneg h0
  clear hT
  go_enter Tryz.func6, Tryz.ntmps6
  go_upto_region 2 with (fail)
  obtain ⟨n, hn⟩ : ∃ n : Int, n = 2 + a0 % 31 := ⟨_, rfl⟩
  rw [← hn]
  have n2 : 2 ≤ n := by omega
  have n32 : n ≤ 32 := by omega
  clear hn e1 h0
  go_wp2_with fail
  refine (A7.New_at (K := fun _ => False) w HT.out.i (fun _ e => e.elim)).mono ?_; rintro e w1 ⟨a, Ga, rfl, A1, g1, low1⟩
  have A1 := Lib.hid A1
  have G1 := Lib.hid g1
  have L1 := Lib.hid low1
  clear g1 low1
  go_wp2_with fail
  refine (A7.New_at w1 (HT.out.bel G1.out).i A1.out.klt).mono ?_; rintro e w2 ⟨b, Gb, rfl, B2, g2, low2⟩
  obtain ⟨Gb4, B4, sb, tb⟩ := B2.four
  have HB := Lib.hid (Has.start B4)
  have AA := Lib.hid (A1.out.bel g2)
  have LTA := Lib.hid (A1.out.lt)
  have LB : Hid (∀ i, Gb4 i → w1.heap.size ≤ i) := fun i hi => low2 i (sb i hi)
  have TB := Lib.hid tb
  have FB := Lib.hid B4.far
  have S12 : Hid (w1.heap.size ≤ w2.heap.size) := g2.size
  have S01 : Hid (w.heap.size ≤ w1.heap.size) := G1.out.size
  have G2 := Lib.hid (bel_trans G1.out g2)
  clear A1 B2 g2 low2 B4 sb tb G1
  have hM' : (M : Int) ≤ 255 := by omega
  go_wp2_with fail
  go_loopw [8] (fun i wr => ∃ k : Nat, k ≤ M ∧ i = .int .i64 k ∧ Has w2 wr b Gb4 (rQ k)) (fun i _ => M - (intOf i).toNat)
  case atStart => exact ⟨0, Nat.zero_le _, rfl, HB.out⟩
  case round =>
    obtain ⟨k, hk, rfl, H⟩ := hrel
    have H := Lib.hid H
    clear HB
    by_cases hlt : k < M
    · have hlt' : (k : Int) < M := by omega
      have HK := Lib.hid hlt
      go_wp2_with fail
      refine (has_put H.out (by omega)).mono ?_; rintro e w3 ⟨rfl, H3⟩
      have H3 := Lib.hid H3
      clear H
      go_wp2_with fail
      go_roundw
      case rel => exact ⟨k + 1, HK.out, by go_num, H3.out⟩
      case measure => simp only [intOf]; have := HK.out; omega
    · obtain rfl : k = M := by omega
      clear hlt hk
      obtain ⟨Ka, A3⟩ := AA.out.off H.out.turns (fun i ha hb => by have := LTA.out i ha; have := LB.out i hb; omega) FB.out TB.out
      obtain ⟨Ga4, A4, sa, ta⟩ := A3.four
      have HA := Lib.hid (Has.start A4)
      have LA4 : Hid (∀ i, Ga4 i → w.heap.size ≤ i ∧ i < w1.heap.size) := fun i hi => ⟨L1.out i (sa i hi), LTA.out i (sa i hi)⟩
      have TA := Lib.hid ta
      have FA := Lib.hid A4.far
      have G3 := Lib.hid (Turns.bel G2.out (wturns_of H.out.turns) (fun i hi => Nat.le_trans S01.out (LB.out i hi)))
      clear A3 A4 sa ta AA
      go_wp2_with fail
      refine (All_yes n n2 n32 (un_rep 0 (by decide) _ rfl rfl) HA.out).mono ?_; rintro e w4 ⟨rfl, HA4⟩
      have HA4 := Lib.hid HA4
      obtain ⟨G, K, B3, lo3, T3⟩ := H.out
      have D4 : Hid (∀ i, G i → w1.heap.size ≤ i ∧ i < wr.heap.size) := fun i hi => ⟨(lo3 i hi).elim (LB.out i) (Nat.le_trans S12.out), B3.lt i hi⟩
      obtain ⟨K4, B4⟩ := B3.off HA4.out.turns (fun i hb ha => by have := (D4.out i hb).1; have := (LA4.out i ha).2; omega) FA.out TA.out
      obtain ⟨Gb5, B5, sb5, tb5⟩ := B4.four
      have HB4 := Lib.hid (Has.start B5)
      have LB5 : Hid (∀ i, Gb5 i → w1.heap.size ≤ i ∧ i < wr.heap.size) := fun i hi => D4.out i (sb5 i hi)
      have TB5 := Lib.hid tb5
      have FB5 := Lib.hid B5.far
      have G4 := Lib.hid (Turns.bel G3.out (wturns_of HA4.out.turns) (fun i hi => (LA4.out i hi).1))
      clear B3 lo3 T3 B4 B5 sb5 tb5 HA H D4 TA
      go_wp2_with fail
      refine (All_yes n n2 n32 (un_rep k (by omega) _ (rQ_n k) (rQ_ms k)) HB4.out).mono ?_; rintro e w5 ⟨rfl, HB5⟩
      have HB5 := Lib.hid HB5
      obtain ⟨G, K, A4, lo4, T4⟩ := HA4.out
      obtain ⟨K5, A5⟩ := A4.off HB5.out.turns (fun i ha hb => by
        have := LB5.out i hb
        rcases lo4 i ha with e | e
        · have := (LA4.out i e).2; omega
        · omega) FB5.out TB5.out
      have A5 := Lib.hid A5
      have G5 := Lib.hid (Turns.bel G4.out (wturns_of HB5.out.turns) (fun i hi => Nat.le_trans S01.out (LB5.out i hi).1))
      clear A4 lo4 T4 HA4 HB4 TB5 G3 G4 LTA LB TB LA4 LB5
      obtain ⟨wf, hw1, hw2, hw3, _⟩ := hq_words (q := AS.nil) n2 n32 (un_rep 0 (by decide) _ rfl rfl) rfl
      have HW1 := Lib.hid hw1
      have HW2 := Lib.hid hw2
      have HW3 := Lib.hid hw3
      clear hw1 hw2 hw3
      go_wp2_with fail
      refine (A7.Words_any A5.out).mono ?_; rintro e w6 hor
      have hor : ∃ l, e = .returned (.tuple #[l, .int .i64 0]) ∧ w6.ownsRow w5.heap.size 22 1 l 94 (bsL .u32 wf 94) ∧ Below w5.heap.size w5 w6 := by
        rcases hor with ⟨f, l, e1, e2, e3, e4⟩ | ⟨e1, _⟩
        · rw [HW1.out] at e1
          cases e1
          rw [HW2.out] at e3
          exact ⟨l, e2, e3, e4⟩
        · rw [HW1.out] at e1; cases e1
      obtain ⟨l, rfl, own, g6⟩ := hor
      have SL : Hid (Sl .u32 w6 l 94 (zW n)) := (own_sl own).congr fun i hi => by have := HW3.out i hi; rw [show AS.nil.n + i = i from Nat.zero_add i] at this; rw [this]; unfold zW; rw [if_pos hi]
      obtain ⟨gl, cl, rfl, hcl⟩ := own_slice own (by decide)
      have H6 := Lib.hid (HB5.out.bel g6)
      have G6 := Lib.hid (bel_trans G5.out g6)
      clear own g6 A5 G5 HB5 HW1 HW2 HW3
      obtain ⟨xf, hw1, hw2, hw3, _⟩ := hq_words (q := rQ k) n2 n32 (un_rep k (by omega) _ (rQ_n k) (rQ_ms k)) (rQ_js k)
      rw [rQ_n] at hw2 hw3
      have HW1 := Lib.hid hw1
      have HW2 := Lib.hid hw2
      have HW3 := Lib.hid hw3
      clear hw1 hw2 hw3
      obtain ⟨_, _, B6⟩ := H6.out.see
      have B6 := Lib.hid B6
      clear H6
      go_wp2_with fail
      refine (A7.Words_any B6.out).mono ?_; rintro e w7 hor
      have hor : ∃ l, e = .returned (.tuple #[l, .int .i64 0]) ∧ w7.ownsRow w6.heap.size 22 1 l (k + 94) (bsL .u32 xf (k + 94)) ∧ Below w6.heap.size w6 w7 := by
        rcases hor with ⟨f, l, e1, e2, e3, e4⟩ | ⟨e1, _⟩
        · rw [HW1.out] at e1
          cases e1
          rw [HW2.out] at e3
          exact ⟨l, e2, e3, e4⟩
        · rw [HW1.out] at e1; cases e1
      obtain ⟨m, rfl, own, g7⟩ := hor
      obtain ⟨gm, cm, rfl, hcm⟩ := own_slice own (by omega)
      have SM : Hid (∀ c', Sl .u32 w7 (.slice (some ⟨gm, k, none⟩) 94 c') 94 (zW n)) := fun c' => (sl_tail (own_sl own) c' (by decide)).congr fun i hi => by rw [HW3.out i hi]; unfold zW; rw [if_pos hi]
      have SL := Lib.hid (SL.out.bel g7)
      have G7 := Lib.hid (bel_trans G6.out g7)
      clear own g7 B6 G6 HW1 HW2 HW3
      have hmk : ∀ W : World, (Instr.makeSlice 29 (.int .i64 0) (.int .i64 0)).run Tryz.prog W = .ok (.slice (some ⟨W.heap.size, 0, none⟩) 0 0) (W.alloc (.cells (madeCells #[.int .u8 0] 0) 5)) := fun W => run_make_row' (P := Tryz.prog) 29 5 (.int .u8 0) 1 Tryz.underlying29 M5.byte_parts rfl .i64 .i64 0 (by decide) (by decide) W
      have gA : Hid (Below w7.heap.size w7 (w7.alloc (.cells (madeCells #[.int .u8 0] 0) 5))) := bel_alK (Below.refl _ _)
      have SM := Lib.hid (fun c' => (SM.out c').bel gA.out)
      have SL := Lib.hid (SL.out.bel gA.out)
      have G8 := Lib.hid (bel_trans G7.out gA.out)
      clear G7 gA
      go_upto_region 13 with (fail)
      generalize w7.alloc (.cells (madeCells #[.int .u8 0] 0) 5) = U at SM SL G8 ⊢
      clear hmk
      go_wp2_with fail
      refine (M5.rwords_no _ 0 0 0 1 _ (by decide) ⟨by decide, by decide⟩ (by decide) (by decide)).mono ?_; rintro e w8 ⟨rfl, rfl⟩
      have e50 : spE ((0 : Nat) : Int) 0 1 = 50 := by decide
      rw [e50]
      clear e50
      go_wp2_with fail
      refine (A7.Same_yes _ _ 94 _ _ _ (by decide) (SM.out _) SL.out (fun _ _ => rfl)).mono ?_; rintro e w9 ⟨rfl, g9⟩
      have G9 := Lib.hid (bel_trans G8.out g9)
      clear g9 G8 SM SL
      go_wp2_with fail
      refine (HEAD.out _ G9.out).mono ?_; rintro e w10 ⟨rfl, g10⟩
      go_wp2_with fail
      go_ret
      exact ⟨rfl, g10⟩
theorem words_any (a0 a1 : Int) (h0 : 0 ≤ a0 ∧ a0 < 256) (h1 : 0 ≤ a1 ∧ a1 < 256) (w : World) (hT : Tabs w) :
    Calls Tryz.prog 6 #[.int .u8 a0, .int .u8 a1] w fun e w' => e = .returned (.bool true) ∧ Below w.heap.size w w' := by
  obtain ⟨M, rfl⟩ : ∃ M : Nat, a1 = M := ⟨a1.toNat, by omega⟩
  exact words_walk a0 M h0.1 (by omega) w hT
end Go.Proofs.YtiobgnelhiadbaaGreatDoor.S10
