/- made (layer 6): a start that is too great, one that makes no machine. Package mach as it has landed: Copy. -/
import Derived.Test.YtiobgnelhiadbaaGreatDoorZMachGMm
import Derived.Test.YtiobgnelhiadbaaGreatDoorZMachGMd
import Derived.Great.BuildSlice
import Derived.Great.Walk
import Derived.Laws.Tables
import Derived.Laws.Rows
namespace Go.Proofs.YtiobgnelhiadbaaGreatDoor.K6
open Go.RowKit
set_option linter.unusedVariables false
def great6 (s : ST) : Bool := decide (8 < s.n ∨ 1200 < s.sz ∨ 300 < s.lw ∨ 60 < s.lr ∨ 40 < s.lc)
set_option maxRecDepth 100000 in
theorem great6_at {w : World} (s : ST) {vw vr vc : Value} (hs : StAt w s vw vr vc) :
    Calls Tryz.prog 9 #[.agg (srow s vw vr vc)] w fun e w' => e = .returned (.bool (great6 s)) ∧ Below w.heap.size w w' := by
  obtain ⟨pw, cw, rfl, _⟩ := id hs.sw
  obtain ⟨pr, cr, rfl, _⟩ := id hs.sr
  obtain ⟨pc, cc, rfl⟩ : ∃ p c, vc = .slice p s.lc c := by
    rcases hs.sc with ⟨rfl, h0⟩ | ⟨a, c, rfl, _⟩
    · exact ⟨none, 0, by rw [h0]⟩
    · exact ⟨_, _, rfl⟩
  have gX : Hid (Below w.heap.size w (w.alloc (.cells (srow s (.slice pw s.lw cw) (.slice pr s.lr cr) (.slice pc s.lc cc)) 28))) := bel_alK (Below.refl _ _)
  have hX : (w.alloc (.cells (srow s (.slice pw s.lw cw) (.slice pr s.lr cr) (.slice pc s.lc cc)) 28)).heap[w.heap.size]? = some (.cells (srow s (.slice pw s.lw cw) (.slice pr s.lr cr) (.slice pc s.lc cc)) 28 (0, 0)) := heap_alloc_last _ _
  have x0 := row_cell hX (j := 0) (v := .int .i64 s.n) rfl
  have x1 := row_cell hX (j := 1) (v := .int .i64 s.sz) rfl
  have x8 := row_cell hX (j := 8) (v := .slice pw s.lw cw) rfl
  have x9 := row_cell hX (j := 9) (v := .slice pr s.lr cr) rfl
  have x10 := row_cell hX (j := 10) (v := .slice pc s.lc cc) rfl
  clear hX hs
  go_enter Tryz.func9, Tryz.ntmps9
  go_upto_region 1 with (fail)
  change Code.wp _ _ _ _ (w.alloc (.cells (srow s (.slice pw s.lw cw) (.slice pr s.lr cr) (.slice pc s.lc cc)) 28))
  generalize w.alloc (.cells (srow s (.slice pw s.lw cw) (.slice pr s.lr cr) (.slice pc s.lc cc)) 28) = V at *
  by_cases h1 : 8 < s.n
  · have e : Hid (great6 s = true) := decide_eq_true (.inl h1)
    go_wp2_with fail
    go_ret
    exact ⟨by rw [e.out]; rfl, gX.out⟩
  by_cases h2 : 1200 < s.sz
  · have e : Hid (great6 s = true) := decide_eq_true (.inr (.inl h2))
    go_wp2_with fail
    go_ret
    exact ⟨by rw [e.out]; rfl, gX.out⟩
  by_cases h3 : 300 < s.lw
  · have e : Hid (great6 s = true) := decide_eq_true (.inr (.inr (.inl h3)))
    have h3' : 300 < (s.lw : Int) := by omega
    go_wp2_with fail
    go_ret
    exact ⟨by rw [e.out]; rfl, gX.out⟩
  by_cases h4 : 60 < s.lr
  · have e : Hid (great6 s = true) := decide_eq_true (.inr (.inr (.inr (.inl h4))))
    have h3' : ¬ 300 < (s.lw : Int) := by omega
    have h4' : 60 < (s.lr : Int) := by omega
    go_wp2_with fail
    go_ret
    exact ⟨by rw [e.out]; rfl, gX.out⟩
  have h3' : ¬ 300 < (s.lw : Int) := by omega
  have h4' : ¬ 60 < (s.lr : Int) := by omega
  by_cases h5 : 40 < s.lc
  · have e : Hid (great6 s = true) := decide_eq_true (.inr (.inr (.inr (.inr h5))))
    have h5' : 40 < (s.lc : Int) := by omega
    go_wp2_with fail
    go_ret
    exact ⟨by rw [e.out]; rfl, gX.out⟩
  · have e : Hid (great6 s = false) := decide_eq_false (by omega)
    have h5' : ¬ 40 < (s.lc : Int) := by omega
    go_wp2_with fail
    go_ret
    exact ⟨by rw [e.out]; rfl, gX.out⟩
set_option maxRecDepth 100000 in
set_option maxHeartbeats 4000000 in
theorem made_no {w : World} (s : ST) {vw vr vc : Value} (hs : StAt w s vw vr vc) (hm : ¬ s.may) :
    Calls Tryz.prog 11 #[.agg (srow s vw vr vc)] w fun e w' => e = .returned (.tuple #[.pointer none, .agg (rrow rzero)]) ∧ Below w.heap.size w w' := by
  obtain ⟨pw, cw, rfl, _⟩ := id hs.sw
  obtain ⟨pr, cr, rfl, _⟩ := id hs.sr
  obtain ⟨pc, cc, rfl⟩ : ∃ p c, vc = .slice p s.lc c := by
    rcases hs.sc with ⟨rfl, h0⟩ | ⟨a, c, rfl, _⟩
    · exact ⟨none, 0, by rw [h0]⟩
    · exact ⟨_, _, rfl⟩
  have HM : Hid ((s.n < 2 ∨ 32 < s.n) ∨ ¬ M5.MaySize s.sz) := by
    unfold ST.may at hm
    by_cases h : s.n < 2 ∨ 32 < s.n
    · exact .inl h
    · exact .inr fun e => hm ⟨by omega, by omega, e⟩
  have hX : Hid ((w.alloc (.cells (srow s (.slice pw s.lw cw) (.slice pr s.lr cr) (.slice pc s.lc cc)) 28)).heap[w.heap.size]? = some (.cells (srow s (.slice pw s.lw cw) (.slice pr s.lr cr) (.slice pc s.lc cc)) 28 (0, 0))) := heap_alloc_last _ _
  have gX : Hid (Below w.heap.size w (w.alloc (.cells (srow s (.slice pw s.lw cw) (.slice pr s.lr cr) (.slice pc s.lc cc)) 28))) := bel_alK (Below.refl _ _)
  have sX : (w.alloc (.cells (srow s (.slice pw s.lw cw) (.slice pr s.lr cr) (.slice pc s.lc cc)) 28)).heap.size = w.heap.size + 1 := by simp
  clear hs hm
  go_enter Tryz.func11, Tryz.ntmps11
  go_upto_region 1 with (refine q_alloc rfl (some 3) rfl (by kernel_rfl) ?_; intro V r1 b1 s1)
  have R1 : Hid (RowQ V (w.heap.size + 1) rzero) := by rw [← sX]; exact r1.out
  have X1 : Hid (V.heap[w.heap.size]? = some (.cells (srow s (.slice pw s.lw cw) (.slice pr s.lr cr) (.slice pc s.lc cc)) 28 (0, 0))) := bel_heap b1 hX.out
  have G1 : Hid (Below w.heap.size w V) := bel_trans gX.out b1
  have x0 : V.cell? ⟨w.heap.size, 0, none⟩ = some (.int .i64 s.n) := row_cell X1.out rfl
  have x1 : V.cell? ⟨w.heap.size, 1, none⟩ = some (.int .i64 s.sz) := row_cell X1.out rfl
  clear r1 b1 s1 hX gX
  go_wp2_with fail
  refine (New_no s.n s.sz V HM.out).mono ?_; rintro e w2 ⟨rfl, g2⟩
  replace x0 := bel_cell g2 x0
  replace x1 := bel_cell g2 x1
  have G2 := Lib.hid g2
  clear g2
  go_wp2_with fail
  refine (refNew6_no s.n s.sz w2 HM.out).mono ?_; rintro e w3 ⟨rfl, g3⟩
  have G3 := Lib.hid g3
  clear g3 x0 x1
  go_upto_region 3 with (first
    | (refine q_alloc rfl (some 6) rfl (by kernel_rfl) ?_; intro V4 r4 b4 s4)
    | (refine q_whole rfl (.tmp 6) (.tmp 24) rfl w3.heap.size rzero rzero rfl rfl r4.out rzero_ok ?_; intro V5 z5 g5))
  have k5 := only_bel b4 g5.out (Nat.le_refl _)
  have Z2 : Hid (RowQ V5 (w.heap.size + 1) rzero) := ((R1.out.bel G2.out).bel G3.out).bel k5
  have G5 : Hid (Below w.heap.size w V5) := bel_trans (bel_trans (bel_trans G1.out G2.out) G3.out) k5
  clear r4 b4 s4 g5 k5 G1 G2 G3 R1 X1
  generalize w3.heap.size = z at z5 ⊢
  go_upto_region 4 with (fail)
  go_simp
  refine wp_region_any (by kernel_rfl) ?_
  change wpAny _ _ _ _ _ _ _ (World.drew _)
  have QE : Hid (RowQ V5.drew z rzero) := z5.out.bel (Below.drew (Below.refl _ _))
  have RE : Hid (RowQ V5.drew (w.heap.size + 1) rzero) := Z2.out.bel (Below.drew (Below.refl _ _))
  have GE : Hid (Below w.heap.size w V5.drew) := G5.out.drew
  generalize V5.drew = VE at QE RE GE ⊢
  refine wpAny_take (i := 1) (v := ?_) rfl (by kernel_rfl) (by kernel_rfl) (by kernel_rfl) (fun _ _ _ h => h) (Or.inl ⟨by rfl, ?_⟩) ?_
  rotate_left
  · (intro W; go_simp; try with_reducible rfl)
  refine wpAny_ready (rs := [0]) (by kernel_rfl) (by simp) ?_
  refine AllReady.cons rfl (fun K hK => ?_) AllReady.nil
  refine step_load rfl (.tmp 6) rfl z rzero rfl QE.out ?_
  refine hK _ _ ?_
  clear hK K
  refine wpAny_ready (rs := [2]) (by kernel_rfl) (by simp) ?_
  refine AllReady.cons rfl (fun K hK => ?_) AllReady.nil
  refine step_whole rfl (.tmp 3) (.tmp 37) rfl (w.heap.size + 1) rzero rzero rfl rfl RE.out rzero_ok ?_
  intro V18 r18 g18
  refine hK _ _ ?_
  clear hK K
  refine wpAny_done (by kernel_rfl) ?_ _
  have G18 := Lib.hid (only_bel GE.out g18.out (Nat.le_succ _))
  clear g18 QE RE GE
  go_wp2_with fail
  exact q_ret3 rfl rfl r18.out rfl ⟨rfl, G18.out⟩
end Go.Proofs.YtiobgnelhiadbaaGreatDoor.K6
namespace Go.Proofs.YtiobgnelhiadbaaGreatDoor.M5
open Go.RowKit
set_option linter.unusedVariables false
set_option maxHeartbeats 1000000 in
theorem copy_box {w : World} {b0 g n : Nat} {f : Nat → Int} (hA : MemAt w (.pointer (some ⟨b0, 0, none⟩)) g n f) : Calls Tryz.prog 70 #[.pointer (some ⟨b0, 0, none⟩)] w fun e w' => ∃ mb g', e = .returned (.pointer (some ⟨mb, 0, none⟩)) ∧ w'.heap[mb]? = some (.cells #[.slice (some ⟨g', 0, none⟩) n n] 234 (0, 0)) ∧ RowAt w' g' n f ∧ w.heap.size ≤ mb ∧ w.heap.size ≤ g' ∧ Below w.heap.size w w' := by
  obtain ⟨⟨b, hbe, hb⟩, hr, hf, hn⟩ := hA
  cases hbe
  have hc : w.cell? ⟨b0, 0, none⟩ = some (.slice (some ⟨g, 0, none⟩) n n) := row_cell hb rfl
  have hmk := run_make_row' (P := Tryz.prog) 29 5 (.int .u8 0) 1 Tryz.underlying29 byte_parts rfl .i64 .i64 n (by omega) (by omega) w
  rw [made_bytes] at hmk
  have h1 : (w.alloc (.cells (brow (fun _ => 0) n) 5)).heap[w.heap.size]? = some (.cells (bsL .u8 (fun _ => 0) n).toArray 5 (0, 0)) := heap_alloc_last _ _
  have hs : (w.alloc (.cells (brow (fun _ => 0) n) 5)).heap.size = w.heap.size + 1 := by simp
  have G1 := born_bel w (.cells (brow (fun _ => 0) n) 5)
  have HF := Lib.hid hf
  generalize w.alloc (.cells (brow (fun _ => 0) n) 5) = W at *
  have G2 := born_bel W (.cells #[.slice (some ⟨w.heap.size, 0, none⟩) n n] 234)
  have h2 := bel_heap G2 h1
  have h3 : (W.alloc (.cells #[.slice (some ⟨w.heap.size, 0, none⟩) n n] 234)).heap[w.heap.size + 1]? = some (.cells #[.slice (some ⟨w.heap.size, 0, none⟩) n n] 234 (0, 0)) := row_born hs
  have G3 := bel_trans G1 G2
  have c1 := bel_cell G1 hc
  have c3 := row_cell (j := 0) (v := .slice (some ⟨w.heap.size, 0, none⟩) n n) h3 rfl
  have c2 := bel_cell G3 hc
  have HS : Hid (∀ j v, (bsL .u8 f n)[j]? = some v → (W.alloc (.cells #[.slice (some ⟨w.heap.size, 0, none⟩) n n] 234)).cell? ((⟨g, 0, none⟩ : Addr).add j) = some v) := by
    intro j v hv
    have hj : j < n := by
      rcases Nat.lt_or_ge j n with hh | hh
      · exact hh
      · rw [List.getElem?_eq_none (by rw [bsL_len]; omega)] at hv; cases hv
    rw [bsL_get _ _ hj] at hv
    rw [add_at, Nat.zero_add, ← hv]
    exact (hr.bel G3).cell hj
  have H2 := Lib.hid h2
  have H3 := Lib.hid h3
  clear h1 h2 h3 hr hb hf G2
  go_enter Tryz.func70, Tryz.ntmps70
  go_wp2_with fail
  refine (isObject_yes b0 g n w hc).mono ?_; rintro e w1 ⟨rfl, rfl⟩
  go_wp2_with fail
  generalize W.alloc (.cells #[.slice (some ⟨w.heap.size, 0, none⟩) n n] 234) = V at *
  go_region_law (refine step_copy_bytes rfl (.tmp 18) (.tmp 22) rfl g w.heap.size n f (fun _ => 0) rfl rfl H2.out HS.out ?_; intro w2 g2 r2)
  all_goals (
    have GV : Below w.heap.size w V.drew := bel_drewN G3 1
    have G4 := only_bel GV g2 (Nat.le_refl _)
    have H4 := only_heap g2 (show w.heap.size + 1 ≠ w.heap.size by omega) (show V.drew.heap[w.heap.size + 1]? = _ from H3.out)
    go_wp2_with fail
    go_ret
    exact ⟨_, _, rfl, H4, r2, Nat.le_succ _, Nat.le_refl _, G4⟩)
end Go.Proofs.YtiobgnelhiadbaaGreatDoor.M5
namespace Go.Proofs.YtiobgnelhiadbaaGreatDoor.K6
open Go.RowKit
set_option linter.unusedVariables false
theorem mrow_info (c : Nat → Value) : (Tryz.prog.info? 133).map (·.size) = some (mrow c).size := by rw [mrow_size]; kernel_rfl
theorem mrow_under : Tryz.prog.underlying 133 = some (Tryz.prog.underlying 133 |>.get (by kernel_rfl)) := by simp
theorem mcell_one {fv mv cs os : Value} (m : MS) (h0 : fv.oneCell' = true) (h1 : mv.oneCell' = true) (h2 : cs.oneCell' = true) (h3 : os.oneCell' = true) (j : Nat) : (mcell fv mv cs os m j).oneCell' = true := by
  unfold mcell
  by_cases e0 : j = 0
  · rw [if_pos e0]; exact h0
  rw [if_neg e0]
  by_cases e1 : j = 1
  · rw [if_pos e1]; exact h1
  rw [if_neg e1]
  by_cases e2 : j = 2
  · rw [if_pos e2]; rfl
  rw [if_neg e2]
  by_cases e3 : j = 3
  · rw [if_pos e3]; rfl
  rw [if_neg e3]
  by_cases e4 : j = 4
  · rw [if_pos e4]; rfl
  rw [if_neg e4]
  by_cases e5 : j = 5
  · rw [if_pos e5]; rfl
  rw [if_neg e5]
  by_cases e6 : j = 6
  · rw [if_pos e6]; rfl
  rw [if_neg e6]
  by_cases e7 : j = 7
  · rw [if_pos e7]; rfl
  rw [if_neg e7]
  by_cases e42 : j = 42
  · rw [if_pos e42]; exact h2
  rw [if_neg e42]
  by_cases e43 : j = 43
  · rw [if_pos e43]; exact h3
  rw [if_neg e43]
  by_cases e44 : j = 44
  · rw [if_pos e44]; rfl
  rw [if_neg e44]
  by_cases e45 : j = 45
  · rw [if_pos e45]; rfl
  rw [if_neg e45]
  by_cases ez : j % 2 = 0
  · rw [if_pos ez]; rfl
  · rw [if_neg ez]; rfl
theorem mrow_one {c : Nat → Value} (h : ∀ j, (c j).oneCell' = true) : (mrow c).all (·.oneCell') = true := by
  rw [Array.all_eq_true_iff_forall_mem]
  intro v hv
  simp only [mrow, List.mem_toArray, List.mem_map] at hv
  obtain ⟨j, _, rfl⟩ := hv
  exact h j
/-- A machine that is being copied: its new box. -/
structure CP (w W : World) (c : Nat → Value) : Prop where
  box : Box W w.heap.size c
  g : Below w.heap.size w W
section
variable {w W : World} {b fb mb g x : Nat} {cs os : Value} {G : Nat → Prop} {m : MS} {c : Nat → Value}
theorem CP.more {W' : World} (h : CP w W c) (k : Below W.heap.size W W') : CP w W' c := ⟨h.box.bel k, bel_trans h.g k⟩
theorem CP.set (h : CP w W c) (j : Nat) (v : Value) : CP w (W.setCell ⟨w.heap.size, j, none⟩ v) (updV c j v) := ⟨h.box.set j v, h.g.setCell (p := ⟨w.heap.size, j, none⟩) (Nat.le_refl _) v⟩
theorem CP.cell (h : CP w W c) {j : Nat} (hj : j < 46) : W.cell? ⟨w.heap.size, j, none⟩ = some (c j) := h.box.cell hj
theorem CP.frozen (h : CP w W c) (j : Nat) : W.frozen? ⟨w.heap.size, j, none⟩ = false := h.box.frozen j
theorem CP.only (j : Nat) (v : Value) : W.grownBy (W.setCell ⟨w.heap.size, j, none⟩ v) (some w.heap.size) := only_cell ⟨rfl, rfl, rfl, Nat.le_refl _, fun _ _ _ => rfl⟩ j v
theorem CP.mach (h : CP w W c) (A : MachP w b fb mb g x cs os G m) : MachP W b fb mb g x cs os G m := A.bel h.g
theorem cs_slp {s : Value} {n : Nat} {f : Nat → Int} (h : CsAt w s x n f) : SlP w s n f ∨ ∃ cc, s = .slice none n cc ∧ n = 0 := by
  obtain ⟨p, cc, rfl, hc, h⟩ := h
  by_cases hn : 0 < n
  · obtain ⟨o, cur, rfl, hb, hcell⟩ := h hn
    exact .inl (.inr ⟨_, _, rfl, fun _ => ⟨x, o, rfl, fun i hi => row_cell hb (hcell i hi)⟩⟩)
  · obtain rfl : n = 0 := by omega
    cases p with
    | none => exact .inr ⟨_, rfl, rfl⟩
    | some a => exact .inl (.inr ⟨_, _, rfl, fun h => absurd h (Nat.lt_irrefl 0)⟩)
theorem clone_nil (cc : Nat) (f : Nat → Int) :
    Calls Tryz.prog 71 #[.slice none 0 cc] w fun e w' => ∃ s', e = .returned s' ∧ w'.ownsRow w.heap.size 22 1 s' 0 (bsL .u32 f 0) ∧ Below w.heap.size w w' := by
  obtain ⟨i0, hi, hz0, hz1, hz2⟩ := info_parts words_parts
  go_enter Tryz.func71, Tryz.ntmps71
  go_wp2
  go_ret
  exact ⟨_, rfl, World.ownsRow_nil _ _ _ _, Below.refl _ _⟩
theorem clone_cs {s : Value} {n : Nat} {f : Nat → Int} (h : CsAt w s x n f) (hm : n ≤ 1000000) :
    Calls Tryz.prog 71 #[s] w fun e w' => ∃ s', e = .returned s' ∧ w'.ownsRow w.heap.size 22 1 s' n (bsL .u32 f n) ∧ Below w.heap.size w w' := by
  rcases cs_slp h with h | ⟨cc, rfl, rfl⟩
  · exact clone_any h hm
  · exact clone_nil cc f
theorem own_slp {B : Nat} {s : Value} {n : Nat} {f : Nat → Int} (h : w.ownsRow B 22 1 s n (bsL .u32 f n)) : SlP w s n f := by
  have hs := own_sl h
  obtain ⟨_, ⟨rfl, rfl⟩ | ⟨gg, cap, cur, rfl, _⟩⟩ := h
  · exact .inl ⟨rfl, rfl⟩
  · refine .inr ⟨_, _, rfl, fun hn => ?_⟩
    obtain ⟨p, c', e, hc⟩ := hs
    cases e
    obtain ⟨z, o, e, hc⟩ := hc hn
    exact ⟨z, o, Option.some.inj e, hc⟩
/-- All parts of a copy make a machine. -/
theorem copied {fb' mb' g' B1 B2 : Nat} {cs' os' : Value} (A : MachP w b fb mb g x cs os G m) (gw : Below w.heap.size w W) (hb : Box W w.heap.size (mcell (.pointer (some ⟨fb', 0, none⟩)) (.pointer (some ⟨mb', 0, none⟩)) cs' os' m)) (hf : F3.FileAt W fb' m.nw m.R)
    (hm : W.heap[mb']? = some (.cells #[.slice (some ⟨g', 0, none⟩) m.sz m.sz] 234 (0, 0))) (hr : M5.RowAt W g' m.sz m.f) (oc : W.ownsRow B1 22 1 cs' m.cl (bsL .u32 m.ch m.cl)) (oo : W.ownsRow B2 22 1 os' m.ol (bsL .u32 m.out m.ol))
    (lf : w.heap.size ≤ fb') (lm : w.heap.size ≤ mb') (lg : w.heap.size ≤ g') (l1 : w.heap.size ≤ B1) (hne : ∀ i, cs'.ownBlock = some i → i < B2) (l2 : w.heap.size ≤ B2) :
    ∃ x' G', MachP W w.heap.size fb' mb' g' x' cs' os' G' m ∧ ∀ i, G' i → w.heap.size ≤ i := by
  have own0 : ∀ {B : Nat} {s : Value} {n : Nat} {xs : List Value}, W.ownsRow B 22 1 s n xs → W.ownsRow 0 22 1 s n xs := fun h => by
    obtain ⟨h0, h | ⟨g, c, cur, e, hB, hr⟩⟩ := h
    · exact ⟨h0, .inl h⟩
    · exact ⟨h0, .inr ⟨g, c, cur, e, Nat.zero_le _, hr⟩⟩
  obtain ⟨x', hx'⟩ : ∃ x', CsAt W cs' x' m.cl m.ch ∧ (0 < m.cl → cs'.ownBlock = some x') := by
    obtain ⟨e0, ⟨rfl, e⟩ | ⟨z, cap, cur, rfl, e1, e2, e3, e4, e5, e6⟩⟩ := oc
    · rw [e]; exact ⟨0, ⟨none, 0, rfl, Nat.le_refl _, fun h => absurd h (Nat.lt_irrefl _)⟩, fun h => absurd h (Nat.lt_irrefl _)⟩
    · refine ⟨z, ⟨_, cap, rfl, e3, fun hn => ⟨0, cur, rfl, e2, fun i hi => ?_⟩⟩, fun _ => rfl⟩
      have := bsL_get .u32 m.ch hi
      rw [← e6, List.getElem?_take_of_lt (by omega)] at this
      rw [Nat.zero_add]
      simpa using this
  have low : ∀ i, (i = w.heap.size ∨ i = fb' ∨ i = mb' ∨ i = g' ∨ cs'.ownBlock = some i ∨ os'.ownBlock = some i) → w.heap.size ≤ i := by
    rintro i (rfl | rfl | rfl | rfl | e | e)
    · exact Nat.le_refl _
    · exact lf
    · exact lm
    · exact lg
    · exact Nat.le_trans l1 (oc.lt i e).1
    · exact Nat.le_trans l2 (oo.lt i e).1
  refine ⟨x', fun i => i = w.heap.size ∨ i = fb' ∨ i = mb' ∨ i = g' ∨ cs'.ownBlock = some i ∨ os'.ownBlock = some i, {
    box := hb, file := hf, mbox := hm, row := hr, chs := hx'.1, outs := own0 oo
    gb := .inl rfl, gf := .inr (.inl rfl), gm := .inr (.inr (.inl rfl)), gg := .inr (.inr (.inr (.inl rfl)))
    gx := fun hn => .inr (.inr (.inr (.inr (.inl (hx'.2 hn)))))
    go := fun j hj => ⟨.inr (.inr (.inr (.inr (.inr hj)))), fun hn e => by have h1 := hne _ (hx'.2 hn); have h2 := (oo.lt j hj).1; omega⟩
    lt := ?_
    far := fun i hi ht => by have h1 := low i hi; have h2 := A.tab.lt ht; omega
    tab := A.tab.bel gw
    ok := A.ok }, low⟩
  rintro i (rfl | rfl | rfl | rfl | e | e)
  · exact M5.heap_lt hb
  · exact M5.heap_lt hf
  · exact M5.heap_lt hm
  · exact M5.heap_lt hr
  · exact (oc.lt i e).2
  · exact (oo.lt i e).2
def mzero : MS := ⟨0, fun _ => 0, 0, fun _ => 0, 0, 0, 0, 0, 0, 0, fun _ => 0, fun _ => 0, 0, fun _ => 0, 0, fun _ => 0, 0, 0⟩
set_option maxRecDepth 100000 in
set_option maxHeartbeats 4000000 in
theorem Copy_at (h : MachP w b fb mb g x cs os G m) (hcl : m.cl ≤ 1000000) (hol : m.ol ≤ 1000000) :
    Calls Tryz.prog 13 #[.pointer (some ⟨b, 0, none⟩)] w fun e w' => ∃ c fb' mb' g' x' cs' os' G', e = .returned (.pointer (some ⟨c, 0, none⟩)) ∧ MachP w' c fb' mb' g' x' cs' os' G' m ∧ SlP w' cs' m.cl m.ch ∧ Below w.heap.size w w' ∧ ∀ i, G' i → w.heap.size ≤ i := by
  have A := Lib.hid h
  obtain ⟨k0, _⟩ := h.cells
  have h1 : ∀ j, (mcell (.pointer (some ⟨fb, 0, none⟩)) (.pointer (some ⟨mb, 0, none⟩)) cs os m j).oneCell' = true := mcell_one m rfl rfl h.chs.one (by obtain ⟨p, c, e⟩ := lenOf_own h.outs; rw [e]; rfl)
  have H1 := Lib.hid h1
  have C3 : Hid (CP w (w.alloc (.cells (mrow (mcell (.pointer (some ⟨fb, 0, none⟩)) (.pointer (some ⟨mb, 0, none⟩)) cs os m)) 133)) (mcell (.pointer (some ⟨fb, 0, none⟩)) (.pointer (some ⟨mb, 0, none⟩)) cs os m)) := ⟨heap_alloc_last _ _, bel_alK (Below.refl _ _)⟩
  clear h h1
  go_enter Tryz.func13, Tryz.ntmps13
  go_wp2_with fail
  refine (isObject_yes b _ _ k0).mono ?_; rintro e w1 ⟨rfl, rfl⟩
  clear k0
  go_upto_region 4 with (first
    | (refine wpList_load_row rfl 133 (.tmp 8) rfl b rfl 133 (mrow (mcell (.pointer (some ⟨fb, 0, none⟩)) (.pointer (some ⟨mb, 0, none⟩)) cs os m)) (0, 0) _ A.out.box mrow_under rfl (mrow_info _) ?_)
    | (refine Great.wpList_allocTo rfl (some 3) rfl (.pointer (some ⟨w.heap.size, 0, none⟩)) (.cells (mrow (mcell (.pointer none) (.pointer none) (.slice none 0 0) (.slice none 0 0) mzero)) 133) (by kernel_rfl) ?_)
    | (refine wpList_store_row rfl 133 (.tmp 3) (.tmp 9) rfl w.heap.size (mrow (mcell (.pointer (some ⟨fb, 0, none⟩)) (.pointer (some ⟨mb, 0, none⟩)) cs os m)) rfl rfl 133 _ (heap_alloc_last _ _) (mrow_info _) ((mrow_size _).trans (mrow_size _).symm) (mrow_one H1.out) ?_; rw [World.setRow_alloc_new]))
  generalize w.alloc (.cells (mrow (mcell (.pointer (some ⟨fb, 0, none⟩)) (.pointer (some ⟨mb, 0, none⟩)) cs os m)) 133) = W3 at C3 ⊢
  have A3 := Lib.hid (C3.out.mach A.out)
  obtain ⟨k0, _⟩ := A3.out.cells
  go_wp2_with fail
  refine (F3.copy_at fb m.nw m.R W3 A3.out.file A3.out.ok.n2).mono ?_; rintro e w4 ⟨rfl, g4, F4⟩
  have C4 := Lib.hid (C3.out.more g4)
  have F4 := Lib.hid F4
  have lf : w.heap.size < W3.heap.size := M5.heap_lt C3.out.box
  have cc := C4.out.cell (j := 0) (by decide)
  have fc := C4.out.frozen 0
  clear k0 g4 A3
  go_upto_region 5 with (fail)
  have C5 := Lib.hid (C4.out.set 0 (.pointer (some ⟨W3.heap.size, 0, none⟩)))
  have F5 : Hid (F3.FileAt (w4.setCell ⟨w.heap.size, 0, none⟩ (.pointer (some ⟨W3.heap.size, 0, none⟩))) W3.heap.size m.nw m.R) := only_heap (CP.only 0 _) (by omega) F4.out
  clear cc fc C4 F4
  generalize w4.setCell ⟨w.heap.size, 0, none⟩ (.pointer (some ⟨W3.heap.size, 0, none⟩)) = W5 at C5 F5 ⊢
  generalize W3.heap.size = fb' at C5 F5 lf ⊢
  have A5 := Lib.hid (C5.out.mach A.out)
  obtain ⟨_, k1, _⟩ := A5.out.cells
  go_wp2_with fail
  refine (M5.copy_box A5.out.mem).mono ?_; rintro e w6 ⟨mb', g', rfl, hb6, hr6, lm, lg, g6⟩
  have s5 : w.heap.size < W5.heap.size := M5.heap_lt C5.out.box
  have C6 := Lib.hid (C5.out.more g6)
  have F6 := Lib.hid (F5.out.bel g6)
  have hb6 := Lib.hid hb6
  have hr6 := Lib.hid hr6
  have cc := C6.out.cell (j := 1) (by decide)
  have fc := C6.out.frozen 1
  clear k1 g6 A5 C5 F5
  go_upto_region 6 with (fail)
  have C7 := Lib.hid (C6.out.set 1 (.pointer (some ⟨mb', 0, none⟩)))
  have F7 := Lib.hid (show F3.FileAt (w6.setCell ⟨w.heap.size, 1, none⟩ (.pointer (some ⟨mb', 0, none⟩))) fb' m.nw m.R from only_heap (CP.only 1 _) (by omega) F6.out)
  have hb7 := Lib.hid (only_heap (CP.only (w := w) (W := w6) 1 (.pointer (some ⟨mb', 0, none⟩))) (by omega) hb6.out)
  have hr7 := Lib.hid (show M5.RowAt (w6.setCell ⟨w.heap.size, 1, none⟩ (.pointer (some ⟨mb', 0, none⟩))) g' m.sz m.f from only_heap (CP.only 1 _) (by omega) hr6.out)
  clear cc fc C6 F6 hb6 hr6
  generalize w6.setCell ⟨w.heap.size, 1, none⟩ (.pointer (some ⟨mb', 0, none⟩)) = W7 at C7 F7 hb7 hr7 ⊢
  have A7 := Lib.hid (C7.out.mach A.out)
  obtain ⟨_, _, _, _, _, _, _, _, k42, _⟩ := A7.out.cells
  obtain ⟨cp, cn, rfl, _⟩ := A7.out.chs
  go_wp2_with fail
  refine (clone_cs A7.out.chs hcl).mono ?_; rintro e w8 ⟨cs', rfl, oc, g8⟩
  have s7 : w.heap.size < W7.heap.size := M5.heap_lt C7.out.box
  obtain ⟨cp', cn', rfl⟩ := lenOf_own oc
  have C8 := Lib.hid (C7.out.more g8)
  have F8 := Lib.hid (F7.out.bel g8)
  have hb8 := Lib.hid (bel_heap g8 hb7.out)
  have hr8 := Lib.hid (hr7.out.bel g8)
  have oc8 := Lib.hid oc
  have cc := C8.out.cell (j := 42) (by decide)
  have fc := C8.out.frozen 42
  clear k42 g8 A7 C7 F7 hb7 hr7 oc
  go_upto_region 7 with (fail)
  have C9 := Lib.hid (C8.out.set 42 (.slice cp' m.cl cn'))
  have F9 := Lib.hid (show F3.FileAt (w8.setCell ⟨w.heap.size, 42, none⟩ (.slice cp' m.cl cn')) fb' m.nw m.R from only_heap (CP.only 42 _) (by omega) F8.out)
  have hb9 := Lib.hid (only_heap (CP.only (w := w) (W := w8) 42 (.slice cp' m.cl cn')) (by omega) hb8.out)
  have hr9 := Lib.hid (show M5.RowAt (w8.setCell ⟨w.heap.size, 42, none⟩ (.slice cp' m.cl cn')) g' m.sz m.f from only_heap (CP.only 42 _) (by omega) hr8.out)
  have oc9 := Lib.hid (own_same oc8.out fun j hj => (CP.only (w := w) (W := w8) 42 (.slice cp' m.cl cn')).block j (oc8.out.lt j hj).2 (fun e => by injection e with e; have := (oc8.out.lt j hj).1; omega))
  clear cc fc C8 F8 hb8 hr8 oc8
  generalize w8.setCell ⟨w.heap.size, 42, none⟩ (.slice cp' m.cl cn') = W9 at C9 F9 hb9 hr9 oc9 ⊢
  have A9 := Lib.hid (C9.out.mach A.out)
  obtain ⟨_, _, _, _, _, _, _, _, _, k43, _⟩ := A9.out.cells
  obtain ⟨op, on, rfl⟩ := lenOf_own A9.out.outs
  go_wp2_with fail
  refine (clone_any (own_slp A9.out.outs) hol).mono ?_; rintro e w10 ⟨os', rfl, oo, g10⟩
  have s9 : w.heap.size < W9.heap.size := M5.heap_lt C9.out.box
  obtain ⟨op', on', rfl⟩ := lenOf_own oo
  have ln9 : Hid (∀ i, (Value.slice cp' m.cl cn').ownBlock = some i → i < W9.heap.size) := fun i hi => (oc9.out.lt i hi).2
  have C10 := Lib.hid (C9.out.more g10)
  have F10 := Lib.hid (F9.out.bel g10)
  have hb10 := Lib.hid (bel_heap g10 hb9.out)
  have hr10 := Lib.hid (hr9.out.bel g10)
  have oc10 := Lib.hid (own_same oc9.out fun j hj => g10.block j (oc9.out.lt j hj).2)
  have oo10 := Lib.hid oo
  have cc := C10.out.cell (j := 43) (by decide)
  have fc := C10.out.frozen 43
  clear k43 g10 A9 C9 F9 hb9 hr9 oc9 oo
  go_upto_region 8 with (fail)
  have C11 := Lib.hid (C10.out.set 43 (.slice op' m.ol on'))
  have F11 := Lib.hid (show F3.FileAt (w10.setCell ⟨w.heap.size, 43, none⟩ (.slice op' m.ol on')) fb' m.nw m.R from only_heap (CP.only 43 _) (by omega) F10.out)
  have hb11 := Lib.hid (only_heap (CP.only (w := w) (W := w10) 43 (.slice op' m.ol on')) (by omega) hb10.out)
  have hr11 := Lib.hid (show M5.RowAt (w10.setCell ⟨w.heap.size, 43, none⟩ (.slice op' m.ol on')) g' m.sz m.f from only_heap (CP.only 43 _) (by omega) hr10.out)
  have oc11 := Lib.hid (own_same oc10.out fun j hj => (CP.only (w := w) (W := w10) 43 (.slice op' m.ol on')).block j (oc10.out.lt j hj).2 (fun e => by injection e with e; have := (oc10.out.lt j hj).1; omega))
  have oo11 := Lib.hid (own_same oo10.out fun j hj => (CP.only (w := w) (W := w10) 43 (.slice op' m.ol on')).block j (oo10.out.lt j hj).2 (fun e => by injection e with e; have := (oo10.out.lt j hj).1; omega))
  clear cc fc C10 F10 hb10 hr10 oc10 oo10
  generalize w10.setCell ⟨w.heap.size, 43, none⟩ (.slice op' m.ol on') = W11 at C11 F11 hb11 hr11 oc11 oo11 ⊢
  have BX : Box W11 w.heap.size (mcell (.pointer (some ⟨fb', 0, none⟩)) (.pointer (some ⟨mb', 0, none⟩)) (.slice cp' m.cl cn') (.slice op' m.ol on') m) := C11.out.box.congr fun j hj => by
    by_cases e43 : j = 43
    · subst e43; rfl
    by_cases e42 : j = 42
    · subst e42; rfl
    by_cases e1 : j = 1
    · subst e1; rfl
    by_cases e0 : j = 0
    · subst e0; rfl
    simp [updV, mcell, e0, e1, e42, e43]
  obtain ⟨x', G', M, lo⟩ := copied A.out C11.out.g BX F11.out hb11.out hr11.out oc11.out oo11.out (Nat.le_of_lt lf) (by omega) (by omega) (Nat.le_of_lt s7) ln9.out (Nat.le_of_lt s9)
  have M := Lib.hid M
  have SL := Lib.hid (own_slp oc11.out)
  have GG := Lib.hid C11.out.g
  have LO := Lib.hid lo
  clear C11 F11 hb11 hr11 oc11 oo11 BX lo
  go_wp2_with fail
  go_ret
  exact ⟨_, fb', mb', g', x', _, _, G', rfl, M.out, SL.out, GG.out, LO.out⟩
end
end Go.Proofs.YtiobgnelhiadbaaGreatDoor.K6
