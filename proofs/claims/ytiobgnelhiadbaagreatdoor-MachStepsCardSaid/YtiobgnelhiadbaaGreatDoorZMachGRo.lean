/- The document's machine (layer 6): a step that does an instruction, with a register. -/
import Derived.Test.YtiobgnelhiadbaaGreatDoorZMachGRm
import Derived.Test.YtiobgnelhiadbaaGreatDoorZMachGRk
import Derived.Test.YtiobgnelhiadbaaGreatDoorZWordG
namespace Go.Proofs.YtiobgnelhiadbaaGreatDoor.K6
open Go.RowKit
set_option linter.unusedVariables false
variable [Far]
omit [Far] in
theorem held_step2 {V W : World} {b c : Nat} {q : RV} {o d s t : Int} {ib : Bool} {n : Int} (hr : RowQ V b q) (hi : InstQ V c o d s t ib n) (g : Below V.heap.size V W) :
    W.cell? ⟨b, 0, none⟩ = some (.int .i64 q.nw) ∧ W.cell? ⟨b, 1, none⟩ = some (.int .i64 q.fn) ∧ W.cell? ⟨b, 2, none⟩ = some q.fs ∧ W.cell? ⟨b, 3, none⟩ = some q.ms ∧ W.cell? ⟨b, 4, none⟩ = some (.int .u32 q.pc) ∧ W.cell? ⟨b, 5, none⟩ = some (.int .u8 q.cwp) ∧ W.cell? ⟨b, 6, none⟩ = some (.int .u8 q.pil) ∧ W.cell? ⟨b, 7, none⟩ = some (.int .u8 q.bank) ∧ W.cell? ⟨b, 8, none⟩ = some (.int .u8 q.fl) ∧ W.cell? ⟨b, 9, none⟩ = some (.int .u32 q.wim) ∧ W.cell? ⟨b, 10, none⟩ = some q.tp ∧ W.cell? ⟨b, 11, none⟩ = some q.ts ∧ W.cell? ⟨b, 12, none⟩ = some q.ch ∧ W.cell? ⟨b, 13, none⟩ = some q.ot ∧ W.cell? ⟨b, 14, none⟩ = some (.int .u8 q.sk) ∧ W.cell? ⟨b, 15, none⟩ = some (.int .u32 q.sv) ∧
    W.cell? ⟨c, 2, none⟩ = some (.int .u8 s) ∧ W.cell? ⟨c, 5, none⟩ = some (.int .i32 n) ∧ Below V.heap.size V W := by
  obtain ⟨h0, h1, h2, h3, h4, h5, h6, h7, h8, h9, h10, h11, h12, h13, h14, h15⟩ := (hr.bel g).all
  exact ⟨h0, h1, h2, h3, h4, h5, h6, h7, h8, h9, h10, h11, h12, h13, h14, h15, (hi.bel g).all.2.2.1, (hi.bel g).all.2.2.2.2.2, g⟩
set_option maxHeartbeats 8000000 in
set_option maxRecDepth 100000 in
theorem step_exec_f (q : RV) (m : MS) (L : Nat) (lv : Int) (o d s t : Int) (n u : Int) (w : World) (hA : RefAt w q m L) (hm : MOk m) (hL : L ≤ 900) (hk : m.sk = 0) (hn : ¬ (lv ≤ 15 ∧ m.pil < lv)) (h0 : 0 ≤ lv) (hu : W32 u) (hP : Parts o d s t false n) (hn15 : o = 15 → 0 ≤ n ∧ n ≤ 2097151) (hol : m.ol ≤ 100000) (hcl : m.cl ≤ 1000)
    (HL0 : ∀ W, RefAt W q m L → Calls Tryz.prog 73 #[q.ms, .int .u32 q.pc, .int .i64 4] W fun e w' => e = .returned (.tuple #[.int .u32 u, .int .i64 0]) ∧ Below W.heap.size W w')
    (HD0 : ∀ W, Calls Tryz.prog 74 #[.int .u32 u] W fun e w' => e = .returned (.tuple #[.agg #[.int .u8 o, .int .u8 d, .int .u8 s, .int .u8 t, .bool false, .int .i32 n], .bool true]) ∧ Below W.heap.size W w') :
    Calls Tryz.prog 14 #[.agg (rrow q), .int .u8 lv] w (Gives w (mExec m o d n (m.get s) (m.get t)) (L + 1)) := by
  have HA := Lib.hid hA
  have hsk : q.sk = 0 := hA.sk.trans hk
  have HL := Lib.hid HL0
  have HD := Lib.hid HD0
  have HM := Lib.hid hm
  have HP := Lib.hid hP
  have H15 := Lib.hid hn15
  have hor : (lv ≤ 15 ∧ ¬ q.pil < lv) ∨ ¬ lv ≤ 15 := by rw [hA.pil]; by_cases h : lv ≤ 15; exact .inl ⟨h, fun hh => hn ⟨h, hh⟩⟩; exact .inr h
  have HG := Lib.hid (fun W (hW : RefAt W q m L) => get_at q m L s W hW hm (by omega) hP.s0 hP.s1)
  have HT := Lib.hid (fun W (hW : RefAt W q m L) => get_at q m L t W hW hm (by omega) hP.t0 hP.t1)
  have ws : IntKind.i64.wrap s = s := IntWalk.i64_in _ (by have := hP.s0; have := hP.s1; omega)
  have wt : IntKind.i64.wrap t = t := IntWalk.i64_in _ (by have := hP.t0; have := hP.t1; omega)
  have wd : IntKind.i64.wrap d = d := IntWalk.i64_in _ (by have := hP.d0; have := hP.d1; omega)
  obtain ⟨a, ha⟩ : ∃ a, a = m.get s := ⟨_, rfl⟩
  obtain ⟨bt, hbt⟩ : ∃ bt, bt = m.get t := ⟨_, rfl⟩
  have HWA : Hid (W32 a) := by rw [ha]; exact hm.get s
  have HWT : Hid (W32 bt) := by rw [hbt]; exact hm.get t
  rw [← ha] at HG ⊢
  rw [← hbt] at HT ⊢
  have HML : Hid (L ≤ 900) := hL
  have HOC := Lib.hid (And.intro hol hcl)
  clear hA hk hn hm hP hn15 HL0 HD0 ha hbt hL hol hcl
  rcases hor with ⟨hl, hpl⟩ | hl
  all_goals
    go_enter Tryz.func14, Tryz.ntmps14
    go_upto_region 1 with (refine q_start rfl rfl (.tmp 0) rfl (some 2) (some 4) rfl rfl q rfl (fun W => by kernel_rfl) ?_; intro V1 z r1 z1 b1 s1; obtain ⟨k0, k1, k2, k3, k4, k5, k6, k7, k8, k9, k10, k11, k12, k13, k14, k15⟩ := r1.out.all; rw [hsk] at k14)
    have A1 := Lib.hid (HA.out.bel b1)
    go_wp2_with fail
    refine (HL.out _ A1.out).mono ?_; rintro e w2 ⟨rfl, g2⟩
    go_wp2_with fail
    refine (HD.out w2).mono ?_; rintro e w3 ⟨rfl, g3⟩
    have g3' := bel_trans g2 g3
    have r3 := Lib.hid (r1.out.bel g3')
    have z3 := Lib.hid (z1.out.bel g3')
    have b3 := bel_trans b1 g3'
    clear k0 k1 k2 k3 k4 k5 k6 k7 k8 k9 k10 k11 k12 k13 k14 k15 g2 g3 g3' A1 r1 z1 HL HD hsk
    go_upto_region 9 with (fail)
    change Code.wp _ _ _ _ (w3.alloc (.cells #[.int .u8 o, .int .u8 d, .int .u8 s, .int .u8 t, .bool false, .int .i32 n] 88))
    have gI : Below w3.heap.size w3 (w3.alloc (.cells #[.int .u8 o, .int .u8 d, .int .u8 s, .int .u8 t, .bool false, .int .i32 n] 88)) := (Below.refl _ _).alloc (Nat.le_refl _) _
    have i4 : Hid (InstQ (w3.alloc (.cells #[.int .u8 o, .int .u8 d, .int .u8 s, .int .u8 t, .bool false, .int .i32 n] 88)) w3.heap.size o d s t false n) := heap_alloc_last _ _
    have r4 := Lib.hid (r3.out.bel gI)
    have z4 := Lib.hid (z3.out.bel gI)
    have b4 := bel_trans b3 gI
    clear r3 z3 b3
    generalize w3.alloc (.cells #[.int .u8 o, .int .u8 d, .int .u8 s, .int .u8 t, .bool false, .int .i32 n] 88) = V4 at r4 z4 b4 i4 gI ⊢
    clear gI
    generalize w3.heap.size = c at i4 ⊢
    obtain ⟨k0, k1, k2, k3, k4, k5, k6, k7, k8, k9, k10, k11, k12, k13, k14, k15⟩ := r4.out.all
    obtain ⟨j0, j1, j2, j3, j4, j5⟩ := i4.out.all
    go_wp2_with fail
    have GD : Below V4.heap.size V4 V4.drew := Below.drew (Below.refl _ _)
    have D0 := held_step2 r4.out i4.out GD
    have AD := Lib.hid (HA.out.bel (bel_trans b4 GD))
    go_region_held3 (fun W => W.cell? ⟨w.heap.size, 0, none⟩ = some (.int .i64 q.nw) ∧ W.cell? ⟨w.heap.size, 1, none⟩ = some (.int .i64 q.fn) ∧ W.cell? ⟨w.heap.size, 2, none⟩ = some q.fs ∧ W.cell? ⟨w.heap.size, 3, none⟩ = some q.ms ∧ W.cell? ⟨w.heap.size, 4, none⟩ = some (.int .u32 q.pc) ∧ W.cell? ⟨w.heap.size, 5, none⟩ = some (.int .u8 q.cwp) ∧ W.cell? ⟨w.heap.size, 6, none⟩ = some (.int .u8 q.pil) ∧ W.cell? ⟨w.heap.size, 7, none⟩ = some (.int .u8 q.bank) ∧ W.cell? ⟨w.heap.size, 8, none⟩ = some (.int .u8 q.fl) ∧ W.cell? ⟨w.heap.size, 9, none⟩ = some (.int .u32 q.wim) ∧ W.cell? ⟨w.heap.size, 10, none⟩ = some q.tp ∧ W.cell? ⟨w.heap.size, 11, none⟩ = some q.ts ∧ W.cell? ⟨w.heap.size, 12, none⟩ = some q.ch ∧ W.cell? ⟨w.heap.size, 13, none⟩ = some q.ot ∧ W.cell? ⟨w.heap.size, 14, none⟩ = some (.int .u8 q.sk) ∧ W.cell? ⟨w.heap.size, 15, none⟩ = some (.int .u32 q.sv) ∧ W.cell? ⟨c, 2, none⟩ = some (.int .u8 s) ∧ W.cell? ⟨c, 5, none⟩ = some (.int .i32 n) ∧ Below V4.heap.size V4 W)
      (first
        | with_reducible exact D0
        | with_reducible exact D1)
      (first
        | (go_at_call 76; refine (HG.out _ AD.out).mono ?_; rintro e w5 ⟨rfl, gL⟩; have D1 := held_step2 r4.out i4.out (bel_trans GD gL)))
    rename_i hH
    have g5 : Below V4.heap.size V4 _ := hH.2.2.2.2.2.2.2.2.2.2.2.2.2.2.2.2.2.2
    clear hH
    have r5a := Lib.hid (r4.out.bel g5)
    have i5a := Lib.hid (i4.out.bel g5)
    have z5a := Lib.hid (z4.out.bel g5)
    have b5a := bel_trans b4 g5
    clear k0 k1 k2 k3 k4 k5 k6 k7 k8 k9 k10 k11 k12 k13 k14 k15 j0 j1 j2 j3 j4 j5 r4 i4 z4 gL g5 HG D0 D1 AD GD
    have A5a := Lib.hid (HA.out.bel b5a)
    obtain ⟨j0, j1, j2, j3, j4, j5⟩ := i5a.out.all
    go_wp2_with (first
      | (refine q_load rfl (.tmp 2) rfl (some 70) rfl _ q rfl r5a.out ?_))
    refine (HT.out _ A5a.out).mono ?_; rintro e w5 ⟨rfl, gT⟩
    have r5 := Lib.hid (r5a.out.bel gT)
    have i5 := Lib.hid (i5a.out.bel gT)
    have z5 := Lib.hid (z5a.out.bel gT)
    have b5 := bel_trans b5a gT
    have A5 := Lib.hid (A5a.out.bel gT)
    clear j0 j1 j2 j3 j4 j5 r5a i5a z5a b5a A5a gT HT
    have o1 := HP.out.o0
    obtain ⟨j0, j1, j2, j3, j4, j5⟩ := i5.out.all
    go_simp
    by_cases h14 : o ≤ 14
    · as_aux_lemma =>
        have hw14 : IntKind.u8.wrap (o - 1) = o - 1 := IntWalk.u8_in _ (by omega)
        have d0 := HP.out.d0
        have d1 := HP.out.d1
        have Et : W1.dok (o - 1) bt = true → mExec m o d n a bt = (m.set d (W1.dv (o - 1) a bt)).on := by
          intro hk; unfold mExec mAlu; rw [if_pos h14, if_pos hk]
        have Ef : W1.dok (o - 1) bt = false → mExec m o d n a bt = m.stp 2 1 := by
          intro hk; unfold mExec mAlu; rw [if_pos h14, hk]; rfl
        obtain ⟨vv, hvv⟩ : ∃ vv, vv = W1.dv (o - 1) a bt := ⟨_, rfl⟩
        have HDo := Lib.hid (fun W => W1.rdo_any (o - 1) a bt W ⟨by omega, by omega⟩ HWA.out HWT.out)
        rw [← hvv] at HDo Et
        clear hvv
        by_cases hk : W1.dok (o - 1) bt = true
        · rw [hk] at HDo
          have E := Lib.hid (Et hk)
          clear hk Et Ef
          have HC := Lib.hid (fun W (hW : RefAt W q m L) => set_ref q m L d vv W hW HM.out HML.out d0 d1)
          go_wp2_with fail
          refine (HDo.out _).mono ?_; rintro e w6 ⟨rfl, rfl⟩
          go_wp2_with (first
            | (refine q_load rfl (.tmp 2) rfl (some 96) rfl _ q rfl r5.out ?_))
          refine (HC.out _ A5.out).mono ?_; rintro e w6 ⟨q6, rfl, A6, g6⟩
          go_wp2_with (first | fail)
          refine (on_ref q6 _ _ w6 A6).mono ?_; rintro e w7 ⟨q7, rfl, A8, g7⟩
          rw [← E.out] at A8
          have R6 := Lib.hid A8
          have z6 := Lib.hid (z5.out.bel (bel_trans g6 g7))
          have b6 := bel_trans b5 (bel_trans g6 g7)
          clear A8 E HC
          go_wp2_with (first
            | (refine q_whole rfl (.tmp 4) (.tmp 102) rfl z rzero q7 rfl rfl z6.out R6.out.ok ?_; intro V z' y'))
          exact gives_end rfl rfl rfl R6.out z6.out y'.out z'.out b6 s1.out
        · have hk' : W1.dok (o - 1) bt = false := by simpa using hk
          rw [hk'] at HDo
          have E := Lib.hid (Ef hk')
          clear hk hk' Et Ef
          have C := stopped_ref q m L 2 1 w5 A5.out
          go_wp2_with fail
          refine (HDo.out _).mono ?_; rintro e w6 ⟨rfl, rfl⟩
          go_wp2_with (first
            | (refine q_load rfl (.tmp 2) rfl (some 94) rfl _ q rfl r5.out ?_))
          refine C.mono ?_; rintro e w6 ⟨q6, rfl, A6, g6⟩
          rw [← E.out] at A6
          have R6 := Lib.hid (A6.more (Nat.le_succ L))
          have z6 := Lib.hid (z5.out.bel g6)
          have b6 := bel_trans b5 g6
          clear A6 C E
          go_wp2_with (first
            | (refine q_whole rfl (.tmp 4) (.tmp 95) rfl z rzero q6 rfl rfl z6.out R6.out.ok ?_; intro V z' y'))
          exact gives_end rfl rfl rfl R6.out z6.out y'.out z'.out b6 s1.out
    by_cases h21 : o ≤ 21
    · as_aux_lemma =>
        have C := flow_any q m L o d s t false n a bt w5 A5.out HM.out HML.out ⟨by omega, by omega⟩ HP.out.d0 HP.out.d1 H15.out HWA.out HWT.out
        go_wp2_with (first
          | (refine q_load rfl (.tmp 2) rfl (some 106) rfl _ q rfl r5.out ?_))
        refine C.mono ?_; rintro e w6 ⟨q6, rfl, A6, g6⟩
        have R6 := Lib.hid A6
        have z6 := Lib.hid (z5.out.bel g6)
        have b6 := bel_trans b5 g6
        have E : mExec m o d n a bt = mFlow m o d n a bt := by
          unfold mExec
          rw [if_neg (by omega), if_pos (by omega)]
        rw [← E] at R6
        clear A6 C E
        go_wp2_with (first
          | (refine q_whole rfl (.tmp 4) (.tmp 110) rfl z rzero q6 rfl rfl z6.out R6.out.ok ?_; intro V z' y'))
        exact gives_end rfl rfl rfl R6.out z6.out y'.out z'.out b6 s1.out
    by_cases h25 : o ≤ 25
    · as_aux_lemma =>
        have C := memory_any q m L o d s t false n ((a + bt) % 4294967296) w5 A5.out HM.out HML.out ⟨by omega, by omega⟩ HP.out.d0 HP.out.d1 ⟨by omega, by omega⟩
        go_wp2_with (first
          | (refine q_load rfl (.tmp 2) rfl (some 114) rfl _ q rfl r5.out ?_))
        refine C.mono ?_; rintro e w6 ⟨q6, rfl, A6, g6⟩
        have R6 := Lib.hid A6
        have z6 := Lib.hid (z5.out.bel g6)
        have b6 := bel_trans b5 g6
        have E : mExec m o d n a bt = mMem m o d ((a + bt) % 4294967296) := by
          unfold mExec
          rw [if_neg (by omega), if_neg (by omega), if_pos (by omega)]
        rw [← E] at R6
        clear A6 C E
        go_wp2_with (first
          | (refine q_whole rfl (.tmp 4) (.tmp 119) rfl z rzero q6 rfl rfl z6.out R6.out.ok ?_; intro V z' y'))
        exact gives_end rfl rfl rfl R6.out z6.out y'.out z'.out b6 s1.out
    by_cases h32 : o ≤ 32
    · as_aux_lemma =>
        have C := state_any q m L o d s t false n a bt w5 A5.out HM.out HML.out ⟨by omega, by omega⟩ HP.out.d0 HP.out.d1 HP.out.t01
        go_wp2_with (first
          | (refine q_load rfl (.tmp 2) rfl (some 123) rfl _ q rfl r5.out ?_))
        refine C.mono ?_; rintro e w6 ⟨q6, rfl, A6, g6⟩
        have R6 := Lib.hid A6
        have z6 := Lib.hid (z5.out.bel g6)
        have b6 := bel_trans b5 g6
        have E : mExec m o d n a bt = mState m o d n a bt := by
          unfold mExec
          rw [if_neg (by omega), if_neg (by omega), if_neg (by omega), if_pos (by omega)]
        rw [← E] at R6
        clear A6 C E
        go_wp2_with (first
          | (refine q_whole rfl (.tmp 4) (.tmp 127) rfl z rzero q6 rfl rfl z6.out R6.out.ok ?_; intro V z' y'))
        exact gives_end rfl rfl rfl R6.out z6.out y'.out z'.out b6 s1.out
    · as_aux_lemma =>
        have C := rest_any q m L o d s t false n a w5 A5.out HM.out HML.out ⟨by omega, HP.out.o1⟩ HP.out.d0 HP.out.d1 (fun h => by rcases h with h | h; have := HP.out.b33 h; omega; have := HP.out.b37 h; omega) HOC.out.1 HOC.out.2
        go_wp2_with (first
          | (refine q_load rfl (.tmp 2) rfl (some 128) rfl _ q rfl r5.out ?_))
        refine C.mono ?_; rintro e w6 ⟨q6, rfl, A6, g6⟩
        have R6 := Lib.hid A6
        have z6 := Lib.hid (z5.out.bel g6)
        have b6 := bel_trans b5 g6
        have E : mExec m o d n a bt = mRest m o d n a := by
          unfold mExec
          rw [if_neg (by omega), if_neg (by omega), if_neg (by omega), if_neg (by omega)]
        rw [← E] at R6
        clear A6 C E
        go_wp2_with (first
          | (refine q_whole rfl (.tmp 4) (.tmp 131) rfl z rzero q6 rfl rfl z6.out R6.out.ok ?_; intro V z' y'))
        exact gives_end rfl rfl rfl R6.out z6.out y'.out z'.out b6 s1.out
end Go.Proofs.YtiobgnelhiadbaaGreatDoor.K6
