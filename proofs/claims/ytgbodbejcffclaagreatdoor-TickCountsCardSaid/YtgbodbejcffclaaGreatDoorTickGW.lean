/- TickCounts (layer 9), walked: the machine that is interrupted. -/
import Derived.Test.YtgbodbejcffclaaGreatDoorTickGM
import Derived.Test.YtgbodbejcffclaaGreatDoorTickG
import Derived.Test.YtgbodbejcffclaaGreatDoorMachGMd
import Derived.Test.YtgbodbejcffclaaGreatDoorMachGJ
namespace Go.Proofs.YtgbodbejcffclaaGreatDoor.K6
open Go.RowKit T9
set_option linter.unusedVariables false
theorem turns_of {G : Nat → Prop} {w w' : World} (h : A7.Turns G w w') : Turns G w w' := ⟨h.os, h.tape, h.output, h.size, h.block⟩
theorem enc_t (x : A7.XI) (hx : A7.XB x) : ∃ er, ∀ W, Calls Tryz.prog 42 #[.agg #[.int .u8 x.o, .int .u8 x.d, .int .u8 x.s, .int .u8 x.t, .bool x.b, .int .i32 x.n]] W fun e w' => e = .returned (.tuple #[.int .u32 x.word, .int .i64 er]) ∧ Below W.heap.size W w' :=
  ⟨_, fun W => (I2.renc_any x.o x.d x.s x.t x.b x.n W hx.o hx.d hx.s hx.t hx.n).mono fun e w' hh => ⟨hh.1, hh.2.bel⟩⟩
theorem tstore {w : World} {b fb mb g x : Nat} {cs os : Value} {G : Nat → Prop} {m : MS} (h : MachP w b fb mb g x cs os G m) (a : Nat) (v : Int) (hv : W32 v) (ht : thE m.sz a 4 = 0) :
    Calls Tryz.prog 24 #[.pointer (some ⟨mb, 0, none⟩), .int .u32 a, .int .i64 4, .int .u32 v] w fun e w' => e = .returned (.int .i64 0) ∧ MachP w' b fb mb g x cs os G { m with f := stB m.f a 4 v } ∧ w.grownBy w' (some g) :=
  (M5.store_yes a 4 v h.mem hv ht).mono fun e w' ⟨h1, h2, h3⟩ => ⟨h1, h.memd h3 h2, h3⟩
def mF (f : Nat → Int) : MS := { mnew 2 2048 with f := f }
theorem tks_ws60 (i : Nat) (h : i < 60) : (A7.tks A7.AS.nil 15).ws i = tWs i := by
  have := A7.tks_ws A7.AS.nil 15 (i / 4 + 1) (i % 4) (by omega) (by omega) (by omega)
  rw [show A7.AS.nil.n = 0 from rfl, show 0 + 4 * (i / 4 + 1 - 1) + i % 4 = i by omega] at this
  rw [this]
  unfold tWs tW
  rw [if_pos h]
set_option maxRecDepth 100000 in
set_option maxHeartbeats 4000000 in
theorem tmade_at {w : World} (p : Int) (h0 : 0 ≤ p) (h1 : p ≤ 15) (hT : Tabs w) :
    Calls Tryz.prog 45 #[.int .u8 p] w fun e w' => ∃ b G, e = .returned (.pointer (some ⟨b, 0, none⟩)) ∧ MachB w' b G (mT p) ∧ Below w.heap.size w w' ∧ ∀ i, G i → w.heap.size ≤ i := by
  have HT := Lib.hid hT
  clear hT
  go_enter Tryz.func45, Tryz.ntmps45
  go_wp2_with fail
  refine (New_at 2 2048 w (by decide) (by decide) ⟨by decide, by decide, by decide⟩ HT.out).mono ?_; rintro e w1 ⟨b, G, rfl, B1, g1, low⟩
  obtain ⟨fb, mb, g, x, cs, os, P1⟩ := B1
  have P1 := Lib.hid P1
  have B1 := Lib.hid g1
  have HG : Hid (∀ i, G i → w.heap.size ≤ i) := low
  clear g1 low
  go_wp2_with fail
  refine (A7.New_at (K := fun _ => False) w1 (HT.out.bel B1.out).i (fun _ e => e.elim)).mono ?_; rintro e w2 ⟨a, Ga, rfl, A2, g2, low2⟩
  have P2 := Lib.hid (P1.out.bel g2)
  have B2 := Lib.hid (bel_trans B1.out g2)
  have H2 := Lib.hid (A7.Has.start A2)
  have LA : Hid (∀ i, Ga i → w1.heap.size ≤ i) := low2
  have FA : Hid (∀ i, Ga i → ¬ isTab i) := fun i hi ht => absurd ((HT.out.bel B1.out).lt ht) (Nat.not_lt.2 (low2 i hi))
  have DA : Hid (∀ i, G i → ¬ Ga i) := fun i hi ha => absurd (P1.out.lt i hi) (Nat.not_lt.2 (low2 i ha))
  have LW : Hid (∀ i, Ga i → w.heap.size ≤ i) := fun i hi => Nat.le_trans B1.out.size (low2 i hi)
  clear A2 g2 low2 P1 LA
  go_wp2_with fail
  refine (A7.All_yes H2.out (fun j _ _ => rfl) (by decide) (by decide)).mono ?_; rintro e w3 ⟨rfl, H3⟩
  have P3 := Lib.hid (P2.out.turns (turns_of H3.turns) DA.out FA.out)
  have B3 := Lib.hid (Turns.bel B2.out (turns_of H3.turns) LW.out)
  have H3 := Lib.hid H3
  clear H2 P2 B2 B1
  go_wp2_with fail
  obtain ⟨G', K', A⟩ := H3.out.see
  refine (A7.Words_nil A (A7.tks_js _ _)).mono ?_; rintro e w4 ⟨l, rfl, own, g4⟩
  have en : (A7.tks A7.AS.nil 15).n = 60 := by rw [A7.tks_n]; rfl
  rw [en] at own
  have SL := Lib.hid ((own_sl own).congr tks_ws60)
  have P4 := Lib.hid (P3.out.bel g4)
  have B4 := Lib.hid (bel_trans B3.out g4)
  clear A own g4 en H3 P3 B3 DA FA LW
  obtain ⟨pl, cl, rfl, _⟩ := id SL.out
  go_wp2_with fail
  refine (Mem_get P4.out).mono ?_; rintro e w5 ⟨rfl, rfl⟩
  go_wp2_with fail
  refine (M5.put_yes 768 P4.out.mem SL.out tWs_w (by decide)).mono ?_; rintro e w6 ⟨rfl, M6, g6⟩
  have P6 : Hid (MachP w6 b fb mb g x cs os G (mF (fBr fA 0))) := P4.out.memd g6 M6
  have B6 := Lib.hid (only_bel B4.out g6 (HG.out _ P4.out.gg))
  clear M6 g6 P4 B4 SL
  obtain ⟨er1, HE1⟩ := enc_t tBr tBr_b
  obtain ⟨er2, HE2⟩ := enc_t tGo tGo_b
  have HE1 := Lib.hid HE1
  have HE2 := Lib.hid HE2
  have HW1 := Lib.hid (xw_w tBr_b)
  have HW2 := Lib.hid (xw_w tGo_b)
  go_wp2_with fail
  go_loopw [8] (fun i wr => ∃ k : Nat, 1 ≤ k ∧ k ≤ 16 ∧ i = .int .i64 k ∧ MachP wr b fb mb g x cs os G (mF (fBr fA (k - 1))) ∧ Below w.heap.size w wr) (fun i _ => 16 - (intOf i).toNat)
  case atStart => exact ⟨1, by decide, by decide, rfl, P6.out, B6.out⟩
  case round =>
    obtain ⟨k, hk1, hk, rfl, P7, B7⟩ := hrel
    have P7 := Lib.hid P7
    have B7 := Lib.hid B7
    clear P6 B6
    by_cases hlt : k < 16
    · have hlt' : (k : Int) < 16 := by omega
      have hk1' : (1 : Int) ≤ k := by omega
      have hq : (768 + 16 * ((k : Int) - 1) - (512 + 16 * (k : Int))) / 4 = 60 := by omega
      have HQ : Hid (∀ W : World, Calls Tryz.prog 42 #[.agg #[.int .u8 17, .int .u8 0, .int .u8 0, .int .u8 0, .bool true, .int .i32 ((768 + 16 * ((k : Int) - 1) - (512 + 16 * (k : Int))) / 4)]] W fun e w' => e = .returned (.tuple #[.int .u32 tBr.word, .int .i64 er1]) ∧ Below W.heap.size W w') := fun W => by rw [hq]; exact HE1.out W
      have HS : Hid (∀ W, MachP W b fb mb g x cs os G (mF (fBr fA (k - 1))) → Calls Tryz.prog 24 #[.pointer (some ⟨mb, 0, none⟩), .int .u32 (512 + 16 * (k : Int)), .int .i64 4, .int .u32 tBr.word] W fun e w' => e = .returned (.int .i64 0) ∧ MachP w' b fb mb g x cs os G (mF (fBr fA k)) ∧ W.grownBy w' (some g)) := fun W h => by
        have c := tstore h (512 + 16 * k) tBr.word HW1.out (th_4 (by omega) (by omega) (by omega))
        have e : (((512 + 16 * k : Nat)) : Int) = 512 + 16 * (k : Int) := by omega
        rw [e] at c
        refine c.mono fun e w' ⟨h1, h2, h3⟩ => ⟨h1, ?_, h3⟩
        obtain ⟨j, rfl⟩ : ∃ j, k = j + 1 := ⟨k - 1, by omega⟩
        exact h2
      have WB : Hid (∀ W : World, Below W.heap.size W (W.alloc (.cells #[.int .u8 17, .int .u8 0, .int .u8 0, .int .u8 0, .bool true, .int .i32 60] 61))) := fun W => (Below.refl _ _).alloc (Nat.le_refl _) _
      generalize tBr.word = wd at *
      clear hq
      go_wp2_with fail
      refine (HQ.out _).mono ?_; rintro e w7 ⟨rfl, g7⟩
      have P8 := Lib.hid (P7.out.bel g7)
      have B8 := Lib.hid (bel_trans B7.out g7)
      clear P7 B7 g7 HQ
      go_wp2_with fail
      refine (Mem_get P8.out).mono ?_; rintro e w8 ⟨rfl, rfl⟩
      go_wp2_with fail
      refine (HS.out _ P8.out).mono ?_; rintro e w9 ⟨rfl, P9, g9⟩
      have P9 := Lib.hid P9
      have B9 := Lib.hid (only_bel B8.out g9 (HG.out _ P8.out.gg))
      clear P8 B8 g9 HS
      go_wp2_with fail
      go_roundw
      case rel => exact ⟨k + 1, by omega, by omega, by go_num, P9.out, B9.out⟩
      case measure => simp [intOf]; omega
    · obtain rfl : k = 16 := by omega
      have P7 : Hid (MachP wr b fb mb g x cs os G (mF (fGo (fBr fA 15) 0))) := P7.out
      go_wp2_with fail
      refine (HE2.out _).mono ?_; rintro e w7 ⟨rfl, g7⟩
      have P8 := Lib.hid (P7.out.bel g7)
      have B8 := Lib.hid (bel_trans B7.out g7)
      clear P7 B7 g7 HE1 HE2 HW1
      generalize hwd : tGo.word = wd at *
      have HWD := Lib.hid hwd
      clear hwd
      go_wp2_with fail
      go_loopw [14] (fun i wr => ∃ j : Nat, j ≤ 128 ∧ i = .int .i64 (1536 + 4 * (j : Int)) ∧ MachP wr b fb mb g x cs os G (mF (fGo (fBr fA 15) j)) ∧ Below w.heap.size w wr) (fun i _ => (2048 - intOf i).toNat)
      case atStart => exact ⟨0, by decide, rfl, P8.out, B8.out⟩
      case round =>
        obtain ⟨j, hj, rfl, P9, B9⟩ := hrel
        have P9 := Lib.hid P9
        have B9 := Lib.hid B9
        clear P8 B8
        by_cases hlt : j < 128
        · have hlt' : 1536 + 4 * (j : Int) < 2048 := by omega
          have w4k : IntKind.i64.wrap (1536 + 4 * (j : Int) + 4) = 1536 + 4 * (j : Int) + 4 := IntWalk.i64_in _ (by omega)
          have HS : Hid (∀ W, MachP W b fb mb g x cs os G (mF (fGo (fBr fA 15) j)) → Calls Tryz.prog 24 #[.pointer (some ⟨mb, 0, none⟩), .int .u32 (1536 + 4 * (j : Int)), .int .i64 4, .int .u32 wd] W fun e w' => e = .returned (.int .i64 0) ∧ MachP w' b fb mb g x cs os G (mF (fGo (fBr fA 15) (j + 1))) ∧ W.grownBy w' (some g)) := fun W h => by
            have c := tstore h (1536 + 4 * j) wd HW2.out (th_4 (by omega) (by omega) (by omega))
            have e : (((1536 + 4 * j : Nat)) : Int) = 1536 + 4 * (j : Int) := by omega
            rw [e] at c
            refine c.mono fun e w' ⟨h1, h2, h3⟩ => ⟨h1, ?_, h3⟩
            rw [← HWD.out] at h2
            exact h2
          go_wp2_with fail
          refine (Mem_get P9.out).mono ?_; rintro e w8 ⟨rfl, rfl⟩
          go_wp2_with fail
          refine (HS.out _ P9.out).mono ?_; rintro e w9 ⟨rfl, P10, g10⟩
          have P10 := Lib.hid P10
          have B10 := Lib.hid (only_bel B9.out g10 (HG.out _ P9.out.gg))
          clear P9 B9 g10 HS
          go_wp2_with fail
          go_roundw
          case rel => exact ⟨j + 1, by omega, by push_cast; go_num, P10.out, B10.out⟩
          case measure => simp [intOf]; omega
        · obtain rfl : j = 128 := by omega
          go_wp2_with fail
          refine (PC_set 1536 P9.out ⟨by decide, by decide⟩).mono ?_; rintro e w8 ⟨rfl, P10, g10⟩
          have P10 := Lib.hid P10
          have B10 := Lib.hid (only_bel B9.out g10 (HG.out _ P9.out.gb))
          clear P9 B9 g10
          go_wp2_with fail
          refine (SetPsr_yes P10.out 0 p 0 0 ⟨by decide, by decide⟩ ⟨h0, by omega⟩ ⟨by decide, by decide⟩ ⟨by decide, by decide⟩ ⟨by decide, by decide, by decide, h1, by decide, by decide⟩).mono ?_; rintro e w9 ⟨rfl, P11, g11⟩
          have P11 : Hid (MachP w9 b fb mb g x cs os G (mT p)) := P11
          have B11 := Lib.hid (only_bel B10.out g11 (HG.out _ P10.out.gb))
          clear P10 B10 g11
          go_wp2_with fail
          go_ret
          exact ⟨b, G, rfl, P11.out.b, B11.out, HG.out⟩
end Go.Proofs.YtgbodbejcffclaaGreatDoor.K6
