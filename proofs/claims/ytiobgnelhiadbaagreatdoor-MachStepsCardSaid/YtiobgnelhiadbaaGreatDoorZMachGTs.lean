/- same (layer 6): a machine has what the document's has. -/
import Derived.Test.YtiobgnelhiadbaaGreatDoorZMachGMr
import Derived.Test.YtiobgnelhiadbaaGreatDoorZMachGRe
import Derived.Test.YtiobgnelhiadbaaGreatDoorZFileGS
import Derived.Test.YtiobgnelhiadbaaGreatDoorZMemG
import Derived.Test.YtiobgnelhiadbaaGreatDoorZMachGLo
namespace Go.Proofs.YtiobgnelhiadbaaGreatDoor.K6
open Go.RowKit
set_option linter.unusedVariables false
/-- The document's machine's cells, by what the machine has. -/
theorem held_same {F : Far} {V W : World} {z L : Nat} {q : RV} {m : MS} (hr : RowQ V z q) (A : @RefAt F V q m L) (g : Below V.heap.size V W) :
    W.cell? ⟨z, 0, none⟩ = some (.int .i64 m.nw) ∧ W.cell? ⟨z, 1, none⟩ = some (.int .i64 m.nw) ∧ W.cell? ⟨z, 2, none⟩ = some q.fs ∧ W.cell? ⟨z, 3, none⟩ = some q.ms ∧ W.cell? ⟨z, 4, none⟩ = some (.int .u32 m.pc) ∧ W.cell? ⟨z, 5, none⟩ = some (.int .u8 m.cwp) ∧ W.cell? ⟨z, 6, none⟩ = some (.int .u8 m.pil) ∧ W.cell? ⟨z, 7, none⟩ = some (.int .u8 m.bank) ∧ W.cell? ⟨z, 8, none⟩ = some (.int .u8 m.fl) ∧ W.cell? ⟨z, 9, none⟩ = some (.int .u32 m.wim) ∧ W.cell? ⟨z, 10, none⟩ = some q.tp ∧ W.cell? ⟨z, 11, none⟩ = some q.ts ∧ W.cell? ⟨z, 13, none⟩ = some q.ot ∧ W.cell? ⟨z, 14, none⟩ = some (.int .u8 m.sk) ∧ W.cell? ⟨z, 15, none⟩ = some (.int .u32 m.sv) ∧ Below V.heap.size V W := by
  obtain ⟨h0, h1, h2, h3, h4, h5, h6, h7, h8, h9, h10, h11, h12, h13, h14, h15⟩ := (hr.bel g).all
  rw [A.nw] at h0; rw [A.fn] at h1; rw [A.pc] at h4; rw [A.cwp] at h5; rw [A.pil] at h6; rw [A.bank] at h7; rw [A.fl] at h8; rw [A.wim] at h9; rw [A.sk] at h14; rw [A.sv] at h15
  exact ⟨h0, h1, h2, h3, h4, h5, h6, h7, h8, h9, h10, h11, h13, h14, h15, g⟩
theorem eq_psrT (x0 x1 x2 x3 : Int) (W : World) : (Op.equalIn 10000 24 (.agg #[.int .u8 x0, .int .u8 x1, .int .u8 x2, .int .u8 x3]) (.agg #[.int .u8 x0, .int .u8 x1, .int .u8 x2, .int .u8 x3])).run Tryz.prog W = .ok true W := by simp [go_sem]
theorem eq_stopT (k v : Int) (W : World) : (Op.equalIn 10000 37 (.agg #[.int .u8 k, .int .u32 v]) (.agg #[.int .u8 k, .int .u32 v])).run Tryz.prog W = .ok true W := by simp [go_sem]
theorem held_few {W : World} {z : Nat} {a0 a1 a2 a3 a4 a5 a6 a7 a8 a9 a10 a11 a12 a13 a14 : Value} {P : Prop} (h : W.cell? ⟨z, 0, none⟩ = some a0 ∧ W.cell? ⟨z, 1, none⟩ = some a1 ∧ W.cell? ⟨z, 2, none⟩ = some a2 ∧ W.cell? ⟨z, 3, none⟩ = some a3 ∧ W.cell? ⟨z, 4, none⟩ = some a4 ∧ W.cell? ⟨z, 5, none⟩ = some a5 ∧ W.cell? ⟨z, 6, none⟩ = some a6 ∧ W.cell? ⟨z, 7, none⟩ = some a7 ∧ W.cell? ⟨z, 8, none⟩ = some a8 ∧ W.cell? ⟨z, 9, none⟩ = some a9 ∧ W.cell? ⟨z, 10, none⟩ = some a10 ∧ W.cell? ⟨z, 11, none⟩ = some a11 ∧ W.cell? ⟨z, 13, none⟩ = some a12 ∧ W.cell? ⟨z, 14, none⟩ = some a13 ∧ W.cell? ⟨z, 15, none⟩ = some a14 ∧ P) :
    W.cell? ⟨z, 4, none⟩ = some a4 ∧ W.cell? ⟨z, 5, none⟩ = some a5 ∧ W.cell? ⟨z, 6, none⟩ = some a6 ∧ W.cell? ⟨z, 7, none⟩ = some a7 ∧ W.cell? ⟨z, 8, none⟩ = some a8 ∧ W.cell? ⟨z, 9, none⟩ = some a9 ∧ W.cell? ⟨z, 13, none⟩ = some a12 ∧ W.cell? ⟨z, 14, none⟩ = some a13 ∧ W.cell? ⟨z, 15, none⟩ = some a14 ∧ P := by
  obtain ⟨_, _, _, _, h4, h5, h6, h7, h8, h9, _, _, h13, h14, h15, hP⟩ := h
  exact ⟨h4, h5, h6, h7, h8, h9, h13, h14, h15, hP⟩
theorem mono_bel {F : Nat} {xs : Array Value} {V W : World} {r : Value} (h : Calls Tryz.prog F xs W fun e w' => e = .returned r ∧ Below W.heap.size W w') (k : Below V.heap.size V W) : Calls Tryz.prog F xs W fun e w' => e = .returned r ∧ Below V.heap.size V w' := h.mono fun e w' ⟨h1, h2⟩ => ⟨h1, bel_trans k h2⟩
theorem mono_eq {F : Nat} {xs : Array Value} {V W : World} {r : Value} (h : Calls Tryz.prog F xs W fun e w' => e = .returned r ∧ W = w') (k : Below V.heap.size V W) : Calls Tryz.prog F xs W fun e w' => e = .returned r ∧ Below V.heap.size V w' := h.mono fun e w' ⟨h1, h2⟩ => ⟨h1, h2 ▸ k⟩
theorem sl_like {w : World} {s : Value} {n : Nat} {f g : Nat → Int} (h : Sl .u32 w s n f) (e : ∀ i, i < n → f i = g i) : Sl .u32 w s n g := by
  obtain ⟨p, c, rfl, hp⟩ := h
  exact ⟨p, c, rfl, fun hn => by obtain ⟨b, o, rfl, hc⟩ := hp hn; exact ⟨b, o, rfl, fun i hi => (hc i hi).trans (by rw [e i hi])⟩⟩
set_option maxRecDepth 100000 in
set_option maxHeartbeats 1000000 in
theorem same_at {F : Far} {w : World} {b fb mb g x : Nat} {cs os : Value} {G : Nat → Prop} {m : MS} {q : RV} {L : Nat} (P : MachP w b fb mb g x cs os G m) (A : @RefAt F w q m L) (hL : L ≤ 900) (hol : m.ol ≤ 1000000) :
    Calls Tryz.prog 16 #[.pointer (some ⟨b, 0, none⟩), .agg (rrow q)] w fun e w' => e = .returned (.bool true) ∧ Below w.heap.size w w' := by
  go_enter Tryz.func16, Tryz.ntmps16
  go_upto_region 1 with (refine q_box rfl (.tmp 1) rfl (some 3) rfl q rfl ?_; intro V r1 b1 s1)
  replace P := P.bel b1
  replace A := A.bel b1
  have ok := P.ok
  obtain ⟨l, hl, hS, hlen⟩ := A.file
  obtain ⟨pf, cf, hfs, _⟩ := hl.form
  obtain ⟨pm, cm, hms, _⟩ := A.mem.sl
  obtain ⟨bt, ot, ct, htp, _⟩ := bank_cell A.tp (Nat.zero_le 16)
  obtain ⟨bs, os', cs', hts, _⟩ := bank_cell A.ts (Nat.zero_le 16)
  have eC : ∀ {x k r : Int}, F3.Named m.nw x k r → F3.atL l (F3.place m.nw x k r) = m.R (F3.loc m.nw x k r) := fun hN => by rw [← F3.cellOf_loc ok.n32 hN, ← hS _ (F3.loc_lt ok.n32 hN)]
  have HCM : Hid (m.sz ≤ cm) := A.mem.cap _ _ _ hms
  have hsz := ok.sz
  -- what the calls come to, in any world that has grown
  have HPC := Lib.hid (fun W (k : Below V.heap.size V W) => mono_eq (PC_get (P.bel k)) k)
  have HPS := Lib.hid (fun W (k : Below V.heap.size V W) => mono_bel (Psr_get (P.bel k)) k)
  have HWI := Lib.hid (fun W (k : Below V.heap.size V W) => mono_eq (Wim_get (P.bel k)) k)
  have HST := Lib.hid (fun W (k : Below V.heap.size V W) => mono_bel (stop_at (P.bel k)) k)
  have HOU : Hid (∀ W, Below V.heap.size V W → Calls Tryz.prog 30 #[.pointer (some ⟨b, 0, none⟩)] W fun e w' => ∃ s, e = .returned s ∧ Sl .u32 w' s m.ol m.out ∧ Below V.heap.size V w') := fun W k => (Out_own (P.bel k) hol).mono fun e w' ⟨s, h1, h2, h3⟩ => ⟨s, h1, own_sl h2, bel_trans k h3⟩
  have HSA := Lib.hid (fun W s (k : Below V.heap.size V W) (hs : Sl .u32 W s m.ol m.out) => mono_bel (M5.words_same s q.ot m.ol m.out m.out W (by omega) hs (A.bel k).ot.slt.sl (fun _ _ => rfl)) k)
  have HTT := Lib.hid (fun W (k : Below V.heap.size V W) (j : Nat) (h0 : 1 ≤ j) (h1 : j ≤ 16) => mono_bel (T_get j (P.bel k) h0 h1) k)
  have HTP : Hid (∀ W, Below V.heap.size V W → ∀ j, j ≤ 16 → W.cell? ⟨bt, ot + j, none⟩ = some (.int .u32 (m.tpc j)) ∧ W.cell? ⟨bs, os' + j, none⟩ = some (.int .u32 (m.tps j))) := fun W k j hj => by
    obtain ⟨b1, o1, c1, e1, h1⟩ := bank_cell (A.bel k).tp hj
    obtain ⟨b2, o2, c2, e2, h2⟩ := bank_cell (A.bel k).ts hj
    rw [htp] at e1; rw [hts] at e2
    cases e1; cases e2
    exact ⟨h1, h2⟩
  have HFI := Lib.hid (fun W (k : Below V.heap.size V W) => mono_eq (File_get (P.bel k)) k)
  have HWN : Hid (∀ W, Below V.heap.size V W → ∀ j : Nat, (j : Int) < m.nw → Calls Tryz.prog 31 #[.pointer (some ⟨fb, 0, none⟩), .int .i64 j] W fun e w' => ∃ s, e = .returned (.tuple #[s, .int .i64 0]) ∧ Sl .u32 w' s 16 (fun i => m.R (j * 16 + i)) ∧ Below V.heap.size V w') := fun W k j hj =>
    (F3.window_at fb m.nw j m.R W (P.bel k).file ok.n2 ok.n32 (by omega) hj).mono fun e w' ⟨h1, h2, h3⟩ => ⟨_, h1, ⟨_, _, rfl, fun _ => ⟨_, 0, rfl, fun i hi => row_cell h3 (by simp [F3.wl, hi])⟩⟩, bel_trans k h2⟩
  have HRW : Hid (∀ W, Below V.heap.size V W → ∀ j : Nat, (j : Int) < m.nw → Calls Tryz.prog 86 #[.agg #[.int .i64 m.nw, .slice pf l.length cf], .int .i64 j] W fun e w' => ∃ s, e = .returned (.tuple #[s, .int .i64 0]) ∧ Sl .u32 w' s 16 (fun i => m.R (j * 16 + i)) ∧ Below V.heap.size V w' ∧ Below W.heap.size W w') := fun W k j hj =>
    (F3.refWindow_at m.nw j pf l.length cf l W ok.n2 ok.n32 (by omega) hj (by omega) (hfs ▸ hl.bel k)).mono fun e w' ⟨s', h1, h2, h3⟩ => ⟨s', h1, sl_like (own_sl h2) (fun i hi => by
      rw [eC ⟨by omega, hj, by decide, by decide, by omega, by omega⟩, F3.loc_own (by omega)]
      congr 1
      omega), bel_trans k h3, h3⟩
  have HS16 := Lib.hid (fun W s t (j : Nat) (k : Below V.heap.size V W) (h1 : Sl .u32 W s 16 (fun i => m.R (j * 16 + i))) (h2 : Sl .u32 W t 16 (fun i => m.R (j * 16 + i))) => mono_bel (M5.words_same s t 16 _ _ W (by decide) h1 h2 (fun _ _ => rfl)) k)
  have hNm : ∀ j r : Nat, j ≤ 16 → r < 8 → F3.Named m.nw 0 j r := fun j r hj hr => ⟨by decide, by have := ok.n2; omega, by omega, by omega, by omega, by omega⟩
  have HGE := Lib.hid (fun W (k : Below V.heap.size V W) (j r : Nat) (hj : j ≤ 16) (hr : r < 8) => mono_bel (F3.get_at fb m.nw 0 j r m.R W (P.bel k).file ok.n2 ok.n32 (hNm j r hj hr)) k)
  have HRG : Hid (∀ W, Below V.heap.size V W → ∀ j r : Nat, j ≤ 16 → r < 8 → Calls Tryz.prog 87 #[.agg #[.int .i64 m.nw, .slice pf l.length cf], .int .i64 0, .int .i64 j, .int .i64 r] W fun e w' => e = .returned (.tuple #[.int .u32 (m.R (F3.loc m.nw 0 j r)), .int .i64 0]) ∧ Below V.heap.size V w') := fun W k j r hj hr =>
    (F3.refGet_at m.nw 0 j r (.slice pf l.length cf) l W ok.n2 ok.n32 (by omega) (hfs ▸ hl.bel k) (hNm j r hj hr)).mono fun e w' ⟨h1, h2⟩ => ⟨by rw [h1, eC (hNm j r hj hr)], bel_trans k h2⟩
  have HME := Lib.hid (fun W (k : Below V.heap.size V W) => mono_eq (Mem_get (P.bel k)) k)
  have hspE : spE (m.sz : Int) 0 ((m.sz / 4 : Nat) : Int) = 0 := by unfold spE; rw [if_neg (by omega), if_neg (by omega), if_neg (by omega)]
  have HWO : Hid (∀ W, Below V.heap.size V W → Calls Tryz.prog 35 #[.pointer (some ⟨mb, 0, none⟩), .int .u32 0, .int .i64 ((m.sz / 4 : Nat) : Int)] W fun e w' => ∃ s, e = .returned (.tuple #[s, .int .i64 0]) ∧ Sl .u32 w' s (m.sz / 4) (M5.wdB m.f 0) ∧ Below V.heap.size V w') := fun W k =>
    (M5.words_yes 0 (m.sz / 4) (P.bel k).mem hspE).mono fun e w' ⟨s, h1, h2, h3⟩ => ⟨s, h1, h2, bel_trans k h3⟩
  have HRO : Hid (∀ W, Below V.heap.size V W → Calls Tryz.prog 40 #[.slice pm m.sz cm, .int .u32 0, .int .i64 ((m.sz / 4 : Nat) : Int)] W fun e w' => ∃ s, e = .returned (.tuple #[s, .int .i64 0]) ∧ Sl .u32 w' s (m.sz / 4) (M5.wdB m.f 0) ∧ Below V.heap.size V w' ∧ Below W.heap.size W w') := fun W k =>
    (M5.rwords_yes (.slice pm m.sz cm) m.sz (m.sz / 4) m.f 0 W hsz (hms ▸ (A.bel k).mem.sl) ok.f hspE).mono fun e w' ⟨s, h1, h2, h3⟩ => ⟨s, h1, own_sl h2, bel_trans k h3, h3⟩
  have HSW := Lib.hid (fun W s t (k : Below V.heap.size V W) (h1 : Sl .u32 W s (m.sz / 4) (M5.wdB m.f 0)) (h2 : Sl .u32 W t (m.sz / 4) (M5.wdB m.f 0)) => mono_bel (M5.words_same s t (m.sz / 4) _ _ W (by omega) h1 h2 (fun _ _ => rfl)) k)
  have HQ := Lib.hid (fun W (g : Below V.heap.size V W) => held_same r1.out A g)
  rw [hfs, hms, htp, hts] at HQ
  have hq4 : ((m.sz : Int)).tdiv 4 = ((m.sz / 4 : Nat) : Int) := by rw [Int.tdiv_eq_ediv_of_nonneg (by omega)]; omega
  have n2 := ok.n2
  have n32 := ok.n32
  obtain ⟨nn, hnn⟩ : ∃ nn : Nat, m.nw = nn := ⟨m.nw.toNat, by omega⟩
  have HNN := Lib.hid hnn
  clear hnn
  have hf1 := eq_psrT
  have hf2 := eq_stopT
  clear eC hNm hspE A P hl hS hlen hfs hms htp hts ok r1
  have GV := Lib.hid (Below.refl V.heap.size V)
  have BD : Below V.heap.size V V.drew := (Below.refl _ _).drew
  go_region_held3 (fun W => W.cell? ⟨w.heap.size, 4, none⟩ = some (.int .u32 m.pc) ∧ W.cell? ⟨w.heap.size, 5, none⟩ = some (.int .u8 m.cwp) ∧ W.cell? ⟨w.heap.size, 6, none⟩ = some (.int .u8 m.pil) ∧ W.cell? ⟨w.heap.size, 7, none⟩ = some (.int .u8 m.bank) ∧ W.cell? ⟨w.heap.size, 8, none⟩ = some (.int .u8 m.fl) ∧ W.cell? ⟨w.heap.size, 9, none⟩ = some (.int .u32 m.wim) ∧ W.cell? ⟨w.heap.size, 13, none⟩ = some q.ot ∧ W.cell? ⟨w.heap.size, 14, none⟩ = some (.int .u8 m.sk) ∧ W.cell? ⟨w.heap.size, 15, none⟩ = some (.int .u32 m.sv) ∧ Below V.heap.size V W)
    (exact held_few (HQ.out _ (by with_reducible assumption)))
    (first
      | (go_at_call 55; refine (HPC.out _ (by with_reducible assumption)).mono ?_; rintro e Wa ⟨rfl, ga⟩)
      | (go_at_call 28; refine (HPS.out _ (by with_reducible assumption)).mono ?_; rintro e Wb ⟨rfl, gb⟩)
      | (go_at_call 32; refine (HWI.out _ (by with_reducible assumption)).mono ?_; rintro e Wc ⟨rfl, gc⟩)
      | (go_at_call 51; refine (HST.out _ (by with_reducible assumption)).mono ?_; rintro e Wd ⟨rfl, gd⟩)
      | (go_at_call 30; refine (HOU.out _ (by with_reducible assumption)).mono ?_; rintro e We ⟨so, rfl, hso, ge⟩)
      | (go_at_call 33; refine (HSA.out _ _ (by with_reducible assumption) (by with_reducible assumption)).mono ?_; rintro e Wf ⟨rfl, gf⟩))
  have GF := Lib.hid gf
  clear ga gb gc gd ge gf hso BD GV HPC HPS HWI HST HOU HSA hf1 hf2
  rename_i hH
  clear hH
  go_wp2_with fail
  go_loopw [5] (fun i wr => ∃ k : Nat, 1 ≤ k ∧ k ≤ 17 ∧ i = .int .i64 k ∧ Below V.heap.size V wr) (fun i _ => 17 - (intOf i).toNat)
  case atStart => exact ⟨1, Nat.le_refl _, by omega, rfl, GF.out⟩
  case round =>
    obtain ⟨k, hk1, hk, rfl, hB⟩ := hrel
    clear GF
    by_cases hlt : k ≤ 16
    · clear HFI HWN HRW HS16 HGE HRG HME HWO HRO HSW
      go_wp2_with fail
      refine (HTT.out _ hB k hk1 hlt).mono ?_; rintro e w2 ⟨rfl, g2⟩
      obtain ⟨_, _, _, _, _, _, _, _, _, _, c10, c11, _⟩ := HQ.out _ g2
      obtain ⟨t1, t2⟩ := HTP.out _ g2 k hlt
      generalize m.tpc k = ua at *
      generalize m.tps k = ub at *
      clear HTT HTP HQ
      go_wp2_with fail
      go_roundw
      case rel => exact ⟨k + 1, by omega, by omega, by go_num, g2⟩
      case measure => simp [intOf]; omega
    · have e17 : (k : Int) = 17 := by omega
      rw [e17]
      have GB := Lib.hid hB
      clear HTT HTP hB e17 hlt hk hk1
      go_wp2_with fail
      go_loopw [9] (fun i wr => ∃ k : Nat, k ≤ nn ∧ i = .int .i64 k ∧ Below V.heap.size V wr) (fun i _ => nn - (intOf i).toNat)
      case atStart => exact ⟨0, Nat.zero_le _, rfl, GB.out⟩
      case round =>
        obtain ⟨k, hk, rfl, hB⟩ := hrel
        clear GB
        have c0 := (HQ.out _ hB).1
        rw [HNN.out] at c0
        by_cases hlt : k < nn
        · have hkn : (k : Int) < m.nw := by rw [HNN.out]; omega
          clear HGE HRG HME HWO HRO HSW
          go_wp2_with fail
          refine (HFI.out _ hB).mono ?_; rintro e w2 ⟨rfl, g2⟩
          have D3 := Lib.hid (HWN.out _ g2 k hkn)
          clear HFI HWN c0 hB
          go_wp2_with fail
          refine D3.out.mono ?_; rintro e w3 ⟨sa, rfl, S3, g3⟩
          have S3 := Lib.hid S3
          have D4 := Lib.hid (HRW.out _ g3 k hkn)
          obtain ⟨pa, ca, rfl, _⟩ := id S3.out
          obtain ⟨_, c1, c2, _⟩ := HQ.out _ g3
          clear D3 HRW g2
          go_wp2_with fail
          refine D4.out.mono ?_; rintro e w4 ⟨sb, rfl, S4, g4, h4⟩
          have S4 := Lib.hid S4
          obtain ⟨pb, cb, rfl, _⟩ := id S4.out
          have D5 := Lib.hid (HS16.out _ _ _ k g4 (S3.out.bel h4) S4.out)
          clear D4 HS16 S3 S4 g3 c1 c2 HQ h4
          go_wp2_with fail
          refine D5.out.mono ?_; rintro e w5 ⟨rfl, g5⟩
          clear D5
          go_wp2_with fail
          go_roundw
          case rel => exact ⟨k + 1, by omega, by go_num, g5⟩
          case measure => simp [intOf]; omega
        · obtain rfl : k = nn := by omega
          have GB := Lib.hid hB
          clear HWN HRW HS16 hB
          go_wp2_with fail
          clear c0
          go_loopw [14] (fun i wr => ∃ k : Nat, k ≤ 17 ∧ i = .int .i64 k ∧ Below V.heap.size V wr) (fun i _ => 17 - (intOf i).toNat)
          case atStart => exact ⟨0, Nat.zero_le _, rfl, GB.out⟩
          case round =>
            obtain ⟨j, hj, rfl, hB⟩ := hrel
            clear GB
            by_cases hlj : j ≤ 16
            · have hljI : (j : Int) ≤ 16 := by omega
              clear HME HWO HRO HSW
              have GB := Lib.hid hB
              clear hB
              go_wp2_with fail
              go_loopw [15] (fun i wr => ∃ r : Nat, r ≤ 8 ∧ i = .int .i64 r ∧ Below V.heap.size V wr) (fun i _ => 8 - (intOf i).toNat)
              case atStart => exact ⟨0, Nat.zero_le _, rfl, GB.out⟩
              case round =>
                obtain ⟨r, hr, rfl, hB⟩ := hrel
                by_cases hlr : r < 8
                · go_wp2_with fail
                  refine (HFI.out _ hB).mono ?_; rintro e w2 ⟨rfl, g2⟩
                  have D3 := Lib.hid (HGE.out _ g2 j r hlj hlr)
                  clear HFI HGE hB
                  go_wp2_with fail
                  refine D3.out.mono ?_; rintro e w3 ⟨rfl, g3⟩
                  have D4 := Lib.hid (HRG.out _ g3 j r hlj hlr)
                  obtain ⟨_, c1, c2, _⟩ := HQ.out _ g3
                  clear D3 HRG g2 HQ
                  go_wp2_with fail
                  refine D4.out.mono ?_; rintro e w4 ⟨rfl, g4⟩
                  clear D4 c1 c2 g3
                  go_wp2_with fail
                  go_roundw
                  case rel => exact ⟨r + 1, by omega, by go_num, g4⟩
                  case measure => simp [intOf]; omega
                · obtain rfl : r = 8 := by omega
                  clear HFI HGE HRG HQ
                  go_wp2_with fail
                  go_roundw
                  case rel => exact ⟨j + 1, by omega, by go_num, hB⟩
                  case measure => simp [intOf]; omega
            · have e18 : (j : Int) = 17 := by omega
              rw [e18]
              clear HFI HGE HRG
              have HB := Lib.hid hB
              clear hB
              go_wp2_with fail
              clear e18 hlj hj
              have GD := Lib.hid (bel_trans HB.out (Below.refl _ _).drew)
              obtain ⟨z4, hz4⟩ : ∃ z4 : Nat, z4 = m.sz / 4 := ⟨_, rfl⟩
              rw [← hz4] at HWO HRO HSW hq4
              have hzq : (m.sz : Int) / 4 = (z4 : Int) := by omega
              have hqw : IntKind.i64.wrap (z4 : Int) = (z4 : Int) := IntWalk.i64_in _ (by omega)
              have HZ4 := Lib.hid hz4
              clear hz4
              have D0 := (HQ.out _ GD.out).2.2.2.1
              go_region_held3 (fun W => W.cell? ⟨w.heap.size, 3, none⟩ = some (.slice pm m.sz cm))
                (first
                  | exact D0
                  | exact D1
                  | exact D2)
                (first
                  | (go_at_call 34; refine (HME.out _ ?_).mono ?_; exact GD.out; rintro e Wa ⟨rfl, ga⟩; have D1 := (HQ.out _ ga).2.2.2.1)
                  | (go_at_call 35; refine (HWO.out _ ?_).mono ?_; exact ga; rintro e Wb ⟨sw, rfl, Sw, gb⟩; have D2 := (HQ.out _ gb).2.2.2.1))
              all_goals
                have Sw := Lib.hid Sw
                have D5 := Lib.hid (HRO.out _ gb)
                obtain ⟨pw, cw, rfl, _⟩ := id Sw.out
                clear HWO HRO HME ga D0 HQ
                go_wp2_with fail
                refine D5.out.mono ?_; rintro e Wc ⟨sx, rfl, Sx, gc, hc⟩
                have Sx := Lib.hid Sx
                obtain ⟨px, cx, rfl, _⟩ := id Sx.out
                have D6 := Lib.hid (HSW.out _ _ _ gc (Sw.out.bel hc) Sx.out)
                clear D5 HSW hc gc
                go_wp2_with fail
                refine D6.out.mono ?_; rintro e Wd ⟨rfl, gd⟩
                clear D6
                go_wp2_with fail
                go_ret
                exact ⟨rfl, bel_trans b1 gd⟩
end Go.Proofs.YtiobgnelhiadbaaGreatDoor.K6
