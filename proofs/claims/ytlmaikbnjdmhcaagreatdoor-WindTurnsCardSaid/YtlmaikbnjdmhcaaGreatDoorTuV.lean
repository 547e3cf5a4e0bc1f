/- WindTurns (layer 8), walked. -/
import Derived.Test.YtlmaikbnjdmhcaaGreatDoorTuU
namespace Go.Proofs.YtlmaikbnjdmhcaaGreatDoor.K6
open Go.RowKit W8
open F3 (LAt LAtB place atL Ent)
set_option linter.unusedVariables false
theorem world_s {w : World} {b fb mb g x : Nat} {cs os : Value} {G : Nat → Prop} {m : MS} (h : MachP w b fb mb g x cs os G m) {nw t cw : Int} (hn : m.nw = nw) (hs : m.sz = 4096) (t0 : 0 ≤ t) (t1 : t < nw) (hw : m.wim = P4.pw t.toNat) (hcw : m.cwp = cw) :
    Calls Tryz.prog 30 #[.pointer (some ⟨b, 0, none⟩), .int .i64 nw] w fun e w' => ∃ (p' : Option Addr) (m' k' : Nat) (pm : Option Addr) (mk : Nat) (l : List Ent), e = .returned (.agg (drow ⟨nw, .slice p' m' k', .slice pm 4096 mk, cw, t⟩)) ∧ LAtB w.heap.size w' (.slice p' m' k') l ∧ l.length ≤ 640 ∧ F3.Step (wG m.R nw.toNat 16 0) l ∧ MB w.heap.size w' (.slice pm 4096 mk) 4096 (ptB (fun _ => 0) 0 (M5.wdB m.f 0) 1024) ∧ Below w.heap.size w w' := by
  have h2 := h.ok.n2
  have en : ((nw.toNat : Nat) : Int) = nw := by omega
  have et : ((t.toNat : Nat) : Int) = t := by omega
  have := world_at h nw.toNat (by rw [en]; exact hn) 4096 hs rfl t.toNat (by omega) hw cw hcw
  rw [en, et] at this
  exact this
section
variable {w w' : World} {b B : Nat} {G G' : Nat → Prop} {m m' : MS}
theorem Keep.heap (K : Keep w w' b G G' m m') (hG : ∀ i, G i → i < B) {j : Nat} (hj : B ≤ j) {o : Obj} (h : w.heap[j]? = some o) : w'.heap[j]? = some o := (K j o (spect_one h fun e => by have := hG j e; omega)).1
theorem Keep.own (K : Keep w w' b G G' m m') (hG : ∀ i, G i → i < B) {t : TypeId} {z n : Nat} {s : Value} {xs : List Value} (h : w.ownsRow B t z s n xs) : w'.ownsRow B t z s n xs := by
  obtain ⟨h0, h1 | ⟨g, cap, cur, e, hB, hg, r⟩⟩ := h
  · exact ⟨h0, .inl h1⟩
  · exact ⟨h0, .inr ⟨g, cap, cur, e, hB, K.heap hG hB hg, r⟩⟩
end
/-- What the document wants. -/
structure WT (W : World) (B z5 : Nat) (nw : Int) (p2 : Option Addr) (m2 k2 : Nat) (pm2 : Option Addr) (mk2 : Nat) (c2 v2 : Int) (l2 : List Ent) (f2 : Nat → Int) : Prop where
  X : RowD W z5 ⟨nw, .slice p2 m2 k2, .slice pm2 4096 mk2, c2, v2⟩
  L : LAtB B W (.slice p2 m2 k2) l2
  len : l2.length ≤ 700
  M : MB B W (.slice pm2 4096 mk2) 4096 f2
  z : B ≤ z5
theorem WT.bel {W W' : World} {B z5 : Nat} {nw : Int} {p2 : Option Addr} {m2 k2 : Nat} {pm2 : Option Addr} {mk2 : Nat} {c2 v2 : Int} {l2 : List Ent} {f2 : Nat → Int} (h : WT W B z5 nw p2 m2 k2 pm2 mk2 c2 v2 l2 f2) (k : Below W.heap.size W W') : WT W' B z5 nw p2 m2 k2 pm2 mk2 c2 v2 l2 f2 :=
  ⟨h.X.bel k, own_belw h.L k, h.len, own_belw h.M k, h.z⟩
theorem WT.keep {W W' : World} {b B z5 : Nat} {G G' : Nat → Prop} {m m' : MS} {nw : Int} {p2 : Option Addr} {m2 k2 : Nat} {pm2 : Option Addr} {mk2 : Nat} {c2 v2 : Int} {l2 : List Ent} {f2 : Nat → Int} (h : WT W B z5 nw p2 m2 k2 pm2 mk2 c2 v2 l2 f2) (K : Keep W W' b G G' m m') (hG : ∀ i, G i → i < B) : WT W' B z5 nw p2 m2 k2 pm2 mk2 c2 v2 l2 f2 :=
  ⟨K.heap hG h.z h.X, K.own hG h.L, h.len, K.own hG h.M, h.z⟩
set_option maxRecDepth 100000 in
set_option maxHeartbeats 8000000 in
theorem turns_walk {w : World} (s : CS) {vr vf vg : Value} (hB : CSB s) (hC : CaseAt w s vr vf vg) (hT : Tabs w) :
    Calls Tryz.prog 5 #[.agg (crow s vr vf vg)] w fun e w' => e = .returned (.bool true) ∧ Below w.heap.size w w' := by
  obtain ⟨pr, cr, rfl, _⟩ := id hC.rr
  obtain ⟨pf, cf, rfl, _⟩ := id hC.rf
  obtain ⟨pg, cg, rfl, _⟩ := id hC.rg
  have hX : Hid ((w.alloc (.cells (crow s (.slice pr s.lr cr) (.slice pf s.lf cf) (.slice pg s.lg cg)) 69)).heap[w.heap.size]? = some (.cells (crow s (.slice pr s.lr cr) (.slice pf s.lf cf) (.slice pg s.lg cg)) 69 (0, 0))) := heap_alloc_last _ _
  have gX : Hid (Below w.heap.size w (w.alloc (.cells (crow s (.slice pr s.lr cr) (.slice pf s.lf cf) (.slice pg s.lg cg)) 69))) := bel_alK (Below.refl _ _)
  have HB := Lib.hid hB
  have HC := Lib.hid (hC.bel gX.out)
  have HT := Lib.hid (hT.bel gX.out)
  have HEAD : Hid (∀ W : World, Below w.heap.size w W → Calls Tryz.prog 28 #[] W fun e w' => e = .returned (.bool true) ∧ Below W.heap.size W w') := fun W k => whead_at W (hT.bel k)
  clear hB hC hT
  go_enter Tryz.func5, Tryz.ntmps5
  go_upto_region 1 with (fail)
  change Code.wp _ _ _ _ (w.alloc (.cells (crow s (.slice pr s.lr cr) (.slice pf s.lf cf) (.slice pg s.lg cg)) 69))
  generalize w.alloc (.cells (crow s (.slice pr s.lr cr) (.slice pf s.lf cf) (.slice pg s.lg cg)) 69) = V at hX gX HC HT ⊢
  have RX : Hid (∀ W : World, Below V.heap.size V W → W.cell? ⟨w.heap.size, 0, none⟩ = some (.int .i64 s.nw) ∧ W.cell? ⟨w.heap.size, 1, none⟩ = some (.int .i64 s.c) ∧ W.cell? ⟨w.heap.size, 2, none⟩ = some (.slice pr s.lr cr) ∧ W.cell? ⟨w.heap.size, 3, none⟩ = some (.slice pf s.lf cf) ∧ W.cell? ⟨w.heap.size, 4, none⟩ = some (.int .u8 s.fl) ∧ W.cell? ⟨w.heap.size, 5, none⟩ = some (.int .u8 s.pl) ∧ W.cell? ⟨w.heap.size, 6, none⟩ = some (.slice pg s.lg cg) ∧ W.cell? ⟨w.heap.size, 7, none⟩ = some (.int .u32 s.fill) ∧ W.cell? ⟨w.heap.size, 8, none⟩ = some (.bool s.up)) := fun W k => by
    have h := bel_heap k hX.out
    exact ⟨row_cell h rfl, row_cell h rfl, row_cell h rfl, row_cell h rfl, row_cell h rfl, row_cell h rfl, row_cell h rfl, row_cell h rfl, row_cell h rfl⟩
  clear hX
  obtain ⟨x0, x1, x2, x3, x4, x5, x6, x7, x8⟩ := RX.out V (Below.refl _ _)
  go_wp2_with fail
  refine (may_at s HC.out).mono ?_; rintro e w1 ⟨rfl, g1⟩
  have G1 := Lib.hid g1
  clear g1 x0 x1 x2 x3 x4 x5 x6 x7 x8
  cases hv : mayB s
  · go_wp2_with fail
    refine (HEAD.out w1 (bel_trans gX.out G1.out)).mono ?_; rintro e w2 ⟨rfl, g2⟩
    have G2 := Lib.hid (bel_trans gX.out (bel_trans G1.out g2))
    clear g2
    go_wp2_with fail
    go_ret
    exact ⟨rfl, G2.out⟩
  have HM := Lib.hid (mayB_may hv)
  clear hv
  obtain ⟨x0, x1, x2, x3, x4, x5, x6, x7, x8⟩ := RX.out w1 G1.out
  go_wp2_with fail
  refine (wmade_at s HM.out HB.out (HC.out.bel G1.out) (HT.out.bel G1.out)).mono ?_; rintro e w2 ⟨b, G, rfl, B2, g2, low2⟩
  have A2 : Hid (AllM V w2 [⟨b, G, mW s⟩]) := ((AllM.none HT.out).more G1.out).add g2 B2 low2
  have HG : Hid (∀ i, G i → i < w2.heap.size) := B2.lt
  obtain ⟨fb, mb, gb, xb, cs, os, P⟩ := A2.out.at' 0 _ rfl
  have P2 := Lib.hid P
  have c0 := HM.out.c0
  have c1 := HM.out.c1
  have n2 := HM.out.n2
  have n32 := HM.out.n32
  clear B2 g2 low2 P G1 x0 x1 x2 x3 x4 x5 x6 x7 x8
  obtain ⟨x0, _⟩ := RX.out w2 A2.out.bel
  go_wp2_with fail
  refine (world_s (nw := s.nw) (t := s.to) (cw := s.c) P2.out rfl rfl (CS.to_b HM.out).1 (CS.to_b HM.out).2 rfl rfl).mono ?_; rintro e w3 ⟨p1, m1, k1, pm1, mk1, l, rfl, hL, hlen, hS, hMB, g3⟩
  obtain ⟨q, hq⟩ : ∃ q : DV, q = ⟨s.nw, .slice p1 m1 k1, .slice pm1 4096 mk1, s.c, s.to⟩ := ⟨_, rfl⟩
  rw [← hq]
  have HQ := Lib.hid hq
  have OKq : Hid q.Ok := by rw [hq]; exact ⟨rfl, rfl⟩
  have L3 := Lib.hid hL
  have LEN := Lib.hid hlen
  have HS := Lib.hid hS
  have M3 := Lib.hid hMB
  have G3 := Lib.hid g3
  have BM : Hid (Bytes (mW s).f) := P2.out.ok.f
  clear hq hL hlen hS hMB g3 x0
  go_upto_region 7 with (first
    | (refine d_alloc rfl (some 4) rfl (by kernel_rfl) ?_; intro V4 r4 b4 s4)
    | (refine d_whole rfl (.tmp 4) (.tmp 19) rfl w3.heap.size dzero q rfl rfl r4.out OKq.out ?_; intro V5 r5 g5))
  have k5 := only_bel b4 g5.out (Nat.le_refl _)
  have G5 := Lib.hid (bel_trans G3.out k5)
  have L5 : Hid (LAtB w2.heap.size V5 (.slice p1 m1 k1) l) := own_belw L3.out k5
  have M5' : Hid (MB w2.heap.size V5 (.slice pm1 4096 mk1) 4096 (ptB (fun _ => 0) 0 (M5.wdB (mW s).f 0) 1024)) := own_belw M3.out k5
  have N4 : Hid (w2.heap.size ≤ w3.heap.size) := G3.out.size
  clear r4 b4 s4 g5 k5 G3 L3 M3
  generalize w3.heap.size = z4 at r5 N4 ⊢
  have en : ((s.nw.toNat : Nat) : Int) = s.nw := by omega
  have CSV : Hid (∀ W : World, Below V5.heap.size V5 W → Calls Tryz.prog 31 #[.agg (drow q)] W fun e w' => ∃ p' k', e = .returned (.tuple #[.agg (drow { q with vm := .slice p' 4096 k', v := (s.c + (s.nw - 2)) % s.nw, c := (s.c + s.nw - 1) % s.nw }), .bool true]) ∧ MB W.heap.size w' (.slice p' 4096 k') 4096 (ptB (ptB (fun _ => 0) 0 (M5.wdB (mW s).f 0) 1024) (s.fa ((s.c + (s.nw - 2)) % s.nw)) (winL l s.nw ((s.c + (s.nw - 2)) % s.nw)) 16) ∧ Below W.heap.size W w') := fun W k => by
    have l0 : 0 ≤ (s.c + (s.nw - 2)) % s.nw := Int.emod_nonneg _ (by omega)
    have l1 : (s.c + (s.nw - 2)) % s.nw < s.nw := Int.emod_lt_of_pos _ (by omega)
    obtain ⟨f1, f2, f3, f4⟩ := fa_is HM.out l0 l1
    have ha := sp_reg (n := s.nw.toNat) HS.out (by omega) (by omega) l0 (by omega)
    have hw : ∀ i, i < 16 → winL l s.nw ((s.c + (s.nw - 2)) % s.nw) i = (mW s).R ((16 * ((s.c + (s.nw - 2)) % s.nw)).toNat + i) := fun i hi => by
      have := win_reg (n := s.nw.toNat) HS.out (by omega) (by omega) l0 (by omega) hi
      rw [en] at this
      exact this
    rw [en, ← (loc14 (b := 16) HM.out l0 l1).2] at ha
    rw [HQ.out]
    exact Save_at ⟨s.nw, .slice p1 m1 k1, .slice pm1 4096 mk1, s.c, s.to⟩ _ _ p1 pm1 m1 k1 mk1 l (ptB (fun _ => 0) 0 (M5.wdB (mW s).f 0) 1024) (s.fa ((s.c + (s.nw - 2)) % s.nw)) W rfl rfl n2 n32 c0 c1 (ahead_one n2 c0 c1) (ahead_two n2 c0 c1) (by have := LEN.out; omega) (F3.LAtB.at (own_belw L5.out k)) (MB.sl (own_belw M5'.out k))
      (fun i hi => by rw [hw i hi]; exact gR_w HM.out HB.out _ _) (ha.trans f1) (by unfold spE; rw [if_neg (by omega), if_neg (by omega), if_neg (by omega)])
  have CRS : Hid (∀ W : World, Below V5.heap.size V5 W → Calls Tryz.prog 32 #[.agg (drow q)] W fun e w' => ∃ p' m' k', e = .returned (.tuple #[.agg (drow { q with vl := .slice p' m' k', v := ((s.c + 1) % s.nw + 1) % s.nw, c := (s.c + 1) % s.nw }), .bool true]) ∧ LAtB W.heap.size w' (.slice p' m' k') (l ++ F3.entF (((s.c + 1) % s.nw).toNat * 16) (M5.wdB (ptB (fun _ => 0) 0 (M5.wdB (mW s).f 0) 1024) (s.fa ((s.c + 1) % s.nw))) 16) ∧ Below W.heap.size W w') := fun W k => by
    have l0 : 0 ≤ (s.c + 1) % s.nw := Int.emod_nonneg _ (by omega)
    have l1 : (s.c + 1) % s.nw < s.nw := Int.emod_lt_of_pos _ (by omega)
    obtain ⟨f1, f2, f3, f4⟩ := fa_is HM.out l0 l1
    have ha := sp_reg (n := s.nw.toNat) HS.out (by omega) (by omega) l0 (by omega)
    rw [en, ← (loc14 (b := 16) HM.out l0 l1).2] at ha
    rw [HQ.out]
    exact Restore_at ⟨s.nw, .slice p1 m1 k1, .slice pm1 4096 mk1, s.c, s.to⟩ _ _ p1 pm1 m1 k1 mk1 l (ptB (fun _ => 0) 0 (M5.wdB (mW s).f 0) 1024) (s.fa ((s.c + 1) % s.nw)) W rfl rfl n2 n32 c0 c1 rfl rfl (by have := LEN.out; omega) (F3.LAtB.at (own_belw L5.out k)) (MB.sl (own_belw M5'.out k))
      (ptB_bytes (fun _ => ⟨Int.le_refl _, by show (0 : Int) < 256; decide⟩) _ _ _) (ha.trans f1) (by unfold spE; rw [if_neg (by omega), if_neg (by omega), if_neg (by omega)])
  clear en
  obtain ⟨q0, q1, q2, q3, q4⟩ := r5.out.all
  go_wp2_with fail
  refine (CSV.out _ (Below.refl _ _)).mono ?_; rintro e w6 ⟨ps, ks, rfl, hMS, g6⟩
  have HMS : Hid (MB w2.heap.size w6 (.slice ps 4096 ks) 4096 (ptB (ptB (fun _ => 0) 0 (M5.wdB (mW s).f 0) 1024) (s.fa ((s.c + (s.nw - 2)) % s.nw)) (winL l s.nw ((s.c + (s.nw - 2)) % s.nw)) 16)) := own_less hMS G5.out.size
  have G6 := Lib.hid g6
  obtain ⟨qs, hqs⟩ : ∃ qs : DV, qs = { q with vm := .slice ps 4096 ks, v := (s.c + (s.nw - 2)) % s.nw, c := (s.c + s.nw - 1) % s.nw } := ⟨_, rfl⟩
  rw [← hqs]
  have HQS : Hid (qs = ⟨s.nw, .slice p1 m1 k1, .slice ps 4096 ks, (s.c + s.nw - 1) % s.nw, (s.c + (s.nw - 2)) % s.nw⟩) := by unfold Hid; rw [hqs, HQ.out]
  have OKs : Hid qs.Ok := by rw [HQS.out]; exact ⟨rfl, rfl⟩
  clear hMS g6 hqs CSV q0 q1 q2 q3 q4
  go_upto_region 8 with (first
    | (refine d_alloc rfl (some 5) rfl (by kernel_rfl) ?_; intro V7 r7 b7 s7)
    | (refine d_whole rfl (.tmp 5) (.tmp 23) rfl w6.heap.size dzero qs rfl rfl r7.out OKs.out ?_; intro V8 r8 g8))
  have k8 := only_bel b7 g8.out (Nat.le_refl _)
  have K8 := Lib.hid (bel_trans G6.out k8)
  have G8 := Lib.hid (bel_trans G5.out (bel_trans G6.out k8))
  have MS8 : Hid (MB w2.heap.size V8 (.slice ps 4096 ks) 4096 (ptB (ptB (fun _ => 0) 0 (M5.wdB (mW s).f 0) 1024) (s.fa ((s.c + (s.nw - 2)) % s.nw)) (winL l s.nw ((s.c + (s.nw - 2)) % s.nw)) 16)) := own_belw HMS.out k8
  have R4 := Lib.hid ((r5.out.bel G6.out).bel k8)
  have N5 : Hid (w2.heap.size ≤ w6.heap.size) := Nat.le_trans G5.out.size G6.out.size
  have Z5 : Hid (V5.heap.size ≤ w6.heap.size) := G6.out.size
  have N45 : Hid (z4 ≠ w6.heap.size) := by have h1 := r5.out.lt; have h2 := G6.out.size; unfold Hid; omega
  clear r7 b7 s7 g8 k8 HMS r5 G6
  generalize w6.heap.size = z5 at r8 N5 N45 Z5 ⊢
  have x8 := (RX.out V8 (bel_trans A2.out.bel G8.out)).2.2.2.2.2.2.2.2
  go_upto_if 26 with (fail)
  go_cut [6] (fun v wx => v = .bool true ∧ Below w2.heap.size w2 wx ∧ ∃ (p2 : Option Addr) (m2 k2 : Nat) (pm2 : Option Addr) (mk2 : Nat) (c2 v2 : Int) (l2 : List Ent) (f2 : Nat → Int) (e1 : MS) (n1 : Nat), WT wx w2.heap.size z5 s.nw p2 m2 k2 pm2 mk2 c2 v2 l2 f2 ∧ Exp s e1 n1 c2 v2 l2 f2)
  case first =>
    cases hup : s.up
    · have x8' : V8.cell? ⟨w.heap.size, 8, none⟩ = some (.bool false) := by rw [← hup]; exact x8
      have HUP := Lib.hid hup
      clear x8 hup
      go_wp2_with fail
      go_meet
      obtain ⟨e1, n1, E⟩ := exp_save HM.out HB.out HS.out BM.out HUP.out
      exact ⟨rfl, G8.out, p1, m1, k1, ps, ks, _, _, l, _, e1, n1, ⟨by rw [← HQS.out]; exact r8.out, own_belw L5.out K8.out, by have := LEN.out; omega, MS8.out, N5.out⟩, E⟩
    · have x8' : V8.cell? ⟨w.heap.size, 8, none⟩ = some (.bool true) := by rw [← hup]; exact x8
      have HUP := Lib.hid hup
      clear x8 hup
      obtain ⟨q0, q1, q2, q3, q4⟩ := R4.out.all
      go_wp2_with fail
      refine (CRS.out _ K8.out).mono ?_; rintro e w9 ⟨pt, mt, kt, rfl, hLT, g9⟩
      have LT : Hid (LAtB V8.heap.size w9 (.slice pt mt kt) (l ++ F3.entF (((s.c + 1) % s.nw).toNat * 16) (M5.wdB (ptB (fun _ => 0) 0 (M5.wdB (mW s).f 0) 1024) (s.fa ((s.c + 1) % s.nw))) 16)) := hLT
      obtain ⟨qt, hqt⟩ : ∃ qt : DV, qt = { q with vl := .slice pt mt kt, v := ((s.c + 1) % s.nw + 1) % s.nw, c := (s.c + 1) % s.nw } := ⟨_, rfl⟩
      rw [← hqt]
      have HQT : Hid (qt = ⟨s.nw, .slice pt mt kt, .slice pm1 4096 mk1, (s.c + 1) % s.nw, ((s.c + 1) % s.nw + 1) % s.nw⟩) := by unfold Hid; rw [hqt, HQ.out]
      have OKt : Hid qt.Ok := by rw [HQT.out]; exact ⟨rfl, rfl⟩
      have r9 := Lib.hid (r8.out.bel g9)
      have G9 := Lib.hid g9
      clear hLT hqt g9 q0 q1 q2 q3 q4
      go_wp2_with (refine d_whole rfl (.tmp 5) (.tmp 30) rfl z5 qs qt rfl rfl r9.out OKt.out ?_; intro V10 r10 g10)
      go_meet
      obtain ⟨e1, n1, E⟩ := exp_restore HM.out HB.out HS.out BM.out HUP.out
      have M9 : MB w2.heap.size V10 (.slice pm1 4096 mk1) 4096 (ptB (fun _ => 0) 0 (M5.wdB (mW s).f 0) 1024) := by
        have h9 := own_belw M5'.out (bel_trans K8.out G9.out)
        exact World.ownsRow.kept h9 g10.out (.inr fun e => by have h1 := (World.ownsRow.lt (own_belw M5'.out K8.out) z5 e).2; have h3 := World.ownsRow.lt M5'.out z5 e; have h4 := Z5.out; omega)
      exact ⟨rfl, only_bel (bel_trans G8.out G9.out) g10.out N5.out, pt, mt, kt, pm1, mk1, _, _, _, _, e1, n1, ⟨by rw [← HQT.out]; exact r10.out, own_less (own_keep LT.out r8.out.lt g10.out) G8.out.size, by
        have := LEN.out
        rw [List.length_append, F3.entF_len]; omega, M9, N5.out⟩, E⟩
  case rest =>
    obtain ⟨rfl, g10, p2, m2, k2, pm2, mk2, c2, v2, l2, f2, e1, n1, WTX, E⟩ := hcut
    have WTX := Lib.hid WTX
    have E := Lib.hid E
    have A10 := Lib.hid (A2.out.more g10)
    clear g10 CRS L5 M5' G5 G8 K8 MS8 R4 r8 N4 N45 HQ HQS OKq OKs HS BM LEN P2 x8 A2 N5
    go_simp
    go_wp2_with fail
    refine (runs_at A10.out E.out.run E.out.n60 (by show (0 : Nat) ≤ 1000; decide)).mono ?_; rintro e w11 ⟨rfl, G11, A11, K11⟩
    have A11 := Lib.hid A11
    have W11 := Lib.hid (WTX.out.keep K11 HG.out)
    obtain ⟨fb1, mb1, gb1, xb1, cs1, os1, P⟩ := A11.out.at' 0 _ rfl
    have P11 := Lib.hid P
    clear A10 WTX K11 P HG
    go_wp2_with fail
    refine (psr_bel P11.out E.out.cwp E.out.pil E.out.bank E.out.fl).mono ?_; rintro e w12 ⟨rfl, g12⟩
    have A12 := Lib.hid (A11.out.more g12)
    have W12 := Lib.hid (W11.out.bel g12)
    have P12 := Lib.hid (P11.out.bel g12)
    clear A11 W11 P11 g12
    go_upto_region 13 with (fail)
    change Code.wp _ _ _ _ (w12.alloc (.cells #[.int .u8 c2, .int .u8 s.pl, .int .u8 0, .int .u8 s.fl] 24))
    have r7 : Hid ((w12.alloc (.cells #[.int .u8 c2, .int .u8 s.pl, .int .u8 0, .int .u8 s.fl] 24)).heap[w12.heap.size]? = some (.cells #[.int .u8 c2, .int .u8 s.pl, .int .u8 0, .int .u8 s.fl] 24 (0, 0))) := heap_alloc_last _ _
    have A13 : Hid (AllM V (w12.alloc (.cells #[.int .u8 c2, .int .u8 s.pl, .int .u8 0, .int .u8 s.fl] 24)) [⟨b, G11, e1⟩]) := A12.out.more (bel_alK (Below.refl _ _))
    have W13 := Lib.hid (W12.out.bel (bel_alK (o := (.cells #[.int .u8 c2, .int .u8 s.pl, .int .u8 0, .int .u8 s.fl] 24)) (Below.refl _ _)))
    have P13 := Lib.hid (P12.out.bel (bel_alK (o := (.cells #[.int .u8 c2, .int .u8 s.pl, .int .u8 0, .int .u8 s.fl] 24)) (Below.refl _ _)))
    clear A12 W12 P12
    generalize w12.alloc (.cells #[.int .u8 c2, .int .u8 s.pl, .int .u8 0, .int .u8 s.fl] 24) = V13 at r7 A13 W13 P13 ⊢
    generalize w12.heap.size = z7 at r7 ⊢
    have HD : Hid (∀ W, Below V13.heap.size V13 W → W.cell? ⟨w.heap.size, 0, none⟩ = some (.int .i64 s.nw) ∧ W.cell? ⟨w.heap.size, 4, none⟩ = some (.int .u8 s.fl) ∧ W.cell? ⟨w.heap.size, 5, none⟩ = some (.int .u8 s.pl) ∧ W.cell? ⟨z5, 0, none⟩ = some (.int .i64 s.nw) ∧ W.cell? ⟨z5, 1, none⟩ = some (.slice p2 m2 k2) ∧ W.cell? ⟨z5, 2, none⟩ = some (.slice pm2 4096 mk2) ∧ W.cell? ⟨z5, 3, none⟩ = some (.int .i64 c2) ∧ W.cell? ⟨z5, 4, none⟩ = some (.int .i64 v2) ∧ W.cell? ⟨z7, 1, none⟩ = some (.int .u8 s.pl) ∧ W.cell? ⟨z7, 2, none⟩ = some (.int .u8 0) ∧ W.cell? ⟨z7, 3, none⟩ = some (.int .u8 s.fl)) := fun W k => by
      obtain ⟨x0, x1, x2, x3, x4, x5, _⟩ := RX.out W (bel_trans A13.out.bel k)
      obtain ⟨y0, y1, y2, y3, y4⟩ := (W13.out.bel k).X.all
      have h7 := bel_heap k r7.out
      exact ⟨x0, x4, x5, y0, y1, y2, y3, y4, row_cell h7 rfl, row_cell h7 rfl, row_cell h7 rfl⟩
    have CWD : Hid (∀ W : World, Below V13.heap.size V13 W → Calls Tryz.prog 30 #[.pointer (some ⟨b, 0, none⟩), .int .i64 s.nw] W fun e w' => ∃ (p' : Option Addr) (m' k' : Nat) (pm : Option Addr) (mk : Nat) (l : List Ent), e = .returned (.agg (drow ⟨s.nw, .slice p' m' k', .slice pm 4096 mk, c2, v2⟩)) ∧ LAtB W.heap.size w' (.slice p' m' k') l ∧ l.length ≤ 640 ∧ F3.Step (wG e1.R s.nw.toNat 16 0) l ∧ MB W.heap.size w' (.slice pm 4096 mk) 4096 (ptB (fun _ => 0) 0 (M5.wdB e1.f 0) 1024) ∧ Below W.heap.size W w') := fun W k => world_s (P13.out.bel k) E.out.nw E.out.sz E.out.v0 E.out.v1 E.out.wim E.out.cwp
    have CSM : Hid (∀ (W : World) (p' : Option Addr) (m' k' : Nat) (pm : Option Addr) (mk B : Nat) (l : List Ent), Below V13.heap.size V13 W → LAtB B W (.slice p' m' k') l → l.length ≤ 640 → F3.Step (wG e1.R s.nw.toNat 16 0) l → MB B W (.slice pm 4096 mk) 4096 (ptB (fun _ => 0) 0 (M5.wdB e1.f 0) 1024) → Calls Tryz.prog 35 #[.agg (drow ⟨s.nw, .slice p' m' k', .slice pm 4096 mk, c2, v2⟩), .agg (drow ⟨s.nw, .slice p2 m2 k2, .slice pm2 4096 mk2, c2, v2⟩)] W fun e w' => e = .returned (.bool true) ∧ Below W.heap.size W w') := fun W p' m' k' pm mk B l k hL hl hS hM => by
      have WW := W13.out.bel k
      obtain ⟨e1', e2'⟩ := E.out.reg l hS
      exact Same_at s.nw c2 v2 p' p2 pm pm2 m' m2 k' k2 mk mk2 4096 l l2 _ f2 W n2 n32 (by decide) (by omega) (by have := WW.len; omega) (F3.LAtB.at hL) (F3.LAtB.at WW.L) (MB.sl hM) (MB.sl WW.M) (E.out.mem P13.out.ok.f) e1' e2'
    have COU : Hid (∀ W : World, Below V13.heap.size V13 W → Calls Tryz.prog 23 #[.pointer (some ⟨b, 0, none⟩)] W fun e w' => ∃ p' k', e = .returned (.slice p' 0 k') ∧ Below W.heap.size W w') := fun W k => by
      refine (all_out (A13.out.more k) (j := 0) rfl (by show e1.ol ≤ 1000000; rw [E.out.ol]; decide)).mono ?_
      rintro e w' ⟨so, rfl, ⟨p', k', e2, _⟩, _, g⟩
      rw [show e1.ol = 0 from E.out.ol] at e2
      subst e2
      exact ⟨p', k', rfl, g⟩
    have CHD : Hid (∀ W : World, Below V13.heap.size V13 W → Calls Tryz.prog 28 #[] W fun e w' => e = .returned (.bool true) ∧ Below W.heap.size W w') := fun W k => HEAD.out W (bel_trans gX.out (bel_trans A13.out.bel k))
    have hff : (s.fl == s.fl) = true := by simp
    have hpp : (s.pl == s.pl) = true := by simp
    have GD : Below V13.heap.size V13 V13.drew := Below.drew (Below.refl _ _)
    have DD := HD.out _ GD
    go_region_held3 (fun W => W.cell? ⟨w.heap.size, 0, none⟩ = some (.int .i64 s.nw) ∧ W.cell? ⟨w.heap.size, 4, none⟩ = some (.int .u8 s.fl) ∧ W.cell? ⟨w.heap.size, 5, none⟩ = some (.int .u8 s.pl) ∧ W.cell? ⟨z5, 0, none⟩ = some (.int .i64 s.nw) ∧ W.cell? ⟨z5, 1, none⟩ = some (.slice p2 m2 k2) ∧ W.cell? ⟨z5, 2, none⟩ = some (.slice pm2 4096 mk2) ∧ W.cell? ⟨z5, 3, none⟩ = some (.int .i64 c2) ∧ W.cell? ⟨z5, 4, none⟩ = some (.int .i64 v2) ∧ W.cell? ⟨z7, 1, none⟩ = some (.int .u8 s.pl) ∧ W.cell? ⟨z7, 2, none⟩ = some (.int .u8 0) ∧ W.cell? ⟨z7, 3, none⟩ = some (.int .u8 s.fl))
      (first
        | exact DD
        | exact DA
        | exact DB
        | exact DC
        | exact DE)
      (first
        | (go_at_call 30; refine (CWD.out _ ?_).mono ?_; exact GD; rintro e WA ⟨pa, ma, ka, pma, mka, la, rfl, hLa, hla, hSa, hMa, gz⟩; have GA := bel_trans GD gz; have DA := HD.out _ GA; clear gz)
        | (go_at_call 35; refine (CSM.out _ _ _ _ _ _ _ la ?_ hLa hla hSa hMa).mono ?_; exact GA; rintro e WB ⟨rfl, gz⟩; have GB := bel_trans GA gz; have DB := HD.out _ GB; clear gz)
        | (go_at_call 23; refine (COU.out _ ?_).mono ?_; exact GB; rintro e WC ⟨po, ko, rfl, gz⟩; have GC := bel_trans GB gz; have DC := HD.out _ GC; clear gz)
        | (go_at_call 28; refine (CHD.out _ ?_).mono ?_; exact GC; rintro e WE ⟨rfl, gz⟩; have GE := bel_trans GC gz; have DE := HD.out _ GE; clear gz))
    have GZ := Lib.hid (bel_trans gX.out (bel_trans A13.out.bel GE))
    clear GD HD DD CWD CSM COU CHD GA DA GB DB GC DC GE DE
    go_wp2_with fail
    go_ret
    exact ⟨rfl, GZ.out⟩
end Go.Proofs.YtlmaikbnjdmhcaaGreatDoor.K6
