/- The document's side of layer 10: a frame stored, a frame loaded, in 8192 bytes. Layer 10: the document's word, lay, block, End. -/
import Derived.Test.YtiobgnelhiadbaaGreatDoorVWindGK
import Derived.Test.YtiobgnelhiadbaaGreatDoorVSwapGT
namespace Go.Proofs.YtiobgnelhiadbaaGreatDoor.S10
open Go.RowKit W8
open F3 (LAt LAtB place atL Ent entF Named)
set_option linter.unusedVariables false
set_option maxRecDepth 100000 in
set_option maxHeartbeats 4000000 in
theorem Stored8 (q : DV) (x : Int) (p pm : Option Addr) (m k mk : Nat) (l : List Ent) (f : Nat → Int) (a : Nat) (w : World) (hvl : q.vl = .slice p m k) (hvm : q.vm = .slice pm 8192 mk) (hn : 2 ≤ q.n) (hn' : q.n ≤ 32) (h0 : 0 ≤ x) (h1 : x < q.n) (hl : l.length ≤ 1000) (hL : LAt w (.slice p m k) l)
    (hM : Sl .u8 w (.slice pm 8192 mk) 8192 f) (hw : ∀ i, i < 16 → 0 ≤ winL l q.n x i ∧ winL l q.n x i < 4294967296) (ha : atL l (place q.n x 0 14) = a) (hs : spE (8192 : Nat) a 16 = 0) :
    Calls Tryz.prog 100 #[.agg (drow q), .int .i64 x] w fun e w' => ∃ p' k', e = .returned (.tuple #[.agg (drow { q with vm := .slice p' 8192 k' }), .bool true]) ∧ MB w.heap.size w' (.slice p' 8192 k') 8192 (ptB f a (winL l q.n x) 16) ∧ Below w.heap.size w w' := by
  have HW := Lib.hid hw
  have HA := Lib.hid ha
  have HS := Lib.hid hs
  have HL := Lib.hid hL
  have HM := Lib.hid hM
  have OK : Hid q.Ok := ⟨by rw [hvl]; rfl, by rw [hvm]; rfl⟩
  have HF : Hid (∀ W : World, Below w.heap.size w W → Calls Tryz.prog 101 #[.agg (drow q), .int .i64 x] W fun e w' => e = .returned (.int .u32 (a : Int)) ∧ Below W.heap.size W w') := fun W g => by
    have := Frame_at q x p m k l W hvl hn hn' h0 h1 hl (hL.bel g)
    rw [ha] at this
    exact this
  clear hw ha hs hL hM
  go_enter Tryz.func100, Tryz.ntmps100
  go_upto_region 1 with (first
    | (refine d_box rfl _ rfl (some 2) rfl q rfl ?_; intro V1 r1 b1 s1)
    | (refine d_alloc rfl (some 4) rfl (by kernel_rfl) ?_; intro V2 r2 b2 s2))
  have r3 := Lib.hid (r1.out.bel b2)
  have G3 := Lib.hid (bel_trans b1 b2)
  have N3 : Hid (w.heap.size < V1.heap.size) := s1
  have N4 : Hid (V1.heap.size < V2.heap.size) := s2
  clear r1 b1 s1 b2 s2
  obtain ⟨x0, x1, x2, x3, x4⟩ := r3.out.all
  rw [hvl] at x1
  rw [hvm] at x2
  have HVL := Lib.hid hvl
  have HVM := Lib.hid hvm
  clear hvl hvm
  generalize V1.heap.size = z at r2 N3 N4 ⊢
  go_wp2_with fail
  refine (F3.refWindow_at q.n x p m k l V2 hn hn' h0 h1 hl (HL.out.bel G3.out)).mono ?_; rintro e w3 ⟨s', rfl, ho, g3⟩
  obtain ⟨gw, cw, rfl, hcells⟩ := F3.wlk_form ho (by decide)
  have SW : Hid (Sl .u32 w3 (.slice (some ⟨gw, 0, none⟩) 16 cw) 16 (winL l q.n x)) := ⟨_, _, rfl, fun _ => ⟨gw, 0, rfl, fun i hi => by rw [Nat.zero_add]; exact hcells i hi⟩⟩
  have r4 := Lib.hid (r3.out.bel g3)
  have z4 := Lib.hid (r2.out.bel g3)
  have G4 := Lib.hid (bel_trans G3.out g3)
  have N5 : Hid (z < w3.heap.size) := Nat.lt_of_lt_of_le N4.out g3.size
  clear ho hcells g3 r2 r3 G3 x0 x1 x2 x3 x4
  obtain ⟨x0, x1, x2, x3, x4⟩ := r4.out.all
  rw [HVL.out] at x1
  rw [HVM.out] at x2
  go_wp2_with fail
  have GD : Below w3.heap.size w3 w3.drew := Below.drew (Below.refl _ _)
  have HD : Hid (∀ W, Below w3.heap.size w3 W → W.cell? ⟨w.heap.size, 0, none⟩ = some (.int .i64 q.n) ∧ W.cell? ⟨w.heap.size, 1, none⟩ = some (.slice p m k) ∧ W.cell? ⟨w.heap.size, 2, none⟩ = some (.slice pm 8192 mk) ∧ W.cell? ⟨w.heap.size, 3, none⟩ = some (.int .i64 q.c) ∧ W.cell? ⟨w.heap.size, 4, none⟩ = some (.int .i64 q.v)) := fun W g => ⟨bel_cell g x0, bel_cell g x1, bel_cell g x2, bel_cell g x3, bel_cell g x4⟩
  have DD := HD.out _ GD
  have CP : Hid (∀ W, Below w3.heap.size w3 W → Calls Tryz.prog 60 #[.slice pm 8192 mk, .int .u32 (a : Int), .slice (some ⟨gw, 0, none⟩) 16 cw] W fun e w' => ∃ s', e = .returned (.tuple #[s', .int .i64 0]) ∧ MB w3.heap.size w' s' 8192 (ptB f a (winL l q.n x) 16) ∧ Below W.heap.size W w') := fun W g => (rput_new (.slice pm 8192 mk) (.slice (some ⟨gw, 0, none⟩) 16 cw) 8192 16 f (winL l q.n x) a W (by decide) (by decide) (HM.out.bel (bel_trans G4.out g)) (SW.out.bel g) HW.out HS.out).mono fun e w' ⟨s', h1, h2, h3⟩ => ⟨s', h1, own_less h2 g.size, h3⟩
  clear x0 x1 x2 x3 x4
  go_region_held3 (fun W => W.cell? ⟨w.heap.size, 0, none⟩ = some (.int .i64 q.n) ∧ W.cell? ⟨w.heap.size, 1, none⟩ = some (.slice p m k) ∧ W.cell? ⟨w.heap.size, 2, none⟩ = some (.slice pm 8192 mk) ∧ W.cell? ⟨w.heap.size, 3, none⟩ = some (.int .i64 q.c) ∧ W.cell? ⟨w.heap.size, 4, none⟩ = some (.int .i64 q.v))
    (first
      | exact DD
      | exact DF
      | exact DP)
    (first
      | (go_at_call 101; have C := HF.out _ (bel_trans G4.out GD); unfold drow at C; rw [HVL.out, HVM.out] at C; refine C.mono ?_; rintro e WF ⟨rfl, gf⟩; have GF := bel_trans GD gf; have DF := HD.out _ GF; clear gf C)
      | (go_at_call 60; refine (CP.out _ ?_).mono ?_; exact GF; rintro e WP ⟨sv, rfl, SV, gp⟩; obtain ⟨p', k', rfl⟩ := lenOf_own SV; have GP := bel_trans GF gp; have DP := HD.out _ GP; clear gp))
  have SV := Lib.hid SV
  have r5 := Lib.hid (r4.out.bel GP)
  have z5 := Lib.hid (z4.out.bel GP)
  have G5 := Lib.hid (bel_trans G4.out GP)
  clear GD HD DD CP GF DF GP DP r4 z4 G4 SW
  go_upto_region 4 with (refine d_store rfl 29 (.tmp 28) (.tmp 27) rfl q { q with vm := .slice p' 8192 k' } w.heap.size 2 rfl [.slice p' 8192 k'] rfl r5.out (by kernel_rfl) (one_one rfl) (Nat.le_of_ble_eq_true rfl) rfl ?_; intro V6 r6 g6)
  have z6 := Lib.hid (z5.out.only g6.out (by have := N3.out; omega))
  have G6 := Lib.hid (only_bel G5.out g6.out (Nat.le_refl _))
  have SV : Hid (MB w3.heap.size V6 (.slice p' 8192 k') 8192 (ptB f a (winL l q.n x) 16)) := own_keep SV.out (Nat.lt_trans N3.out N5.out) g6.out
  have OK' : Hid (DV.Ok { q with vm := .slice p' 8192 k' }) := ⟨OK.out.l, rfl⟩
  obtain ⟨x0, x1, x2, x3, x4⟩ := r6.out.all
  clear g6 r5 z5 G5 HVL HVM
  go_wp2_with (refine d_whole rfl (.tmp 4) (.tmp 29) rfl z dzero { q with vm := .slice p' 8192 k' } rfl rfl z6.out OK'.out ?_; intro V7 r7 g7)
  have G7 := Lib.hid (only_bel G6.out g7.out (Nat.le_of_lt N3.out))
  have SV : Hid (MB w.heap.size V7 (.slice p' 8192 k') 8192 (ptB f a (winL l q.n x) 16)) := own_less (own_keep SV.out N5.out g7.out) (Nat.le_of_lt (Nat.lt_trans N3.out N5.out))
  exact d_ret2 rfl rfl r7.out rfl ⟨_, _, rfl, SV.out, G7.out⟩
set_option maxRecDepth 100000 in
set_option maxHeartbeats 4000000 in
theorem Loaded8 (q : DV) (x : Int) (p pm : Option Addr) (m k mk : Nat) (l : List Ent) (f : Nat → Int) (a : Nat) (w : World) (hvl : q.vl = .slice p m k) (hvm : q.vm = .slice pm 8192 mk) (hn : 2 ≤ q.n) (hn' : q.n ≤ 32) (h0 : 0 ≤ x) (h1 : x < q.n) (hl : l.length ≤ 800) (hL : LAt w (.slice p m k) l)
    (hM : Sl .u8 w (.slice pm 8192 mk) 8192 f) (hf : Bytes f) (ha : atL l (place q.n x 0 14) = a) (hs : spE (8192 : Nat) a 16 = 0) :
    Calls Tryz.prog 104 #[.agg (drow q), .int .i64 x] w fun e w' => ∃ p' m' k', e = .returned (.tuple #[.agg (drow { q with vl := .slice p' m' k' }), .bool true]) ∧ LAtB w.heap.size w' (.slice p' m' k') (l ++ F3.entF (x.toNat * 16) (M5.wdB f a) 16) ∧ Below w.heap.size w w' := by
  have HA := Lib.hid ha
  have HS := Lib.hid hs
  have HL := Lib.hid hL
  have HM := Lib.hid hM
  have HB := Lib.hid hf
  have OK : Hid q.Ok := ⟨by rw [hvl]; rfl, by rw [hvm]; rfl⟩
  have HF : Hid (∀ W : World, Below w.heap.size w W → Calls Tryz.prog 101 #[.agg (drow q), .int .i64 x] W fun e w' => e = .returned (.int .u32 (a : Int)) ∧ Below W.heap.size W w') := fun W g => by
    have := Frame_at q x p m k l W hvl hn hn' h0 h1 (by omega) (hL.bel g)
    rw [ha] at this
    exact this
  clear ha hs hL hM hf
  go_enter Tryz.func104, Tryz.ntmps104
  go_upto_region 1 with (first
    | (refine d_box rfl _ rfl (some 2) rfl q rfl ?_; intro V1 r1 b1 s1)
    | (refine d_alloc rfl (some 4) rfl (by kernel_rfl) ?_; intro V2 r2 b2 s2))
  have r3 := Lib.hid (r1.out.bel b2)
  have G3 := Lib.hid (bel_trans b1 b2)
  have N3 : Hid (w.heap.size < V1.heap.size) := s1
  have N4 : Hid (V1.heap.size < V2.heap.size) := s2
  clear r1 b1 s1 b2 s2
  obtain ⟨x0, x1, x2, x3, x4⟩ := r3.out.all
  rw [hvl] at x1
  rw [hvm] at x2
  have HVL := Lib.hid hvl
  have HVM := Lib.hid hvm
  clear hvl hvm
  generalize V1.heap.size = z at r2 N3 N4 ⊢
  go_wp2_with fail
  have GD : Below V2.heap.size V2 V2.drew := Below.drew (Below.refl _ _)
  have HD : Hid (∀ W, Below V2.heap.size V2 W → W.cell? ⟨w.heap.size, 0, none⟩ = some (.int .i64 q.n) ∧ W.cell? ⟨w.heap.size, 1, none⟩ = some (.slice p m k) ∧ W.cell? ⟨w.heap.size, 2, none⟩ = some (.slice pm 8192 mk) ∧ W.cell? ⟨w.heap.size, 3, none⟩ = some (.int .i64 q.c) ∧ W.cell? ⟨w.heap.size, 4, none⟩ = some (.int .i64 q.v)) := fun W g => ⟨bel_cell g x0, bel_cell g x1, bel_cell g x2, bel_cell g x3, bel_cell g x4⟩
  have DD := HD.out _ GD
  have CP : Hid (∀ W, Below V2.heap.size V2 W → Calls Tryz.prog 40 #[.slice pm 8192 mk, .int .u32 (a : Int), .int .i64 16] W fun e w' => ∃ s', e = .returned (.tuple #[s', .int .i64 0]) ∧ w'.ownsRow W.heap.size 22 1 s' 16 (bsL .u32 (M5.wdB f a) 16) ∧ Below W.heap.size W w') := fun W g => M5.rwords_yes (.slice pm 8192 mk) 8192 16 f a W (by decide) (HM.out.bel (bel_trans G3.out g)) HB.out HS.out
  clear x0 x1 x2 x3 x4
  go_region_held3 (fun W => W.cell? ⟨w.heap.size, 0, none⟩ = some (.int .i64 q.n) ∧ W.cell? ⟨w.heap.size, 1, none⟩ = some (.slice p m k) ∧ W.cell? ⟨w.heap.size, 2, none⟩ = some (.slice pm 8192 mk) ∧ W.cell? ⟨w.heap.size, 3, none⟩ = some (.int .i64 q.c) ∧ W.cell? ⟨w.heap.size, 4, none⟩ = some (.int .i64 q.v))
    (first
      | exact DD
      | exact DF
      | exact DP)
    (first
      | (go_at_call 101; have C := HF.out _ (bel_trans G3.out GD); unfold drow at C; rw [HVL.out, HVM.out] at C; refine C.mono ?_; rintro e WF ⟨rfl, gf⟩; have GF := bel_trans GD gf; have DF := HD.out _ GF; clear gf C)
      | (go_at_call 40; refine (CP.out _ ?_).mono ?_; exact GF; rintro e WP ⟨sv, rfl, SV, gp⟩; obtain ⟨gg, kk, rfl, _⟩ := own_form SV (by decide); have GP := bel_trans GF gp; have DP := HD.out _ GP; clear gp))
  have SV := Lib.hid SV
  have r5 := Lib.hid (r3.out.bel GP)
  have z5 := Lib.hid (r2.out.bel GP)
  have G5 := Lib.hid (bel_trans G3.out GP)
  have N5 : Hid (z < WP.heap.size) := Nat.lt_of_lt_of_le N4.out GP.size
  clear GD HD DD CP GF DF GP DP r3 r2 G3 N4
  obtain ⟨x0, x1, x2, x3, x4⟩ := r5.out.all
  rw [HVL.out] at x1
  go_wp2_with fail
  refine (F3.refPut_at q.n x p m k gg kk l (M5.wdB f a) WP hn hn' h0 h1 hl (HL.out.bel G5.out) (fun i hi => by
    obtain ⟨pq, cq, e, hc⟩ := own_sl SV.out
    obtain ⟨b, o, e2, hcc⟩ := hc (by decide)
    simp only [Value.slice.injEq] at e
    rw [e2] at e
    simp only [Option.some.injEq, Addr.mk.injEq] at e
    obtain ⟨⟨rfl, rfl, _⟩, _⟩ := e
    have := hcc i hi
    rwa [Nat.zero_add] at this)).mono ?_; rintro e w6 ⟨s', rfl, hL', g6⟩
  obtain ⟨p', m', k', rfl⟩ := F3.LAtB.slice hL'
  have r6 := Lib.hid (r5.out.bel g6)
  have z6 := Lib.hid (z5.out.bel g6)
  have G6 := Lib.hid (bel_trans G5.out g6)
  have L6 := Lib.hid hL'
  clear g6 hL' r5 z5 G5 SV x0 x1 x2 x3 x4
  go_upto_region 5 with (refine d_store rfl 35 (.tmp 28) (.tmp 26) rfl q { q with vl := .slice p' m' k' } w.heap.size 0 rfl [.int .i64 q.n, .slice p' m' k'] rfl r6.out (by kernel_rfl) (by intro v hv; simp at hv; rcases hv with rfl | rfl <;> rfl) (Nat.le_of_ble_eq_true rfl) rfl ?_; intro V7 r7 g7)
  have z7 := Lib.hid (z6.out.only g7.out (by have := N3.out; omega))
  have G7 := Lib.hid (only_bel G6.out g7.out (Nat.le_refl _))
  have L7 := Lib.hid (lat_keep L6.out (Nat.lt_trans N3.out N5.out) g7.out)
  have OK' : Hid (DV.Ok { q with vl := .slice p' m' k' }) := ⟨rfl, OK.out.m⟩
  obtain ⟨x0, x1, x2, x3, x4⟩ := r7.out.all
  clear g7 r6 z6 G6 L6 HVL HVM
  go_wp2_with (refine d_whole rfl (.tmp 4) (.tmp 29) rfl z dzero { q with vl := .slice p' m' k' } rfl rfl z7.out OK'.out ?_; intro V8 r8 g8)
  have G8 := Lib.hid (only_bel G7.out g8.out (Nat.le_of_lt N3.out))
  have L8 := Lib.hid (F3.LAtB.less (lat_keep L7.out N5.out g8.out) (by have := N3.out; have := N5.out; omega : w.heap.size ≤ WP.heap.size))
  exact d_ret2 rfl rfl r8.out rfl ⟨_, _, _, rfl, L8.out, G8.out⟩
end Go.Proofs.YtiobgnelhiadbaaGreatDoor.S10
namespace Go.Proofs.YtiobgnelhiadbaaGreatDoor.S10
open Go.RowKit W8 K6
open F3 (LAt LAtB place atL Ent entF)
set_option linter.unusedVariables false
/-- A world of the document, in blocks from B on. -/
structure DO (B : Nat) (w : World) (q : DV) (l : List Ent) (f : Nat → Int) : Prop where
  L : LAtB B w q.vl l
  M : MB B w q.vm 8192 f
  bt : Bytes f
  le : B ≤ w.heap.size
section
variable {B : Nat} {w w' : World} {q : DV} {l : List Ent} {f : Nat → Int}
theorem DO.bel (h : DO B w q l f) (k : Below w.heap.size w w') : DO B w' q l f := ⟨own_belw h.L k, own_belw h.M k, h.bt, Nat.le_trans h.le k.size⟩
theorem DO.vl (h : DO B w q l f) : ∃ p m k, q.vl = .slice p m k := by
  obtain ⟨p, m, k, e⟩ := F3.LAtB.slice h.L
  exact ⟨p, m, k, e⟩
theorem DO.vm (h : DO B w q l f) : ∃ p k, q.vm = .slice p 8192 k := by
  obtain ⟨p, k, e⟩ := lenOf_own h.M
  exact ⟨p, k, e⟩
theorem DO.ok (h : DO B w q l f) : q.Ok := by
  obtain ⟨p, m, k, e1⟩ := h.vl
  obtain ⟨p', k', e2⟩ := h.vm
  exact ⟨by rw [e1]; rfl, by rw [e2]; rfl⟩
theorem DO.lat (h : DO B w q l f) {p : Option Addr} {m k : Nat} (e : q.vl = .slice p m k) : LAt w (.slice p m k) l := by rw [← e]; exact F3.LAtB.at h.L
/-- The memory is another one. -/
theorem DO.mem (h : DO B w q l f) (k : Below w.heap.size w w') {s : Value} {f' : Nat → Int} (hm : MB w.heap.size w' s 8192 f') (hb : Bytes f') : DO B w' { q with vm := s } l f' :=
  ⟨own_belw h.L k, own_less hm h.le, hb, Nat.le_trans h.le k.size⟩
end
theorem th8 {a : Nat} (h4 : a % 4 = 0) (h8 : a + 4 ≤ 8192) : thE ((8192 : Nat) : Int) (a : Int) ((4 : Nat) : Int) = 0 := by
  unfold thE
  rw [if_neg (by omega), if_neg (by omega), if_neg (by omega)]
set_option maxRecDepth 100000 in
theorem word_at {B : Nat} {w : World} {q : DV} {l : List Ent} {f : Nat → Int} (h : DO B w q l f) (a : Nat) (h4 : a % 4 = 0) (h8 : a + 4 ≤ 8192) :
    Calls Tryz.prog 97 #[.agg (drow q), .int .u32 (a : Int)] w fun e w' => e = .returned (.int .u32 (ldB f a 4)) ∧ Below w.heap.size w w' := by
  obtain ⟨pm, mk, hvm⟩ := h.vm
  have HM := Lib.hid h.M
  have HF := Lib.hid h.bt
  have TH := Lib.hid (th8 h4 h8)
  clear h
  go_enter Tryz.func97, Tryz.ntmps97
  go_upto_region 1 with (refine d_box rfl _ rfl (some 2) rfl q rfl ?_; intro V1 r1 b1 s1)
  obtain ⟨x0, x1, x2, x3, x4⟩ := r1.out.all
  have C := Lib.hid (M5.rload_yes q.vm 8192 f a 4 V1 (by decide) (MB.sl (own_belw HM.out b1)) HF.out TH.out)
  rw [hvm] at x2 C
  have HV := Lib.hid hvm
  have G1 := Lib.hid b1
  clear hvm b1 s1 HM
  go_wp2_with fail
  refine C.out.mono ?_; rintro e w2 ⟨rfl, g2⟩
  have G2 := Lib.hid (bel_trans G1.out g2)
  clear C g2 x0 x1 x2 x3 x4
  go_wp2_with fail
  go_ret
  exact ⟨rfl, G2.out⟩
set_option maxRecDepth 100000 in
set_option maxHeartbeats 4000000 in
theorem lay_at {B : Nat} {w : World} {q : DV} {l : List Ent} {f : Nat → Int} (h : DO B w q l f) (a : Nat) (v : Int) (hv : W32 v) (h4 : a % 4 = 0) (h8 : a + 4 ≤ 8192) :
    Calls Tryz.prog 95 #[.agg (drow q), .int .u32 (a : Int), .int .u32 v] w fun e w' => ∃ s, e = .returned (.agg (drow { q with vm := s })) ∧ DO B w' { q with vm := s } l (stB f a 4 v) ∧ Below w.heap.size w w' := by
  obtain ⟨pm, mk, hvm⟩ := h.vm
  have H := Lib.hid h
  have OK := Lib.hid h.ok
  have TH := Lib.hid (th8 h4 h8)
  have HV := Lib.hid hv
  clear h hv
  go_enter Tryz.func95, Tryz.ntmps95
  go_upto_region 1 with (first
    | (refine d_box rfl _ rfl (some 3) rfl q rfl ?_; intro V1 r1 b1 s1)
    | (refine d_alloc rfl (some 6) rfl (by kernel_rfl) ?_; intro V2 r2 b2 s2))
  have r3 := Lib.hid (r1.out.bel b2)
  have G3 := Lib.hid (bel_trans b1 b2)
  have N3 : Hid (w.heap.size < V1.heap.size) := s1
  have N4 : Hid (V1.heap.size < V2.heap.size) := s2
  clear r1 b1 s1 b2 s2
  obtain ⟨x0, x1, x2, x3, x4⟩ := r3.out.all
  generalize V1.heap.size = z at r2 N3 N4 ⊢
  have C := Lib.hid (M5.rstore_yes q.vm 8192 f a 4 v V2 (by decide) (MB.sl (own_belw H.out.M G3.out)) HV.out TH.out)
  rw [hvm] at x2 C
  have HVM := Lib.hid hvm
  clear hvm
  go_wp2_with fail
  refine C.out.mono ?_; rintro e w4 ⟨s', rfl, own, g4⟩
  obtain ⟨pn, kn, rfl⟩ := lenOf_own own
  have SV : Hid (MB V2.heap.size w4 (.slice pn 8192 kn) 8192 (stB f a 4 v)) := own
  have r4 := Lib.hid (r3.out.bel g4)
  have z4 := Lib.hid (r2.out.bel g4)
  have G4 := Lib.hid (bel_trans G3.out g4)
  have N6 : Hid (z < w4.heap.size) := Nat.lt_of_lt_of_le N4.out g4.size
  clear C g4 own r3 r2 G3 x0 x1 x2 x3 x4
  have OK' : Hid (DV.Ok { q with vm := .slice pn 8192 kn }) := ⟨OK.out.l, rfl⟩
  go_upto_region 2 with (refine d_store rfl 29 (.tmp 15) (.tmp 13) rfl q { q with vm := .slice pn 8192 kn } w.heap.size 2 rfl [.slice pn 8192 kn] rfl r4.out (by kernel_rfl) (one_one rfl) (Nat.le_of_ble_eq_true rfl) rfl ?_; intro V7 r7 g7)
  have z7 := Lib.hid (z4.out.only g7.out (by have := N3.out; omega))
  have G7 := Lib.hid (only_bel G4.out g7.out (Nat.le_refl _))
  have SV : Hid (MB V2.heap.size V7 (.slice pn 8192 kn) 8192 (stB f a 4 v)) := own_keep SV.out (Nat.lt_trans N3.out N4.out) g7.out
  clear g7 r4 z4 G4
  obtain ⟨x0, x1, x2, x3, x4⟩ := r7.out.all
  go_wp2_with (refine d_whole rfl (.tmp 6) (.tmp 16) rfl z dzero { q with vm := .slice pn 8192 kn } rfl rfl z7.out OK'.out ?_; intro V8 r8 g8)
  have G8 := Lib.hid (only_bel G7.out g8.out (Nat.le_of_lt N3.out))
  have SV : Hid (MB w.heap.size V8 (.slice pn 8192 kn) 8192 (stB f a 4 v)) := own_less (own_keep SV.out N4.out g8.out) (Nat.le_of_lt (Nat.lt_trans N3.out N4.out))
  exact d_ret1 rfl rfl r8.out rfl ⟨_, rfl, H.out.mem G8.out SV.out (stB_bytes H.out.bt _ _ _), G8.out⟩
theorem block_at (t : Nat) (ht : t ≤ 4) (w : World) : Calls Tryz.prog 96 #[.int .u32 (t : Int)] w fun e w' => e = .returned (.int .u32 ((64 + 16 * t : Nat) : Int)) ∧ w = w' := by
  have e : ((64 + 16 * t : Nat) : Int) = 64 + 16 * (t : Int) := by omega
  have h1 : (t : Int) ≤ 4 := by omega
  rw [e]
  clear e
  go_enter Tryz.func96, Tryz.ntmps96
  go_wp2_with fail
  go_ret
  exact ⟨rfl, rfl⟩
/-- A world stored whole, cell by cell. -/
def set5 (V : World) (z : Nat) (q : DV) : World := ((((V.setCell ⟨z, 0, none⟩ (.int .i64 q.n)).setCell ⟨z, 1, none⟩ q.vl).setCell ⟨z, 2, none⟩ q.vm).setCell ⟨z, 3, none⟩ (.int .i64 q.c)).setCell ⟨z, 4, none⟩ (.int .i64 q.v)
theorem set5_row {V : World} {z : Nat} {q0 q : DV} (h : RowD V z q0) : RowD (set5 V z q) z q :=
  heap_setCell_same _ z 4 _ _ (.int .i64 q.v) (heap_setCell_same _ z 3 _ _ (.int .i64 q.c) (heap_setCell_same _ z 2 _ _ q.vm (heap_setCell_same _ z 1 _ _ q.vl (heap_setCell_same V z 0 _ _ (.int .i64 q.n) h))))
theorem set5_other {V : World} {z x : Nat} {q : DV} {o : Obj} (hx : x ≠ z) (h : V.heap[x]? = some o) : (set5 V z q).heap[x]? = some o := by
  unfold set5
  rw [heap_setCell_other _ _ _ _ (fun e => hx e), heap_setCell_other _ _ _ _ (fun e => hx e), heap_setCell_other _ _ _ _ (fun e => hx e), heap_setCell_other _ _ _ _ (fun e => hx e), heap_setCell_other _ _ _ _ (fun e => hx e)]
  exact h
theorem set5_bel {a V : World} {z : Nat} {q : DV} (h : Below a.heap.size a V) (hz : a.heap.size ≤ z) : Below a.heap.size a (set5 V z q) :=
  ((((h.setCell (p := ⟨z, 0, none⟩) hz _).setCell (p := ⟨z, 1, none⟩) hz _).setCell (p := ⟨z, 2, none⟩) hz _).setCell (p := ⟨z, 3, none⟩) hz _).setCell (p := ⟨z, 4, none⟩) hz _
theorem set5_own {V : World} {z B m n : Nat} {q q0 : DV} {t : TypeId} {s : Value} {xs : List Value} (hz : RowD V z q0) (ht : 59 ≠ t) (h : V.ownsRow B t m s n xs) : (set5 V z q).ownsRow B t m s n xs := by
  obtain ⟨h0, h1 | ⟨g, cap, cur, e, hB, hg, r⟩⟩ := h
  · exact ⟨h0, .inl h1⟩
  · refine ⟨h0, .inr ⟨g, cap, cur, e, hB, set5_other (fun e => ?_) hg, r⟩⟩
    subst e
    unfold RowD at hz
    rw [hg] at hz
    injection hz with hz
    injection hz with _ hz _
    exact ht hz.symm
end Go.Proofs.YtiobgnelhiadbaaGreatDoor.S10
