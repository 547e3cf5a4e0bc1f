/- Layer 10: the document's Yield. -/
import Derived.Test.YtiobgnelhiadbaaGreatDoorVSwapGJ
import Derived.Test.YtiobgnelhiadbaaGreatDoorVPsrGR
namespace Go.Proofs.YtiobgnelhiadbaaGreatDoor.S10
open Go.RowKit W8 K6
open F3 (LAt LAtB place atL Ent entF)
set_option linter.unusedVariables false
theorem ptB_cong {f : Nat → Int} {a : Nat} {g h : Nat → Int} : ∀ k, (∀ i, i < k → g i = h i) → ptB f a g k = ptB f a h k
  | 0, _ => rfl
  | k + 1, e => by
    show stB (ptB f a g k) (a + 4 * k) 4 (g k) = stB (ptB f a h k) (a + 4 * k) 4 (h k)
    rw [ptB_cong k fun i hi => e i (by omega), e k (Nat.lt_succ_self _)]
theorem own_firstI {w : World} {B n : Nat} {v : Value} {xs : List Value} (h : w.ownsRow B 3 1 v n xs) (hn : 0 < n) : ∃ g c, v = .slice (some ⟨g, 0, none⟩) n c ∧ n ≤ c ∧ B ≤ g ∧ ∀ j u, xs[j]? = some u → w.cell? ⟨g, j, none⟩ = some u := by
  obtain ⟨hl, ⟨_, h0⟩ | ⟨g, cap, cur, rfl, hB, hg, q1, q2, q3, q4⟩⟩ := h
  · omega
  · refine ⟨g, cap, rfl, q1, hB, fun j u hj => row_cell hg ?_⟩
    have hjl := (List.getElem?_eq_some_iff.1 hj).1
    rw [← q4, List.getElem?_take_of_lt (by omega)] at hj
    simpa using hj
/-- What Yield has in hand. -/
structure YX (B : Nat) (w wx : World) (x z : Nat) (n : Int) (vl vm : Value) (c v : Int) (l : List Ent) (f : Nat → Int) (gr d : Nat) : Prop extends NX B w wx x z n vl vm c v l f where
  W : ∀ j, j < d → wx.cell? ⟨gr, j, none⟩ = some (.int .i64 (P4.win c n j))
  ne : 0 < d → gr ≠ x
theorem YX.bel {B : Nat} {w wx wy : World} {x z gr d : Nat} {n : Int} {vl vm : Value} {c v : Int} {l : List Ent} {f : Nat → Int} (h : YX B w wx x z n vl vm c v l f gr d) (k : Below wx.heap.size wx wy) : YX B w wy x z n vl vm c v l f gr d :=
  ⟨h.toNX.bel k, fun j hj => bel_cell k (h.W j hj), h.ne⟩
theorem YX.put {B : Nat} {w wx : World} {x z gr d y : Nat} {n : Int} {vl vm : Value} {c v : Int} {l : List Ent} {f : Nat → Int} {q0 q' : DV} (h : YX B w wx x z n vl vm c v l f gr d) (hy : RowD wx y q0) (hx : x ≠ y) (hz : z ≠ y) (hg : gr ≠ y) (hw : w.heap.size ≤ y) : YX B w (set5 wx y q') x z n vl vm c v l f gr d :=
  ⟨⟨set5_other hx h.X, set5_other hz h.Z, set5_do hy h.D, set5_bel h.g hw⟩, fun j hj => by
    have hne : ∀ i, (⟨gr, j, none⟩ : Addr) ≠ ⟨y, i, none⟩ := fun i e => hg (by cases e; rfl)
    unfold set5
    rw [World.cell?_setCell_other _ _ _ _ (fun e => hne _ e.symm), World.cell?_setCell_other _ _ _ _ (fun e => hne _ e.symm), World.cell?_setCell_other _ _ _ _ (fun e => hne _ e.symm), World.cell?_setCell_other _ _ _ _ (fun e => hne _ e.symm), World.cell?_setCell_other _ _ _ _ (fun e => hne _ e.symm)]
    exact h.W j hj, h.ne⟩
theorem YX.lts {B : Nat} {w wx : World} {x z gr d : Nat} {n : Int} {vl vm : Value} {c v : Int} {l : List Ent} {f : Nat → Int} (h : YX B w wx x z n vl vm c v l f gr d) (hd : 0 < d) : x < wx.heap.size ∧ z < wx.heap.size ∧ gr < wx.heap.size ∧ w.heap.size ≤ wx.heap.size :=
  ⟨h.X.lt, h.Z.lt, block_lt_of_cell (a := ⟨gr, 0, none⟩) (h.W 0 hd), h.g.size⟩
set_option maxRecDepth 100000 in
set_option maxHeartbeats 8000000 in
theorem yield_at {B : Nat} {w : World} {q : DV} {l : List Ent} {f : Nat → Int} (h : DO B w q l f) (hq2 : 2 ≤ q.n) (hq32 : q.n ≤ 32) (hc0 : 0 ≤ q.c) (hc1 : q.c < q.n) (t : Nat) (hv : q.v = t) (ht : (t : Int) < q.n) (d : Nat) (hd : d = (P4.dist q.c t q.n).toNat) (d1 : 1 ≤ d) (d32 : d ≤ 32)
    (F : Nat → Nat → Int) (hF0 : F 0 = f) (A : Nat → Nat) (hFs : ∀ j, j < d → F (j + 1) = ptB (F j) (A j) (winL l q.n (P4.win q.c q.n j)) 16) (hA : ∀ j, j < d → atL l (place q.n (P4.win q.c q.n j) 0 14) = A j ∧ spE ((8192 : Nat) : Int) (A j) 16 = 0)
    (hw : ∀ j, j < d → 0 ≤ P4.win q.c q.n j ∧ P4.win q.c q.n j < q.n) (hww : ∀ j, j < d → ∀ i, i < 16 → 0 ≤ winL l q.n (P4.win q.c q.n j) i ∧ winL l q.n (P4.win q.c q.n j) i < 4294967296) (T : Nat) (hT : ldB (F d) 128 4 = T) (hT4 : T < 4) (pc : Int) (hpc : W32 pc) (sp : Int) (hsp : atL l (place q.n q.c 0 14) = sp) (hsw : W32 sp) (hl : l.length ≤ 700) :
    Calls Tryz.prog 23 #[.agg (drow q), .int .u32 pc] w fun e w' => ∃ vm', e = .returned (.tuple #[.agg (drow { q with vm := vm' }), .bool true]) ∧ DO B w' { q with vm := vm' } l (stB (stB (F d) (64 + 16 * T) 4 pc) (68 + 16 * T) 4 sp) ∧ Below w.heap.size w w' := by
  obtain ⟨n, vl, vm, c, v⟩ := q
  obtain ⟨p, m, k0, e⟩ := h.vl
  obtain rfl : vl = .slice p m k0 := e
  obtain ⟨pm, mk, e⟩ := h.vm
  obtain rfl : vm = .slice pm 8192 mk := e
  obtain rfl : v = (t : Int) := hv
  have hq2 : 2 ≤ n := hq2
  have hq32 : n ≤ 32 := hq32
  have hc0 : 0 ≤ c := hc0
  have hc1 : c < n := hc1
  have ht : (t : Int) < n := ht
  have HL := Lib.hid hl
  have HH := Lib.hid h
  have HD := Lib.hid hd
  have HFS := Lib.hid hFs
  have HA := Lib.hid hA
  have HW := Lib.hid hw
  have HWW := Lib.hid hww
  have HTT := Lib.hid hT
  have HPC := Lib.hid hpc
  have HSP := Lib.hid hsp
  have HSW := Lib.hid hsw
  have HF0 := Lib.hid hF0
  obtain ⟨bT, hbT⟩ : ∃ bT : Nat, bT = 64 + 16 * T := ⟨_, rfl⟩
  obtain ⟨a4, ha4⟩ : ∃ aT : Nat, aT = 68 + 16 * T := ⟨_, rfl⟩
  have CB : Hid (∀ W, Calls Tryz.prog 96 #[.int .u32 (T : Int)] W fun e w' => e = .returned (.int .u32 (bT : Int)) ∧ W = w') := fun W => by rw [hbT]; exact block_at T (by omega) W
  have w4 : IntKind.u32.wrap ((bT : Int) + 4) = (a4 : Int) := by rw [IntWalk.u32_in _ (by omega)]; omega
  have HB4 : Hid (bT = 64 + 16 * T ∧ a4 = 68 + 16 * T) := ⟨hbT, ha4⟩
  rw [← hbT, ← ha4]
  clear h hd hFs hA hw hww hT hpc hsp hsw hF0 hbT ha4 hl
  go_enter Tryz.func23, Tryz.ntmps23
  go_upto_region 1 with (first
    | (refine d_box rfl _ rfl (some 2) rfl ⟨n, .slice p m k0, .slice pm 8192 mk, c, t⟩ rfl ?_; intro V1 r1 b1 s1)
    | (refine d_alloc rfl (some 4) rfl (by kernel_rfl) ?_; intro V2 r2 b2 s2))
  have N3 : Hid (w.heap.size < V1.heap.size) := s1
  have X3 : Hid (NX B w V2 w.heap.size V1.heap.size n (.slice p m k0) (.slice pm 8192 mk) c t l (F 0)) := ⟨r1.out.bel b2, r2.out, by rw [HF0.out]; exact HH.out.bel (bel_trans b1 b2), bel_trans b1 b2⟩
  clear r1 b1 s1 b2 s2 r2
  generalize V1.heap.size = z at X3 N3 ⊢
  generalize hx : w.heap.size = x at X3 N3 ⊢
  have HX := Lib.hid hx
  clear hx
  have ZX : Hid (z ≠ x) := Nat.ne_of_gt N3.out
  have WX' : Hid (w.heap.size ≤ x) := by have := HX.out; unfold Hid; omega
  obtain ⟨x0, x1, x2, x3, x4⟩ := X3.out.X.all
  go_wp2_with fail
  refine (P4.rWim_yes t n V2 hq2 hq32 ht).mono ?_; rintro e w3 ⟨rfl, rfl⟩
  go_wp2_with fail
  refine (P4.rResident_yes c n t V2 hq2 hq32 hc0 hc1 ht).mono ?_; rintro e w4' ⟨s, rfl, hrow, g4⟩
  rw [← HD.out] at hrow
  obtain ⟨gr, cr, rfl, hcr, hgr, hcl⟩ := own_firstI hrow d1
  have Y4 : Hid (YX B w w4' x z n (.slice p m k0) (.slice pm 8192 mk) c t l (F 0) gr d) := ⟨X3.out.bel g4, fun j hj => hcl j _ (P4.rl_get c n d j hj), fun _ e => by
    have h1 := X3.out.X.lt
    omega⟩
  clear hrow hcl g4 x0 x1 x2 x3 x4 X3 HH
  have d32' : (d : Int) ≤ 32 := by omega
  go_wp2_with fail
  go_loopw [10] (fun i wr => ∃ (j : Nat) (ps : Option Addr) (ks : Nat), j ≤ d ∧ i = .int .i64 j ∧ YX B w wr x z n (.slice p m k0) (.slice ps 8192 ks) c t l (F j) gr d) (fun i _ => d - (intOf i).toNat)
  case atStart => exact ⟨0, pm, mk, Nat.zero_le _, rfl, Y4.out⟩
  case round =>
    obtain ⟨j, ps, ks, hj, rfl, Y⟩ := hrel
    have Y := Lib.hid Y
    clear Y4
    by_cases hlt : j < d
    · have hlt' : (j : Int) < d := by omega
      have HJ := Lib.hid hlt
      have CST : Hid (∀ W, Below wr.heap.size wr W → Calls Tryz.prog 100 #[.agg #[.int .i64 n, .slice p m k0, .slice ps 8192 ks, .int .i64 c, .int .i64 t], .int .i64 (P4.win c n j)] W fun e w' => ∃ qs kq, e = .returned (.tuple #[.agg #[.int .i64 n, .slice p m k0, .slice qs 8192 kq, .int .i64 c, .int .i64 t], .bool true]) ∧ MB W.heap.size w' (.slice qs 8192 kq) 8192 (F (j + 1)) ∧ Below W.heap.size W w') := fun W g => by
        rw [HFS.out j hlt]
        exact Stored8 ⟨n, .slice p m k0, .slice ps 8192 ks, c, t⟩ (P4.win c n j) p ps m k0 ks l (F j) (A j) W rfl rfl hq2 hq32 (HW.out j hlt).1 (HW.out j hlt).2 (by have := HL.out; omega) ((Y.out.bel g).D.lat rfl) (MB.sl (Y.out.bel g).D.M) (HWW.out j hlt) (HA.out j hlt).1 (HA.out j hlt).2
      go_wp2_with fail
      have GD : Below wr.heap.size wr wr.drew := Below.drew (Below.refl _ _)
      have YD := Lib.hid (Y.out.bel GD)
      have GA : Below wr.heap.size wr (wr.alloc (.cells #[.int .i64 0, .slice none 0 0, .slice none 0 0, .int .i64 0, .int .i64 0] 59)).drew := bel_trans ((Below.refl _ _).alloc (Nat.le_refl _) _) (Below.drew (Below.refl _ _))
      have YA := Lib.hid (Y.out.bel GA)
      have ar : ∀ {W : World}, Below (wr.alloc (.cells #[.int .i64 0, .slice none 0 0, .slice none 0 0, .int .i64 0, .int .i64 0] 59)).drew.heap.size (wr.alloc (.cells #[.int .i64 0, .slice none 0 0, .slice none 0 0, .int .i64 0, .int .i64 0] 59)).drew W → RowD W wr.heap.size dzero := fun g => bel_heap g (heap_alloc_last wr _)
      obtain ⟨x0, x1, x2, x3, x4⟩ := YD.out.X.all
      have xw := YD.out.W j hlt
      obtain ⟨v0, v1, v2, v3, v4⟩ := YA.out.X.all
      have vw := YA.out.W j hlt
      go_cut [11, 12] (fun pt b wx => ∃ (y : Nat) (qs : Option Addr) (kq : Nat), pt = .pointer (some ⟨y, 0, none⟩) ∧ b = .bool true ∧ x ≠ y ∧ z ≠ y ∧ w.heap.size ≤ y ∧ RowD wx y ⟨n, .slice p m k0, .slice qs 8192 kq, c, t⟩ ∧ MB B wx (.slice qs 8192 kq) 8192 (F (j + 1)) ∧ YX B w wx x z n (.slice p m k0) (.slice ps 8192 ks) c t l (F j) gr d)
      case first =>
        go_region_with (go_at_call 100; (first | (with_reducible refine (CST.out _ GD).mono ?_) | (with_reducible refine (CST.out _ GA).mono ?_)); rintro e WS ⟨qs, kq, rfl, hm, gs⟩; first | (have ZR : RowD WS wr.heap.size dzero := ar gs; obtain ⟨z0, z1, z2, z3, z4⟩ := ZR.all; have zf0 := row_frz ZR 0; have zf1 := row_frz ZR 1; have zf2 := row_frz ZR 2; have zf3 := row_frz ZR 3; have zf4 := row_frz ZR 4) | skip)
        all_goals
          go_wp2_with fail
          go_meet
          first
            | (have YS := YA.out.bel gs
               obtain ⟨l1, l2, l3, l4⟩ := Y.out.lts d1
               have P5 := YS.put (q' := (⟨n, .slice p m k0, .slice qs 8192 kq, c, t⟩ : DV)) ZR (Nat.ne_of_lt l1) (Nat.ne_of_lt l2) (Nat.ne_of_lt l3) l4
               exact ⟨wr.heap.size, qs, kq, rfl, rfl, Nat.ne_of_lt l1, Nat.ne_of_lt l2, l4, set5_row (q := (⟨n, .slice p m k0, .slice qs 8192 kq, c, t⟩ : DV)) ZR, set5_own (q := (⟨n, .slice p m k0, .slice qs 8192 kq, c, t⟩ : DV)) ZR (by decide) (own_less hm YA.out.D.le), P5⟩)
            | (have YS := YD.out.bel gs
               obtain ⟨l1, l2, l3, l4⟩ := YS.lts d1
               have gz : Below WS.heap.size WS (WS.alloc (.cells (drow ⟨n, .slice p m k0, .slice qs 8192 kq, c, t⟩) 59)) := (Below.refl _ _).alloc (Nat.le_refl _) _
               exact ⟨WS.heap.size, qs, kq, rfl, rfl, Nat.ne_of_lt l1, Nat.ne_of_lt l2, l4, heap_alloc_last WS (.cells (drow ⟨n, .slice p m k0, .slice qs 8192 kq, c, t⟩) 59), own_belw (own_less hm YD.out.D.le) gz, YS.bel gz⟩)
      case rest =>
        obtain ⟨y, qs, kq, rfl, rfl, hxy, hzy, hwy, ry, mb, Y7⟩ := hcut
        have Y7 := Lib.hid Y7
        have RY := Lib.hid ry
        have MB7 := Lib.hid mb
        have NY := Lib.hid (And.intro hxy (And.intro hzy hwy))
        clear CST ry mb hxy hzy hwy Y
        obtain ⟨y0, y1, y2, y3, y4⟩ := RY.out.all
        have OKq : Hid (DV.Ok ⟨n, .slice p m k0, .slice qs 8192 kq, c, t⟩) := ⟨rfl, rfl⟩
        go_wp2_with (refine d_whole rfl (.tmp 2) (.tmp 51) rfl x ⟨n, .slice p m k0, .slice ps 8192 ks, c, t⟩ ⟨n, .slice p m k0, .slice qs 8192 kq, c, t⟩ rfl rfl Y7.out.X OKq.out ?_; intro V9 r9 g9)
        have BF : Bytes (F (j + 1)) := by rw [HFS.out j HJ.out]; exact ptB_bytes Y7.out.D.bt _ _ _
        have Y9 : Hid (YX B w V9 x z n (.slice p m k0) (.slice qs 8192 kq) c t l (F (j + 1)) gr d) :=
          ⟨⟨r9.out, Y7.out.Z.only g9.out ZX.out, ⟨own_typ_keep Y7.out.X g9.out Y7.out.D.L (by decide), own_typ_keep Y7.out.X g9.out MB7.out (by decide), BF, Nat.le_trans Y7.out.D.le g9.out.size⟩, only_bel Y7.out.g g9.out WX'.out⟩, fun j' hj' => F3.only_cell_far g9.out (Y7.out.W j' hj') (Y7.out.ne d1), Y7.out.ne⟩
        clear r9 g9 Y7 RY MB7 BF OKq y0 y1 y2 y3 y4
        go_roundw
        case rel => exact ⟨j + 1, qs, kq, HJ.out, by go_num, Y9.out⟩
        case measure => simp only [intOf]; have := HJ.out; omega
    · obtain rfl : j = d := by omega
      clear hlt hj HFS HA HW HWW
      have X5 := Lib.hid Y.out.toNX
      have CW0 : Hid (∀ W, Below wr.heap.size wr W → Calls Tryz.prog 97 #[.agg #[.int .i64 n, .slice p m k0, .slice ps 8192 ks, .int .i64 c, .int .i64 t], .int .u32 128] W fun e w' => e = .returned (.int .u32 (T : Int)) ∧ Below W.heap.size W w') := fun W g => by
        have := word_at (X5.out.D.bel g) 128 (by decide) (by decide)
        rw [HTT.out] at this
        exact this
      obtain ⟨x0, x1, x2, x3, x4⟩ := X5.out.X.all
      go_wp2_with fail
      refine (CW0.out _ (Below.refl _ _)).mono ?_; rintro e w10 ⟨rfl, g10⟩
      have X6 := Lib.hid (X5.out.bel g10)
      clear g10 x0 x1 x2 x3 x4 X5 CW0 Y
      obtain ⟨x0, x1, x2, x3, x4⟩ := X6.out.X.all
      have CL1 : Hid (∀ W, Below w10.heap.size w10 W → Calls Tryz.prog 95 #[.agg #[.int .i64 n, .slice p m k0, .slice ps 8192 ks, .int .i64 c, .int .i64 t], .int .u32 (bT : Int), .int .u32 pc] W fun e w' => ∃ qs kq, e = .returned (.agg #[.int .i64 n, .slice p m k0, .slice qs 8192 kq, .int .i64 c, .int .i64 t]) ∧ DO B w' ⟨n, .slice p m k0, .slice qs 8192 kq, c, t⟩ l (stB (F j) bT 4 pc) ∧ Below W.heap.size W w') := fun W g => by
        refine (lay_at (X6.out.D.bel g) bT pc HPC.out (by have := HB4.out; omega) (by have := HB4.out; omega)).mono ?_
        rintro e w' ⟨s, rfl, hd, g'⟩
        obtain ⟨qs, kq, e⟩ := hd.vm
        obtain rfl : s = .slice qs 8192 kq := e
        exact ⟨qs, kq, rfl, hd, g'⟩
      go_wp2_with fail
      go_cut [58] (fun _ wx => ∃ qs kq, NX B w wx x z n (.slice p m k0) (.slice qs 8192 kq) c t l (stB (F j) bT 4 pc))
      case first =>
        have GD : Below w10.heap.size w10 w10.drew := Below.drew (Below.refl _ _)
        have XD := Lib.hid (X6.out.bel GD)
        obtain ⟨v0, v1, v2, v3, v4⟩ := XD.out.X.all
        go_region_with (first
          | (go_at_call 96; refine (CB.out _).mono ?_; rintro e WB ⟨rfl, hb⟩; subst hb)
          | (go_at_call 95; refine (CL1.out _ GD).mono ?_; rintro e W7 ⟨qs, kq, rfl, hd7, g7⟩; have X7 := XD.out.bel g7; obtain ⟨u0, u1, u2, u3, u4⟩ := X7.X.all; have f0 := row_frz X7.X 0; have f1 := row_frz X7.X 1; have f2 := row_frz X7.X 2; have f3 := row_frz X7.X 3; have f4 := row_frz X7.X 4))
        all_goals
          have R := set5_row (q := (⟨n, .slice p m k0, .slice qs 8192 kq, c, t⟩ : DV)) X7.X
          have NXX : NX B w (set5 W7 x (⟨n, .slice p m k0, .slice qs 8192 kq, c, t⟩ : DV)) x z n (.slice p m k0) (.slice qs 8192 kq) c t l (stB (F j) bT 4 pc) := ⟨R, set5_other ZX.out X7.Z, set5_do X7.X hd7, set5_bel X7.g WX'.out⟩
          unfold set5 at NXX
          go_wp2_with fail
          go_meet
          exact ⟨_, _, NXX⟩
      case rest =>
        obtain ⟨qs, kq, X8⟩ := hcut
        have X8 := Lib.hid X8
        clear X6 CL1 x0 x1 x2 x3 x4
        go_wp2_with fail
        have GD : Below wc.heap.size wc wc.drew := Below.drew (Below.refl _ _)
        have HD9 : Hid (∀ W, Below wc.heap.size wc W → (W.cell? ⟨x, 0, none⟩ = some (.int .i64 n) ∧ W.cell? ⟨x, 1, none⟩ = some (.slice p m k0) ∧ W.cell? ⟨x, 2, none⟩ = some (.slice qs 8192 kq) ∧ W.cell? ⟨x, 3, none⟩ = some (.int .i64 c) ∧ W.cell? ⟨x, 4, none⟩ = some (.int .i64 t))) := fun W g => (X8.out.X.bel g).all
        have DD := HD9.out _ GD
        have CF : Hid (∀ W, Below wc.heap.size wc W → Calls Tryz.prog 101 #[.agg #[.int .i64 n, .slice p m k0, .slice qs 8192 kq, .int .i64 c, .int .i64 t], .int .i64 c] W fun e w' => e = .returned (.int .u32 sp) ∧ Below W.heap.size W w') := fun W g => by
          have := Frame_at ⟨n, .slice p m k0, .slice qs 8192 kq, c, t⟩ c p m k0 l W rfl hq2 hq32 hc0 hc1 (by have := HL.out; omega) ((X8.out.bel g).D.lat rfl)
          rw [show atL l (place n c 0 14) = sp from HSP.out] at this
          exact this
        have CL2 : Hid (∀ W, Below wc.heap.size wc W → Calls Tryz.prog 95 #[.agg #[.int .i64 n, .slice p m k0, .slice qs 8192 kq, .int .i64 c, .int .i64 t], .int .u32 (a4 : Int), .int .u32 sp] W fun e w' => ∃ pu ku, e = .returned (.agg #[.int .i64 n, .slice p m k0, .slice pu 8192 ku, .int .i64 c, .int .i64 t]) ∧ DO B w' ⟨n, .slice p m k0, .slice pu 8192 ku, c, t⟩ l (stB (stB (F j) bT 4 pc) a4 4 sp) ∧ Below W.heap.size W w') := fun W g => by
          refine (lay_at (X8.out.D.bel g) a4 sp HSW.out (by have := HB4.out; omega) (by have := HB4.out; omega)).mono ?_
          rintro e w' ⟨s, rfl, hd, g'⟩
          obtain ⟨pu, ku, e⟩ := hd.vm
          obtain rfl : s = .slice pu 8192 ku := e
          exact ⟨pu, ku, rfl, hd, g'⟩
        have ZX2 : Hid (x ≠ z) := fun e => ZX.out e.symm
        have NZ : Hid (w.heap.size ≤ z) := by have h1 := N3.out; have h2 := WX'.out; unfold Hid; omega
        go_region_held3 (fun W => W.cell? ⟨x, 0, none⟩ = some (.int .i64 n) ∧ W.cell? ⟨x, 1, none⟩ = some (.slice p m k0) ∧ W.cell? ⟨x, 2, none⟩ = some (.slice qs 8192 kq) ∧ W.cell? ⟨x, 3, none⟩ = some (.int .i64 c) ∧ W.cell? ⟨x, 4, none⟩ = some (.int .i64 t))
          (first
            | with_reducible exact DD
            | with_reducible exact DA
            | with_reducible exact DL
            | with_reducible exact DS)
          (first
            | (go_at_call 96; refine (CB.out _).mono ?_; rintro e WB ⟨rfl, hb⟩; subst hb)
            | (go_at_call 101; refine (CF.out _ GD).mono ?_; rintro e WA ⟨rfl, ga⟩; have GA := bel_trans GD ga; have DA := HD9.out _ GA; clear ga)
            | (go_at_call 95; refine (CL2.out _ GA).mono ?_; rintro e WL ⟨pu, ku, rfl, hd, gl⟩; have GL := bel_trans GA gl; have DL := HD9.out _ GL; have ZL := X8.out.Z.bel GL; obtain ⟨z0, z1, z2, z3, z4⟩ := ZL.all; have zf0 := row_frz ZL 0; have zf1 := row_frz ZL 1; have zf2 := row_frz ZL 2; have zf3 := row_frz ZL 3; have zf4 := row_frz ZL 4; have DS := row_c5 (set5_c5 (q := (⟨n, .slice p m k0, .slice pu 8192 ku, c, t⟩ : DV)) ZX2.out (X8.out.X.bel GL)); unfold C5 set5 at DS; clear gl))
        all_goals
          have R := set5_row (q := (⟨n, .slice p m k0, .slice pu 8192 ku, c, t⟩ : DV)) ZL
          clear DD DA DL DS
          go_wp2_with fail
          change bodyPost _ _ _ _ _ (set5 WL z (⟨n, .slice p m k0, .slice pu 8192 ku, c, t⟩ : DV))
          refine d_ret2 rfl rfl R rfl ?_
          exact ⟨_, rfl, set5_do ZL hd, set5_bel (bel_trans X8.out.g GL) NZ.out⟩
end Go.Proofs.YtiobgnelhiadbaaGreatDoor.S10
