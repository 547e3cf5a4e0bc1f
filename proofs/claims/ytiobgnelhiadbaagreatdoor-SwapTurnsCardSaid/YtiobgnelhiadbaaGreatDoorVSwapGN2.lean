/- Layer 10: the document's Next. -/
import Derived.Test.YtiobgnelhiadbaaGreatDoorVSwapGJ
namespace Go.Proofs.YtiobgnelhiadbaaGreatDoor.S10
open Go.RowKit W8 K6
open F3 (LAt LAtB place atL Ent entF)
set_option linter.unusedVariables false
set_option maxRecDepth 100000 in
set_option maxHeartbeats 8000000 in
theorem next_at {B : Nat} {w : World} {q : DV} {l : List Ent} {f : Nat → Int} (h : DO B w q l f) (N T i : Nat) (hN : N ≤ 4) (hth : ldB f 132 4 = N) {la : Nat → Int} (hla : ∀ t, t < N → ldB f (76 + 16 * t) 4 = la t)
    (ch : Int) (hch : W32 ch) (hi : ch % ((aL la N).length : Int) = i) (hT : (aL la N)[i]? = some T) (hT4 : T < 4) (hq2 : 2 ≤ q.n) (hq32 : q.n ≤ 32) (hc0 : 0 ≤ q.c) (hc1 : q.c < q.n) (sp : Nat) (hsp : ldB f (68 + 16 * T) 4 = sp) (hs4 : sp % 4 = 0) (hs8 : sp + 64 ≤ 8192) (hl : l.length ≤ 700) :
    Calls Tryz.prog 24 #[.agg (drow q), .int .u32 ch] w fun e w' => ∃ vl' vm', e = .returned (.tuple #[.agg (drow ⟨q.n, vl', vm', q.c, (q.c + 1) % q.n⟩), .int .u32 (ldB f (64 + 16 * T) 4), .bool true]) ∧ DO B w' ⟨q.n, vl', vm', q.c, (q.c + 1) % q.n⟩ ((l ++ [(place q.n q.c 0 14, (sp : Int))]) ++ entF (q.c.toNat * 16) (M5.wdB (nxF f T) sp) 16) (nxF f T) ∧ Below w.heap.size w w' := by
  obtain ⟨n, vl, vm, c, v⟩ := q
  obtain ⟨p, m, k, e⟩ := h.vl
  obtain rfl : vl = .slice p m k := e
  obtain ⟨pm, mk, e⟩ := h.vm
  obtain rfl : vm = .slice pm 8192 mk := e
  have hq2 : 2 ≤ n := hq2
  have hq32 : n ≤ 32 := hq32
  have hc0 : 0 ≤ c := hc0
  have hc1 : c < n := hc1
  have L0 : 0 < (aL la N).length := Nat.lt_of_le_of_lt (Nat.zero_le _) (List.getElem?_eq_some_iff.1 hT).1
  have L4 : (aL la N).length ≤ 4 := Nat.le_trans (aL_short la N) hN
  have HI := Lib.hid hi
  have HT := Lib.hid hT
  have HCH := Lib.hid hch
  have HL := Lib.hid hl
  have HH := Lib.hid h
  have CA := Lib.hid (fun (W : World) (g : Below w.heap.size w W) => alive_at (h.bel g) N hN hth hla)
  obtain ⟨bT, hbT⟩ : ∃ bT : Nat, bT = 64 + 16 * T := ⟨_, rfl⟩
  obtain ⟨a8, ha8⟩ : ∃ aT : Nat, aT = 72 + 16 * T := ⟨_, rfl⟩
  obtain ⟨a4, ha4⟩ : ∃ aT : Nat, aT = 68 + 16 * T := ⟨_, rfl⟩
  obtain ⟨lim, hlim⟩ : ∃ lim, lim = ldB f (72 + 16 * T) 4 := ⟨_, rfl⟩
  have CB : Hid (∀ W, Calls Tryz.prog 96 #[.int .u32 (T : Int)] W fun e w' => e = .returned (.int .u32 (bT : Int)) ∧ W = w') := fun W => by rw [hbT]; exact block_at T (by omega) W
  have w8 : IntKind.u32.wrap ((bT : Int) + 8) = (a8 : Int) := by rw [IntWalk.u32_in _ (by omega)]; omega
  have w4 : IntKind.u32.wrap ((bT : Int) + 4) = (a4 : Int) := by rw [IntWalk.u32_in _ (by omega)]; omega
  have TW : W32 (T : Int) := by unfold W32; omega
  have LW : W32 lim := by
    have h1 := ldB_in h.bt (72 + 16 * T) 4
    rw [hlim]
    unfold W32
    have h2 := h1.2
    rw [show (256 : Int) ^ 4 = 4294967296 by decide] at h2
    exact ⟨h1.1, h2⟩
  have CL1 : Hid (∀ W, Below w.heap.size w W → Calls Tryz.prog 95 #[.agg #[.int .i64 n, .slice p m k, .slice pm 8192 mk, .int .i64 c, .int .i64 v], .int .u32 128, .int .u32 (T : Int)] W fun e w' => ∃ ps ks, e = .returned (.agg #[.int .i64 n, .slice p m k, .slice ps 8192 ks, .int .i64 c, .int .i64 v]) ∧ DO B w' ⟨n, .slice p m k, .slice ps 8192 ks, c, v⟩ l (stB f 128 4 T) ∧ Below W.heap.size W w') := fun W g => by
    refine (lay_at (HH.out.bel g) 128 (T : Int) TW (by decide) (by decide)).mono ?_
    rintro e w' ⟨s, rfl, hd, g'⟩
    obtain ⟨ps, ks, e⟩ := hd.vm
    obtain rfl : s = .slice ps 8192 ks := e
    exact ⟨ps, ks, rfl, hd, g'⟩
  have CW1 : Hid (∀ W, Below w.heap.size w W → Calls Tryz.prog 97 #[.agg #[.int .i64 n, .slice p m k, .slice pm 8192 mk, .int .i64 c, .int .i64 v], .int .u32 (a8 : Int)] W fun e w' => e = .returned (.int .u32 lim) ∧ Below W.heap.size W w') := fun W g => by
    rw [ha8, hlim]
    exact word_at (HH.out.bel g) (72 + 16 * T) (by omega) (by omega)
  have CL2 : Hid (∀ W0 ps ks W, DO B W0 ⟨n, .slice p m k, .slice ps 8192 ks, c, v⟩ l (stB f 128 4 T) → Below W0.heap.size W0 W → Calls Tryz.prog 95 #[.agg #[.int .i64 n, .slice p m k, .slice ps 8192 ks, .int .i64 c, .int .i64 v], .int .u32 136, .int .u32 lim] W fun e w' => ∃ pt kt, e = .returned (.agg #[.int .i64 n, .slice p m k, .slice pt 8192 kt, .int .i64 c, .int .i64 v]) ∧ DO B w' ⟨n, .slice p m k, .slice pt 8192 kt, c, v⟩ l (nxF f T) ∧ Below W.heap.size W w') := fun W0 ps ks W hd g => by
    refine (lay_at (hd.bel g) 136 lim LW (by decide) (by decide)).mono ?_
    rintro e w' ⟨s, rfl, hd, g'⟩
    obtain ⟨pt, kt, e⟩ := hd.vm
    obtain rfl : s = .slice pt 8192 kt := e
    rw [hlim] at hd
    exact ⟨pt, kt, rfl, hd, g'⟩
  have CW2 : Hid (∀ W0 pt kt l' s W, DO B W0 ⟨n, s, .slice pt 8192 kt, c, v⟩ l' (nxF f T) → Below W0.heap.size W0 W → Calls Tryz.prog 97 #[.agg #[.int .i64 n, s, .slice pt 8192 kt, .int .i64 c, .int .i64 v], .int .u32 (a4 : Int)] W fun e w' => e = .returned (.int .u32 (sp : Int)) ∧ Below W.heap.size W w') := fun W0 pt kt l' s W hd g => by
    have := word_at (hd.bel g) (68 + 16 * T) (by omega) (by omega)
    rw [nxF_far (by omega), hsp] at this
    rw [ha4]
    exact this
  have CW3 : Hid (∀ W0 pt kt l' s v' W, DO B W0 ⟨n, s, .slice pt 8192 kt, c, v'⟩ l' (nxF f T) → Below W0.heap.size W0 W → Calls Tryz.prog 97 #[.agg #[.int .i64 n, s, .slice pt 8192 kt, .int .i64 c, .int .i64 v'], .int .u32 (bT : Int)] W fun e w' => e = .returned (.int .u32 (ldB f (64 + 16 * T) 4)) ∧ Below W.heap.size W w') := fun W0 pt kt l' s v' W hd g => by
    have := word_at (hd.bel g) (64 + 16 * T) (by omega) (by omega)
    rw [nxF_far (by omega)] at this
    rw [hbT]
    exact this
  have et : Int.tmod ch ((aL la N).length : Int) = (i : Int) := by rw [Int.tmod_eq_emod_of_nonneg hch.1]; exact hi
  have iL : i < (aL la N).length := (List.getElem?_eq_some_iff.1 hT).1
  generalize ldB f (64 + 16 * T) 4 = pc at CW3 ⊢
  obtain ⟨L, hL⟩ : ∃ L, L = (aL la N).length := ⟨_, rfl⟩
  rw [← hL] at L0 L4 et iL
  have ET := Lib.hid et
  have HLL := Lib.hid hL
  have IL := Lib.hid iL
  clear h hch hi hT hth hla hsp ha8 ha4 hbT hlim hl TW LW et hL iL
  go_enter Tryz.func24, Tryz.ntmps24
  go_upto_region 1 with (first
    | (refine d_box rfl _ rfl (some 2) rfl ⟨n, .slice p m k, .slice pm 8192 mk, c, v⟩ rfl ?_; intro V1 r1 b1 s1)
    | (refine d_alloc rfl (some 4) rfl (by kernel_rfl) ?_; intro V2 r2 b2 s2))
  have N3 : Hid (w.heap.size < V1.heap.size) := s1
  have X3 : Hid (NX B w V2 w.heap.size V1.heap.size n (.slice p m k) (.slice pm 8192 mk) c v l f) := ⟨r1.out.bel b2, r2.out, HH.out.bel (bel_trans b1 b2), bel_trans b1 b2⟩
  clear r1 b1 s1 b2 s2 r2
  generalize V1.heap.size = z at X3 N3 ⊢
  generalize hx : w.heap.size = x at X3 N3 ⊢
  have HX := Lib.hid hx
  clear hx
  obtain ⟨x0, x1, x2, x3, x4⟩ := X3.out.X.all
  go_wp2_with fail
  have C := CA.out V2 X3.out.g
  unfold drow at C
  refine C.mono ?_; rintro e w3 ⟨va, rfl, own, g3⟩
  rw [← HLL.out] at own
  obtain ⟨ga, ca, rfl, hca, hcell⟩ := own_first own L0
  have ci : w3.cell? ⟨ga, i, none⟩ = some (.int .u32 (T : Int)) := hcell i (aV T) (by rw [List.getElem?_map, HT.out]; rfl)
  have X4 := Lib.hid (X3.out.bel g3)
  clear C own hcell g3 X3 x0 x1 x2 x3 x4 CA
  have l0 : ((L : Int) == 0) = false := by simp; omega
  have et := ET.out
  have iL : (i : Int) < L := by have := IL.out; omega
  have ch0 : 0 ≤ ch := HCH.out.1
  have ch1 : ch < 4294967296 := HCH.out.2
  go_wp2_with fail
  have zx : z ≠ x := Nat.ne_of_gt N3.out
  have hwx : w.heap.size ≤ x := by rw [HX.out]; exact Nat.le_refl _
  have ZX := Lib.hid zx
  have WX' := Lib.hid hwx
  clear ci et iL ch0 ch1 l0 hca zx hwx
  go_cut [33] (fun _ wx => ∃ pt kt, NX B w wx x z n (.slice p m k) (.slice pt 8192 kt) c v l (nxF f T))
  case first =>
    have GD : Below w3.heap.size w3 w3.drew := Below.drew (Below.refl _ _)
    have XD := Lib.hid (X4.out.bel GD)
    obtain ⟨x0, x1, x2, x3, x4⟩ := XD.out.X.all
    go_region_with (first
      | (go_at_call 96; refine (CB.out _).mono ?_; rintro e WB ⟨rfl, hb⟩; subst hb)
      | (go_at_call 97; refine (CW1.out _ X5.g).mono ?_; rintro e W6 ⟨rfl, g6⟩; have X6 := X5.bel g6; have D6 := g6; obtain ⟨t0, t1, t2, t3, t4⟩ := X6.X.all)
      | (go_at_call 95; with_reducible (refine (CL1.out _ XD.out.g).mono ?_); rintro e W5 ⟨ps, ks, rfl, hd5, g5⟩; have X5 := XD.out.bel g5; obtain ⟨y0, y1, y2, y3, y4⟩ := X5.X.all)
      | (go_at_call 95; refine (CL2.out _ _ _ _ hd5 D6).mono ?_; rintro e W7 ⟨pt, kt, rfl, hd7, g7⟩; have X7 := X6.bel g7; obtain ⟨u0, u1, u2, u3, u4⟩ := X7.X.all; have f0 := row_frz X7.X 0; have f1 := row_frz X7.X 1; have f2 := row_frz X7.X 2; have f3 := row_frz X7.X 3; have f4 := row_frz X7.X 4))
    all_goals
      have R := set5_row (q := (⟨n, .slice p m k, .slice pt 8192 kt, c, v⟩ : DV)) X7.X
      have NXX : NX B w (set5 W7 x (⟨n, .slice p m k, .slice pt 8192 kt, c, v⟩ : DV)) x z n (.slice p m k) (.slice pt 8192 kt) c v l (nxF f T) := ⟨R, set5_other ZX.out X7.Z, set5_do X7.X hd7, set5_bel X7.g WX'.out⟩
      unfold set5 at NXX
      go_wp2_with fail
      go_meet
      exact ⟨_, _, NXX⟩
  case rest =>
    obtain ⟨pt, kt, X5⟩ := hcut
    have X5 := Lib.hid X5
    clear X4 CL1 CL2 CW1 w8 HH
    go_wp2_with fail
    have CS : Hid (∀ W, Below wc.heap.size wc W → Calls Tryz.prog 64 #[.agg #[.int .i64 n, .slice p m k], .int .i64 c, .int .i64 0, .int .i64 14, .int .u32 (sp : Int)] W fun e w' => ∃ p' m' k', e = .returned (.tuple #[.agg #[.int .i64 n, .slice p' m' k'], .int .i64 0]) ∧ LAtB W.heap.size w' (.slice p' m' k') (l ++ [(place n c 0 14, (sp : Int))]) ∧ Below W.heap.size W w') := fun W g => by
      refine (F3.refSet_at n c 0 14 (sp : Int) p m k l W hq2 hq32 (by have := HL.out; omega) ((X5.out.bel g).D.lat rfl) ⟨hc0, hc1, by decide, by decide, by decide, by decide⟩).mono ?_
      rintro e w' ⟨s', rfl, hl, g'⟩
      obtain ⟨p', m', k', rfl⟩ := F3.LAtB.slice hl
      exact ⟨p', m', k', rfl, hl, g'⟩
    go_cut [46] (fun _ wx => ∃ p' m' k', NX B w wx x z n (.slice p' m' k') (.slice pt 8192 kt) c v (l ++ [(place n c 0 14, (sp : Int))]) (nxF f T))
    case first =>
      have GD : Below wc.heap.size wc wc.drew := Below.drew (Below.refl _ _)
      have XD := Lib.hid (X5.out.bel GD)
      obtain ⟨x0, x1, x2, x3, x4⟩ := XD.out.X.all
      go_region_with (first
        | (go_at_call 96; refine (CB.out _).mono ?_; rintro e WB ⟨rfl, hb⟩; subst hb)
        | (go_at_call 97; refine (CW2.out _ pt kt l _ _ XD.out.D (Below.refl _ _)).mono ?_; rintro e W6 ⟨rfl, g6⟩; have X6 := XD.out.bel g6; obtain ⟨t0, t1, t2, t3, t4⟩ := X6.X.all)
        | (go_at_call 64; refine (CS.out _ (bel_trans GD g6)).mono ?_; rintro e W7 ⟨p', m', k', rfl, hl7, g7⟩; have X7 := X6.bel g7; obtain ⟨u0, u1, u2, u3, u4⟩ := X7.X.all; have f0 := row_frz X7.X 0; have f1 := row_frz X7.X 1))
      all_goals
        have NXX := X6.reg g7 hl7 ZX.out WX'.out
        go_wp2_with fail
        go_meet
        exact ⟨_, _, _, NXX⟩
    case rest =>
      obtain ⟨p6, m6, k6, X6⟩ := hcut
      have X6 := Lib.hid X6
      clear X5 CS CW2 w4
      obtain ⟨x0, x1, x2, x3, x4⟩ := X6.out.X.all
      go_wp2_with fail
      refine (P4.rNext_yes c n 1 wc hq2 hq32 hc0 hc1 (by decide) (by decide)).mono ?_; rintro e w7 ⟨rfl, rfl⟩
      go_upto_region 8 with (refine d_store rfl 3 (.tmp 57) (.tmp 55) rfl ⟨n, .slice p6 m6 k6, .slice pt 8192 kt, c, v⟩ ⟨n, .slice p6 m6 k6, .slice pt 8192 kt, c, (c + 1) % n⟩ x 4 rfl [.int .i64 ((c + 1) % n)] rfl X6.out.X (by kernel_rfl) (one_one rfl) (Nat.le_of_ble_eq_true rfl) rfl ?_; intro V8 r8 g8)
      have X8 := Lib.hid (X6.out.vset r8.out g8.out ZX.out WX'.out)
      have V6 := Lib.hid X6.out.D
      clear r8 g8 X6 x0 x1 x2 x3 x4
      obtain ⟨x0, x1, x2, x3, x4⟩ := X8.out.X.all
      have CD := Lib.hid (Loaded8 ⟨n, .slice p6 m6 k6, .slice pt 8192 kt, c, (c + 1) % n⟩ c p6 pt m6 k6 kt (l ++ [(place n c 0 14, (sp : Int))]) (nxF f T) sp V8 rfl rfl hq2 hq32 hc0 hc1 (by rw [List.length_append]; have := HL.out; simp; omega) (X8.out.D.lat rfl) (MB.sl X8.out.D.M) X8.out.D.bt (atL_last hc0) (by unfold spE; rw [if_neg (by omega), if_neg (by omega), if_neg (by omega)]))
      go_wp2_with fail
      refine CD.out.mono ?_; rintro e w9 ⟨p9, m9, k9, rfl, hl9, g9⟩
      have X9 := Lib.hid (X8.out.bel g9)
      have HL9 := Lib.hid hl9
      have S8 := Lib.hid X8.out.D.le
      have D8 := Lib.hid X8.out
      clear hl9 CD x0 x1 x2 x3 x4 X8
      have OK9 : Hid (DV.Ok ⟨n, .slice p9 m9 k9, .slice pt 8192 kt, c, (c + 1) % n⟩) := ⟨rfl, rfl⟩
      go_upto_region 9 with (first
        | (refine d_alloc rfl (some 9) rfl (by kernel_rfl) ?_; intro V10 r10 b10 s10)
        | (refine d_whole rfl (.tmp 9) (.tmp 63) rfl w9.heap.size dzero ⟨n, .slice p9 m9 k9, .slice pt 8192 kt, c, (c + 1) % n⟩ rfl rfl r10.out OK9.out ?_; intro V11 r11 g11))
      obtain ⟨y, hy⟩ : ∃ y, y = w9.heap.size := ⟨_, rfl⟩
      rw [← hy] at r10 r11 g11 ⊢
      have yx : x ≠ y := by have h1 := X9.out.X.lt; omega
      have yz : z ≠ y := by have h1 := X9.out.Z.lt; omega
      have yw : w.heap.size ≤ y := by have h1 := X9.out.g.size; omega
      have X11 := Lib.hid ((X9.out.bel b10).away r10.out g11.out yx yz yw)
      have L11 : Hid (LAtB B V11 (.slice p9 m9 k9) ((l ++ [(place n c 0 14, (sp : Int))]) ++ entF (c.toNat * 16) (M5.wdB (nxF f T) sp) 16)) := own_typ_keep r10.out g11.out (own_belw (own_less HL9.out S8.out) b10) (by decide)
      have DF : Hid (DO B V11 ⟨n, .slice p9 m9 k9, .slice pt 8192 kt, c, (c + 1) % n⟩ ((l ++ [(place n c 0 14, (sp : Int))]) ++ entF (c.toNat * 16) (M5.wdB (nxF f T) sp) 16) (nxF f T)) := ⟨L11.out, X11.out.D.M, X11.out.D.bt, X11.out.D.le⟩
      have YX := Lib.hid yx
      have YZ := Lib.hid yz
      have Y11 := Lib.hid r11.out
      have ZX2 : Hid (x ≠ z) := fun e => ZX.out e.symm
      have NZ : Hid (w.heap.size ≤ z) := by have h1 := N3.out; have h2 := WX'.out; unfold Hid; omega
      clear r10 b10 s10 r11 g11 X9 HL9 S8 D8 V6 OK9 hy yx yz yw L11 g9
      generalize hv9 : (c + 1) % n = v9 at X11 DF Y11 ⊢
      have HV9 := Lib.hid hv9
      clear hv9
      have GD : Below V11.heap.size V11 V11.drew := Below.drew (Below.refl _ _)
      have HD : Hid (∀ W, Below V11.heap.size V11 W → (W.cell? ⟨x, 0, none⟩ = some (.int .i64 n) ∧ W.cell? ⟨x, 1, none⟩ = some (.slice p6 m6 k6) ∧ W.cell? ⟨x, 2, none⟩ = some (.slice pt 8192 kt) ∧ W.cell? ⟨x, 3, none⟩ = some (.int .i64 c) ∧ W.cell? ⟨x, 4, none⟩ = some (.int .i64 v9)) ∧ (W.cell? ⟨y, 0, none⟩ = some (.int .i64 n) ∧ W.cell? ⟨y, 1, none⟩ = some (.slice p9 m9 k9) ∧ W.cell? ⟨y, 2, none⟩ = some (.slice pt 8192 kt) ∧ W.cell? ⟨y, 3, none⟩ = some (.int .i64 c) ∧ W.cell? ⟨y, 4, none⟩ = some (.int .i64 v9))) := fun W g => ⟨(X11.out.X.bel g).all, (Y11.out.bel g).all⟩
      have DD := HD.out _ GD
      go_region_held3 (fun W => (W.cell? ⟨x, 0, none⟩ = some (.int .i64 n) ∧ W.cell? ⟨x, 1, none⟩ = some (.slice p6 m6 k6) ∧ W.cell? ⟨x, 2, none⟩ = some (.slice pt 8192 kt) ∧ W.cell? ⟨x, 3, none⟩ = some (.int .i64 c) ∧ W.cell? ⟨x, 4, none⟩ = some (.int .i64 v9)) ∧ (W.cell? ⟨y, 0, none⟩ = some (.int .i64 n) ∧ W.cell? ⟨y, 1, none⟩ = some (.slice p9 m9 k9) ∧ W.cell? ⟨y, 2, none⟩ = some (.slice pt 8192 kt) ∧ W.cell? ⟨y, 3, none⟩ = some (.int .i64 c) ∧ W.cell? ⟨y, 4, none⟩ = some (.int .i64 v9)))
        (first
          | with_reducible exact DD
          | with_reducible exact DA
          | with_reducible exact DS)
        (first
          | (go_at_call 96; refine (CB.out _).mono ?_; rintro e WB ⟨rfl, hb⟩; subst hb)
          | (go_at_call 97; refine (CW3.out _ pt kt _ _ _ _ X11.out.D GD).mono ?_; rintro e WA ⟨rfl, ga⟩; have GA := bel_trans GD ga; have DA := HD.out _ GA; have ZA := X11.out.Z.bel GA; obtain ⟨z0, z1, z2, z3, z4⟩ := ZA.all; have zf0 := row_frz ZA 0; have zf1 := row_frz ZA 1; have zf2 := row_frz ZA 2; have zf3 := row_frz ZA 3; have zf4 := row_frz ZA 4; have DS0 := And.intro (row_c5 (set5_c5 (q := (⟨n, .slice p9 m9 k9, .slice pt 8192 kt, c, v9⟩ : DV)) ZX2.out (X11.out.X.bel GA))) (row_c5 (set5_c5 (q := (⟨n, .slice p9 m9 k9, .slice pt 8192 kt, c, v9⟩ : DV)) (Ne.symm YZ.out) (Y11.out.bel GA))); have DS := DS0; unfold C5 set5 at DS; clear ga))
      all_goals
        have R := set5_row (q := (⟨n, .slice p9 m9 k9, .slice pt 8192 kt, c, v9⟩ : DV)) ZA
        clear DD DA DS
        go_wp2_with fail
        change bodyPost _ _ _ _ _ (set5 WA z (⟨n, .slice p9 m9 k9, .slice pt 8192 kt, c, v9⟩ : DV))
        refine d_ret3 rfl rfl R rfl ?_
        rw [HV9.out]
        exact ⟨_, _, rfl, set5_do ZA (DF.out.bel GA), set5_bel (bel_trans X11.out.g GA) NZ.out⟩
end Go.Proofs.YtiobgnelhiadbaaGreatDoor.S10
