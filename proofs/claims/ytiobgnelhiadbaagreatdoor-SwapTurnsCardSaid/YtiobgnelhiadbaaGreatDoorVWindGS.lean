/- The document's side of layer 8: Same. -/
import Derived.Test.YtiobgnelhiadbaaGreatDoorVWindGK
import Derived.Test.YtiobgnelhiadbaaGreatDoorVMemG
namespace Go.Proofs.YtiobgnelhiadbaaGreatDoor.W8
open Go.RowKit
open F3 (LAt LAtB place atL Ent entF Named)
set_option linter.unusedVariables false
theorem two_worlds (w : World) (q r : DV) : RowD ((w.alloc (.cells (drow q) 59)).alloc (.cells (drow r) 59)) w.heap.size q ∧ RowD ((w.alloc (.cells (drow q) 59)).alloc (.cells (drow r) 59)) (w.heap.size + 1) r ∧ Below w.heap.size w ((w.alloc (.cells (drow q) 59)).alloc (.cells (drow r) 59)) := by
  have s1 : ∀ (V : World) (o : Obj), (V.alloc o).heap.size = V.heap.size + 1 := fun V o => by simp
  have gg : ∀ (V : World) (o : Obj), Below V.heap.size V (V.alloc o) := fun V o => (Below.refl _ _).alloc (Nat.le_refl _) _
  have l : ∀ (V : World) (o : Obj) (n : Nat), V.heap.size = n → (V.alloc o).heap[n]? = some o := fun V o n e => by subst e; exact heap_alloc_last _ _
  exact ⟨bel_heap (gg _ _) (l _ _ _ rfl), l _ _ _ (s1 _ _), bel_trans (gg _ _) (gg _ _)⟩
theorem wlk_sl {w : World} {B : Nat} {s : Value} {l : List Ent} {n x : Int} (h : w.ownsRow B 22 1 s 16 (F3.wlk (fun i => atL l (place n x 0 (16 + (i : Int)))) 16)) : ∃ g c, s = .slice (some ⟨g, 0, none⟩) 16 c ∧ Sl .u32 w s 16 (winL l n x) := by
  obtain ⟨g, c, rfl, hc⟩ := F3.wlk_form h (by decide)
  exact ⟨g, c, rfl, _, _, rfl, fun _ => ⟨g, 0, rfl, fun i hi => by rw [Nat.zero_add]; exact hc i hi⟩⟩
set_option maxRecDepth 100000 in
set_option maxHeartbeats 4000000 in
theorem Same_at (n c v : Int) (p1 p2 pm1 pm2 : Option Addr) (m1 m2 k1 k2 mk1 mk2 sn : Nat) (l1 l2 : List Ent) (f1 f2 : Nat → Int) (w : World) (hn : 2 ≤ n) (hn' : n ≤ 32) (hs : sn ≤ 4194304) (h1 : l1.length ≤ 1000) (h2 : l2.length ≤ 1000) (L1 : LAt w (.slice p1 m1 k1) l1) (L2 : LAt w (.slice p2 m2 k2) l2)
    (M1 : Sl .u8 w (.slice pm1 sn mk1) sn f1) (M2 : Sl .u8 w (.slice pm2 sn mk2) sn f2) (hf : ∀ i, i < sn → f1 i = f2 i) (hw : ∀ (x : Int) (i : Nat), 0 ≤ x → x < n → i < 16 → winL l1 n x i = winL l2 n x i) (hg : ∀ k r : Nat, k < 16 → r < 8 → atL l1 (place n 0 k r) = atL l2 (place n 0 k r)) :
    Calls Tryz.prog 29 #[.agg (drow ⟨n, .slice p1 m1 k1, .slice pm1 sn mk1, c, v⟩), .agg (drow ⟨n, .slice p2 m2 k2, .slice pm2 sn mk2, c, v⟩)] w fun e w' => e = .returned (.bool true) ∧ Below w.heap.size w w' := by
  obtain ⟨T1, T2, T3⟩ := two_worlds w ⟨n, .slice p1 m1 k1, .slice pm1 sn mk1, c, v⟩ ⟨n, .slice p2 m2 k2, .slice pm2 sn mk2, c, v⟩
  have X1 := Lib.hid T1
  have X2 := Lib.hid T2
  have G0 := Lib.hid T3
  have L1 := Lib.hid (L1.bel T3)
  have L2 := Lib.hid (L2.bel T3)
  have M1 := Lib.hid (M1.bel T3)
  have M2 := Lib.hid (M2.bel T3)
  have HF := Lib.hid hf
  have HW := Lib.hid hw
  have HG := Lib.hid hg
  clear T1 T2 T3 hf hw hg
  go_enter Tryz.func29, Tryz.ntmps29
  go_upto_region 1 with (fail)
  change Code.wp _ _ _ _ ((w.alloc (.cells (drow ⟨n, .slice p1 m1 k1, .slice pm1 sn mk1, c, v⟩) 59)).alloc (.cells (drow ⟨n, .slice p2 m2 k2, .slice pm2 sn mk2, c, v⟩) 59))
  generalize ((w.alloc (.cells (drow ⟨n, .slice p1 m1 k1, .slice pm1 sn mk1, c, v⟩) 59)).alloc (.cells (drow ⟨n, .slice p2 m2 k2, .slice pm2 sn mk2, c, v⟩) 59)) = V at X1 X2 G0 L1 L2 M1 M2 ⊢
  generalize w.heap.size + 1 = y at X2 ⊢
  obtain ⟨x, hx⟩ : ∃ x, x = w.heap.size := ⟨_, rfl⟩
  rw [← hx] at X1 ⊢
  have A : Hid (∀ W, Below V.heap.size V W → (W.cell? ⟨x, 0, none⟩ = some (.int .i64 n) ∧ W.cell? ⟨x, 1, none⟩ = some (.slice p1 m1 k1) ∧ W.cell? ⟨x, 2, none⟩ = some (.slice pm1 sn mk1) ∧ W.cell? ⟨x, 3, none⟩ = some (.int .i64 c) ∧ W.cell? ⟨x, 4, none⟩ = some (.int .i64 v)) ∧ W.cell? ⟨y, 0, none⟩ = some (.int .i64 n) ∧ W.cell? ⟨y, 1, none⟩ = some (.slice p2 m2 k2) ∧ W.cell? ⟨y, 2, none⟩ = some (.slice pm2 sn mk2) ∧ W.cell? ⟨y, 3, none⟩ = some (.int .i64 c) ∧ W.cell? ⟨y, 4, none⟩ = some (.int .i64 v)) := fun W k => ⟨(X1.out.bel k).all, (X2.out.bel k).all⟩
  clear hx
  have hnn : (n != n) = false := by simp
  have hcc : (c != c) = false := by simp
  have hvv : (v != v) = false := by simp
  obtain ⟨⟨x0, x1, x2, x3, x4⟩, y0, y1, y2, y3, y4⟩ := A.out V (Below.refl _ _)
  go_wp2_with fail
  clear x0 x1 x2 x3 x4 y0 y1 y2 y3 y4
  go_loopw [5] (fun i wr => ∃ k : Nat, k ≤ sn ∧ i = .int .i64 k ∧ Below V.heap.size V wr) (fun i _ => sn - (intOf i).toNat)
  case atStart => exact ⟨0, by omega, rfl, Below.refl _ _⟩
  case round =>
    obtain ⟨k, hk, rfl, g⟩ := hrel
    have g := Lib.hid g
    obtain ⟨⟨x0, x1, x2, x3, x4⟩, y0, y1, y2, y3, y4⟩ := A.out wr g.out
    by_cases hlt : k < sn
    · as_aux_lemma =>
        obtain ⟨pq1, c1, e1, hm1⟩ := id M1.out
        simp only [Value.slice.injEq] at e1
        obtain ⟨rfl, _, rfl⟩ := e1
        obtain ⟨b1, o1, rfl, hb1⟩ := hm1 (by omega)
        obtain ⟨pq2, c2, e2, hm2⟩ := id M2.out
        simp only [Value.slice.injEq] at e2
        obtain ⟨rfl, _, rfl⟩ := e2
        obtain ⟨b2, o2, rfl, hb2⟩ := hm2 (by omega)
        have ca := bel_cell g.out (hb1 k hlt)
        have cb := bel_cell g.out (hb2 k hlt)
        rw [← HF.out k hlt] at cb
        have hk32 : k < 4194304 := by omega
        clear hm1 hm2 hb1 hb2
        go_wp2
        go_quiet (fail)
        go_wp2
        go_roundw
        case rel => exact ⟨k + 1, by omega, by go_num, bel_drewN g.out _⟩
        case measure => simp [intOf]; omega
    · obtain rfl : k = sn := by omega
      as_aux_lemma =>
        go_wp2_with fail
        go_loopw [6] (fun i wr => ∃ k : Nat, (k : Int) ≤ n ∧ i = .int .i64 k ∧ Below V.heap.size V wr) (fun i _ => (n - intOf i).toNat)
        case atStart => exact ⟨0, by omega, rfl, g.out⟩
        case round =>
          clear x0 x1 x2 x3 x4 y0 y1 y2 y3 y4 hk hlt g
          obtain ⟨j, hj, rfl, g⟩ := hrel
          have g := Lib.hid g
          obtain ⟨⟨x0, x1, x2, x3, x4⟩, y0, y1, y2, y3, y4⟩ := A.out _ g.out
          by_cases hlt : (j : Int) < n
          · as_aux_lemma =>
              go_wp2_with fail
              refine (F3.refWindow_at n j p1 m1 k1 l1 _ hn hn' (by omega) hlt h1 (L1.out.bel g.out)).mono ?_; rintro e w2 ⟨s1, rfl, ho, g2⟩
              obtain ⟨b1, c1, rfl, S1⟩ := wlk_sl ho
              have g2' := Lib.hid (bel_trans g.out g2)
              have S1 := Lib.hid S1
              clear ho g2 x0 x1 x2 x3 x4 y0 y1 y2 y3 y4
              obtain ⟨⟨x0, x1, x2, x3, x4⟩, y0, y1, y2, y3, y4⟩ := A.out _ g2'.out
              go_wp2_with fail
              refine (F3.refWindow_at n j p2 m2 k2 l2 _ hn hn' (by omega) hlt h2 (L2.out.bel g2'.out)).mono ?_; rintro e w3 ⟨s2, rfl, ho, g3⟩
              obtain ⟨b2, c2, rfl, S2⟩ := wlk_sl ho
              have SM := Lib.hid (M5.words_same _ _ 16 _ _ w3 (by decide) (S1.out.bel g3) S2 (fun i hi => HW.out j i (by omega) hlt hi))
              have g3' := Lib.hid (bel_trans g2'.out g3)
              clear ho g3 S1 S2 g2' x0 x1 x2 x3 x4 y0 y1 y2 y3 y4
              go_wp2_with fail
              refine SM.out.mono ?_; rintro e w4 ⟨rfl, g4⟩
              have g4' := Lib.hid (bel_trans g3'.out g4)
              clear SM g3' g4
              go_wp2_with fail
              go_roundw
              case rel => exact ⟨j + 1, by omega, by go_num, g4'.out⟩
              case measure => simp only [intOf]; omega
          · as_aux_lemma =>
              go_wp2_with fail
              go_loopw [11] (fun i wr => ∃ q : Nat, q ≤ 16 ∧ i = .int .i64 q ∧ Below V.heap.size V wr) (fun i _ => 16 - (intOf i).toNat)
              case atStart => exact ⟨0, by decide, rfl, g.out⟩
              case round =>
                clear x0 x1 x2 x3 x4 y0 y1 y2 y3 y4 hj hlt g
                obtain ⟨q, hq, rfl, g⟩ := hrel
                have g := Lib.hid g
                by_cases hlt : q < 16
                · have hlt' : (q : Int) < 16 := by omega
                  go_wp2_with fail
                  go_loopw [12] (fun i wr => ∃ r : Nat, r ≤ 8 ∧ i = .int .i64 r ∧ Below V.heap.size V wr) (fun i _ => 8 - (intOf i).toNat)
                  case atStart => exact ⟨0, by decide, rfl, g.out⟩
                  case round =>
                    clear g
                    obtain ⟨r, hr, rfl, g⟩ := hrel
                    have g := Lib.hid g
                    obtain ⟨⟨x0, x1, x2, x3, x4⟩, y0, y1, y2, y3, y4⟩ := A.out _ g.out
                    by_cases hlr : r < 8
                    · have hlr' : (r : Int) < 8 := by omega
                      have E := HG.out q r hlt hlr
                      have NM : F3.Named n 0 q r := ⟨by decide, by omega, by omega, by omega, by omega, by omega⟩
                      have C1 := Lib.hid (fun (W : World) (k : Below V.heap.size V W) => F3.refGet_at n 0 q r (.slice p1 m1 k1) l1 W hn hn' h1 (L1.out.bel k) NM)
                      have C2 : Hid (∀ W : World, Below V.heap.size V W → Calls Tryz.prog 87 #[.agg #[.int .i64 n, .slice p2 m2 k2], .int .i64 0, .int .i64 q, .int .i64 r] W fun e w' => e = .returned (.tuple #[.int .u32 (atL l1 (place n 0 q r)), .int .i64 0]) ∧ Below W.heap.size W w') := fun W k => by
                        rw [E]
                        exact F3.refGet_at n 0 q r (.slice p2 m2 k2) l2 W hn hn' h2 (L2.out.bel k) NM
                      clear E
                      obtain ⟨u, hu⟩ : ∃ u, u = atL l1 (place n 0 q r) := ⟨_, rfl⟩
                      rw [← hu] at C1 C2
                      clear hu NM
                      go_wp2_with fail
                      refine (C1.out _ g.out).mono ?_; rintro e w2 ⟨rfl, g2⟩
                      have g2' := Lib.hid (bel_trans g.out g2)
                      clear g2 x0 x1 x2 x3 x4 y0 y1 y2 y3 y4
                      obtain ⟨⟨x0, x1, x2, x3, x4⟩, y0, y1, y2, y3, y4⟩ := A.out _ g2'.out
                      go_wp2_with fail
                      refine (C2.out _ g2'.out).mono ?_; rintro e w3 ⟨rfl, g3⟩
                      have g3' := Lib.hid (bel_trans g2'.out g3)
                      have huu : (u != u) = false := by simp
                      clear g3 g2' x0 x1 x2 x3 x4 y0 y1 y2 y3 y4
                      go_wp2_with fail
                      go_roundw
                      case rel => exact ⟨r + 1, by omega, by go_num, g3'.out⟩
                      case measure => simp only [intOf]; omega
                    · go_wp2_with fail
                      go_roundw
                      case rel => exact ⟨q + 1, by omega, by go_num, g.out⟩
                      case measure => simp only [intOf]; omega
                · go_wp2_with fail
                  go_ret
                  exact ⟨rfl, bel_trans G0.out g.out⟩
end Go.Proofs.YtiobgnelhiadbaaGreatDoor.W8
