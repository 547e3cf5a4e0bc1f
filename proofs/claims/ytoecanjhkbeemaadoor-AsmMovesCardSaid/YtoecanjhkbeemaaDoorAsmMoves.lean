/- AsmMoves (layer 7), walked: a list behind instructions has the same words behind these. -/
import Derived.Test.YtoecanjhkbeemaaDoorAsmTwo
import Derived.Test.YtoecanjhkbeemaaDoorAsmHead
import Derived.Test.YtoecanjhkbeemaaDoorAsmGreat
namespace Go.Proofs.YtoecanjhkbeemaaDoor.A7
open Go.RowKit Go.Maps
set_option linter.unusedVariables false
theorem alloc2_bel (w : World) (xs ys : Array Value) (t u : TypeId) : Below w.heap.size w ((w.alloc (.cells xs t)).alloc (.cells ys u)) := ((Below.refl _ _).alloc (Nat.le_refl _) _).alloc (by simp) _
/-- Two lists, of which no act has been made yet, and two empty ones of the document. -/
theorem two_start {w0 w : World} {a b : Nat} {qa qb : AS} {Ga Gb K : Nat → Prop} (A : AsmB w a Ga K qa) (B : AsmB w b Gb K qb) (ab : ∀ i, Ga i → ¬ Gb i) (low : ∀ i, K i → w0.heap.size ≤ i) (g : Below w0.heap.size w0 w) (tab : I2.Tab w0) :
    Two w0 ((w.alloc (.cells #[.slice none 0 0, .slice none 0 0] 30)).alloc (.cells #[.slice none 0 0, .slice none 0 0] 30)) w.heap.size (w.heap.size + 1) a b qa qb (.slice none 0 0) (.slice none 0 0) (.slice none 0 0) (.slice none 0 0) (.slice none 0 0) (.slice none 0 0) (.slice none 0 0) (.slice none 0 0) [] [] [] [] := by
  have k := alloc2_bel w #[.slice none 0 0, .slice none 0 0] #[.slice none 0 0, .slice none 0 0] 30 30
  have l : ∀ i, (i = w.heap.size ∨ i = w.heap.size + 1) → w.heap.size ≤ i := fun i h => by omega
  have l' : ∀ i, (i = w.heap.size ∨ i = w.heap.size + 1) → i < ((w.alloc (.cells #[.slice none 0 0, .slice none 0 0] 30)).alloc (.cells #[.slice none 0 0, .slice none 0 0] 30)).heap.size := fun i h => by simp; omega
  have no : ∀ (G : Nat → Prop) (i : Nat), (∀ j, G j → j < w.heap.size) → w.heap.size ≤ i → ¬ G i := fun G i hG hi e => absurd (hG i e) (Nat.not_lt.2 hi)
  refine ⟨Ga, Gb, fun i => K i ∨ (i = w.heap.size ∨ i = w.heap.size + 1), A.besideNew k l l', B.besideNew k l l', ab, ?_, RL.nil _, RL.nil _, fun i h => (by rcases h with h | h <;> cases h), fun i h => (by rcases h with h | h <;> cases h), heap_alloc2_old w _ _, heap_alloc2_new w _ _, by omega, .inr (.inl rfl), .inr (.inr rfl), ⟨no _ _ A.lt (Nat.le_refl _), no _ _ B.lt (Nat.le_refl _)⟩, ⟨no _ _ A.lt (by omega), no _ _ B.lt (by omega)⟩, bel_trans g k, tab⟩
  rintro i (h | h)
  · exact low i h
  · exact Nat.le_trans g.size (l i h)
theorem sl_behind {w : World} {p : Option Addr} {m n c : Nat} {f : Nat → Int} (h : Sl .u32 w (.slice p (m + n) c) (m + n) f) (d : Nat) : Sl .u32 w (.slice (p.map (fun x => x.add m)) n d) n (fun i => f (m + i)) := by
  obtain ⟨p', c', e, h⟩ := h
  cases e
  refine ⟨_, _, rfl, fun hn => ?_⟩
  obtain ⟨b, o, rfl, hc⟩ := h (by omega)
  refine ⟨b, o + m, by simp [add_off], fun i hi => ?_⟩
  have := hc (m + i) (by omega)
  rw [← Nat.add_assoc] at this
  exact this
theorem own_capn {w : World} {B : Nat} {t : TypeId} {p : Option Addr} {n c : Nat} {xs : List Value} (h : w.ownsRow B t 1 (.slice p n c) n xs) : n ≤ c := by
  obtain ⟨h0, ⟨h, h1⟩ | ⟨g, cap, cur, e, hB, hg, h1, h2, h3, h4⟩⟩ := h
  · cases h; omega
  · cases e; exact h1
set_option maxHeartbeats 4000000 in
set_option maxRecDepth 20000 in
theorem moves_walk {w : World} {v0 v1 : Value} {k m : Nat} {A : Nat → Ac} {X : Nat → XI} (hA : Acts w (fun i => w.heap.size ≤ i) v0 k A) (bA : ∀ i, i < k → AcB (A i)) (hk : k ≤ 140737488355328) (hI : Ins w (fun i => w.heap.size ≤ i) v1 m X) (bX : ∀ i, i < m → XB (X i)) (hm : m ≤ 140737488355328) (hT : I2.Tab w) :
    Calls Tryd.prog 4 #[v0, v1] w fun e w' => e = .returned (.bool true) ∧ Below w.heap.size w w' := by
  have GR := great_at hA bA hk
  obtain ⟨p0, c0, rfl, hcs⟩ := hA
  have HI := Lib.hid hI
  obtain ⟨p1, c1, rfl, _⟩ := hI
  have GR := Lib.hid GR
  have HC := Lib.hid hcs
  have HA := Lib.hid bA
  have HX := Lib.hid bX
  have HT := Lib.hid hT
  clear hcs bA bX hT
  go_enter Tryd.func4, Tryd.ntmps4
  go_wp2_with fail
  refine GR.out.mono ?_
  rintro e w1 ⟨rfl, g1⟩
  have T1 := Lib.hid (tab_bel HT.out g1)
  have G1 := Lib.hid g1
  clear g1 GR
  cases hgr : greatB k A
  · by_cases h60 : 60 < m
    · have h61 : 60 < (m : Int) := by omega
      go_wp2_with fail
      refine (head_at w1 T1.out).mono ?_; rintro e w2 ⟨rfl, g2⟩
      have G2 := Lib.hid g2
      clear g2
      go_wp2_with fail
      go_ret
      exact ⟨rfl, bel_trans G1.out G2.out⟩
    · have h61 : ¬ 60 < (m : Int) := by omega
      go_wp2_with fail
      refine (New_at (K := fun _ => False) w1 T1.out (fun _ e => e.elim)).mono ?_; rintro e w2 ⟨a, Ga, rfl, A2, g2, low2⟩
      have A2 := Lib.hid A2
      have G2 := Lib.hid g2
      have L2 := Lib.hid low2
      clear g2 low2
      go_wp2_with fail
      refine (New_at w2 (tab_bel T1.out G2.out) A2.out.klt).mono ?_; rintro e w3 ⟨b, Gb, rfl, B3, g3, low3⟩
      have g123 := bel_trans (bel_trans G1.out G2.out) g3
      have BI := Lib.hid ((HI.out.bel g123).mono (H' := Gb) fun i hi => Nat.le_trans (bel_trans G1.out G2.out).size (low3 i hi))
      have A3 := Lib.hid (A2.out.besideNew g3 low3 B3.lt)
      have B3 := Lib.hid B3
      have G3 := Lib.hid g123
      have L3 := Lib.hid low3
      clear g3 low3 g123
      go_wp2_with fail
      refine (Put_any B3.out BI.out HX.out (by simp [AS.nil]; omega)).mono ?_
      rintro e w4 h
      rcases h with ⟨rfl, hmay, G', B4, T, lo⟩ | ⟨rfl, _, G', B4, T, lo⟩
      · have BG := Lib.hid (Turns.bel G3.out T (fun i hi => Nat.le_trans (bel_trans G1.out G2.out).size (L3.out i hi)))
        have A4 := Lib.hid (A3.out.beside T (fun i ha hb => by have := A2.out.lt i ha; have := L3.out i hb; omega) B3.out.sub B3.out.far lo B4.lt)
        have D4 : Hid (∀ i, Ga i → ¬ G' i) := fun i ha hb => by
          have l1 := A2.out.lt i ha
          have l2 := A3.out.lt i ha
          rcases lo i hb with h | h
          · have := L3.out i h; omega
          · omega
        have K4 : Hid (∀ i, ((((fun _ => False) i ∨ Ga i) ∨ Gb i) ∨ G' i) → w.heap.size ≤ i) := fun i h => by
          have s1 := G1.out.size
          have s2 := G2.out.size
          have s3 := G3.out.size
          rcases h with ((h | h) | h) | h
          · exact h.elim
          · have := L2.out i h; omega
          · have := L3.out i h; omega
          · rcases lo i h with h | h
            · have := L3.out i h; omega
            · omega
        have TW := Lib.hid (two_start A4.out B4 D4.out K4.out BG.out HT.out)
        have SB := Lib.hid (Shift.nil (fun i => (X i).word) m)
        clear A2 A3 B3 A4 B4 D4 K4 BI T lo G2 L2 L3 G3 BG hmay
        go_upto_region 7 with (fail)
        change Code.wp _ _ _ _ ((w4.alloc (.cells #[.slice none 0 0, .slice none 0 0] 30)).alloc (.cells #[.slice none 0 0, .slice none 0 0] 30))
        generalize (w4.alloc (.cells #[.slice none 0 0, .slice none 0 0] 30)).alloc (.cells #[.slice none 0 0, .slice none 0 0] 30) = V at TW ⊢
        go_wp2_with fail
        go_loopw [9] (fun i wr => ∃ (j : Nat) (qa qb : AS) (la ma lb mb : Value) (l : List It) (ms : List (ByteArray × Nat)), j ≤ k ∧ i = .int .i64 j ∧ Two w wr w4.heap.size (w4.heap.size + 1) a b qa qb la ma lb mb la ma lb mb l ms l ms ∧ Rel qa l ms ∧ Shift m qa qb ∧ l.length ≤ gsum A j + 2 * j ∧ ms.length ≤ j) (fun i _ => k - (intOf i).toNat)
        case atStart => exact ⟨0, _, _, _, _, _, _, _, _, Nat.zero_le _, rfl, TW.out, Rel.nil, SB.out, Nat.zero_le _, Nat.le_refl _⟩
        case round =>
          obtain ⟨j, qa, qb, la, ma, lb, mb, l, ms, hj, rfl, tw, rel, shf, hln, hmn⟩ := hrel
          have GQ := Lib.hid (great_no hgr)
          have TT := Lib.hid tw
          have RR := Lib.hid rel
          have SS := Lib.hid shf
          clear tw rel shf TW SB
          by_cases hlt : j < k
          · obtain ⟨bb, o, rfl, hb, hcell⟩ := HC.out (by omega)
            obtain ⟨lx, x0, x1, hx, x2, x3, x4⟩ := hcell j hlt
            obtain ⟨ip, ic, rfl, his⟩ := hx
            have IJ : Hid (Ins w (fun i => w.heap.size ≤ i) (.slice ip (A j).k ic) (A j).k (A j).X) := ⟨ip, ic, rfl, his⟩
            have BJ := Lib.hid (HA.out j hlt)
            have NN : Hid (l.length + (A j).k + 62 ≤ 100000) := by have := great_k hgr hlt; have := GQ.out; unfold Hid; omega
            have MM : Hid (ms.length < 100000) := by have := GQ.out; unfold Hid; omega
            have gw := TT.out.below
            have XC := Lib.hid (And.intro x0 (And.intro x1 (And.intro x2 (And.intro x3 x4))))
            replace x0 := bel_cell gw x0
            replace x1 := bel_cell gw x1
            replace x2 := bel_cell gw x2
            replace x3 := bel_cell gw x3
            replace x4 := bel_cell gw x4
            obtain ⟨⟨lp, lc, rfl⟩, mp, mc, rfl⟩ := TT.out.forms
            obtain ⟨⟨np, nc, rfl⟩, op, oc, rfl⟩ := TT.out.swap.forms
            obtain ⟨z0, z1, fz0, fz1⟩ := TT.out.cells
            clear his hcell gw hb
            have HLT := Lib.hid hlt
            have HLN := Lib.hid hln
            have HMN := Lib.hid hmn
            clear hln hmn
            go_wp2_with fail
            go_region_with (go_at_call 9; refine (Two.does (TT.out.bel (Below.drew (Below.refl _ _))) (A j) RR.out.like BJ.out (Two.ins (TT.out.bel (Below.drew (Below.refl _ _))) IJ.out) NN.out MM.out).mono ?_; rintro e V1 ⟨la', ma', rfl, T1⟩; obtain ⟨_, _, fz0, fz1⟩ := T1.cells; obtain ⟨⟨p', c', hv⟩, p2, c2, hv2⟩ := T1.forms)
            all_goals
              subst hv hv2
              have T2 := T1.store
              generalize (V1.setCell ⟨w4.heap.size, 0, none⟩ (Value.slice p' (doL l ms (A j)).length c')).setCell ⟨w4.heap.size, 1, none⟩ (Value.slice p2 (doM l ms (A j)).length c2) = V2 at T2 ⊢
              obtain ⟨y0, y1, fy0, fy1⟩ := T2.swap.cells
              have gw := T2.below
              have x0 := bel_cell gw XC.out.1
              have x1 := bel_cell gw XC.out.2.1
              have x2 := bel_cell gw XC.out.2.2.1
              have x3 := bel_cell gw XC.out.2.2.2.1
              have x4 := bel_cell gw XC.out.2.2.2.2
              have T2 := Lib.hid T2
              clear gw fz0 fz1 z0 z1 T1
              go_wp2_with fail
              go_region_with (go_at_call 9; refine (Two.does (T2.out.swap.bel (Below.drew (Below.refl _ _))) (A j) (SS.out.like RR.out (Nat.le_of_not_lt h60)) BJ.out (Two.ins (T2.out.bel (Below.drew (Below.refl _ _))) IJ.out) NN.out MM.out).mono ?_; rintro e V3 ⟨lb', mb', rfl, T3⟩; obtain ⟨_, _, fy0, fy1⟩ := T3.cells; obtain ⟨⟨p3, c3, hv⟩, p4, c4, hv2⟩ := T3.forms)
              all_goals
                subst hv hv2
                have T4 := T3.store.swap
                generalize (V3.setCell ⟨w4.heap.size + 1, 0, none⟩ (Value.slice p3 (doL l ms (A j)).length c3)).setCell ⟨w4.heap.size + 1, 1, none⟩ (Value.slice p4 (doM l ms (A j)).length c4) = V4 at T4 ⊢
                have T4 := Lib.hid T4
                clear fy0 fy1 y0 y1 T3 x0 x1 x2 x3 x4
                go_wp2_with fail
                go_roundw
                case rel => exact ⟨j + 1, _, _, _, _, _, _, _, _, HLT.out, by go_num, T4.out, RR.out.does (A j), SS.out.doA (A j), by have := doL_len l ms (A j); have := HLN.out; simp only [gsum]; omega, by have := doM_len l ms (A j); have := HMN.out; omega⟩
                case measure => have h9 := HLT.out; simp only [intOf]; omega
          · obtain rfl : j = k := by omega
            obtain ⟨GA, KA, A5⟩ := TT.out.see
            have SW : Hid (SameBehind m qa.n qa.words qb.words) := SS.out.words fun x hx => by obtain ⟨_, _, _, _, P⟩ := A5; exact (P.ok.js x hx).pos
            have NB := Lib.hid SS.out.n
            have A5 := Lib.hid A5
            clear hln hmn
            go_wp2_with fail
            refine (Words_any A5.out).mono ?_
            rintro e w5 (⟨f, v, hf, rfl, own, g5⟩ | ⟨hf, rfl, g5⟩)
            · have T5 := Lib.hid (TT.out.bel g5)
              have OA := Lib.hid own
              have FA := Lib.hid hf
              clear own g5 hf
              obtain ⟨GB, KB, B5⟩ := T5.out.swap.see
              have B5 := Lib.hid B5
              go_wp2_with fail
              refine (Words_any B5.out).mono ?_
              rintro e w6 (⟨f', v', hf', rfl, own', g6⟩ | ⟨hf', rfl, g6⟩)
              · have T6 := Lib.hid (T5.out.bel g6)
                have OB := Lib.hid own'
                have XA := Lib.hid ((own_sl OA.out).bel g6)
                have EQ : Hid (∀ i, i < qa.n → f' (m + i) = f i) := by
                  have h := SW.out
                  rw [FA.out, hf'] at h
                  exact h
                clear own' g6 hf' T5
                obtain ⟨xp, xc, rfl⟩ := lenOf_own OA.out
                obtain ⟨yp, yc, rfl⟩ := lenOf_own OB.out
                have hnb := NB.out
                rw [hnb] at OB
                have OB := Lib.hid OB.out
                rw [hnb]
                have hcap : m + qa.n ≤ yc := own_capn OB.out
                have hlen : ((m + qa.n : Nat) : Int) = (m : Int) + (qa.n : Int) := by omega
                have hqn : qa.n ≤ 100000 := by obtain ⟨_, _, _, _, P⟩ := A5.out; exact P.ok.n
                go_wp2_with fail
                all_goals
                  refine (Same_yes _ _ qa.n (fun i => f' (m + i)) f w6 (by omega) (by first | exact sl_behind (own_sl OB.out) _ | (have hz : qa.n = 0 := (by omega); rw [hz]; exact Sl.nil _ _ _ _ _)) XA.out EQ.out).mono ?_
                  rintro e w7 ⟨rfl, g7⟩
                  have T7 := Lib.hid (T6.out.bel g7)
                  clear g7
                  go_wp2_with fail
                  obtain ⟨GB6, KB6, B6⟩ := T7.out.swap.see
                  obtain ⟨GA6, KA6, A6⟩ := T7.out.see
                  have hw9 : wrap64 ((m : Int) + (qa.n : Int)) = (m : Int) + (qa.n : Int) := by unfold wrap64; omega
                  have B6 := Lib.hid B6
                  have A6 := Lib.hid A6
                  refine (Len_at B6.out).mono ?_; rintro e x1 ⟨rfl, rfl⟩
                  have hnb9 : (qb.n : Int) = (m : Int) + (qa.n : Int) := by have := NB.out; omega
                  go_wp2_with fail
                  refine (Len_at A6.out).mono ?_; rintro e x2 ⟨rfl, rfl⟩
                  go_wp2_with fail
                  refine (head_at x2 (tab_bel HT.out T7.out.below)).mono ?_; rintro e w8 ⟨rfl, g8⟩
                  have G8 := Lib.hid (bel_trans T7.out.below g8)
                  clear g8
                  go_wp2_with fail
                  go_ret
                  exact ⟨rfl, G8.out⟩
              · exfalso
                have h := SW.out
                rw [FA.out, hf'] at h
                exact h
            · have T5 := Lib.hid (TT.out.bel g5)
              have FA := Lib.hid hf
              clear g5 hf
              obtain ⟨GB, KB, B5⟩ := T5.out.swap.see
              have B5 := Lib.hid B5
              go_wp2_with fail
              refine (Words_any B5.out).mono ?_
              rintro e w6 (⟨f', v', hf', rfl, own', g6⟩ | ⟨hf', rfl, g6⟩)
              · exfalso
                have h := SW.out
                rw [FA.out, hf'] at h
                exact h
              · have T6 := Lib.hid (T5.out.bel g6)
                clear g6 hf' T5
                go_wp2_with fail
                obtain ⟨GB6, KB6, B6⟩ := T6.out.swap.see
                obtain ⟨GA6, KA6, A6⟩ := T6.out.see
                have hnb9 : (qb.n : Int) = (m : Int) + (qa.n : Int) := by have := NB.out; omega
                have hqn9 : qa.n ≤ 100000 := by obtain ⟨_, _, _, _, P⟩ := A6; exact P.ok.n
                have hw9 : wrap64 ((m : Int) + (qa.n : Int)) = (m : Int) + (qa.n : Int) := by unfold wrap64; omega
                have B6 := Lib.hid B6
                have A6 := Lib.hid A6
                refine (Len_at B6.out).mono ?_; rintro e x1 ⟨rfl, rfl⟩
                go_wp2_with fail
                refine (Len_at A6.out).mono ?_; rintro e x2 ⟨rfl, rfl⟩
                go_wp2_with fail
                refine (head_at x2 (tab_bel HT.out T6.out.below)).mono ?_; rintro e w8 ⟨rfl, g8⟩
                have G8 := Lib.hid (bel_trans T6.out.below g8)
                clear g8
                go_wp2_with fail
                go_ret
                exact ⟨rfl, G8.out⟩
      · have BG := Lib.hid (Turns.bel G3.out T (fun i hi => Nat.le_trans (bel_trans G1.out G2.out).size (L3.out i hi)))
        clear A2 A3 B3 B4 BI T lo G2 L2 L3 G3
        go_wp2_with fail
        refine (head_at w4 (tab_bel HT.out BG.out)).mono ?_; rintro e w5 ⟨rfl, g5⟩
        have G5 := Lib.hid g5
        clear g5
        go_wp2_with fail
        go_ret
        exact ⟨rfl, bel_trans BG.out G5.out⟩
  · go_wp2_with fail
    refine (head_at w1 T1.out).mono ?_; rintro e w2 ⟨rfl, g2⟩
    have G2 := Lib.hid g2
    clear g2
    go_wp2_with fail
    go_ret
    exact ⟨rfl, bel_trans G1.out G2.out⟩
end Go.Proofs.YtoecanjhkbeemaaDoor.A7
