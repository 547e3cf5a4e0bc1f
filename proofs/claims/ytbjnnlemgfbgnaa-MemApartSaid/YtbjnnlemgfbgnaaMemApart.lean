/- The walk of layer 5's statement MemApart, over the contracts wanted of package mem. -/
import Derived.Test.YtbjnnlemgfbgnaaMemWords
namespace Go.Proofs.Ytbjnnlemgfbgnaa
open Go.RowKit
set_option linter.unusedVariables false
/-- Two stores to places that have no byte in common. -/
theorem st_swap (f : Nat → Int) {p q : Nat} (x y : Int) (hp : p % 4 = 0) (hq : q % 4 = 0) (h : p ≠ q) : ∀ j, stB (stB f p 4 x) q 4 y j = stB (stB f q 4 y) p 4 x j := fun j => by
  unfold stB
  by_cases h1 : q ≤ j ∧ j < q + 4
  · rw [if_pos h1, if_neg (by omega), if_pos h1]
  · rw [if_neg h1]
    by_cases h2 : p ≤ j ∧ j < p + 4
    · rw [if_pos h2, if_pos h2]
    · rw [if_neg h2, if_neg h2, if_neg h1]
theorem ld_apart (f : Nat → Int) {p q : Nat} {x : Int} (y : Int) (hp : p % 4 = 0) (hq : q % 4 = 0) (h : p ≠ q) (hx : 0 ≤ x ∧ x < 4294967296) : ldB (stB (stB f p 4 x) q 4 y) p 4 = x := by
  exact (ldB_congr p 4 (fun j hj => by rw [st_swap f x y hp hq h]; unfold stB; rw [if_pos (by omega), if_pos (by omega)])).trans (ld_st4 f p hx)
theorem pt_last (f : Nat → Int) (a : Nat) (h : Nat → Int) : ∀ n i, i < n → ptB f a h n (a + 4 * i + 3) = h i % 256
  | 0, _, hi => absurd hi (by omega)
  | n + 1, i, hi => by
    unfold ptB stB
    by_cases e : i = n
    · subst e; rw [if_pos (by omega), show a + 4 * i + 4 - 1 - (a + 4 * i + 3) = 0 by omega]; simp
    · rw [if_neg (by omega)]; exact pt_last f a h n i (by omega)
theorem wd_in {f : Nat → Int} (h : Bytes f) (a i : Nat) : 0 ≤ wdB f a i ∧ wdB f a i < 4294967296 := ldB_in h (a + 4 * i) 4
theorem place_at {r n : Int} (h0 : 0 ≤ r) (hn : 8 ≤ n) (hn' : n < 800) (h4 : n % 4 = 0) : ∃ P : Nat, (r % n).tdiv 4 % 4294967296 * 4 % 4294967296 = (P : Int) ∧ P % 4 = 0 ∧ (P : Int) + 4 ≤ n := by
  have h1 : 0 ≤ r % n := Int.emod_nonneg _ (by omega)
  have h2 : r % n < n := Int.emod_lt_of_pos _ (by omega)
  rw [Int.tdiv_eq_ediv_of_nonneg h1]
  generalize r % n = s at *
  exact ⟨(s / 4 * 4).toNat, by omega, by omega, by omega⟩
set_option maxHeartbeats 4000000 in
set_option maxRecDepth 100000 in
theorem apart_walk (M : MemC) (sz a0 a1 b0 b1 : Int) (hs : 0 ≤ sz ∧ sz < 256) (ha0 : 0 ≤ a0 ∧ a0 < 4294967296) (ha1 : 0 ≤ a1 ∧ a1 < 4294967296) (hb0 : 0 ≤ b0 ∧ b0 < 4294967296) (hb1 : 0 ≤ b1 ∧ b1 < 4294967296) (w : World) :
    Calls Try.prog 7 #[.int .u8 sz, .agg #[.int .u32 a0, .int .u32 a1], .agg #[.int .u32 b0, .int .u32 b1]] w fun e w' => e = .returned (.bool true) ∧ Below w.heap.size w w' := by
  go_enter Try.func7, Try.ntmps7
  go_wp2_with fail
  obtain ⟨m, hm⟩ : ∃ m : Nat, sz % 200 = (m : Int) := ⟨(sz % 200).toNat, by omega⟩
  obtain ⟨n, hn⟩ : ∃ n : Nat, 4 * (sz % 200) = (n : Int) := ⟨(4 * (sz % 200)).toNat, by omega⟩
  rw [hn]
  have hnm : n = 4 * m := by omega
  have hm200 : m < 200 := by omega
  have hmay : MaySize n := ⟨by omega, by omega, by omega⟩
  have HNM := Lib.hid hnm
  have hn800 : (n : Int) < 800 := by omega
  clear hm hn hs hnm
  refine (M.new_yes n _ hmay).mono ?_; rintro e w1 ⟨v, g, rfl, A1, hgB, g1⟩
  have RA : w1.heap[w.heap.size]? = some (.cells #[.int .u32 a0, .int .u32 a1] 59 (0, 0)) := bel_heap g1 (row_alloc (row_born rfl))
  have RB : w1.heap[w.heap.size + 1]? = some (.cells #[.int .u32 b0, .int .u32 b1] 59 (0, 0)) := bel_heap g1 (row_born (by simp))
  have G1 : Below w.heap.size w w1 := bel_trans (bel_trans (alloc_bel _ _) (alloc_bel _ _)) g1
  have hzg : w.heap.size + 1 < g := by simp at hgB; omega
  obtain ⟨px, rfl⟩ := M.ptr A1
  clear g1 hgB
  go_wp2_with fail
  refine (M.new_yes n _ hmay).mono ?_; rintro e w2 ⟨v2, g2, rfl, A2, hgB2, k2⟩
  have hgg : g ≠ g2 := by have := M.lt A1; omega
  have hzg2 : w.heap.size + 1 < g2 := by have := M.lt A1; omega
  obtain ⟨py, rfl⟩ := M.ptr A2
  have X2 := M.bel A1 k2
  have RA2 := bel_heap k2 RA
  have RB2 := bel_heap k2 RB
  have G2 := bel_trans G1 k2
  clear A1 RA RB G1 k2 hgB2
  by_cases hn8 : (n : Int) < 8
  · go_wp2_with fail
    refine (head_any M _).mono ?_; rintro e w5 ⟨rfl, g5⟩
    go_wp2_with fail
    go_ret
    exact ⟨rfl, bel_trans G2 g5⟩
  have hmod : (n : Int) % 4294967296 = n := by omega
  have cA : w2.cell? ⟨w.heap.size, 0, none⟩ = some (.int .u32 a0) := row_cell RA2 rfl
  have cB : w2.cell? ⟨w.heap.size + 1, 0, none⟩ = some (.int .u32 b0) := row_cell RB2 rfl
  have hn0 : (n : Int) ≠ 0 := by omega
  go_wp2_with fail
  go_quiet (fail)
  have hn4 : (n : Int) % 4 = 0 := by have := HNM.out; omega
  obtain ⟨P, hP, hP4, hPn⟩ := place_at ha0.1 (by omega) hn800 hn4
  obtain ⟨Q, hQ, hQ4, hQn⟩ := place_at hb0.1 (by omega) hn800 hn4
  rw [hP, hQ]
  have A3 := M.bel A2 (bel_drewN (Below.refl _ _) nq)
  have X3 := M.bel X2 (bel_drewN (Below.refl _ _) nq)
  have RA3 := bel_heap (bel_drewN (Below.refl _ _) nq) RA2
  have RB3 := bel_heap (bel_drewN (Below.refl _ _) nq) RB2
  have G3 := bel_drewN G2 nq
  generalize w2.drewN nq = V at *
  clear hP hQ A2 X2 RA2 RB2 G2 cA cB hmod ha0 hb0
  by_cases hPQ : P = Q
  · have hPQ' : ((P : Int) == (Q : Int)) = true := by rw [hPQ]; simp
    clear hPQ
    go_wp2_with fail
    refine (head_any M _).mono ?_; rintro e w5 ⟨rfl, g5⟩
    go_wp2_with fail
    go_ret
    exact ⟨rfl, bel_trans G3 g5⟩
  have hPQ' : ((P : Int) == (Q : Int)) = false := by simp; omega
  have c1 : V.cell? ⟨w.heap.size, 1, none⟩ = some (.int .u32 a1) := row_cell RA3 rfl
  have thP : thE n P ((4 : Nat) : Int) = 0 := words_thE (by omega) (.inr ⟨rfl, hP4⟩)
  have thQ : thE n Q ((4 : Nat) : Int) = 0 := words_thE (by omega) (.inr ⟨rfl, hQ4⟩)
  have THP := Lib.hid thP
  have THQ := Lib.hid thQ
  have HPQ := Lib.hid hPQ
  clear thP thQ hPQ
  go_wp2_with fail
  refine (M.store_yes P 4 a1 X3 ha1 THP.out).mono ?_; rintro e u1 ⟨rfl, X4, k4⟩
  have A4 := M.only A3 X3 (Ne.symm hgg) k4
  have RA4 := only_heap k4 (by omega) RA3
  have RB4 := only_heap k4 (by omega) RB3
  have G4 := only_bel G3 k4 (by omega)
  have c1 : u1.cell? ⟨w.heap.size + 1, 1, none⟩ = some (.int .u32 b1) := row_cell RB4 rfl
  clear A3 X3 RA3 RB3 G3 k4
  go_wp2_with fail
  refine (M.store_yes Q 4 b1 X4 hb1 THQ.out).mono ?_; rintro e u2 ⟨rfl, X5, k5⟩
  have A5 := M.only A4 X4 (Ne.symm hgg) k5
  have RA5 := only_heap k5 (by omega) RA4
  have RB5 := only_heap k5 (by omega) RB4
  have G5 := only_bel G4 k5 (by omega)
  have c1 : u2.cell? ⟨w.heap.size + 1, 1, none⟩ = some (.int .u32 b1) := row_cell RB5 rfl
  clear A4 X4 RA4 RB4 G4 k5
  go_wp2_with fail
  refine (M.store_yes Q 4 b1 A5 hb1 THQ.out).mono ?_; rintro e u3 ⟨rfl, A6, k6⟩
  have X6 := M.only X5 A5 hgg k6
  have RA6 := only_heap k6 (by omega) RA5
  have RB6 := only_heap k6 (by omega) RB5
  have G6 := only_bel G5 k6 (by omega)
  have c1 : u3.cell? ⟨w.heap.size, 1, none⟩ = some (.int .u32 a1) := row_cell RA6 rfl
  clear A5 X5 RA5 RB5 G5 k6
  go_wp2_with fail
  refine (M.store_yes P 4 a1 A6 ha1 THP.out).mono ?_; rintro e u4 ⟨rfl, A7, k7⟩
  have X7 := M.only X6 A6 hgg k7
  have RA7 := only_heap k7 (by omega) RA6
  have RB7 := only_heap k7 (by omega) RB6
  have G7 := only_bel G6 k7 (by omega)
  clear A6 X6 RA6 RB6 G6 k7
  have A7 := M.congr A7 (fun i => (st_swap (fun _ => 0) a1 b1 hP4 hQ4 HPQ.out i).symm)
  have lp : ldB (stB (stB (fun _ => 0) P 4 a1) Q 4 b1) P 4 = a1 := ld_apart _ b1 hP4 hQ4 HPQ.out ha1
  have lq : ldB (stB (stB (fun _ => 0) P 4 a1) Q 4 b1) Q 4 = b1 := ld_st4 _ Q hb1
  have LP := Lib.hid lp
  have LQ := Lib.hid lq
  have BF := Lib.hid (M.bytes A7)
  clear lp lq
  generalize stB (stB (fun _ => 0) P 4 a1) Q 4 b1 = F at *
  go_wp2_with fail
  have hq : (n : Int) / 4 = m := by have := HNM.out; omega
  have HQ4 := Lib.hid hq
  rw [hq]
  clear hq
  have hsp : spE n ((0 : Nat) : Int) m = 0 := words_spE (by have := HNM.out; omega) (by decide)
  have HSP := Lib.hid hsp
  clear hsp
  refine (M.words_yes 0 m X7 HSP.out).mono ?_; rintro e u5 ⟨s, rfl, hs, k8⟩
  have X8 := M.bel X7 k8
  have A8 := M.bel A7 k8
  have G8 := bel_trans G7 k8
  have S8 := Lib.hid hs
  have RA8 := bel_heap k8 RA7
  have RB8 := bel_heap k8 RB7
  clear X7 A7 RA7 RB7 G7 k8 hs c1
  go_wp2_with fail
  rw [HQ4.out]
  refine (M.words_yes 0 m A8 HSP.out).mono ?_; rintro e u6 ⟨t, rfl, ht, k9⟩
  have X9 := M.bel X8 k9
  have G9 := bel_trans G8 k9
  have S9 := Lib.hid (S8.out.bel k9)
  have T9 := Lib.hid ht
  have RA9 := bel_heap k9 RA8
  have RB9 := bel_heap k9 RB8
  clear X8 A8 G8 S8 k9 ht RA8 RB8
  go_wp2_with fail
  refine (load_is M X9 P 4 a1 0 (by omega) (by decide) (by unfold ldV; rw [if_pos (show thE n P 4 = 0 from THP.out)]; exact LP.out) THP.out).mono ?_; rintro e u7 ⟨rfl, ka⟩
  have Xa := M.bel X9 ka
  have Ga := bel_trans G9 ka
  have Sa := Lib.hid (S9.out.bel ka)
  have Ta := Lib.hid (T9.out.bel ka)
  have RAa := bel_heap ka RA9
  have RBa := bel_heap ka RB9
  clear X9 G9 S9 T9 ka RA9 RB9
  go_wp2_with fail
  refine (load_is M Xa Q 4 b1 0 (by omega) (by decide) (by unfold ldV; rw [if_pos (show thE n Q 4 = 0 from THQ.out)]; exact LQ.out) THQ.out).mono ?_; rintro e u8 ⟨rfl, kb⟩
  have Gb := bel_trans Ga kb
  obtain ⟨p1, d1, rfl, hc1⟩ := Sa.out.bel kb
  obtain ⟨p2, d2, rfl, hc2⟩ := Ta.out.bel kb
  have Sb : Hid (Sl .u32 u8 (.slice p1 m d1) m (wdB F 0)) := ⟨_, _, rfl, hc1⟩
  have Tb : Hid (Sl .u32 u8 (.slice p2 m d2) m (wdB F 0)) := ⟨_, _, rfl, hc2⟩
  have c1 : u8.cell? ⟨w.heap.size, 1, none⟩ = some (.int .u32 a1) := row_cell (bel_heap kb RAa) rfl
  have c2 : u8.cell? ⟨w.heap.size + 1, 1, none⟩ = some (.int .u32 b1) := row_cell (bel_heap kb RBa) rfl
  clear Xa Ga Sa Ta kb hc1 hc2 RAa RBa
  go_wp2_with fail
  refine (M.new_yes n _ hmay).mono ?_; rintro e u9 ⟨v3, g3, rfl, Z1, hg3, kc⟩
  obtain ⟨pz, rfl⟩ := M.ptr Z1
  have Gc := bel_trans Gb kc
  have WI : Hid (∀ i, 0 ≤ wdB F 0 i ∧ wdB F 0 i < 4294967296) := fun i => wd_in BF.out 0 i
  have S1 := Sb.out.bel kc
  have hwg3 : w.heap.size ≤ g3 := Nat.le_trans Gb.size hg3
  clear Gb
  go_wp2_with fail
  refine (M.put_yes 0 Z1 S1 WI.out HSP.out).mono ?_; rintro e ua ⟨rfl, Z2, kd⟩
  have Ge := only_bel Gc kd hwg3
  have Sc := Lib.hid (Sb.out.bel (only_bel kc kd hg3))
  have Tc := Lib.hid (Tb.out.bel (only_bel kc kd hg3))
  clear Z1 S1 Gc kc kd hg3 hwg3 Sb Tb c1 c2
  have HLd : Hid (∀ i, i < m → ldB (ptB (fun _ => 0) 0 (wdB F 0) m) (0 + 4 * i) 4 = wdB F 0 i) := fun i hi => ld_pt _ 0 _ WI.out m i hi
  have HLt : Hid (∀ i, i < m → ptB (fun _ => 0) 0 (wdB F 0) m (0 + 4 * i + 3) = wdB F 0 i % 256) := fun i hi => pt_last _ 0 _ m i hi
  generalize ptB (fun _ => 0) 0 (wdB F 0) m = E at *
  go_wp2_with fail
  go_loopw [24] (fun i wr => ∃ j : Nat, j ≤ m ∧ i = .int .i64 j ∧ Below ua.heap.size ua wr) (fun i _ => m - (intOf i).toNat)
  case atStart => exact ⟨0, by omega, rfl, Below.refl _ _⟩
  case round =>
    obtain ⟨j, hj, rfl, hX⟩ := hrel
    by_cases hlt : j < m
    · have hj200 : (j : Int) < 200 := by omega
      have t1 : thE n (4 * (j : Int)) 4 = 0 := by unfold thE; have := HNM.out; rw [if_neg (by omega), if_neg (by omega), if_neg (by omega)]
      have t2 : thE n (4 * (j : Int) + 3) 1 = 0 := by unfold thE; have := HNM.out; rw [if_neg (by omega), if_neg (by omega), if_neg (by omega)]
      have e1 : ldV n E (4 * (j : Int)) 4 = wdB F 0 j := by
        unfold ldV; rw [if_pos t1, ← HLd.out j hlt]
        rw [show (4 * (j : Int)).toNat = 0 + 4 * j by omega]; rfl
      have e2 : ldV n E (4 * (j : Int) + 3) 1 = wdB F 0 j % 256 := by
        unfold ldV; rw [if_pos t2, ← HLt.out j hlt, show (4 * (j : Int) + 3).toNat = 0 + 4 * j + 3 by omega]
        show 256 * 0 + E (0 + 4 * j + 3 + 0) = _
        simp
      have HL1 := Lib.hid (load_is M (M.bel Z2 hX) (4 * (j : Int)) 4 _ 0 (by omega) (by decide) e1 t1)
      have HL2 := Lib.hid (fun W (hW : Below ua.heap.size ua W) => load_is M (M.bel Z2 hW) (4 * (j : Int) + 3) 1 _ 0 (by omega) (by decide) e2 t2)
      obtain ⟨q1, f1, hq1, hcs1⟩ := Sc.out
      obtain ⟨rfl, rfl⟩ : p1 = q1 ∧ d1 = f1 := by simp only [Value.slice.injEq, true_and] at hq1; exact hq1
      obtain ⟨b, o, rfl, hc1⟩ := hcs1 (by omega)
      obtain ⟨q2, f2, hq2, hcs2⟩ := Tc.out
      obtain ⟨rfl, rfl⟩ : p2 = q2 ∧ d2 = f2 := by simp only [Value.slice.injEq, true_and] at hq2; exact hq2
      obtain ⟨b', o', rfl, hc2⟩ := hcs2 (by omega)
      have HC1 : Hid (∀ W, Below ua.heap.size ua W → W.cell? ⟨b, o + j, none⟩ = some (.int .u32 (wdB F 0 j))) := fun W hW => bel_cell hW (hc1 j hlt)
      have HC2 : Hid (∀ W, Below ua.heap.size ua W → W.cell? ⟨b', o' + j, none⟩ = some (.int .u32 (wdB F 0 j))) := fun W hW => bel_cell hW (hc2 j hlt)
      obtain ⟨x0, x1⟩ := WI.out j
      clear t1 t2 e1 e2 hq1 hcs1 hc1 hq2 hcs2 hc2
      generalize wdB F 0 j = x at *
      go_wp2_with fail
      refine (HL1.out).mono ?_; rintro e ub ⟨rfl, ke⟩
      have hY := bel_trans hX ke
      clear HL1 ke hX
      go_wp2_with fail
      refine (HL2.out _ hY).mono ?_; rintro e uc ⟨rfl, kf⟩
      have hZ := bel_trans hY kf
      have ce1 := HC1.out _ hZ
      have ce2 := HC2.out _ hZ
      clear HL2 kf hY HC1 HC2
      go_wp2_with fail
      go_quiet (fail)
      go_wp2_with fail
      go_roundw
      case rel => exact ⟨j + 1, by omega, by go_num, bel_drewN hZ _⟩
      case measure => simp [intOf]; omega
    · obtain rfl : j = m := by omega
      have Gf := bel_trans Ge hX
      go_wp2_with fail
      refine (head_any M _).mono ?_; rintro e ud ⟨rfl, kg⟩
      go_wp2_with fail
      go_ret
      exact ⟨rfl, bel_trans Gf kg⟩
end Go.Proofs.Ytbjnnlemgfbgnaa
