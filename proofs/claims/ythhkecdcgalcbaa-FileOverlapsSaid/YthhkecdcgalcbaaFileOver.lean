/- The walk of layer 3's statement FileOverlaps: it returns true; of what was there nothing has turned. -/
import Derived.Test.YthhkecdcgalcbaaFileHead
namespace Go.Proofs.Ythhkecdcgalcbaa
open Go.RowKit
set_option linter.unusedVariables false
/-- How many of the two places lie before window k; and in window k, before register i. -/
def cntF (a a2 c k : Int) : Int := (if a < k then 1 else 0) + (if a2 < k then c else 0)
def cntG (a r a2 r2 c k i : Int) : Int := (if k = a ∧ r < i then 1 else 0) + (if k = a2 ∧ r2 < i then c else 0)
/-- The other name of a register: its window, its number, and whether there is one. -/
def Other (n a r a2 r2 c : Int) : Prop :=
  (r < 16 ∧ c = 1 ∧ a2 = (if a = 0 then n - 1 else a - 1) ∧ r2 = r + 16) ∨ (16 ≤ r ∧ r < 24 ∧ c = 0 ∧ a2 = 0 ∧ r2 = 0) ∨ (24 ≤ r ∧ c = 1 ∧ a2 = (if a = n - 1 then 0 else a + 1) ∧ r2 = r - 16)
theorem loc_same {n a r a2 r2 c k i : Int} (hn : 2 ≤ n) (hn' : n ≤ 32) (ha : 0 ≤ a) (ha' : a < n) (hr : 8 ≤ r) (hr' : r < 32) (hk : 0 ≤ k) (hk' : k < n) (hi : 8 ≤ i) (hi' : i < 32) (ho : Other n a r a2 r2 c) :
    loc n k 0 i = loc n a 3 r ↔ (k = a ∧ i = r) ∨ (c = 1 ∧ k = a2 ∧ i = r2) := by
  unfold loc
  rcases ho with ⟨h1, h2, h3, h4⟩ | ⟨h1, h1', h2, h3, h4⟩ | ⟨h1, h2, h3, h4⟩
  · split at h3
    all_goals (repeat' split)
    all_goals omega
  · repeat' split
    all_goals omega
  · split at h3
    all_goals (repeat' split)
    all_goals omega
theorem word_same {n a r a2 r2 c k i w : Int} (hn : 2 ≤ n) (hn' : n ≤ 32) (ha : 0 ≤ a) (ha' : a < n) (hr : 8 ≤ r) (hr' : r < 32) (hk : 0 ≤ k) (hk' : k < n) (hi : 8 ≤ i) (hi' : i < 32) (ho : Other n a r a2 r2 c) (h : (k = a ∧ i = r) ∨ (c = 1 ∧ k = a2 ∧ i = r2)) :
    setR (fun _ => 0) n a 3 r w (loc n k 0 i) = w := by
  unfold setR
  rw [if_neg (by omega), (loc_same hn hn' ha ha' hr hr' hk hk' hi hi' ho).2 h, upd_same]
theorem word_zero {n a r a2 r2 c k i w : Int} (hn : 2 ≤ n) (hn' : n ≤ 32) (ha : 0 ≤ a) (ha' : a < n) (hr : 8 ≤ r) (hr' : r < 32) (hk : 0 ≤ k) (hk' : k < n) (hi : 8 ≤ i) (hi' : i < 32) (ho : Other n a r a2 r2 c) (h : ¬ ((k = a ∧ i = r) ∨ (c = 1 ∧ k = a2 ∧ i = r2))) :
    setR (fun _ => 0) n a 3 r w (loc n k 0 i) = 0 := by
  unfold setR
  rw [if_neg (by omega), upd_ne _ _ (fun e => h ((loc_same hn hn' ha ha' hr hr' hk hk' hi hi' ho).1 e))]
theorem bel_drewN {B : Nat} {a w : World} (h : Below B a w) (n : Nat) : Below B a (w.drewN n) := ⟨h.os, h.tape, h.output, h.size, h.block⟩
theorem other_ex (n a r : Int) : ∃ a2 r2 c, Other n a r a2 r2 c := by
  by_cases h : r < 16
  · exact ⟨_, _, _, .inl ⟨h, rfl, rfl, rfl⟩⟩
  by_cases h' : r < 24
  · exact ⟨_, _, _, .inr (.inl ⟨by omega, h', rfl, rfl, rfl⟩)⟩
  · exact ⟨_, _, _, .inr (.inr ⟨by omega, rfl, rfl, rfl⟩)⟩
theorem cntF_end {n a r a2 r2 c : Int} (hn : 2 ≤ n) (ha : 0 ≤ a) (ha' : a < n) (ho : Other n a r a2 r2 c) : cntF a a2 c n = 1 + c := by
  unfold cntF
  rw [if_pos ha']
  rcases ho with ⟨h1, h2, h3, h4⟩ | ⟨h1, h1', h2, h3, h4⟩ | ⟨h1, h2, h3, h4⟩
  · rw [if_pos (by split at h3 <;> omega)]
  · rw [if_pos (by omega)]
  · rw [if_pos (by split at h3 <;> omega)]
theorem cntG_end {n a r a2 r2 c k : Int} (hr : 8 ≤ r) (hr' : r < 32) (ho : Other n a r a2 r2 c) : cntF a a2 c k + cntG a r a2 r2 c k 32 = cntF a a2 c (k + 1) := by
  unfold cntF cntG
  have h2 : r2 < 32 ∧ (c = 0 ∨ c = 1) := by rcases ho with ⟨h1, h2, h3, h4⟩ | ⟨h1, h1', h2, h3, h4⟩ | ⟨h1, h2, h3, h4⟩ <;> omega
  repeat' split
  all_goals omega
theorem cntG_step {n a r a2 r2 c k i : Int} (hn : 2 ≤ n) (ha : 0 ≤ a) (ha' : a < n) (ho : Other n a r a2 r2 c) :
    cntG a r a2 r2 c k (i + 1) = cntG a r a2 r2 c k i + if (k = a ∧ i = r) ∨ (c = 1 ∧ k = a2 ∧ i = r2) then 1 else 0 := by
  unfold cntG
  rcases ho with ⟨h1, h2, h3, h4⟩ | ⟨h1, h1', h2, h3, h4⟩ | ⟨h1, h2, h3, h4⟩
  · split at h3
    all_goals (repeat' split)
    all_goals omega
  · repeat' split
    all_goals omega
  · split at h3
    all_goals (repeat' split)
    all_goals omega
theorem cntG_start (a r a2 r2 c k : Int) (hr : 8 ≤ r) (h2 : c = 0 ∨ 8 ≤ r2) : cntG a r a2 r2 c k 8 = 0 := by
  unfold cntG
  repeat' split
  all_goals omega
set_option maxHeartbeats 4000000 in
set_option maxRecDepth 100000 in
theorem fileOverlaps_walk (nw : Int) (p : Bool) (xw xb xr xv v : Int) (hnw : 0 ≤ nw ∧ nw < 256) (w : World) :
    Calls Try.prog 4 #[.int .u8 nw, .agg #[.bool p, .int .i64 xw, .int .i64 xb, .int .i64 xr, .int .u32 xv], .int .u32 v] w fun e w' => e = .returned (.bool true) ∧ Below w.heap.size w w' := by
  go_enter Try.func4, Try.ntmps4
  go_wp2_with fail
  go_quiet (fail)
  go_wp2_with fail
  have G1 : Below w.heap.size w ((w.alloc (.cells #[.bool p, .int .i64 xw, .int .i64 xb, .int .i64 xr, .int .u32 xv] 36)).drewN nq) := bel_drewN ((Below.refl _ _).alloc (Nat.le_refl _) _) nq
  generalize (w.alloc (.cells #[.bool p, .int .i64 xw, .int .i64 xb, .int .i64 xr, .int .u32 xv] 36)).drewN nq = w1 at G1 ⊢
  have hn : 2 ≤ 2 + nw % 31 := by omega
  have hn' : 2 + nw % 31 ≤ 32 := by omega
  generalize 2 + nw % 31 = n at hn hn' ⊢
  have hy : 0 ≤ xw % 256 ∧ xw % 256 < 256 := by omega
  have hq : 0 ≤ xr % 256 ∧ xr % 256 < 256 := by omega
  generalize xw % 256 = y at hy ⊢
  generalize xr % 256 = q at hq ⊢
  refine (new_at n _ hn hn').mono ?_; rintro e w2 ⟨rfl, g2, F0⟩
  have hb : w.heap.size ≤ w1.heap.size := G1.size
  have g2 := bel_trans G1 g2
  generalize w1.heap.size = z at F0 hb ⊢
  clear G1
  go_wp2_with fail
  have ha : 0 ≤ y % n := Int.emod_nonneg _ (by omega)
  have ha' : y % n < n := Int.emod_lt_of_pos _ (by omega)
  generalize y % n = a at ha ha' ⊢
  have hr : 8 ≤ 8 + q % 24 := by omega
  have hr' : 8 + q % 24 < 32 := by omega
  generalize 8 + q % 24 = r at hr hr' ⊢
  refine (set_at z n a 3 r v _ _ F0 hn hn' ⟨ha, ha', by decide, by decide, by omega, by omega⟩).mono ?_; rintro e w3 ⟨rfl, k3, F1⟩
  have g3 := only_bel g2 k3 hb
  clear k3 g2 F0
  obtain ⟨a2, r2, c, ho⟩ := other_ex n a r
  have HE := Lib.hid (cntF_end hn ha ha' ho)
  have hc2 : c = 0 ∨ 8 ≤ r2 := by rcases ho with ⟨h1, h2, h3, h4⟩ | ⟨h1, h1', h2, h3, h4⟩ | ⟨h1, h2, h3, h4⟩ <;> omega
  have hcb : 0 ≤ c ∧ c ≤ 1 := by rcases ho with ⟨h1, h2, h3, h4⟩ | ⟨h1, h1', h2, h3, h4⟩ | ⟨h1, h2, h3, h4⟩ <;> omega
  have HO := Lib.hid ho
  have HC := Lib.hid hc2
  clear ho hc2
  go_wp2_with fail
  go_loopw [14, 15] (fun m k wr => ∃ K M : Int, 0 ≤ K ∧ K ≤ n ∧ k = .int .i64 K ∧ m = .int .i64 M ∧ Hid (M = cntF a a2 c K) ∧ (0 ≤ M ∧ M ≤ 2) ∧ Below w3.heap.size w3 wr) (fun _ k _ => (n - intOf k).toNat)
  case atStart => exact ⟨0, 0, by omega, by omega, rfl, rfl, (by
    show _ = _
    unfold cntF
    have h2 : ¬ a2 < 0 := by rcases HO.out with ⟨h1, h2, h3, h4⟩ | ⟨h1, h1', h2, h3, h4⟩ | ⟨h1, h2, h3, h4⟩ <;> (try split at h3) <;> omega
    rw [if_neg (by omega), if_neg h2]; rfl), by omega, Below.refl _ _⟩
  case round =>
    obtain ⟨K, M, hK, hKn, rfl, rfl, HM, hMb, hg⟩ := hrel
    by_cases hlt : K < n
    · go_wp2_with fail
      go_loopw [14, 16] (fun m i wr => ∃ I N : Int, 8 ≤ I ∧ I ≤ 32 ∧ i = .int .i64 I ∧ m = .int .i64 N ∧ Hid (N = M + cntG a r a2 r2 c K I) ∧ (0 ≤ N ∧ N ≤ 2) ∧ Below w3.heap.size w3 wr) (fun _ i _ => (32 - intOf i).toNat)
      case atStart => exact ⟨8, M, by omega, by omega, rfl, rfl, (by show _ = _; rw [cntG_start a r a2 r2 c K hr HC.out]; omega), hMb, hg⟩
      case round =>
        obtain ⟨I, N, hI, hI', rfl, rfl, HN, hNb, hg⟩ := hrel
        have F := F1.bel hg
        by_cases hi : I < 32
        · by_cases hown : (K = a ∧ I = r) ∨ (c = 1 ∧ K = a2 ∧ I = r2)
          · have HV : Hid (setR (fun _ => 0) n a 3 r v (loc n K 0 I) = v) := word_same hn hn' ha ha' hr hr' hK hlt hI hi HO.out hown
            have HS : Hid (cntG a r a2 r2 c K (I + 1) = cntG a r a2 r2 c K I + 1) := by
              have := cntG_step (k := K) (i := I) hn ha ha' HO.out
              rw [if_pos hown] at this; exact this
            have hN1 : N + 1 ≤ 2 := by
              have h1 := HN.out; have h2 := HM.out; have h3 := HS.out; have h4 := HO.out
              revert h1 h2
              unfold cntF cntG
              intro h1 h2
              rcases h4 with ⟨e1, e2, e3, e4⟩ | ⟨e1, e1', e2, e3, e4⟩ | ⟨e1, e2, e3, e4⟩ <;> (try split at e3) <;> (repeat' split at h1) <;> (repeat' split at h2) <;> omega
            go_wp2_with fail
            refine (get_is z n K 0 I v _ _ F hn hn' ⟨hK, hlt, by decide, by decide, by omega, by omega⟩ HV.out).mono ?_; rintro e v1 ⟨rfl, x1⟩
            rcases hown with ⟨h1, h2⟩ | ⟨h0, h1, h2⟩
            · have t1 : (K == a) = true := by simpa using h1
              have t2 : (I == r) = true := by simpa using h2
              clear h1 h2
              go_wp2
              go_roundw
              case rel => exact ⟨I + 1, N + 1, by omega, by omega, rfl, rfl, (by show _ = _; rw [HS.out, HN.out]; omega), by omega, bel_trans hg x1⟩
              case measure => simp [intOf]; omega
            · rcases HO.out with ⟨h3, h4, h5, h6⟩ | ⟨h3, h3', h4, h5, h6⟩ | ⟨h3, h4, h5, h6⟩
              · have hB := before_mod ha ha'
                have t1 : (K == a) = false := by simp; split at h5 <;> omega
                have t2 : (K == (a + n - 1) % n) = true := by simp [hB, h1, h5]
                have t3 : (I == r + 16) = true := by simp; omega
                clear h0 h1 h2 h4 h5 h6 hB
                go_wp2
                go_roundw
                case rel => exact ⟨I + 1, N + 1, by omega, by omega, rfl, rfl, (by show _ = _; rw [HS.out, HN.out]; omega), by omega, bel_trans hg x1⟩
                case measure => simp [intOf]; omega
              · omega
              · have hA : (a + 1) % n = if a = n - 1 then 0 else a + 1 := by
                  split
                  · rw [show a + 1 = n by omega]; exact Int.emod_self
                  · exact Int.emod_eq_of_lt (by omega) (by omega)
                have t1 : (K == a) = false := by simp; split at h5 <;> omega
                have t2 : (K == (a + 1) % n) = true := by simp [hA, h1, h5]
                have t3 : (I == r - 16) = true := by simp; omega
                have t4 : ¬ r < 16 := by omega
                clear h0 h1 h2 h4 h5 h6 hA
                go_wp2
                go_roundw
                case rel => exact ⟨I + 1, N + 1, by omega, by omega, rfl, rfl, (by show _ = _; rw [HS.out, HN.out]; omega), by omega, bel_trans hg x1⟩
                case measure => simp [intOf]; omega
          · have HV : Hid (setR (fun _ => 0) n a 3 r v (loc n K 0 I) = 0) := word_zero hn hn' ha ha' hr hr' hK hlt hI hi HO.out hown
            have HS : Hid (cntG a r a2 r2 c K (I + 1) = cntG a r a2 r2 c K I) := by
              have := cntG_step (k := K) (i := I) hn ha ha' HO.out
              rw [if_neg hown] at this; show _ = _; omega
            go_wp2_with fail
            refine (get_is z n K 0 I 0 _ _ F hn hn' ⟨hK, hlt, by decide, by decide, by omega, by omega⟩ HV.out).mono ?_; rintro e v1 ⟨rfl, x1⟩
            rcases HO.out with ⟨h3, h4, h5, h6⟩ | ⟨h3, h3', h4, h5, h6⟩ | ⟨h3, h4, h5, h6⟩
            · have hB := before_mod ha ha'
              have h24 : ¬ 24 ≤ r := by omega
              by_cases hKa : K = a
              · have t1 : (K == a) = true := by simpa using hKa
                have t2 : (I == r) = false := by simp; omega
                have t3 : (K == (a + n - 1) % n) = false := by simp [hB]; split at h5 <;> split <;> omega
                clear hown h4 h5 h6 hKa hB
                go_wp2
                go_roundw
                case rel => exact ⟨I + 1, N, by omega, by omega, rfl, rfl, (by show _ = _; rw [HS.out, HN.out]), hNb, bel_trans hg x1⟩
                case measure => simp [intOf]; omega
              · have t1 : (K == a) = false := by simpa using hKa
                by_cases hK2 : K = a2
                · have t2 : (K == (a + n - 1) % n) = true := by simp [hB, hK2, h5]
                  have t3 : (I == r + 16) = false := by simp; omega
                  clear hown h4 h5 h6 hKa hK2 hB
                  go_wp2
                  go_roundw
                  case rel => exact ⟨I + 1, N, by omega, by omega, rfl, rfl, (by show _ = _; rw [HS.out, HN.out]), hNb, bel_trans hg x1⟩
                  case measure => simp [intOf]; omega
                · have t2 : (K == (a + n - 1) % n) = false := by rw [hB, ← h5]; simpa using hK2
                  clear hown h4 h5 h6 hKa hK2 hB
                  go_wp2
                  go_roundw
                  case rel => exact ⟨I + 1, N, by omega, by omega, rfl, rfl, (by show _ = _; rw [HS.out, HN.out]), hNb, bel_trans hg x1⟩
                  case measure => simp [intOf]; omega
            · have h16 : ¬ r < 16 := by omega
              have h24 : ¬ 24 ≤ r := by omega
              by_cases hKa : K = a
              · have t1 : (K == a) = true := by simpa using hKa
                have t2 : (I == r) = false := by simp; omega
                clear hown h4 h5 h6 hKa
                go_wp2
                go_roundw
                case rel => exact ⟨I + 1, N, by omega, by omega, rfl, rfl, (by show _ = _; rw [HS.out, HN.out]), hNb, bel_trans hg x1⟩
                case measure => simp [intOf]; omega
              · have t1 : (K == a) = false := by simpa using hKa
                clear hown h4 h5 h6 hKa
                go_wp2
                go_roundw
                case rel => exact ⟨I + 1, N, by omega, by omega, rfl, rfl, (by show _ = _; rw [HS.out, HN.out]), hNb, bel_trans hg x1⟩
                case measure => simp [intOf]; omega
            · have h16 : ¬ r < 16 := by omega
              have hA : (a + 1) % n = if a = n - 1 then 0 else a + 1 := by
                split
                · rw [show a + 1 = n by omega]; exact Int.emod_self
                · exact Int.emod_eq_of_lt (by omega) (by omega)
              by_cases hKa : K = a
              · have t1 : (K == a) = true := by simpa using hKa
                have t2 : (I == r) = false := by simp; omega
                have t3 : (K == (a + 1) % n) = false := by simp [hA]; split at h5 <;> split <;> omega
                clear hown h4 h5 h6 hKa hA
                go_wp2
                go_roundw
                case rel => exact ⟨I + 1, N, by omega, by omega, rfl, rfl, (by show _ = _; rw [HS.out, HN.out]), hNb, bel_trans hg x1⟩
                case measure => simp [intOf]; omega
              · have t1 : (K == a) = false := by simpa using hKa
                by_cases hK2 : K = a2
                · have t2 : (K == (a + 1) % n) = true := by simp [hA, hK2, h5]
                  have t3 : (I == r - 16) = false := by simp; omega
                  clear hown h4 h5 h6 hKa hK2 hA
                  go_wp2
                  go_roundw
                  case rel => exact ⟨I + 1, N, by omega, by omega, rfl, rfl, (by show _ = _; rw [HS.out, HN.out]), hNb, bel_trans hg x1⟩
                  case measure => simp [intOf]; omega
                · have t2 : (K == (a + 1) % n) = false := by rw [hA, ← h5]; simpa using hK2
                  clear hown h4 h5 h6 hKa hK2 hA
                  go_wp2
                  go_roundw
                  case rel => exact ⟨I + 1, N, by omega, by omega, rfl, rfl, (by show _ = _; rw [HS.out, HN.out]), hNb, bel_trans hg x1⟩
                  case measure => simp [intOf]; omega
        · obtain rfl : I = 32 := by omega
          have HG := Lib.hid (cntG_end (k := K) hr hr' HO.out)
          have hMn : N ≤ 2 := hNb.2
          go_wp2
          go_roundw
          case rel => exact ⟨K + 1, N, by omega, by omega, rfl, rfl, (by show _ = _; rw [HN.out, HM.out, HG.out]), hNb, hg⟩
          case measure => simp [intOf]; omega
    · obtain rfl : K = n := by omega
      have hM : M = 1 + c := HM.out.trans HE.out
      have F := F1.bel hg
      have h4 := HO.out
      rcases h4 with ⟨h3, h4, h5, h6⟩ | ⟨h3, h3', h4, h5, h6⟩ | ⟨h3, h4, h5, h6⟩
      · obtain rfl : M = 2 := by omega
        have h16 : ¬ 16 ≤ r := by omega
        clear h4 h5 h6 hM
        go_wp2_with fail
        refine (set_at z K a 3 0 v _ _ F hn hn' ⟨ha, ha', by decide, by decide, by decide, by decide⟩).mono ?_; rintro e v1 ⟨rfl, k1, F2⟩
        have G := only_bel (bel_trans g3 hg) k1 hb
        go_wp2_with fail
        refine (head_any _).mono ?_; rintro e v2 ⟨rfl, x2⟩
        go_wp2
        go_ret
        exact ⟨rfl, bel_trans G x2⟩
      · obtain rfl : M = 1 := by omega
        clear h4 h5 h6 hM
        go_wp2_with fail
        refine (set_at z K a 3 0 v _ _ F hn hn' ⟨ha, ha', by decide, by decide, by decide, by decide⟩).mono ?_; rintro e v1 ⟨rfl, k1, F2⟩
        have G := only_bel (bel_trans g3 hg) k1 hb
        go_wp2_with fail
        refine (head_any _).mono ?_; rintro e v2 ⟨rfl, x2⟩
        go_wp2
        go_ret
        exact ⟨rfl, bel_trans G x2⟩
      · obtain rfl : M = 2 := by omega
        have h24 : ¬ r < 24 := by omega
        clear h4 h5 h6 hM
        go_wp2_with fail
        refine (set_at z K a 3 0 v _ _ F hn hn' ⟨ha, ha', by decide, by decide, by decide, by decide⟩).mono ?_; rintro e v1 ⟨rfl, k1, F2⟩
        have G := only_bel (bel_trans g3 hg) k1 hb
        go_wp2_with fail
        refine (head_any _).mono ?_; rintro e v2 ⟨rfl, x2⟩
        go_wp2
        go_ret
        exact ⟨rfl, bel_trans G x2⟩
end Go.Proofs.Ythhkecdcgalcbaa
