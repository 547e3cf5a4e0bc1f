/- WindTurns (layer 8): what the document looks at, out of a machine. -/
import Derived.Test.YtlmaikbnjdmhcaaGreatDoorWindGK
import Derived.Test.YtlmaikbnjdmhcaaGreatDoorTuH
namespace Go.Proofs.YtlmaikbnjdmhcaaGreatDoor.K6
open Go.RowKit W8
open F3 (LAt LAtB place atL Ent)
set_option linter.unusedVariables false
/-- Registers as far as they have been looked at: windows, globals. -/
def wG (R : Nat → Int) (n : Nat) (b r : Nat) : Nat → Int := fun j => if j < 16 * n then R j else if 512 ≤ j ∧ j < 512 + 8 * b + r ∧ (j - 512) % 8 ≠ 0 then R j else 0
theorem wG_zero (R : Nat → Int) : wG R 0 0 0 = fun _ => 0 := by
  funext j
  unfold wG
  rw [if_neg (by omega), if_neg (by omega)]
theorem wG_put (R : Nat → Int) (k : Nat) (hk : k < 32) : F3.putF (wG R k 0 0) (k * 16) (fun i => R (16 * k + i)) = wG R (k + 1) 0 0 := by
  funext j
  unfold F3.putF wG
  by_cases h : k * 16 ≤ j ∧ j < k * 16 + 16
  · rw [if_pos h, if_pos (by omega)]
    show R (16 * k + (j - k * 16)) = R j
    congr 1
    omega
  · rw [if_neg h]
    by_cases h2 : j < 16 * k
    · rw [if_pos h2, if_pos (by omega)]
    · rw [if_neg h2, if_neg (by omega : ¬ j < 16 * (k + 1))]
theorem wG_bank (R : Nat → Int) (n b : Nat) : wG R n b 8 = wG R n (b + 1) 0 := by
  funext j
  unfold wG
  by_cases h : j < 16 * n
  · rw [if_pos h, if_pos h]
  · rw [if_neg h, if_neg h]
    by_cases h2 : 512 ≤ j ∧ j < 512 + 8 * b + 8 ∧ (j - 512) % 8 ≠ 0
    · rw [if_pos h2, if_pos (by omega)]
    · rw [if_neg h2, if_neg (by omega)]
theorem wG_one (R : Nat → Int) (n b : Nat) : wG R n b 0 = wG R n b 1 := by
  funext j
  unfold wG
  by_cases h : j < 16 * n
  · rw [if_pos h, if_pos h]
  · rw [if_neg h, if_neg h]
    by_cases h2 : 512 ≤ j ∧ j < 512 + 8 * b + 0 ∧ (j - 512) % 8 ≠ 0
    · rw [if_pos h2, if_pos (by omega)]
    · rw [if_neg h2, if_neg (by omega)]
theorem wG_set (R : Nat → Int) (n b r : Nat) (hn : n ≤ 32) (hr : 1 ≤ r) (hr8 : r < 8) : F3.setR (wG R n b r) n 0 b r (R (512 + 8 * b + r)) = wG R n b (r + 1) := by
  funext j
  unfold F3.setR
  rw [if_neg (by omega), F3.loc_global (by omega), show (512 + 8 * (b : Int) + (r : Int)).toNat = 512 + 8 * b + r by omega]
  unfold F3.upd wG
  by_cases e : j = 512 + 8 * b + r
  · rw [if_pos e, if_neg (by omega : ¬ j < 16 * n), if_pos (by omega), e]
  · rw [if_neg e]
    by_cases h : j < 16 * n
    · rw [if_pos h, if_pos h]
    · rw [if_neg h, if_neg h]
      by_cases h2 : 512 ≤ j ∧ j < 512 + 8 * b + r ∧ (j - 512) % 8 ≠ 0
      · rw [if_pos h2, if_pos (by omega)]
      · rw [if_neg h2, if_neg (by omega)]
/-- What world has in hand. -/
structure WW (w V : World) (x z : Nat) (q : DV) (l : List Ent) (sn : Nat) : Prop where
  X : RowD V x q
  Z : RowD V z dzero
  L : LAtB (x + 1) V q.vl l
  M : Sl .u8 V q.vm sn (fun _ => 0)
  g : Below w.heap.size w V
  zx : z < x
  lz : w.heap.size ≤ z
theorem WW.bel {w V V' : World} {x z : Nat} {q : DV} {l : List Ent} {sn : Nat} (h : WW w V x z q l sn) (k : Below V.heap.size V V') : WW w V' x z q l sn :=
  ⟨h.X.bel k, h.Z.bel k, by
    obtain ⟨h0, h1 | ⟨g, cap, cur, e, hB, hg, hr⟩⟩ := h.L
    · exact ⟨h0, .inl h1⟩
    · exact ⟨h0, .inr ⟨g, cap, cur, e, hB, bel_heap k hg, hr⟩⟩, h.M.bel k, bel_trans h.g k, h.zx, h.lz⟩
theorem WW.store {w V V' : World} {x z : Nat} {q q' : DV} {l l' : List Ent} {sn : Nat} (h : WW w V x z q l sn) (hn : 6 ≤ sn) (r : RowD V' x q') (k : V.grownBy V' (some x)) (hL : LAtB (x + 1) V q'.vl l') (hm : q'.vm = q.vm) : WW w V' x z q' l' sn :=
  ⟨r, h.Z.only k (Nat.ne_of_lt h.zx), lat_keep hL (Nat.lt_succ_self _) k, by rw [hm]; exact sl_far h.M h.X hn k, only_bel h.g k (Nat.le_of_lt (Nat.lt_of_le_of_lt h.lz h.zx)), h.zx, h.lz⟩
theorem WW.start {w V : World} (Z : RowD V w.heap.size dzero) (g : Below w.heap.size w V) (lt : w.heap.size < V.heap.size) (ZZ : Array Value) (sn : Nat) (hz : ∀ i, i < sn → ZZ[i]? = some (.int .u8 0)) (c : Int) :
    WW w ((V.alloc (.cells ZZ 5)).alloc (.cells (drow ⟨0, .slice none 0 0, .slice (some ⟨V.heap.size, 0, none⟩) sn sn, c, 0⟩) 73)) (V.heap.size + 1) w.heap.size ⟨0, .slice none 0 0, .slice (some ⟨V.heap.size, 0, none⟩) sn sn, c, 0⟩ [] sn := by
  have s1 : ∀ (V : World) (o : Obj), (V.alloc o).heap.size = V.heap.size + 1 := fun V o => by simp
  have gg : ∀ (V : World) (o : Obj), Below V.heap.size V (V.alloc o) := fun V o => (Below.refl _ _).alloc (Nat.le_refl _) _
  have l : ∀ (V : World) (o : Obj) (n : Nat), V.heap.size = n → (V.alloc o).heap[n]? = some o := fun V o n e => by subst e; exact heap_alloc_last _ _
  have k := bel_trans (gg V (.cells ZZ 5)) (gg _ (.cells (drow ⟨0, .slice none 0 0, .slice (some ⟨V.heap.size, 0, none⟩) sn sn, c, 0⟩) 73))
  exact ⟨l _ _ _ (s1 _ _), Z.bel k, World.ownsRow_nil _ _ _ _, ⟨_, _, rfl, fun _ => ⟨V.heap.size, 0, rfl, fun i hi => by
    rw [Nat.zero_add]
    exact row_cell (bel_heap (gg _ _) (l _ _ _ rfl)) (hz i hi)⟩⟩, bel_trans g k, by omega, Nat.le_refl _⟩
section
variable {w : World} {b fb mb g x : Nat} {cs os : Value} {G : Nat → Prop} {m : MS}
theorem mem_bel8 (h : MachP w b fb mb g x cs os G m) : Calls Tryz.prog 20 #[.pointer (some ⟨b, 0, none⟩)] w fun e w' => e = .returned (.pointer (some ⟨mb, 0, none⟩)) ∧ w' = w :=
  (Mem_get h).mono fun e w' ⟨h1, h2⟩ => ⟨h1, h2.symm⟩
theorem get_g (h : MachP w b fb mb g x cs os G m) (c r : Nat) (hc : c < 17) (hr : r < 8) :
    Calls Tryz.prog 18 #[.pointer (some ⟨fb, 0, none⟩), .int .i64 0, .int .i64 c, .int .i64 r] w fun e w' => e = .returned (.tuple #[.int .u32 (m.R (512 + 8 * c + r)), .int .i64 0]) ∧ Below w.heap.size w w' := by
  have h2 := h.ok.n2
  have := F3.get_at fb m.nw 0 c r m.R w h.file h.ok.n2 h.ok.n32 ⟨by decide, by omega, by omega, by omega, by omega, by omega⟩
  rw [F3.loc_global (by omega), show (512 + 8 * (c : Int) + (r : Int)).toNat = 512 + 8 * c + r by omega] at this
  exact this
set_option maxRecDepth 100000 in
set_option maxHeartbeats 8000000 in
theorem world_at (h : MachP w b fb mb g x cs os G m) (n : Nat) (hn : m.nw = n) (sn : Nat) (hs : m.sz = sn) (h4 : sn = 4096) (t : Nat) (ht : t < n) (hw : m.wim = P4.pw t) (cw : Int) (hcw : m.cwp = cw) :
    Calls Tryz.prog 30 #[.pointer (some ⟨b, 0, none⟩), .int .i64 n] w fun e w' => ∃ (p' : Option Addr) (m' k' : Nat) (pm : Option Addr) (mk : Nat) (l : List Ent), e = .returned (.agg (drow ⟨n, .slice p' m' k', .slice pm sn mk, cw, t⟩)) ∧ LAtB w.heap.size w' (.slice p' m' k') l ∧ l.length ≤ 640 ∧ F3.Step (wG m.R n 16 0) l ∧ MB w.heap.size w' (.slice pm sn mk) sn (ptB (fun _ => 0) 0 (M5.wdB m.f 0) 1024) ∧ Below w.heap.size w w' := by
  subst hcw
  have n2 : 2 ≤ n := by have := h.ok.n2; omega
  have n32 : n ≤ 32 := by have := h.ok.n32; omega
  have P := Lib.hid h
  have HN := Lib.hid hn
  have HSZ := Lib.hid hs
  have H4 := Lib.hid h4
  have HT := Lib.hid ht
  have HW := Lib.hid hw
  have hmk : ∀ W, _ := fun W => run_make_row' (P := Tryz.prog) 29 5 (.int .u8 0) 1 Tryz.underlying29 M5.byte_parts rfl .i64 .i64 sn (by omega) (by omega) W
  have HZ : Hid (∀ i, i < sn → (madeCells #[.int .u8 0] sn)[i]? = some (.int .u8 0)) := fun i hi => by rw [M5.made_bytes]; exact M5.brow_get _ hi
  generalize madeCells #[Value.int .u8 0] sn = ZZ at hmk HZ
  clear h hn hs h4 ht hw
  go_enter Tryz.func30, Tryz.ntmps30
  go_wp2_with (refine d_alloc rfl (some 4) rfl (by kernel_rfl) ?_; intro V1 r1 b1 s1)
  have Z1 := Lib.hid r1.out
  have P1 := Lib.hid (P.out.bel b1)
  have hk3 := wpsr_cwp
  refine (Psr_get P1.out).mono ?_; rintro e w2 ⟨rfl, g2⟩
  have P2 := Lib.hid (P1.out.bel g2)
  have Z2 := Lib.hid (Z1.out.bel g2)
  have G2 := Lib.hid (bel_trans b1 g2)
  have cw0 := P.out.ok.c0
  have cw1 := P.out.ok.c1
  have cw2 : m.cwp < 32 := by have := P.out.ok.n32; omega
  have wcw : IntKind.i64.wrap m.cwp = m.cwp := IntWalk.i64_in _ (by omega)
  have S1 := Lib.hid s1.out
  clear r1 b1 s1 Z1 P1
  go_wp2_with fail
  refine (mem_bel8 P2.out).mono ?_; rintro e w3 ⟨rfl, rfl⟩
  go_wp2_with fail
  have C := M5.size_at P2.out.mem
  rw [HSZ.out] at C
  refine C.mono ?_; rintro e w4 ⟨rfl, g4⟩
  have PM := Lib.hid (P2.out.bel g4)
  have Z4 := Lib.hid (Z2.out.bel g4)
  have G4 := Lib.hid (bel_trans G2.out g4)
  clear C g4 P2 Z2 G2
  go_upto_region 2 with (fail)
  have W0 := Lib.hid (WW.start Z4.out G4.out Z4.out.lt ZZ sn HZ.out m.cwp)
  change Code.wp _ _ _ _ ((w4.alloc (.cells ZZ 5)).alloc (.cells (drow ⟨0, .slice none 0 0, .slice (some ⟨w4.heap.size, 0, none⟩) sn sn, m.cwp, 0⟩) 73))
  generalize ((w4.alloc (.cells ZZ 5)).alloc (.cells (drow ⟨0, .slice none 0 0, .slice (some ⟨w4.heap.size, 0, none⟩) sn sn, m.cwp, 0⟩) 73)) = V at W0 ⊢
  generalize w4.heap.size + 1 = y at W0 ⊢
  obtain ⟨vz, hvz⟩ : ∃ vz, vz = w4.heap.size := ⟨_, rfl⟩
  rw [← hvz] at W0 ⊢
  clear hvz hmk HZ Z4 PM G4 S1
  generalize w.heap.size = z at W0 ⊢
  have h6 : 6 ≤ sn := by have := H4.out; omega
  obtain ⟨x0, x1, x2, x3, x4⟩ := W0.out.X.all
  go_wp2_with fail
  refine (F3.refNew_at n V (by omega) (by omega)).mono ?_; rintro e w5 ⟨rfl, g5⟩
  have W5 := Lib.hid (W0.out.bel g5)
  clear g5 W0 x0 x1 x2 x3 x4
  go_upto_region 3 with (refine d_store rfl 35 (.tmp 29) (.tmp 27) rfl ⟨0, .slice none 0 0, .slice (some ⟨vz, 0, none⟩) sn sn, m.cwp, 0⟩ ⟨n, .slice none 0 0, .slice (some ⟨vz, 0, none⟩) sn sn, m.cwp, 0⟩ y 0 rfl [.int .i64 n, .slice none 0 0] rfl W5.out.X (by kernel_rfl) (by intro v hv; simp at hv; rcases hv with rfl | rfl <;> rfl) (Nat.le_of_ble_eq_true rfl) rfl ?_; intro V6 r6 g6)
  have W6 : Hid (WW w V6 y z ⟨n, .slice none 0 0, .slice (some ⟨vz, 0, none⟩) sn sn, m.cwp, 0⟩ [] sn) := W5.out.store h6 r6.out g6.out (World.ownsRow_nil _ _ _ _) rfl
  clear r6 g6 W5
  go_wp2_with fail
  go_loopw [6] (fun i wr => ∃ (k : Nat) (inv : Int) (p1 : Option Addr) (m1 k1 : Nat) (l : List Ent), k ≤ n ∧ i = .int .i64 k ∧ WW w wr y z ⟨n, .slice p1 m1 k1, .slice (some ⟨vz, 0, none⟩) sn sn, m.cwp, inv⟩ l sn ∧ l.length = 16 * k ∧ F3.Step (wG m.R k 0 0) l ∧ (t < k → inv = t)) (fun i _ => n - (intOf i).toNat)
  case atStart => exact ⟨0, 0, none, 0, 0, [], Nat.zero_le _, rfl, W6.out, rfl, by rw [wG_zero]; exact F3.step_new, fun h => absurd h (Nat.not_lt_zero _)⟩
  case round =>
    obtain ⟨k, inv, p1, m1, k1, l, hk, rfl, W, hlen, hstep, hinv⟩ := hrel
    have W := Lib.hid W
    have HLEN := Lib.hid hlen
    have HSTEP := Lib.hid hstep
    have HINV := Lib.hid hinv
    clear W6 hlen hstep hinv
    by_cases hlt : k < n
    · as_aux_lemma =>
        have PW := Lib.hid (P.out.bel W.out.g)
        have HK := Lib.hid hlt
        go_wp2_with fail
        refine (File_get PW.out).mono ?_; rintro e w7 ⟨rfl, rfl⟩
        go_wp2_with fail
        refine (window_c PW.out k (by omega) (by rw [HN.out]; omega) (Below.refl _ _)).mono ?_; rintro e w8 ⟨sb, rfl, hrow, hng, g8⟩
        have W8' := Lib.hid (W.out.bel g8)
        have HROW := Lib.hid hrow
        have PW := Lib.hid (PW.out.bel g8)
        clear g8 hrow hng W
        obtain ⟨x0, x1, x2, x3, x4⟩ := W8'.out.X.all
        have C := F3.refPut_at n k p1 m1 k1 sb 16 l (fun i => m.R (16 * k + i)) w8 (by omega) (by omega) (by omega) (by omega) (by have := HLEN.out; omega) W8'.out.L.at (fun i hi => by
          have := row_cell HROW.out (j := i) (v := .int .u32 (m.R ((16 * (k : Int)).toNat + i))) (by simp [F3.wl, hi])
          rw [show (16 * (k : Int)).toNat = 16 * k by omega] at this
          exact this)
        have C := Lib.hid C
        go_wp2_with fail
        refine C.out.mono ?_; rintro e w9 ⟨s', rfl, hL', g9⟩
        obtain ⟨p2, m2, k2, rfl⟩ := F3.LAtB.slice hL'
        have W9 := Lib.hid (W8'.out.bel g9)
        have L9 : Hid (LAtB (y + 1) w9 (.slice p2 m2 k2) (l ++ F3.entF ((k : Int).toNat * 16) (fun i => m.R (16 * k + i)) 16)) := F3.LAtB.less hL' (Nat.succ_le_of_lt W8'.out.X.lt)
        have PW := Lib.hid (PW.out.bel g9)
        clear C g9 hL' HROW W8' x0 x1 x2 x3 x4
        go_upto_region 8 with (refine d_store rfl 35 (.tmp 50) (.tmp 48) rfl ⟨n, .slice p1 m1 k1, .slice (some ⟨vz, 0, none⟩) sn sn, m.cwp, inv⟩ ⟨n, .slice p2 m2 k2, .slice (some ⟨vz, 0, none⟩) sn sn, m.cwp, inv⟩ y 0 rfl [.int .i64 n, .slice p2 m2 k2] rfl W9.out.X (by kernel_rfl) (by intro v hv; simp at hv; rcases hv with rfl | rfl <;> rfl) (Nat.le_of_ble_eq_true rfl) rfl ?_; intro V10 r10 g10)
        have W10 : Hid (WW w V10 y z ⟨n, .slice p2 m2 k2, .slice (some ⟨vz, 0, none⟩) sn sn, m.cwp, inv⟩ (l ++ F3.entF ((k : Int).toNat * 16) (fun i => m.R (16 * k + i)) 16) sn) := W9.out.store h6 r10.out g10.out L9.out rfl
        have PW := Lib.hid (P.out.bel W10.out.g)
        have LEN : Hid ((l ++ F3.entF ((k : Int).toNat * 16) (fun i => m.R (16 * k + i)) 16).length = 16 * (k + 1)) := by
          have := HLEN.out
          unfold Hid
          rw [List.length_append, F3.entF_len]; omega
        have ST : Hid (F3.Step (wG m.R (k + 1) 0 0) (l ++ F3.entF ((k : Int).toNat * 16) (fun i => m.R (16 * k + i)) 16)) := by
          have := F3.step_putF HSTEP.out (x := (k : Int)) (by omega) (by omega) (fun i => m.R (16 * k + i))
          rw [show (k : Int).toNat = k by omega, wG_put _ _ (by omega)] at this
          exact this
        clear r10 g10 W9 L9 HLEN HSTEP
        go_wp2_with fail
        have C := Wim_get PW.out
        rw [HW.out] at C
        refine C.mono ?_; rintro e w11 ⟨rfl, rfl⟩
        clear C
        have HP := P4.pw_mod (x := k) (by omega)
        by_cases hkt : k = t
        · have hdec : Hid ((P4.pw t == (2 : Int) ^ k % 4294967296) = true) := by unfold Hid; rw [HP, hkt]; simp
          have hd := hdec.out
          have HKT := Lib.hid hkt
          clear hkt HP
          go_wp2_with (refine d_store rfl 3 (.tmp 58) (.tmp 57) rfl ⟨n, .slice p2 m2 k2, .slice (some ⟨vz, 0, none⟩) sn sn, m.cwp, inv⟩ ⟨n, .slice p2 m2 k2, .slice (some ⟨vz, 0, none⟩) sn sn, m.cwp, k⟩ y 4 rfl [.int .i64 k] rfl W10.out.X (by kernel_rfl) (one_one rfl) (Nat.le_of_ble_eq_true rfl) rfl ?_; intro V11 r11 g11)
          have W11 : Hid (WW w V11 y z ⟨n, .slice p2 m2 k2, .slice (some ⟨vz, 0, none⟩) sn sn, m.cwp, k⟩ (l ++ F3.entF ((k : Int).toNat * 16) (fun i => m.R (16 * k + i)) 16) sn) := W10.out.store h6 r11.out g11.out W10.out.L rfl
          clear r11 g11 W10
          go_roundw
          case rel => exact ⟨k + 1, k, p2, m2, k2, _, HK.out, by go_num, W11.out, LEN.out, ST.out, fun _ => by rw [HKT.out]⟩
          case measure => simp only [intOf]; have := HK.out; omega
        · have hdec : Hid ((P4.pw t == (2 : Int) ^ k % 4294967296) = false) := by
            unfold Hid
            rw [HP]
            have hne : P4.pw t ≠ P4.pw k := fun e => by
              have h1 := wx_pw (x := t) (n := (n : Int)) (by have := HT.out; omega)
              rw [e, wx_pw (by omega)] at h1
              injection h1 with h1
              exact hkt h1
            simpa using hne
          have hd := hdec.out
          have HKT := Lib.hid hkt
          clear hkt HP
          go_wp2_with fail
          go_roundw
          case rel => exact ⟨k + 1, inv, p2, m2, k2, _, HK.out, by go_num, W10.out, LEN.out, ST.out, fun h => HINV.out (by have := HKT.out; omega)⟩
          case measure => simp only [intOf]; have := HK.out; omega
    · obtain rfl : k = n := by omega
      obtain rfl : inv = t := HINV.out HT.out
      as_aux_lemma =>
        clear HINV hlt hk
        go_wp2_with fail
        go_loopw [9] (fun i wr => ∃ (c : Nat) (p1 : Option Addr) (m1 k1 : Nat) (l : List Ent), c ≤ 16 ∧ i = .int .i64 c ∧ WW w wr y z ⟨k, .slice p1 m1 k1, .slice (some ⟨vz, 0, none⟩) sn sn, m.cwp, t⟩ l sn ∧ l.length = 16 * k + 7 * c ∧ F3.Step (wG m.R k c 0) l) (fun i _ => 16 - (intOf i).toNat)
        case atStart => exact ⟨0, p1, m1, k1, l, by decide, rfl, W.out, HLEN.out, HSTEP.out⟩
        case round =>
          clear HLEN HSTEP W
          obtain ⟨c, p1, m1, k1, l, hc, rfl, W, hlen, hstep⟩ := hrel
          have W := Lib.hid W
          have HLEN := Lib.hid hlen
          have HSTEP := Lib.hid hstep
          clear hlen hstep
          by_cases hlt : c < 16
          · have HC := Lib.hid hlt
            have hc16 : (c : Int) < 16 := by omega
            go_wp2_with fail
            go_loopw [10] (fun i wr => ∃ (r : Nat) (p1 : Option Addr) (m1 k1 : Nat) (l : List Ent), 1 ≤ r ∧ r ≤ 8 ∧ i = .int .i64 r ∧ WW w wr y z ⟨k, .slice p1 m1 k1, .slice (some ⟨vz, 0, none⟩) sn sn, m.cwp, t⟩ l sn ∧ l.length + 1 = 16 * k + 7 * c + r ∧ F3.Step (wG m.R k c r) l) (fun i _ => 8 - (intOf i).toNat)
            case atStart => exact ⟨1, p1, m1, k1, l, by decide, by decide, rfl, W.out, by have := HLEN.out; omega, by rw [← wG_one]; exact HSTEP.out⟩
            case round =>
              clear HLEN HSTEP W
              obtain ⟨r, p1, m1, k1, l, hr1, hr8, rfl, W, hlen, hstep⟩ := hrel
              have W := Lib.hid W
              have HLEN := Lib.hid hlen
              have HSTEP := Lib.hid hstep
              clear hlen hstep
              by_cases hlr : r < 8
              · have PW := Lib.hid (P.out.bel W.out.g)
                have HR := Lib.hid (And.intro hr1 hlr)
                have hr8' : (r : Int) < 8 := by omega
                go_wp2_with fail
                refine (File_get PW.out).mono ?_; rintro e w7 ⟨rfl, rfl⟩
                go_wp2_with fail
                refine (get_g PW.out c r (by omega) hlr).mono ?_; rintro e w8 ⟨rfl, g8⟩
                have W8' := Lib.hid (W.out.bel g8)
                clear g8 W PW
                obtain ⟨x0, x1, x2, x3, x4⟩ := W8'.out.X.all
                have NM : F3.Named k 0 c r := ⟨by decide, by omega, by omega, by omega, by omega, by omega⟩
                have C := Lib.hid (F3.refSet_at k 0 c r (m.R (512 + 8 * c + r)) p1 m1 k1 l w8 (by omega) (by omega) (by have := HLEN.out; omega) W8'.out.L.at NM)
                have ST : Hid (F3.Step (wG m.R k c (r + 1)) (l ++ [(place k 0 c r, m.R (512 + 8 * c + r))])) := by
                  have := F3.step_set HSTEP.out (by omega) NM (m.R (512 + 8 * c + r))
                  rw [wG_set _ _ _ _ (by omega) hr1 hlr] at this
                  exact this
                obtain ⟨u, hu⟩ : ∃ u, u = m.R (512 + 8 * c + r) := ⟨_, rfl⟩
                rw [← hu] at C ST ⊢
                clear hu NM HSTEP
                go_wp2_with fail
                refine C.out.mono ?_; rintro e w9 ⟨s', rfl, hL', g9⟩
                obtain ⟨p2, m2, k2, rfl⟩ := F3.LAtB.slice hL'
                have W9 := Lib.hid (W8'.out.bel g9)
                have L9 : Hid (LAtB (y + 1) w9 (.slice p2 m2 k2) (l ++ [(place k 0 c r, u)])) := F3.LAtB.less hL' (Nat.succ_le_of_lt W8'.out.X.lt)
                clear C g9 hL' W8' x0 x1 x2 x3 x4
                go_wp2_with (refine d_store rfl 35 (.tmp 84) (.tmp 82) rfl ⟨k, .slice p1 m1 k1, .slice (some ⟨vz, 0, none⟩) sn sn, m.cwp, t⟩ ⟨k, .slice p2 m2 k2, .slice (some ⟨vz, 0, none⟩) sn sn, m.cwp, t⟩ y 0 rfl [.int .i64 k, .slice p2 m2 k2] rfl W9.out.X (by kernel_rfl) (by intro v hv; simp at hv; rcases hv with rfl | rfl <;> rfl) (Nat.le_of_ble_eq_true rfl) rfl ?_; intro V10 r10 g10)
                have W10 : Hid (WW w V10 y z ⟨k, .slice p2 m2 k2, .slice (some ⟨vz, 0, none⟩) sn sn, m.cwp, t⟩ (l ++ [(place k 0 c r, u)]) sn) := W9.out.store h6 r10.out g10.out L9.out rfl
                have LEN : Hid ((l ++ [(place k 0 c r, u)]).length + 1 = 16 * k + 7 * c + (r + 1)) := by
                  have := HLEN.out
                  unfold Hid
                  rw [List.length_append]
                  show l.length + 1 + 1 = _
                  omega
                clear r10 g10 W9 L9
                go_roundw
                case rel => exact ⟨r + 1, p2, m2, k2, _, by omega, HR.out.2, by go_num, W10.out, LEN.out, ST.out⟩
                case measure => simp only [intOf]; have := HR.out.2; omega
              · obtain rfl : r = 8 := by omega
                have ST : Hid (F3.Step (wG m.R k (c + 1) 0) l) := by rw [← wG_bank]; exact HSTEP.out
                have LEN : Hid (l.length = 16 * k + 7 * (c + 1)) := by have := HLEN.out; unfold Hid; omega
                go_wp2_with fail
                go_roundw
                case rel => exact ⟨c + 1, p1, m1, k1, l, HC.out, by go_num, W.out, LEN.out, ST.out⟩
                case measure => simp only [intOf]; have := HC.out; omega
          · obtain rfl : c = 16 := by omega
            have LEN : Hid (l.length ≤ 640) := by have := HLEN.out; unfold Hid; omega
            have PW := Lib.hid (P.out.bel W.out.g)
            have hq1 : Int.tdiv (sn : Int) 4 = 1024 := by rw [H4.out]; rfl
            have hq2 : (sn : Int) / 4 = 1024 := by have := H4.out; omega
            have HSP : Hid (spE (sn : Int) ((0 : Nat) : Int) ((1024 : Nat) : Int) = 0) := by rw [H4.out]; unfold Hid; decide
            clear HLEN
            go_wp2_with fail
            refine (mem_bel8 PW.out).mono ?_; rintro e w20 ⟨rfl, rfl⟩
            go_wp2_with fail
            refine (mem_bel8 PW.out).mono ?_; rintro e w21 ⟨rfl, rfl⟩
            go_wp2_with fail
            have C := M5.size_at PW.out.mem
            rw [HSZ.out] at C
            refine C.mono ?_; rintro e w22 ⟨rfl, g22⟩
            have W22 := Lib.hid (W.out.bel g22)
            have PW := Lib.hid (PW.out.bel g22)
            clear C W g22
            go_wp2_with fail
            refine (M5.words_yes 0 1024 PW.out.mem (by rw [HSZ.out]; exact HSP.out)).mono ?_; rintro e w23 ⟨sw, rfl, SW, g23⟩
            obtain ⟨pq, cq, rfl, _⟩ := id SW
            have W23 := Lib.hid (W22.out.bel g23)
            have SW := Lib.hid SW
            clear W22 g23
            obtain ⟨x0, x1, x2, x3, x4⟩ := W23.out.X.all
            have C := Lib.hid (rput_new (.slice (some ⟨vz, 0, none⟩) sn sn) (.slice pq 1024 cq) sn 1024 (fun _ => 0) (M5.wdB m.f 0) 0 w23 (by decide) (by have := H4.out; omega) W23.out.M SW.out (fun i _ => by
              have h := ldB_in P.out.ok.f (0 + 4 * i) 4
              have h2 := h.2
              rw [show (256 : Int) ^ 4 = 4294967296 by decide] at h2
              exact ⟨h.1, h2⟩) HSP.out)
            go_wp2_with fail
            refine C.out.mono ?_; rintro e w24 ⟨s', rfl, SV, g24⟩
            obtain ⟨pm, mk, rfl⟩ := lenOf_own SV
            have SV : Hid (MB (y + 1) w24 (.slice pm sn mk) sn (ptB (fun _ => 0) 0 (M5.wdB m.f 0) 1024)) := own_less SV (Nat.succ_le_of_lt W23.out.X.lt)
            have W24 := Lib.hid (W23.out.bel g24)
            clear C SW W23 g24 x0 x1 x2 x3 x4
            go_upto_region 20 with (refine d_store rfl 29 (.tmp 102) (.tmp 100) rfl ⟨k, .slice p1 m1 k1, .slice (some ⟨vz, 0, none⟩) sn sn, m.cwp, t⟩ ⟨k, .slice p1 m1 k1, .slice pm sn mk, m.cwp, t⟩ y 2 rfl [.slice pm sn mk] rfl W24.out.X (by kernel_rfl) (one_one rfl) (Nat.le_of_ble_eq_true rfl) rfl ?_; intro V25 r25 g25)
            have Z25 := Lib.hid (W24.out.Z.only g25.out (Nat.ne_of_lt W24.out.zx))
            have L25 := Lib.hid (lat_keep W24.out.L (Nat.lt_succ_self _) g25.out)
            have S25 : Hid (MB (y + 1) V25 (.slice pm sn mk) sn (ptB (fun _ => 0) 0 (M5.wdB m.f 0) 1024)) := own_keep SV.out (Nat.lt_succ_self _) g25.out
            have ZY := Lib.hid W24.out.zx
            have LZ := Lib.hid W24.out.lz
            have G25 := Lib.hid (only_bel W24.out.g g25.out (Nat.le_of_lt (Nat.lt_of_le_of_lt LZ.out ZY.out)))
            obtain ⟨x0, x1, x2, x3, x4⟩ := r25.out.all
            clear g25 W24 SV
            go_wp2_with (refine d_whole rfl (.tmp 4) (.tmp 103) rfl z dzero ⟨k, .slice p1 m1 k1, .slice pm sn mk, m.cwp, t⟩ rfl rfl Z25.out ⟨rfl, rfl⟩ ?_; intro V26 r26 g26)
            have L26 := Lib.hid (lat_keep L25.out (Nat.lt_succ_of_lt ZY.out) g26.out)
            have NY : w.heap.size ≤ y + 1 := by have := LZ.out; have := ZY.out; omega
            have S26 : Hid (MB w.heap.size V26 (.slice pm sn mk) sn (ptB (fun _ => 0) 0 (M5.wdB m.f 0) 1024)) := own_less (own_keep S25.out (Nat.lt_succ_of_lt ZY.out) g26.out) NY
            have G26 := Lib.hid (only_bel G25.out g26.out LZ.out)
            exact d_ret1 rfl rfl r26.out rfl ⟨p1, m1, k1, pm, mk, rfl, l, F3.LAtB.less L26.out NY, LEN.out, HSTEP.out, S26.out, G26.out⟩
end
end Go.Proofs.YtlmaikbnjdmhcaaGreatDoor.K6
