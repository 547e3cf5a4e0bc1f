/- Layer 10: what the document looks at, out of a machine. -/
import Derived.Test.YtiobgnelhiadbaaGreatDoorVWindGU
import Derived.Test.YtiobgnelhiadbaaGreatDoorVSwapGP
import Derived.Test.YtiobgnelhiadbaaGreatDoorVSwapGC
namespace Go.Proofs.YtiobgnelhiadbaaGreatDoor.S10
open Go.RowKit W8 K6
open F3 (LAt LAtB place atL Ent)
set_option linter.unusedVariables false
/-- What world has in hand. -/
structure WX (w V : World) (x z : Nat) (q : DV) (l : List Ent) (sn : Nat) : Prop where
  X : RowD V x q
  Z : RowD V z dzero
  L : LAtB (x + 1) V q.vl l
  M : ∃ vz, q.vm = .slice (some ⟨vz, 0, none⟩) sn sn ∧ M5.RowAt V vz sn (fun _ => 0) ∧ w.heap.size ≤ vz
  g : Below w.heap.size w V
  zx : z < x
  lz : w.heap.size ≤ z
theorem row_not {V : World} {x vz sn : Nat} {q : DV} {f : Nat → Int} (h : M5.RowAt V vz sn f) (X : RowD V x q) : vz ≠ x := by
  rintro rfl
  unfold RowD at X
  unfold M5.RowAt at h
  rw [X] at h
  injection h with h
  first | done | (injection h with _ h _; exact absurd h (by decide))
section
variable {w V V' : World} {x z : Nat} {q q' : DV} {l l' : List Ent} {sn : Nat}
theorem WX.bel (h : WX w V x z q l sn) (k : Below V.heap.size V V') : WX w V' x z q l sn :=
  ⟨h.X.bel k, h.Z.bel k, own_belw h.L k, by
    obtain ⟨vz, e, r, lo⟩ := h.M
    exact ⟨vz, e, r.bel k, lo⟩, bel_trans h.g k, h.zx, h.lz⟩
theorem WX.store (h : WX w V x z q l sn) (hn : 6 ≤ sn) (r : RowD V' x q') (k : V.grownBy V' (some x)) (hL : LAtB (x + 1) V q'.vl l') (hm : q'.vm = q.vm) : WX w V' x z q' l' sn :=
  ⟨r, h.Z.only k (Nat.ne_of_lt h.zx), lat_keep hL (Nat.lt_succ_self _) k, by
    obtain ⟨vz, e, r, lo⟩ := h.M
    exact ⟨vz, hm.trans e, only_heap k (row_not r h.X) r, lo⟩, only_bel h.g k (Nat.le_of_lt (Nat.lt_of_le_of_lt h.lz h.zx)), h.zx, h.lz⟩
theorem WX.start {w V : World} (Z : RowD V w.heap.size dzero) (g : Below w.heap.size w V) (lt : w.heap.size < V.heap.size) (ZZ : Array Value) (sn : Nat) (hz : ZZ = M5.brow (fun _ => 0) sn) (c : Int) :
    WX w ((V.alloc (.cells ZZ 5)).alloc (.cells (drow ⟨0, .slice none 0 0, .slice (some ⟨V.heap.size, 0, none⟩) sn sn, c, 0⟩) 59)) (V.heap.size + 1) w.heap.size ⟨0, .slice none 0 0, .slice (some ⟨V.heap.size, 0, none⟩) sn sn, c, 0⟩ [] sn := by
  have s1 : ∀ (V : World) (o : Obj), (V.alloc o).heap.size = V.heap.size + 1 := fun V o => by simp
  have gg : ∀ (V : World) (o : Obj), Below V.heap.size V (V.alloc o) := fun V o => (Below.refl _ _).alloc (Nat.le_refl _) _
  have l : ∀ (V : World) (o : Obj) (n : Nat), V.heap.size = n → (V.alloc o).heap[n]? = some o := fun V o n e => by subst e; exact heap_alloc_last _ _
  have k := bel_trans (gg V (.cells ZZ 5)) (gg _ (.cells (drow ⟨0, .slice none 0 0, .slice (some ⟨V.heap.size, 0, none⟩) sn sn, c, 0⟩) 59))
  subst hz
  exact ⟨l _ _ _ (s1 _ _), Z.bel k, World.ownsRow_nil _ _ _ _, ⟨_, rfl, bel_heap (gg _ _) (l _ _ _ rfl), Nat.le_of_lt lt⟩, bel_trans g k, by omega, Nat.le_refl _⟩
/-- The same, with bytes. -/
structure WY (w V : World) (x z : Nat) (q : DV) (l : List Ent) (vz sn : Nat) (f : Nat → Int) : Prop where
  X : RowD V x q
  Z : RowD V z dzero
  L : LAtB (x + 1) V q.vl l
  M : M5.RowAt V vz sn f
  lo : w.heap.size ≤ vz
  g : Below w.heap.size w V
  zx : z < x
  lz : w.heap.size ≤ z
theorem WY.bel {vz : Nat} {f : Nat → Int} (h : WY w V x z q l vz sn f) (k : Below V.heap.size V V') : WY w V' x z q l vz sn f :=
  ⟨h.X.bel k, h.Z.bel k, own_belw h.L k, h.M.bel k, h.lo, bel_trans h.g k, h.zx, h.lz⟩
theorem WX.bytes {c v : Int} {n : Int} {vl : Value} {vz : Nat} (h : WX w V x z ⟨n, vl, .slice (some ⟨vz, 0, none⟩) sn sn, c, v⟩ l sn) : WY w V x z ⟨n, vl, .slice (some ⟨vz, 0, none⟩) sn sn, c, v⟩ l vz sn (fun _ => 0) := by
  obtain ⟨vz', e, r, lo⟩ := h.M
  simp only [Value.slice.injEq, Option.some.injEq, Addr.mk.injEq] at e
  obtain ⟨⟨rfl, _⟩, _⟩ := e
  exact ⟨h.X, h.Z, h.L, r, lo, h.g, h.zx, h.lz⟩
theorem WY.set {vz : Nat} {f : Nat → Int} (h : WY w V x z q l vz sn f) (j : Nat) (v : Int) : WY w (V.setCell ⟨vz, j, none⟩ (.int .u8 v)) x z q l vz sn (updB f j v) :=
  have hx : x ≠ vz := fun e => row_not h.M h.X e.symm
  have hz : z ≠ vz := fun e => row_not h.M h.Z e.symm
  ⟨by unfold RowD; rw [heap_setCell_other _ _ _ _ (fun e => hx e)]; exact h.X, by unfold RowD; rw [heap_setCell_other _ _ _ _ (fun e => hz e)]; exact h.Z,
   by
    obtain ⟨h0, h1 | ⟨g, cap, cur, e, hB, hg, r⟩⟩ := h.L
    · exact ⟨h0, .inl h1⟩
    · refine ⟨h0, .inr ⟨g, cap, cur, e, hB, ?_, r⟩⟩
      rw [heap_setCell_other _ _ _ _ (fun e2 => ?_)]
      · exact hg
      · have hm := h.M
        unfold M5.RowAt at hm
        rw [show g = vz from e2, hm] at hg
        injection hg with hg
        first | done | (injection hg with _ hg _; exact absurd hg (by decide)),
   h.M.set j v, h.lo, h.g.setCell (p := ⟨vz, j, none⟩) h.lo _, h.zx, h.lz⟩
theorem brow_cong {f g : Nat → Int} {n : Nat} (h : ∀ i, i < n → f i = g i) : M5.brow f n = M5.brow g n := by
  apply Array.ext_getElem?
  intro i
  by_cases hi : i < n
  · rw [M5.brow_get _ hi, M5.brow_get _ hi, h i hi]
  · rw [Array.getElem?_eq_none (by rw [M5.brow_size]; omega), Array.getElem?_eq_none (by rw [M5.brow_size]; omega)]
theorem row_own {V : World} {vz sn B : Nat} {f : Nat → Int} (h : M5.RowAt V vz sn f) (hB : B ≤ vz) (hn : sn = 8192) : MB B V (.slice (some ⟨vz, 0, none⟩) sn sn) sn f := by
  refine ⟨by rw [bsL_len]; omega, .inr ⟨vz, sn, M5.brow f sn, rfl, hB, h, Nat.le_refl _, by rw [hn]; decide, by rw [M5.brow_size]; omega, ?_⟩⟩
  have e : (M5.brow f sn).toList = bsL .u8 f sn := by unfold M5.brow; simp
  rw [e, List.take_of_length_le (by rw [bsL_len]; omega)]
theorem words_far {V : World} {vz sn gw o : Nat} {v : Int} {f : Nat → Int} (h : M5.RowAt V vz sn f) (hc : V.cell? ⟨gw, o, none⟩ = some (.int .u32 v)) : gw ≠ vz := by
  rintro rfl
  rw [cell_of_row _ _ _ _ _ _ h] at hc
  by_cases ho : o < sn
  · rw [M5.brow_get _ ho] at hc
    cases hc
  · rw [Array.getElem?_eq_none (by rw [M5.brow_size]; omega)] at hc
    cases hc
/-- The bytes so far. -/
def fB (f : Nat → Int) (k : Nat) : Nat → Int := fun j => if j < k then f j else 0
theorem fB_zero (f : Nat → Int) : fB f 0 = fun _ => 0 := by funext j; unfold fB; rw [if_neg (Nat.not_lt_zero _)]
theorem fB_set (f : Nat → Int) (k : Nat) : updB (fB f k) k (f k) = fB f (k + 1) := by
  funext j
  unfold updB fB
  by_cases e : j = k
  · subst e; rw [if_pos rfl, if_pos (Nat.lt_succ_self _)]
  · rw [if_neg e]
    by_cases h : j < k
    · rw [if_pos h, if_pos (by omega)]
    · rw [if_neg h, if_neg (by omega)]
/-- Bytes of a word. -/
theorem ld4' (f : Nat → Int) (a : Nat) : ldB f a 4 = 256 * (256 * (256 * f a + f (a + 1)) + f (a + 2)) + f (a + 3) := by
  show 256 * (256 * (256 * (256 * 0 + f (a + 0)) + f (a + 1)) + f (a + 2)) + f (a + 3) = _
  rw [Nat.add_zero]
  omega
theorem w_u8 (x : Int) : IntKind.u8.wrap x = x % 256 := by simp [IntKind.wrap, IntKind.signed, IntKind.bits]
theorem by_0 {f : Nat → Int} (h : Bytes f) (a : Nat) : IntKind.u8.wrap (ldB f a 4 / 16777216) = f a := by
  have h0 := h a; have h1 := h (a + 1); have h2 := h (a + 2); have h3 := h (a + 3)
  rw [ld4', show (256 * (256 * (256 * f a + f (a + 1)) + f (a + 2)) + f (a + 3)) / 16777216 = f a by omega, w_u8]
  omega
theorem by_1 {f : Nat → Int} (h : Bytes f) (a : Nat) : IntKind.u8.wrap (ldB f a 4 / 65536) = f (a + 1) := by
  have h0 := h a; have h1 := h (a + 1); have h2 := h (a + 2); have h3 := h (a + 3)
  rw [ld4', w_u8]
  omega
theorem by_2 {f : Nat → Int} (h : Bytes f) (a : Nat) : IntKind.u8.wrap (ldB f a 4 / 256) = f (a + 2) := by
  have h0 := h a; have h1 := h (a + 1); have h2 := h (a + 2); have h3 := h (a + 3)
  rw [ld4', w_u8]
  omega
theorem by_3 {f : Nat → Int} (h : Bytes f) (a : Nat) : IntKind.u8.wrap (ldB f a 4) = f (a + 3) := by
  have h0 := h a; have h1 := h (a + 1); have h2 := h (a + 2); have h3 := h (a + 3)
  rw [ld4', w_u8]
  omega
end
section
variable {w : World} {b fb mb g x : Nat} {cs os : Value} {G : Nat → Prop} {m : MS}
set_option maxRecDepth 100000 in
set_option maxHeartbeats 8000000 in
theorem world8 (h : MachP w b fb mb g x cs os G m) (n : Nat) (hn : m.nw = n) (sn : Nat) (hs : m.sz = sn) (h4 : sn = 8192) (t : Nat) (ht : t < n) (hw : m.wim = P4.pw t) (cw : Int) (hcw : m.cwp = cw) :
    Calls Tryz.prog 21 #[.pointer (some ⟨b, 0, none⟩), .int .i64 n] w fun e w' => ∃ (p' : Option Addr) (m' k' : Nat) (pm : Option Addr) (mk : Nat) (l : List Ent), e = .returned (.agg (drow ⟨n, .slice p' m' k', .slice pm sn mk, cw, t⟩)) ∧ LAtB w.heap.size w' (.slice p' m' k') l ∧ l.length ≤ 640 ∧ F3.Step (wG m.R n 0 0) l ∧ MB w.heap.size w' (.slice pm sn mk) sn m.f ∧ Below w.heap.size w w' := by
  subst hcw
  have n2 : 2 ≤ n := by have := h.ok.n2; omega
  have n32 : n ≤ 32 := by have := h.ok.n32; omega
  have P := Lib.hid h
  have HN := Lib.hid hn
  have HSZ := Lib.hid hs
  have H4 := Lib.hid h4
  have HT := Lib.hid ht
  have HW := Lib.hid hw
  have hmk : ∀ W, _ := fun W => run_make_row' (P := Tryz.prog) 29 5 (.int .u8 0) 1 Tryz.underlying29 M5.byte_parts rfl .i64 .i64 sn (by omega) (by omega) W
  obtain ⟨ZZ, hZZ⟩ : ∃ ZZ, ZZ = M5.brow (fun _ => 0) sn := ⟨_, rfl⟩
  rw [M5.made_bytes, ← hZZ] at hmk
  have HZ := Lib.hid hZZ
  clear hZZ
  clear h hn hs h4 ht hw
  go_enter Tryz.func21, Tryz.ntmps21
  go_wp2_with (refine d_alloc rfl (some 4) rfl (by kernel_rfl) ?_; intro V1 r1 b1 s1)
  have Z1 := Lib.hid r1.out
  have P1 := Lib.hid (P.out.bel b1)
  have hk3 := wpsr_cwp
  refine (Psr_get P1.out).mono ?_; rintro e w2 ⟨rfl, g2⟩
  have P2 := Lib.hid (P1.out.bel g2)
  have Z2 := Lib.hid (Z1.out.bel g2)
  have G2 := Lib.hid (bel_trans b1 g2)
  have cw0 := P.out.ok.c0
  have cw1 := P.out.ok.c1
  have cw2 : m.cwp < 32 := by have := P.out.ok.n32; omega
  have wcw : IntKind.i64.wrap m.cwp = m.cwp := IntWalk.i64_in _ (by omega)
  have S1 := Lib.hid s1.out
  clear r1 b1 s1 Z1 P1
  go_wp2_with fail
  refine (mem_bel8 P2.out).mono ?_; rintro e w3 ⟨rfl, rfl⟩
  go_wp2_with fail
  have C := M5.size_at P2.out.mem
  rw [HSZ.out] at C
  refine C.mono ?_; rintro e w4 ⟨rfl, g4⟩
  have PM := Lib.hid (P2.out.bel g4)
  have Z4 := Lib.hid (Z2.out.bel g4)
  have G4 := Lib.hid (bel_trans G2.out g4)
  clear C g4 P2 Z2 G2
  go_upto_region 2 with (fail)
  have W0 := Lib.hid (WX.start Z4.out G4.out Z4.out.lt ZZ sn HZ.out m.cwp)
  change Code.wp _ _ _ _ ((w4.alloc (.cells ZZ 5)).alloc (.cells (drow ⟨0, .slice none 0 0, .slice (some ⟨w4.heap.size, 0, none⟩) sn sn, m.cwp, 0⟩) 59))
  generalize ((w4.alloc (.cells ZZ 5)).alloc (.cells (drow ⟨0, .slice none 0 0, .slice (some ⟨w4.heap.size, 0, none⟩) sn sn, m.cwp, 0⟩) 59)) = V at W0 ⊢
  generalize w4.heap.size + 1 = y at W0 ⊢
  obtain ⟨vz, hvz⟩ : ∃ vz, vz = w4.heap.size := ⟨_, rfl⟩
  rw [← hvz] at W0 ⊢
  clear hvz hmk HZ Z4 PM G4 S1
  generalize w.heap.size = z at W0 ⊢
  have h6 : 6 ≤ sn := by have := H4.out; omega
  obtain ⟨x0, x1, x2, x3, x4⟩ := W0.out.X.all
  go_wp2_with fail
  refine (F3.refNew_at n V (by omega) (by omega)).mono ?_; rintro e w5 ⟨rfl, g5⟩
  have W5 := Lib.hid (W0.out.bel g5)
  clear g5 W0 x0 x1 x2 x3 x4
  go_upto_region 3 with (refine d_store rfl 35 (.tmp 27) (.tmp 25) rfl ⟨0, .slice none 0 0, .slice (some ⟨vz, 0, none⟩) sn sn, m.cwp, 0⟩ ⟨n, .slice none 0 0, .slice (some ⟨vz, 0, none⟩) sn sn, m.cwp, 0⟩ y 0 rfl [.int .i64 n, .slice none 0 0] rfl W5.out.X (by kernel_rfl) (by intro v hv; simp at hv; rcases hv with rfl | rfl <;> rfl) (Nat.le_of_ble_eq_true rfl) rfl ?_; intro V6 r6 g6)
  have W6 : Hid (WX w V6 y z ⟨n, .slice none 0 0, .slice (some ⟨vz, 0, none⟩) sn sn, m.cwp, 0⟩ [] sn) := W5.out.store h6 r6.out g6.out (World.ownsRow_nil _ _ _ _) rfl
  clear r6 g6 W5
  go_wp2_with fail
  go_loopw [6] (fun i wr => ∃ (k : Nat) (inv : Int) (p1 : Option Addr) (m1 k1 : Nat) (l : List Ent), k ≤ n ∧ i = .int .i64 k ∧ WX w wr y z ⟨n, .slice p1 m1 k1, .slice (some ⟨vz, 0, none⟩) sn sn, m.cwp, inv⟩ l sn ∧ l.length = 16 * k ∧ F3.Step (wG m.R k 0 0) l ∧ (t < k → inv = t)) (fun i _ => n - (intOf i).toNat)
  case atStart => exact ⟨0, 0, none, 0, 0, [], Nat.zero_le _, rfl, W6.out, rfl, by rw [wG_zero]; exact F3.step_new, fun h => absurd h (Nat.not_lt_zero _)⟩
  case round =>
    obtain ⟨k, inv, p1, m1, k1, l, hk, rfl, W, hlen, hstep, hinv⟩ := hrel
    have W := Lib.hid W
    have HLEN := Lib.hid hlen
    have HSTEP := Lib.hid hstep
    have HINV := Lib.hid hinv
    clear W6 hlen hstep hinv
    by_cases hlt : k < n
    · as_aux_lemma =>
        have PW := Lib.hid (P.out.bel W.out.g)
        have HK := Lib.hid hlt
        go_wp2_with fail
        refine (File_get PW.out).mono ?_; rintro e w7 ⟨rfl, rfl⟩
        go_wp2_with fail
        refine (window_c PW.out k (by omega) (by rw [HN.out]; omega) (Below.refl _ _)).mono ?_; rintro e w8 ⟨sb, rfl, hrow, hng, g8⟩
        have W8' := Lib.hid (W.out.bel g8)
        have HROW := Lib.hid hrow
        have PW := Lib.hid (PW.out.bel g8)
        clear g8 hrow hng W
        obtain ⟨x0, x1, x2, x3, x4⟩ := W8'.out.X.all
        have C := F3.refPut_at n k p1 m1 k1 sb 16 l (fun i => m.R (16 * k + i)) w8 (by omega) (by omega) (by omega) (by omega) (by have := HLEN.out; omega) W8'.out.L.at (fun i hi => by
          have := row_cell HROW.out (j := i) (v := .int .u32 (m.R ((16 * (k : Int)).toNat + i))) (by simp [F3.wl, hi])
          rw [show (16 * (k : Int)).toNat = 16 * k by omega] at this
          exact this)
        have C := Lib.hid C
        go_wp2_with fail
        refine C.out.mono ?_; rintro e w9 ⟨s', rfl, hL', g9⟩
        obtain ⟨p2, m2, k2, rfl⟩ := F3.LAtB.slice hL'
        have W9 := Lib.hid (W8'.out.bel g9)
        have L9 : Hid (LAtB (y + 1) w9 (.slice p2 m2 k2) (l ++ F3.entF ((k : Int).toNat * 16) (fun i => m.R (16 * k + i)) 16)) := F3.LAtB.less hL' (Nat.succ_le_of_lt W8'.out.X.lt)
        have PW := Lib.hid (PW.out.bel g9)
        clear C g9 hL' HROW W8' x0 x1 x2 x3 x4
        go_upto_region 8 with (refine d_store rfl 35 (.tmp 48) (.tmp 46) rfl ⟨n, .slice p1 m1 k1, .slice (some ⟨vz, 0, none⟩) sn sn, m.cwp, inv⟩ ⟨n, .slice p2 m2 k2, .slice (some ⟨vz, 0, none⟩) sn sn, m.cwp, inv⟩ y 0 rfl [.int .i64 n, .slice p2 m2 k2] rfl W9.out.X (by kernel_rfl) (by intro v hv; simp at hv; rcases hv with rfl | rfl <;> rfl) (Nat.le_of_ble_eq_true rfl) rfl ?_; intro V10 r10 g10)
        have W10 : Hid (WX w V10 y z ⟨n, .slice p2 m2 k2, .slice (some ⟨vz, 0, none⟩) sn sn, m.cwp, inv⟩ (l ++ F3.entF ((k : Int).toNat * 16) (fun i => m.R (16 * k + i)) 16) sn) := W9.out.store h6 r10.out g10.out L9.out rfl
        have PW := Lib.hid (P.out.bel W10.out.g)
        have LEN : Hid ((l ++ F3.entF ((k : Int).toNat * 16) (fun i => m.R (16 * k + i)) 16).length = 16 * (k + 1)) := by
          have := HLEN.out
          unfold Hid
          rw [List.length_append, F3.entF_len]; omega
        have ST : Hid (F3.Step (wG m.R (k + 1) 0 0) (l ++ F3.entF ((k : Int).toNat * 16) (fun i => m.R (16 * k + i)) 16)) := by
          have := F3.step_putF HSTEP.out (x := (k : Int)) (by omega) (by omega) (fun i => m.R (16 * k + i))
          rw [show (k : Int).toNat = k by omega, wG_put _ _ (by omega)] at this
          exact this
        clear r10 g10 W9 L9 HLEN HSTEP
        go_wp2_with fail
        have C := Wim_get PW.out
        rw [HW.out] at C
        refine C.mono ?_; rintro e w11 ⟨rfl, rfl⟩
        clear C
        have HP := P4.pw_mod (x := k) (by omega)
        by_cases hkt : k = t
        · have hdec : Hid ((P4.pw t == (2 : Int) ^ k % 4294967296) = true) := by unfold Hid; rw [HP, hkt]; simp
          have hd := hdec.out
          have HKT := Lib.hid hkt
          clear hkt HP
          go_wp2_with (refine d_store rfl 3 (.tmp 56) (.tmp 55) rfl ⟨n, .slice p2 m2 k2, .slice (some ⟨vz, 0, none⟩) sn sn, m.cwp, inv⟩ ⟨n, .slice p2 m2 k2, .slice (some ⟨vz, 0, none⟩) sn sn, m.cwp, k⟩ y 4 rfl [.int .i64 k] rfl W10.out.X (by kernel_rfl) (one_one rfl) (Nat.le_of_ble_eq_true rfl) rfl ?_; intro V11 r11 g11)
          have W11 : Hid (WX w V11 y z ⟨n, .slice p2 m2 k2, .slice (some ⟨vz, 0, none⟩) sn sn, m.cwp, k⟩ (l ++ F3.entF ((k : Int).toNat * 16) (fun i => m.R (16 * k + i)) 16) sn) := W10.out.store h6 r11.out g11.out W10.out.L rfl
          clear r11 g11 W10
          go_roundw
          case rel => exact ⟨k + 1, k, p2, m2, k2, _, HK.out, by go_num, W11.out, LEN.out, ST.out, fun _ => by rw [HKT.out]⟩
          case measure => simp only [intOf]; have := HK.out; omega
        · have hdec : Hid ((P4.pw t == (2 : Int) ^ k % 4294967296) = false) := by
            unfold Hid
            rw [HP]
            have hne : P4.pw t ≠ P4.pw k := fun e => by
              have h1 := wx_pw (x := t) (n := (n : Int)) (by have := HT.out; omega)
              rw [e, wx_pw (by omega)] at h1
              injection h1 with h1
              exact hkt h1
            simpa using hne
          have hd := hdec.out
          have HKT := Lib.hid hkt
          clear hkt HP
          go_wp2_with fail
          go_roundw
          case rel => exact ⟨k + 1, inv, p2, m2, k2, _, HK.out, by go_num, W10.out, LEN.out, ST.out, fun h => HINV.out (by have := HKT.out; omega)⟩
          case measure => simp only [intOf]; have := HK.out; omega
    · obtain rfl : k = n := by omega
      obtain rfl : inv = t := HINV.out HT.out
      as_aux_lemma =>
        have LEN : Hid (l.length ≤ 640) := by have := HLEN.out; unfold Hid; omega
        have PW := Lib.hid (P.out.bel W.out.g)
        have hq1 : Int.tdiv (sn : Int) 4 = 2048 := by rw [H4.out]; rfl
        have hq2 : (sn : Int) / 4 = 2048 := by have := H4.out; omega
        have HSP : Hid (spE (sn : Int) ((0 : Nat) : Int) ((2048 : Nat) : Int) = 0) := by rw [H4.out]; unfold Hid; decide
        clear HLEN HINV hlt hk
        go_wp2_with fail
        refine (mem_bel8 PW.out).mono ?_; rintro e w20 ⟨rfl, rfl⟩
        go_wp2_with fail
        refine (mem_bel8 PW.out).mono ?_; rintro e w21 ⟨rfl, rfl⟩
        go_wp2_with fail
        have C := M5.size_at PW.out.mem
        rw [HSZ.out] at C
        refine C.mono ?_; rintro e w22 ⟨rfl, g22⟩
        have W22 := Lib.hid (W.out.bel g22)
        have PW := Lib.hid (PW.out.bel g22)
        clear C W g22
        go_wp2_with fail
        refine (M5.words_yes 0 2048 PW.out.mem (by rw [HSZ.out]; exact HSP.out)).mono ?_; rintro e w23 ⟨sw, rfl, SW, g23⟩
        obtain ⟨pq, cq, rfl, hsw⟩ := id SW
        obtain ⟨gw, ow, rfl, hcw⟩ := hsw (by decide)
        have W23 := Lib.hid (W22.out.bel g23)
        have CW := Lib.hid hcw
        have BF := Lib.hid P.out.ok.f
        have HY : Hid (WY w w23 y z ⟨k, .slice p1 m1 k1, .slice (some ⟨vz, 0, none⟩) sn sn, m.cwp, t⟩ l vz sn (fB m.f (4 * 0))) := by rw [fB_zero]; exact W23.out.bytes
        have NV : Hid (gw ≠ vz) := words_far HY.out.M (hcw 0 (by decide))
        have NY : Hid (y ≠ vz) := fun e => row_not HY.out.M HY.out.X e.symm
        clear W22 g23 hq1 hq2 SW hsw hcw W23 PW HSP
        generalize w23 = U at CW HY ⊢
        go_wp2_with fail
        go_loopw [11] (fun i wr => ∃ c : Nat, c ≤ 2048 ∧ i = .int .i64 c ∧ WY w wr y z ⟨k, .slice p1 m1 k1, .slice (some ⟨vz, 0, none⟩) sn sn, m.cwp, t⟩ l vz sn (fB m.f (4 * c)) ∧ ∀ j, j < 2048 → wr.cell? ⟨gw, ow + j, none⟩ = some (.int .u32 (M5.wdB m.f 0 j))) (fun i _ => 2048 - (intOf i).toNat)
        case atStart => exact ⟨0, by decide, rfl, HY.out, CW.out⟩
        case round =>
          clear HY CW
          obtain ⟨c, hc, rfl, HY, CW⟩ := hrel
          have HY := Lib.hid HY
          have CW := Lib.hid CW
          by_cases hlt : c < 2048
          · have hlt' : (c : Int) < 2048 := by omega
            have HC := Lib.hid hlt
            go_wp2_with fail
            go_loopw [12] (fun r wr => ∃ e : Nat, e ≤ 4 ∧ r = .int .i64 e ∧ WY w wr y z ⟨k, .slice p1 m1 k1, .slice (some ⟨vz, 0, none⟩) sn sn, m.cwp, t⟩ l vz sn (fB m.f (4 * c + e)) ∧ ∀ j, j < 2048 → wr.cell? ⟨gw, ow + j, none⟩ = some (.int .u32 (M5.wdB m.f 0 j))) (fun r _ => 4 - (intOf r).toNat)
            case atStart => exact ⟨0, by decide, rfl, HY.out, CW.out⟩
            case round =>
              clear HY CW
              obtain ⟨e, he, rfl, HY, CW⟩ := hrel
              have HY := Lib.hid HY
              have CW := Lib.hid CW
              by_cases hle : e < 4
              · rcases (by omega : e = 0 ∨ e = 1 ∨ e = 2 ∨ e = 3) with rfl | rfl | rfl | rfl
                · have ee : ((0 : Nat) : Int) = 0 := rfl
                  rw [ee]
                  clear ee
                  have YD := Lib.hid (HY.out.bel (Below.drew (Below.refl _ _)))
                  have CD : Hid (∀ j, j < 2048 → wr.drew.cell? ⟨gw, ow + j, none⟩ = some (.int .u32 (M5.wdB m.f 0 j))) := fun j hj => CW.out j hj
                  obtain ⟨j, hj⟩ : ∃ j : Nat, j = 4 * c + 0 := ⟨_, rfl⟩
                  obtain ⟨j4, hj4⟩ : ∃ j : Nat, j = 4 * c := ⟨_, rfl⟩
                  have DD : wr.drew.cell? ⟨y, 2, none⟩ = some (.slice (some ⟨vz, 0, none⟩) sn sn) ∧ wr.drew.cell? ⟨gw, ow + c, none⟩ = some (.int .u32 (M5.wdB m.f 0 c)) := ⟨YD.out.X.all.2.2.1, CD.out c HC.out⟩
                  have cv : wr.drew.cell? ⟨vz, j, none⟩ = some (.int .u8 (fB m.f (4 * c + 0) j)) := YD.out.M.cell (by have := H4.out; omega)
                  have fv : wr.drew.frozen? ⟨vz, j, none⟩ = false := YD.out.M.frozen j
                  have jsn : (j : Int) < sn := by have := H4.out; omega
                  have w1 : IntKind.i64.wrap (4 * (c : Int)) = (j4 : Int) := by rw [IntWalk.i64_in _ (by omega)]; omega
                  have w2 : IntKind.i64.wrap ((j4 : Int) + 0) = (j : Int) := by rw [IntWalk.i64_in _ (by omega)]; omega
                  have w3 : IntKind.i64.wrap (j4 : Int) = (j : Int) := by rw [IntWalk.i64_in _ (by omega)]; omega
                  have DS : ∀ u, (wr.drew.setCell ⟨vz, j, none⟩ u).cell? ⟨y, 2, none⟩ = some (.slice (some ⟨vz, 0, none⟩) sn sn) ∧ (wr.drew.setCell ⟨vz, j, none⟩ u).cell? ⟨gw, ow + c, none⟩ = some (.int .u32 (M5.wdB m.f 0 c)) := fun u => by
                    rw [World.cell?_setCell_other _ _ _ _ (fun e => NY.out (by cases e; rfl)), World.cell?_setCell_other _ _ _ _ (fun e => NV.out (by cases e; rfl))]
                    exact DD
                  have FIN : Hid (∀ v, v = m.f j → WY w ((wr.setCell ⟨vz, j, none⟩ (.int .u8 v)).drew) y z ⟨k, .slice p1 m1 k1, .slice (some ⟨vz, 0, none⟩) sn sn, m.cwp, t⟩ l vz sn (fB m.f (4 * c + 1))) := fun v hv => by
                    have h := (HY.out.set j v).bel (Below.drew (Below.refl _ _))
                    rw [hv, hj, fB_set] at h
                    rw [hv, hj]
                    exact h
                  have CEL : Hid (∀ u, ∀ j', j' < 2048 → ((wr.setCell ⟨vz, j, none⟩ u).drew).cell? ⟨gw, ow + j', none⟩ = some (.int .u32 (M5.wdB m.f 0 j'))) := fun u j' hj' => by
                    show (wr.setCell ⟨vz, j, none⟩ u).cell? ⟨gw, ow + j', none⟩ = _
                    rw [World.cell?_setCell_other _ _ _ _ (fun e => NV.out (by cases e; rfl))]
                    exact CW.out j' hj'
                  have VAL : Hid (IntKind.u8.wrap (M5.wdB m.f 0 c / 2 ^ min (IntKind.u64.wrap (IntKind.i64.wrap (24 - IntKind.i64.wrap 0))).toNat 32) = m.f j) := by
                    have hs : min (IntKind.u64.wrap (IntKind.i64.wrap (24 - IntKind.i64.wrap 0))).toNat 32 = 24 := by decide
                    unfold Hid
                    rw [hs, hj]
                    show IntKind.u8.wrap (ldB m.f (0 + 4 * c) 4 / 2 ^ 24) = _
                    rw [Nat.zero_add, show (2 : Int) ^ 24 = 16777216 by decide]
                    exact by_0 BF.out (4 * c)
                  clear hj hj4
                  go_wp2_with fail
                  go_region_held3 (fun W => W.cell? ⟨y, 2, none⟩ = some (.slice (some ⟨vz, 0, none⟩) sn sn) ∧ W.cell? ⟨gw, ow + c, none⟩ = some (.int .u32 (M5.wdB m.f 0 c)))
                    (first
                      | exact DD
                      | exact DS _)
                    (fail)
                  clear DD DS cv fv w1 w2
                  go_wp2_with fail
                  go_roundw
                  case rel => exact ⟨1, by decide, by go_num, FIN.out _ VAL.out, CEL.out _⟩
                  case measure => simp [intOf]
                · have ee : ((1 : Nat) : Int) = 1 := rfl
                  rw [ee]
                  clear ee
                  have YD := Lib.hid (HY.out.bel (Below.drew (Below.refl _ _)))
                  have CD : Hid (∀ j, j < 2048 → wr.drew.cell? ⟨gw, ow + j, none⟩ = some (.int .u32 (M5.wdB m.f 0 j))) := fun j hj => CW.out j hj
                  obtain ⟨j, hj⟩ : ∃ j : Nat, j = 4 * c + 1 := ⟨_, rfl⟩
                  obtain ⟨j4, hj4⟩ : ∃ j : Nat, j = 4 * c := ⟨_, rfl⟩
                  have DD : wr.drew.cell? ⟨y, 2, none⟩ = some (.slice (some ⟨vz, 0, none⟩) sn sn) ∧ wr.drew.cell? ⟨gw, ow + c, none⟩ = some (.int .u32 (M5.wdB m.f 0 c)) := ⟨YD.out.X.all.2.2.1, CD.out c HC.out⟩
                  have cv : wr.drew.cell? ⟨vz, j, none⟩ = some (.int .u8 (fB m.f (4 * c + 1) j)) := YD.out.M.cell (by have := H4.out; omega)
                  have fv : wr.drew.frozen? ⟨vz, j, none⟩ = false := YD.out.M.frozen j
                  have jsn : (j : Int) < sn := by have := H4.out; omega
                  have w1 : IntKind.i64.wrap (4 * (c : Int)) = (j4 : Int) := by rw [IntWalk.i64_in _ (by omega)]; omega
                  have w2 : IntKind.i64.wrap ((j4 : Int) + 1) = (j : Int) := by rw [IntWalk.i64_in _ (by omega)]; omega
                  have DS : ∀ u, (wr.drew.setCell ⟨vz, j, none⟩ u).cell? ⟨y, 2, none⟩ = some (.slice (some ⟨vz, 0, none⟩) sn sn) ∧ (wr.drew.setCell ⟨vz, j, none⟩ u).cell? ⟨gw, ow + c, none⟩ = some (.int .u32 (M5.wdB m.f 0 c)) := fun u => by
                    rw [World.cell?_setCell_other _ _ _ _ (fun e => NY.out (by cases e; rfl)), World.cell?_setCell_other _ _ _ _ (fun e => NV.out (by cases e; rfl))]
                    exact DD
                  have FIN : Hid (∀ v, v = m.f j → WY w ((wr.setCell ⟨vz, j, none⟩ (.int .u8 v)).drew) y z ⟨k, .slice p1 m1 k1, .slice (some ⟨vz, 0, none⟩) sn sn, m.cwp, t⟩ l vz sn (fB m.f (4 * c + 2))) := fun v hv => by
                    have h := (HY.out.set j v).bel (Below.drew (Below.refl _ _))
                    rw [hv, hj, fB_set] at h
                    rw [hv, hj]
                    exact h
                  have CEL : Hid (∀ u, ∀ j', j' < 2048 → ((wr.setCell ⟨vz, j, none⟩ u).drew).cell? ⟨gw, ow + j', none⟩ = some (.int .u32 (M5.wdB m.f 0 j'))) := fun u j' hj' => by
                    show (wr.setCell ⟨vz, j, none⟩ u).cell? ⟨gw, ow + j', none⟩ = _
                    rw [World.cell?_setCell_other _ _ _ _ (fun e => NV.out (by cases e; rfl))]
                    exact CW.out j' hj'
                  have VAL : Hid (IntKind.u8.wrap (M5.wdB m.f 0 c / 2 ^ min (IntKind.u64.wrap (IntKind.i64.wrap (24 - IntKind.i64.wrap 8))).toNat 32) = m.f j) := by
                    have hs : min (IntKind.u64.wrap (IntKind.i64.wrap (24 - IntKind.i64.wrap 8))).toNat 32 = 16 := by decide
                    unfold Hid
                    rw [hs, hj]
                    show IntKind.u8.wrap (ldB m.f (0 + 4 * c) 4 / 2 ^ 16) = _
                    rw [Nat.zero_add, show (2 : Int) ^ 16 = 65536 by decide]
                    exact by_1 BF.out (4 * c)
                  clear hj hj4
                  go_wp2_with fail
                  go_region_held3 (fun W => W.cell? ⟨y, 2, none⟩ = some (.slice (some ⟨vz, 0, none⟩) sn sn) ∧ W.cell? ⟨gw, ow + c, none⟩ = some (.int .u32 (M5.wdB m.f 0 c)))
                    (first
                      | exact DD
                      | exact DS _)
                    (fail)
                  clear DD DS cv fv w1 w2
                  go_wp2_with fail
                  go_roundw
                  case rel => exact ⟨2, by decide, by go_num, FIN.out _ VAL.out, CEL.out _⟩
                  case measure => simp [intOf]
                · have ee : ((2 : Nat) : Int) = 2 := rfl
                  rw [ee]
                  clear ee
                  have YD := Lib.hid (HY.out.bel (Below.drew (Below.refl _ _)))
                  have CD : Hid (∀ j, j < 2048 → wr.drew.cell? ⟨gw, ow + j, none⟩ = some (.int .u32 (M5.wdB m.f 0 j))) := fun j hj => CW.out j hj
                  obtain ⟨j, hj⟩ : ∃ j : Nat, j = 4 * c + 2 := ⟨_, rfl⟩
                  obtain ⟨j4, hj4⟩ : ∃ j : Nat, j = 4 * c := ⟨_, rfl⟩
                  have DD : wr.drew.cell? ⟨y, 2, none⟩ = some (.slice (some ⟨vz, 0, none⟩) sn sn) ∧ wr.drew.cell? ⟨gw, ow + c, none⟩ = some (.int .u32 (M5.wdB m.f 0 c)) := ⟨YD.out.X.all.2.2.1, CD.out c HC.out⟩
                  have cv : wr.drew.cell? ⟨vz, j, none⟩ = some (.int .u8 (fB m.f (4 * c + 2) j)) := YD.out.M.cell (by have := H4.out; omega)
                  have fv : wr.drew.frozen? ⟨vz, j, none⟩ = false := YD.out.M.frozen j
                  have jsn : (j : Int) < sn := by have := H4.out; omega
                  have w1 : IntKind.i64.wrap (4 * (c : Int)) = (j4 : Int) := by rw [IntWalk.i64_in _ (by omega)]; omega
                  have w2 : IntKind.i64.wrap ((j4 : Int) + 2) = (j : Int) := by rw [IntWalk.i64_in _ (by omega)]; omega
                  have DS : ∀ u, (wr.drew.setCell ⟨vz, j, none⟩ u).cell? ⟨y, 2, none⟩ = some (.slice (some ⟨vz, 0, none⟩) sn sn) ∧ (wr.drew.setCell ⟨vz, j, none⟩ u).cell? ⟨gw, ow + c, none⟩ = some (.int .u32 (M5.wdB m.f 0 c)) := fun u => by
                    rw [World.cell?_setCell_other _ _ _ _ (fun e => NY.out (by cases e; rfl)), World.cell?_setCell_other _ _ _ _ (fun e => NV.out (by cases e; rfl))]
                    exact DD
                  have FIN : Hid (∀ v, v = m.f j → WY w ((wr.setCell ⟨vz, j, none⟩ (.int .u8 v)).drew) y z ⟨k, .slice p1 m1 k1, .slice (some ⟨vz, 0, none⟩) sn sn, m.cwp, t⟩ l vz sn (fB m.f (4 * c + 3))) := fun v hv => by
                    have h := (HY.out.set j v).bel (Below.drew (Below.refl _ _))
                    rw [hv, hj, fB_set] at h
                    rw [hv, hj]
                    exact h
                  have CEL : Hid (∀ u, ∀ j', j' < 2048 → ((wr.setCell ⟨vz, j, none⟩ u).drew).cell? ⟨gw, ow + j', none⟩ = some (.int .u32 (M5.wdB m.f 0 j'))) := fun u j' hj' => by
                    show (wr.setCell ⟨vz, j, none⟩ u).cell? ⟨gw, ow + j', none⟩ = _
                    rw [World.cell?_setCell_other _ _ _ _ (fun e => NV.out (by cases e; rfl))]
                    exact CW.out j' hj'
                  have VAL : Hid (IntKind.u8.wrap (M5.wdB m.f 0 c / 2 ^ min (IntKind.u64.wrap (IntKind.i64.wrap (24 - IntKind.i64.wrap 16))).toNat 32) = m.f j) := by
                    have hs : min (IntKind.u64.wrap (IntKind.i64.wrap (24 - IntKind.i64.wrap 16))).toNat 32 = 8 := by decide
                    unfold Hid
                    rw [hs, hj]
                    show IntKind.u8.wrap (ldB m.f (0 + 4 * c) 4 / 2 ^ 8) = _
                    rw [Nat.zero_add, show (2 : Int) ^ 8 = 256 by decide]
                    exact by_2 BF.out (4 * c)
                  clear hj hj4
                  go_wp2_with fail
                  go_region_held3 (fun W => W.cell? ⟨y, 2, none⟩ = some (.slice (some ⟨vz, 0, none⟩) sn sn) ∧ W.cell? ⟨gw, ow + c, none⟩ = some (.int .u32 (M5.wdB m.f 0 c)))
                    (first
                      | exact DD
                      | exact DS _)
                    (fail)
                  clear DD DS cv fv w1 w2
                  go_wp2_with fail
                  go_roundw
                  case rel => exact ⟨3, by decide, by go_num, FIN.out _ VAL.out, CEL.out _⟩
                  case measure => simp [intOf]
                · have ee : ((3 : Nat) : Int) = 3 := rfl
                  rw [ee]
                  clear ee
                  have YD := Lib.hid (HY.out.bel (Below.drew (Below.refl _ _)))
                  have CD : Hid (∀ j, j < 2048 → wr.drew.cell? ⟨gw, ow + j, none⟩ = some (.int .u32 (M5.wdB m.f 0 j))) := fun j hj => CW.out j hj
                  obtain ⟨j, hj⟩ : ∃ j : Nat, j = 4 * c + 3 := ⟨_, rfl⟩
                  obtain ⟨j4, hj4⟩ : ∃ j : Nat, j = 4 * c := ⟨_, rfl⟩
                  have DD : wr.drew.cell? ⟨y, 2, none⟩ = some (.slice (some ⟨vz, 0, none⟩) sn sn) ∧ wr.drew.cell? ⟨gw, ow + c, none⟩ = some (.int .u32 (M5.wdB m.f 0 c)) := ⟨YD.out.X.all.2.2.1, CD.out c HC.out⟩
                  have cv : wr.drew.cell? ⟨vz, j, none⟩ = some (.int .u8 (fB m.f (4 * c + 3) j)) := YD.out.M.cell (by have := H4.out; omega)
                  have fv : wr.drew.frozen? ⟨vz, j, none⟩ = false := YD.out.M.frozen j
                  have jsn : (j : Int) < sn := by have := H4.out; omega
                  have w1 : IntKind.i64.wrap (4 * (c : Int)) = (j4 : Int) := by rw [IntWalk.i64_in _ (by omega)]; omega
                  have w2 : IntKind.i64.wrap ((j4 : Int) + 3) = (j : Int) := by rw [IntWalk.i64_in _ (by omega)]; omega
                  have DS : ∀ u, (wr.drew.setCell ⟨vz, j, none⟩ u).cell? ⟨y, 2, none⟩ = some (.slice (some ⟨vz, 0, none⟩) sn sn) ∧ (wr.drew.setCell ⟨vz, j, none⟩ u).cell? ⟨gw, ow + c, none⟩ = some (.int .u32 (M5.wdB m.f 0 c)) := fun u => by
                    rw [World.cell?_setCell_other _ _ _ _ (fun e => NY.out (by cases e; rfl)), World.cell?_setCell_other _ _ _ _ (fun e => NV.out (by cases e; rfl))]
                    exact DD
                  have FIN : Hid (∀ v, v = m.f j → WY w ((wr.setCell ⟨vz, j, none⟩ (.int .u8 v)).drew) y z ⟨k, .slice p1 m1 k1, .slice (some ⟨vz, 0, none⟩) sn sn, m.cwp, t⟩ l vz sn (fB m.f (4 * c + 4))) := fun v hv => by
                    have h := (HY.out.set j v).bel (Below.drew (Below.refl _ _))
                    rw [hv, hj, fB_set] at h
                    rw [hv, hj]
                    exact h
                  have CEL : Hid (∀ u, ∀ j', j' < 2048 → ((wr.setCell ⟨vz, j, none⟩ u).drew).cell? ⟨gw, ow + j', none⟩ = some (.int .u32 (M5.wdB m.f 0 j'))) := fun u j' hj' => by
                    show (wr.setCell ⟨vz, j, none⟩ u).cell? ⟨gw, ow + j', none⟩ = _
                    rw [World.cell?_setCell_other _ _ _ _ (fun e => NV.out (by cases e; rfl))]
                    exact CW.out j' hj'
                  have VAL : Hid (IntKind.u8.wrap (M5.wdB m.f 0 c / 2 ^ min (IntKind.u64.wrap (IntKind.i64.wrap (24 - IntKind.i64.wrap 24))).toNat 32) = m.f j) := by
                    have hs : min (IntKind.u64.wrap (IntKind.i64.wrap (24 - IntKind.i64.wrap 24))).toNat 32 = 0 := by decide
                    unfold Hid
                    rw [hs, hj]
                    show IntKind.u8.wrap (ldB m.f (0 + 4 * c) 4 / 2 ^ 0) = _
                    rw [Nat.zero_add, show (2 : Int) ^ 0 = 1 by decide, Int.ediv_one]
                    exact by_3 BF.out (4 * c)
                  clear hj hj4
                  go_wp2_with fail
                  go_region_held3 (fun W => W.cell? ⟨y, 2, none⟩ = some (.slice (some ⟨vz, 0, none⟩) sn sn) ∧ W.cell? ⟨gw, ow + c, none⟩ = some (.int .u32 (M5.wdB m.f 0 c)))
                    (first
                      | exact DD
                      | exact DS _)
                    (fail)
                  clear DD DS cv fv w1 w2
                  go_wp2_with fail
                  go_roundw
                  case rel => exact ⟨4, by decide, by go_num, FIN.out _ VAL.out, CEL.out _⟩
                  case measure => simp [intOf]
              · obtain rfl : e = 4 := by omega
                have e4 : ((4 : Nat) : Int) = 4 := rfl
                rw [e4]
                have HY4 : Hid (WY w wr y z ⟨k, .slice p1 m1 k1, .slice (some ⟨vz, 0, none⟩) sn sn, m.cwp, t⟩ l vz sn (fB m.f (4 * (c + 1)))) := by
                  rw [show 4 * (c + 1) = 4 * c + 4 by omega]; exact HY.out
                clear HY hle he e4
                go_wp2_with fail
                go_roundw
                case rel => exact ⟨c + 1, HC.out, by go_num, HY4.out, CW.out⟩
                case measure => simp only [intOf]; have := HC.out; omega
          · obtain rfl : c = 2048 := by omega
            have e8 : ((2048 : Nat) : Int) = 2048 := rfl
            rw [e8]
            clear e8 hlt hc CW
            obtain ⟨x0, x1, x2, x3, x4⟩ := HY.out.X.all
            have NZ : Hid (z < y ∧ w.heap.size ≤ z ∧ vz ≠ z ∧ w.heap.size ≤ vz) := ⟨HY.out.zx, HY.out.lz, fun e => row_not HY.out.M HY.out.Z e, HY.out.lo⟩
            go_wp2_with (refine d_whole rfl (.tmp 4) (.tmp 94) rfl z dzero ⟨k, .slice p1 m1 k1, .slice (some ⟨vz, 0, none⟩) sn sn, m.cwp, t⟩ rfl rfl HY.out.Z ⟨rfl, rfl⟩ ?_; intro V26 r26 g26)
            have L26 := Lib.hid (lat_keep HY.out.L (Nat.lt_succ_of_lt NZ.out.1) g26.out)
            have NY' : w.heap.size ≤ y + 1 := by have := NZ.out; omega
            have M26 : Hid (M5.RowAt V26 vz sn m.f) := by
              have h := only_heap g26.out NZ.out.2.2.1 HY.out.M
              have e : fB m.f (4 * 2048) = fB m.f sn := by rw [H4.out]
              rw [e] at h
              have e2 : M5.brow (fB m.f sn) sn = M5.brow m.f sn := brow_cong fun i hi => by unfold fB; rw [if_pos hi]
              rw [e2] at h
              exact h
            have S26 : Hid (MB w.heap.size V26 (.slice (some ⟨vz, 0, none⟩) sn sn) sn m.f) := row_own M26.out NZ.out.2.2.2 H4.out
            have G26 := Lib.hid (only_bel HY.out.g g26.out NZ.out.2.1)
            exact d_ret1 rfl rfl r26.out rfl ⟨p1, m1, k1, some ⟨vz, 0, none⟩, sn, rfl, l, F3.LAtB.less L26.out NY', LEN.out, HSTEP.out, S26.out, G26.out⟩
end
end Go.Proofs.YtiobgnelhiadbaaGreatDoor.S10
