/- MachJumps: the arithmetic of a compare, a branch, a call and a jump. MachJumps: its walk. -/
import Derived.Test.YtklnoolhjfbhfaaGreatDoorMachGJ
namespace Go.Proofs.YtklnoolhjfbhfaaGreatDoor.K6
open Go.RowKit
set_option linter.unusedVariables false
/-- The program: CMP, BR with the condition q, CALL. -/
def iJ (q : Int) (k : Nat) : XV := if k = 0 then ⟨0, 16, 0, 16, 17, false, 0, 0, 0⟩ else if k = 1 then ⟨0, 17, q, 0, 0, true, 10, 0, 0⟩ else if k = 2 then ⟨0, 18, 0, 0, 0, true, 20, 0, 0⟩ else iZ
def iJ4 : XV := ⟨0, 19, 18, 15, 0, true, 8, 0, 0⟩
theorem iJ4_ok : IOk iJ4 := by constructor <;> decide
theorem iJ_ok {q : Int} (h0 : 0 ≤ q) (h1 : q < 7) (k : Nat) : IOk (iJ q k) := by
  unfold iJ
  split
  · constructor <;> decide
  split
  · exact ⟨⟨by show (0 : Int) ≤ 17; decide, by show (17 : Int) ≤ 255; decide⟩, ⟨h0, by show q ≤ 255; omega⟩, ⟨by show (0 : Int) ≤ 0; decide, by show (0 : Int) ≤ 255; decide⟩, ⟨by show (0 : Int) ≤ 0; decide, by show (0 : Int) ≤ 255; decide⟩, ⟨by show (-2147483648 : Int) ≤ 10; decide, by show (10 : Int) ≤ 2147483647; decide⟩⟩
  split
  · constructor <;> decide
  exact iZ_ok
/-- .. with the jump laid at 88, and both registers set. -/
def j1 (q : Int) : MS := (mfill (fun k => wof (iJ q k)) 3).byt (stB (mfill (fun k => wof (iJ q k)) 3).f 88 4 (wof iJ4))
def j2 (q a b : Int) : MS := ((j1 q).set 16 a).set 17 b
/-- Behind the compare; behind the branch that is not taken; behind the call; behind the jump. -/
def j3 (q a b f : Int) : MS := ((j2 q a b).flg f).on
def j4 (q a b f : Int) : MS := (j3 q a b f).on
theorem j_cmp (a b : Int) : ∀ q : Fin 7, mstep (j2 q.val a b) 0 = j3 q.val a b (W1.fl a b)
  | ⟨0, _⟩ => by kernel_rfl
  | ⟨1, _⟩ => by kernel_rfl
  | ⟨2, _⟩ => by kernel_rfl
  | ⟨3, _⟩ => by kernel_rfl
  | ⟨4, _⟩ => by kernel_rfl
  | ⟨5, _⟩ => by kernel_rfl
  | ⟨6, _⟩ => by kernel_rfl
def j5 (q a b f : Int) : MS := ((j4 q a b f).set 15 8).jmp 88
def j6 (q a b f : Int) : MS := ((j5 q a b f).set 18 88).jmp 16
theorem j_br (a b f : Int) : ∀ q : Fin 7, mstep (j3 q.val a b f) 0 = if W1.hv q.val f then (j3 q.val a b f).jmp 44 else j4 q.val a b f
  | ⟨0, _⟩ => by kernel_rfl
  | ⟨1, _⟩ => by kernel_rfl
  | ⟨2, _⟩ => by kernel_rfl
  | ⟨3, _⟩ => by kernel_rfl
  | ⟨4, _⟩ => by kernel_rfl
  | ⟨5, _⟩ => by kernel_rfl
  | ⟨6, _⟩ => by kernel_rfl
theorem j_call (a b f : Int) : ∀ q : Fin 7, mstep (j4 q.val a b f) 0 = j5 q.val a b f
  | ⟨0, _⟩ => by kernel_rfl
  | ⟨1, _⟩ => by kernel_rfl
  | ⟨2, _⟩ => by kernel_rfl
  | ⟨3, _⟩ => by kernel_rfl
  | ⟨4, _⟩ => by kernel_rfl
  | ⟨5, _⟩ => by kernel_rfl
  | ⟨6, _⟩ => by kernel_rfl
theorem j_jump (a b f : Int) : ∀ q : Fin 7, mstep (j5 q.val a b f) 0 = j6 q.val a b f
  | ⟨0, _⟩ => by kernel_rfl
  | ⟨1, _⟩ => by kernel_rfl
  | ⟨2, _⟩ => by kernel_rfl
  | ⟨3, _⟩ => by kernel_rfl
  | ⟨4, _⟩ => by kernel_rfl
  | ⟨5, _⟩ => by kernel_rfl
  | ⟨6, _⟩ => by kernel_rfl
theorem j_end (a b f : Int) : ∀ q : Fin 7, (j4 q.val a b f).pc = 8 ∧ (j5 q.val a b f).pc = 88 ∧ (j5 q.val a b f).get 15 = 8 ∧ (j6 q.val a b f).pc = 16 ∧ (j6 q.val a b f).get 18 = 88
  | ⟨0, _⟩ => ⟨by kernel_rfl, by kernel_rfl, by kernel_rfl, by kernel_rfl, by kernel_rfl⟩
  | ⟨1, _⟩ => ⟨by kernel_rfl, by kernel_rfl, by kernel_rfl, by kernel_rfl, by kernel_rfl⟩
  | ⟨2, _⟩ => ⟨by kernel_rfl, by kernel_rfl, by kernel_rfl, by kernel_rfl, by kernel_rfl⟩
  | ⟨3, _⟩ => ⟨by kernel_rfl, by kernel_rfl, by kernel_rfl, by kernel_rfl, by kernel_rfl⟩
  | ⟨4, _⟩ => ⟨by kernel_rfl, by kernel_rfl, by kernel_rfl, by kernel_rfl, by kernel_rfl⟩
  | ⟨5, _⟩ => ⟨by kernel_rfl, by kernel_rfl, by kernel_rfl, by kernel_rfl, by kernel_rfl⟩
  | ⟨6, _⟩ => ⟨by kernel_rfl, by kernel_rfl, by kernel_rfl, by kernel_rfl, by kernel_rfl⟩
theorem j_ops (a b f : Int) : ∀ q : Fin 7, I2.dO (ldB (j2 q.val a b).f (j2 q.val a b).pc.toNat 4) = 16 ∧ I2.dO (ldB (j3 q.val a b f).f (j3 q.val a b f).pc.toNat 4) = 17 ∧ I2.dO (ldB (j4 q.val a b f).f (j4 q.val a b f).pc.toNat 4) = 18 ∧ I2.dO (ldB (j5 q.val a b f).f (j5 q.val a b f).pc.toNat 4) = 19
  | ⟨0, _⟩ => ⟨by kernel_rfl, by kernel_rfl, by kernel_rfl, by kernel_rfl⟩
  | ⟨1, _⟩ => ⟨by kernel_rfl, by kernel_rfl, by kernel_rfl, by kernel_rfl⟩
  | ⟨2, _⟩ => ⟨by kernel_rfl, by kernel_rfl, by kernel_rfl, by kernel_rfl⟩
  | ⟨3, _⟩ => ⟨by kernel_rfl, by kernel_rfl, by kernel_rfl, by kernel_rfl⟩
  | ⟨4, _⟩ => ⟨by kernel_rfl, by kernel_rfl, by kernel_rfl, by kernel_rfl⟩
  | ⟨5, _⟩ => ⟨by kernel_rfl, by kernel_rfl, by kernel_rfl, by kernel_rfl⟩
  | ⟨6, _⟩ => ⟨by kernel_rfl, by kernel_rfl, by kernel_rfl, by kernel_rfl⟩
end Go.Proofs.YtklnoolhjfbhfaaGreatDoor.K6
namespace Go.Proofs.YtklnoolhjfbhfaaGreatDoor.K6
open Go.RowKit
set_option linter.unusedVariables false
theorem all_file {a w : World} {L : List ME} {j : Nat} {b : Nat} {G : Nat → Prop} {m : MS} (h : AllM a w L) (hj : L[j]? = some ⟨b, G, m⟩) :
    Calls Tryz.prog 27 #[.pointer (some ⟨b, 0, none⟩)] w fun e w' => ∃ fb, e = .returned (.pointer (some ⟨fb, 0, none⟩)) ∧ w = w' ∧ F3.FileAt w fb m.nw m.R ∧ MOk m := by
  obtain ⟨fb, mb, g, x, cs, os, P⟩ := h.at' j _ hj
  exact (File_get P).mono fun e w' ⟨e1, e2⟩ => ⟨fb, e1, e2, P.file, P.ok⟩
/-- A register in the window 0, the bank 0. -/
theorem get_00 {w : World} {fb : Nat} {m : MS} (hF : F3.FileAt w fb m.nw m.R) (hm : MOk m) (hc : m.cwp = 0) (hb : m.bank = 0) (r v : Int) (h0 : 0 ≤ r) (h1 : r < 32) (hv : m.get r = v) :
    Calls Tryz.prog 39 #[.pointer (some ⟨fb, 0, none⟩), .int .i64 0, .int .i64 0, .int .i64 r] w fun e w' => e = .returned (.tuple #[.int .u32 v, .int .i64 0]) ∧ Below w.heap.size w w' := by
  have h := F3.get_at fb m.nw m.cwp m.bank r m.R w hF hm.n2 hm.n32 (hm.named h0 h1)
  have e : m.R (F3.loc m.nw m.cwp m.bank r) = v := hv
  rw [e, hc, hb] at h
  exact h
theorem setf_at {w : World} {b fb mb g x : Nat} {cs os : Value} {G : Nat → Prop} {m : MS} (h : MachP w b fb mb g x cs os G m) (hc : m.cwp = 0) (hb : m.bank = 0) (r v : Int) (h0 : 0 ≤ r) (h1 : r < 32) (hv : W32 v) :
    Calls Tryz.prog 37 #[.pointer (some ⟨fb, 0, none⟩), .int .i64 0, .int .i64 0, .int .i64 r, .int .u32 v] w fun e w' => e = .returned (.int .i64 0) ∧ MachP w' b fb mb g x cs os G (m.set r v) ∧ w.grownBy w' (some fb) := by
  have h2 := F3.set_at fb m.nw m.cwp m.bank r v m.R w h.file h.ok.n2 h.ok.n32 (h.ok.named h0 h1)
  rw [show (Value.int IntKind.i64 m.cwp) = Value.int IntKind.i64 0 by rw [hc], show (Value.int IntKind.i64 m.bank) = Value.int IntKind.i64 0 by rw [hb]] at h2
  exact h2.mono fun e w' ⟨e1, e2, e3⟩ => ⟨e1, h.filed e2 e3 (setR_w h.ok.R _ _ _ _ _ hv), e2⟩
end Go.Proofs.YtklnoolhjfbhfaaGreatDoor.K6
namespace Go.Proofs.YtklnoolhjfbhfaaGreatDoor.W1
open Go.RowKit
set_option linter.unusedVariables false
theorem fbits (p q r s : Bool) : fbit (8 * tr p + 4 * tr q + 2 * tr r + tr s) 8 = p ∧ fbit (8 * tr p + 4 * tr q + 2 * tr r + tr s) 4 = q ∧ fbit (8 * tr p + 4 * tr q + 2 * tr r + tr s) 2 = r ∧ fbit (8 * tr p + 4 * tr q + 2 * tr r + tr s) 1 = s := by
  cases p <;> cases q <;> cases r <;> cases s <;> decide
theorem less_is (a b : Int) (ha : 0 ≤ a ∧ a < 4294967296) (hb : 0 ≤ b ∧ b < 4294967296) :
    (decide (wrap32 ((a - b) % 4294967296) < 0) != (wrap32 a - wrap32 b != wrap32 ((a - b) % 4294967296))) = decide (wrap32 a < wrap32 b) := by
  have e : ∀ x y z : Int, (-2147483648 ≤ x ∧ x ≤ 2147483647) → (-2147483648 ≤ y ∧ y ≤ 2147483647) → (-2147483648 ≤ z ∧ z ≤ 2147483647) → (x - y = z ∨ x - y = z + 4294967296 ∨ x - y = z - 4294967296) → (decide (z < 0) != (x - y != z)) = decide (x < y) := by
    intro x y z hx hy hz h
    rcases h with h | h | h
    · by_cases h1 : z < 0
      · have : x < y := by omega
        simp [h, h1, this]
      · have : ¬ x < y := by omega
        simp [h, h1, this]
    · have n1 : ¬ x - y = z := by omega
      have n2 : z < 0 := by omega
      have n3 : ¬ x < y := by omega
      simp [n1, n2, n3]
    · have n1 : ¬ x - y = z := by omega
      have n2 : ¬ z < 0 := by omega
      have n3 : x < y := by omega
      simp [n1, n2, n3]
  refine e _ _ _ (wrap32_bd a) (wrap32_bd b) (wrap32_bd _) ?_
  unfold wrap32
  omega
theorem same_is (a b : Int) (ha : 0 ≤ a ∧ a < 4294967296) (hb : 0 ≤ b ∧ b < 4294967296) : ((a - b) % 4294967296 == 0) = (a == b) := by
  rw [Bool.eq_iff_iff]; simp; omega
theorem conds_are (a b : Int) (ha : 0 ≤ a ∧ a < 4294967296) (hb : 0 ≤ b ∧ b < 4294967296) :
    hv 3 (fl a b) = decide (wrap32 a < wrap32 b) ∧ hv 4 (fl a b) = !decide (wrap32 a < wrap32 b) ∧ hv 5 (fl a b) = decide (a < b) ∧ hv 6 (fl a b) = !decide (a < b) ∧ hv 1 (fl a b) = (a == b) ∧ hv 2 (fl a b) = !(a == b) ∧ hv 0 (fl a b) = true := by
  have h := fbits (decide (wrap32 ((a - b) % 4294967296) < 0)) ((a - b) % 4294967296 == 0) (wrap32 a - wrap32 b != wrap32 ((a - b) % 4294967296)) (decide (a < b))
  obtain ⟨h8, h4, h2, h1⟩ := h
  have k8 : fbit (fl a b) 8 = decide (wrap32 ((a - b) % 4294967296) < 0) := h8
  have k4 : fbit (fl a b) 4 = ((a - b) % 4294967296 == 0) := h4
  have k2 : fbit (fl a b) 2 = (wrap32 a - wrap32 b != wrap32 ((a - b) % 4294967296)) := h2
  have k1 : fbit (fl a b) 1 = decide (a < b) := h1
  have l3 : hv 3 (fl a b) = (fbit (fl a b) 8 != fbit (fl a b) 2) := rfl
  have l4 : hv 4 (fl a b) = (fbit (fl a b) 8 == fbit (fl a b) 2) := rfl
  have l5 : hv 5 (fl a b) = fbit (fl a b) 1 := rfl
  have l6 : hv 6 (fl a b) = !fbit (fl a b) 1 := rfl
  have l1 : hv 1 (fl a b) = fbit (fl a b) 4 := rfl
  have l2 : hv 2 (fl a b) = !fbit (fl a b) 4 := rfl
  have hl := less_is a b ha hb
  refine ⟨?_, ?_, ?_, ?_, ?_, ?_, rfl⟩
  · rw [l3, k8, k2, hl]
  · rw [l4, k8, k2, ← hl]
    cases decide (wrap32 ((a - b) % 4294967296) < 0) <;> cases (wrap32 a - wrap32 b != wrap32 ((a - b) % 4294967296)) <;> rfl
  · rw [l5, k1]
  · rw [l6, k1]
  · rw [l1, k4, same_is a b ha hb]
  · rw [l2, k4, same_is a b ha hb]
end Go.Proofs.YtklnoolhjfbhfaaGreatDoor.W1
namespace Go.Proofs.YtklnoolhjfbhfaaGreatDoor.K6
open Go.RowKit
set_option linter.unusedVariables false
theorem jenc (W : World) : ∃ er, Calls Tryz.prog 38 #[.agg #[.int .u8 19, .int .u8 18, .int .u8 15, .int .u8 0, .bool true, .int .i32 8]] W fun e w' => e = .returned (.tuple #[.int .u32 (wof iJ4), .int .i64 er]) ∧ Below W.heap.size W w' :=
  ⟨_, (I2.renc_any 19 18 15 0 true 8 W (by decide) (by decide) (by decide) (by decide) (by decide)).mono fun e w' hh => ⟨hh.1, hh.2.bel⟩⟩
theorem progJ0 (w : World) (t : TypeId) : ProgAt (w.alloc (.cells #[.int .u8 16, .int .u8 0, .int .u8 16, .int .u8 17, .bool false, .int .i32 0, .int .u8 17, .int .u8 0, .int .u8 0, .int .u8 0, .bool true, .int .i32 10, .int .u8 18, .int .u8 0, .int .u8 0, .int .u8 0, .bool true, .int .i32 20] t)) (.slice (some ⟨w.heap.size, 0, none⟩) 3 3) 3 (iJ 0) := prog_row (heap_alloc_last _ _) 3 3 (iJ 0) fun k hk => by
  match k, hk with
  | 0, _ => exact ⟨rfl, rfl, rfl, rfl, rfl, rfl⟩
  | 1, _ => exact ⟨rfl, rfl, rfl, rfl, rfl, rfl⟩
  | 2, _ => exact ⟨rfl, rfl, rfl, rfl, rfl, rfl⟩
set_option maxRecDepth 100000 in
set_option maxHeartbeats 4000000 in
theorem jumps_0t (cond a b : Int) (w : World) (hT : Tabs w) (hc : cond % 7 = 0) (hc0 : 0 ≤ cond ∧ cond < 256) (ha : W32 a) (hb : W32 b)  :
    Calls Tryz.prog 8 #[.int .u8 cond, .int .u32 a, .int .u32 b] w fun e w' => e = .returned (.bool true) ∧ Below w.heap.size w w' := by
  have C := W1.conds_are a b ha hb
  have HV : Hid (W1.hv 0 (W1.fl a b) = true) := C.2.2.2.2.2.2
  have HA := Lib.hid ha
  have HB := Lib.hid hb
  have HT := Lib.hid hT
  obtain ⟨er, HE⟩ : ∃ er, Hid (∀ W, Calls Tryz.prog 38 #[.agg #[.int .u8 19, .int .u8 18, .int .u8 15, .int .u8 0, .bool true, .int .i32 8]] W fun e w' => e = .returned (.tuple #[.int .u32 (wof iJ4), .int .i64 er]) ∧ Below W.heap.size W w') := ⟨_, fun W => (I2.renc_any 19 18 15 0 true 8 W (by decide) (by decide) (by decide) (by decide) (by decide)).mono fun e w' hh => ⟨hh.1, hh.2.bel⟩⟩
  have HU : Hid (W32 (wof iJ4)) := wof_w iJ4_ok
  obtain ⟨u4, hu4⟩ : ∃ u, u = wof iJ4 := ⟨_, rfl⟩
  rw [← hu4] at HE HU
  have HU4 := Lib.hid hu4
  obtain ⟨hc1, hc2⟩ := hc0
  have B0 : Below w.heap.size w (w.alloc (.cells #[.int .u8 16, .int .u8 0, .int .u8 16, .int .u8 17, .bool false, .int .i32 0, .int .u8 17, .int .u8 0, .int .u8 0, .int .u8 0, .bool true, .int .i32 10, .int .u8 18, .int .u8 0, .int .u8 0, .int .u8 0, .bool true, .int .i32 20] 61)) := bel_alK (Below.refl _ _)
  clear C ha hb hT hu4
  go_enter Tryz.func8, Tryz.ntmps8
  go_wp2_with fail
  refine (small_at _ 3 (iJ 0) _ (progJ0 _ _) (by decide) (iJ_ok (by decide) (by decide)) (HT.out.bel B0)).mono ?_; rintro e w1 ⟨b0, G, rfl, ⟨fb, mb, g, x, cs, os, P1⟩, g1, hG⟩
  have P1 := Lib.hid P1
  have B1 := Lib.hid (bel_trans B0 g1)
  have HG : Hid (∀ i, G i → w.heap.size ≤ i) := fun i hi => Nat.le_trans B0.size (hG i hi)
  clear g1 hG B0
  go_wp2_with fail
  refine (HE.out _).mono ?_; rintro e w2 ⟨rfl, g2⟩
  have P2 := Lib.hid (P1.out.bel g2)
  have B2 := Lib.hid (bel_trans B1.out g2)
  clear P1 B1 g2
  go_wp2_with fail
  refine (Mem_get P2.out).mono ?_; rintro e w3 ⟨rfl, rfl⟩
  go_wp2_with fail
  refine (show Calls _ _ #[_, .int .u32 88, .int .i64 4, .int .u32 u4] _ _ from stores_at 88 4 u4 P2.out HU.out (by decide)).mono ?_; rintro e w3 ⟨rfl, P3, g3⟩
  have P3 : Hid (MachP w3 b0 fb mb g x cs os G (j1 0)) := by rw [HU4.out] at P3; exact P3
  have B3 := Lib.hid (only_bel B2.out g3 (HG.out _ P2.out.gg))
  clear P2 B2 g3
  go_wp2_with fail
  refine (File_get P3.out).mono ?_; rintro e w4 ⟨rfl, rfl⟩
  go_wp2_with fail
  refine (setf_at P3.out rfl rfl 16 a (by decide) (by decide) HA.out).mono ?_; rintro e w4 ⟨rfl, P4, g4⟩
  have P4 := Lib.hid P4
  have B4 := Lib.hid (only_bel B3.out g4 (HG.out _ P3.out.gf))
  clear P3 B3 g4
  go_wp2_with fail
  refine (File_get P4.out).mono ?_; rintro e w5 ⟨rfl, rfl⟩
  go_wp2_with fail
  refine (setf_at P4.out rfl rfl 17 b (by decide) (by decide) HB.out).mono ?_; rintro e w5 ⟨rfl, P5, g5⟩
  have A5 : Hid (AllM w w5 [⟨b0, G, j2 0 a b⟩]) := (AllM.none HT.out).add (only_bel B4.out g5 (HG.out _ P4.out.gf)) P5.b HG.out
  clear P4 B4 g5 P5
  go_wp2_with fail
  refine (all_step 0 A5.out (j := 0) rfl (by decide) (by decide) (Nat.zero_le _) (fun _ _ _ => easy_of (j_ops a b 0 ⟨0, by decide⟩).1 (by decide) (by decide)) rfl rfl).mono ?_; rintro e w6 ⟨rfl, K6, M6, _⟩
  have A6 : Hid (AllM w w6 [⟨b0, K6, j3 0 a b (W1.fl a b)⟩]) := by rw [← (show mstep (j2 0 a b) 0 = j3 0 a b (W1.fl a b) from j_cmp a b ⟨0, by decide⟩)]; exact M6
  clear M6 A5
  go_wp2_with fail
  refine (all_step 0 A6.out (j := 0) rfl (by decide) (by decide) (Nat.zero_le _) (fun _ _ _ => easy_of (j_ops a b (W1.fl a b) ⟨0, by decide⟩).2.1 (by decide) (by decide)) rfl rfl).mono ?_; rintro e w7 ⟨rfl, K7, M7, _⟩
  have JB : mstep (j3 0 a b (W1.fl a b)) 0 = (j3 0 a b (W1.fl a b)).jmp 44 := (show mstep (j3 0 a b (W1.fl a b)) 0 = if W1.hv 0 (W1.fl a b) then (j3 0 a b (W1.fl a b)).jmp 44 else j4 0 a b (W1.fl a b) from j_br a b (W1.fl a b) ⟨0, by decide⟩).trans (by rw [HV.out]; rfl)
  rw [JB] at M7
  have A7 : Hid (AllM w w7 [⟨b0, K7, (j3 0 a b (W1.fl a b)).jmp 44⟩]) := M7
  clear M7 A6 JB
  go_wp2_with fail
  refine (all_pc (AllM.more A7.out (bel_alK (Below.refl _ _))) (j := 0) (v := 44) rfl rfl).mono ?_; rintro e w8 ⟨rfl, M8⟩
  have A8 := Lib.hid M8
  go_wp2_with fail
  refine (head_at _ A8.out.tab).mono ?_; rintro e w9 ⟨rfl, g9⟩
  have g9 := Lib.hid g9
  go_wp2_with fail
  go_ret
  exact ⟨rfl, bel_trans A8.out.bel g9.out⟩
theorem progJ1 (w : World) (t : TypeId) : ProgAt (w.alloc (.cells #[.int .u8 16, .int .u8 0, .int .u8 16, .int .u8 17, .bool false, .int .i32 0, .int .u8 17, .int .u8 1, .int .u8 0, .int .u8 0, .bool true, .int .i32 10, .int .u8 18, .int .u8 0, .int .u8 0, .int .u8 0, .bool true, .int .i32 20] t)) (.slice (some ⟨w.heap.size, 0, none⟩) 3 3) 3 (iJ 1) := prog_row (heap_alloc_last _ _) 3 3 (iJ 1) fun k hk => by
  match k, hk with
  | 0, _ => exact ⟨rfl, rfl, rfl, rfl, rfl, rfl⟩
  | 1, _ => exact ⟨rfl, rfl, rfl, rfl, rfl, rfl⟩
  | 2, _ => exact ⟨rfl, rfl, rfl, rfl, rfl, rfl⟩
set_option maxRecDepth 100000 in
set_option maxHeartbeats 4000000 in
theorem jumps_1t (cond a b : Int) (w : World) (hT : Tabs w) (hc : cond % 7 = 1) (hc0 : 0 ≤ cond ∧ cond < 256) (ha : W32 a) (hb : W32 b) (hx : (a == b) = true) :
    Calls Tryz.prog 8 #[.int .u8 cond, .int .u32 a, .int .u32 b] w fun e w' => e = .returned (.bool true) ∧ Below w.heap.size w w' := by
  have C := W1.conds_are a b ha hb
  have HV : Hid (W1.hv 1 (W1.fl a b) = true) := C.2.2.2.2.1.trans hx
  have HA := Lib.hid ha
  have HB := Lib.hid hb
  have HT := Lib.hid hT
  obtain ⟨er, HE⟩ : ∃ er, Hid (∀ W, Calls Tryz.prog 38 #[.agg #[.int .u8 19, .int .u8 18, .int .u8 15, .int .u8 0, .bool true, .int .i32 8]] W fun e w' => e = .returned (.tuple #[.int .u32 (wof iJ4), .int .i64 er]) ∧ Below W.heap.size W w') := ⟨_, fun W => (I2.renc_any 19 18 15 0 true 8 W (by decide) (by decide) (by decide) (by decide) (by decide)).mono fun e w' hh => ⟨hh.1, hh.2.bel⟩⟩
  have HU : Hid (W32 (wof iJ4)) := wof_w iJ4_ok
  obtain ⟨u4, hu4⟩ : ∃ u, u = wof iJ4 := ⟨_, rfl⟩
  rw [← hu4] at HE HU
  have HU4 := Lib.hid hu4
  obtain ⟨hc1, hc2⟩ := hc0
  have B0 : Below w.heap.size w (w.alloc (.cells #[.int .u8 16, .int .u8 0, .int .u8 16, .int .u8 17, .bool false, .int .i32 0, .int .u8 17, .int .u8 1, .int .u8 0, .int .u8 0, .bool true, .int .i32 10, .int .u8 18, .int .u8 0, .int .u8 0, .int .u8 0, .bool true, .int .i32 20] 61)) := bel_alK (Below.refl _ _)
  clear C ha hb hT hu4
  go_enter Tryz.func8, Tryz.ntmps8
  go_wp2_with fail
  refine (small_at _ 3 (iJ 1) _ (progJ1 _ _) (by decide) (iJ_ok (by decide) (by decide)) (HT.out.bel B0)).mono ?_; rintro e w1 ⟨b0, G, rfl, ⟨fb, mb, g, x, cs, os, P1⟩, g1, hG⟩
  have P1 := Lib.hid P1
  have B1 := Lib.hid (bel_trans B0 g1)
  have HG : Hid (∀ i, G i → w.heap.size ≤ i) := fun i hi => Nat.le_trans B0.size (hG i hi)
  clear g1 hG B0
  go_wp2_with fail
  refine (HE.out _).mono ?_; rintro e w2 ⟨rfl, g2⟩
  have P2 := Lib.hid (P1.out.bel g2)
  have B2 := Lib.hid (bel_trans B1.out g2)
  clear P1 B1 g2
  go_wp2_with fail
  refine (Mem_get P2.out).mono ?_; rintro e w3 ⟨rfl, rfl⟩
  go_wp2_with fail
  refine (show Calls _ _ #[_, .int .u32 88, .int .i64 4, .int .u32 u4] _ _ from stores_at 88 4 u4 P2.out HU.out (by decide)).mono ?_; rintro e w3 ⟨rfl, P3, g3⟩
  have P3 : Hid (MachP w3 b0 fb mb g x cs os G (j1 1)) := by rw [HU4.out] at P3; exact P3
  have B3 := Lib.hid (only_bel B2.out g3 (HG.out _ P2.out.gg))
  clear P2 B2 g3
  go_wp2_with fail
  refine (File_get P3.out).mono ?_; rintro e w4 ⟨rfl, rfl⟩
  go_wp2_with fail
  refine (setf_at P3.out rfl rfl 16 a (by decide) (by decide) HA.out).mono ?_; rintro e w4 ⟨rfl, P4, g4⟩
  have P4 := Lib.hid P4
  have B4 := Lib.hid (only_bel B3.out g4 (HG.out _ P3.out.gf))
  clear P3 B3 g4
  go_wp2_with fail
  refine (File_get P4.out).mono ?_; rintro e w5 ⟨rfl, rfl⟩
  go_wp2_with fail
  refine (setf_at P4.out rfl rfl 17 b (by decide) (by decide) HB.out).mono ?_; rintro e w5 ⟨rfl, P5, g5⟩
  have A5 : Hid (AllM w w5 [⟨b0, G, j2 1 a b⟩]) := (AllM.none HT.out).add (only_bel B4.out g5 (HG.out _ P4.out.gf)) P5.b HG.out
  clear P4 B4 g5 P5
  go_wp2_with fail
  refine (all_step 0 A5.out (j := 0) rfl (by decide) (by decide) (Nat.zero_le _) (fun _ _ _ => easy_of (j_ops a b 0 ⟨1, by decide⟩).1 (by decide) (by decide)) rfl rfl).mono ?_; rintro e w6 ⟨rfl, K6, M6, _⟩
  have A6 : Hid (AllM w w6 [⟨b0, K6, j3 1 a b (W1.fl a b)⟩]) := by rw [← (show mstep (j2 1 a b) 0 = j3 1 a b (W1.fl a b) from j_cmp a b ⟨1, by decide⟩)]; exact M6
  clear M6 A5
  go_wp2_with fail
  refine (all_step 0 A6.out (j := 0) rfl (by decide) (by decide) (Nat.zero_le _) (fun _ _ _ => easy_of (j_ops a b (W1.fl a b) ⟨1, by decide⟩).2.1 (by decide) (by decide)) rfl rfl).mono ?_; rintro e w7 ⟨rfl, K7, M7, _⟩
  have JB : mstep (j3 1 a b (W1.fl a b)) 0 = (j3 1 a b (W1.fl a b)).jmp 44 := (show mstep (j3 1 a b (W1.fl a b)) 0 = if W1.hv 1 (W1.fl a b) then (j3 1 a b (W1.fl a b)).jmp 44 else j4 1 a b (W1.fl a b) from j_br a b (W1.fl a b) ⟨1, by decide⟩).trans (by rw [HV.out]; rfl)
  rw [JB] at M7
  have A7 : Hid (AllM w w7 [⟨b0, K7, (j3 1 a b (W1.fl a b)).jmp 44⟩]) := M7
  clear M7 A6 JB
  go_wp2_with fail
  refine (all_pc (AllM.more A7.out (bel_alK (Below.refl _ _))) (j := 0) (v := 44) rfl rfl).mono ?_; rintro e w8 ⟨rfl, M8⟩
  have A8 := Lib.hid M8
  go_wp2_with fail
  refine (head_at _ A8.out.tab).mono ?_; rintro e w9 ⟨rfl, g9⟩
  have g9 := Lib.hid g9
  go_wp2_with fail
  go_ret
  exact ⟨rfl, bel_trans A8.out.bel g9.out⟩
set_option maxRecDepth 100000 in
set_option maxHeartbeats 4000000 in
theorem jumps_1f (cond a b : Int) (w : World) (hT : Tabs w) (hc : cond % 7 = 1) (hc0 : 0 ≤ cond ∧ cond < 256) (ha : W32 a) (hb : W32 b) (hx : (a == b) = false) :
    Calls Tryz.prog 8 #[.int .u8 cond, .int .u32 a, .int .u32 b] w fun e w' => e = .returned (.bool true) ∧ Below w.heap.size w w' := by
  have C := W1.conds_are a b ha hb
  have HV : Hid (W1.hv 1 (W1.fl a b) = false) := C.2.2.2.2.1.trans hx
  have HA := Lib.hid ha
  have HB := Lib.hid hb
  have HT := Lib.hid hT
  obtain ⟨er, HE⟩ : ∃ er, Hid (∀ W, Calls Tryz.prog 38 #[.agg #[.int .u8 19, .int .u8 18, .int .u8 15, .int .u8 0, .bool true, .int .i32 8]] W fun e w' => e = .returned (.tuple #[.int .u32 (wof iJ4), .int .i64 er]) ∧ Below W.heap.size W w') := ⟨_, fun W => (I2.renc_any 19 18 15 0 true 8 W (by decide) (by decide) (by decide) (by decide) (by decide)).mono fun e w' hh => ⟨hh.1, hh.2.bel⟩⟩
  have HU : Hid (W32 (wof iJ4)) := wof_w iJ4_ok
  obtain ⟨u4, hu4⟩ : ∃ u, u = wof iJ4 := ⟨_, rfl⟩
  rw [← hu4] at HE HU
  have HU4 := Lib.hid hu4
  obtain ⟨hc1, hc2⟩ := hc0
  have B0 : Below w.heap.size w (w.alloc (.cells #[.int .u8 16, .int .u8 0, .int .u8 16, .int .u8 17, .bool false, .int .i32 0, .int .u8 17, .int .u8 1, .int .u8 0, .int .u8 0, .bool true, .int .i32 10, .int .u8 18, .int .u8 0, .int .u8 0, .int .u8 0, .bool true, .int .i32 20] 61)) := bel_alK (Below.refl _ _)
  clear C ha hb hT hu4
  go_enter Tryz.func8, Tryz.ntmps8
  go_wp2_with fail
  refine (small_at _ 3 (iJ 1) _ (progJ1 _ _) (by decide) (iJ_ok (by decide) (by decide)) (HT.out.bel B0)).mono ?_; rintro e w1 ⟨b0, G, rfl, ⟨fb, mb, g, x, cs, os, P1⟩, g1, hG⟩
  have P1 := Lib.hid P1
  have B1 := Lib.hid (bel_trans B0 g1)
  have HG : Hid (∀ i, G i → w.heap.size ≤ i) := fun i hi => Nat.le_trans B0.size (hG i hi)
  clear g1 hG B0
  go_wp2_with fail
  refine (HE.out _).mono ?_; rintro e w2 ⟨rfl, g2⟩
  have P2 := Lib.hid (P1.out.bel g2)
  have B2 := Lib.hid (bel_trans B1.out g2)
  clear P1 B1 g2
  go_wp2_with fail
  refine (Mem_get P2.out).mono ?_; rintro e w3 ⟨rfl, rfl⟩
  go_wp2_with fail
  refine (show Calls _ _ #[_, .int .u32 88, .int .i64 4, .int .u32 u4] _ _ from stores_at 88 4 u4 P2.out HU.out (by decide)).mono ?_; rintro e w3 ⟨rfl, P3, g3⟩
  have P3 : Hid (MachP w3 b0 fb mb g x cs os G (j1 1)) := by rw [HU4.out] at P3; exact P3
  have B3 := Lib.hid (only_bel B2.out g3 (HG.out _ P2.out.gg))
  clear P2 B2 g3
  go_wp2_with fail
  refine (File_get P3.out).mono ?_; rintro e w4 ⟨rfl, rfl⟩
  go_wp2_with fail
  refine (setf_at P3.out rfl rfl 16 a (by decide) (by decide) HA.out).mono ?_; rintro e w4 ⟨rfl, P4, g4⟩
  have P4 := Lib.hid P4
  have B4 := Lib.hid (only_bel B3.out g4 (HG.out _ P3.out.gf))
  clear P3 B3 g4
  go_wp2_with fail
  refine (File_get P4.out).mono ?_; rintro e w5 ⟨rfl, rfl⟩
  go_wp2_with fail
  refine (setf_at P4.out rfl rfl 17 b (by decide) (by decide) HB.out).mono ?_; rintro e w5 ⟨rfl, P5, g5⟩
  have A5 : Hid (AllM w w5 [⟨b0, G, j2 1 a b⟩]) := (AllM.none HT.out).add (only_bel B4.out g5 (HG.out _ P4.out.gf)) P5.b HG.out
  clear P4 B4 g5 P5
  go_wp2_with fail
  refine (all_step 0 A5.out (j := 0) rfl (by decide) (by decide) (Nat.zero_le _) (fun _ _ _ => easy_of (j_ops a b 0 ⟨1, by decide⟩).1 (by decide) (by decide)) rfl rfl).mono ?_; rintro e w6 ⟨rfl, K6, M6, _⟩
  have A6 : Hid (AllM w w6 [⟨b0, K6, j3 1 a b (W1.fl a b)⟩]) := by rw [← (show mstep (j2 1 a b) 0 = j3 1 a b (W1.fl a b) from j_cmp a b ⟨1, by decide⟩)]; exact M6
  clear M6 A5
  go_wp2_with fail
  refine (all_step 0 A6.out (j := 0) rfl (by decide) (by decide) (Nat.zero_le _) (fun _ _ _ => easy_of (j_ops a b (W1.fl a b) ⟨1, by decide⟩).2.1 (by decide) (by decide)) rfl rfl).mono ?_; rintro e w7 ⟨rfl, K7, M7, _⟩
  have JB : mstep (j3 1 a b (W1.fl a b)) 0 = j4 1 a b (W1.fl a b) := (show mstep (j3 1 a b (W1.fl a b)) 0 = if W1.hv 1 (W1.fl a b) then (j3 1 a b (W1.fl a b)).jmp 44 else j4 1 a b (W1.fl a b) from j_br a b (W1.fl a b) ⟨1, by decide⟩).trans (by rw [HV.out]; rfl)
  rw [JB] at M7
  have A7 : Hid (AllM w w7 [⟨b0, K7, j4 1 a b (W1.fl a b)⟩]) := M7
  clear M7 A6 JB
  have JE := Lib.hid (show (j4 1 a b (W1.fl a b)).pc = 8 ∧ (j5 1 a b (W1.fl a b)).pc = 88 ∧ (j5 1 a b (W1.fl a b)).get 15 = 8 ∧ (j6 1 a b (W1.fl a b)).pc = 16 ∧ (j6 1 a b (W1.fl a b)).get 18 = 88 from j_end a b (W1.fl a b) ⟨1, by decide⟩)
  go_wp2_with fail
  refine (all_pc (AllM.more A7.out (bel_alK (Below.refl _ _))) (j := 0) (v := 8) rfl JE.out.1).mono ?_; rintro e w8 ⟨rfl, M8⟩
  have A8 := Lib.hid M8
  go_wp2_with fail
  refine (all_step 0 A8.out (j := 0) rfl (by decide) (by decide) (Nat.zero_le _) (fun _ _ _ => easy_of (j_ops a b (W1.fl a b) ⟨1, by decide⟩).2.2.1 (by decide) (by decide)) rfl rfl).mono ?_; rintro e w9 ⟨rfl, K9, M9, _⟩
  have A9 : Hid (AllM w w9 [⟨b0, K9, j5 1 a b (W1.fl a b)⟩]) := by rw [← (show mstep (j4 1 a b (W1.fl a b)) 0 = j5 1 a b (W1.fl a b) from j_call a b (W1.fl a b) ⟨1, by decide⟩)]; exact M9
  clear M9 A7 A8
  go_wp2_with fail
  refine (all_file A9.out (j := 0) rfl).mono ?_; rintro e w10 ⟨fb9, rfl, rfl, F9, O9⟩
  go_wp2_with fail
  refine (get_00 F9 O9 rfl rfl 15 8 (by decide) (by decide) JE.out.2.2.1).mono ?_; rintro e w10 ⟨rfl, g10⟩
  have A10 := Lib.hid (A9.out.more g10)
  clear F9 O9 g10
  go_wp2_with fail
  refine (all_pc A10.out (j := 0) (v := 88) rfl JE.out.2.1).mono ?_; rintro e w11 ⟨rfl, M11⟩
  have A11 := Lib.hid M11
  go_wp2_with fail
  refine (all_step 0 A11.out (j := 0) rfl (by decide) (by decide) (Nat.zero_le _) (fun _ _ _ => easy_of (j_ops a b (W1.fl a b) ⟨1, by decide⟩).2.2.2 (by decide) (by decide)) rfl rfl).mono ?_; rintro e w12 ⟨rfl, K12, M12, _⟩
  have A12 : Hid (AllM w w12 [⟨b0, K12, j6 1 a b (W1.fl a b)⟩]) := by rw [← (show mstep (j5 1 a b (W1.fl a b)) 0 = j6 1 a b (W1.fl a b) from j_jump a b (W1.fl a b) ⟨1, by decide⟩)]; exact M12
  clear M12 A10 A11
  go_wp2_with fail
  refine (all_file A12.out (j := 0) rfl).mono ?_; rintro e w13 ⟨fb12, rfl, rfl, F12, O12⟩
  go_wp2_with fail
  refine (get_00 F12 O12 rfl rfl 18 88 (by decide) (by decide) JE.out.2.2.2.2).mono ?_; rintro e w13 ⟨rfl, g13⟩
  have A13 := Lib.hid (A12.out.more g13)
  clear F12 O12 g13
  go_wp2_with fail
  refine (all_pc A13.out (j := 0) (v := 16) rfl JE.out.2.2.2.1).mono ?_; rintro e w14 ⟨rfl, M14⟩
  have A14 := Lib.hid M14
  go_wp2_with fail
  refine (head_at _ A14.out.tab).mono ?_; rintro e w15 ⟨rfl, g15⟩
  have g15 := Lib.hid g15
  go_wp2_with fail
  go_ret
  exact ⟨rfl, bel_trans A14.out.bel g15.out⟩
theorem progJ2 (w : World) (t : TypeId) : ProgAt (w.alloc (.cells #[.int .u8 16, .int .u8 0, .int .u8 16, .int .u8 17, .bool false, .int .i32 0, .int .u8 17, .int .u8 2, .int .u8 0, .int .u8 0, .bool true, .int .i32 10, .int .u8 18, .int .u8 0, .int .u8 0, .int .u8 0, .bool true, .int .i32 20] t)) (.slice (some ⟨w.heap.size, 0, none⟩) 3 3) 3 (iJ 2) := prog_row (heap_alloc_last _ _) 3 3 (iJ 2) fun k hk => by
  match k, hk with
  | 0, _ => exact ⟨rfl, rfl, rfl, rfl, rfl, rfl⟩
  | 1, _ => exact ⟨rfl, rfl, rfl, rfl, rfl, rfl⟩
  | 2, _ => exact ⟨rfl, rfl, rfl, rfl, rfl, rfl⟩
set_option maxRecDepth 100000 in
set_option maxHeartbeats 4000000 in
theorem jumps_2t (cond a b : Int) (w : World) (hT : Tabs w) (hc : cond % 7 = 2) (hc0 : 0 ≤ cond ∧ cond < 256) (ha : W32 a) (hb : W32 b) (hx : (a == b) = false) :
    Calls Tryz.prog 8 #[.int .u8 cond, .int .u32 a, .int .u32 b] w fun e w' => e = .returned (.bool true) ∧ Below w.heap.size w w' := by
  have C := W1.conds_are a b ha hb
  have HV : Hid (W1.hv 2 (W1.fl a b) = true) := C.2.2.2.2.2.1.trans (by rw [hx]; rfl)
  have HA := Lib.hid ha
  have HB := Lib.hid hb
  have HT := Lib.hid hT
  obtain ⟨er, HE⟩ : ∃ er, Hid (∀ W, Calls Tryz.prog 38 #[.agg #[.int .u8 19, .int .u8 18, .int .u8 15, .int .u8 0, .bool true, .int .i32 8]] W fun e w' => e = .returned (.tuple #[.int .u32 (wof iJ4), .int .i64 er]) ∧ Below W.heap.size W w') := ⟨_, fun W => (I2.renc_any 19 18 15 0 true 8 W (by decide) (by decide) (by decide) (by decide) (by decide)).mono fun e w' hh => ⟨hh.1, hh.2.bel⟩⟩
  have HU : Hid (W32 (wof iJ4)) := wof_w iJ4_ok
  obtain ⟨u4, hu4⟩ : ∃ u, u = wof iJ4 := ⟨_, rfl⟩
  rw [← hu4] at HE HU
  have HU4 := Lib.hid hu4
  obtain ⟨hc1, hc2⟩ := hc0
  have B0 : Below w.heap.size w (w.alloc (.cells #[.int .u8 16, .int .u8 0, .int .u8 16, .int .u8 17, .bool false, .int .i32 0, .int .u8 17, .int .u8 2, .int .u8 0, .int .u8 0, .bool true, .int .i32 10, .int .u8 18, .int .u8 0, .int .u8 0, .int .u8 0, .bool true, .int .i32 20] 61)) := bel_alK (Below.refl _ _)
  clear C ha hb hT hu4
  go_enter Tryz.func8, Tryz.ntmps8
  go_wp2_with fail
  refine (small_at _ 3 (iJ 2) _ (progJ2 _ _) (by decide) (iJ_ok (by decide) (by decide)) (HT.out.bel B0)).mono ?_; rintro e w1 ⟨b0, G, rfl, ⟨fb, mb, g, x, cs, os, P1⟩, g1, hG⟩
  have P1 := Lib.hid P1
  have B1 := Lib.hid (bel_trans B0 g1)
  have HG : Hid (∀ i, G i → w.heap.size ≤ i) := fun i hi => Nat.le_trans B0.size (hG i hi)
  clear g1 hG B0
  go_wp2_with fail
  refine (HE.out _).mono ?_; rintro e w2 ⟨rfl, g2⟩
  have P2 := Lib.hid (P1.out.bel g2)
  have B2 := Lib.hid (bel_trans B1.out g2)
  clear P1 B1 g2
  go_wp2_with fail
  refine (Mem_get P2.out).mono ?_; rintro e w3 ⟨rfl, rfl⟩
  go_wp2_with fail
  refine (show Calls _ _ #[_, .int .u32 88, .int .i64 4, .int .u32 u4] _ _ from stores_at 88 4 u4 P2.out HU.out (by decide)).mono ?_; rintro e w3 ⟨rfl, P3, g3⟩
  have P3 : Hid (MachP w3 b0 fb mb g x cs os G (j1 2)) := by rw [HU4.out] at P3; exact P3
  have B3 := Lib.hid (only_bel B2.out g3 (HG.out _ P2.out.gg))
  clear P2 B2 g3
  go_wp2_with fail
  refine (File_get P3.out).mono ?_; rintro e w4 ⟨rfl, rfl⟩
  go_wp2_with fail
  refine (setf_at P3.out rfl rfl 16 a (by decide) (by decide) HA.out).mono ?_; rintro e w4 ⟨rfl, P4, g4⟩
  have P4 := Lib.hid P4
  have B4 := Lib.hid (only_bel B3.out g4 (HG.out _ P3.out.gf))
  clear P3 B3 g4
  go_wp2_with fail
  refine (File_get P4.out).mono ?_; rintro e w5 ⟨rfl, rfl⟩
  go_wp2_with fail
  refine (setf_at P4.out rfl rfl 17 b (by decide) (by decide) HB.out).mono ?_; rintro e w5 ⟨rfl, P5, g5⟩
  have A5 : Hid (AllM w w5 [⟨b0, G, j2 2 a b⟩]) := (AllM.none HT.out).add (only_bel B4.out g5 (HG.out _ P4.out.gf)) P5.b HG.out
  clear P4 B4 g5 P5
  go_wp2_with fail
  refine (all_step 0 A5.out (j := 0) rfl (by decide) (by decide) (Nat.zero_le _) (fun _ _ _ => easy_of (j_ops a b 0 ⟨2, by decide⟩).1 (by decide) (by decide)) rfl rfl).mono ?_; rintro e w6 ⟨rfl, K6, M6, _⟩
  have A6 : Hid (AllM w w6 [⟨b0, K6, j3 2 a b (W1.fl a b)⟩]) := by rw [← (show mstep (j2 2 a b) 0 = j3 2 a b (W1.fl a b) from j_cmp a b ⟨2, by decide⟩)]; exact M6
  clear M6 A5
  go_wp2_with fail
  refine (all_step 0 A6.out (j := 0) rfl (by decide) (by decide) (Nat.zero_le _) (fun _ _ _ => easy_of (j_ops a b (W1.fl a b) ⟨2, by decide⟩).2.1 (by decide) (by decide)) rfl rfl).mono ?_; rintro e w7 ⟨rfl, K7, M7, _⟩
  have JB : mstep (j3 2 a b (W1.fl a b)) 0 = (j3 2 a b (W1.fl a b)).jmp 44 := (show mstep (j3 2 a b (W1.fl a b)) 0 = if W1.hv 2 (W1.fl a b) then (j3 2 a b (W1.fl a b)).jmp 44 else j4 2 a b (W1.fl a b) from j_br a b (W1.fl a b) ⟨2, by decide⟩).trans (by rw [HV.out]; rfl)
  rw [JB] at M7
  have A7 : Hid (AllM w w7 [⟨b0, K7, (j3 2 a b (W1.fl a b)).jmp 44⟩]) := M7
  clear M7 A6 JB
  go_wp2_with fail
  refine (all_pc (AllM.more A7.out (bel_alK (Below.refl _ _))) (j := 0) (v := 44) rfl rfl).mono ?_; rintro e w8 ⟨rfl, M8⟩
  have A8 := Lib.hid M8
  go_wp2_with fail
  refine (head_at _ A8.out.tab).mono ?_; rintro e w9 ⟨rfl, g9⟩
  have g9 := Lib.hid g9
  go_wp2_with fail
  go_ret
  exact ⟨rfl, bel_trans A8.out.bel g9.out⟩
set_option maxRecDepth 100000 in
set_option maxHeartbeats 4000000 in
theorem jumps_2f (cond a b : Int) (w : World) (hT : Tabs w) (hc : cond % 7 = 2) (hc0 : 0 ≤ cond ∧ cond < 256) (ha : W32 a) (hb : W32 b) (hx : (a == b) = true) :
    Calls Tryz.prog 8 #[.int .u8 cond, .int .u32 a, .int .u32 b] w fun e w' => e = .returned (.bool true) ∧ Below w.heap.size w w' := by
  have C := W1.conds_are a b ha hb
  have HV : Hid (W1.hv 2 (W1.fl a b) = false) := C.2.2.2.2.2.1.trans (by rw [hx]; rfl)
  have HA := Lib.hid ha
  have HB := Lib.hid hb
  have HT := Lib.hid hT
  obtain ⟨er, HE⟩ : ∃ er, Hid (∀ W, Calls Tryz.prog 38 #[.agg #[.int .u8 19, .int .u8 18, .int .u8 15, .int .u8 0, .bool true, .int .i32 8]] W fun e w' => e = .returned (.tuple #[.int .u32 (wof iJ4), .int .i64 er]) ∧ Below W.heap.size W w') := ⟨_, fun W => (I2.renc_any 19 18 15 0 true 8 W (by decide) (by decide) (by decide) (by decide) (by decide)).mono fun e w' hh => ⟨hh.1, hh.2.bel⟩⟩
  have HU : Hid (W32 (wof iJ4)) := wof_w iJ4_ok
  obtain ⟨u4, hu4⟩ : ∃ u, u = wof iJ4 := ⟨_, rfl⟩
  rw [← hu4] at HE HU
  have HU4 := Lib.hid hu4
  obtain ⟨hc1, hc2⟩ := hc0
  have B0 : Below w.heap.size w (w.alloc (.cells #[.int .u8 16, .int .u8 0, .int .u8 16, .int .u8 17, .bool false, .int .i32 0, .int .u8 17, .int .u8 2, .int .u8 0, .int .u8 0, .bool true, .int .i32 10, .int .u8 18, .int .u8 0, .int .u8 0, .int .u8 0, .bool true, .int .i32 20] 61)) := bel_alK (Below.refl _ _)
  clear C ha hb hT hu4
  go_enter Tryz.func8, Tryz.ntmps8
  go_wp2_with fail
  refine (small_at _ 3 (iJ 2) _ (progJ2 _ _) (by decide) (iJ_ok (by decide) (by decide)) (HT.out.bel B0)).mono ?_; rintro e w1 ⟨b0, G, rfl, ⟨fb, mb, g, x, cs, os, P1⟩, g1, hG⟩
  have P1 := Lib.hid P1
  have B1 := Lib.hid (bel_trans B0 g1)
  have HG : Hid (∀ i, G i → w.heap.size ≤ i) := fun i hi => Nat.le_trans B0.size (hG i hi)
  clear g1 hG B0
  go_wp2_with fail
  refine (HE.out _).mono ?_; rintro e w2 ⟨rfl, g2⟩
  have P2 := Lib.hid (P1.out.bel g2)
  have B2 := Lib.hid (bel_trans B1.out g2)
  clear P1 B1 g2
  go_wp2_with fail
  refine (Mem_get P2.out).mono ?_; rintro e w3 ⟨rfl, rfl⟩
  go_wp2_with fail
  refine (show Calls _ _ #[_, .int .u32 88, .int .i64 4, .int .u32 u4] _ _ from stores_at 88 4 u4 P2.out HU.out (by decide)).mono ?_; rintro e w3 ⟨rfl, P3, g3⟩
  have P3 : Hid (MachP w3 b0 fb mb g x cs os G (j1 2)) := by rw [HU4.out] at P3; exact P3
  have B3 := Lib.hid (only_bel B2.out g3 (HG.out _ P2.out.gg))
  clear P2 B2 g3
  go_wp2_with fail
  refine (File_get P3.out).mono ?_; rintro e w4 ⟨rfl, rfl⟩
  go_wp2_with fail
  refine (setf_at P3.out rfl rfl 16 a (by decide) (by decide) HA.out).mono ?_; rintro e w4 ⟨rfl, P4, g4⟩
  have P4 := Lib.hid P4
  have B4 := Lib.hid (only_bel B3.out g4 (HG.out _ P3.out.gf))
  clear P3 B3 g4
  go_wp2_with fail
  refine (File_get P4.out).mono ?_; rintro e w5 ⟨rfl, rfl⟩
  go_wp2_with fail
  refine (setf_at P4.out rfl rfl 17 b (by decide) (by decide) HB.out).mono ?_; rintro e w5 ⟨rfl, P5, g5⟩
  have A5 : Hid (AllM w w5 [⟨b0, G, j2 2 a b⟩]) := (AllM.none HT.out).add (only_bel B4.out g5 (HG.out _ P4.out.gf)) P5.b HG.out
  clear P4 B4 g5 P5
  go_wp2_with fail
  refine (all_step 0 A5.out (j := 0) rfl (by decide) (by decide) (Nat.zero_le _) (fun _ _ _ => easy_of (j_ops a b 0 ⟨2, by decide⟩).1 (by decide) (by decide)) rfl rfl).mono ?_; rintro e w6 ⟨rfl, K6, M6, _⟩
  have A6 : Hid (AllM w w6 [⟨b0, K6, j3 2 a b (W1.fl a b)⟩]) := by rw [← (show mstep (j2 2 a b) 0 = j3 2 a b (W1.fl a b) from j_cmp a b ⟨2, by decide⟩)]; exact M6
  clear M6 A5
  go_wp2_with fail
  refine (all_step 0 A6.out (j := 0) rfl (by decide) (by decide) (Nat.zero_le _) (fun _ _ _ => easy_of (j_ops a b (W1.fl a b) ⟨2, by decide⟩).2.1 (by decide) (by decide)) rfl rfl).mono ?_; rintro e w7 ⟨rfl, K7, M7, _⟩
  have JB : mstep (j3 2 a b (W1.fl a b)) 0 = j4 2 a b (W1.fl a b) := (show mstep (j3 2 a b (W1.fl a b)) 0 = if W1.hv 2 (W1.fl a b) then (j3 2 a b (W1.fl a b)).jmp 44 else j4 2 a b (W1.fl a b) from j_br a b (W1.fl a b) ⟨2, by decide⟩).trans (by rw [HV.out]; rfl)
  rw [JB] at M7
  have A7 : Hid (AllM w w7 [⟨b0, K7, j4 2 a b (W1.fl a b)⟩]) := M7
  clear M7 A6 JB
  have JE := Lib.hid (show (j4 2 a b (W1.fl a b)).pc = 8 ∧ (j5 2 a b (W1.fl a b)).pc = 88 ∧ (j5 2 a b (W1.fl a b)).get 15 = 8 ∧ (j6 2 a b (W1.fl a b)).pc = 16 ∧ (j6 2 a b (W1.fl a b)).get 18 = 88 from j_end a b (W1.fl a b) ⟨2, by decide⟩)
  go_wp2_with fail
  refine (all_pc (AllM.more A7.out (bel_alK (Below.refl _ _))) (j := 0) (v := 8) rfl JE.out.1).mono ?_; rintro e w8 ⟨rfl, M8⟩
  have A8 := Lib.hid M8
  go_wp2_with fail
  refine (all_step 0 A8.out (j := 0) rfl (by decide) (by decide) (Nat.zero_le _) (fun _ _ _ => easy_of (j_ops a b (W1.fl a b) ⟨2, by decide⟩).2.2.1 (by decide) (by decide)) rfl rfl).mono ?_; rintro e w9 ⟨rfl, K9, M9, _⟩
  have A9 : Hid (AllM w w9 [⟨b0, K9, j5 2 a b (W1.fl a b)⟩]) := by rw [← (show mstep (j4 2 a b (W1.fl a b)) 0 = j5 2 a b (W1.fl a b) from j_call a b (W1.fl a b) ⟨2, by decide⟩)]; exact M9
  clear M9 A7 A8
  go_wp2_with fail
  refine (all_file A9.out (j := 0) rfl).mono ?_; rintro e w10 ⟨fb9, rfl, rfl, F9, O9⟩
  go_wp2_with fail
  refine (get_00 F9 O9 rfl rfl 15 8 (by decide) (by decide) JE.out.2.2.1).mono ?_; rintro e w10 ⟨rfl, g10⟩
  have A10 := Lib.hid (A9.out.more g10)
  clear F9 O9 g10
  go_wp2_with fail
  refine (all_pc A10.out (j := 0) (v := 88) rfl JE.out.2.1).mono ?_; rintro e w11 ⟨rfl, M11⟩
  have A11 := Lib.hid M11
  go_wp2_with fail
  refine (all_step 0 A11.out (j := 0) rfl (by decide) (by decide) (Nat.zero_le _) (fun _ _ _ => easy_of (j_ops a b (W1.fl a b) ⟨2, by decide⟩).2.2.2 (by decide) (by decide)) rfl rfl).mono ?_; rintro e w12 ⟨rfl, K12, M12, _⟩
  have A12 : Hid (AllM w w12 [⟨b0, K12, j6 2 a b (W1.fl a b)⟩]) := by rw [← (show mstep (j5 2 a b (W1.fl a b)) 0 = j6 2 a b (W1.fl a b) from j_jump a b (W1.fl a b) ⟨2, by decide⟩)]; exact M12
  clear M12 A10 A11
  go_wp2_with fail
  refine (all_file A12.out (j := 0) rfl).mono ?_; rintro e w13 ⟨fb12, rfl, rfl, F12, O12⟩
  go_wp2_with fail
  refine (get_00 F12 O12 rfl rfl 18 88 (by decide) (by decide) JE.out.2.2.2.2).mono ?_; rintro e w13 ⟨rfl, g13⟩
  have A13 := Lib.hid (A12.out.more g13)
  clear F12 O12 g13
  go_wp2_with fail
  refine (all_pc A13.out (j := 0) (v := 16) rfl JE.out.2.2.2.1).mono ?_; rintro e w14 ⟨rfl, M14⟩
  have A14 := Lib.hid M14
  go_wp2_with fail
  refine (head_at _ A14.out.tab).mono ?_; rintro e w15 ⟨rfl, g15⟩
  have g15 := Lib.hid g15
  go_wp2_with fail
  go_ret
  exact ⟨rfl, bel_trans A14.out.bel g15.out⟩
theorem progJ3 (w : World) (t : TypeId) : ProgAt (w.alloc (.cells #[.int .u8 16, .int .u8 0, .int .u8 16, .int .u8 17, .bool false, .int .i32 0, .int .u8 17, .int .u8 3, .int .u8 0, .int .u8 0, .bool true, .int .i32 10, .int .u8 18, .int .u8 0, .int .u8 0, .int .u8 0, .bool true, .int .i32 20] t)) (.slice (some ⟨w.heap.size, 0, none⟩) 3 3) 3 (iJ 3) := prog_row (heap_alloc_last _ _) 3 3 (iJ 3) fun k hk => by
  match k, hk with
  | 0, _ => exact ⟨rfl, rfl, rfl, rfl, rfl, rfl⟩
  | 1, _ => exact ⟨rfl, rfl, rfl, rfl, rfl, rfl⟩
  | 2, _ => exact ⟨rfl, rfl, rfl, rfl, rfl, rfl⟩
set_option maxRecDepth 100000 in
set_option maxHeartbeats 4000000 in
theorem jumps_3t (cond a b : Int) (w : World) (hT : Tabs w) (hc : cond % 7 = 3) (hc0 : 0 ≤ cond ∧ cond < 256) (ha : W32 a) (hb : W32 b) (hx : wrap32 a < wrap32 b) :
    Calls Tryz.prog 8 #[.int .u8 cond, .int .u32 a, .int .u32 b] w fun e w' => e = .returned (.bool true) ∧ Below w.heap.size w w' := by
  have C := W1.conds_are a b ha hb
  have HV : Hid (W1.hv 3 (W1.fl a b) = true) := C.1.trans (by simpa using hx)
  have HA := Lib.hid ha
  have HB := Lib.hid hb
  have HT := Lib.hid hT
  obtain ⟨er, HE⟩ : ∃ er, Hid (∀ W, Calls Tryz.prog 38 #[.agg #[.int .u8 19, .int .u8 18, .int .u8 15, .int .u8 0, .bool true, .int .i32 8]] W fun e w' => e = .returned (.tuple #[.int .u32 (wof iJ4), .int .i64 er]) ∧ Below W.heap.size W w') := ⟨_, fun W => (I2.renc_any 19 18 15 0 true 8 W (by decide) (by decide) (by decide) (by decide) (by decide)).mono fun e w' hh => ⟨hh.1, hh.2.bel⟩⟩
  have HU : Hid (W32 (wof iJ4)) := wof_w iJ4_ok
  obtain ⟨u4, hu4⟩ : ∃ u, u = wof iJ4 := ⟨_, rfl⟩
  rw [← hu4] at HE HU
  have HU4 := Lib.hid hu4
  obtain ⟨hc1, hc2⟩ := hc0
  have B0 : Below w.heap.size w (w.alloc (.cells #[.int .u8 16, .int .u8 0, .int .u8 16, .int .u8 17, .bool false, .int .i32 0, .int .u8 17, .int .u8 3, .int .u8 0, .int .u8 0, .bool true, .int .i32 10, .int .u8 18, .int .u8 0, .int .u8 0, .int .u8 0, .bool true, .int .i32 20] 61)) := bel_alK (Below.refl _ _)
  clear C ha hb hT hu4
  go_enter Tryz.func8, Tryz.ntmps8
  go_wp2_with fail
  refine (small_at _ 3 (iJ 3) _ (progJ3 _ _) (by decide) (iJ_ok (by decide) (by decide)) (HT.out.bel B0)).mono ?_; rintro e w1 ⟨b0, G, rfl, ⟨fb, mb, g, x, cs, os, P1⟩, g1, hG⟩
  have P1 := Lib.hid P1
  have B1 := Lib.hid (bel_trans B0 g1)
  have HG : Hid (∀ i, G i → w.heap.size ≤ i) := fun i hi => Nat.le_trans B0.size (hG i hi)
  clear g1 hG B0
  go_wp2_with fail
  refine (HE.out _).mono ?_; rintro e w2 ⟨rfl, g2⟩
  have P2 := Lib.hid (P1.out.bel g2)
  have B2 := Lib.hid (bel_trans B1.out g2)
  clear P1 B1 g2
  go_wp2_with fail
  refine (Mem_get P2.out).mono ?_; rintro e w3 ⟨rfl, rfl⟩
  go_wp2_with fail
  refine (show Calls _ _ #[_, .int .u32 88, .int .i64 4, .int .u32 u4] _ _ from stores_at 88 4 u4 P2.out HU.out (by decide)).mono ?_; rintro e w3 ⟨rfl, P3, g3⟩
  have P3 : Hid (MachP w3 b0 fb mb g x cs os G (j1 3)) := by rw [HU4.out] at P3; exact P3
  have B3 := Lib.hid (only_bel B2.out g3 (HG.out _ P2.out.gg))
  clear P2 B2 g3
  go_wp2_with fail
  refine (File_get P3.out).mono ?_; rintro e w4 ⟨rfl, rfl⟩
  go_wp2_with fail
  refine (setf_at P3.out rfl rfl 16 a (by decide) (by decide) HA.out).mono ?_; rintro e w4 ⟨rfl, P4, g4⟩
  have P4 := Lib.hid P4
  have B4 := Lib.hid (only_bel B3.out g4 (HG.out _ P3.out.gf))
  clear P3 B3 g4
  go_wp2_with fail
  refine (File_get P4.out).mono ?_; rintro e w5 ⟨rfl, rfl⟩
  go_wp2_with fail
  refine (setf_at P4.out rfl rfl 17 b (by decide) (by decide) HB.out).mono ?_; rintro e w5 ⟨rfl, P5, g5⟩
  have A5 : Hid (AllM w w5 [⟨b0, G, j2 3 a b⟩]) := (AllM.none HT.out).add (only_bel B4.out g5 (HG.out _ P4.out.gf)) P5.b HG.out
  clear P4 B4 g5 P5
  go_wp2_with fail
  refine (all_step 0 A5.out (j := 0) rfl (by decide) (by decide) (Nat.zero_le _) (fun _ _ _ => easy_of (j_ops a b 0 ⟨3, by decide⟩).1 (by decide) (by decide)) rfl rfl).mono ?_; rintro e w6 ⟨rfl, K6, M6, _⟩
  have A6 : Hid (AllM w w6 [⟨b0, K6, j3 3 a b (W1.fl a b)⟩]) := by rw [← (show mstep (j2 3 a b) 0 = j3 3 a b (W1.fl a b) from j_cmp a b ⟨3, by decide⟩)]; exact M6
  clear M6 A5
  go_wp2_with fail
  refine (all_step 0 A6.out (j := 0) rfl (by decide) (by decide) (Nat.zero_le _) (fun _ _ _ => easy_of (j_ops a b (W1.fl a b) ⟨3, by decide⟩).2.1 (by decide) (by decide)) rfl rfl).mono ?_; rintro e w7 ⟨rfl, K7, M7, _⟩
  have JB : mstep (j3 3 a b (W1.fl a b)) 0 = (j3 3 a b (W1.fl a b)).jmp 44 := (show mstep (j3 3 a b (W1.fl a b)) 0 = if W1.hv 3 (W1.fl a b) then (j3 3 a b (W1.fl a b)).jmp 44 else j4 3 a b (W1.fl a b) from j_br a b (W1.fl a b) ⟨3, by decide⟩).trans (by rw [HV.out]; rfl)
  rw [JB] at M7
  have A7 : Hid (AllM w w7 [⟨b0, K7, (j3 3 a b (W1.fl a b)).jmp 44⟩]) := M7
  clear M7 A6 JB
  go_wp2_with fail
  refine (all_pc (AllM.more A7.out (bel_alK (Below.refl _ _))) (j := 0) (v := 44) rfl rfl).mono ?_; rintro e w8 ⟨rfl, M8⟩
  have A8 := Lib.hid M8
  go_wp2_with fail
  refine (head_at _ A8.out.tab).mono ?_; rintro e w9 ⟨rfl, g9⟩
  have g9 := Lib.hid g9
  go_wp2_with fail
  go_ret
  exact ⟨rfl, bel_trans A8.out.bel g9.out⟩
set_option maxRecDepth 100000 in
set_option maxHeartbeats 4000000 in
theorem jumps_3f (cond a b : Int) (w : World) (hT : Tabs w) (hc : cond % 7 = 3) (hc0 : 0 ≤ cond ∧ cond < 256) (ha : W32 a) (hb : W32 b) (hx : ¬ wrap32 a < wrap32 b) :
    Calls Tryz.prog 8 #[.int .u8 cond, .int .u32 a, .int .u32 b] w fun e w' => e = .returned (.bool true) ∧ Below w.heap.size w w' := by
  have C := W1.conds_are a b ha hb
  have HV : Hid (W1.hv 3 (W1.fl a b) = false) := C.1.trans (by simpa using hx)
  have HA := Lib.hid ha
  have HB := Lib.hid hb
  have HT := Lib.hid hT
  obtain ⟨er, HE⟩ : ∃ er, Hid (∀ W, Calls Tryz.prog 38 #[.agg #[.int .u8 19, .int .u8 18, .int .u8 15, .int .u8 0, .bool true, .int .i32 8]] W fun e w' => e = .returned (.tuple #[.int .u32 (wof iJ4), .int .i64 er]) ∧ Below W.heap.size W w') := ⟨_, fun W => (I2.renc_any 19 18 15 0 true 8 W (by decide) (by decide) (by decide) (by decide) (by decide)).mono fun e w' hh => ⟨hh.1, hh.2.bel⟩⟩
  have HU : Hid (W32 (wof iJ4)) := wof_w iJ4_ok
  obtain ⟨u4, hu4⟩ : ∃ u, u = wof iJ4 := ⟨_, rfl⟩
  rw [← hu4] at HE HU
  have HU4 := Lib.hid hu4
  obtain ⟨hc1, hc2⟩ := hc0
  have B0 : Below w.heap.size w (w.alloc (.cells #[.int .u8 16, .int .u8 0, .int .u8 16, .int .u8 17, .bool false, .int .i32 0, .int .u8 17, .int .u8 3, .int .u8 0, .int .u8 0, .bool true, .int .i32 10, .int .u8 18, .int .u8 0, .int .u8 0, .int .u8 0, .bool true, .int .i32 20] 61)) := bel_alK (Below.refl _ _)
  clear C ha hb hT hu4
  go_enter Tryz.func8, Tryz.ntmps8
  go_wp2_with fail
  refine (small_at _ 3 (iJ 3) _ (progJ3 _ _) (by decide) (iJ_ok (by decide) (by decide)) (HT.out.bel B0)).mono ?_; rintro e w1 ⟨b0, G, rfl, ⟨fb, mb, g, x, cs, os, P1⟩, g1, hG⟩
  have P1 := Lib.hid P1
  have B1 := Lib.hid (bel_trans B0 g1)
  have HG : Hid (∀ i, G i → w.heap.size ≤ i) := fun i hi => Nat.le_trans B0.size (hG i hi)
  clear g1 hG B0
  go_wp2_with fail
  refine (HE.out _).mono ?_; rintro e w2 ⟨rfl, g2⟩
  have P2 := Lib.hid (P1.out.bel g2)
  have B2 := Lib.hid (bel_trans B1.out g2)
  clear P1 B1 g2
  go_wp2_with fail
  refine (Mem_get P2.out).mono ?_; rintro e w3 ⟨rfl, rfl⟩
  go_wp2_with fail
  refine (show Calls _ _ #[_, .int .u32 88, .int .i64 4, .int .u32 u4] _ _ from stores_at 88 4 u4 P2.out HU.out (by decide)).mono ?_; rintro e w3 ⟨rfl, P3, g3⟩
  have P3 : Hid (MachP w3 b0 fb mb g x cs os G (j1 3)) := by rw [HU4.out] at P3; exact P3
  have B3 := Lib.hid (only_bel B2.out g3 (HG.out _ P2.out.gg))
  clear P2 B2 g3
  go_wp2_with fail
  refine (File_get P3.out).mono ?_; rintro e w4 ⟨rfl, rfl⟩
  go_wp2_with fail
  refine (setf_at P3.out rfl rfl 16 a (by decide) (by decide) HA.out).mono ?_; rintro e w4 ⟨rfl, P4, g4⟩
  have P4 := Lib.hid P4
  have B4 := Lib.hid (only_bel B3.out g4 (HG.out _ P3.out.gf))
  clear P3 B3 g4
  go_wp2_with fail
  refine (File_get P4.out).mono ?_; rintro e w5 ⟨rfl, rfl⟩
  go_wp2_with fail
  refine (setf_at P4.out rfl rfl 17 b (by decide) (by decide) HB.out).mono ?_; rintro e w5 ⟨rfl, P5, g5⟩
  have A5 : Hid (AllM w w5 [⟨b0, G, j2 3 a b⟩]) := (AllM.none HT.out).add (only_bel B4.out g5 (HG.out _ P4.out.gf)) P5.b HG.out
  clear P4 B4 g5 P5
  go_wp2_with fail
  refine (all_step 0 A5.out (j := 0) rfl (by decide) (by decide) (Nat.zero_le _) (fun _ _ _ => easy_of (j_ops a b 0 ⟨3, by decide⟩).1 (by decide) (by decide)) rfl rfl).mono ?_; rintro e w6 ⟨rfl, K6, M6, _⟩
  have A6 : Hid (AllM w w6 [⟨b0, K6, j3 3 a b (W1.fl a b)⟩]) := by rw [← (show mstep (j2 3 a b) 0 = j3 3 a b (W1.fl a b) from j_cmp a b ⟨3, by decide⟩)]; exact M6
  clear M6 A5
  go_wp2_with fail
  refine (all_step 0 A6.out (j := 0) rfl (by decide) (by decide) (Nat.zero_le _) (fun _ _ _ => easy_of (j_ops a b (W1.fl a b) ⟨3, by decide⟩).2.1 (by decide) (by decide)) rfl rfl).mono ?_; rintro e w7 ⟨rfl, K7, M7, _⟩
  have JB : mstep (j3 3 a b (W1.fl a b)) 0 = j4 3 a b (W1.fl a b) := (show mstep (j3 3 a b (W1.fl a b)) 0 = if W1.hv 3 (W1.fl a b) then (j3 3 a b (W1.fl a b)).jmp 44 else j4 3 a b (W1.fl a b) from j_br a b (W1.fl a b) ⟨3, by decide⟩).trans (by rw [HV.out]; rfl)
  rw [JB] at M7
  have A7 : Hid (AllM w w7 [⟨b0, K7, j4 3 a b (W1.fl a b)⟩]) := M7
  clear M7 A6 JB
  have JE := Lib.hid (show (j4 3 a b (W1.fl a b)).pc = 8 ∧ (j5 3 a b (W1.fl a b)).pc = 88 ∧ (j5 3 a b (W1.fl a b)).get 15 = 8 ∧ (j6 3 a b (W1.fl a b)).pc = 16 ∧ (j6 3 a b (W1.fl a b)).get 18 = 88 from j_end a b (W1.fl a b) ⟨3, by decide⟩)
  go_wp2_with fail
  refine (all_pc (AllM.more A7.out (bel_alK (Below.refl _ _))) (j := 0) (v := 8) rfl JE.out.1).mono ?_; rintro e w8 ⟨rfl, M8⟩
  have A8 := Lib.hid M8
  go_wp2_with fail
  refine (all_step 0 A8.out (j := 0) rfl (by decide) (by decide) (Nat.zero_le _) (fun _ _ _ => easy_of (j_ops a b (W1.fl a b) ⟨3, by decide⟩).2.2.1 (by decide) (by decide)) rfl rfl).mono ?_; rintro e w9 ⟨rfl, K9, M9, _⟩
  have A9 : Hid (AllM w w9 [⟨b0, K9, j5 3 a b (W1.fl a b)⟩]) := by rw [← (show mstep (j4 3 a b (W1.fl a b)) 0 = j5 3 a b (W1.fl a b) from j_call a b (W1.fl a b) ⟨3, by decide⟩)]; exact M9
  clear M9 A7 A8
  go_wp2_with fail
  refine (all_file A9.out (j := 0) rfl).mono ?_; rintro e w10 ⟨fb9, rfl, rfl, F9, O9⟩
  go_wp2_with fail
  refine (get_00 F9 O9 rfl rfl 15 8 (by decide) (by decide) JE.out.2.2.1).mono ?_; rintro e w10 ⟨rfl, g10⟩
  have A10 := Lib.hid (A9.out.more g10)
  clear F9 O9 g10
  go_wp2_with fail
  refine (all_pc A10.out (j := 0) (v := 88) rfl JE.out.2.1).mono ?_; rintro e w11 ⟨rfl, M11⟩
  have A11 := Lib.hid M11
  go_wp2_with fail
  refine (all_step 0 A11.out (j := 0) rfl (by decide) (by decide) (Nat.zero_le _) (fun _ _ _ => easy_of (j_ops a b (W1.fl a b) ⟨3, by decide⟩).2.2.2 (by decide) (by decide)) rfl rfl).mono ?_; rintro e w12 ⟨rfl, K12, M12, _⟩
  have A12 : Hid (AllM w w12 [⟨b0, K12, j6 3 a b (W1.fl a b)⟩]) := by rw [← (show mstep (j5 3 a b (W1.fl a b)) 0 = j6 3 a b (W1.fl a b) from j_jump a b (W1.fl a b) ⟨3, by decide⟩)]; exact M12
  clear M12 A10 A11
  go_wp2_with fail
  refine (all_file A12.out (j := 0) rfl).mono ?_; rintro e w13 ⟨fb12, rfl, rfl, F12, O12⟩
  go_wp2_with fail
  refine (get_00 F12 O12 rfl rfl 18 88 (by decide) (by decide) JE.out.2.2.2.2).mono ?_; rintro e w13 ⟨rfl, g13⟩
  have A13 := Lib.hid (A12.out.more g13)
  clear F12 O12 g13
  go_wp2_with fail
  refine (all_pc A13.out (j := 0) (v := 16) rfl JE.out.2.2.2.1).mono ?_; rintro e w14 ⟨rfl, M14⟩
  have A14 := Lib.hid M14
  go_wp2_with fail
  refine (head_at _ A14.out.tab).mono ?_; rintro e w15 ⟨rfl, g15⟩
  have g15 := Lib.hid g15
  go_wp2_with fail
  go_ret
  exact ⟨rfl, bel_trans A14.out.bel g15.out⟩
theorem progJ4 (w : World) (t : TypeId) : ProgAt (w.alloc (.cells #[.int .u8 16, .int .u8 0, .int .u8 16, .int .u8 17, .bool false, .int .i32 0, .int .u8 17, .int .u8 4, .int .u8 0, .int .u8 0, .bool true, .int .i32 10, .int .u8 18, .int .u8 0, .int .u8 0, .int .u8 0, .bool true, .int .i32 20] t)) (.slice (some ⟨w.heap.size, 0, none⟩) 3 3) 3 (iJ 4) := prog_row (heap_alloc_last _ _) 3 3 (iJ 4) fun k hk => by
  match k, hk with
  | 0, _ => exact ⟨rfl, rfl, rfl, rfl, rfl, rfl⟩
  | 1, _ => exact ⟨rfl, rfl, rfl, rfl, rfl, rfl⟩
  | 2, _ => exact ⟨rfl, rfl, rfl, rfl, rfl, rfl⟩
set_option maxRecDepth 100000 in
set_option maxHeartbeats 4000000 in
theorem jumps_4t (cond a b : Int) (w : World) (hT : Tabs w) (hc : cond % 7 = 4) (hc0 : 0 ≤ cond ∧ cond < 256) (ha : W32 a) (hb : W32 b) (hx : ¬ wrap32 a < wrap32 b) :
    Calls Tryz.prog 8 #[.int .u8 cond, .int .u32 a, .int .u32 b] w fun e w' => e = .returned (.bool true) ∧ Below w.heap.size w w' := by
  have C := W1.conds_are a b ha hb
  have HV : Hid (W1.hv 4 (W1.fl a b) = true) := C.2.1.trans (by simpa using hx)
  have HA := Lib.hid ha
  have HB := Lib.hid hb
  have HT := Lib.hid hT
  obtain ⟨er, HE⟩ : ∃ er, Hid (∀ W, Calls Tryz.prog 38 #[.agg #[.int .u8 19, .int .u8 18, .int .u8 15, .int .u8 0, .bool true, .int .i32 8]] W fun e w' => e = .returned (.tuple #[.int .u32 (wof iJ4), .int .i64 er]) ∧ Below W.heap.size W w') := ⟨_, fun W => (I2.renc_any 19 18 15 0 true 8 W (by decide) (by decide) (by decide) (by decide) (by decide)).mono fun e w' hh => ⟨hh.1, hh.2.bel⟩⟩
  have HU : Hid (W32 (wof iJ4)) := wof_w iJ4_ok
  obtain ⟨u4, hu4⟩ : ∃ u, u = wof iJ4 := ⟨_, rfl⟩
  rw [← hu4] at HE HU
  have HU4 := Lib.hid hu4
  obtain ⟨hc1, hc2⟩ := hc0
  have B0 : Below w.heap.size w (w.alloc (.cells #[.int .u8 16, .int .u8 0, .int .u8 16, .int .u8 17, .bool false, .int .i32 0, .int .u8 17, .int .u8 4, .int .u8 0, .int .u8 0, .bool true, .int .i32 10, .int .u8 18, .int .u8 0, .int .u8 0, .int .u8 0, .bool true, .int .i32 20] 61)) := bel_alK (Below.refl _ _)
  have hd : decide (wrap32 a < wrap32 b) = false := by simpa using hx
  clear hx
  clear C ha hb hT hu4
  go_enter Tryz.func8, Tryz.ntmps8
  go_wp2_with fail
  refine (small_at _ 3 (iJ 4) _ (progJ4 _ _) (by decide) (iJ_ok (by decide) (by decide)) (HT.out.bel B0)).mono ?_; rintro e w1 ⟨b0, G, rfl, ⟨fb, mb, g, x, cs, os, P1⟩, g1, hG⟩
  have P1 := Lib.hid P1
  have B1 := Lib.hid (bel_trans B0 g1)
  have HG : Hid (∀ i, G i → w.heap.size ≤ i) := fun i hi => Nat.le_trans B0.size (hG i hi)
  clear g1 hG B0
  go_wp2_with fail
  refine (HE.out _).mono ?_; rintro e w2 ⟨rfl, g2⟩
  have P2 := Lib.hid (P1.out.bel g2)
  have B2 := Lib.hid (bel_trans B1.out g2)
  clear P1 B1 g2
  go_wp2_with fail
  refine (Mem_get P2.out).mono ?_; rintro e w3 ⟨rfl, rfl⟩
  go_wp2_with fail
  refine (show Calls _ _ #[_, .int .u32 88, .int .i64 4, .int .u32 u4] _ _ from stores_at 88 4 u4 P2.out HU.out (by decide)).mono ?_; rintro e w3 ⟨rfl, P3, g3⟩
  have P3 : Hid (MachP w3 b0 fb mb g x cs os G (j1 4)) := by rw [HU4.out] at P3; exact P3
  have B3 := Lib.hid (only_bel B2.out g3 (HG.out _ P2.out.gg))
  clear P2 B2 g3
  go_wp2_with fail
  refine (File_get P3.out).mono ?_; rintro e w4 ⟨rfl, rfl⟩
  go_wp2_with fail
  refine (setf_at P3.out rfl rfl 16 a (by decide) (by decide) HA.out).mono ?_; rintro e w4 ⟨rfl, P4, g4⟩
  have P4 := Lib.hid P4
  have B4 := Lib.hid (only_bel B3.out g4 (HG.out _ P3.out.gf))
  clear P3 B3 g4
  go_wp2_with fail
  refine (File_get P4.out).mono ?_; rintro e w5 ⟨rfl, rfl⟩
  go_wp2_with fail
  refine (setf_at P4.out rfl rfl 17 b (by decide) (by decide) HB.out).mono ?_; rintro e w5 ⟨rfl, P5, g5⟩
  have A5 : Hid (AllM w w5 [⟨b0, G, j2 4 a b⟩]) := (AllM.none HT.out).add (only_bel B4.out g5 (HG.out _ P4.out.gf)) P5.b HG.out
  clear P4 B4 g5 P5
  go_wp2_with fail
  refine (all_step 0 A5.out (j := 0) rfl (by decide) (by decide) (Nat.zero_le _) (fun _ _ _ => easy_of (j_ops a b 0 ⟨4, by decide⟩).1 (by decide) (by decide)) rfl rfl).mono ?_; rintro e w6 ⟨rfl, K6, M6, _⟩
  have A6 : Hid (AllM w w6 [⟨b0, K6, j3 4 a b (W1.fl a b)⟩]) := by rw [← (show mstep (j2 4 a b) 0 = j3 4 a b (W1.fl a b) from j_cmp a b ⟨4, by decide⟩)]; exact M6
  clear M6 A5
  go_wp2_with fail
  refine (all_step 0 A6.out (j := 0) rfl (by decide) (by decide) (Nat.zero_le _) (fun _ _ _ => easy_of (j_ops a b (W1.fl a b) ⟨4, by decide⟩).2.1 (by decide) (by decide)) rfl rfl).mono ?_; rintro e w7 ⟨rfl, K7, M7, _⟩
  have JB : mstep (j3 4 a b (W1.fl a b)) 0 = (j3 4 a b (W1.fl a b)).jmp 44 := (show mstep (j3 4 a b (W1.fl a b)) 0 = if W1.hv 4 (W1.fl a b) then (j3 4 a b (W1.fl a b)).jmp 44 else j4 4 a b (W1.fl a b) from j_br a b (W1.fl a b) ⟨4, by decide⟩).trans (by rw [HV.out]; rfl)
  rw [JB] at M7
  have A7 : Hid (AllM w w7 [⟨b0, K7, (j3 4 a b (W1.fl a b)).jmp 44⟩]) := M7
  clear M7 A6 JB
  go_wp2_with fail
  refine (all_pc (AllM.more A7.out (bel_alK (Below.refl _ _))) (j := 0) (v := 44) rfl rfl).mono ?_; rintro e w8 ⟨rfl, M8⟩
  have A8 := Lib.hid M8
  go_wp2_with fail
  refine (head_at _ A8.out.tab).mono ?_; rintro e w9 ⟨rfl, g9⟩
  have g9 := Lib.hid g9
  go_wp2_with fail
  go_ret
  exact ⟨rfl, bel_trans A8.out.bel g9.out⟩
set_option maxRecDepth 100000 in
set_option maxHeartbeats 4000000 in
theorem jumps_4f (cond a b : Int) (w : World) (hT : Tabs w) (hc : cond % 7 = 4) (hc0 : 0 ≤ cond ∧ cond < 256) (ha : W32 a) (hb : W32 b) (hx : wrap32 a < wrap32 b) :
    Calls Tryz.prog 8 #[.int .u8 cond, .int .u32 a, .int .u32 b] w fun e w' => e = .returned (.bool true) ∧ Below w.heap.size w w' := by
  have C := W1.conds_are a b ha hb
  have HV : Hid (W1.hv 4 (W1.fl a b) = false) := C.2.1.trans (by simpa using hx)
  have HA := Lib.hid ha
  have HB := Lib.hid hb
  have HT := Lib.hid hT
  obtain ⟨er, HE⟩ : ∃ er, Hid (∀ W, Calls Tryz.prog 38 #[.agg #[.int .u8 19, .int .u8 18, .int .u8 15, .int .u8 0, .bool true, .int .i32 8]] W fun e w' => e = .returned (.tuple #[.int .u32 (wof iJ4), .int .i64 er]) ∧ Below W.heap.size W w') := ⟨_, fun W => (I2.renc_any 19 18 15 0 true 8 W (by decide) (by decide) (by decide) (by decide) (by decide)).mono fun e w' hh => ⟨hh.1, hh.2.bel⟩⟩
  have HU : Hid (W32 (wof iJ4)) := wof_w iJ4_ok
  obtain ⟨u4, hu4⟩ : ∃ u, u = wof iJ4 := ⟨_, rfl⟩
  rw [← hu4] at HE HU
  have HU4 := Lib.hid hu4
  obtain ⟨hc1, hc2⟩ := hc0
  have B0 : Below w.heap.size w (w.alloc (.cells #[.int .u8 16, .int .u8 0, .int .u8 16, .int .u8 17, .bool false, .int .i32 0, .int .u8 17, .int .u8 4, .int .u8 0, .int .u8 0, .bool true, .int .i32 10, .int .u8 18, .int .u8 0, .int .u8 0, .int .u8 0, .bool true, .int .i32 20] 61)) := bel_alK (Below.refl _ _)
  clear C ha hb hT hu4
  go_enter Tryz.func8, Tryz.ntmps8
  go_wp2_with fail
  refine (small_at _ 3 (iJ 4) _ (progJ4 _ _) (by decide) (iJ_ok (by decide) (by decide)) (HT.out.bel B0)).mono ?_; rintro e w1 ⟨b0, G, rfl, ⟨fb, mb, g, x, cs, os, P1⟩, g1, hG⟩
  have P1 := Lib.hid P1
  have B1 := Lib.hid (bel_trans B0 g1)
  have HG : Hid (∀ i, G i → w.heap.size ≤ i) := fun i hi => Nat.le_trans B0.size (hG i hi)
  clear g1 hG B0
  go_wp2_with fail
  refine (HE.out _).mono ?_; rintro e w2 ⟨rfl, g2⟩
  have P2 := Lib.hid (P1.out.bel g2)
  have B2 := Lib.hid (bel_trans B1.out g2)
  clear P1 B1 g2
  go_wp2_with fail
  refine (Mem_get P2.out).mono ?_; rintro e w3 ⟨rfl, rfl⟩
  go_wp2_with fail
  refine (show Calls _ _ #[_, .int .u32 88, .int .i64 4, .int .u32 u4] _ _ from stores_at 88 4 u4 P2.out HU.out (by decide)).mono ?_; rintro e w3 ⟨rfl, P3, g3⟩
  have P3 : Hid (MachP w3 b0 fb mb g x cs os G (j1 4)) := by rw [HU4.out] at P3; exact P3
  have B3 := Lib.hid (only_bel B2.out g3 (HG.out _ P2.out.gg))
  clear P2 B2 g3
  go_wp2_with fail
  refine (File_get P3.out).mono ?_; rintro e w4 ⟨rfl, rfl⟩
  go_wp2_with fail
  refine (setf_at P3.out rfl rfl 16 a (by decide) (by decide) HA.out).mono ?_; rintro e w4 ⟨rfl, P4, g4⟩
  have P4 := Lib.hid P4
  have B4 := Lib.hid (only_bel B3.out g4 (HG.out _ P3.out.gf))
  clear P3 B3 g4
  go_wp2_with fail
  refine (File_get P4.out).mono ?_; rintro e w5 ⟨rfl, rfl⟩
  go_wp2_with fail
  refine (setf_at P4.out rfl rfl 17 b (by decide) (by decide) HB.out).mono ?_; rintro e w5 ⟨rfl, P5, g5⟩
  have A5 : Hid (AllM w w5 [⟨b0, G, j2 4 a b⟩]) := (AllM.none HT.out).add (only_bel B4.out g5 (HG.out _ P4.out.gf)) P5.b HG.out
  clear P4 B4 g5 P5
  go_wp2_with fail
  refine (all_step 0 A5.out (j := 0) rfl (by decide) (by decide) (Nat.zero_le _) (fun _ _ _ => easy_of (j_ops a b 0 ⟨4, by decide⟩).1 (by decide) (by decide)) rfl rfl).mono ?_; rintro e w6 ⟨rfl, K6, M6, _⟩
  have A6 : Hid (AllM w w6 [⟨b0, K6, j3 4 a b (W1.fl a b)⟩]) := by rw [← (show mstep (j2 4 a b) 0 = j3 4 a b (W1.fl a b) from j_cmp a b ⟨4, by decide⟩)]; exact M6
  clear M6 A5
  go_wp2_with fail
  refine (all_step 0 A6.out (j := 0) rfl (by decide) (by decide) (Nat.zero_le _) (fun _ _ _ => easy_of (j_ops a b (W1.fl a b) ⟨4, by decide⟩).2.1 (by decide) (by decide)) rfl rfl).mono ?_; rintro e w7 ⟨rfl, K7, M7, _⟩
  have JB : mstep (j3 4 a b (W1.fl a b)) 0 = j4 4 a b (W1.fl a b) := (show mstep (j3 4 a b (W1.fl a b)) 0 = if W1.hv 4 (W1.fl a b) then (j3 4 a b (W1.fl a b)).jmp 44 else j4 4 a b (W1.fl a b) from j_br a b (W1.fl a b) ⟨4, by decide⟩).trans (by rw [HV.out]; rfl)
  rw [JB] at M7
  have A7 : Hid (AllM w w7 [⟨b0, K7, j4 4 a b (W1.fl a b)⟩]) := M7
  clear M7 A6 JB
  have JE := Lib.hid (show (j4 4 a b (W1.fl a b)).pc = 8 ∧ (j5 4 a b (W1.fl a b)).pc = 88 ∧ (j5 4 a b (W1.fl a b)).get 15 = 8 ∧ (j6 4 a b (W1.fl a b)).pc = 16 ∧ (j6 4 a b (W1.fl a b)).get 18 = 88 from j_end a b (W1.fl a b) ⟨4, by decide⟩)
  go_wp2_with fail
  refine (all_pc (AllM.more A7.out (bel_alK (Below.refl _ _))) (j := 0) (v := 8) rfl JE.out.1).mono ?_; rintro e w8 ⟨rfl, M8⟩
  have A8 := Lib.hid M8
  go_wp2_with fail
  refine (all_step 0 A8.out (j := 0) rfl (by decide) (by decide) (Nat.zero_le _) (fun _ _ _ => easy_of (j_ops a b (W1.fl a b) ⟨4, by decide⟩).2.2.1 (by decide) (by decide)) rfl rfl).mono ?_; rintro e w9 ⟨rfl, K9, M9, _⟩
  have A9 : Hid (AllM w w9 [⟨b0, K9, j5 4 a b (W1.fl a b)⟩]) := by rw [← (show mstep (j4 4 a b (W1.fl a b)) 0 = j5 4 a b (W1.fl a b) from j_call a b (W1.fl a b) ⟨4, by decide⟩)]; exact M9
  clear M9 A7 A8
  go_wp2_with fail
  refine (all_file A9.out (j := 0) rfl).mono ?_; rintro e w10 ⟨fb9, rfl, rfl, F9, O9⟩
  go_wp2_with fail
  refine (get_00 F9 O9 rfl rfl 15 8 (by decide) (by decide) JE.out.2.2.1).mono ?_; rintro e w10 ⟨rfl, g10⟩
  have A10 := Lib.hid (A9.out.more g10)
  clear F9 O9 g10
  go_wp2_with fail
  refine (all_pc A10.out (j := 0) (v := 88) rfl JE.out.2.1).mono ?_; rintro e w11 ⟨rfl, M11⟩
  have A11 := Lib.hid M11
  go_wp2_with fail
  refine (all_step 0 A11.out (j := 0) rfl (by decide) (by decide) (Nat.zero_le _) (fun _ _ _ => easy_of (j_ops a b (W1.fl a b) ⟨4, by decide⟩).2.2.2 (by decide) (by decide)) rfl rfl).mono ?_; rintro e w12 ⟨rfl, K12, M12, _⟩
  have A12 : Hid (AllM w w12 [⟨b0, K12, j6 4 a b (W1.fl a b)⟩]) := by rw [← (show mstep (j5 4 a b (W1.fl a b)) 0 = j6 4 a b (W1.fl a b) from j_jump a b (W1.fl a b) ⟨4, by decide⟩)]; exact M12
  clear M12 A10 A11
  go_wp2_with fail
  refine (all_file A12.out (j := 0) rfl).mono ?_; rintro e w13 ⟨fb12, rfl, rfl, F12, O12⟩
  go_wp2_with fail
  refine (get_00 F12 O12 rfl rfl 18 88 (by decide) (by decide) JE.out.2.2.2.2).mono ?_; rintro e w13 ⟨rfl, g13⟩
  have A13 := Lib.hid (A12.out.more g13)
  clear F12 O12 g13
  go_wp2_with fail
  refine (all_pc A13.out (j := 0) (v := 16) rfl JE.out.2.2.2.1).mono ?_; rintro e w14 ⟨rfl, M14⟩
  have A14 := Lib.hid M14
  go_wp2_with fail
  refine (head_at _ A14.out.tab).mono ?_; rintro e w15 ⟨rfl, g15⟩
  have g15 := Lib.hid g15
  go_wp2_with fail
  go_ret
  exact ⟨rfl, bel_trans A14.out.bel g15.out⟩
theorem progJ5 (w : World) (t : TypeId) : ProgAt (w.alloc (.cells #[.int .u8 16, .int .u8 0, .int .u8 16, .int .u8 17, .bool false, .int .i32 0, .int .u8 17, .int .u8 5, .int .u8 0, .int .u8 0, .bool true, .int .i32 10, .int .u8 18, .int .u8 0, .int .u8 0, .int .u8 0, .bool true, .int .i32 20] t)) (.slice (some ⟨w.heap.size, 0, none⟩) 3 3) 3 (iJ 5) := prog_row (heap_alloc_last _ _) 3 3 (iJ 5) fun k hk => by
  match k, hk with
  | 0, _ => exact ⟨rfl, rfl, rfl, rfl, rfl, rfl⟩
  | 1, _ => exact ⟨rfl, rfl, rfl, rfl, rfl, rfl⟩
  | 2, _ => exact ⟨rfl, rfl, rfl, rfl, rfl, rfl⟩
set_option maxRecDepth 100000 in
set_option maxHeartbeats 4000000 in
theorem jumps_5t (cond a b : Int) (w : World) (hT : Tabs w) (hc : cond % 7 = 5) (hc0 : 0 ≤ cond ∧ cond < 256) (ha : W32 a) (hb : W32 b) (hx : a < b) :
    Calls Tryz.prog 8 #[.int .u8 cond, .int .u32 a, .int .u32 b] w fun e w' => e = .returned (.bool true) ∧ Below w.heap.size w w' := by
  have C := W1.conds_are a b ha hb
  have HV : Hid (W1.hv 5 (W1.fl a b) = true) := C.2.2.1.trans (by simpa using hx)
  have HA := Lib.hid ha
  have HB := Lib.hid hb
  have HT := Lib.hid hT
  obtain ⟨er, HE⟩ : ∃ er, Hid (∀ W, Calls Tryz.prog 38 #[.agg #[.int .u8 19, .int .u8 18, .int .u8 15, .int .u8 0, .bool true, .int .i32 8]] W fun e w' => e = .returned (.tuple #[.int .u32 (wof iJ4), .int .i64 er]) ∧ Below W.heap.size W w') := ⟨_, fun W => (I2.renc_any 19 18 15 0 true 8 W (by decide) (by decide) (by decide) (by decide) (by decide)).mono fun e w' hh => ⟨hh.1, hh.2.bel⟩⟩
  have HU : Hid (W32 (wof iJ4)) := wof_w iJ4_ok
  obtain ⟨u4, hu4⟩ : ∃ u, u = wof iJ4 := ⟨_, rfl⟩
  rw [← hu4] at HE HU
  have HU4 := Lib.hid hu4
  obtain ⟨hc1, hc2⟩ := hc0
  have B0 : Below w.heap.size w (w.alloc (.cells #[.int .u8 16, .int .u8 0, .int .u8 16, .int .u8 17, .bool false, .int .i32 0, .int .u8 17, .int .u8 5, .int .u8 0, .int .u8 0, .bool true, .int .i32 10, .int .u8 18, .int .u8 0, .int .u8 0, .int .u8 0, .bool true, .int .i32 20] 61)) := bel_alK (Below.refl _ _)
  clear C ha hb hT hu4
  go_enter Tryz.func8, Tryz.ntmps8
  go_wp2_with fail
  refine (small_at _ 3 (iJ 5) _ (progJ5 _ _) (by decide) (iJ_ok (by decide) (by decide)) (HT.out.bel B0)).mono ?_; rintro e w1 ⟨b0, G, rfl, ⟨fb, mb, g, x, cs, os, P1⟩, g1, hG⟩
  have P1 := Lib.hid P1
  have B1 := Lib.hid (bel_trans B0 g1)
  have HG : Hid (∀ i, G i → w.heap.size ≤ i) := fun i hi => Nat.le_trans B0.size (hG i hi)
  clear g1 hG B0
  go_wp2_with fail
  refine (HE.out _).mono ?_; rintro e w2 ⟨rfl, g2⟩
  have P2 := Lib.hid (P1.out.bel g2)
  have B2 := Lib.hid (bel_trans B1.out g2)
  clear P1 B1 g2
  go_wp2_with fail
  refine (Mem_get P2.out).mono ?_; rintro e w3 ⟨rfl, rfl⟩
  go_wp2_with fail
  refine (show Calls _ _ #[_, .int .u32 88, .int .i64 4, .int .u32 u4] _ _ from stores_at 88 4 u4 P2.out HU.out (by decide)).mono ?_; rintro e w3 ⟨rfl, P3, g3⟩
  have P3 : Hid (MachP w3 b0 fb mb g x cs os G (j1 5)) := by rw [HU4.out] at P3; exact P3
  have B3 := Lib.hid (only_bel B2.out g3 (HG.out _ P2.out.gg))
  clear P2 B2 g3
  go_wp2_with fail
  refine (File_get P3.out).mono ?_; rintro e w4 ⟨rfl, rfl⟩
  go_wp2_with fail
  refine (setf_at P3.out rfl rfl 16 a (by decide) (by decide) HA.out).mono ?_; rintro e w4 ⟨rfl, P4, g4⟩
  have P4 := Lib.hid P4
  have B4 := Lib.hid (only_bel B3.out g4 (HG.out _ P3.out.gf))
  clear P3 B3 g4
  go_wp2_with fail
  refine (File_get P4.out).mono ?_; rintro e w5 ⟨rfl, rfl⟩
  go_wp2_with fail
  refine (setf_at P4.out rfl rfl 17 b (by decide) (by decide) HB.out).mono ?_; rintro e w5 ⟨rfl, P5, g5⟩
  have A5 : Hid (AllM w w5 [⟨b0, G, j2 5 a b⟩]) := (AllM.none HT.out).add (only_bel B4.out g5 (HG.out _ P4.out.gf)) P5.b HG.out
  clear P4 B4 g5 P5
  go_wp2_with fail
  refine (all_step 0 A5.out (j := 0) rfl (by decide) (by decide) (Nat.zero_le _) (fun _ _ _ => easy_of (j_ops a b 0 ⟨5, by decide⟩).1 (by decide) (by decide)) rfl rfl).mono ?_; rintro e w6 ⟨rfl, K6, M6, _⟩
  have A6 : Hid (AllM w w6 [⟨b0, K6, j3 5 a b (W1.fl a b)⟩]) := by rw [← (show mstep (j2 5 a b) 0 = j3 5 a b (W1.fl a b) from j_cmp a b ⟨5, by decide⟩)]; exact M6
  clear M6 A5
  go_wp2_with fail
  refine (all_step 0 A6.out (j := 0) rfl (by decide) (by decide) (Nat.zero_le _) (fun _ _ _ => easy_of (j_ops a b (W1.fl a b) ⟨5, by decide⟩).2.1 (by decide) (by decide)) rfl rfl).mono ?_; rintro e w7 ⟨rfl, K7, M7, _⟩
  have JB : mstep (j3 5 a b (W1.fl a b)) 0 = (j3 5 a b (W1.fl a b)).jmp 44 := (show mstep (j3 5 a b (W1.fl a b)) 0 = if W1.hv 5 (W1.fl a b) then (j3 5 a b (W1.fl a b)).jmp 44 else j4 5 a b (W1.fl a b) from j_br a b (W1.fl a b) ⟨5, by decide⟩).trans (by rw [HV.out]; rfl)
  rw [JB] at M7
  have A7 : Hid (AllM w w7 [⟨b0, K7, (j3 5 a b (W1.fl a b)).jmp 44⟩]) := M7
  clear M7 A6 JB
  go_wp2_with fail
  refine (all_pc (AllM.more A7.out (bel_alK (Below.refl _ _))) (j := 0) (v := 44) rfl rfl).mono ?_; rintro e w8 ⟨rfl, M8⟩
  have A8 := Lib.hid M8
  go_wp2_with fail
  refine (head_at _ A8.out.tab).mono ?_; rintro e w9 ⟨rfl, g9⟩
  have g9 := Lib.hid g9
  go_wp2_with fail
  go_ret
  exact ⟨rfl, bel_trans A8.out.bel g9.out⟩
set_option maxRecDepth 100000 in
set_option maxHeartbeats 4000000 in
theorem jumps_5f (cond a b : Int) (w : World) (hT : Tabs w) (hc : cond % 7 = 5) (hc0 : 0 ≤ cond ∧ cond < 256) (ha : W32 a) (hb : W32 b) (hx : ¬ a < b) :
    Calls Tryz.prog 8 #[.int .u8 cond, .int .u32 a, .int .u32 b] w fun e w' => e = .returned (.bool true) ∧ Below w.heap.size w w' := by
  have C := W1.conds_are a b ha hb
  have HV : Hid (W1.hv 5 (W1.fl a b) = false) := C.2.2.1.trans (by simpa using hx)
  have HA := Lib.hid ha
  have HB := Lib.hid hb
  have HT := Lib.hid hT
  obtain ⟨er, HE⟩ : ∃ er, Hid (∀ W, Calls Tryz.prog 38 #[.agg #[.int .u8 19, .int .u8 18, .int .u8 15, .int .u8 0, .bool true, .int .i32 8]] W fun e w' => e = .returned (.tuple #[.int .u32 (wof iJ4), .int .i64 er]) ∧ Below W.heap.size W w') := ⟨_, fun W => (I2.renc_any 19 18 15 0 true 8 W (by decide) (by decide) (by decide) (by decide) (by decide)).mono fun e w' hh => ⟨hh.1, hh.2.bel⟩⟩
  have HU : Hid (W32 (wof iJ4)) := wof_w iJ4_ok
  obtain ⟨u4, hu4⟩ : ∃ u, u = wof iJ4 := ⟨_, rfl⟩
  rw [← hu4] at HE HU
  have HU4 := Lib.hid hu4
  obtain ⟨hc1, hc2⟩ := hc0
  have B0 : Below w.heap.size w (w.alloc (.cells #[.int .u8 16, .int .u8 0, .int .u8 16, .int .u8 17, .bool false, .int .i32 0, .int .u8 17, .int .u8 5, .int .u8 0, .int .u8 0, .bool true, .int .i32 10, .int .u8 18, .int .u8 0, .int .u8 0, .int .u8 0, .bool true, .int .i32 20] 61)) := bel_alK (Below.refl _ _)
  clear C ha hb hT hu4
  go_enter Tryz.func8, Tryz.ntmps8
  go_wp2_with fail
  refine (small_at _ 3 (iJ 5) _ (progJ5 _ _) (by decide) (iJ_ok (by decide) (by decide)) (HT.out.bel B0)).mono ?_; rintro e w1 ⟨b0, G, rfl, ⟨fb, mb, g, x, cs, os, P1⟩, g1, hG⟩
  have P1 := Lib.hid P1
  have B1 := Lib.hid (bel_trans B0 g1)
  have HG : Hid (∀ i, G i → w.heap.size ≤ i) := fun i hi => Nat.le_trans B0.size (hG i hi)
  clear g1 hG B0
  go_wp2_with fail
  refine (HE.out _).mono ?_; rintro e w2 ⟨rfl, g2⟩
  have P2 := Lib.hid (P1.out.bel g2)
  have B2 := Lib.hid (bel_trans B1.out g2)
  clear P1 B1 g2
  go_wp2_with fail
  refine (Mem_get P2.out).mono ?_; rintro e w3 ⟨rfl, rfl⟩
  go_wp2_with fail
  refine (show Calls _ _ #[_, .int .u32 88, .int .i64 4, .int .u32 u4] _ _ from stores_at 88 4 u4 P2.out HU.out (by decide)).mono ?_; rintro e w3 ⟨rfl, P3, g3⟩
  have P3 : Hid (MachP w3 b0 fb mb g x cs os G (j1 5)) := by rw [HU4.out] at P3; exact P3
  have B3 := Lib.hid (only_bel B2.out g3 (HG.out _ P2.out.gg))
  clear P2 B2 g3
  go_wp2_with fail
  refine (File_get P3.out).mono ?_; rintro e w4 ⟨rfl, rfl⟩
  go_wp2_with fail
  refine (setf_at P3.out rfl rfl 16 a (by decide) (by decide) HA.out).mono ?_; rintro e w4 ⟨rfl, P4, g4⟩
  have P4 := Lib.hid P4
  have B4 := Lib.hid (only_bel B3.out g4 (HG.out _ P3.out.gf))
  clear P3 B3 g4
  go_wp2_with fail
  refine (File_get P4.out).mono ?_; rintro e w5 ⟨rfl, rfl⟩
  go_wp2_with fail
  refine (setf_at P4.out rfl rfl 17 b (by decide) (by decide) HB.out).mono ?_; rintro e w5 ⟨rfl, P5, g5⟩
  have A5 : Hid (AllM w w5 [⟨b0, G, j2 5 a b⟩]) := (AllM.none HT.out).add (only_bel B4.out g5 (HG.out _ P4.out.gf)) P5.b HG.out
  clear P4 B4 g5 P5
  go_wp2_with fail
  refine (all_step 0 A5.out (j := 0) rfl (by decide) (by decide) (Nat.zero_le _) (fun _ _ _ => easy_of (j_ops a b 0 ⟨5, by decide⟩).1 (by decide) (by decide)) rfl rfl).mono ?_; rintro e w6 ⟨rfl, K6, M6, _⟩
  have A6 : Hid (AllM w w6 [⟨b0, K6, j3 5 a b (W1.fl a b)⟩]) := by rw [← (show mstep (j2 5 a b) 0 = j3 5 a b (W1.fl a b) from j_cmp a b ⟨5, by decide⟩)]; exact M6
  clear M6 A5
  go_wp2_with fail
  refine (all_step 0 A6.out (j := 0) rfl (by decide) (by decide) (Nat.zero_le _) (fun _ _ _ => easy_of (j_ops a b (W1.fl a b) ⟨5, by decide⟩).2.1 (by decide) (by decide)) rfl rfl).mono ?_; rintro e w7 ⟨rfl, K7, M7, _⟩
  have JB : mstep (j3 5 a b (W1.fl a b)) 0 = j4 5 a b (W1.fl a b) := (show mstep (j3 5 a b (W1.fl a b)) 0 = if W1.hv 5 (W1.fl a b) then (j3 5 a b (W1.fl a b)).jmp 44 else j4 5 a b (W1.fl a b) from j_br a b (W1.fl a b) ⟨5, by decide⟩).trans (by rw [HV.out]; rfl)
  rw [JB] at M7
  have A7 : Hid (AllM w w7 [⟨b0, K7, j4 5 a b (W1.fl a b)⟩]) := M7
  clear M7 A6 JB
  have JE := Lib.hid (show (j4 5 a b (W1.fl a b)).pc = 8 ∧ (j5 5 a b (W1.fl a b)).pc = 88 ∧ (j5 5 a b (W1.fl a b)).get 15 = 8 ∧ (j6 5 a b (W1.fl a b)).pc = 16 ∧ (j6 5 a b (W1.fl a b)).get 18 = 88 from j_end a b (W1.fl a b) ⟨5, by decide⟩)
  go_wp2_with fail
  refine (all_pc (AllM.more A7.out (bel_alK (Below.refl _ _))) (j := 0) (v := 8) rfl JE.out.1).mono ?_; rintro e w8 ⟨rfl, M8⟩
  have A8 := Lib.hid M8
  go_wp2_with fail
  refine (all_step 0 A8.out (j := 0) rfl (by decide) (by decide) (Nat.zero_le _) (fun _ _ _ => easy_of (j_ops a b (W1.fl a b) ⟨5, by decide⟩).2.2.1 (by decide) (by decide)) rfl rfl).mono ?_; rintro e w9 ⟨rfl, K9, M9, _⟩
  have A9 : Hid (AllM w w9 [⟨b0, K9, j5 5 a b (W1.fl a b)⟩]) := by rw [← (show mstep (j4 5 a b (W1.fl a b)) 0 = j5 5 a b (W1.fl a b) from j_call a b (W1.fl a b) ⟨5, by decide⟩)]; exact M9
  clear M9 A7 A8
  go_wp2_with fail
  refine (all_file A9.out (j := 0) rfl).mono ?_; rintro e w10 ⟨fb9, rfl, rfl, F9, O9⟩
  go_wp2_with fail
  refine (get_00 F9 O9 rfl rfl 15 8 (by decide) (by decide) JE.out.2.2.1).mono ?_; rintro e w10 ⟨rfl, g10⟩
  have A10 := Lib.hid (A9.out.more g10)
  clear F9 O9 g10
  go_wp2_with fail
  refine (all_pc A10.out (j := 0) (v := 88) rfl JE.out.2.1).mono ?_; rintro e w11 ⟨rfl, M11⟩
  have A11 := Lib.hid M11
  go_wp2_with fail
  refine (all_step 0 A11.out (j := 0) rfl (by decide) (by decide) (Nat.zero_le _) (fun _ _ _ => easy_of (j_ops a b (W1.fl a b) ⟨5, by decide⟩).2.2.2 (by decide) (by decide)) rfl rfl).mono ?_; rintro e w12 ⟨rfl, K12, M12, _⟩
  have A12 : Hid (AllM w w12 [⟨b0, K12, j6 5 a b (W1.fl a b)⟩]) := by rw [← (show mstep (j5 5 a b (W1.fl a b)) 0 = j6 5 a b (W1.fl a b) from j_jump a b (W1.fl a b) ⟨5, by decide⟩)]; exact M12
  clear M12 A10 A11
  go_wp2_with fail
  refine (all_file A12.out (j := 0) rfl).mono ?_; rintro e w13 ⟨fb12, rfl, rfl, F12, O12⟩
  go_wp2_with fail
  refine (get_00 F12 O12 rfl rfl 18 88 (by decide) (by decide) JE.out.2.2.2.2).mono ?_; rintro e w13 ⟨rfl, g13⟩
  have A13 := Lib.hid (A12.out.more g13)
  clear F12 O12 g13
  go_wp2_with fail
  refine (all_pc A13.out (j := 0) (v := 16) rfl JE.out.2.2.2.1).mono ?_; rintro e w14 ⟨rfl, M14⟩
  have A14 := Lib.hid M14
  go_wp2_with fail
  refine (head_at _ A14.out.tab).mono ?_; rintro e w15 ⟨rfl, g15⟩
  have g15 := Lib.hid g15
  go_wp2_with fail
  go_ret
  exact ⟨rfl, bel_trans A14.out.bel g15.out⟩
theorem progJ6 (w : World) (t : TypeId) : ProgAt (w.alloc (.cells #[.int .u8 16, .int .u8 0, .int .u8 16, .int .u8 17, .bool false, .int .i32 0, .int .u8 17, .int .u8 6, .int .u8 0, .int .u8 0, .bool true, .int .i32 10, .int .u8 18, .int .u8 0, .int .u8 0, .int .u8 0, .bool true, .int .i32 20] t)) (.slice (some ⟨w.heap.size, 0, none⟩) 3 3) 3 (iJ 6) := prog_row (heap_alloc_last _ _) 3 3 (iJ 6) fun k hk => by
  match k, hk with
  | 0, _ => exact ⟨rfl, rfl, rfl, rfl, rfl, rfl⟩
  | 1, _ => exact ⟨rfl, rfl, rfl, rfl, rfl, rfl⟩
  | 2, _ => exact ⟨rfl, rfl, rfl, rfl, rfl, rfl⟩
set_option maxRecDepth 100000 in
set_option maxHeartbeats 4000000 in
theorem jumps_6t (cond a b : Int) (w : World) (hT : Tabs w) (hc : cond % 7 = 6) (hc0 : 0 ≤ cond ∧ cond < 256) (ha : W32 a) (hb : W32 b) (hx : ¬ a < b) :
    Calls Tryz.prog 8 #[.int .u8 cond, .int .u32 a, .int .u32 b] w fun e w' => e = .returned (.bool true) ∧ Below w.heap.size w w' := by
  have C := W1.conds_are a b ha hb
  have HV : Hid (W1.hv 6 (W1.fl a b) = true) := C.2.2.2.1.trans (by simpa using hx)
  have HA := Lib.hid ha
  have HB := Lib.hid hb
  have HT := Lib.hid hT
  obtain ⟨er, HE⟩ : ∃ er, Hid (∀ W, Calls Tryz.prog 38 #[.agg #[.int .u8 19, .int .u8 18, .int .u8 15, .int .u8 0, .bool true, .int .i32 8]] W fun e w' => e = .returned (.tuple #[.int .u32 (wof iJ4), .int .i64 er]) ∧ Below W.heap.size W w') := ⟨_, fun W => (I2.renc_any 19 18 15 0 true 8 W (by decide) (by decide) (by decide) (by decide) (by decide)).mono fun e w' hh => ⟨hh.1, hh.2.bel⟩⟩
  have HU : Hid (W32 (wof iJ4)) := wof_w iJ4_ok
  obtain ⟨u4, hu4⟩ : ∃ u, u = wof iJ4 := ⟨_, rfl⟩
  rw [← hu4] at HE HU
  have HU4 := Lib.hid hu4
  obtain ⟨hc1, hc2⟩ := hc0
  have B0 : Below w.heap.size w (w.alloc (.cells #[.int .u8 16, .int .u8 0, .int .u8 16, .int .u8 17, .bool false, .int .i32 0, .int .u8 17, .int .u8 6, .int .u8 0, .int .u8 0, .bool true, .int .i32 10, .int .u8 18, .int .u8 0, .int .u8 0, .int .u8 0, .bool true, .int .i32 20] 61)) := bel_alK (Below.refl _ _)
  have hd : decide (a < b) = false := by simpa using hx
  clear hx
  clear C ha hb hT hu4
  go_enter Tryz.func8, Tryz.ntmps8
  go_wp2_with fail
  refine (small_at _ 3 (iJ 6) _ (progJ6 _ _) (by decide) (iJ_ok (by decide) (by decide)) (HT.out.bel B0)).mono ?_; rintro e w1 ⟨b0, G, rfl, ⟨fb, mb, g, x, cs, os, P1⟩, g1, hG⟩
  have P1 := Lib.hid P1
  have B1 := Lib.hid (bel_trans B0 g1)
  have HG : Hid (∀ i, G i → w.heap.size ≤ i) := fun i hi => Nat.le_trans B0.size (hG i hi)
  clear g1 hG B0
  go_wp2_with fail
  refine (HE.out _).mono ?_; rintro e w2 ⟨rfl, g2⟩
  have P2 := Lib.hid (P1.out.bel g2)
  have B2 := Lib.hid (bel_trans B1.out g2)
  clear P1 B1 g2
  go_wp2_with fail
  refine (Mem_get P2.out).mono ?_; rintro e w3 ⟨rfl, rfl⟩
  go_wp2_with fail
  refine (show Calls _ _ #[_, .int .u32 88, .int .i64 4, .int .u32 u4] _ _ from stores_at 88 4 u4 P2.out HU.out (by decide)).mono ?_; rintro e w3 ⟨rfl, P3, g3⟩
  have P3 : Hid (MachP w3 b0 fb mb g x cs os G (j1 6)) := by rw [HU4.out] at P3; exact P3
  have B3 := Lib.hid (only_bel B2.out g3 (HG.out _ P2.out.gg))
  clear P2 B2 g3
  go_wp2_with fail
  refine (File_get P3.out).mono ?_; rintro e w4 ⟨rfl, rfl⟩
  go_wp2_with fail
  refine (setf_at P3.out rfl rfl 16 a (by decide) (by decide) HA.out).mono ?_; rintro e w4 ⟨rfl, P4, g4⟩
  have P4 := Lib.hid P4
  have B4 := Lib.hid (only_bel B3.out g4 (HG.out _ P3.out.gf))
  clear P3 B3 g4
  go_wp2_with fail
  refine (File_get P4.out).mono ?_; rintro e w5 ⟨rfl, rfl⟩
  go_wp2_with fail
  refine (setf_at P4.out rfl rfl 17 b (by decide) (by decide) HB.out).mono ?_; rintro e w5 ⟨rfl, P5, g5⟩
  have A5 : Hid (AllM w w5 [⟨b0, G, j2 6 a b⟩]) := (AllM.none HT.out).add (only_bel B4.out g5 (HG.out _ P4.out.gf)) P5.b HG.out
  clear P4 B4 g5 P5
  go_wp2_with fail
  refine (all_step 0 A5.out (j := 0) rfl (by decide) (by decide) (Nat.zero_le _) (fun _ _ _ => easy_of (j_ops a b 0 ⟨6, by decide⟩).1 (by decide) (by decide)) rfl rfl).mono ?_; rintro e w6 ⟨rfl, K6, M6, _⟩
  have A6 : Hid (AllM w w6 [⟨b0, K6, j3 6 a b (W1.fl a b)⟩]) := by rw [← (show mstep (j2 6 a b) 0 = j3 6 a b (W1.fl a b) from j_cmp a b ⟨6, by decide⟩)]; exact M6
  clear M6 A5
  go_wp2_with fail
  refine (all_step 0 A6.out (j := 0) rfl (by decide) (by decide) (Nat.zero_le _) (fun _ _ _ => easy_of (j_ops a b (W1.fl a b) ⟨6, by decide⟩).2.1 (by decide) (by decide)) rfl rfl).mono ?_; rintro e w7 ⟨rfl, K7, M7, _⟩
  have JB : mstep (j3 6 a b (W1.fl a b)) 0 = (j3 6 a b (W1.fl a b)).jmp 44 := (show mstep (j3 6 a b (W1.fl a b)) 0 = if W1.hv 6 (W1.fl a b) then (j3 6 a b (W1.fl a b)).jmp 44 else j4 6 a b (W1.fl a b) from j_br a b (W1.fl a b) ⟨6, by decide⟩).trans (by rw [HV.out]; rfl)
  rw [JB] at M7
  have A7 : Hid (AllM w w7 [⟨b0, K7, (j3 6 a b (W1.fl a b)).jmp 44⟩]) := M7
  clear M7 A6 JB
  go_wp2_with fail
  refine (all_pc (AllM.more A7.out (bel_alK (Below.refl _ _))) (j := 0) (v := 44) rfl rfl).mono ?_; rintro e w8 ⟨rfl, M8⟩
  have A8 := Lib.hid M8
  go_wp2_with fail
  refine (head_at _ A8.out.tab).mono ?_; rintro e w9 ⟨rfl, g9⟩
  have g9 := Lib.hid g9
  go_wp2_with fail
  go_ret
  exact ⟨rfl, bel_trans A8.out.bel g9.out⟩
set_option maxRecDepth 100000 in
set_option maxHeartbeats 4000000 in
theorem jumps_6f (cond a b : Int) (w : World) (hT : Tabs w) (hc : cond % 7 = 6) (hc0 : 0 ≤ cond ∧ cond < 256) (ha : W32 a) (hb : W32 b) (hx : a < b) :
    Calls Tryz.prog 8 #[.int .u8 cond, .int .u32 a, .int .u32 b] w fun e w' => e = .returned (.bool true) ∧ Below w.heap.size w w' := by
  have C := W1.conds_are a b ha hb
  have HV : Hid (W1.hv 6 (W1.fl a b) = false) := C.2.2.2.1.trans (by simpa using hx)
  have HA := Lib.hid ha
  have HB := Lib.hid hb
  have HT := Lib.hid hT
  obtain ⟨er, HE⟩ : ∃ er, Hid (∀ W, Calls Tryz.prog 38 #[.agg #[.int .u8 19, .int .u8 18, .int .u8 15, .int .u8 0, .bool true, .int .i32 8]] W fun e w' => e = .returned (.tuple #[.int .u32 (wof iJ4), .int .i64 er]) ∧ Below W.heap.size W w') := ⟨_, fun W => (I2.renc_any 19 18 15 0 true 8 W (by decide) (by decide) (by decide) (by decide) (by decide)).mono fun e w' hh => ⟨hh.1, hh.2.bel⟩⟩
  have HU : Hid (W32 (wof iJ4)) := wof_w iJ4_ok
  obtain ⟨u4, hu4⟩ : ∃ u, u = wof iJ4 := ⟨_, rfl⟩
  rw [← hu4] at HE HU
  have HU4 := Lib.hid hu4
  obtain ⟨hc1, hc2⟩ := hc0
  have B0 : Below w.heap.size w (w.alloc (.cells #[.int .u8 16, .int .u8 0, .int .u8 16, .int .u8 17, .bool false, .int .i32 0, .int .u8 17, .int .u8 6, .int .u8 0, .int .u8 0, .bool true, .int .i32 10, .int .u8 18, .int .u8 0, .int .u8 0, .int .u8 0, .bool true, .int .i32 20] 61)) := bel_alK (Below.refl _ _)
  clear C ha hb hT hu4
  go_enter Tryz.func8, Tryz.ntmps8
  go_wp2_with fail
  refine (small_at _ 3 (iJ 6) _ (progJ6 _ _) (by decide) (iJ_ok (by decide) (by decide)) (HT.out.bel B0)).mono ?_; rintro e w1 ⟨b0, G, rfl, ⟨fb, mb, g, x, cs, os, P1⟩, g1, hG⟩
  have P1 := Lib.hid P1
  have B1 := Lib.hid (bel_trans B0 g1)
  have HG : Hid (∀ i, G i → w.heap.size ≤ i) := fun i hi => Nat.le_trans B0.size (hG i hi)
  clear g1 hG B0
  go_wp2_with fail
  refine (HE.out _).mono ?_; rintro e w2 ⟨rfl, g2⟩
  have P2 := Lib.hid (P1.out.bel g2)
  have B2 := Lib.hid (bel_trans B1.out g2)
  clear P1 B1 g2
  go_wp2_with fail
  refine (Mem_get P2.out).mono ?_; rintro e w3 ⟨rfl, rfl⟩
  go_wp2_with fail
  refine (show Calls _ _ #[_, .int .u32 88, .int .i64 4, .int .u32 u4] _ _ from stores_at 88 4 u4 P2.out HU.out (by decide)).mono ?_; rintro e w3 ⟨rfl, P3, g3⟩
  have P3 : Hid (MachP w3 b0 fb mb g x cs os G (j1 6)) := by rw [HU4.out] at P3; exact P3
  have B3 := Lib.hid (only_bel B2.out g3 (HG.out _ P2.out.gg))
  clear P2 B2 g3
  go_wp2_with fail
  refine (File_get P3.out).mono ?_; rintro e w4 ⟨rfl, rfl⟩
  go_wp2_with fail
  refine (setf_at P3.out rfl rfl 16 a (by decide) (by decide) HA.out).mono ?_; rintro e w4 ⟨rfl, P4, g4⟩
  have P4 := Lib.hid P4
  have B4 := Lib.hid (only_bel B3.out g4 (HG.out _ P3.out.gf))
  clear P3 B3 g4
  go_wp2_with fail
  refine (File_get P4.out).mono ?_; rintro e w5 ⟨rfl, rfl⟩
  go_wp2_with fail
  refine (setf_at P4.out rfl rfl 17 b (by decide) (by decide) HB.out).mono ?_; rintro e w5 ⟨rfl, P5, g5⟩
  have A5 : Hid (AllM w w5 [⟨b0, G, j2 6 a b⟩]) := (AllM.none HT.out).add (only_bel B4.out g5 (HG.out _ P4.out.gf)) P5.b HG.out
  clear P4 B4 g5 P5
  go_wp2_with fail
  refine (all_step 0 A5.out (j := 0) rfl (by decide) (by decide) (Nat.zero_le _) (fun _ _ _ => easy_of (j_ops a b 0 ⟨6, by decide⟩).1 (by decide) (by decide)) rfl rfl).mono ?_; rintro e w6 ⟨rfl, K6, M6, _⟩
  have A6 : Hid (AllM w w6 [⟨b0, K6, j3 6 a b (W1.fl a b)⟩]) := by rw [← (show mstep (j2 6 a b) 0 = j3 6 a b (W1.fl a b) from j_cmp a b ⟨6, by decide⟩)]; exact M6
  clear M6 A5
  go_wp2_with fail
  refine (all_step 0 A6.out (j := 0) rfl (by decide) (by decide) (Nat.zero_le _) (fun _ _ _ => easy_of (j_ops a b (W1.fl a b) ⟨6, by decide⟩).2.1 (by decide) (by decide)) rfl rfl).mono ?_; rintro e w7 ⟨rfl, K7, M7, _⟩
  have JB : mstep (j3 6 a b (W1.fl a b)) 0 = j4 6 a b (W1.fl a b) := (show mstep (j3 6 a b (W1.fl a b)) 0 = if W1.hv 6 (W1.fl a b) then (j3 6 a b (W1.fl a b)).jmp 44 else j4 6 a b (W1.fl a b) from j_br a b (W1.fl a b) ⟨6, by decide⟩).trans (by rw [HV.out]; rfl)
  rw [JB] at M7
  have A7 : Hid (AllM w w7 [⟨b0, K7, j4 6 a b (W1.fl a b)⟩]) := M7
  clear M7 A6 JB
  have JE := Lib.hid (show (j4 6 a b (W1.fl a b)).pc = 8 ∧ (j5 6 a b (W1.fl a b)).pc = 88 ∧ (j5 6 a b (W1.fl a b)).get 15 = 8 ∧ (j6 6 a b (W1.fl a b)).pc = 16 ∧ (j6 6 a b (W1.fl a b)).get 18 = 88 from j_end a b (W1.fl a b) ⟨6, by decide⟩)
  go_wp2_with fail
  refine (all_pc (AllM.more A7.out (bel_alK (Below.refl _ _))) (j := 0) (v := 8) rfl JE.out.1).mono ?_; rintro e w8 ⟨rfl, M8⟩
  have A8 := Lib.hid M8
  go_wp2_with fail
  refine (all_step 0 A8.out (j := 0) rfl (by decide) (by decide) (Nat.zero_le _) (fun _ _ _ => easy_of (j_ops a b (W1.fl a b) ⟨6, by decide⟩).2.2.1 (by decide) (by decide)) rfl rfl).mono ?_; rintro e w9 ⟨rfl, K9, M9, _⟩
  have A9 : Hid (AllM w w9 [⟨b0, K9, j5 6 a b (W1.fl a b)⟩]) := by rw [← (show mstep (j4 6 a b (W1.fl a b)) 0 = j5 6 a b (W1.fl a b) from j_call a b (W1.fl a b) ⟨6, by decide⟩)]; exact M9
  clear M9 A7 A8
  go_wp2_with fail
  refine (all_file A9.out (j := 0) rfl).mono ?_; rintro e w10 ⟨fb9, rfl, rfl, F9, O9⟩
  go_wp2_with fail
  refine (get_00 F9 O9 rfl rfl 15 8 (by decide) (by decide) JE.out.2.2.1).mono ?_; rintro e w10 ⟨rfl, g10⟩
  have A10 := Lib.hid (A9.out.more g10)
  clear F9 O9 g10
  go_wp2_with fail
  refine (all_pc A10.out (j := 0) (v := 88) rfl JE.out.2.1).mono ?_; rintro e w11 ⟨rfl, M11⟩
  have A11 := Lib.hid M11
  go_wp2_with fail
  refine (all_step 0 A11.out (j := 0) rfl (by decide) (by decide) (Nat.zero_le _) (fun _ _ _ => easy_of (j_ops a b (W1.fl a b) ⟨6, by decide⟩).2.2.2 (by decide) (by decide)) rfl rfl).mono ?_; rintro e w12 ⟨rfl, K12, M12, _⟩
  have A12 : Hid (AllM w w12 [⟨b0, K12, j6 6 a b (W1.fl a b)⟩]) := by rw [← (show mstep (j5 6 a b (W1.fl a b)) 0 = j6 6 a b (W1.fl a b) from j_jump a b (W1.fl a b) ⟨6, by decide⟩)]; exact M12
  clear M12 A10 A11
  go_wp2_with fail
  refine (all_file A12.out (j := 0) rfl).mono ?_; rintro e w13 ⟨fb12, rfl, rfl, F12, O12⟩
  go_wp2_with fail
  refine (get_00 F12 O12 rfl rfl 18 88 (by decide) (by decide) JE.out.2.2.2.2).mono ?_; rintro e w13 ⟨rfl, g13⟩
  have A13 := Lib.hid (A12.out.more g13)
  clear F12 O12 g13
  go_wp2_with fail
  refine (all_pc A13.out (j := 0) (v := 16) rfl JE.out.2.2.2.1).mono ?_; rintro e w14 ⟨rfl, M14⟩
  have A14 := Lib.hid M14
  go_wp2_with fail
  refine (head_at _ A14.out.tab).mono ?_; rintro e w15 ⟨rfl, g15⟩
  have g15 := Lib.hid g15
  go_wp2_with fail
  go_ret
  exact ⟨rfl, bel_trans A14.out.bel g15.out⟩
theorem jumps_walk (cond a b : Int) (w : World) (hT : Tabs w) (hc0 : 0 ≤ cond ∧ cond < 256) (ha : W32 a) (hb : W32 b) :
    Calls Tryz.prog 8 #[.int .u8 cond, .int .u32 a, .int .u32 b] w fun e w' => e = .returned (.bool true) ∧ Below w.heap.size w w' := by
  have h : cond % 7 = 0 ∨ cond % 7 = 1 ∨ cond % 7 = 2 ∨ cond % 7 = 3 ∨ cond % 7 = 4 ∨ cond % 7 = 5 ∨ cond % 7 = 6 := by omega
  rcases h with h | h | h | h | h | h | h
  · exact jumps_0t cond a b w hT h hc0 ha hb
  · cases hx : (a == b)
    · exact jumps_1f cond a b w hT h hc0 ha hb hx
    · exact jumps_1t cond a b w hT h hc0 ha hb hx
  · cases hx : (a == b)
    · exact jumps_2t cond a b w hT h hc0 ha hb hx
    · exact jumps_2f cond a b w hT h hc0 ha hb hx
  · by_cases hx : wrap32 a < wrap32 b
    · exact jumps_3t cond a b w hT h hc0 ha hb hx
    · exact jumps_3f cond a b w hT h hc0 ha hb hx
  · by_cases hx : wrap32 a < wrap32 b
    · exact jumps_4f cond a b w hT h hc0 ha hb hx
    · exact jumps_4t cond a b w hT h hc0 ha hb hx
  · by_cases hx : a < b
    · exact jumps_5t cond a b w hT h hc0 ha hb hx
    · exact jumps_5f cond a b w hT h hc0 ha hb hx
  · by_cases hx : a < b
    · exact jumps_6f cond a b w hT h hc0 ha hb hx
    · exact jumps_6t cond a b w hT h hc0 ha hb hx
end Go.Proofs.YtklnoolhjfbhfaaGreatDoor.K6
