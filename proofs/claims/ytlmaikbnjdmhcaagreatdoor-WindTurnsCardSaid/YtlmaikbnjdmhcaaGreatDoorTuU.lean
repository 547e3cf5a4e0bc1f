/- WindTurns' arithmetic (layer 8): what the document makes of a machine's registers and bytes, against what the machine itself has. -/
import Derived.Test.YtlmaikbnjdmhcaaGreatDoorTuT
import Derived.Test.YtlmaikbnjdmhcaaGreatDoorWindGS
namespace Go.Proofs.YtlmaikbnjdmhcaaGreatDoor.K6
open Go.RowKit W8
open F3 (LAt LAtB place atL Ent)
set_option linter.unusedVariables false
theorem ptB_pt {N : Nat} {f f' g g' : Nat → Int} {a : Nat} (hf : ∀ j, j < N → f j = f' j) : ∀ k, (∀ i, i < k → g i = g' i) → ∀ j, j < N → ptB f a g k j = ptB f' a g' k j
  | 0, _, j, h => hf j h
  | k + 1, hg, j, h => by
    show stB (ptB f a g k) (a + 4 * k) 4 (g k) j = stB (ptB f' a g' k) (a + 4 * k) 4 (g' k) j
    rw [hg k (by omega)]
    unfold stB
    split
    · rfl
    · exact ptB_pt hf k (fun i hi => hg i (by omega)) j h
theorem back_bytes {f : Nat → Int} (hf : Bytes f) : ∀ k j, j < 4 * k → ptB (fun _ => 0) 0 (M5.wdB f 0) k j = f j
  | 0, j, h => absurd h (by omega)
  | k + 1, j, h => by
    show stB (ptB (fun _ => 0) 0 (M5.wdB f 0) k) (0 + 4 * k) 4 (ldB f (0 + 4 * k) 4) j = f j
    unfold stB
    split
    · rename_i hj
      have b0 := hf (0 + 4 * k + 0)
      have b1 := hf (0 + 4 * k + 1)
      have b2 := hf (0 + 4 * k + 2)
      have b3 := hf (0 + 4 * k + 3)
      show (256 * (256 * (256 * (256 * 0 + f (0 + 4 * k + 0)) + f (0 + 4 * k + 1)) + f (0 + 4 * k + 2)) + f (0 + 4 * k + 3)) / 256 ^ (0 + 4 * k + 4 - 1 - j) % 256 = f j
      rcases (by omega : j = 0 + 4 * k + 0 ∨ j = 0 + 4 * k + 1 ∨ j = 0 + 4 * k + 2 ∨ j = 0 + 4 * k + 3) with e | e | e | e
      · rw [show 0 + 4 * k + 4 - 1 - j = 3 by omega, e, show (256 : Int) ^ 3 = 16777216 by decide]; omega
      · rw [show 0 + 4 * k + 4 - 1 - j = 2 by omega, e, show (256 : Int) ^ 2 = 65536 by decide]; omega
      · rw [show 0 + 4 * k + 4 - 1 - j = 1 by omega, e, show (256 : Int) ^ 1 = 256 by decide]; omega
      · rw [show 0 + 4 * k + 4 - 1 - j = 0 by omega, e, show (256 : Int) ^ 0 = 1 by decide]; omega
    · exact back_bytes hf k j (by omega)
theorem ldB_pt {f f' : Nat → Int} {a : Nat} : ∀ k, (∀ j, a ≤ j → j < a + k → f j = f' j) → ldB f a k = ldB f' a k
  | 0, _ => rfl
  | k + 1, h => by
    show 256 * ldB f a k + f (a + k) = 256 * ldB f' a k + f' (a + k)
    rw [ldB_pt k (fun j h1 h2 => h j h1 (by omega)), h (a + k) (by omega) (by omega)]
theorem step_same {S S' : Nat → Int} {l l' : List Ent} {n : Int} (h : F3.Step S l) (h' : F3.Step S' l') (hn : 2 ≤ n) (hn' : n ≤ 32) (e : ∀ j, j < 640 → S j = S' j) :
    (∀ (x : Int) (i : Nat), 0 ≤ x → x < n → i < 16 → winL l n x i = winL l' n x i) ∧ (∀ k r : Nat, k < 16 → r < 8 → atL l (place n 0 k r) = atL l' (place n 0 k r)) := by
  constructor
  · intro x i h0 h1 hi
    unfold winL
    rw [F3.place_put h0 h1 hn' hi, ← h _ (by omega), ← h' _ (by omega)]
    exact e _ (by omega)
  · intro k r hk hr
    have NM : F3.Named n 0 k r := ⟨by decide, by omega, by omega, by omega, by omega, by omega⟩
    rw [← F3.cellOf_loc hn' NM, F3.loc_global (by omega), ← h _ (by omega), ← h' _ (by omega)]
    exact e _ (by omega)
section
variable {R : Nat → Int} {n : Nat} {l : List Ent} (hS : F3.Step (wG R n 16 0) l) (n2 : 2 ≤ n) (n32 : n ≤ 32)
include hS n2 n32
theorem win_reg {x : Int} (h0 : 0 ≤ x) (h1 : x < n) {i : Nat} (hi : i < 16) : winL l n x i = R ((16 * x).toNat + i) := by
  unfold winL
  rw [F3.place_put h0 h1 (by omega) hi, ← hS _ (by omega)]
  unfold wG
  rw [if_pos (by omega)]
theorem sp_reg {x : Int} (h0 : 0 ≤ x) (h1 : x < n) : atL l (place n x 0 14) = R (F3.loc n x 0 14) := by
  have NM : F3.Named n x 0 14 := ⟨h0, h1, by decide, by decide, by decide, by decide⟩
  have hl : F3.loc n x 0 14 < 16 * n := by
    unfold F3.loc
    rw [if_neg (by decide), if_pos (by decide)]
    split <;> omega
  rw [← F3.cellOf_loc (by omega) NM, ← hS _ (by omega)]
  unfold wG
  rw [if_pos hl]
end
theorem wG_pt {R R' : Nat → Int} {n : Nat} (h : ∀ j, j ≠ 641 → j ≠ 642 → j ≠ 643 → R' j = R j) : ∀ j, j < 640 → wG R' n 16 0 j = wG R n 16 0 j := fun j hj => by
  unfold wG
  rw [h j (by omega) (by omega) (by omega)]
theorem wG_ld {R R' f fm : Nat → Int} {n a : Nat} {x : Int} (n32 : n ≤ 32) (h0 : 0 ≤ x) (h1 : x < n) (ha : a + 64 ≤ 4096) (hf : ∀ j, j < 4096 → fm j = f j) (h : ∀ j, j ≠ 641 → j ≠ 642 → j ≠ 643 → R' j = ldR R f x a 16 j) :
    ∀ j, j < 640 → wG R' n 16 0 j = F3.putF (wG R n 16 0) (x.toNat * 16) (M5.wdB fm a) j := fun j hj => by
  have e := h j (by omega) (by omega) (by omega)
  unfold ldR at e
  unfold F3.putF wG
  by_cases hw : x.toNat * 16 ≤ j ∧ j < x.toNat * 16 + 16
  · rw [if_pos hw, if_pos (by omega), e, if_pos (by omega)]
    show _ = ldB fm (a + 4 * (j - x.toNat * 16)) 4
    rw [show (16 * x).toNat = x.toNat * 16 by omega]
    exact (ldB_pt 4 fun i h1 h2 => hf i (by omega)).symm
  · rw [if_neg hw]
    rw [if_neg (by omega)] at e
    rw [e]
/-- The windows of a turn. -/
theorem ahead_one {c n : Int} (n2 : 2 ≤ n) (c0 : 0 ≤ c) (c1 : c < n) : (c + (n - 1)) % n = (c + n - 1) % n := by congr 1; omega
theorem ahead_two {c n : Int} (n2 : 2 ≤ n) (c0 : 0 ≤ c) (c1 : c < n) : ((c + n - 1) % n + (n - 1)) % n = (c + (n - 2)) % n := by
  rw [F3.before_mod c0 c1]
  by_cases h : c = 0
  · rw [if_pos h, h, show n - 1 + (n - 1) = (0 + (n - 2)) + n by omega, Int.add_emod_right]
  · rw [if_neg h, show c - 1 + (n - 1) = c + (n - 2) by omega]
/-- What a turn comes to, against what the document makes of it. -/
structure Exp (s : CS) (e : MS) (n : Nat) (c v : Int) (l : List Ent) (f : Nat → Int) : Prop where
  run : Runs 1540 n (mW s) e
  n60 : n ≤ 60
  nw : e.nw = s.nw
  sz : e.sz = 4096
  cwp : e.cwp = c
  v0 : 0 ≤ v
  v1 : v < s.nw
  wim : e.wim = P4.pw v.toNat
  pil : e.pil = s.pl
  fl : e.fl = s.fl
  bank : e.bank = 0
  ol : e.ol = 0
  reg : ∀ l' : List Ent, F3.Step (wG e.R s.nw.toNat 16 0) l' → (∀ (x : Int) (i : Nat), 0 ≤ x → x < s.nw → i < 16 → winL l' s.nw x i = winL l s.nw x i) ∧ (∀ k r : Nat, k < 16 → r < 8 → atL l' (place s.nw 0 k r) = atL l (place s.nw 0 k r))
  mem : Bytes e.f → ∀ i, i < 4096 → ptB (fun _ => 0) 0 (M5.wdB e.f 0) 1024 i = f i
section
variable {s : CS} (H : s.May) (B : CSB s) {l : List Ent} (hS : F3.Step (wG (mW s).R s.nw.toNat 16 0) l) (hb : Bytes (mW s).f)
include H B hS hb
theorem exp_save (hup : s.up = false) : ∃ e n, Exp s e n ((s.c + s.nw - 1) % s.nw) ((s.c + (s.nw - 2)) % s.nw) l (ptB (ptB (fun _ => 0) 0 (M5.wdB (mW s).f 0) 1024) (s.fa ((s.c + (s.nw - 2)) % s.nw)) (winL l s.nw ((s.c + (s.nw - 2)) % s.nw)) 16) := by
  have h2 := H.n2
  have h32 := H.n32
  have hn : ((s.nw.toNat : Nat) : Int) = s.nw := by omega
  obtain ⟨la, hla⟩ : ∃ la, la = (s.c + (s.nw - 2)) % s.nw := ⟨_, rfl⟩
  have l0 : 0 ≤ la := by rw [hla]; exact Int.emod_nonneg _ (by omega)
  have l1 : la < s.nw := by rw [hla]; exact Int.emod_lt_of_pos _ (by omega)
  rw [← hla]
  obtain ⟨f1, f2, f3, f4⟩ := fa_is H l0 l1
  obtain ⟨e, D, R⟩ := over_run (m0 := mW s) (w0_made H B) ⟨show (984 : Int) ≤ 1536 by decide, show (1536 : Int) + 4 ≤ 2048 by decide, show (1536 : Int) % 4 = 0 by decide⟩
    (by have := mem_code H; unfold CS.op at this; rw [hup] at this; exact this)
    (by show P4.pw s.to.toNat = _; unfold CS.to; rw [hup]; rfl) (l := la) hla.symm f1 f2 f3 f4
  refine ⟨e, 29, ⟨R, by decide, D.nw, D.sz, D.cwp, l0, l1, D.wim, D.pil, D.fl, D.bank, D.ol, fun l' h' => ?_, fun hb' i hi => ?_⟩⟩
  · exact step_same h' hS h2 h32 (wG_pt D.R)
  · rw [back_bytes hb' 1024 i (by omega), D.f]
    exact ptB_pt (N := 4096) (fun j hj => (back_bytes hb 1024 j (by omega)).symm) 16 (fun k hk => by rw [← hn] at l1 ⊢; exact (win_reg hS (by omega) (by omega) l0 l1 hk).symm) i hi
theorem exp_restore (hup : s.up = true) : ∃ e n, Exp s e n ((s.c + 1) % s.nw) (((s.c + 1) % s.nw + 1) % s.nw) (l ++ F3.entF (((s.c + 1) % s.nw).toNat * 16) (M5.wdB (ptB (fun _ => 0) 0 (M5.wdB (mW s).f 0) 1024) (s.fa ((s.c + 1) % s.nw))) 16) (ptB (fun _ => 0) 0 (M5.wdB (mW s).f 0) 1024) := by
  have h2 := H.n2
  have h32 := H.n32
  have hn : ((s.nw.toNat : Nat) : Int) = s.nw := by omega
  obtain ⟨la, hla⟩ : ∃ la, la = (s.c + 1) % s.nw := ⟨_, rfl⟩
  have l0 : 0 ≤ la := by rw [hla]; exact Int.emod_nonneg _ (by omega)
  have l1 : la < s.nw := by rw [hla]; exact Int.emod_lt_of_pos _ (by omega)
  rw [← hla]
  have k0 : 0 ≤ (la + 1) % s.nw := Int.emod_nonneg _ (by omega)
  have k1 : (la + 1) % s.nw < s.nw := Int.emod_lt_of_pos _ (by omega)
  obtain ⟨f1, f2, f3, f4⟩ := fa_is H l0 l1
  obtain ⟨e, D, R⟩ := under_run (m0 := mW s) (w0_made H B) ⟨show (984 : Int) ≤ 1536 by decide, show (1536 : Int) + 4 ≤ 2048 by decide, show (1536 : Int) % 4 = 0 by decide⟩
    (by have := mem_code H; unfold CS.op at this; rw [hup] at this; exact this)
    (by show P4.pw s.to.toNat = _; unfold CS.to; rw [hup]; rfl) (l := la) hla.symm f1 f2 f4
  refine ⟨e, 31, ⟨R, by decide, D.nw, D.sz, D.cwp, k0, k1, D.wim, D.pil, D.fl, D.bank, D.ol, fun l' h' => ?_, fun hb' i hi => ?_⟩⟩
  · exact step_same h' (F3.step_putF hS l0 (by omega) _) h2 h32 (wG_ld (by omega) l0 (by omega) f4 (fun j hj => back_bytes hb 1024 j (by omega)) D.R)
  · rw [D.f]
end
end Go.Proofs.YtlmaikbnjdmhcaaGreatDoor.K6
