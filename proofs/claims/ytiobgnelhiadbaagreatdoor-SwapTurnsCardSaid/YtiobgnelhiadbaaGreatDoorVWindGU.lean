/- WindTurns' and WindBack's arithmetic (layer 8): the machine that made makes. WindBack's arithmetic (layer 8): a SAVE that traps, registers set between, a RESTORE. WindTurns and WindBack (layer 8): a machine that runs until it comes to a place. made (layer 8), walked: the machine ahead of a window's turn. What the laws of layer 8 share: may a case be looked at; the document's example. WindTurns (layer 8): what the document looks at, out of a machine. WindTurns' arithmetic (layer 8): what the document makes of a machine's registers and bytes, against what the machine itself has. -/
import Derived.Test.YtiobgnelhiadbaaGreatDoorVSwapG
import Derived.Test.YtiobgnelhiadbaaGreatDoorVMachGJ
import Derived.Test.YtiobgnelhiadbaaGreatDoorVMachGL
import Derived.Test.YtiobgnelhiadbaaGreatDoorVWindGC
import Derived.Test.YtiobgnelhiadbaaGreatDoorVMachGMd
import Derived.Test.YtiobgnelhiadbaaGreatDoorVMachGI
import Derived.Test.YtiobgnelhiadbaaGreatDoorVWindGK
import Derived.Test.YtiobgnelhiadbaaGreatDoorVWindGS
namespace Go.Proofs.YtiobgnelhiadbaaGreatDoor.K6
open Go.RowKit W8
set_option linter.unusedVariables false
theorem ld_ptw (f : Nat → Int) (a : Nat) (g : Nat → Int) (hg : ∀ i, W32 (g i)) : ∀ k i, i < k → ldB (ptB f a g k) (a + 4 * i) 4 = g i
  | 0, i, h => absurd h (Nat.not_lt_zero _)
  | k + 1, i, h => by
    show ldB (stB (ptB f a g k) (a + 4 * k) 4 (g k)) (a + 4 * i) 4 = g i
    by_cases e : i = k
    · subst e; exact ld_st (hg i)
    · rw [ld_far (by omega)]; exact ld_ptw f a g hg k i (by omega)
theorem ld_ptf (f : Nat → Int) (a : Nat) (g : Nat → Int) : ∀ k c, c + 4 ≤ a ∨ a + 4 * k ≤ c → ldB (ptB f a g k) c 4 = ldB f c 4
  | 0, _, _ => rfl
  | k + 1, c, h => by
    show ldB (stB (ptB f a g k) (a + 4 * k) 4 (g k)) c 4 = _
    rw [ld_far (by omega)]
    exact ld_ptf f a g k c (by omega)
end Go.Proofs.YtiobgnelhiadbaaGreatDoor.K6
namespace Go.Proofs.YtiobgnelhiadbaaGreatDoor.K6
open Go.RowKit W8
set_option linter.unusedVariables false
section
variable {R : Nat → Int} {nw c1 : Int} {g : Nat → Int} (h2 : 2 ≤ nw) (h32 : nw ≤ 32) (k0 : 0 ≤ c1) (k1 : c1 < nw)
include h2 h32 k0 k1
end
end Go.Proofs.YtiobgnelhiadbaaGreatDoor.K6
namespace Go.Proofs.YtiobgnelhiadbaaGreatDoor.K6
open Go.RowKit W8
set_option linter.unusedVariables false
theorem wstop_kind (k v : Int) (W : World) : Sem.run Tryz.prog (Instr.field 37 (.agg #[.int .u8 k, .int .u32 v]) 0) W = .ok (.int .u8 k) W := by kernel_rfl
theorem wpsr_bank (c p k f : Int) (W : World) : Sem.run Tryz.prog (Instr.field 24 (.agg #[.int .u8 c, .int .u8 p, .int .u8 k, .int .u8 f]) 2) W = .ok (.int .u8 k) W := by kernel_rfl
theorem wpsr_cwp (c p k f : Int) (W : World) : Sem.run Tryz.prog (Instr.field 24 (.agg #[.int .u8 c, .int .u8 p, .int .u8 k, .int .u8 f]) 0) W = .ok (.int .u8 c) W := by kernel_rfl
theorem Runs.pos {t : Int} {n : Nat} {m e : MS} (h : Runs t n m e) : 0 < n := by cases h <;> omega
theorem pc_same {a w : World} {L : List ME} {j : Nat} {b : Nat} {G : Nat → Prop} {m : MS} (h : AllM a w L) (hj : L[j]? = some ⟨b, G, m⟩) {v : Int} (hv : m.pc = v) :
    Calls Tryz.prog 55 #[.pointer (some ⟨b, 0, none⟩)] w fun e w' => e = .returned (.int .u32 v) ∧ w' = w := by
  obtain ⟨fb, mb, g, x, cs, os, P⟩ := h.at' j _ hj
  rw [← hv]
  exact (PC_get P).mono fun e w' ⟨e1, e2⟩ => ⟨e1, e2.symm⟩
end Go.Proofs.YtiobgnelhiadbaaGreatDoor.K6
namespace Go.Proofs.YtiobgnelhiadbaaGreatDoor.K6
open Go.RowKit W8
set_option linter.unusedVariables false
theorem wturns_of {G : Nat → Prop} {w w' : World} (h : A7.Turns G w w') : Turns G w w' := ⟨h.os, h.tape, h.output, h.size, h.block⟩
theorem enc_w (x : A7.XI) (hx : A7.XB x) : ∃ er, ∀ W, Calls Tryz.prog 92 #[.agg #[.int .u8 x.o, .int .u8 x.d, .int .u8 x.s, .int .u8 x.t, .bool x.b, .int .i32 x.n]] W fun e w' => e = .returned (.tuple #[.int .u32 x.word, .int .i64 er]) ∧ Below W.heap.size W w' :=
  ⟨_, fun W => (I2.renc_any x.o x.d x.s x.t x.b x.n W hx.o hx.d hx.s hx.t hx.n).mono fun e w' hh => ⟨hh.1, hh.2.bel⟩⟩
theorem wstore {w : World} {b fb mb g x : Nat} {cs os : Value} {G : Nat → Prop} {m : MS} (h : MachP w b fb mb g x cs os G m) (a : Nat) (v : Int) (hv : W32 v) (ht : thE m.sz a 4 = 0) :
    Calls Tryz.prog 90 #[.pointer (some ⟨mb, 0, none⟩), .int .u32 a, .int .i64 4, .int .u32 v] w fun e w' => e = .returned (.int .i64 0) ∧ MachP w' b fb mb g x cs os G { m with f := stB m.f a 4 v } ∧ w.grownBy w' (some g) :=
  (M5.store_yes a 4 v h.mem hv ht).mono fun e w' ⟨h1, h2, h3⟩ => ⟨h1, h.memd h3 h2, h3⟩
end Go.Proofs.YtiobgnelhiadbaaGreatDoor.K6
namespace Go.Proofs.YtiobgnelhiadbaaGreatDoor.K6
open Go.RowKit W8
set_option linter.unusedVariables false
section
variable {w : World} {b fb mb g x : Nat} {cs os : Value} {G : Nat → Prop} {m : MS}
theorem window_c (h : MachP w b fb mb g x cs os G m) (c : Int) (c0 : 0 ≤ c) (c1 : c < m.nw) {W : World} (k : Below w.heap.size w W) :
    Calls Tryz.prog 31 #[.pointer (some ⟨fb, 0, none⟩), .int .i64 c] W fun e w' => ∃ sb, e = .returned (.tuple #[.slice (some ⟨sb, 0, none⟩) 16 16, .int .i64 0]) ∧ w'.heap[sb]? = some (.cells (F3.wl fun i => m.R ((16 * c).toNat + i)).toArray 22 (0, 0)) ∧ ¬ G sb ∧ Below W.heap.size W w' := by
  refine (F3.window_at fb m.nw c m.R W (h.bel k).file h.ok.n2 h.ok.n32 c0 c1).mono ?_
  rintro e w' ⟨rfl, gr, hrow⟩
  refine ⟨_, rfl, ?_, fun e => absurd ((h.bel k).lt _ e) (Nat.lt_irrefl _), gr⟩
  rw [show (16 * c).toNat = c.toNat * 16 by omega]
  exact hrow
theorem spect_one {o : Obj} {y : Nat} (h : w.heap[y]? = some o) (hy : ¬ G y) : Spect w [⟨b, G, m⟩] y o := ⟨h, fun j e hj => by
  cases j with
  | zero => simp at hj; subst hj; exact hy
  | succ j => simp at hj⟩
theorem get_c (h : MachP w b fb mb g x cs os G m) (c : Int) (c0 : 0 ≤ c) (c1 : c < m.nw) {v : Int} (hv : m.R (F3.loc m.nw c 0 14) = v) :
    Calls Tryz.prog 26 #[.pointer (some ⟨fb, 0, none⟩), .int .i64 c, .int .i64 0, .int .i64 14] w fun e w' => e = .returned (.tuple #[.int .u32 v, .int .i64 0]) ∧ Below w.heap.size w w' := by
  rw [← hv]
  exact F3.get_at fb m.nw c 0 14 m.R w h.file h.ok.n2 h.ok.n32 ⟨c0, c1, by decide, by decide, by decide, by decide⟩
theorem psr_bel (h : MachP w b fb mb g x cs os G m) {c p k f : Int} (hc : m.cwp = c) (hp : m.pil = p) (hk : m.bank = k) (hf : m.fl = f) : Calls Tryz.prog 28 #[.pointer (some ⟨b, 0, none⟩)] w fun e w' => e = .returned (.agg #[.int .u8 c, .int .u8 p, .int .u8 k, .int .u8 f]) ∧ Below w.heap.size w w' := by
  rw [← hc, ← hp, ← hk, ← hf]
  exact Psr_get h
end
end Go.Proofs.YtiobgnelhiadbaaGreatDoor.K6
namespace Go.Proofs.YtiobgnelhiadbaaGreatDoor.K6
open Go.RowKit W8
open F3 (LAt LAtB place atL Ent)
set_option linter.unusedVariables false
/-- Registers as far as they have been looked at: windows, globals. -/
def wG (R : Nat → Int) (n : Nat) (b r : Nat) : Nat → Int := fun j => if j < 16 * n then R j else if 512 ≤ j ∧ j < 512 + 8 * b + r ∧ (j - 512) % 8 ≠ 0 then R j else 0
theorem wG_zero (R : Nat → Int) : wG R 0 0 0 = fun _ => 0 := by
  funext j
  unfold wG
  rw [if_neg (by omega), if_neg (by omega)]
theorem wG_put (R : Nat → Int) (k : Nat) (hk : k < 32) : F3.putF (wG R k 0 0) (k * 16) (fun i => R (16 * k + i)) = wG R (k + 1) 0 0 := by
  funext j
  unfold F3.putF wG
  by_cases h : k * 16 ≤ j ∧ j < k * 16 + 16
  · rw [if_pos h, if_pos (by omega)]
    show R (16 * k + (j - k * 16)) = R j
    congr 1
    omega
  · rw [if_neg h]
    by_cases h2 : j < 16 * k
    · rw [if_pos h2, if_pos (by omega)]
    · rw [if_neg h2, if_neg (by omega : ¬ j < 16 * (k + 1))]
section
variable {w : World} {b fb mb g x : Nat} {cs os : Value} {G : Nat → Prop} {m : MS}
theorem mem_bel8 (h : MachP w b fb mb g x cs os G m) : Calls Tryz.prog 34 #[.pointer (some ⟨b, 0, none⟩)] w fun e w' => e = .returned (.pointer (some ⟨mb, 0, none⟩)) ∧ w' = w :=
  (Mem_get h).mono fun e w' ⟨h1, h2⟩ => ⟨h1, h2.symm⟩
end
end Go.Proofs.YtiobgnelhiadbaaGreatDoor.K6
namespace Go.Proofs.YtiobgnelhiadbaaGreatDoor.K6
open Go.RowKit W8
open F3 (LAt LAtB place atL Ent)
set_option linter.unusedVariables false
theorem step_same {S S' : Nat → Int} {l l' : List Ent} {n : Int} (h : F3.Step S l) (h' : F3.Step S' l') (hn : 2 ≤ n) (hn' : n ≤ 32) (e : ∀ j, j < 640 → S j = S' j) :
    (∀ (x : Int) (i : Nat), 0 ≤ x → x < n → i < 16 → winL l n x i = winL l' n x i) ∧ (∀ k r : Nat, k < 16 → r < 8 → atL l (place n 0 k r) = atL l' (place n 0 k r)) := by
  constructor
  · intro x i h0 h1 hi
    unfold winL
    rw [F3.place_put h0 h1 hn' hi, ← h _ (by omega), ← h' _ (by omega)]
    exact e _ (by omega)
  · intro k r hk hr
    have NM : F3.Named n 0 k r := ⟨by decide, by omega, by omega, by omega, by omega, by omega⟩
    rw [← F3.cellOf_loc hn' NM, F3.loc_global (by omega), ← h _ (by omega), ← h' _ (by omega)]
    exact e _ (by omega)
section
variable {R : Nat → Int} {n : Nat} {l : List Ent} (hS : F3.Step (wG R n 16 0) l) (n2 : 2 ≤ n) (n32 : n ≤ 32)
include hS n2 n32
end
end Go.Proofs.YtiobgnelhiadbaaGreatDoor.K6
