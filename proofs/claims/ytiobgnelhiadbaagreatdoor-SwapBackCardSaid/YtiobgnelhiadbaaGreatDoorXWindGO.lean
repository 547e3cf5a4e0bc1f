/- WindTurns' and WindBack's arithmetic (layer 8): the machine that made makes. WindBack's arithmetic (layer 8): a SAVE that traps, registers set between, a RESTORE. -/
import Derived.Test.YtiobgnelhiadbaaGreatDoorXWindGM
namespace Go.Proofs.YtiobgnelhiadbaaGreatDoor.K6
open Go.RowKit W8
set_option linter.unusedVariables false
/-- A case, as numbers. -/
structure CS where
  nw : Int
  c : Int
  lr : Nat
  rg : Nat → Int
  lf : Nat
  fr : Nat → Int
  fl : Int
  pl : Int
  lg : Nat
  gl : Nat → Int
  fill : Int
  up : Bool
structure CSB (s : CS) : Prop where
  rg : ∀ i, W32 (s.rg i)
  fr : ∀ i, 0 ≤ s.fr i ∧ s.fr i < 65536
  fl : 0 ≤ s.fl ∧ s.fl < 256
  pl : 0 ≤ s.pl ∧ s.pl < 256
  gl : ∀ i, W32 (s.gl i)
  fill : W32 s.fill
structure CS.May (s : CS) : Prop where
  n2 : 2 ≤ s.nw
  n32 : s.nw ≤ 32
  c0 : 0 ≤ s.c
  c1 : s.c < s.nw
  pl : s.pl ≤ 15
  fl : s.fl ≤ 15
  lr : s.lr ≤ 512
  lf : s.lf ≤ 64
  lg : s.lg ≤ 120
/-- The memory: the handlers' words, the vectors, what fills the frames' room, the instruction. -/
def wW (nw : Int) (i : Nat) : Int := if i < 54 then (gX (wL nw) i).word else 0
def wA (nw : Int) : Nat → Int := stB (stB (ptB (fun _ => 0) 768 (wW nw) 54) 272 4 (sBr 124).word) 288 4 (sBr 146).word
def wFill (fill : Int) (i : Nat) : Int := (fill + (2048 + 4 * (i : Int)) * 2654435761 % 4294967296) % 4294967296
def wF (nw fill : Int) (k : Nat) : Nat → Int := ptB (wA nw) 2048 (wFill fill) k
def CS.op (s : CS) : Int := if s.up then 21 else 20
def CS.to (s : CS) : Int := if s.up then (s.c + 1) % s.nw else (s.c + s.nw - 1) % s.nw
def CS.mem (s : CS) : Nat → Int := stB (wF s.nw s.fill 512) 1536 4 (sTr s.op).word
/-- The registers. -/
def CS.rR (s : CS) : Nat → Nat → Int
  | 0 => fun _ => 0
  | k + 1 => F3.setR (s.rR k) s.nw ((k : Int) / 16 % s.nw) 0 (16 + (k : Int) % 16) (s.rg k)
def CS.fv (s : CS) (k : Nat) : Int := if k < s.lf then s.fr k else (k : Int) * 64 % 65536
def CS.fp (s : CS) (k : Nat) : Int := 2048 + s.fv k % 496 * 4
def CS.fR (s : CS) : Nat → Nat → Int
  | 0 => s.rR s.lr
  | k + 1 => F3.setR (s.fR k) s.nw k 0 14 (s.fp k)
def CS.gR (s : CS) : Nat → Nat → Int
  | 0 => s.fR s.nw.toNat
  | k + 1 => F3.setR (s.gR k) s.nw 0 ((k : Int) % 16) (1 + (k : Int) % 7) (s.gl k)
theorem ld_ptw (f : Nat → Int) (a : Nat) (g : Nat → Int) (hg : ∀ i, W32 (g i)) : ∀ k i, i < k → ldB (ptB f a g k) (a + 4 * i) 4 = g i
  | 0, i, h => absurd h (Nat.not_lt_zero _)
  | k + 1, i, h => by
    show ldB (stB (ptB f a g k) (a + 4 * k) 4 (g k)) (a + 4 * i) 4 = g i
    by_cases e : i = k
    · subst e; exact ld_st (hg i)
    · rw [ld_far (by omega)]; exact ld_ptw f a g hg k i (by omega)
theorem ld_ptf (f : Nat → Int) (a : Nat) (g : Nat → Int) : ∀ k c, c + 4 ≤ a ∨ a + 4 * k ≤ c → ldB (ptB f a g k) c 4 = ldB f c 4
  | 0, _, _ => rfl
  | k + 1, c, h => by
    show ldB (stB (ptB f a g k) (a + 4 * k) 4 (g k)) c 4 = _
    rw [ld_far (by omega)]
    exact ld_ptf f a g k c (by omega)
section
variable {s : CS} (H : s.May) (B : CSB s)
include H
include B
end
end Go.Proofs.YtiobgnelhiadbaaGreatDoor.K6
namespace Go.Proofs.YtiobgnelhiadbaaGreatDoor.K6
open Go.RowKit W8
set_option linter.unusedVariables false
section
variable {R : Nat → Int} {nw c1 : Int} {g : Nat → Int} (h2 : 2 ≤ nw) (h32 : nw ≤ 32) (k0 : 0 ≤ c1) (k1 : c1 < nw)
include h2 h32 k0 k1
end
section
variable {s : CS} (H : s.May) (B : CSB s) (hup : s.up = false)
include H B
include hup
/-- The frame of a window. -/
def CS.fa (s : CS) (l : Int) : Nat := (s.gR s.lg (F3.loc s.nw l 16 14)).toNat
end
end Go.Proofs.YtiobgnelhiadbaaGreatDoor.K6
