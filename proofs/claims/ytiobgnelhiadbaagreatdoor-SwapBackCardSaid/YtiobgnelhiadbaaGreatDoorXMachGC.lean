/- AsmConst's arithmetic: what a machine of two windows comes to that does a constant's instructions. -/
import Derived.Test.YtiobgnelhiadbaaGreatDoorXMachGA
import Derived.Test.YtiobgnelhiadbaaGreatDoorXMachGI
import Derived.Test.YtiobgnelhiadbaaGreatDoorXAsmG
namespace Go.Proofs.YtiobgnelhiadbaaGreatDoor.K6
open Go.RowKit
set_option linter.unusedVariables false
theorem ld_st {f : Nat → Int} {a : Nat} {v : Int} (hv : W32 v) : ldB (stB f a 4 v) a 4 = v := by
  obtain ⟨h0, h1⟩ := hv
  have e : ∀ k, k < 4 → stB f a 4 v (a + k) = v / 256 ^ (3 - k) % 256 := fun k hk => by
    unfold stB; rw [if_pos (by omega), show a + 4 - 1 - (a + k) = 3 - k by omega]
  simp only [ldB]
  rw [e 0 (by decide), e 1 (by decide), e 2 (by decide), e 3 (by decide)]
  simp only [Nat.sub_zero, show 3 - 1 = 2 from rfl, show 3 - 2 = 1 from rfl, show 3 - 3 = 0 from rfl]
  have p3 : (256 : Int) ^ 3 = 16777216 := rfl
  have p2 : (256 : Int) ^ 2 = 65536 := rfl
  have p1 : (256 : Int) ^ 1 = 256 := rfl
  have p0 : (256 : Int) ^ 0 = 1 := rfl
  rw [p3, p2, p1, p0]
  omega
theorem ld_far {f : Nat → Int} {a c : Nat} {v : Int} (h : c + 4 ≤ a ∨ a + 4 ≤ c) : ldB (stB f a 4 v) c 4 = ldB f c 4 := by
  have e : ∀ k, k < 4 → stB f a 4 v (c + k) = f (c + k) := fun k hk => by unfold stB; rw [if_neg (by omega)]
  simp only [ldB]
  rw [e 0 (by decide), e 1 (by decide), e 2 (by decide), e 3 (by decide)]
open A7 in
/-- The machine that has a constant's words. -/
def c0 (g : Nat → Int) (k : Nat) : MS := { mnew 2 64 with f := ptB (fun _ => 0) 0 g k }
/-- A step at a word that lies at the PC. -/
theorem step_word {m : MS} {x : A7.XI} (hx : A7.XB x) (hm : x.may = true) (hs : m.sk = 0) (hp : 0 ≤ m.pil) (ht : thE m.sz m.pc 4 = 0) (hw : ldB m.f m.pc.toNat 4 = x.word) :
    mstep m 0 = mExec m x.o x.d x.n (m.get x.s) (if x.b then x.n % 4294967296 else m.get x.t) ∧ I2.dO (ldB m.f m.pc.toNat 4) = x.o := by
  have e : x.word = I2.enc x.o x.d x.s x.t x.b x.n := I2.eW_yes hm
  obtain ⟨d1, d2, d3, d4, d5, d6, d7⟩ := I2.back_enc hx.o hx.d hx.s hx.t hm
  rw [hw, e]
  refine ⟨?_, d2⟩
  unfold mstep
  rw [if_neg (by simpa using hs), if_neg (by omega), if_pos ht, hw, e]
  unfold mWord
  rw [d1, d2, d3, d4, d5, d6, d7]
  rfl
section
variable {rd u : Int} (hr : 0 ≤ rd ∧ rd ≤ 31) (hu : W32 u)
include hr hu
end
end Go.Proofs.YtiobgnelhiadbaaGreatDoor.K6
