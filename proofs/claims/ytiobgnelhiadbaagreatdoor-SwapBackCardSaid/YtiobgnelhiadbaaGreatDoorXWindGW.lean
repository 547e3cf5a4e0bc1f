/- made (layer 8), walked: the machine ahead of a window's turn. -/
import Derived.Test.YtiobgnelhiadbaaGreatDoorXWindGR
import Derived.Test.YtiobgnelhiadbaaGreatDoorXWindGC
import Derived.Test.YtiobgnelhiadbaaGreatDoorXMachGMd
import Derived.Test.YtiobgnelhiadbaaGreatDoorXMachGI
namespace Go.Proofs.YtiobgnelhiadbaaGreatDoor.K6
open Go.RowKit W8
set_option linter.unusedVariables false
/-- A case as it lies in world w, by value. -/
structure CaseAt (w : World) (s : CS) (vr vf vg : Value) : Prop where
  rr : Sl .u32 w vr s.lr s.rg
  rf : Sl .u16 w vf s.lf s.fr
  rg : Sl .u32 w vg s.lg s.gl
theorem CaseAt.bel {w w' : World} {s : CS} {vr vf vg : Value} (h : CaseAt w s vr vf vg) (k : Below w.heap.size w w') : CaseAt w' s vr vf vg := ⟨h.rr.bel k, h.rf.bel k, h.rg.bel k⟩
section
variable {w V V' : World} {s : CS} {vr vf vg : Value} {b fb mb g x : Nat} {cs os : Value} {G : Nat → Prop} {m m' : MS}
end
theorem wturns_of {G : Nat → Prop} {w w' : World} (h : A7.Turns G w w') : Turns G w w' := ⟨h.os, h.tape, h.output, h.size, h.block⟩
theorem enc_w (x : A7.XI) (hx : A7.XB x) : ∃ er, ∀ W, Calls Tryz.prog 92 #[.agg #[.int .u8 x.o, .int .u8 x.d, .int .u8 x.s, .int .u8 x.t, .bool x.b, .int .i32 x.n]] W fun e w' => e = .returned (.tuple #[.int .u32 x.word, .int .i64 er]) ∧ Below W.heap.size W w' :=
  ⟨_, fun W => (I2.renc_any x.o x.d x.s x.t x.b x.n W hx.o hx.d hx.s hx.t hx.n).mono fun e w' hh => ⟨hh.1, hh.2.bel⟩⟩
theorem wstore {w : World} {b fb mb g x : Nat} {cs os : Value} {G : Nat → Prop} {m : MS} (h : MachP w b fb mb g x cs os G m) (a : Nat) (v : Int) (hv : W32 v) (ht : thE m.sz a 4 = 0) :
    Calls Tryz.prog 90 #[.pointer (some ⟨mb, 0, none⟩), .int .u32 a, .int .i64 4, .int .u32 v] w fun e w' => e = .returned (.int .i64 0) ∧ MachP w' b fb mb g x cs os G { m with f := stB m.f a 4 v } ∧ w.grownBy w' (some g) :=
  (M5.store_yes a 4 v h.mem hv ht).mono fun e w' ⟨h1, h2, h3⟩ => ⟨h1, h.memd h3 h2, h3⟩
end Go.Proofs.YtiobgnelhiadbaaGreatDoor.K6
