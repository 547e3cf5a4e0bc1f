/- WindTurns and WindBack (layer 8): a machine that runs until it comes to a place. -/
import Derived.Test.YtiobgnelhiadbaaGreatDoorXWindGO
import Derived.Test.YtiobgnelhiadbaaGreatDoorXMachGJ
import Derived.Test.YtiobgnelhiadbaaGreatDoorXMachGL
namespace Go.Proofs.YtiobgnelhiadbaaGreatDoor.K6
open Go.RowKit W8
set_option linter.unusedVariables false
theorem wstop_kind (k v : Int) (W : World) : Sem.run Tryz.prog (Instr.field 37 (.agg #[.int .u8 k, .int .u32 v]) 0) W = .ok (.int .u8 k) W := by kernel_rfl
theorem wpsr_bank (c p k f : Int) (W : World) : Sem.run Tryz.prog (Instr.field 24 (.agg #[.int .u8 c, .int .u8 p, .int .u8 k, .int .u8 f]) 2) W = .ok (.int .u8 k) W := by kernel_rfl
theorem Runs.pos {t : Int} {n : Nat} {m e : MS} (h : Runs t n m e) : 0 < n := by cases h <;> omega
theorem pc_same {a w : World} {L : List ME} {j : Nat} {b : Nat} {G : Nat → Prop} {m : MS} (h : AllM a w L) (hj : L[j]? = some ⟨b, G, m⟩) {v : Int} (hv : m.pc = v) :
    Calls Tryz.prog 55 #[.pointer (some ⟨b, 0, none⟩)] w fun e w' => e = .returned (.int .u32 v) ∧ w' = w := by
  obtain ⟨fb, mb, g, x, cs, os, P⟩ := h.at' j _ hj
  rw [← hv]
  exact (PC_get P).mono fun e w' ⟨e1, e2⟩ => ⟨e1, e2.symm⟩
/-- What was none of a machine's is none of it yet. -/
def Keep (w w' : World) (b : Nat) (G G' : Nat → Prop) (m m' : MS) : Prop := ∀ x o, Spect w [⟨b, G, m⟩] x o → Spect w' [⟨b, G', m'⟩] x o
theorem Keep.refl (w : World) (b : Nat) (G : Nat → Prop) (m : MS) : Keep w w b G G m m := fun _ _ h => h
theorem Keep.trans {w w' w'' : World} {b : Nat} {G G' G'' : Nat → Prop} {m m' m'' : MS} (h : Keep w w' b G G' m m') (k : Keep w' w'' b G' G'' m' m'') : Keep w w'' b G G'' m m'' := fun x o s => k x o (h x o s)
theorem Keep.more {w w' w'' : World} {b : Nat} {G G' : Nat → Prop} {m m' : MS} (h : Keep w w' b G G' m m') (k : Below w'.heap.size w' w'') : Keep w w'' b G G' m m' := fun x o s => (h x o s).more k
end Go.Proofs.YtiobgnelhiadbaaGreatDoor.K6
