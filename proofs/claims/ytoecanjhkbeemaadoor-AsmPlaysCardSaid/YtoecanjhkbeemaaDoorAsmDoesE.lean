/- does (layer 7): any act. -/
import Derived.Test.YtoecanjhkbeemaaDoorAsmDoesC
import Derived.Test.YtoecanjhkbeemaaDoorAsmDoesD
namespace Go.Proofs.YtoecanjhkbeemaaDoor.A7
open Go.RowKit Go.Maps
set_option linter.unusedVariables false
theorem does_any {w : World} {b : Nat} {G K : Nat → Prop} {q : AS} {lv mv lx : Value} {l : List It} {ms : List (ByteArray × Nat)} (a : Ac) (A : AsmB w b G K q) (R : RL w lv mv l ms) (hr : Like q l ms) (far : ∀ i, lv.ownBlock = some i ∨ mv.ownBlock = some i → ¬ K i) (hb : AcB a) (hi : Ins w K lx a.k a.X) (hn : l.length + a.k + 62 ≤ 100000) (hm : ms.length < 100000) :
    Calls Tryd.prog 9 #[.pointer (some ⟨b, 0, none⟩), .agg #[lv, mv], .agg #[.int .u8 a.what, lx, .string a.nm, .int .u8 a.c, .int .u32 a.u]] w fun e w' => ∃ lv' mv' G', e = .returned (.tuple #[.agg #[lv', mv'], .bool true]) ∧ AsmB w' b G' (fun i => K i ∨ G' i) (doA q a) ∧ Turns G w w' ∧ (∀ i, G' i → G i ∨ w.heap.size ≤ i) ∧ RL w' lv' mv' (doL l ms a) (doM l ms a) ∧ (∀ i, lv'.ownBlock = some i ∨ mv'.ownBlock = some i → ¬ (K i ∨ G' i)) := by
  by_cases h0 : a.what % 5 = 0
  · exact does_0 a A R hr far hb hi hn hm h0
  by_cases h1 : a.what % 5 = 1
  · cases hl : look ms a.nm with
    | none => exact does_1y a A R hr far hb hi hn hm h1 hl
    | some t => exact does_1n a A R hr far hb hi hn hm h1 hl
  by_cases h2 : a.what % 5 = 2
  · by_cases hc : a.c ≤ 6
    · exact does_2y a A R hr far hb hi hn hm h2 hc
    · exact does_2n a A R hr far hb hi hn hm h2 (by omega)
  by_cases h3 : a.what % 5 = 3
  · exact does_3 a A R hr far hb hi hn hm h3
  by_cases hc : a.c ≤ 31
  · exact does_4y a A R hr far hb hi hn hm (by omega) hc
  · exact does_4n a A R hr far hb hi hn hm (by omega) (by omega)
end Go.Proofs.YtoecanjhkbeemaaDoor.A7
