/- The document's machine (layer 6): flow, memory, state and rest, whatever the instruction is. -/
import Derived.Test.YtiobgnelhiadbaaGreatDoorZMachGRj
import Derived.Test.YtiobgnelhiadbaaGreatDoorZMachGRd
import Derived.Test.YtiobgnelhiadbaaGreatDoorZMachGRb
import Derived.Test.YtiobgnelhiadbaaGreatDoorZMachGRe
namespace Go.Proofs.YtiobgnelhiadbaaGreatDoor.K6
open Go.RowKit
set_option linter.unusedVariables false
variable [Far]
theorem calls_more {F : FuncId} {args : Array Value} {w : World} {m m' : MS} {L L' : Nat} (h : Calls Tryz.prog F args w (Gives w m L)) (hL : L ≤ L') (hm : m = m') : Calls Tryz.prog F args w (Gives w m' L') := by
  subst hm
  exact h.mono fun e w' ⟨q, h1, h2, h3⟩ => ⟨q, h1, h2.more hL, h3⟩
theorem flow_any (q : RV) (m : MS) (L : Nat) (o d s t : Int) (ib : Bool) (n a b : Int) (w : World) (hA : RefAt w q m L) (hm : MOk m) (hL : L ≤ 900) (ho : 15 ≤ o ∧ o ≤ 21) (hd0 : 0 ≤ d) (hd1 : d < 32) (hn : o = 15 → 0 ≤ n ∧ n ≤ 2097151) (ha : W32 a) (hb : W32 b) :
    Calls Tryz.prog 80 #[.agg (rrow q), .agg (irow o d s t ib n), .int .u32 a, .int .u32 b] w (Gives w (mFlow m o d n a b) (L + 1)) := by
  rcases (by omega : o = 15 ∨ o = 16 ∨ o = 17 ∨ o = 18 ∨ o = 19 ∨ o = 20 ∨ o = 21) with rfl | rfl | rfl | rfl | rfl | rfl | rfl
  · exact calls_more (flow15 q m L d s t ib n a b w hA hm hL hd0 hd1 (hn rfl)) (Nat.le_refl _) rfl
  · exact calls_more (flow16 q m L d s t ib n a b w hA hm ha hb) (Nat.le_succ _) rfl
  · cases hh : W1.hv d m.fl
    · exact calls_more (flow17no q m L d s t ib n a b w hA hm hd0 hd1 hh) (Nat.le_succ _) (by show _ = (if W1.hv d m.fl = true then _ else _); rw [hh]; rfl)
    · exact calls_more (flow17yes q m L d s t ib n a b w hA hm hd0 hd1 hb hh) (Nat.le_succ _) (by show _ = (if W1.hv d m.fl = true then _ else _); rw [hh]; rfl)
  · exact calls_more (flow18 q m L d s t ib n a b w hA hm hL hb) (Nat.le_refl _) rfl
  · exact calls_more (flow19 q m L d s t ib n a b w hA hm hL hd0 hd1) (Nat.le_refl _) rfl
  · by_cases hx : wx m.wim m.nw = some ((m.cwp + m.nw - 1) % m.nw).toNat
    · exact calls_more (flow20t q m L d s t ib n a b w hA hm hL hx) (Nat.le_succ _) (by show _ = (if wx m.wim m.nw = some ((m.cwp + m.nw - 1) % m.nw).toNat then _ else _); rw [if_pos hx])
    · exact calls_more (flow20n q m L d s t ib n a b w hA hm hL hd0 hd1 hx) (Nat.le_refl _) (by show _ = (if wx m.wim m.nw = some ((m.cwp + m.nw - 1) % m.nw).toNat then _ else _); rw [if_neg hx])
  · by_cases hx : wx m.wim m.nw = some ((m.cwp + 1) % m.nw).toNat
    · exact calls_more (flow21t q m L d s t ib n a b w hA hm hL hx) (Nat.le_succ _) (by show _ = (if wx m.wim m.nw = some ((m.cwp + 1) % m.nw).toNat then _ else _); rw [if_pos hx])
    · exact calls_more (flow21n q m L d s t ib n a b w hA hm hL hd0 hd1 hx) (Nat.le_refl _) (by show _ = (if wx m.wim m.nw = some ((m.cwp + 1) % m.nw).toNat then _ else _); rw [if_neg hx])
theorem memory_any (q : RV) (m : MS) (L : Nat) (o d s t : Int) (ib : Bool) (n x : Int) (w : World) (hA : RefAt w q m L) (hm : MOk m) (hL : L ≤ 900) (ho : 22 ≤ o ∧ o ≤ 25) (hd0 : 0 ≤ d) (hd1 : d < 32) (hx : W32 x) :
    Calls Tryz.prog 81 #[.agg (rrow q), .agg (irow o d s t ib n), .int .u32 x] w (Gives w (mMem m o d x) (L + 1)) := by
  obtain ⟨y, rfl⟩ : ∃ y : Nat, x = y := ⟨x.toNat, by have := hx.1; omega⟩
  have hx := hx.2
  rcases (by omega : o = 22 ∨ o = 23 ∨ o = 24 ∨ o = 25) with rfl | rfl | rfl | rfl
  · by_cases h : thE m.sz y 4 = 0
    · exact calls_more (mem22y q m L d s t ib n y w hA hm hL hd0 hd1 hx h) (Nat.le_refl _) (by show _ = (if thE m.sz y 4 = 0 then _ else _); rw [if_pos h]; rfl)
    · exact calls_more (mem22n q m L d s t ib n y w hA hm hL hd0 hd1 hx h) (Nat.le_succ _) (by show _ = (if thE m.sz y 4 = 0 then _ else _); rw [if_neg h])
  · by_cases h : thE m.sz y 4 = 0
    · exact calls_more (mem23y q m L d s t ib n y w hA hm hL hd0 hd1 hx h) (Nat.le_succ _) (by show _ = (if thE m.sz y 4 = 0 then _ else _); rw [if_pos h]; rfl)
    · exact calls_more (mem23n q m L d s t ib n y w hA hm hL hd0 hd1 hx h) (Nat.le_succ _) (by show _ = (if thE m.sz y 4 = 0 then _ else _); rw [if_neg h])
  · by_cases h : thE m.sz y 1 = 0
    · exact calls_more (mem24y q m L d s t ib n y w hA hm hL hd0 hd1 hx h) (Nat.le_refl _) (by show _ = (if thE m.sz y 1 = 0 then _ else _); rw [if_pos h]; rfl)
    · exact calls_more (mem24n q m L d s t ib n y w hA hm hL hd0 hd1 hx h) (Nat.le_succ _) (by show _ = (if thE m.sz y 1 = 0 then _ else _); rw [if_neg h])
  · by_cases h : thE m.sz y 1 = 0
    · exact calls_more (mem25y q m L d s t ib n y w hA hm hL hd0 hd1 hx h) (Nat.le_succ _) (by show _ = (if thE m.sz y 1 = 0 then _ else _); rw [if_pos h]; rfl)
    · exact calls_more (mem25n q m L d s t ib n y w hA hm hL hd0 hd1 hx h) (Nat.le_succ _) (by show _ = (if thE m.sz y 1 = 0 then _ else _); rw [if_neg h])
theorem state_any (q : RV) (m : MS) (L : Nat) (o d s t : Int) (ib : Bool) (n a b : Int) (w : World) (hA : RefAt w q m L) (hm : MOk m) (hL : L ≤ 900) (ho : 26 ≤ o ∧ o ≤ 32) (hd0 : 0 ≤ d) (hd1 : d < 32) (hn : o = 30 ∨ o = 31 → n = 0 ∨ n = 1) :
    Calls Tryz.prog 82 #[.agg (rrow q), .agg (irow o d s t ib n), .int .u32 a, .int .u32 b] w (Gives w (mState m o d n a b) (L + 1)) := by
  rcases (by omega : o = 26 ∨ o = 27 ∨ o = 28 ∨ o = 29 ∨ o = 30 ∨ o = 31 ∨ o = 32) with rfl | rfl | rfl | rfl | rfl | rfl | rfl
  · exact calls_more (state26 q m L d s t ib n a b w hA hm hL hd0 hd1) (Nat.le_refl _) rfl
  · cases hh : wst ((a + b) % 4294967296) m.nw
    · exact calls_more (state27n q m L d s t ib n a b w hA hm hL hh) (Nat.le_succ _) (by show _ = (if wst ((a + b) % 4294967296) m.nw = true then _ else _); rw [hh]; rfl)
    · exact calls_more (state27y q m L d s t ib n a b w hA hm hL hh) (Nat.le_succ _) (by show _ = (if wst ((a + b) % 4294967296) m.nw = true then _ else _); rw [hh]; rfl)
  · exact calls_more (state28 q m L d s t ib n a b w hA hm hL hd0 hd1) (Nat.le_refl _) rfl
  · cases hh : wx ((a + b) % 4294967296) m.nw with
    | none => exact calls_more (state29n q m L d s t ib n a b w hA hm hL _ rfl hh) (Nat.le_succ _) (by show _ = (if (wx ((a + b) % 4294967296) m.nw).isSome = true then _ else _); rw [hh]; rfl)
    | some x =>
      obtain ⟨h1, h2⟩ := wx_some hh
      exact calls_more (state29y q m L d s t ib n a b w hA hm hL x h1 h2) (Nat.le_succ _) (by show _ = (if (wx ((a + b) % 4294967296) m.nw).isSome = true then _ else _); rw [hh, h2]; rfl)
  · by_cases hb : m.bank = 0
    · exact calls_more (state30z q m L d s t ib n a b w hA hm hL hb) (Nat.le_succ _) (by show _ = (if m.bank = 0 then _ else _); rw [if_pos hb])
    · rcases hn (.inl rfl) with rfl | rfl
      · exact calls_more (state30_0 q m L d s t ib 0 a b w hA hm hL hd0 hd1 hb) (Nat.le_refl _) (by show _ = (if m.bank = 0 then _ else _); rw [if_neg hb]; rfl)
      · exact calls_more (state30_1 q m L d s t ib 1 a b w hA hm hL hd0 hd1 hb) (Nat.le_refl _) (by show _ = (if m.bank = 0 then _ else _); rw [if_neg hb]; rfl)
  · by_cases hb : m.bank = 0
    · exact calls_more (state31z q m L d s t ib n a b w hA hm hL hb) (Nat.le_succ _) (by show _ = (if m.bank = 0 then _ else _); rw [if_pos hb])
    · rcases hn (.inr rfl) with rfl | rfl
      · exact calls_more (state31_0 q m L d s t ib 0 a b w hA hm hL hb) (Nat.le_succ _) (by show _ = (if m.bank = 0 then _ else _); rw [if_neg hb]; rfl)
      · exact calls_more (state31_1 q m L d s t ib 1 a b w hA hm hL hb) (Nat.le_succ _) (by show _ = (if m.bank = 0 then _ else _); rw [if_neg hb]; rfl)
  · by_cases hb : m.bank = 0
    · exact calls_more (state32z q m L d s t ib n a b w hA hm hL hb) (Nat.le_succ _) (by show _ = (if m.bank = 0 then _ else _); rw [if_pos hb])
    · cases hh : wst (m.tps m.bank.toNat) m.nw
      · exact calls_more (state32n q m L d s t ib n a b w hA hm hL hb hh) (Nat.le_succ _) (by show _ = (if m.bank = 0 then _ else _); rw [if_neg hb]; show _ = (if wst (m.tps m.bank.toNat) m.nw = true then _ else _); rw [hh]; rfl)
      · exact calls_more (state32y q m L d s t ib n a b w hA hm hL hb hh) (Nat.le_succ _) (by show _ = (if m.bank = 0 then _ else _); rw [if_neg hb]; show _ = (if wst (m.tps m.bank.toNat) m.nw = true then _ else _); rw [hh]; rfl)
theorem rest_any (q : RV) (m : MS) (L : Nat) (o d s t : Int) (ib : Bool) (n a : Int) (w : World) (hA : RefAt w q m L) (hm : MOk m) (hL : L ≤ 900) (ho : 33 ≤ o ∧ o ≤ 37) (hd0 : 0 ≤ d) (hd1 : d < 32) (hn : o = 33 ∨ o = 37 → 0 ≤ n ∧ n < 256) (hol : m.ol ≤ 100000) (hcl : m.cl ≤ 1000) :
    Calls Tryz.prog 83 #[.agg (rrow q), .agg (irow o d s t ib n), .int .u32 a] w (Gives w (mRest m o d n a) (L + 1)) := by
  rcases (by omega : o = 33 ∨ o = 34 ∨ o = 35 ∨ o = 36 ∨ o = 37) with rfl | rfl | rfl | rfl | rfl
  · obtain ⟨h0, h1⟩ := hn (.inl rfl)
    exact calls_more (rest33 q m L d s t ib n a w hA hm hL h0 h1) (Nat.le_succ _) (by show _ = m.wnd (n % 256) _; rw [show n % 256 = n by omega])
  · by_cases hc : 0 < m.cl
    · exact calls_more (rest34y q m L d s t ib n a w hA hm hL hd0 hd1 hc hcl) (Nat.le_refl _) (by show _ = (if 0 < m.cl then _ else _); rw [if_pos hc])
    · exact calls_more (rest34n q m L d s t ib n a w hA hm hL hd0 hd1 (by omega)) (Nat.le_refl _) (by show _ = (if 0 < m.cl then _ else _); rw [if_neg hc])
  · exact calls_more (rest35 q m L d s t ib n a w hA hm hol) (Nat.le_succ _) rfl
  · exact calls_more (rest36 q m L d s t ib n a w hA hm hL) (Nat.le_succ _) rfl
  · obtain ⟨h0, h1⟩ := hn (.inr rfl)
    exact calls_more (rest37 q m L d s t ib n a w hA hm hL h0 h1) (Nat.le_succ _) (by show _ = m.stp 2 (n % 4294967296); rw [show n % 4294967296 = n by omega])
end Go.Proofs.YtiobgnelhiadbaaGreatDoor.K6
