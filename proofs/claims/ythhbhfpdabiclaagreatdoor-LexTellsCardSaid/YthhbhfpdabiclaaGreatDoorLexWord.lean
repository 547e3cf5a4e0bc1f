/- lex (layer 12): what a word is. -/
import Derived.Test.YthhbhfpdabiclaaGreatDoorLexVal
namespace Go.Proofs.YthhbhfpdabiclaaGreatDoor.L12
open Go.RowKit Go.Shelf
set_option linter.unusedVariables false
theorem St_toList (l : List UInt8) : (St l).toList = l := by rw [Lib.toList_data]; rfl
theorem str_eql (a b : List UInt8) (W : World) : (binOp .eql 9 (.string (St a)) (.string (St b))).run Tryz.prog W = .ok (.bool (a == b)) W := by
  simp [binOp, go_sem, Op.stringOp, St_toList]
theorem str_neq (a b : List UInt8) (W : World) : (binOp .neq 9 (.string (St a)) (.string (St b))).run Tryz.prog W = .ok (.bool (!(a == b))) W := by
  simp [binOp, go_sem, Op.stringOp, St_toList]
theorem str_eql0 (a : List UInt8) (W : World) : (binOp .eql 9 (.string (St a)) (.string ⟨#[]⟩)).run Tryz.prog W = .ok (.bool (a == [])) W := str_eql a [] W
theorem str_neq0 (a : List UInt8) (W : World) : (binOp .neq 9 (.string (St a)) (.string ⟨#[]⟩)).run Tryz.prog W = .ok (.bool (!(a == []))) W := str_neq a [] W
theorem str_eql1 (a : List UInt8) (c : UInt8) (W : World) : (binOp .eql 9 (.string (St a)) (.string ⟨#[c]⟩)).run Tryz.prog W = .ok (.bool (a == [c])) W := str_eql a [c] W
/-- How a value's two answers read. -/
def optV (o : Option Nat) : Value := .tuple #[.int .u32 (o.getD 0 : Nat), .bool o.isSome]
set_option maxRecDepth 100000 in
set_option maxHeartbeats 4000000 in
theorem value_at (l : List UInt8) (hl : l.length ≤ 65536) (lo hi : Nat) (hh : hi ≤ 4294967295) (w : World) (hT : LT w) : Calls Tryz.prog 50 #[.string (St l), .int .u64 lo, .int .u64 hi] w fun e w' => e = .returned (optV (numL l lo hi)) ∧ Below w.heap.size w w' := by
  have HT := Lib.hid hT
  have C := Lib.hid (Parse_at l hl w hT)
  have HV := Lib.hid (value_is l lo hi hh)
  clear hT
  cases hp : Lib.parseUintB 64 l with
  | ok u =>
    rw [hp] at C HV
    clear hp
    go_enter Tryz.func50, Tryz.ntmps50
    go_wp2_with fail
    refine C.out.mono ?_; rintro e w1 ⟨v, rfl, hv, g1⟩
    change v = _ at hv
    subst hv
    have G1 := Lib.hid g1
    have T1 := Lib.hid (HT.out.bel g1)
    clear g1
    by_cases h1 : u < lo
    · have h1' : (u : Int) < lo := by omega
      go_wp2_with fail
      go_ret2
      refine ⟨?_, G1.out⟩
      rw [HV.out]; simp only []; rw [if_neg (by omega)]
      rfl
    · have h1' : ¬ (u : Int) < lo := by omega
      by_cases h2 : hi < u
      · have h2' : (hi : Int) < u := by omega
        go_wp2_with fail
        go_ret2
        refine ⟨?_, G1.out⟩
        rw [HV.out]; simp only []; rw [if_neg (by omega)]
        rfl
      · have h2' : ¬ (hi : Int) < u := by omega
        have F := Lib.hid (Format_at u (by omega) w1 T1.out)
        have hw : (u : Int) % 4294967296 = u := by omega
        by_cases hd : Lib.decDigits u = l
        · go_wp2_with fail
          refine F.out.mono ?_; rintro e w2 ⟨rfl, g2⟩
          have G2 := Lib.hid (bel_trans G1.out g2)
          clear g2
          have hb : ((St (Lib.decDigits u)).toList == (St l).toList) = true := by rw [St_toList, St_toList]; simpa using hd
          clear hd
          go_wp2_with fail
          go_ret2
          refine ⟨?_, G2.out⟩
          have hd : Lib.decDigits u = l := by rw [St_toList, St_toList] at hb; simpa using hb
          rw [HV.out]; simp only []; rw [if_pos ⟨by omega, by omega, hd⟩]
          rfl
        · go_wp2_with fail
          refine F.out.mono ?_; rintro e w2 ⟨rfl, g2⟩
          have G2 := Lib.hid (bel_trans G1.out g2)
          clear g2
          have hb : ((St (Lib.decDigits u)).toList == (St l).toList) = false := by rw [St_toList, St_toList]; simpa using hd
          clear hd
          go_wp2_with fail
          go_ret2
          refine ⟨?_, G2.out⟩
          have hd : ¬ Lib.decDigits u = l := by rw [St_toList, St_toList] at hb; simpa using hb
          rw [HV.out]; simp only []; rw [if_neg (fun hh => hd hh.2.2)]
          rfl
  | _ =>
    rw [hp] at C HV
    clear hp
    go_enter Tryz.func50, Tryz.ntmps50
    go_wp2_with fail
    refine C.out.mono ?_; rintro e w1 ⟨v, rfl, hv, g1⟩
    change ∃ n T p, v = _ at hv
    obtain ⟨n, T, p, rfl⟩ := hv
    have G1 := Lib.hid g1
    clear g1
    go_wp2_with fail
    go_ret2
    exact ⟨by rw [HV.out]; rfl, G1.out⟩
end Go.Proofs.YthhbhfpdabiclaaGreatDoor.L12
