/- lex (layer 12): the document's Same, Alike, where they answer yes. -/
import Derived.Test.YthhbhfpdabiclaaGreatDoorLexTxt
namespace Go.Proofs.YthhbhfpdabiclaaGreatDoor.L12
open Go.RowKit Go.Shelf
set_option linter.unusedVariables false
set_option maxRecDepth 100000 in
set_option maxHeartbeats 4000000 in
theorem Same_yes (l : List Tok) (hl : l.length ≤ 8589934592) (p q : Option Addr) (c d : Nat) (w : World) (h : TokAt w p l) (h' : TokAt w q l) : Calls Tryz.prog 8 #[.slice p l.length c, .slice q l.length d] w fun e w' => e = .returned (.bool true) ∧ Below w.heap.size w w' := by
  have TA := Lib.hid h
  have TB := Lib.hid h'
  clear h h'
  go_enter Tryz.func8, Tryz.ntmps8
  go_wp2_with fail
  go_loopw [5] (fun j wr => ∃ (k : Nat), k ≤ l.length ∧ j = .int .i64 k ∧ Below w.heap.size w wr) (fun j _ => ((l.length : Int) - intOf j).toNat)
  case atStart => exact ⟨0, Nat.zero_le _, rfl, Below.refl _ _⟩
  case round =>
    obtain ⟨k, hk, rfl, hw⟩ := hrel
    rcases Nat.lt_or_ge k l.length with hlt | hge
    · obtain ⟨t, ht⟩ : ∃ t, l[k]? = some t := ⟨_, List.getElem?_eq_getElem hlt⟩
      obtain ⟨g, rfl, t0, t1, t2, t3, t4⟩ := (TA.out.bel hw) k t ht
      obtain ⟨g', rfl, s0, s1, s2, s3, s4⟩ := (TB.out.bel hw) k t ht
      have hlt' : (k : Int) < l.length := by omega
      go_wp2_with fail
      go_quiet (fail)
      go_wp2_with fail
      exact ⟨⟨k + 1, by omega, by simp, bel_drewN hw _⟩, by simp [intOf]; omega⟩
    · obtain rfl : k = l.length := by omega
      go_wp2_with fail
      go_ret
      exact ⟨rfl, hw⟩
/-- What of a token is not its place. -/
def bare (t : Tok) : Nat × List UInt8 × Nat := (t.kind, t.text, t.num)
end Go.Proofs.YthhbhfpdabiclaaGreatDoor.L12
