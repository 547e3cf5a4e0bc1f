/- lex (layer 12): the document's Same, Alike, where they answer yes. -/
import Derived.Test.YthhbhfpdabiclaaDoorLexTxt
namespace Go.Proofs.YthhbhfpdabiclaaDoor.L12
open Go.RowKit Go.Shelf
set_option linter.unusedVariables false
set_option maxRecDepth 100000 in
set_option maxHeartbeats 4000000 in
theorem Same_yes (l : List Tok) (hl : l.length ≤ 8589934592) (p q : Option Addr) (c d : Nat) (w : World) (h : TokAt w p l) (h' : TokAt w q l) : Calls Tryd.prog 10 #[.slice p l.length c, .slice q l.length d] w fun e w' => e = .returned (.bool true) ∧ Below w.heap.size w w' := by
  have TA := Lib.hid h
  have TB := Lib.hid h'
  clear h h'
  go_enter Tryd.func10, Tryd.ntmps10
  go_wp2_with fail
  go_loopw [5] (fun j wr => ∃ (k : Nat), k ≤ l.length ∧ j = .int .i64 k ∧ Below w.heap.size w wr) (fun j _ => ((l.length : Int) - intOf j).toNat)
  case atStart => exact ⟨0, Nat.zero_le _, rfl, Below.refl _ _⟩
  case round =>
    obtain ⟨k, hk, rfl, hw⟩ := hrel
    rcases Nat.lt_or_ge k l.length with hlt | hge
    · obtain ⟨t, ht⟩ : ∃ t, l[k]? = some t := ⟨_, List.getElem?_eq_getElem hlt⟩
      obtain ⟨g, rfl, t0, t1, t2, t3, t4⟩ := (TA.out.bel hw) k t ht
      obtain ⟨g', rfl, s0, s1, s2, s3, s4⟩ := (TB.out.bel hw) k t ht
      have hlt' : (k : Int) < l.length := by omega
      go_wp2_with fail
      go_quiet (fail)
      go_wp2_with fail
      exact ⟨⟨k + 1, by omega, by simp, bel_drewN hw _⟩, by simp [intOf]; omega⟩
    · obtain rfl : k = l.length := by omega
      go_wp2_with fail
      go_ret
      exact ⟨rfl, hw⟩
/-- What of a token is not its place. -/
def bare (t : Tok) : Nat × List UInt8 × Nat := (t.kind, t.text, t.num)
set_option maxRecDepth 100000 in
set_option maxHeartbeats 4000000 in
theorem Alike_yes (a b : List Tok) (hab : a.map bare = b.map bare) (hl : a.length ≤ 8589934592) (p q : Option Addr) (c d : Nat) (w : World) (h : TokAt w p a) (h' : TokAt w q b) : Calls Tryd.prog 8 #[.slice p a.length c, .slice q b.length d] w fun e w' => e = .returned (.bool true) ∧ Below w.heap.size w w' := by
  have TA := Lib.hid h
  have TB := Lib.hid h'
  have hlen : b.length = a.length := by have := congrArg List.length hab; simpa using this.symm
  have HB := Lib.hid hab
  clear h h' hab
  rw [hlen]
  go_enter Tryd.func8, Tryd.ntmps8
  go_wp2_with fail
  go_loopw [5] (fun j wr => ∃ (k : Nat), k ≤ a.length ∧ j = .int .i64 k ∧ Below w.heap.size w wr) (fun j _ => ((a.length : Int) - intOf j).toNat)
  case atStart => exact ⟨0, Nat.zero_le _, rfl, Below.refl _ _⟩
  case round =>
    obtain ⟨k, hk, rfl, hw⟩ := hrel
    rcases Nat.lt_or_ge k a.length with hlt | hge
    · obtain ⟨t, ht⟩ : ∃ t, a[k]? = some t := ⟨_, List.getElem?_eq_getElem hlt⟩
      obtain ⟨u, hu⟩ : ∃ u, b[k]? = some u := ⟨_, List.getElem?_eq_getElem (by omega)⟩
      have e : bare t = bare u := by
        have h1 : (a.map bare)[k]? = some (bare t) := by rw [List.getElem?_map, ht]; rfl
        have h2 : (b.map bare)[k]? = some (bare u) := by rw [List.getElem?_map, hu]; rfl
        rw [HB.out, h2] at h1
        exact (Option.some.inj h1).symm
      simp only [bare, Prod.mk.injEq] at e
      obtain ⟨e1, e2, e3⟩ := e
      obtain ⟨g, rfl, t0, t1, t2, _⟩ := (TA.out.bel hw) k t ht
      obtain ⟨g', rfl, s0, s1, s2, _⟩ := (TB.out.bel hw) k u hu
      rw [← e1] at s0
      rw [← e2] at s1
      rw [← e3] at s2
      clear e1 e2 e3 ht hu
      have hlt' : (k : Int) < a.length := by omega
      go_wp2_with fail
      go_quiet (fail)
      go_wp2_with fail
      exact ⟨⟨k + 1, by omega, by simp, bel_drewN hw _⟩, by simp [intOf]; omega⟩
    · obtain rfl : k = a.length := by omega
      go_wp2_with fail
      go_ret
      exact ⟨rfl, hw⟩
end Go.Proofs.YthhbhfpdabiclaaDoor.L12
