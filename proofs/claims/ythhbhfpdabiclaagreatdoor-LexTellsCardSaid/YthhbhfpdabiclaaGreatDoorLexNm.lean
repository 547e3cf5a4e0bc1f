/- lex (layer 12): names and labels. -/
import Derived.Test.YthhbhfpdabiclaaGreatDoorLexName
namespace Go.Proofs.YthhbhfpdabiclaaGreatDoor.L12
open Go.RowKit Go.Shelf
set_option linter.unusedVariables false
theorem isDecimal_at (b : UInt8) (w : World) : Calls Tryz.prog 23 #[.int .u8 b.toNat] w fun e w' => e = .returned (.bool (isD b)) ∧ w = w' := by
  have hb : isD b = true ∨ isD b = false := by cases isD b <;> simp
  have hd : isD b = decide (48 ≤ b.toNat ∧ b.toNat ≤ 57) := rfl
  have HB := Lib.hid hd
  clear hd hb
  generalize isD b = r at HB ⊢
  generalize hn : b.toNat = n at HB ⊢
  clear hn
  by_cases h1 : 48 ≤ n
  · have h1' : (48 : Int) ≤ n := by omega
    by_cases h2 : n ≤ 57
    · have h2' : (n : Int) ≤ 57 := by omega
      go_enter Tryz.func23, Tryz.ntmps23
      go_wp2_with fail
      go_ret
      exact ⟨by rw [HB.out, decide_eq_true ⟨h1, h2⟩]; rfl, rfl⟩
    · have h2' : ¬ (n : Int) ≤ 57 := by omega
      go_enter Tryz.func23, Tryz.ntmps23
      go_wp2_with fail
      go_ret
      exact ⟨by rw [HB.out, decide_eq_false (fun h => h2 h.2)]; rfl, rfl⟩
  · have h1' : ¬ (48 : Int) ≤ n := by omega
    go_enter Tryz.func23, Tryz.ntmps23
    go_wp2_with fail
    go_ret
    exact ⟨by rw [HB.out, decide_eq_false (fun h => h1 h.1)]; rfl, rfl⟩
set_option maxHeartbeats 2000000 in
theorem isLetter_at (b : UInt8) (w : World) : Calls Tryz.prog 25 #[.int .u8 b.toNat] w fun e w' => e = .returned (.bool (isL b)) ∧ w = w' := by
  have HB : Hid (isL b = decide (97 ≤ b.toNat ∧ b.toNat ≤ 122 ∨ 65 ≤ b.toNat ∧ b.toNat ≤ 90 ∨ b.toNat = 95)) := rfl
  generalize isL b = r at HB ⊢
  generalize hn : b.toNat = n at HB ⊢
  clear hn
  rcases (by omega : 123 ≤ n ∨ (97 ≤ n ∧ n ≤ 122) ∨ (n = 96) ∨ (n = 95) ∨ (91 ≤ n ∧ n ≤ 94) ∨ (65 ≤ n ∧ n ≤ 90) ∨ n ≤ 64) with h | h | h | h | h | h | h
  · have a1 : (97 : Int) ≤ n := by omega
    have a2 : ¬ (n : Int) ≤ 122 := by omega
    have a3 : (65 : Int) ≤ n := by omega
    have a4 : ¬ (n : Int) ≤ 90 := by omega
    have a5 : ((n : Int) == 95) = false := by rw [beq_eq_false_iff_ne]; omega
    go_enter Tryz.func25, Tryz.ntmps25
    go_wp2_with fail
    go_ret
    exact ⟨by rw [HB.out, decide_eq_false (by omega)]; rfl, rfl⟩
  · have a1 : (97 : Int) ≤ n := by omega
    have a2 : (n : Int) ≤ 122 := by omega
    go_enter Tryz.func25, Tryz.ntmps25
    go_wp2_with fail
    go_ret
    exact ⟨by rw [HB.out, decide_eq_true (by omega)]; rfl, rfl⟩
  · subst h
    go_enter Tryz.func25, Tryz.ntmps25
    go_wp2_with fail
    go_ret
    exact ⟨by rw [HB.out]; rfl, rfl⟩
  · subst h
    go_enter Tryz.func25, Tryz.ntmps25
    go_wp2_with fail
    go_ret
    exact ⟨by rw [HB.out]; rfl, rfl⟩
  · have a1 : ¬ (97 : Int) ≤ n := by omega
    have a3 : (65 : Int) ≤ n := by omega
    have a4 : ¬ (n : Int) ≤ 90 := by omega
    have a5 : ((n : Int) == 95) = false := by rw [beq_eq_false_iff_ne]; omega
    go_enter Tryz.func25, Tryz.ntmps25
    go_wp2_with fail
    go_ret
    exact ⟨by rw [HB.out, decide_eq_false (by omega)]; rfl, rfl⟩
  · have a1 : ¬ (97 : Int) ≤ n := by omega
    have a3 : (65 : Int) ≤ n := by omega
    have a4 : (n : Int) ≤ 90 := by omega
    go_enter Tryz.func25, Tryz.ntmps25
    go_wp2_with fail
    go_ret
    exact ⟨by rw [HB.out, decide_eq_true (by omega)]; rfl, rfl⟩
  · have a1 : ¬ (97 : Int) ≤ n := by omega
    have a3 : ¬ (65 : Int) ≤ n := by omega
    have a5 : ((n : Int) == 95) = false := by rw [beq_eq_false_iff_ne]; omega
    go_enter Tryz.func25, Tryz.ntmps25
    go_wp2_with fail
    go_ret
    exact ⟨by rw [HB.out, decide_eq_false (by omega)]; rfl, rfl⟩
end Go.Proofs.YthhbhfpdabiclaaGreatDoor.L12
