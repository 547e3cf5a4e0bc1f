/- lex (layer 12): registers, numbers, labels, names. -/
import Derived.Test.YthhbhfpdabiclaaGreatDoorLexWord
namespace Go.Proofs.YthhbhfpdabiclaaGreatDoor.L12
open Go.RowKit Go.Shelf
set_option linter.unusedVariables false
theorem prefix_cases (l : List UInt8) (c : UInt8) : (∃ t, l = c :: t ∧ Lib.hasPrefix l [c] = true ∧ Lib.trimPrefix l [c] = t) ∨ (Lib.hasPrefix l [c] = false ∧ Lib.trimPrefix l [c] = l ∧ ∀ t, l ≠ c :: t) := by
  unfold Lib.trimPrefix Lib.hasPrefix
  cases l with
  | nil => exact .inr ⟨rfl, rfl, fun t h => by cases h⟩
  | cons b t =>
    by_cases h : b = c
    · subst h
      exact .inl ⟨t, rfl, by simp, by simp⟩
    · have h' : ¬ c = b := fun e => h e.symm
      exact .inr ⟨by simp [List.isPrefixOf, h'], by simp [List.isPrefixOf, h'], fun t' e => h (by injection e)⟩
theorem suffix_cases (l : List UInt8) (c : UInt8) : (∃ a, l = a ++ [c] ∧ Lib.hasSuffix l [c] = true ∧ Lib.trimSuffix l [c] = a) ∨ (Lib.hasSuffix l [c] = false ∧ Lib.trimSuffix l [c] = l ∧ ∀ a, l ≠ a ++ [c]) := by
  by_cases h : Lib.hasSuffix l [c] = true
  · obtain ⟨a, ha⟩ : ([c] : List UInt8) <:+ l := List.isSuffixOf_iff_suffix.1 h
    refine .inl ⟨a, ha.symm, h, ?_⟩
    unfold Lib.trimSuffix
    rw [if_pos h, ← ha]
    simp
  · have h' : Lib.hasSuffix l [c] = false := by simpa using h
    refine .inr ⟨h', ?_, fun a e => h (List.isSuffixOf_iff_suffix.2 ⟨a, e.symm⟩)⟩
    unfold Lib.trimSuffix
    rw [if_neg h]
set_option maxRecDepth 100000 in
set_option maxHeartbeats 4000000 in
theorem register_at (l : List UInt8) (hl : l.length ≤ 65536) (w : World) (hT : LT w) : Calls Tryz.prog 32 #[.string (St l)] w fun e w' => e = .returned (optV (regL l)) ∧ Below w.heap.size w w' := by
  have HT := Lib.hid hT
  have C := Lib.hid (fun W => CutPrefix_at l 118 W)
  clear hT
  rcases prefix_cases l 118 with ⟨t, h1, h2, h3⟩ | ⟨h2, h3, h4⟩
  · rw [h2, h3] at C
    have HL := Lib.hid (show l = 118 :: t from h1)
    have V := Lib.hid (value_at t (by rw [h1] at hl; simp at hl; omega) 0 4095 (by decide) w HT.out)
    clear h1 h2 h3
    go_enter Tryz.func32, Tryz.ntmps32
    go_wp2_with fail
    refine (C.out _).mono ?_; rintro e w1 ⟨rfl, rfl⟩
    go_wp2_with fail
    refine V.out.mono ?_; rintro e w1 ⟨rfl, g1⟩
    simp only [optV]
    have G1 := Lib.hid g1
    clear g1
    go_wp2_with fail
    go_ret2
    refine ⟨?_, G1.out⟩
    rw [HL.out]; simp only [regL, if_true]; rfl
  · rw [h2, h3] at C
    have H4 := Lib.hid h4
    clear h2 h3 h4
    go_enter Tryz.func32, Tryz.ntmps32
    go_wp2_with fail
    refine (C.out _).mono ?_; rintro e w1 ⟨rfl, rfl⟩
    go_wp2_with fail
    go_ret2
    refine ⟨?_, Below.refl _ _⟩
    have : regL l = none := by
      unfold regL
      cases l with
      | nil => rfl
      | cons c t => simp only; rw [if_neg (fun e => H4.out t (by rw [e]))]
    rw [this]; rfl
theorem neg_u32 (n : Nat) (h0 : 1 ≤ n) (h1 : n ≤ 2147483648) : IntKind.u32.wrap (-(n : Int)) = ((4294967296 - n : Nat) : Int) := by
  rw [IntKind.wrap_u32]; omega
set_option maxRecDepth 100000 in
set_option maxHeartbeats 4000000 in
theorem number_at (l : List UInt8) (hl : l.length ≤ 65536) (w : World) (hT : LT w) : Calls Tryz.prog 33 #[.string (St l)] w fun e w' => e = .returned (optV (numberL l)) ∧ Below w.heap.size w w' := by
  have HT := Lib.hid hT
  have C := Lib.hid (fun W => CutPrefix_at l 45 W)
  clear hT
  rcases prefix_cases l 45 with ⟨t, h1, h2, h3⟩ | ⟨h2, h3, h4⟩
  · rw [h2, h3] at C
    have HL := Lib.hid (show numberL l = (numL t 1 2147483648).map (4294967296 - ·) by rw [h1]; rfl)
    have V := Lib.hid (value_at t (by rw [h1] at hl; simp at hl; omega) 1 2147483648 (by decide) w HT.out)
    have HB := Lib.hid (fun u (h : numL t 1 2147483648 = some u) => numL_bounds h)
    clear h1 h2 h3
    generalize numL t 1 2147483648 = o at HL V HB
    cases o with
    | some u =>
      obtain ⟨b1, b2, _⟩ := HB.out u rfl
      have hn := neg_u32 u b1 b2
      have HN := Lib.hid hn
      go_enter Tryz.func33, Tryz.ntmps33
      go_wp2_with fail
      refine (C.out _).mono ?_; rintro e w1 ⟨rfl, rfl⟩
      go_wp2_with fail
      refine V.out.mono ?_; rintro e w1 ⟨rfl, g1⟩
      simp only [optV, Option.getD_some, Option.isSome_some]
      have G1 := Lib.hid g1
      clear g1
      go_wp2_with fail
      go_ret2
      refine ⟨?_, G1.out⟩
      rw [HL.out]; rfl
    | none =>
      go_enter Tryz.func33, Tryz.ntmps33
      go_wp2_with fail
      refine (C.out _).mono ?_; rintro e w1 ⟨rfl, rfl⟩
      go_wp2_with fail
      refine V.out.mono ?_; rintro e w1 ⟨rfl, g1⟩
      simp only [optV, Option.getD_none, Option.isSome_none]
      have G1 := Lib.hid g1
      clear g1
      go_wp2_with fail
      go_ret2
      refine ⟨?_, G1.out⟩
      rw [HL.out]; rfl
  · rw [h2, h3] at C
    have HL : Hid (numberL l = numL l 0 4294967295) := by
      unfold Hid numberL
      cases l with
      | nil => rfl
      | cons c t => simp only; rw [if_neg (fun e => h4 t (by rw [e]))]
    have V := Lib.hid (value_at l hl 0 4294967295 (by decide) w HT.out)
    clear h2 h3 h4
    go_enter Tryz.func33, Tryz.ntmps33
    go_wp2_with fail
    refine (C.out _).mono ?_; rintro e w1 ⟨rfl, rfl⟩
    go_wp2_with fail
    refine V.out.mono ?_; rintro e w1 ⟨rfl, g1⟩
    simp only [optV]
    have G1 := Lib.hid g1
    clear g1
    go_wp2_with fail
    go_ret2
    refine ⟨?_, G1.out⟩
    rw [HL.out]; rfl
end Go.Proofs.YthhbhfpdabiclaaGreatDoor.L12
