/- lex (layer 12): the document's bytes, digits and names. -/
import Derived.Test.YthhbhfpdabiclaaGreatDoorLexTok
import Derived.Test.YthhbhfpdabiclaaGreatDoorLexNum
namespace Go.Proofs.YthhbhfpdabiclaaGreatDoor.L12
open Go.RowKit Go.Shelf
set_option linter.unusedVariables false
theorem refDigit_at (b : UInt8) (w : World) : Calls Tryz.prog 27 #[.int .u8 b.toNat] w fun e w' => e = .returned (.bool (isD b)) ∧ w = w' := by
  have hd : isD b = decide (48 ≤ b.toNat ∧ b.toNat ≤ 57) := rfl
  have HB := Lib.hid hd
  clear hd
  generalize isD b = r at HB ⊢
  generalize hn : b.toNat = n at HB ⊢
  clear hn
  by_cases h1 : 48 ≤ n
  · have h1' : (48 : Int) ≤ n := by omega
    by_cases h2 : n ≤ 57
    · have h2' : (n : Int) ≤ 57 := by omega
      go_enter Tryz.func27, Tryz.ntmps27
      go_wp2_with fail
      go_ret
      exact ⟨by rw [HB.out, decide_eq_true ⟨h1, h2⟩]; rfl, rfl⟩
    · have h2' : ¬ (n : Int) ≤ 57 := by omega
      go_enter Tryz.func27, Tryz.ntmps27
      go_wp2_with fail
      go_ret
      exact ⟨by rw [HB.out, decide_eq_false (fun h => h2 h.2)]; rfl, rfl⟩
  · have h1' : ¬ (48 : Int) ≤ n := by omega
    go_enter Tryz.func27, Tryz.ntmps27
    go_wp2_with fail
    go_ret
    exact ⟨by rw [HB.out, decide_eq_false (fun h => h1 h.1)]; rfl, rfl⟩
set_option maxHeartbeats 2000000 in
theorem refLetter_at (b : UInt8) (w : World) : Calls Tryz.prog 26 #[.int .u8 b.toNat] w fun e w' => e = .returned (.bool (isL b)) ∧ w = w' := by
  have HB : Hid (isL b = decide (97 ≤ b.toNat ∧ b.toNat ≤ 122 ∨ 65 ≤ b.toNat ∧ b.toNat ≤ 90 ∨ b.toNat = 95)) := rfl
  generalize isL b = r at HB ⊢
  generalize hn : b.toNat = n at HB ⊢
  clear hn
  rcases (by omega : 123 ≤ n ∨ (97 ≤ n ∧ n ≤ 122) ∨ (n = 96) ∨ (n = 95) ∨ (91 ≤ n ∧ n ≤ 94) ∨ (65 ≤ n ∧ n ≤ 90) ∨ n ≤ 64) with h | h | h | h | h | h | h
  · have a1 : (65 : Int) ≤ n := by omega
    have a2 : ¬ (n : Int) ≤ 90 := by omega
    have a3 : (97 : Int) ≤ n := by omega
    have a4 : ¬ (n : Int) ≤ 122 := by omega
    have a5 : ((n : Int) == 95) = false := by rw [beq_eq_false_iff_ne]; omega
    go_enter Tryz.func26, Tryz.ntmps26
    go_wp2_with fail
    go_ret
    exact ⟨by rw [HB.out, decide_eq_false (by omega)]; rfl, rfl⟩
  · have a1 : (65 : Int) ≤ n := by omega
    have a2 : ¬ (n : Int) ≤ 90 := by omega
    have a3 : (97 : Int) ≤ n := by omega
    have a4 : (n : Int) ≤ 122 := by omega
    go_enter Tryz.func26, Tryz.ntmps26
    go_wp2_with fail
    go_ret
    exact ⟨by rw [HB.out, decide_eq_true (by omega)]; rfl, rfl⟩
  · subst h
    go_enter Tryz.func26, Tryz.ntmps26
    go_wp2_with fail
    go_ret
    exact ⟨by rw [HB.out]; rfl, rfl⟩
  · subst h
    go_enter Tryz.func26, Tryz.ntmps26
    go_wp2_with fail
    go_ret
    exact ⟨by rw [HB.out]; rfl, rfl⟩
  · have a1 : (65 : Int) ≤ n := by omega
    have a2 : ¬ (n : Int) ≤ 90 := by omega
    have a3 : ¬ (97 : Int) ≤ n := by omega
    have a5 : ((n : Int) == 95) = false := by rw [beq_eq_false_iff_ne]; omega
    go_enter Tryz.func26, Tryz.ntmps26
    go_wp2_with fail
    go_ret
    exact ⟨by rw [HB.out, decide_eq_false (by omega)]; rfl, rfl⟩
  · have a1 : (65 : Int) ≤ n := by omega
    have a2 : (n : Int) ≤ 90 := by omega
    go_enter Tryz.func26, Tryz.ntmps26
    go_wp2_with fail
    go_ret
    exact ⟨by rw [HB.out, decide_eq_true (by omega)]; rfl, rfl⟩
  · have a1 : ¬ (65 : Int) ≤ n := by omega
    have a3 : ¬ (97 : Int) ≤ n := by omega
    have a5 : ((n : Int) == 95) = false := by rw [beq_eq_false_iff_ne]; omega
    go_enter Tryz.func26, Tryz.ntmps26
    go_wp2_with fail
    go_ret
    exact ⟨by rw [HB.out, decide_eq_false (by omega)]; rfl, rfl⟩
/-- The document's digits: one or more. -/
def digsL (l : List UInt8) : Bool := !l.isEmpty && l.all isD
set_option maxRecDepth 100000 in
set_option maxHeartbeats 4000000 in
theorem refDigits_at (l : List UInt8) (hl : l.length ≤ 65536) (w : World) : Calls Tryz.prog 28 #[.string (St l)] w fun e w' => e = .returned (.bool (digsL l)) ∧ w = w' := by
  have HX : Hid (∀ i (h : i < (St l).size), l[i]? = some ((St l)[i]'h)) := fun i h => List.getElem?_eq_getElem h
  have HZ : Hid ((St l).size = l.length) := rfl
  have hs : (St l).size ≤ 65536 := hl
  generalize St l = s at HX HZ hs ⊢
  go_enter Tryz.func28, Tryz.ntmps28
  go_wp2_with fail
  go_loopw [3] (fun j wr => ∃ k : Nat, k ≤ s.size ∧ j = .int .i64 k ∧ wr = w ∧ Hid ((l.take k).all isD = true)) (fun j _ => (s.size - intOf j).toNat)
  case atStart => exact ⟨0, Nat.zero_le _, rfl, rfl, rfl⟩
  case round =>
    obtain ⟨k, hk, rfl, rfl, hall⟩ := hrel
    by_cases hlt : k < s.size
    · have hlt' : (k : Int) < (s.size : Int) := by omega
      obtain ⟨b, hb⟩ : ∃ b, s[k]'hlt = b := ⟨_, rfl⟩
      have HB : Hid (l[k]? = some b) := by have := HX.out k hlt; rw [hb] at this; exact this
      have DB := Lib.hid (fun W => refDigit_at b W)
      cases hD : isD b with
      | true =>
        have nxt : Hid ((l.take (k + 1)).all isD = true) := by
          unfold Hid
          rw [List.take_add_one, HB.out]
          simp only [Option.toList_some, List.all_append, hall.out, Bool.true_and, List.all_cons, List.all_nil, hD]
        rw [hD] at DB
        clear hD
        go_wp2_with fail
        refine (DB.out _).mono ?_; rintro e w2 ⟨rfl, rfl⟩
        go_wp2_with fail
        go_roundw
        case rel => exact ⟨k + 1, by omega, by first | rfl | simp, (by first | rfl | trivial), nxt⟩
        case measure => simp only [intOf]; omega
      | false =>
        have bad : Hid (digsL l = false) := by
          unfold Hid digsL
          cases hh : l.all isD with
          | false => simp
          | true =>
            have := List.all_eq_true.1 hh b (List.mem_of_getElem? HB.out)
            rw [hD] at this; cases this
        rw [hD] at DB
        clear hD
        go_wp2_with fail
        refine (DB.out _).mono ?_; rintro e w2 ⟨rfl, rfl⟩
        go_wp2_with fail
        go_ret
        exact ⟨by rw [bad.out]; rfl, rfl⟩
    · obtain rfl : k = s.size := by omega
      have hfull : Hid (l.all isD = true) := by
        have := hall.out
        rw [HZ.out, List.take_length] at this
        exact this
      have hz : Hid (digsL l = decide (0 < s.size)) := by
        unfold Hid digsL
        rw [hfull.out, HZ.out]
        cases l with
        | nil => rfl
        | cons _ _ => simp
      go_wp2_with fail
      go_ret
      exact ⟨by rw [hz.out]; rfl, rfl⟩
theorem nameL_ref (c : UInt8) (t : List UInt8) : nameL (c :: t) = (decide ((c :: t).length ≤ 64) && isL c && (t.all fun b => isL b || isD b) && !(c == 118 && digsL t)) := by
  unfold nameL digsL
  simp only []
  cases t with
  | nil => simp
  | cons b t => simp
set_option maxRecDepth 100000 in
set_option maxHeartbeats 4000000 in
theorem refName_at (l : List UInt8) (hl : l.length ≤ 65536) (w : World) : Calls Tryz.prog 12 #[.string (St l)] w fun e w' => e = .returned (.bool (nameL l)) ∧ w = w' := by
  cases l with
  | nil =>
    have h0 : (St ([] : List UInt8)).size = 0 := rfl
    go_enter Tryz.func12, Tryz.ntmps12
    go_wp2_with fail
    go_ret
    exact ⟨rfl, rfl⟩
  | cons c t =>
    have HN := Lib.hid (nameL_ref c t)
    have HX : Hid (∀ i (h : i < (St (c :: t)).size), (c :: t)[i]? = some ((St (c :: t))[i]'h)) := fun i h => List.getElem?_eq_getElem h
    have HZ : Hid ((St (c :: t)).size = t.length + 1) := rfl
    have EX : Hid ((St (c :: t)).extract 1 (St (c :: t)).size = St t) := by
      unfold Hid
      rw [← St_of ((St (c :: t)).extract 1 (St (c :: t)).size), Lib.extract_data, St_list, List.take_of_length_le (by rw [St_size]; simp)]
      rfl
    have DG := Lib.hid (refDigits_at t (by simp at hl; omega) w)
    have L0 := Lib.hid (refLetter_at c w)
    generalize St (c :: t) = s at HX HZ EX
    have hz0 := HZ.out
    have hpos' : 0 < s.size := by omega
    have hpos : (0 : Int) < (s.size : Int) := by omega
    have hn0 : ((s.size : Int) == 0) = false := by rw [beq_eq_false_iff_ne]; omega
    have hx0 : s[0]'hpos' = c := by have := HX.out 0 hpos'; simpa using this.symm
    have hsz : s.size ≤ 65536 := by simp at hl; omega
    clear hz0
    by_cases h64 : 64 < s.size
    · have h64' : (64 : Int) < (s.size : Int) := by omega
      go_enter Tryz.func12, Tryz.ntmps12
      go_wp2_with fail
      go_ret
      exact ⟨by rw [HN.out, decide_eq_false (by have := HZ.out; simp; omega)]; rfl, rfl⟩
    have h64' : ¬ (64 : Int) < (s.size : Int) := by omega
    cases hL : isL c with
    | false =>
      have HL := Lib.hid hL
      rw [hL] at L0
      clear hL
      go_enter Tryz.func12, Tryz.ntmps12
      go_wp2_with fail
      refine L0.out.mono ?_; rintro e w1 ⟨rfl, rfl⟩
      go_wp2_with fail
      go_ret
      exact ⟨by rw [HN.out, HL.out]; simp, rfl⟩
    | true =>
      have HA : Hid (nameL (c :: t) = ((t.all fun b => isL b || isD b) && !(c == 118 && digsL t))) := by
        unfold Hid
        rw [HN.out, hL, decide_eq_true (by have := HZ.out; simp; omega)]
        simp
      rw [hL] at L0
      clear HN hL
      go_enter Tryz.func12, Tryz.ntmps12
      go_wp2_with fail
      refine L0.out.mono ?_; rintro e w1 ⟨rfl, rfl⟩
      clear L0
      go_wp2_with fail
      go_loopw [3] (fun j wr => ∃ k : Nat, 1 ≤ k ∧ k ≤ s.size ∧ j = .int .i64 k ∧ wr = w ∧ Hid (((t.take (k - 1)).all fun b => isL b || isD b) = true)) (fun j _ => (s.size - intOf j).toNat)
      case atStart => exact ⟨1, Nat.le_refl _, hpos', rfl, rfl, rfl⟩
      case round =>
        obtain ⟨k, hk1, hk, rfl, rfl, hall⟩ := hrel
        by_cases hlt : k < s.size
        · have hlt' : (k : Int) < (s.size : Int) := by omega
          obtain ⟨b, hb⟩ : ∃ b, s[k]'hlt = b := ⟨_, rfl⟩
          have HB : Hid (t[k - 1]? = some b) := by
            have := HX.out k hlt
            rw [hb] at this
            obtain ⟨j, rfl⟩ : ∃ j, k = j + 1 := ⟨k - 1, by omega⟩
            show t[j + 1 - 1]? = some b
            simpa using this
          have LB := Lib.hid (fun W => refLetter_at b W)
          have DB := Lib.hid (fun W => refDigit_at b W)
          have nxt : Hid ((isL b || isD b) = true → ((t.take (k + 1 - 1)).all fun b => isL b || isD b) = true) := fun h => by
            rw [show k + 1 - 1 = k - 1 + 1 by omega, List.take_add_one, HB.out]
            simp only [Option.toList_some, List.all_append, hall.out, Bool.true_and, List.all_cons, List.all_nil, h]
          have bad : Hid ((isL b || isD b) = false → nameL (c :: t) = false) := fun h => by
            rw [HA.out]
            cases hh : t.all fun b => isL b || isD b with
            | false => rfl
            | true =>
              have := List.all_eq_true.1 hh b (List.mem_of_getElem? HB.out)
              rw [h] at this; cases this
          cases hL : isL b with
          | true =>
            rw [hL] at LB nxt
            clear hL
            go_wp2_with fail
            refine (LB.out _).mono ?_; rintro e w2 ⟨rfl, rfl⟩
            go_wp2_with fail
            go_roundw
            case rel => exact ⟨k + 1, by omega, by omega, by first | rfl | simp, (by first | rfl | trivial), nxt.out rfl⟩
            case measure => simp only [intOf]; omega
          | false =>
            rw [hL] at LB nxt bad
            clear hL
            cases hD : isD b with
            | true =>
              rw [hD] at DB nxt
              clear hD
              go_wp2_with fail
              refine (LB.out _).mono ?_; rintro e w2 ⟨rfl, rfl⟩
              go_wp2_with fail
              refine (DB.out _).mono ?_; rintro e w2 ⟨rfl, rfl⟩
              go_wp2_with fail
              go_roundw
              case rel => exact ⟨k + 1, by omega, by omega, by first | rfl | simp, (by first | rfl | trivial), nxt.out rfl⟩
              case measure => simp only [intOf]; omega
            | false =>
              rw [hD] at DB bad
              clear hD
              go_wp2_with fail
              refine (LB.out _).mono ?_; rintro e w2 ⟨rfl, rfl⟩
              go_wp2_with fail
              refine (DB.out _).mono ?_; rintro e w2 ⟨rfl, rfl⟩
              go_wp2_with fail
              go_ret
              exact ⟨by rw [bad.out rfl]; rfl, rfl⟩
        · obtain rfl : k = s.size := by omega
          have hfull : Hid (nameL (c :: t) = !(c == 118 && digsL t)) := by
            have := hall.out
            have hz := HZ.out
            rw [List.take_of_length_le (by omega)] at this
            unfold Hid
            rw [HA.out, this]
            simp
          by_cases h118 : c = 118
          · subst h118
            have HF : Hid (nameL (118 :: t) = !digsL t) := by unfold Hid; rw [hfull.out]; simp
            have ex := EX.out
            have h1s : (1 : Int) ≤ s.size := by omega
            go_wp2_with fail
            refine DG.out.mono ?_; rintro e w2 ⟨rfl, rfl⟩
            go_wp2_with fail
            go_ret
            exact ⟨by rw [HF.out]; rfl, rfl⟩
          · have HF : Hid (nameL (c :: t) = true) := by
              unfold Hid
              rw [hfull.out]
              have : (c == 118) = false := by rw [beq_eq_false_iff_ne]; exact h118
              simp [this]
            have h118' : ((c.toNat : Int) == 118) = false := by
              rw [beq_eq_false_iff_ne]
              intro h
              exact h118 (UInt8.toNat_inj.1 (show c.toNat = (118 : UInt8).toNat by show c.toNat = 118; omega))
            clear h118
            go_wp2_with fail
            go_ret
            exact ⟨by rw [HF.out]; rfl, rfl⟩
end Go.Proofs.YthhbhfpdabiclaaGreatDoor.L12
