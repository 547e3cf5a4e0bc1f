/- lex (layer 12): the document's numbers, and a word's token. By genlexrb.py. -/
import Derived.Test.YthhbhfpdabiclaaGreatDoorLexRa
import Derived.Test.YthhbhfpdabiclaaGreatDoorLexEval
namespace Go.Proofs.YthhbhfpdabiclaaGreatDoor.L12
open Go.RowKit Go.Shelf
set_option linter.unusedVariables false
/-- A number's digits, and is it at most so much. -/
def refNumL (l : List UInt8) (most : Nat) : Nat × Bool := if okC l then (match Lib.decFrom 0 l with | some u => (u, decide (u ≤ most)) | none => (0, false)) else (0, false)
theorem okC_is (l : List UInt8) : okC l = (digsL l && !(decide (1 < l.length) && l.head? == some 48) && decide (l.length ≤ 12)) := rfl
theorem numL_ref0 (l : List UInt8) (hi : Nat) (hh : hi < 1000000000000) : numL l 0 hi = if (refNumL l hi).2 then some (refNumL l hi).1 else none := by
  rw [numC_is l 0 hi hh]
  unfold numC refNumL
  cases okC l with
  | false => rfl
  | true =>
    simp only [if_true]
    cases Lib.decFrom 0 l with
    | none => rfl
    | some u => simp
theorem numL_ref1 (l : List UInt8) (hi : Nat) (hh : hi < 1000000000000) : numL l 1 hi = if (refNumL l hi).2 && decide (0 < (refNumL l hi).1) then some (refNumL l hi).1 else none := by
  rw [numC_is l 1 hi hh]
  unfold numC refNumL
  cases okC l with
  | false => rfl
  | true =>
    simp only [if_true]
    cases Lib.decFrom 0 l with
    | none => rfl
    | some u =>
      simp only [Bool.and_eq_true, decide_eq_true_eq]
      by_cases h1 : u ≤ hi
      · by_cases h2 : 0 < u
        · rw [if_pos ⟨by omega, h1⟩, if_pos ⟨h1, h2⟩]
        · rw [if_neg (by omega), if_neg (by omega)]
      · rw [if_neg (by omega), if_neg (by omega)]
theorem refNum_le {l : List UInt8} {hi : Nat} (h : (refNumL l hi).2 = true) : (refNumL l hi).1 ≤ hi := by
  unfold refNumL at h ⊢
  cases ho : okC l with
  | false => rw [ho] at h; cases h
  | true =>
    rw [ho] at h
    simp only [if_true] at h ⊢
    cases hd : Lib.decFrom 0 l with
    | none => rw [hd] at h; cases h
    | some u => rw [hd] at h; exact of_decide_eq_true h
theorem dec_step {l : List UInt8} {k u : Nat} {b : UInt8} (h : Lib.decFrom 0 (l.take k) = some u) (hb : l[k]? = some b) (hd : isD b = true) : Lib.decFrom 0 (l.take (k + 1)) = some (u * 10 + (b.toNat - 48)) := by
  have h1 := of_decide_eq_true hd
  rw [List.take_add_one, hb, Option.toList_some, decFrom_append, h]
  simp only [Option.bind_some, Lib.decFrom]
  rw [digitVal_if, if_pos h1]
set_option maxRecDepth 100000 in
set_option maxHeartbeats 4000000 in
theorem refNumber_at (l : List UInt8) (hl : l.length ≤ 65536) (most : Nat) (hm : most ≤ 4294967295) (w : World) : Calls Tryz.prog 45 #[.string (St l), .int .u64 (most : Nat)] w fun e w' => e = .returned (.tuple #[.int .u64 ((refNumL l most).1 : Nat), .bool (refNumL l most).2]) ∧ w = w' := by
  have DG := Lib.hid (refDigits_at l hl w)
  have HX : Hid (∀ i (h : i < (St l).size), l[i]? = some ((St l)[i]'h)) := fun i h => List.getElem?_eq_getElem h
  have HZ : Hid ((St l).size = l.length) := rfl
  have hs : (St l).size ≤ 65536 := hl
  have HO := Lib.hid (okC_is l)
  generalize St l = s at DG HX HZ hs ⊢
  cases hd : digsL l with
  | false =>
    have HR : Hid (refNumL l most = (0, false)) := by unfold Hid refNumL; rw [HO.out, hd]; rfl
    rw [hd] at DG
    clear hd
    go_enter Tryz.func45, Tryz.ntmps45
    go_wp2_with fail
    refine DG.out.mono ?_; rintro e w1 ⟨rfl, rfl⟩
    go_wp2_with fail
    go_ret2
    exact ⟨by rw [HR.out]; rfl, rfl⟩
  | true =>
    have HD := Lib.hid hd
    rw [hd] at DG
    have hne : l ≠ [] := fun e => by rw [e] at hd; cases hd
    clear hd
    have hpos' : 0 < s.size := by rw [HZ.out]; exact List.length_pos_iff.2 hne
    obtain ⟨b0, hb0⟩ : ∃ b, s[0]'hpos' = b := ⟨_, rfl⟩
    have hh : Hid (l.head? = some b0) := by have := HX.out 0 hpos'; rw [hb0] at this; rw [List.head?_eq_getElem?]; exact this
    have hpos : (0 : Int) < (s.size : Int) := by omega
    clear hne
    by_cases h1 : 1 < s.size
    · have h1' : (1 : Int) < (s.size : Int) := by omega
      by_cases h48 : b0 = 48
      · have HR : Hid (refNumL l most = (0, false)) := by
          unfold Hid refNumL
          rw [HO.out, hh.out, h48, ← HZ.out, decide_eq_true h1]
          simp
        subst h48
        go_enter Tryz.func45, Tryz.ntmps45
        go_wp2_with fail
        refine DG.out.mono ?_; rintro e w1 ⟨rfl, rfl⟩
        go_wp2_with fail
        go_ret2
        exact ⟨by rw [HR.out]; rfl, rfl⟩
      · have h48' : ((b0.toNat : Int) == 48) = false := by
          rw [beq_eq_false_iff_ne]
          intro h
          exact h48 (UInt8.toNat_inj.1 (show b0.toNat = (48 : UInt8).toNat by show b0.toNat = 48; omega))
        have H48 := Lib.hid h48
        clear h48
        by_cases h12 : 12 < s.size
        · have h12' : (12 : Int) < (s.size : Int) := by omega
          have HR : Hid (refNumL l most = (0, false)) := by
            unfold Hid refNumL
            rw [HO.out, decide_eq_false (show ¬ l.length ≤ 12 by rw [← HZ.out]; omega), Bool.and_false]
            rfl
          go_enter Tryz.func45, Tryz.ntmps45
          go_wp2_with fail
          refine DG.out.mono ?_; rintro e w1 ⟨rfl, rfl⟩
          go_wp2_with fail
          go_ret2
          exact ⟨by rw [HR.out]; rfl, rfl⟩
        have h12' : ¬ (12 : Int) < (s.size : Int) := by omega
        have OK : Hid (okC l = true) := by
          unfold Hid
          rw [HO.out, HD.out, decide_eq_true (show l.length ≤ 12 by rw [← HZ.out]; omega), hh.out]
          have : (some b0 == some (48 : UInt8)) = false := by simpa using H48.out
          rw [this]
          simp
        have all : Hid (∀ b ∈ l, isD b = true) := by
          have := HD.out
          unfold digsL at this
          simp only [Bool.and_eq_true] at this
          exact fun b hb => List.all_eq_true.1 this.2 b hb
        clear h1
        go_enter Tryz.func45, Tryz.ntmps45
        go_wp2_with fail
        refine DG.out.mono ?_; rintro e w1 ⟨rfl, rfl⟩
        go_wp2_with fail
        go_loopw [6, 7] (fun x j wr => ∃ k u : Nat, k ≤ s.size ∧ x = .int .u64 (u : Nat) ∧ j = .int .i64 k ∧ wr = w ∧ Hid (Lib.decFrom 0 (l.take k) = some u) ∧ u + 1 ≤ 10 ^ k) (fun _ j _ => (s.size - intOf j).toNat)
        case atStart => exact ⟨0, 0, Nat.zero_le _, rfl, rfl, rfl, rfl, by decide⟩
        case round =>
          obtain ⟨k, u, hk, rfl, rfl, rfl, hu, hu2⟩ := hrel
          by_cases hlt : k < s.size
          · have hlt' : (k : Int) < (s.size : Int) := by omega
            obtain ⟨b, hb⟩ : ∃ b, s[k]'hlt = b := ⟨_, rfl⟩
            have HB : l[k]? = some b := by have := HX.out k hlt; rw [hb] at this; exact this
            have hD := all.out b (List.mem_of_getElem? HB)
            have NX := Lib.hid (dec_step hu.out HB hD)
            have hbd := of_decide_eq_true hD
            have hp : (10 : Nat) ^ k ≤ 10 ^ 11 := Nat.pow_le_pow_right (by decide) (by omega)
            have hu3 : u * 10 + (b.toNat - 48) + 1 ≤ 10 ^ (k + 1) := by rw [Nat.pow_succ]; omega
            have hu4 : u < 100000000000 := by have : (10 : Nat) ^ 11 = 100000000000 := by decide
                                              omega
            obtain ⟨d, hdd⟩ : ∃ d, b.toNat = 48 + d := ⟨b.toNat - 48, by omega⟩
            rw [show b.toNat - 48 = d by omega] at NX hu3
            have hd9 : d ≤ 9 := by omega
            have HU3 := Lib.hid hu3
            clear HB hD hbd hp hu3 hu hu2
            go_wp2_with fail
            go_roundw
            case rel => exact ⟨k + 1, u * 10 + d, by omega, (by first | rfl | (simp; omega)), by first | rfl | simp, (by first | rfl | trivial), NX, HU3.out⟩
            case measure => simp only [intOf]; omega
          · obtain rfl : k = s.size := by omega
            have hfull := hu.out
            rw [HZ.out, List.take_length] at hfull
            have HR : Hid (refNumL l most = (u, decide (u ≤ most))) := by unfold Hid refNumL; rw [OK.out, hfull]; rfl
            clear hfull hu hu2
            go_wp2_with fail
            go_ret2
            exact ⟨by rw [HR.out]; rfl, rfl⟩
    · have h1' : ¬ (1 : Int) < (s.size : Int) := by omega
      have h12' : ¬ (12 : Int) < (s.size : Int) := by omega
      have OK : Hid (okC l = true) := by
        unfold Hid
        rw [HO.out, HD.out, decide_eq_true (show l.length ≤ 12 by rw [← HZ.out]; omega), decide_eq_false (show ¬ 1 < l.length by rw [← HZ.out]; exact h1), Bool.false_and]
        rfl
      have all : Hid (∀ b ∈ l, isD b = true) := by
        have := HD.out
        unfold digsL at this
        simp only [Bool.and_eq_true] at this
        exact fun b hb => List.all_eq_true.1 this.2 b hb
      clear h1
      go_enter Tryz.func45, Tryz.ntmps45
      go_wp2_with fail
      refine DG.out.mono ?_; rintro e w1 ⟨rfl, rfl⟩
      go_wp2_with fail
      go_loopw [6, 7] (fun x j wr => ∃ k u : Nat, k ≤ s.size ∧ x = .int .u64 (u : Nat) ∧ j = .int .i64 k ∧ wr = w ∧ Hid (Lib.decFrom 0 (l.take k) = some u) ∧ u + 1 ≤ 10 ^ k) (fun _ j _ => (s.size - intOf j).toNat)
      case atStart => exact ⟨0, 0, Nat.zero_le _, rfl, rfl, rfl, rfl, by decide⟩
      case round =>
        obtain ⟨k, u, hk, rfl, rfl, rfl, hu, hu2⟩ := hrel
        by_cases hlt : k < s.size
        · have hlt' : (k : Int) < (s.size : Int) := by omega
          obtain ⟨b, hb⟩ : ∃ b, s[k]'hlt = b := ⟨_, rfl⟩
          have HB : l[k]? = some b := by have := HX.out k hlt; rw [hb] at this; exact this
          have hD := all.out b (List.mem_of_getElem? HB)
          have NX := Lib.hid (dec_step hu.out HB hD)
          have hbd := of_decide_eq_true hD
          have hp : (10 : Nat) ^ k ≤ 10 ^ 11 := Nat.pow_le_pow_right (by decide) (by omega)
          have hu3 : u * 10 + (b.toNat - 48) + 1 ≤ 10 ^ (k + 1) := by rw [Nat.pow_succ]; omega
          have hu4 : u < 100000000000 := by have : (10 : Nat) ^ 11 = 100000000000 := by decide
                                            omega
          obtain ⟨d, hdd⟩ : ∃ d, b.toNat = 48 + d := ⟨b.toNat - 48, by omega⟩
          rw [show b.toNat - 48 = d by omega] at NX hu3
          have hd9 : d ≤ 9 := by omega
          have HU3 := Lib.hid hu3
          clear HB hD hbd hp hu3 hu hu2
          go_wp2_with fail
          go_roundw
          case rel => exact ⟨k + 1, u * 10 + d, by omega, (by first | rfl | (simp; omega)), by first | rfl | simp, (by first | rfl | trivial), NX, HU3.out⟩
          case measure => simp only [intOf]; omega
        · obtain rfl : k = s.size := by omega
          have hfull := hu.out
          rw [HZ.out, List.take_length] at hfull
          have HR : Hid (refNumL l most = (u, decide (u ≤ most))) := by unfold Hid refNumL; rw [OK.out, hfull]; rfl
          clear hfull hu hu2
          go_wp2_with fail
          go_ret2
          exact ⟨by rw [HR.out]; rfl, rfl⟩
end Go.Proofs.YthhbhfpdabiclaaGreatDoor.L12
