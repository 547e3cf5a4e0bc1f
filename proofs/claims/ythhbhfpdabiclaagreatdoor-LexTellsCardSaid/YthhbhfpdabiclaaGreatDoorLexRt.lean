/- lex (layer 12): the document's Text. By genlexrt.py. -/
import Derived.Test.YthhbhfpdabiclaaGreatDoorLexTxt
namespace Go.Proofs.YthhbhfpdabiclaaGreatDoor.L12
open Go.RowKit Go.Shelf
set_option linter.unusedVariables false
set_option maxRecDepth 100000 in
set_option maxHeartbeats 4000000 in
theorem refText_at (l : List Tok) (hl : l.length ≤ 8589934592) (hlen : (txtL l).length ≤ 140737488355328) (p : Option Addr) (c : Nat) (w : World) (h : TokAt w p l) : Calls Tryz.prog 10 #[.slice p l.length c] w fun e w' => e = .returned (.string (St (txtL l))) ∧ w' = w := by
  have TA := Lib.hid h
  have hM : Hid (∀ x y : List UInt8, St x ++ St y = St (x ++ y)) := fun x y => by
    rw [← St_of (St x ++ St y)]
    congr 1
  clear h
  go_enter Tryz.func10, Tryz.ntmps10
  go_wp2_with fail
  go_loopw [3, 4] (fun x j wr => ∃ (k : Nat) (acc : List UInt8), k ≤ l.length ∧ j = .int .i64 k ∧ x = .string (St acc) ∧ acc ++ txtL (l.drop k) = txtL l ∧ wr = w) (fun _ j _ => ((l.length : Int) - intOf j).toNat)
  case atStart => exact ⟨0, [], Nat.zero_le _, rfl, rfl, rfl, rfl⟩
  case round =>
    obtain ⟨k, acc, hk, rfl, rfl, ha, rfl⟩ := hrel
    have hal : acc.length ≤ 140737488355328 := by
      have := congrArg List.length ha
      simp only [List.length_append] at this
      omega
    have hsz : (St acc).size ≤ 140737488355328 := hal
    rcases Nat.lt_or_ge k l.length with hlt | hge
    · obtain ⟨t, ht⟩ : ∃ t, l[k]? = some t := ⟨_, List.getElem?_eq_getElem hlt⟩
      obtain ⟨g, rfl, t0, t1, t2, t3, t4⟩ := TA.out k t ht
      have hlt' : (k : Int) < l.length := by omega
      rw [txt_step ht] at ha
      by_cases k6 : t.kind = 6
      · have k6' : ((t.kind : Nat) : Int) = 6 := by omega
        have HA2 : Hid ((acc ++ [10]) ++ txtL (l.drop (k + 1)) = txtL l) := by
          unfold Hid
          rw [← ha]
          simp [txtL, k6]
        have HE : Hid (St acc ++ ⟨#[10]⟩ = St (acc ++ [10])) := hM.out acc [10]
        generalize hAA : St acc = AA at HE hsz ⊢
        clear ha k6 hAA
        go_wp2_with fail
        go_roundw
        case rel => exact ⟨k + 1, acc ++ [10], by omega, by simp, by rw [← HE.out], HA2.out, (by first | rfl | trivial)⟩
        case measure => simp [intOf]; omega
      · have k6' : ¬ ((t.kind : Nat) : Int) = 6 := by omega
        have htl : t.text.length ≤ 140737488355328 := by
          have := congrArg List.length ha
          simp only [txtL, if_neg k6, List.length_append] at this
          omega
        have hts : (St t.text).size ≤ 140737488355328 := htl
        by_cases k1 : t.kind = 1
        · have k1' : ((t.kind : Nat) : Int) = 1 := by omega
          rcases Nat.lt_or_ge (k + 1) l.length with hl1 | hl1
          · obtain ⟨u, hu⟩ : ∃ u, l[k + 1]? = some u := ⟨_, List.getElem?_eq_getElem hl1⟩
            obtain ⟨g', hg', u0, _⟩ := TA.out (k + 1) u hu
            obtain rfl : g = g' := by simpa using hg'
            have hl1' : (k : Int) + 1 < l.length := by omega
            by_cases u6 : u.kind = 6
            · have u6' : ((u.kind : Nat) : Int) = 6 := by omega
              have HA2 : Hid ((acc ++ t.text ++ [58]) ++ txtL (l.drop (k + 1)) = txtL l) := by
                unfold Hid
                rw [← ha, txt_step hu]
                simp [txtL, k1, u6]
              have HE : Hid (St acc ++ St t.text ++ ⟨#[58]⟩ = St (acc ++ t.text ++ [58])) := by unfold Hid; rw [show (⟨#[58]⟩ : ByteArray) = St [58] from rfl, hM.out, hM.out]
              go_wp2_with fail
              go_roundw
              case rel => exact ⟨k + 1, acc ++ t.text ++ [58], by omega, by simp, by rw [← HE.out], HA2.out, (by first | rfl | trivial)⟩
              case measure => simp [intOf]; omega
            · have u6' : ¬ ((u.kind : Nat) : Int) = 6 := by omega
              have HA2 : Hid ((acc ++ t.text ++ [58] ++ [32]) ++ txtL (l.drop (k + 1)) = txtL l) := by
                unfold Hid
                rw [← ha, txt_step hu]
                simp [txtL, k1, u6]
              have HE : Hid (St acc ++ St t.text ++ ⟨#[58]⟩ ++ ⟨#[32]⟩ = St (acc ++ t.text ++ [58] ++ [32])) := by unfold Hid; rw [show (⟨#[58]⟩ : ByteArray) = St [58] from rfl, show (⟨#[32]⟩ : ByteArray) = St [32] from rfl, hM.out, hM.out, hM.out]
              go_wp2_with fail
              go_roundw
              case rel => exact ⟨k + 1, acc ++ t.text ++ [58] ++ [32], by omega, by simp, by rw [← HE.out], HA2.out, (by first | rfl | trivial)⟩
              case measure => simp [intOf]; omega
          · have hl1' : ¬ (k : Int) + 1 < l.length := by omega
            have HA2 : Hid ((acc ++ t.text ++ [58]) ++ txtL (l.drop (k + 1)) = txtL l) := by
              unfold Hid
              rw [← ha, List.drop_eq_nil_of_le hl1]
              simp [txtL, k1]
            have HE : Hid (St acc ++ St t.text ++ ⟨#[58]⟩ = St (acc ++ t.text ++ [58])) := by unfold Hid; rw [show (⟨#[58]⟩ : ByteArray) = St [58] from rfl, hM.out, hM.out]
            go_wp2_with fail
            go_roundw
            case rel => exact ⟨k + 1, acc ++ t.text ++ [58], by omega, by simp, by rw [← HE.out], HA2.out, (by first | rfl | trivial)⟩
            case measure => simp [intOf]; omega
        · have k1' : ¬ ((t.kind : Nat) : Int) = 1 := by omega
          rcases Nat.lt_or_ge (k + 1) l.length with hl1 | hl1
          · obtain ⟨u, hu⟩ : ∃ u, l[k + 1]? = some u := ⟨_, List.getElem?_eq_getElem hl1⟩
            obtain ⟨g', hg', u0, _⟩ := TA.out (k + 1) u hu
            obtain rfl : g = g' := by simpa using hg'
            have hl1' : (k : Int) + 1 < l.length := by omega
            by_cases u6 : u.kind = 6
            · have u6' : ((u.kind : Nat) : Int) = 6 := by omega
              have HA2 : Hid ((acc ++ t.text) ++ txtL (l.drop (k + 1)) = txtL l) := by
                unfold Hid
                rw [← ha, txt_step hu]
                simp [txtL, k6, k1, u6]
              have HE : Hid (St acc ++ St t.text = St (acc ++ t.text)) := by unfold Hid; rw [hM.out]
              go_wp2_with fail
              go_roundw
              case rel => exact ⟨k + 1, acc ++ t.text, by omega, by simp, by rw [← HE.out], HA2.out, (by first | rfl | trivial)⟩
              case measure => simp [intOf]; omega
            · have u6' : ¬ ((u.kind : Nat) : Int) = 6 := by omega
              have HA2 : Hid ((acc ++ t.text ++ [32]) ++ txtL (l.drop (k + 1)) = txtL l) := by
                unfold Hid
                rw [← ha, txt_step hu]
                simp [txtL, k6, k1, u6]
              have HE : Hid (St acc ++ St t.text ++ ⟨#[32]⟩ = St (acc ++ t.text ++ [32])) := by unfold Hid; rw [show (⟨#[32]⟩ : ByteArray) = St [32] from rfl, hM.out, hM.out]
              go_wp2_with fail
              go_roundw
              case rel => exact ⟨k + 1, acc ++ t.text ++ [32], by omega, by simp, by rw [← HE.out], HA2.out, (by first | rfl | trivial)⟩
              case measure => simp [intOf]; omega
          · have hl1' : ¬ (k : Int) + 1 < l.length := by omega
            have HA2 : Hid ((acc ++ t.text) ++ txtL (l.drop (k + 1)) = txtL l) := by
              unfold Hid
              rw [← ha, List.drop_eq_nil_of_le hl1]
              simp [txtL, k6, k1]
            have HE : Hid (St acc ++ St t.text = St (acc ++ t.text)) := by unfold Hid; rw [hM.out]
            go_wp2_with fail
            go_roundw
            case rel => exact ⟨k + 1, acc ++ t.text, by omega, by simp, by rw [← HE.out], HA2.out, (by first | rfl | trivial)⟩
            case measure => simp [intOf]; omega
    · obtain rfl : k = l.length := by omega
      have ha2 : acc = txtL l := by rw [← ha]; simp [txtL]
      subst ha2
      go_wp2_with fail
      go_ret
      exact ⟨rfl, rfl⟩
end Go.Proofs.YthhbhfpdabiclaaGreatDoor.L12
