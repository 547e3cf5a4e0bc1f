/- lex (layer 12): is a word a name, and what a word is. -/
import Derived.Test.YthhbhfpdabiclaaGreatDoorLexNm
namespace Go.Proofs.YthhbhfpdabiclaaGreatDoor.L12
open Go.RowKit Go.Shelf
set_option linter.unusedVariables false
def decL : List UInt8 := [48, 49, 50, 51, 52, 53, 54, 55, 56, 57]
theorem decL_all : ((List.range 256).all fun n => decL.contains (UInt8.ofNat n) == isD (UInt8.ofNat n)) = true := by kernel_rfl
theorem decL_is (b : UInt8) : decL.contains b = isD b := by
  have h := List.all_eq_true.1 decL_all b.toNat (List.mem_range.2 (UInt8.toNat_lt b))
  rw [UInt8.ofNat_toNat] at h
  exact eq_of_beq h
theorem dropWhile_nil (p : UInt8 → Bool) : ∀ l : List UInt8, l.dropWhile p = [] ↔ l.all p = true
  | [] => by simp
  | b :: t => by
    rw [List.dropWhile_cons]
    by_cases h : p b = true
    · rw [if_pos h, dropWhile_nil p t]; simp [h]
    · rw [if_neg h]; simp [h]
theorem dropWhile_all (p : UInt8 → Bool) (l : List UInt8) (h : l.all p = true) : l.dropWhile p = [] := (dropWhile_nil p l).2 h
theorem trimS_nil (l : List UInt8) : Lib.trimS l decL = [] ↔ l.all isD = true := by
  have e : (fun b => decL.contains b) = isD := funext decL_is
  unfold Lib.trimS Lib.trimLeftS Lib.trimRightS
  rw [show (fun x => decL.contains x) = isD from e, dropWhile_nil]
  constructor
  · intro h
    cases hd : l.reverse.dropWhile isD with
    | nil =>
      have := (dropWhile_nil isD l.reverse).1 hd
      rw [List.all_reverse] at this
      exact this
    | cons b t =>
      exfalso
      rw [hd] at h
      have hb := List.head?_dropWhile_not isD l.reverse
      rw [hd] at hb
      simp only [List.head?_cons] at hb
      rw [List.all_reverse] at h
      have := List.all_eq_true.1 h b (by simp)
      rw [this] at hb
      cases hb
  · intro h
    have : l.reverse.dropWhile isD = [] := dropWhile_all isD _ (by rw [List.all_reverse]; exact h)
    rw [this]
    rfl
def lrL (l : List UInt8) : Bool := match l with
  | [] => false
  | c :: t => c == 118 && !t.isEmpty && t.all isD
set_option maxRecDepth 100000 in
set_option maxHeartbeats 4000000 in
theorem looks_at (l : List UInt8) (hl : l.length ≤ 65536) (w : World) : Calls Tryz.prog 24 #[.string (St l)] w fun e w' => e = .returned (.bool (lrL l)) ∧ Below w.heap.size w w' := by
  have C := Lib.hid (fun W => CutPrefix_at l 118 W)
  rcases prefix_cases l 118 with ⟨t, h1, h2, h3⟩ | ⟨h2, h3, h4⟩
  · rw [h2, h3] at C
    have HL := Lib.hid (show lrL l = (!t.isEmpty && t.all isD) by rw [h1]; simp [lrL])
    have T := Lib.hid (Trim_at t (by rw [h1] at hl; simp at hl; omega) w)
    clear h1 h2 h3
    cases t with
    | nil =>
      have h0 : (St ([] : List UInt8)).toList.isEmpty = true := by rw [St_toList]; rfl
      go_enter Tryz.func24, Tryz.ntmps24
      go_wp2_with fail
      refine (C.out _).mono ?_; rintro e w1 ⟨rfl, rfl⟩
      go_wp2_with fail
      go_ret
      exact ⟨by rw [HL.out]; rfl, Below.refl _ _⟩
    | cons b t =>
      have h0 : (St (b :: t)).toList.isEmpty = false := by rw [St_toList]; rfl
      by_cases hd : (b :: t).all isD = true
      · have h9 : (St (Lib.trimS (b :: t) [48, 49, 50, 51, 52, 53, 54, 55, 56, 57])).toList.isEmpty = true := by rw [St_toList, show Lib.trimS (b :: t) [48, 49, 50, 51, 52, 53, 54, 55, 56, 57] = [] from (trimS_nil _).2 hd]; rfl
        have HD := Lib.hid hd
        clear hd
        go_enter Tryz.func24, Tryz.ntmps24
        go_wp2_with fail
        refine (C.out _).mono ?_; rintro e w1 ⟨rfl, rfl⟩
        go_wp2_with fail
        refine T.out.mono ?_; rintro e w1 ⟨rfl, g1⟩
        have G1 := Lib.hid g1
        clear g1
        go_wp2_with fail
        go_ret
        exact ⟨by rw [HL.out, HD.out]; rfl, G1.out⟩
      · have hd' : (b :: t).all isD = false := by simpa using hd
        have h9 : (St (Lib.trimS (b :: t) [48, 49, 50, 51, 52, 53, 54, 55, 56, 57])).toList.isEmpty = false := by
          rw [St_toList]
          cases hh : Lib.trimS (b :: t) [48, 49, 50, 51, 52, 53, 54, 55, 56, 57] with
          | nil => exact absurd ((trimS_nil _).1 hh) hd
          | cons _ _ => rfl
        have HD := Lib.hid hd'
        clear hd hd'
        go_enter Tryz.func24, Tryz.ntmps24
        go_wp2_with fail
        refine (C.out _).mono ?_; rintro e w1 ⟨rfl, rfl⟩
        go_wp2_with fail
        refine T.out.mono ?_; rintro e w1 ⟨rfl, g1⟩
        have G1 := Lib.hid g1
        clear g1
        go_wp2_with fail
        go_ret
        exact ⟨by rw [HL.out, HD.out]; rfl, G1.out⟩
  · rw [h2, h3] at C
    have HL : Hid (lrL l = false) := by
      unfold Hid lrL
      cases l with
      | nil => rfl
      | cons c t =>
        have : (c == 118) = false := by rw [beq_eq_false_iff_ne]; exact fun e => h4 t (by rw [e])
        simp [this]
    clear h2 h3 h4
    go_enter Tryz.func24, Tryz.ntmps24
    go_wp2_with fail
    refine (C.out _).mono ?_; rintro e w1 ⟨rfl, rfl⟩
    go_wp2_with fail
    go_ret
    exact ⟨by rw [HL.out]; rfl, Below.refl _ _⟩
theorem isLD (b : UInt8) (h : isD b = true) : isL b = false := by
  unfold isD at h
  have := of_decide_eq_true h
  unfold isL
  exact decide_eq_false (by omega)
theorem nameL_is (c : UInt8) (t : List UInt8) : nameL (c :: t) = (decide ((c :: t).length ≤ 64) && !isD c && !lrL (c :: t) && (c :: t).all fun b => isL b || isD b) := by
  unfold nameL lrL
  simp only [List.all_cons]
  cases hd : isD c with
  | true => rw [isLD c hd]; simp
  | false => cases isL c <;> cases decide ((c :: t).length ≤ 64) <;> cases (t.all fun b => isL b || isD b) <;> simp
set_option maxRecDepth 100000 in
set_option maxHeartbeats 4000000 in
theorem Name_at (l : List UInt8) (hl : l.length ≤ 65536) (w : World) : Calls Tryz.prog 11 #[.string (St l)] w fun e w' => e = .returned (.bool (nameL l)) ∧ Below w.heap.size w w' := by
  cases l with
  | nil =>
    have h0 : (St ([] : List UInt8)).toList.isEmpty = true := by rw [St_toList]; rfl
    go_enter Tryz.func11, Tryz.ntmps11
    go_wp2_with fail
    go_ret
    exact ⟨rfl, Below.refl _ _⟩
  | cons c t =>
    have h0 : (St (c :: t)).toList.isEmpty = false := by rw [St_toList]; rfl
    have HN := Lib.hid (nameL_is c t)
    have hz : (St (c :: t)).size = (c :: t).length := rfl
    have LK := Lib.hid (looks_at (c :: t) hl w)
    have HX : Hid (∀ i (h : i < (St (c :: t)).size), (c :: t)[i]? = some ((St (c :: t))[i]'h)) := fun i h => List.getElem?_eq_getElem h
    have HZ := Lib.hid hz
    generalize St (c :: t) = s at h0 hz LK HX HZ
    have hpos : (0 : Int) < (s.size : Int) := by rw [hz]; simp only [List.length_cons]; omega
    have hpos' : 0 < s.size := by rw [hz]; simp
    have D := Lib.hid (fun W => isDecimal_at c W)
    have hx0 : s[0]'hpos' = c := by have := HX.out 0 hpos'; simpa using this.symm
    clear hz
    by_cases h64 : 64 < s.size
    · have h64' : (64 : Int) < (s.size : Int) := by omega
      go_enter Tryz.func11, Tryz.ntmps11
      go_wp2_with fail
      go_ret
      exact ⟨by rw [HN.out, ← HZ.out, decide_eq_false (by omega)]; rfl, Below.refl _ _⟩
    have h64' : ¬ (64 : Int) < (s.size : Int) := by omega
    cases hD : isD c with
    | true =>
      have HD := Lib.hid hD
      rw [hD] at D
      clear hD
      go_enter Tryz.func11, Tryz.ntmps11
      go_wp2_with fail
      refine (D.out _).mono ?_; rintro e w1 ⟨rfl, rfl⟩
      go_wp2_with fail
      go_ret
      exact ⟨by rw [HN.out, HD.out]; simp, Below.refl _ _⟩
    | false =>
      have HD := Lib.hid hD
      rw [hD] at D
      clear hD
      cases hR : lrL (c :: t) with
      | true =>
        have HR := Lib.hid hR
        rw [hR] at LK
        clear hR
        go_enter Tryz.func11, Tryz.ntmps11
        go_wp2_with fail
        refine (D.out _).mono ?_; rintro e w1 ⟨rfl, rfl⟩
        go_wp2_with fail
        refine LK.out.mono ?_; rintro e w1 ⟨rfl, g1⟩
        have G1 := Lib.hid g1
        clear g1
        go_wp2_with fail
        go_ret
        exact ⟨by rw [HN.out, HR.out]; simp, G1.out⟩
      | false =>
        have HR := Lib.hid hR
        rw [hR] at LK
        clear hR
        have HA : Hid (nameL (c :: t) = (c :: t).all fun b => isL b || isD b) := by
          unfold Hid
          rw [HN.out, HD.out, HR.out, ← HZ.out, decide_eq_true (by omega)]
          simp
        clear HN HD HR
        go_enter Tryz.func11, Tryz.ntmps11
        go_wp2_with fail
        refine (D.out _).mono ?_; rintro e w1 ⟨rfl, rfl⟩
        go_wp2_with fail
        refine LK.out.mono ?_; rintro e w1 ⟨rfl, g1⟩
        have G1 := Lib.hid g1
        clear g1 h0 hx0 D LK
        go_wp2_with fail
        go_loopw [22] (fun j wr => ∃ k : Nat, k ≤ s.size ∧ j = .int .i64 k ∧ wr = w1 ∧ (((c :: t).take k).all fun b => isL b || isD b) = true) (fun j _ => (s.size - intOf j).toNat)
        case atStart => exact ⟨0, Nat.zero_le _, rfl, rfl, rfl⟩
        case round =>
          obtain ⟨k, hk, rfl, rfl, hall⟩ := hrel
          have HK := Lib.hid hall
          clear hall
          by_cases hlt : k < s.size
          · have hlt' : (k : Int) < (s.size : Int) := by omega
            obtain ⟨b, hb⟩ : ∃ b, s[k]'hlt = b := ⟨_, rfl⟩
            have HB : Hid ((c :: t)[k]? = some b) := by have := HX.out k hlt; rw [hb] at this; exact this
            have LB := Lib.hid (fun W => isLetter_at b W)
            have DB := Lib.hid (fun W => isDecimal_at b W)
            have nxt : Hid ((isL b || isD b) = true → (((c :: t).take (k + 1)).all fun b => isL b || isD b) = true) := fun h => by
              rw [List.take_add_one, HB.out]
              simp only [Option.toList_some, List.all_append, HK.out, Bool.true_and, List.all_cons, List.all_nil, h]
            have bad : Hid ((isL b || isD b) = false → ((c :: t).all fun b => isL b || isD b) = false) := fun h => by
              cases hh : (c :: t).all fun b => isL b || isD b with
              | false => rfl
              | true =>
                have := List.all_eq_true.1 hh b (List.mem_of_getElem? HB.out)
                rw [h] at this; cases this
            cases hL : isL b with
            | true =>
              rw [hL] at LB nxt
              clear hL
              go_wp2_with fail
              refine (LB.out _).mono ?_; rintro e w2 ⟨rfl, rfl⟩
              go_wp2_with fail
              go_roundw
              case rel => exact ⟨k + 1, by omega, by first | rfl | simp, (by first | rfl | trivial), nxt.out rfl⟩
              case measure => simp only [intOf]; omega
            | false =>
              rw [hL] at LB nxt bad
              clear hL
              cases hD : isD b with
              | true =>
                rw [hD] at DB nxt
                clear hD
                go_wp2_with fail
                refine (LB.out _).mono ?_; rintro e w2 ⟨rfl, rfl⟩
                go_wp2_with fail
                refine (DB.out _).mono ?_; rintro e w2 ⟨rfl, rfl⟩
                go_wp2_with fail
                go_roundw
                case rel => exact ⟨k + 1, by omega, by first | rfl | simp, (by first | rfl | trivial), nxt.out rfl⟩
                case measure => simp only [intOf]; omega
              | false =>
                rw [hD] at DB bad
                clear hD
                go_wp2_with fail
                refine (LB.out _).mono ?_; rintro e w2 ⟨rfl, rfl⟩
                go_wp2_with fail
                refine (DB.out _).mono ?_; rintro e w2 ⟨rfl, rfl⟩
                go_wp2_with fail
                go_ret
                exact ⟨by rw [HA.out, bad.out rfl]; rfl, G1.out⟩
          · obtain rfl : k = s.size := by omega
            have hfull : Hid (((c :: t).all fun b => isL b || isD b) = true) := by
              have := HK.out
              rw [HZ.out, List.take_length] at this
              exact this
            go_wp2_with fail
            go_ret
            exact ⟨by rw [HA.out, hfull.out]; rfl, G1.out⟩
end Go.Proofs.YthhbhfpdabiclaaGreatDoor.L12
