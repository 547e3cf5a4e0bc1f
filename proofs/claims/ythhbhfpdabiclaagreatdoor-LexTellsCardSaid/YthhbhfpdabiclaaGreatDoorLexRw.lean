/- lex (layer 12): the document's token of a word. By genlexrw.py. -/
import Derived.Test.YthhbhfpdabiclaaGreatDoorLexRb
import Derived.Test.YthhbhfpdabiclaaGreatDoorLexToken
namespace Go.Proofs.YthhbhfpdabiclaaGreatDoor.L12
open Go.RowKit Go.Shelf
set_option linter.unusedVariables false
/-- What Word answers: a token, or none. -/
def WordO (l : List UInt8) (e : Ending) : Prop := match tokW l with
  | some (k, y, v) => e = .returned (.tuple #[.agg #[.int .u8 (k : Nat), .string (St y), .int .u32 (v : Nat), .int .i64 0, .int .i64 0], .bool true])
  | none => ∃ k s v, e = .returned (.tuple #[.agg #[.int .u8 k, .string s, .int .u32 v, .int .i64 0, .int .i64 0], .bool false])
theorem WordO.some {l y : List UInt8} {k v : Nat} {e : Ending} (h : tokW l = some (k, y, v)) (he : e = .returned (.tuple #[.agg #[.int .u8 (k : Nat), .string (St y), .int .u32 (v : Nat), .int .i64 0, .int .i64 0], .bool true])) : WordO l e := by
  unfold WordO; rw [h]; exact he
theorem WordO.none {l : List UInt8} {k v : Int} {s : ByteArray} {e : Ending} (h : tokW l = Option.none) (he : e = .returned (.tuple #[.agg #[.int .u8 k, .string s, .int .u32 v, .int .i64 0, .int .i64 0], .bool false])) : WordO l e := by
  unfold WordO; rw [h]; exact ⟨_, _, _, he⟩
theorem word_ret {tmps : Array Value} {w : World} {b : Nat} {k n x y : Int} {s : ByteArray} {v : Value} (hp : tmps.getD 2 undef = .pointer (some ⟨b, 0, none⟩)) (hv : tmps.getD 3 undef = v)
    (h : w.heap[b]? = some (.cells #[.int .u8 k, .string s, .int .u32 n, .int .i64 x, .int .i64 y] 37 (0, 0))) :
    (results Tryz.f20 tmps).run Tryz.prog w = .ok (.tuple #[.agg #[.int .u8 k, .string s, .int .u32 n, .int .i64 x, .int .i64 y], v]) w := by
  rw [results_cell_tmp Tryz.results20, hp, hv]
  have c0 := row_cell h (j := 0) rfl
  have c1 := row_cell h (j := 1) rfl
  have c2 := row_cell h (j := 2) rfl
  have c3 := row_cell h (j := 3) rfl
  have c4 := row_cell h (j := 4) rfl
  simp [go_sem, asAddr, c0, c1, c2, c3, c4]
theorem new5 (w : World) (k : Int) (s : ByteArray) (n x y : Int) : (w.alloc (.cells #[.int .u8 k, .string s, .int .u32 n, .int .i64 x, .int .i64 y] 37)).heap[w.heap.size]? = Option.some (.cells #[.int .u8 k, .string s, .int .u32 n, .int .i64 x, .int .i64 y] 37 (0, 0)) := heap_alloc_last _ _
/-- A word's token by the document's numbers. -/
theorem tok_reg {t : List UInt8} (h : (refNumL t 4095).2 = true) : tokW (118 :: t) = Option.some (2, 118 :: t, (refNumL t 4095).1) := by
  have h1 : regL (118 :: t) = Option.some (refNumL t 4095).1 := by
    show (if (118 : UInt8) = 118 then numL t 0 4095 else Option.none) = _
    rw [if_pos rfl, numL_ref0 _ _ (by decide), h, if_pos rfl]
  unfold tokW
  rw [if_neg (by simp), if_neg (by simp), h1]
theorem reg_no {c : UInt8} {t : List UInt8} (h : c = 118 → (refNumL t 4095).2 = false) : regL (c :: t) = Option.none := by
  show (if c = 118 then numL t 0 4095 else Option.none) = _
  by_cases hc : c = 118
  · rw [if_pos hc, numL_ref0 _ _ (by decide), h hc]; rfl
  · rw [if_neg hc]
theorem minus_no {t : List UInt8} (hi : Nat) : (refNumL (45 :: t) hi).2 = false := by
  unfold refNumL
  rw [show okC (45 :: t) = false by
    rw [okC_is]
    have : digsL (45 :: t) = false := by unfold digsL; simp [isD]
    rw [this]; rfl]
  rfl
theorem number_yes {l : List UInt8} (h : (refNumL l 4294967295).2 = true) : numberL l = Option.some (refNumL l 4294967295).1 := by
  cases l with
  | nil => cases h
  | cons c t =>
    have hc : ¬ c = 45 := fun e => by subst e; rw [minus_no] at h; cases h
    show (if c = 45 then (numL t 1 2147483648).map (4294967296 - ·) else numL (c :: t) 0 4294967295) = _
    rw [if_neg hc, numL_ref0 _ _ (by decide), h, if_pos rfl]
theorem number_minus {t : List UInt8} (h : (refNumL t 2147483648).2 = true) (h0 : 0 < (refNumL t 2147483648).1) : numberL (45 :: t) = Option.some (4294967296 - (refNumL t 2147483648).1) := by
  show (if (45 : UInt8) = 45 then (numL t 1 2147483648).map (4294967296 - ·) else numL (45 :: t) 0 4294967295) = _
  rw [if_pos rfl, numL_ref1 _ _ (by decide), h, decide_eq_true h0]
  rfl
theorem number_no {c : UInt8} {t : List UInt8} (h : (refNumL (c :: t) 4294967295).2 = false) (hm : c = 45 → ((refNumL t 2147483648).2 && decide (0 < (refNumL t 2147483648).1)) = false) : numberL (c :: t) = Option.none := by
  show (if c = 45 then (numL t 1 2147483648).map (4294967296 - ·) else numL (c :: t) 0 4294967295) = _
  by_cases hc : c = 45
  · rw [if_pos hc, numL_ref1 _ _ (by decide), hm hc]; rfl
  · rw [if_neg hc, numL_ref0 _ _ (by decide), h]; rfl
theorem tok_number {l : List UInt8} {v : Nat} (h1 : l ≠ [123]) (h2 : l ≠ [125]) (hr : regL l = Option.none) (hn : numberL l = Option.some v) : tokW l = Option.some (3, l, v) := by
  unfold tokW
  rw [if_neg h1, if_neg h2, hr, hn]
theorem tok_rest {l : List UInt8} (h1 : l ≠ [123]) (h2 : l ≠ [125]) (hr : regL l = Option.none) (hn : numberL l = Option.none) : tokW l = if Lib.hasSuffix l [58] && nameL (l.take (l.length - 1)) then Option.some (1, l.take (l.length - 1), 0) else if nameL l then Option.some (0, l, 0) else Option.none := by
  unfold tokW
  rw [if_neg h1, if_neg h2, hr, hn]
theorem last_suffix (l : List UInt8) (h : l ≠ []) : Lib.hasSuffix l [58] = (l[l.length - 1]? == Option.some 58) := by
  obtain ⟨a, d, rfl⟩ : ∃ a d, l = a ++ [d] := ⟨l.dropLast, l.getLast h, (List.dropLast_concat_getLast h).symm⟩
  have e : (a ++ [d])[(a ++ [d]).length - 1]? = Option.some d := by simp
  rw [e]
  unfold Lib.hasSuffix
  by_cases hd : d = 58
  · subst hd
    rw [List.isSuffixOf_iff_suffix.2 ⟨a, rfl⟩]; simp
  · have : List.isSuffixOf [58] (a ++ [d]) = false := by
      cases hb : List.isSuffixOf [58] (a ++ [d]) with
      | false => rfl
      | true =>
        obtain ⟨x, hx⟩ := List.isSuffixOf_iff_suffix.1 hb
        have := congrArg List.getLast? hx
        simp at this
        exact absurd this.symm hd
    rw [this]
    simp [hd]
set_option maxRecDepth 100000 in
set_option maxHeartbeats 4000000 in
theorem Word_at (l : List UInt8) (hl : l.length ≤ 65536) (h0 : l ≠ []) (w : World) : Calls Tryz.prog 20 #[.string (St l)] w fun e w' => WordO l e ∧ Below w.heap.size w w' := by
  have B0 : Below w.heap.size w (w.alloc (.cells #[.int .u8 0, .string ⟨#[]⟩, .int .u32 0, .int .i64 0, .int .i64 0] 37)) := (Below.refl _ _).alloc (Nat.le_refl _) _
  have R0 := heap_alloc_last w (.cells #[.int .u8 0, .string ⟨#[]⟩, .int .u32 0, .int .i64 0, .int .i64 0] 37)
  by_cases h1 : l = [123]
  · have HK : Hid (tokW l = Option.some (4, l, 0)) := by unfold Hid; rw [h1, tokC_is]; kernel_rfl
    have hb1 : ((St l).toList == [123]) = true := by rw [St_toList, h1]; rfl
    skip
    generalize hS : St l = s at hb1 ⊢
    have HS := Lib.hid hS
    clear h1 hS
    go_enter Tryz.func20, Tryz.ntmps20
    go_wp2_with fail
    refine bodyPost_ret (word_ret rfl rfl (new5 w 4 s 0 0 0)) rfl ?_
    exact ⟨WordO.some HK.out (by rw [HS.out]; rfl), (Below.refl _ _).alloc (Nat.le_refl _) _⟩
  by_cases h2 : l = [125]
  · have HK : Hid (tokW l = Option.some (5, l, 0)) := by unfold Hid; rw [h2, tokC_is]; kernel_rfl
    have hb2 : ((St l).toList == [125]) = true := by rw [St_toList, h2]; rfl
    have hb1 : ((St l).toList == [123]) = false := by rw [St_toList, h2]; rfl
    generalize hS : St l = s at hb2 hb1 ⊢
    have HS := Lib.hid hS
    clear h2 hS
    go_enter Tryz.func20, Tryz.ntmps20
    go_wp2_with fail
    refine bodyPost_ret (word_ret rfl rfl (new5 w 5 s 0 0 0)) rfl ?_
    exact ⟨WordO.some HK.out (by rw [HS.out]; rfl), (Below.refl _ _).alloc (Nat.le_refl _) _⟩
  obtain ⟨c, t, rfl⟩ : ∃ c t, l = c :: t := by cases l with | nil => exact absurd rfl h0 | cons c t => exact ⟨c, t, rfl⟩
  have e1 : ((St (c :: t)).toList == [123]) = false := by rw [St_toList]; simpa using h1
  have e2 : ((St (c :: t)).toList == [125]) = false := by rw [St_toList]; simpa using h2
  have HX : Hid (∀ i (h : i < (St (c :: t)).size), (c :: t)[i]? = Option.some ((St (c :: t))[i]'h)) := fun i h => List.getElem?_eq_getElem h
  have HZ : Hid ((St (c :: t)).size = t.length + 1) := rfl
  have EX : Hid ((St (c :: t)).extract 1 (St (c :: t)).size = St t) := by
    unfold Hid
    rw [← St_of ((St (c :: t)).extract 1 (St (c :: t)).size), Lib.extract_data, St_list, List.take_of_length_le (by rw [St_size]; simp)]
    rfl
  have EI : Hid ((St (c :: t)).extract 0 ((St (c :: t)).size - 1) = St ((c :: t).take ((c :: t).length - 1))) := by
    unfold Hid
    rw [← St_of ((St (c :: t)).extract 0 ((St (c :: t)).size - 1)), Lib.extract_data, St_list]
    rfl
  have ht : t.length ≤ 65535 := by simp at hl; omega
  have NR := Lib.hid (fun W => refNumber_at t (by omega) 4095 (by decide) W)
  have NL := Lib.hid (fun W => refNumber_at (c :: t) hl 4294967295 (by decide) W)
  have NM := Lib.hid (fun W => refNumber_at t (by omega) 2147483648 (by decide) W)
  have NI := Lib.hid (fun W => refName_at ((c :: t).take ((c :: t).length - 1)) (by rw [List.length_take]; omega) W)
  have NN := Lib.hid (fun W => refName_at (c :: t) hl W)
  have H1 := Lib.hid h1
  have H2 := Lib.hid h2
  have hls := Lib.hid (last_suffix (c :: t) (by simp))
  generalize hS : St (c :: t) = s at e1 e2 HX HZ EX EI NL NN ⊢
  have HS := Lib.hid hS
  have hz0 := HZ.out
  have hpos' : 0 < s.size := by omega
  have hpos : (0 : Int) < (s.size : Int) := by omega
  have hx0 : s[0]'hpos' = c := by have := HX.out 0 hpos'; simpa using this.symm
  have hsz : s.size ≤ 65536 := by omega
  have hlast' : s.size - 1 < s.size := by omega
  obtain ⟨z, hz⟩ : ∃ z, s[s.size - 1]'hlast' = z := ⟨_, rfl⟩
  have HSF : Hid (Lib.hasSuffix (c :: t) [58] = (z == 58)) := by
    unfold Hid
    rw [hls.out]
    have := HX.out (s.size - 1) hlast'
    rw [hz, HZ.out] at this
    rw [show (c :: t).length - 1 = t.length + 1 - 1 from rfl, this]
    rfl
  clear hS h1 h2 hz0 h0 hl hls
  by_cases h118 : c = 118
  · subst h118
    have ex := EX.out
    have h1s : (1 : Int) ≤ s.size := by omega
    have H45 : Hid (¬ (118 : UInt8) = 45) := by unfold Hid; decide
    cases hr : (refNumL t 4095).2 with
    | true =>
      have HK := Lib.hid (tok_reg hr)
      have hle := refNum_le hr
      rw [hr] at NR
      generalize (refNumL t 4095).1 = v at HK hle NR
      have hv : IntKind.u32.wrap (v : Int) = v := IntWalk.u32_in _ (by omega)
      clear hr
      go_enter Tryz.func20, Tryz.ntmps20
      go_wp2_with fail
      refine (NR.out _).mono ?_; rintro e w3 ⟨rfl, rfl⟩
      go_wp2_with fail
      refine bodyPost_ret (word_ret rfl rfl (new5 w 2 s v 0 0)) rfl ?_
      exact ⟨WordO.some HK.out (by rw [HS.out]; rfl), (Below.refl _ _).alloc (Nat.le_refl _) _⟩
    | false =>
      have HRG := Lib.hid (reg_no (c := 118) (t := t) (fun _ => hr))
      rw [hr] at NR
      generalize (refNumL t 4095).1 = vr at NR
      clear hr
      go_enter Tryz.func20, Tryz.ntmps20
      go_wp2_with fail
      refine (NR.out _).mono ?_; rintro e w3 ⟨rfl, rfl⟩
      cases hb : (refNumL (118 :: t) 4294967295).2 with
      | true =>
        have HK : Hid (tokW (118 :: t) = Option.some (3, 118 :: t, (refNumL (118 :: t) 4294967295).1)) := tok_number H1.out H2.out (HRG.out) (number_yes hb)
        have hle := refNum_le hb
        rw [hb] at NL
        generalize (refNumL (118 :: t) 4294967295).1 = v at HK hle NL
        have hv : IntKind.u32.wrap (v : Int) = v := IntWalk.u32_in _ (by omega)
        clear hb
        go_wp2_with fail
        refine (NL.out _).mono ?_; rintro e w3 ⟨rfl, rfl⟩
        go_wp2_with fail
        refine bodyPost_ret (word_ret rfl rfl (new5 w 3 s v 0 0)) rfl ?_
        exact ⟨WordO.some HK.out (by rw [HS.out]; rfl), (Below.refl _ _).alloc (Nat.le_refl _) _⟩
      | false =>
        have HB := Lib.hid hb
        rw [hb] at NL
        generalize (refNumL (118 :: t) 4294967295).1 = vl at NL
        clear hb
        go_wp2_with fail
        refine (NL.out _).mono ?_; rintro e w3 ⟨rfl, rfl⟩
        have HNO := Lib.hid (number_no HB.out (fun e => absurd e H45.out))
        have HT := Lib.hid (tok_rest H1.out H2.out (HRG.out) (HNO.out))
        by_cases hzc : z = 58
        · subst hzc
          have ei := EI.out
          cases hi : nameL ((118 :: t).take ((118 :: t).length - 1)) with
          | true =>
            have HK : Hid (tokW (118 :: t) = Option.some (1, (118 :: t).take ((118 :: t).length - 1), 0)) := by unfold Hid; rw [HT.out, HSF.out, hi]; rfl
            rw [hi] at NI
            clear hi
            go_wp2_with fail
            refine (NI.out _).mono ?_; rintro e w3 ⟨rfl, rfl⟩
            go_wp2_with fail
            refine bodyPost_ret (word_ret rfl rfl (new5 w 1 (St ((118 :: t).take ((118 :: t).length - 1))) 0 0 0)) rfl ?_
            exact ⟨WordO.some HK.out rfl, (Below.refl _ _).alloc (Nat.le_refl _) _⟩
          | false =>
            have HK : Hid (tokW (118 :: t) = if nameL (118 :: t) then Option.some (0, 118 :: t, 0) else Option.none) := by unfold Hid; rw [HT.out, HSF.out, hi]; rfl
            rw [hi] at NI
            clear hi
            go_wp2_with fail
            refine (NI.out _).mono ?_; rintro e w3 ⟨rfl, rfl⟩
            go_wp2_with fail
            refine (NN.out _).mono ?_; rintro e w3 ⟨rfl, rfl⟩
            go_wp2_with fail
            refine bodyPost_ret (word_ret rfl rfl (new5 w 0 s 0 0 0)) rfl ?_
            refine ⟨?_, (Below.refl _ _).alloc (Nat.le_refl _) _⟩
            cases hn : nameL (118 :: t) with
            | true => exact WordO.some (by rw [HK.out, hn]; rfl) (by rw [HS.out]; rfl)
            | false => exact WordO.none (k := 0) (s := s) (v := 0) (by rw [HK.out, hn]; rfl) rfl
        · have hzf : (z == 58) = false := by rw [beq_eq_false_iff_ne]; exact hzc
          have HK : Hid (tokW (118 :: t) = if nameL (118 :: t) then Option.some (0, 118 :: t, 0) else Option.none) := by unfold Hid; rw [HT.out, HSF.out, hzf]; rfl
          have hz2 : ((z.toNat : Int) == 58) = false := by
            rw [beq_eq_false_iff_ne]
            intro h
            exact hzc (UInt8.toNat_inj.1 (show z.toNat = (58 : UInt8).toNat by show z.toNat = 58; omega))
          clear hzc hzf
          go_wp2_with fail
          refine (NN.out _).mono ?_; rintro e w3 ⟨rfl, rfl⟩
          go_wp2_with fail
          refine bodyPost_ret (word_ret rfl rfl (new5 w 0 s 0 0 0)) rfl ?_
          refine ⟨?_, (Below.refl _ _).alloc (Nat.le_refl _) _⟩
          cases hn : nameL (118 :: t) with
          | true => exact WordO.some (by rw [HK.out, hn]; rfl) (by rw [HS.out]; rfl)
          | false => exact WordO.none (k := 0) (s := s) (v := 0) (by rw [HK.out, hn]; rfl) rfl
  · have h118' : ((c.toNat : Int) == 118) = false := by
      rw [beq_eq_false_iff_ne]
      intro h
      exact h118 (UInt8.toNat_inj.1 (show c.toNat = (118 : UInt8).toNat by show c.toNat = 118; omega))
    have HRG := Lib.hid (reg_no (c := c) (t := t) (fun e => absurd e h118))
    by_cases h45 : c = 45
    · clear h118 h118'
      go_enter Tryz.func20, Tryz.ntmps20
      cases hb : (refNumL (c :: t) 4294967295).2 with
      | true =>
        have HK : Hid (tokW (c :: t) = Option.some (3, c :: t, (refNumL (c :: t) 4294967295).1)) := tok_number H1.out H2.out (HRG.out) (number_yes hb)
        have hle := refNum_le hb
        rw [hb] at NL
        generalize (refNumL (c :: t) 4294967295).1 = v at HK hle NL
        have hv : IntKind.u32.wrap (v : Int) = v := IntWalk.u32_in _ (by omega)
        clear hb
        go_wp2_with fail
        refine (NL.out _).mono ?_; rintro e w3 ⟨rfl, rfl⟩
        go_wp2_with fail
        refine bodyPost_ret (word_ret rfl rfl (new5 w 3 s v 0 0)) rfl ?_
        exact ⟨WordO.some HK.out (by rw [HS.out]; rfl), (Below.refl _ _).alloc (Nat.le_refl _) _⟩
      | false =>
        have HB := Lib.hid hb
        rw [hb] at NL
        generalize (refNumL (c :: t) 4294967295).1 = vl at NL
        clear hb
        go_wp2_with fail
        refine (NL.out _).mono ?_; rintro e w3 ⟨rfl, rfl⟩
        subst h45
        have ex := EX.out
        have h1s : (1 : Int) ≤ s.size := by omega
        cases hm : (refNumL t 2147483648).2 with
        | true =>
          have hle := refNum_le hm
          by_cases hp : 0 < (refNumL t 2147483648).1
          · have HK : Hid (tokW (45 :: t) = Option.some (3, 45 :: t, 4294967296 - (refNumL t 2147483648).1)) := tok_number H1.out H2.out (HRG.out) (number_minus hm hp)
            rw [hm] at NM
            generalize (refNumL t 2147483648).1 = v at HK hle NM hp
            have hv : IntKind.u32.wrap (4294967296 - (v : Int)) = 4294967296 - (v : Int) := IntWalk.u32_in _ (by omega)
            have hv2 : (0 : Int) < v := by omega
            clear hm
            go_wp2_with fail
            refine (NM.out _).mono ?_; rintro e w3 ⟨rfl, rfl⟩
            go_wp2_with fail
            refine bodyPost_ret (word_ret rfl rfl (new5 w 3 s (4294967296 - (v : Int)) 0 0)) rfl ?_
            exact ⟨WordO.some HK.out (by rw [HS.out, show ((4294967296 - v : Nat) : Int) = 4294967296 - (v : Int) by omega]; rfl), (Below.refl _ _).alloc (Nat.le_refl _) _⟩
          · have HNO := Lib.hid (number_no (c := 45) HB.out (fun _ => by rw [decide_eq_false hp]; simp))
            rw [hm] at NM
            generalize (refNumL t 2147483648).1 = v at NM hp
            have hv2 : ¬ (0 : Int) < v := by omega
            clear hm hp hle
            go_wp2_with fail
            refine (NM.out _).mono ?_; rintro e w3 ⟨rfl, rfl⟩
            have HT := Lib.hid (tok_rest H1.out H2.out (HRG.out) (HNO.out))
            by_cases hzc : z = 58
            · subst hzc
              have ei := EI.out
              cases hi : nameL ((45 :: t).take ((45 :: t).length - 1)) with
              | true =>
                have HK : Hid (tokW (45 :: t) = Option.some (1, (45 :: t).take ((45 :: t).length - 1), 0)) := by unfold Hid; rw [HT.out, HSF.out, hi]; rfl
                rw [hi] at NI
                clear hi
                go_wp2_with fail
                refine (NI.out _).mono ?_; rintro e w3 ⟨rfl, rfl⟩
                go_wp2_with fail
                refine bodyPost_ret (word_ret rfl rfl (new5 w 1 (St ((45 :: t).take ((45 :: t).length - 1))) 0 0 0)) rfl ?_
                exact ⟨WordO.some HK.out rfl, (Below.refl _ _).alloc (Nat.le_refl _) _⟩
              | false =>
                have HK : Hid (tokW (45 :: t) = if nameL (45 :: t) then Option.some (0, 45 :: t, 0) else Option.none) := by unfold Hid; rw [HT.out, HSF.out, hi]; rfl
                rw [hi] at NI
                clear hi
                go_wp2_with fail
                refine (NI.out _).mono ?_; rintro e w3 ⟨rfl, rfl⟩
                go_wp2_with fail
                refine (NN.out _).mono ?_; rintro e w3 ⟨rfl, rfl⟩
                go_wp2_with fail
                refine bodyPost_ret (word_ret rfl rfl (new5 w 0 s 0 0 0)) rfl ?_
                refine ⟨?_, (Below.refl _ _).alloc (Nat.le_refl _) _⟩
                cases hn : nameL (45 :: t) with
                | true => exact WordO.some (by rw [HK.out, hn]; rfl) (by rw [HS.out]; rfl)
                | false => exact WordO.none (k := 0) (s := s) (v := 0) (by rw [HK.out, hn]; rfl) rfl
            · have hzf : (z == 58) = false := by rw [beq_eq_false_iff_ne]; exact hzc
              have HK : Hid (tokW (45 :: t) = if nameL (45 :: t) then Option.some (0, 45 :: t, 0) else Option.none) := by unfold Hid; rw [HT.out, HSF.out, hzf]; rfl
              have hz2 : ((z.toNat : Int) == 58) = false := by
                rw [beq_eq_false_iff_ne]
                intro h
                exact hzc (UInt8.toNat_inj.1 (show z.toNat = (58 : UInt8).toNat by show z.toNat = 58; omega))
              clear hzc hzf
              go_wp2_with fail
              refine (NN.out _).mono ?_; rintro e w3 ⟨rfl, rfl⟩
              go_wp2_with fail
              refine bodyPost_ret (word_ret rfl rfl (new5 w 0 s 0 0 0)) rfl ?_
              refine ⟨?_, (Below.refl _ _).alloc (Nat.le_refl _) _⟩
              cases hn : nameL (45 :: t) with
              | true => exact WordO.some (by rw [HK.out, hn]; rfl) (by rw [HS.out]; rfl)
              | false => exact WordO.none (k := 0) (s := s) (v := 0) (by rw [HK.out, hn]; rfl) rfl
        | false =>
          have HNO := Lib.hid (number_no (c := 45) HB.out (fun _ => by rw [hm]; rfl))
          rw [hm] at NM
          generalize (refNumL t 2147483648).1 = v at NM
          clear hm
          go_wp2_with fail
          refine (NM.out _).mono ?_; rintro e w3 ⟨rfl, rfl⟩
          have HT := Lib.hid (tok_rest H1.out H2.out (HRG.out) (HNO.out))
          by_cases hzc : z = 58
          · subst hzc
            have ei := EI.out
            cases hi : nameL ((45 :: t).take ((45 :: t).length - 1)) with
            | true =>
              have HK : Hid (tokW (45 :: t) = Option.some (1, (45 :: t).take ((45 :: t).length - 1), 0)) := by unfold Hid; rw [HT.out, HSF.out, hi]; rfl
              rw [hi] at NI
              clear hi
              go_wp2_with fail
              refine (NI.out _).mono ?_; rintro e w3 ⟨rfl, rfl⟩
              go_wp2_with fail
              refine bodyPost_ret (word_ret rfl rfl (new5 w 1 (St ((45 :: t).take ((45 :: t).length - 1))) 0 0 0)) rfl ?_
              exact ⟨WordO.some HK.out rfl, (Below.refl _ _).alloc (Nat.le_refl _) _⟩
            | false =>
              have HK : Hid (tokW (45 :: t) = if nameL (45 :: t) then Option.some (0, 45 :: t, 0) else Option.none) := by unfold Hid; rw [HT.out, HSF.out, hi]; rfl
              rw [hi] at NI
              clear hi
              go_wp2_with fail
              refine (NI.out _).mono ?_; rintro e w3 ⟨rfl, rfl⟩
              go_wp2_with fail
              refine (NN.out _).mono ?_; rintro e w3 ⟨rfl, rfl⟩
              go_wp2_with fail
              refine bodyPost_ret (word_ret rfl rfl (new5 w 0 s 0 0 0)) rfl ?_
              refine ⟨?_, (Below.refl _ _).alloc (Nat.le_refl _) _⟩
              cases hn : nameL (45 :: t) with
              | true => exact WordO.some (by rw [HK.out, hn]; rfl) (by rw [HS.out]; rfl)
              | false => exact WordO.none (k := 0) (s := s) (v := 0) (by rw [HK.out, hn]; rfl) rfl
          · have hzf : (z == 58) = false := by rw [beq_eq_false_iff_ne]; exact hzc
            have HK : Hid (tokW (45 :: t) = if nameL (45 :: t) then Option.some (0, 45 :: t, 0) else Option.none) := by unfold Hid; rw [HT.out, HSF.out, hzf]; rfl
            have hz2 : ((z.toNat : Int) == 58) = false := by
              rw [beq_eq_false_iff_ne]
              intro h
              exact hzc (UInt8.toNat_inj.1 (show z.toNat = (58 : UInt8).toNat by show z.toNat = 58; omega))
            clear hzc hzf
            go_wp2_with fail
            refine (NN.out _).mono ?_; rintro e w3 ⟨rfl, rfl⟩
            go_wp2_with fail
            refine bodyPost_ret (word_ret rfl rfl (new5 w 0 s 0 0 0)) rfl ?_
            refine ⟨?_, (Below.refl _ _).alloc (Nat.le_refl _) _⟩
            cases hn : nameL (45 :: t) with
            | true => exact WordO.some (by rw [HK.out, hn]; rfl) (by rw [HS.out]; rfl)
            | false => exact WordO.none (k := 0) (s := s) (v := 0) (by rw [HK.out, hn]; rfl) rfl
    · have h45' : ((c.toNat : Int) == 45) = false := by
        rw [beq_eq_false_iff_ne]
        intro h
        exact h45 (UInt8.toNat_inj.1 (show c.toNat = (45 : UInt8).toNat by show c.toNat = 45; omega))
      have H45 := Lib.hid h45
      clear h118 h45
      go_enter Tryz.func20, Tryz.ntmps20
      cases hb : (refNumL (c :: t) 4294967295).2 with
      | true =>
        have HK : Hid (tokW (c :: t) = Option.some (3, c :: t, (refNumL (c :: t) 4294967295).1)) := tok_number H1.out H2.out (HRG.out) (number_yes hb)
        have hle := refNum_le hb
        rw [hb] at NL
        generalize (refNumL (c :: t) 4294967295).1 = v at HK hle NL
        have hv : IntKind.u32.wrap (v : Int) = v := IntWalk.u32_in _ (by omega)
        clear hb
        go_wp2_with fail
        refine (NL.out _).mono ?_; rintro e w3 ⟨rfl, rfl⟩
        go_wp2_with fail
        refine bodyPost_ret (word_ret rfl rfl (new5 w 3 s v 0 0)) rfl ?_
        exact ⟨WordO.some HK.out (by rw [HS.out]; rfl), (Below.refl _ _).alloc (Nat.le_refl _) _⟩
      | false =>
        have HB := Lib.hid hb
        rw [hb] at NL
        generalize (refNumL (c :: t) 4294967295).1 = vl at NL
        clear hb
        go_wp2_with fail
        refine (NL.out _).mono ?_; rintro e w3 ⟨rfl, rfl⟩
        have HNO := Lib.hid (number_no HB.out (fun e => absurd e H45.out))
        have HT := Lib.hid (tok_rest H1.out H2.out (HRG.out) (HNO.out))
        by_cases hzc : z = 58
        · subst hzc
          have ei := EI.out
          cases hi : nameL ((c :: t).take ((c :: t).length - 1)) with
          | true =>
            have HK : Hid (tokW (c :: t) = Option.some (1, (c :: t).take ((c :: t).length - 1), 0)) := by unfold Hid; rw [HT.out, HSF.out, hi]; rfl
            rw [hi] at NI
            clear hi
            go_wp2_with fail
            refine (NI.out _).mono ?_; rintro e w3 ⟨rfl, rfl⟩
            go_wp2_with fail
            refine bodyPost_ret (word_ret rfl rfl (new5 w 1 (St ((c :: t).take ((c :: t).length - 1))) 0 0 0)) rfl ?_
            exact ⟨WordO.some HK.out rfl, (Below.refl _ _).alloc (Nat.le_refl _) _⟩
          | false =>
            have HK : Hid (tokW (c :: t) = if nameL (c :: t) then Option.some (0, c :: t, 0) else Option.none) := by unfold Hid; rw [HT.out, HSF.out, hi]; rfl
            rw [hi] at NI
            clear hi
            go_wp2_with fail
            refine (NI.out _).mono ?_; rintro e w3 ⟨rfl, rfl⟩
            go_wp2_with fail
            refine (NN.out _).mono ?_; rintro e w3 ⟨rfl, rfl⟩
            go_wp2_with fail
            refine bodyPost_ret (word_ret rfl rfl (new5 w 0 s 0 0 0)) rfl ?_
            refine ⟨?_, (Below.refl _ _).alloc (Nat.le_refl _) _⟩
            cases hn : nameL (c :: t) with
            | true => exact WordO.some (by rw [HK.out, hn]; rfl) (by rw [HS.out]; rfl)
            | false => exact WordO.none (k := 0) (s := s) (v := 0) (by rw [HK.out, hn]; rfl) rfl
        · have hzf : (z == 58) = false := by rw [beq_eq_false_iff_ne]; exact hzc
          have HK : Hid (tokW (c :: t) = if nameL (c :: t) then Option.some (0, c :: t, 0) else Option.none) := by unfold Hid; rw [HT.out, HSF.out, hzf]; rfl
          have hz2 : ((z.toNat : Int) == 58) = false := by
            rw [beq_eq_false_iff_ne]
            intro h
            exact hzc (UInt8.toNat_inj.1 (show z.toNat = (58 : UInt8).toNat by show z.toNat = 58; omega))
          clear hzc hzf
          go_wp2_with fail
          refine (NN.out _).mono ?_; rintro e w3 ⟨rfl, rfl⟩
          go_wp2_with fail
          refine bodyPost_ret (word_ret rfl rfl (new5 w 0 s 0 0 0)) rfl ?_
          refine ⟨?_, (Below.refl _ _).alloc (Nat.le_refl _) _⟩
          cases hn : nameL (c :: t) with
          | true => exact WordO.some (by rw [HK.out, hn]; rfl) (by rw [HS.out]; rfl)
          | false => exact WordO.none (k := 0) (s := s) (v := 0) (by rw [HK.out, hn]; rfl) rfl
end Go.Proofs.YthhbhfpdabiclaaGreatDoor.L12
