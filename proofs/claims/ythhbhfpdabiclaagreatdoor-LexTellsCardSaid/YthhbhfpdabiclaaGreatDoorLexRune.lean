/- lex (layer 12): strings.IndexRune and IndexAny at white bytes, whatever the string's bytes. -/
import Derived.Test.YthhbhfpdabiclaaGreatDoorLexLib
import Derived.Shelf.Strings.Runes
import Derived.Deep.DeepCutAuto
import Derived.Deep.RegionHeld3
import Derived.BigQuiet
import Derived.Laws.RangeAny
import Derived.WalkMore
import Derived.Laws.RangeString
namespace Go.Proofs.YthhbhfpdabiclaaGreatDoor.L12
open Go.RowKit Go.Shelf
set_option linter.unusedVariables false
theorem get!_of (s : ByteArray) (k : Nat) (h : k < s.size) : s.get! k = s[k] := by
  have h' : k < s.data.size := h
  show s.data[k]! = s.data[k]
  exact getElem!_pos s.data k h'
/-- What a rune that is decoded is, and which bytes were its. -/
theorem decode_is (s : ByteArray) (i : Nat) (h : i < s.size) :
    (s[i].toNat < 128 ∧ Utf8.decode s i = (s[i].toNat, 1)) ∨
    (128 ≤ s[i].toNat ∧ 128 ≤ (Utf8.decode s i).1 ∧ Utf8.valid (Utf8.decode s i).1 = true ∧ 1 ≤ (Utf8.decode s i).2 ∧ ∀ k, k < (Utf8.decode s i).2 → ∃ h' : i + k < s.size, 128 ≤ s[i + k].toNat) := by
  have g0 : (s.get! (i + 0)).toNat = s[i].toNat := by rw [Nat.add_zero, get!_of s i h]
  by_cases h0 : s[i].toNat < 128
  · refine .inl ⟨h0, ?_⟩
    unfold Utf8.decode
    simp only [g0]
    rw [if_pos h0]
  · refine .inr ⟨by omega, ?_⟩
    have one : ∀ k, k < 1 → ∃ h' : i + k < s.size, 128 ≤ s[i + k].toNat := fun k hk => by
      obtain rfl : k = 0 := by omega
      exact ⟨h, by simpa using (by omega : 128 ≤ s[i].toNat)⟩
    have bad : 128 ≤ ((Utf8.runeError, 1) : Nat × Nat).1 ∧ Utf8.valid ((Utf8.runeError, 1) : Nat × Nat).1 = true ∧ 1 ≤ ((Utf8.runeError, 1) : Nat × Nat).2 ∧ ∀ k, k < ((Utf8.runeError, 1) : Nat × Nat).2 → ∃ h' : i + k < s.size, 128 ≤ s[i + k].toNat :=
      ⟨by decide, by decide, by decide, one⟩
    have cont : ∀ k, (decide (i + k < s.size) && (s.get! (i + k)).toNat / 64 == 2) = true → ∃ h' : i + k < s.size, 128 ≤ s[i + k].toNat := fun k hk => by
      obtain ⟨h1, h2⟩ := Bool.and_eq_true_iff.1 hk
      have h1' := of_decide_eq_true h1
      refine ⟨h1', ?_⟩
      rw [get!_of s _ h1'] at h2
      have := eq_of_beq h2
      omega
    have b8 : ∀ k, (s.get! (i + k)).toNat < 256 := fun k => UInt8.toNat_lt _
    unfold Utf8.decode
    simp only [g0]
    rw [if_neg h0]
    have z := UInt8.toNat_lt s[i]
    split
    · rename_i hc
      obtain ⟨a1, a2⟩ := Bool.and_eq_true_iff.1 hc
      have a1 := eq_of_beq a1
      split
      · rename_i hv
        refine ⟨hv, ?_, by show 1 ≤ 2; decide, fun k hk => ?_⟩
        · have := b8 1
          unfold Utf8.valid
          simp
          left
          omega
        · rcases (by omega : k = 0 ∨ k = 1) with rfl | rfl
          · exact one 0 (by decide)
          · exact cont 1 a2
      · exact bad
    · split
      · rename_i hc
        obtain ⟨a12, a3⟩ := Bool.and_eq_true_iff.1 hc
        obtain ⟨a1, a2⟩ := Bool.and_eq_true_iff.1 a12
        split
        · rename_i hv
          obtain ⟨v1, v2⟩ := Bool.and_eq_true_iff.1 hv
          have v1 := of_decide_eq_true v1
          refine ⟨by show 128 ≤ _; omega, v2, by show 1 ≤ 3; decide, fun k hk => ?_⟩
          rcases (by omega : k = 0 ∨ k = 1 ∨ k = 2) with rfl | rfl | rfl
          · exact one 0 (by decide)
          · exact cont 1 a2
          · exact cont 2 a3
        · exact bad
      · split
        · rename_i hc
          obtain ⟨a123, a4⟩ := Bool.and_eq_true_iff.1 hc
          obtain ⟨a12, a3⟩ := Bool.and_eq_true_iff.1 a123
          obtain ⟨a1, a2⟩ := Bool.and_eq_true_iff.1 a12
          split
          · rename_i hv
            obtain ⟨v1, v2⟩ := Bool.and_eq_true_iff.1 hv
            have v1 := of_decide_eq_true v1
            refine ⟨by show 128 ≤ _; omega, v2, by show 1 ≤ 4; decide, fun k hk => ?_⟩
            rcases (by omega : k = 0 ∨ k = 1 ∨ k = 2 ∨ k = 3) with rfl | rfl | rfl | rfl
            · exact one 0 (by decide)
            · exact cont 1 a2
            · exact cont 2 a3
            · exact cont 3 a4
          · exact bad
        · exact bad
/-- A rune's bytes, from 128 on: two to four, the last one from 128 on. -/
theorem encode_is (r : Nat) (h0 : 128 ≤ r) (hv : Utf8.valid r = true) : (∃ a b : Nat, a < 256 ∧ 128 ≤ b ∧ b < 256 ∧ Utf8.encode r = ⟨#[UInt8.ofNat a, UInt8.ofNat b]⟩) ∨ (∃ a c b : Nat, a < 256 ∧ c < 256 ∧ 128 ≤ b ∧ b < 256 ∧ Utf8.encode r = ⟨#[UInt8.ofNat a, UInt8.ofNat c, UInt8.ofNat b]⟩) ∨ (∃ a c d b : Nat, a < 256 ∧ c < 256 ∧ d < 256 ∧ 128 ≤ b ∧ b < 256 ∧ Utf8.encode r = ⟨#[UInt8.ofNat a, UInt8.ofNat c, UInt8.ofNat d, UInt8.ofNat b]⟩) := by
  have hr : r ≤ 1114111 := by
    unfold Utf8.valid at hv
    simp at hv
    omega
  unfold Utf8.encode
  simp only [hv, if_true, Int.toNat_natCast]
  rw [if_neg (by omega)]
  by_cases h1 : r < 2048
  · rw [if_pos h1]
    exact .inl ⟨192 + r / 64, 128 + r % 64, by omega, by omega, by omega, rfl⟩
  · rw [if_neg h1]
    by_cases h2 : r < 65536
    · rw [if_pos h2]
      exact .inr (.inl ⟨224 + r / 4096, 128 + r / 64 % 64, 128 + r % 64, by omega, by omega, by omega, by omega, rfl⟩)
    · rw [if_neg h2]
      exact .inr (.inr ⟨240 + r / 262144, 128 + r / 4096 % 64, 128 + r / 64 % 64, 128 + r % 64, by omega, by omega, by omega, by omega, by omega, rfl⟩)
theorem index_no (l : List UInt8) (c : UInt8) (h : ∀ b ∈ l, b ≠ c) : Lib.indexByte l c = -1 := by
  rcases Int.lt_or_le (Lib.indexByte l c) 0 with h0 | h0
  · have := Lib.indexByte_ge l c; omega
  · obtain ⟨o, ho⟩ : ∃ o : Nat, Lib.indexByte l c = o := ⟨(Lib.indexByte l c).toNat, by omega⟩
    exact absurd rfl (h c (List.mem_of_getElem? (Lib.indexByte_some ho).1))
theorem IndexByteG_at (l : List UInt8) (c : Int) (w : World) : Calls Tryz.prog 53 #[.string (St l), .int .u8 c] w fun e w' => e = .returned (.int .i64 (Lib.indexByte l c.toNat.toUInt8)) ∧ w' = w :=
  Any.strings_IndexByte shIndexByte (St l) c w
theorem IndexByteR_at (s : ByteArray) (y : UInt8) (hs : ∀ b ∈ s.data.toList, b.toNat < 128) (hy : 128 ≤ y.toNat) (w : World) : Calls Tryz.prog 53 #[.string s, .int .u8 y.toNat] w fun e w' => e = .returned (.int .i64 (-1)) ∧ w' = w := by
  have := Any.strings_IndexByte shIndexByte s y.toNat w
  rw [show ((y.toNat : Int)).toNat.toUInt8 = y by simp, index_no _ _ fun b hb e => by
    have := hs b hb
    rw [e] at this
    omega] at this
  exact this
theorem ValidRune_at (r : Nat) (h0 : 128 ≤ r) (hv : Utf8.valid r = true) (w : World) : Calls Tryz.prog 78 #[.int .i32 r] w fun e w' => e = .returned (.bool true) ∧ w = w' := by
  have hh : (0 : Int) ≤ r := by omega
  have hq : r < 55296 ∨ (57343 < r ∧ r ≤ 1114111) := by
    unfold Utf8.valid at hv
    simp at hv
    omega
  rcases hq with hq | ⟨hq, hq2⟩
  · have h1 : (r : Int) < 55296 := by omega
    go_enter Tryz.func78, Tryz.ntmps78
    go_wp2_with fail
    go_ret
    exact ⟨rfl, rfl⟩
  · have h1 : ¬ (r : Int) < 55296 := by omega
    have h2 : (57343 : Int) < r := by omega
    have h3 : (r : Int) ≤ 1114111 := by omega
    go_enter Tryz.func78, Tryz.ntmps78
    go_wp2_with fail
    go_ret
    exact ⟨rfl, rfl⟩
theorem below_drewN {B : Nat} {a w : World} (h : Below B a w) : ∀ n, Below B a (w.drewN n)
  | 0 => h
  | n + 1 => by
    have := (below_drewN h n).drew
    exact this
theorem ext_low (u : ByteArray) (ha : ∀ (j : Nat) b, u.data.toList[j]? = some b → b.toNat < 128) (i j : Nat) : ∀ b ∈ (u.extract i j).data.toList, b.toNat < 128 := fun b hb => by
  rw [Lib.extract_data] at hb
  obtain ⟨k, hk⟩ := List.mem_iff_getElem?.1 (List.mem_of_mem_drop (List.mem_of_mem_take hb))
  exact ha k b hk
set_option maxRecDepth 100000 in
set_option maxHeartbeats 4000000 in
/-- No rune from 128 on is among three bytes below. -/
theorem IndexRune_far (u : ByteArray) (hz : u.size = 3) (ha : ∀ (j : Nat) b, u.data.toList[j]? = some b → b.toNat < 128) (r : Nat) (h0 : 128 ≤ r) (hv : Utf8.valid r = true) (w : World) : Calls Tryz.prog 60 #[.string u, .int .i32 r] w fun e w' => e = .returned (.int .i64 (-1)) ∧ Below w.heap.size w w' := by
  have V := Lib.hid (fun W => ValidRune_at r h0 hv W)
  have HA := Lib.hid ha
  clear ha
  by_cases he : r = 65533
  · subst he
    have HZ := Lib.hid hz
    clear hz
    go_enter Tryz.func60, Tryz.ntmps60
    go_wp2_with fail
    go_loopg [5, 6] 3 (fun g _ _ wx => ∃ i : Nat, i + g = 3 ∧ wx = w.iter u i)
    case atStart => exact ⟨0, by decide, rfl⟩
    case round =>
      obtain ⟨i, hig, rfl⟩ := hrel
      cases gk with
      | zero =>
        obtain rfl : i = 3 := by omega
        have hnx := fun ty => run_next_end (P := Tryz.prog) w u 3 ty (by rw [HZ.out]; decide)
        go_wp2_with fail
        go_ret
        exact ⟨rfl, (Below.refl _ _).alloc (Nat.le_refl _) _⟩
      | succ g =>
        have hi : i < u.size := by rw [HZ.out]; omega
        obtain ⟨x, hx, hx2⟩ : ∃ x : UInt8, u[i]'hi = x ∧ x.toNat < 128 := ⟨_, rfl, by
          have h3 : i < u.data.toList.length := hi
          exact HA.out i (u[i]'hi) (List.getElem?_eq_getElem h3)⟩
        have hnx := fun ty => run_next_ascii (P := Tryz.prog) w u i ty hi (by rw [hx]; exact hx2)
        rw [hx] at hnx
        clear hx
        have hne : ((x.toNat : Int) == 65533) = false := by
          rw [beq_eq_false_iff_ne]; omega
        go_wp2_with fail
        go_roundg g
        case measure => omega
        case rel => exact ⟨i + 1, by omega, rfl⟩
  · have hne : ((r : Int) == 65533) = false := by
      rw [beq_eq_false_iff_ne]; omega
    have hlt : ¬ (r : Int) < 128 := by omega
    have hge : (0 : Int) ≤ r := by omega
    have hcv : ∀ W, (convert 21 9 (.int .i32 r)).run Tryz.prog W = .ok (.string (Utf8.encode r)) W := fun W => by
      simp [convert, go_sem, Conv.intToString]
    obtain ⟨E, hE⟩ : ∃ E, Utf8.encode r = E := ⟨_, rfl⟩
    rw [hE] at hcv
    obtain ⟨n, hn, hcase, hlast⟩ : ∃ (n : Nat) (hn : E.size = n) (hc : n = 2 ∨ n = 3 ∨ n = 4), 128 ≤ (E[n - 1]'(by omega)).toNat := by
      have low : ∀ b : Nat, 128 ≤ b → b < 256 → 128 ≤ (UInt8.ofNat b).toNat := fun b h1 h2 => by simp [UInt8.toNat_ofNat']; omega
      rcases encode_is r h0 hv with ⟨a, b, ha, hb, hb2, h⟩ | ⟨a, c, b, ha, hc, hb, hb2, h⟩ | ⟨a, c, d, b, ha, hc, hd, hb, hb2, h⟩
      · rw [hE] at h; subst h
        exact ⟨2, rfl, .inl rfl, low b hb hb2⟩
      · rw [hE] at h; subst h
        exact ⟨3, rfl, .inr (.inl rfl), low b hb hb2⟩
      · rw [hE] at h; subst h
        exact ⟨4, rfl, .inr (.inr rfl), low b hb hb2⟩
    clear hE
    rcases hcase with rfl | rfl | rfl
    · have HS := Lib.hid (fun b (hb : b ∈ (u.extract 2 3).data.toList) => (ext_low u HA.out 2 3 b hb : b.toNat < 128))
      have hu1 : (u[1]'(by rw [hz]; decide)).toNat < 128 := HA.out 1 _ (List.getElem?_eq_getElem (show 1 < u.data.toList.length by show 1 < u.size; rw [hz]; decide))
      obtain ⟨y, hy1, hy2⟩ : ∃ y : UInt8, E[1]'(by rw [hn]; decide) = y ∧ 128 ≤ y.toNat := ⟨_, rfl, hlast⟩
      obtain ⟨x, hx1, hx2⟩ : ∃ x : UInt8, u[1]'(by rw [hz]; decide) = x ∧ x.toNat < 128 := ⟨_, rfl, hu1⟩
      have hq : ((x.toNat : Int) != (y.toNat : Int)) = true := by
        rw [bne_iff_ne]; omega
      have IB := Lib.hid (fun W => IndexByteR_at (u.extract 2 3) y (fun b hb => HS.out b hb) hy2 W)
      clear hlast hu1 HA
      go_enter Tryz.func60, Tryz.ntmps60
      go_wp2_with fail
      refine (V.out _).mono ?_; rintro e w1 ⟨rfl, rfl⟩
      go_wp2_with fail
      go_step3
      go_wp2_with fail
      go_loopw [9, 10] (fun i f wr => i = .int .i64 1 ∧ f = .int .i64 0 ∧ wr = w) (fun _ _ _ => 0)
      case atStart => exact ⟨rfl, rfl, rfl⟩
      case round =>
        obtain ⟨rfl, rfl, rfl⟩ := hrel
        go_wp2_with fail
        go_step3
        go_upto_region 6 with (fail)
        go_region
        go_wp2_with fail
        clear hx1 hx2 hq hcv hne hge hlt
        have gB : Hid (Below wr.heap.size wr wr.drew) := Below.drew (Below.refl _ _)
        generalize wr.drew = W2 at gB ⊢
        have hw2 : IntKind.i64.wrap 2 = 2 := by decide
        have hw3 : IntKind.i64.wrap (1 + 1) = 2 := by decide
        go_quiet ((go_at_call 53; exact (IB.out _).mono fun _ _ hh => ⟨hh.1, _, hh.2⟩))
        have gN : Hid (Below wr.heap.size wr (W2.drewN nq)) := below_drewN gB.out nq
        generalize W2.drewN nq = W3 at gN ⊢
        go_wp2_with fail
        rw [Exit.noGoto_ret]
        simp (config := { zetaDelta := true }) only [Exit.inBlock, Exit.then, Exit.noGoto_ret]
        go_ret
        exact ⟨rfl, gN.out⟩
    · have hu1 : (u[2]'(by rw [hz]; decide)).toNat < 128 := HA.out 2 _ (List.getElem?_eq_getElem (show 2 < u.data.toList.length by show 2 < u.size; rw [hz]; decide))
      obtain ⟨y, hy1, hy2⟩ : ∃ y : UInt8, E[2]'(by rw [hn]; decide) = y ∧ 128 ≤ y.toNat := ⟨_, rfl, hlast⟩
      obtain ⟨x, hx1, hx2⟩ : ∃ x : UInt8, u[2]'(by rw [hz]; decide) = x ∧ x.toNat < 128 := ⟨_, rfl, hu1⟩
      have hq : ((x.toNat : Int) != (y.toNat : Int)) = true := by
        rw [bne_iff_ne]; omega
      have IB := Lib.hid (fun W => IndexByteR_at ByteArray.empty y (fun b hb => by cases hb) hy2 W)
      clear hlast hu1 HA
      go_enter Tryz.func60, Tryz.ntmps60
      go_wp2_with fail
      refine (V.out _).mono ?_; rintro e w1 ⟨rfl, rfl⟩
      go_wp2_with fail
      go_step3
      go_wp2_with fail
      go_loopw [9, 10] (fun i f wr => i = .int .i64 2 ∧ f = .int .i64 0 ∧ wr = w) (fun _ _ _ => 0)
      case atStart => exact ⟨rfl, rfl, rfl⟩
      case round =>
        obtain ⟨rfl, rfl, rfl⟩ := hrel
        go_wp2_with fail
        go_step3
        go_upto_region 6 with (fail)
        go_region
        go_wp2_with fail
        clear hx1 hx2 hq hcv hne hge hlt
        have gB : Hid (Below wr.heap.size wr wr.drew) := Below.drew (Below.refl _ _)
        generalize wr.drew = W2 at gB ⊢
        have hw2 : IntKind.i64.wrap 3 = 3 := by decide
        have hw3 : IntKind.i64.wrap (2 + 1) = 3 := by decide
        go_quiet ((go_at_call 53; exact (IB.out _).mono fun _ _ hh => ⟨hh.1, _, hh.2⟩))
        have gN : Hid (Below wr.heap.size wr (W2.drewN nq)) := below_drewN gB.out nq
        generalize W2.drewN nq = W3 at gN ⊢
        go_wp2_with fail
        rw [Exit.noGoto_ret]
        simp (config := { zetaDelta := true }) only [Exit.inBlock, Exit.then, Exit.noGoto_ret]
        go_ret
        exact ⟨rfl, gN.out⟩
    · clear hlast HA
      go_enter Tryz.func60, Tryz.ntmps60
      go_wp2_with fail
      refine (V.out _).mono ?_; rintro e w1 ⟨rfl, rfl⟩
      go_wp2_with fail
      go_step3
      go_wp2_with fail
      go_loopw [9, 10] (fun i f wr => i = .int .i64 3 ∧ f = .int .i64 0 ∧ wr = w) (fun _ _ _ => 0)
      case atStart => exact ⟨rfl, rfl, rfl⟩
      case round =>
        obtain ⟨rfl, rfl, rfl⟩ := hrel
        go_wp2_with fail
        rw [Exit.noGoto_ret]
        go_ret
        exact ⟨rfl, Below.refl _ _⟩
end Go.Proofs.YthhbhfpdabiclaaGreatDoor.L12
