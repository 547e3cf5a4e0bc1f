/- lex (layer 12): strings.IndexAny at white bytes. -/
import Derived.Test.YthhbhfpdabiclaaGreatDoorLexRune
import Derived.Lib.OthersKept
import Derived.Deep.LoopGhost
import Derived.Test.YthhbhfpdabiclaaGreatDoorBel
namespace Go.Proofs.YthhbhfpdabiclaaGreatDoor.L12
open Go.RowKit Go.Shelf
set_option linter.unusedVariables false
theorem ws_list : ws.data.toList = [32, 9, 13] := rfl
theorem should_at (n : Int) (w : World) : Calls Tryz.prog 61 #[.int .i64 n] w fun e w' => e = .returned (.bool (decide (8 < n))) ∧ w = w' := by
  go_enter Tryz.func61, Tryz.ntmps61
  go_wp2
  go_ret
  exact ⟨rfl, rfl⟩
theorem rune_low (x : UInt8) (hx : x.toNat < 128) (w : World) : Calls Tryz.prog 60 #[.string ws, .int .i32 x.toNat] w fun e w' => e = .returned (.int .i64 (Lib.indexByte [32, 9, 13] x)) ∧ w' = w := by
  have := Any.strings_IndexRune_ascii { shIndexAny with } ws x.toNat w (by omega) (by omega)
  rw [show ((x.toNat : Int)).toNat.toUInt8 = x by simp] at this
  exact this
theorem noAny_far {l : List UInt8} {i n : Nat} (h : Lib.NoAny l [32, 9, 13] i) (hf : ∀ k, k < n → ∃ b, l[i + k]? = some b ∧ 128 ≤ b.toNat) : Lib.NoAny l [32, 9, 13] (i + n) := fun j b hj hb => by
  by_cases hji : j < i
  · exact h j b hji hb
  · obtain ⟨b', h1, h2⟩ := hf (j - i) (by omega)
    rw [show i + (j - i) = j by omega, hb] at h1
    obtain rfl := Option.some.inj h1
    rw [Bool.eq_false_iff]
    intro hc
    simp at hc
    rcases hc with rfl | rfl | rfl <;> exact absurd h2 (by decide)
set_option maxRecDepth 100000 in
set_option maxHeartbeats 4000000 in
theorem IndexAny_short (s : ByteArray) (h8 : s.size ≤ 8) (w : World) : Calls Tryz.prog 43 #[.string s, .string ws] w fun e w' => e = .returned (.int .i64 (Lib.indexAny s.data.toList [32, 9, 13])) ∧ Below w.heap.size w w' := by
  have hws : ws.size = 3 := rfl
  have hemp : ws.toList.isEmpty = false := by rw [Lib.toList_data]; rfl
  have h8z : decide ((8 : Int) < (s.size : Int)) = false := decide_eq_false (by omega)
  have hn1 : ((3 : Int) == 1) = false := rfl
  go_enter Tryz.func43, Tryz.ntmps43
  go_wp2_with fail
  refine (should_at _ _).mono ?_; rintro e w1 ⟨rfl, rfl⟩
  rw [h8z]
  go_wp2_with fail
  go_loopg [9, 10] s.size (fun g _ _ wx => ∃ i : Nat, s.size ≤ i + g ∧ wx.heap[w.heap.size]? = some (.stringIter s i) ∧ Below w.heap.size w wx ∧ Lib.NoAny s.data.toList [32, 9, 13] i)
  case atStart => exact ⟨0, by omega, heap_alloc_last _ _, (Below.refl _ _).alloc (Nat.le_refl _) _, Lib.NoAny.zero _ _⟩
  case round =>
    obtain ⟨i, hig, hit, hB, hno⟩ := hrel
    have HB := Lib.hid hB
    have HN := Lib.hid hno
    clear hB hno
    by_cases hi : i < s.size
    · have hnx := fun ty => Lib.run_next_any_at (P := Tryz.prog) wr w.heap.size s i ty hit hi
      have IT := Lib.hid (fun p => Lib.iterAt_heap wr w.heap.size s i p hit)
      have BT := Lib.hid (fun p => Lib.below_iterAt HB.out (Nat.le_refl _) s p)
      have hsz : s.data.toList.length = s.size := rfl
      have hx0 : s.data.toList[i]? = some s[i] := List.getElem?_eq_getElem (show i < s.data.toList.length from hi)
      rcases decode_is s i hi with ⟨d1, d2⟩ | ⟨d1, d2, d3, d4, d5⟩
      · rw [d2] at hnx
        have X0 := Lib.hid hx0
        clear hx0 d2
        generalize s[i] = x at hnx X0 d1
        have R := Lib.hid (fun W => rune_low x d1 W)
        clear hit
        by_cases hc : ([32, 9, 13] : List UInt8).contains x = true
        · have hcon := Lib.contains_iff_indexByte [32, 9, 13] x
          rw [hc] at hcon
          have hge : (0 : Int) ≤ Lib.indexByte [32, 9, 13] x := of_decide_eq_true hcon.symm
          have F := Lib.hid (Lib.indexAny_hit HN.out X0.out hc)
          clear hcon hc
          go_wp2_with fail
          refine (R.out _).mono ?_; rintro e w2 ⟨rfl, rfl⟩
          go_wp2_with fail
          go_ret
          exact ⟨by rw [F.out]; rfl, BT.out _⟩
        · have hc : ([32, 9, 13] : List UInt8).contains x = false := by simpa using hc
          have hcon := Lib.contains_iff_indexByte [32, 9, 13] x
          rw [hc] at hcon
          have hge : ¬ (0 : Int) ≤ Lib.indexByte [32, 9, 13] x := of_decide_eq_false hcon.symm
          have F := Lib.hid (HN.out.succ X0.out hc)
          clear hcon hc
          go_wp2_with fail
          refine (R.out _).mono ?_; rintro e w2 ⟨rfl, rfl⟩
          go_wp2_with fail
          obtain ⟨g, rfl⟩ : ∃ g, gk = g + 1 := ⟨gk - 1, by omega⟩
          go_roundg g
          case measure => omega
          case rel => exact ⟨i + 1, by omega, IT.out _, BT.out _, F.out⟩
      · have F := Lib.hid (noAny_far (n := (Utf8.decode s i).2) HN.out fun k hk => by
          obtain ⟨h', h2⟩ := d5 k hk
          exact ⟨s[i + k], List.getElem?_eq_getElem (show i + k < s.data.toList.length from h'), h2⟩)
        have R := Lib.hid (fun W => IndexRune_far ws rfl ascii_ws _ d2 d3 W)
        clear hx0 d1 d2 d3 d5 hit
        generalize Utf8.decode s i = q at hnx F R d4
        obtain ⟨c, n⟩ := q
        simp only at hnx F R d4
        go_wp2_with fail
        refine (R.out _).mono ?_; rintro e w2 ⟨rfl, g2⟩
        have I2 := Lib.hid (bel_heap g2 (IT.out (i + n)))
        have B2 := Lib.hid (bel_trans (BT.out (i + n)) g2)
        clear g2
        go_wp2_with fail
        obtain ⟨g, rfl⟩ : ∃ g, gk = g + 1 := ⟨gk - 1, by omega⟩
        go_roundg g
        case measure => omega
        case rel => exact ⟨i + n, by omega, I2.out, B2.out, F.out⟩
    · have hnx := fun ty => Lib.run_next_end_at (P := Tryz.prog) wr w.heap.size s i ty hit hi
      clear hit
      go_wp2_with fail
      go_ret
      exact ⟨by rw [Lib.indexAny_none fun j b hj hb => HN.out j b (by
        have := (List.getElem?_eq_some_iff.1 hb).1
        have : s.data.toList.length = s.size := rfl
        omega) hb]; rfl, HB.out⟩
end Go.Proofs.YthhbhfpdabiclaaGreatDoor.L12
