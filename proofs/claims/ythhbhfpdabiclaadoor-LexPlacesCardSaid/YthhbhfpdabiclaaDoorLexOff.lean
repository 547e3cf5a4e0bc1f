/- lex (layer 12): the statements' offset: how many bytes are ahead of a place. -/
import Derived.Test.YthhbhfpdabiclaaDoorLexPlm
namespace Go.Proofs.YthhbhfpdabiclaaDoor.L12
open Go.RowKit Go.Shelf
set_option linter.unusedVariables false
theorem takeWhile_at (p : UInt8 → Bool) : ∀ (l : List UInt8) (j : Nat), j < (l.takeWhile p).length → ∃ b, l[j]? = some b ∧ p b = true
  | [], j, h => by simp at h
  | b :: t, j, h => by
    rw [List.takeWhile_cons] at h
    by_cases hb : p b = true
    · rw [if_pos hb] at h
      cases j with
      | zero => exact ⟨b, rfl, hb⟩
      | succ j => exact takeWhile_at p t j (by simpa using h)
    · rw [if_neg hb] at h; simp at h
theorem takeWhile_end (p : UInt8 → Bool) : ∀ (l : List UInt8), (l.takeWhile p).length < l.length → ∃ b, l[(l.takeWhile p).length]? = some b ∧ p b = false
  | [], h => by simp at h
  | b :: t, h => by
    rw [List.takeWhile_cons] at h ⊢
    by_cases hb : p b = true
    · rw [if_pos hb] at h ⊢
      exact takeWhile_end p t (by simpa using h)
    · rw [if_neg hb]
      exact ⟨b, rfl, by simpa using hb⟩
/-- A line's bytes, and the one that ends it. -/
theorem line_at {l : List UInt8} {o : Nat} (h : o + toNl (l.drop o) < l.length) : (∀ a, o ≤ a → a < o + toNl (l.drop o) → ∃ b, l[a]? = some b ∧ b.toNat ≠ 10) ∧ l[o + toNl (l.drop o)]? = some 10 := by
  have e : ∀ k, (l.drop o)[k]? = l[o + k]? := fun k => List.getElem?_drop
  constructor
  · intro a h1 h2
    obtain ⟨b, hb, hn⟩ := takeWhile_at (· != 10) (l.drop o) (a - o) (by unfold toNl at h2; omega)
    rw [e, show o + (a - o) = a by omega] at hb
    refine ⟨b, hb, fun h => ?_⟩
    have : b = 10 := UInt8.toNat_inj.1 h
    subst this
    simp at hn
  · obtain ⟨b, hb, hn⟩ := takeWhile_end (· != 10) (l.drop o) (by unfold toNl at h; rw [List.length_drop]; omega)
    rw [e] at hb
    have : b = 10 := by simpa using hn
    subst this
    exact hb
theorem offL_ge (s : List UInt8) : ∀ k, k ≤ offL s k
  | 0 => Nat.le_refl _
  | k + 1 => by have := offL_ge s k; show k + 1 ≤ offL s k + toNl (s.drop (offL s k)) + 1; omega
set_option maxRecDepth 100000 in
set_option maxHeartbeats 4000000 in
theorem offset_at (l : List UInt8) (hl : l.length ≤ 65536) (n c : Nat) (hn : 1 ≤ n) (hc : 1 ≤ c) (hp : offL l (n - 1) + (c - 1) ≤ l.length) (w : World) : Calls Tryd.prog 9 #[.string (St l), .agg #[.int .i64 (n : Nat), .int .i64 (c : Nat)]] w fun e w' => e = .returned (.tuple #[.int .i64 ((offL l (n - 1) + (c - 1) : Nat) : Int), .bool true]) ∧ Below w.heap.size w w' := by
  have hz : (St l).size = l.length := rfl
  have HX : Hid (∀ i (h : i < (St l).size), l[i]? = some ((St l)[i]'h)) := fun i h => List.getElem?_eq_getElem h
  have HL : Hid (∀ k, k < n - 1 → (∀ a, offL l k ≤ a → a < offL l k + toNl (l.drop (offL l k)) → ∃ b, l[a]? = some b ∧ b.toNat ≠ 10) ∧ l[offL l k + toNl (l.drop (offL l k))]? = some 10 ∧ offL l (k + 1) = offL l k + toNl (l.drop (offL l k)) + 1 ∧ offL l k + toNl (l.drop (offL l k)) < l.length) := fun k hk => by
    have h1 := offL_lt (s := l) hk
    have h2 : offL l k + toNl (l.drop (offL l k)) < l.length := by omega
    obtain ⟨a1, a2⟩ := line_at h2
    exact ⟨a1, a2, rfl, h2⟩
  have hge := offL_ge l (n - 1)
  have HZ := Lib.hid hz
  have hsz : (St l).size ≤ 65536 := by omega
  have hE : Hid (offL l (n - 1) + (c - 1) ≤ (St l).size) := by unfold Hid; omega
  have hn2 : n ≤ 65537 := by omega
  have hc2 : c ≤ 65537 := by omega
  generalize St l = s at HX HZ hE hsz
  clear hz hl hge hp
  go_enter Tryd.func9, Tryd.ntmps9
  go_wp2_with fail
  have c0 := World.alloc_heap_new w (.cells #[.int .i64 (n : Nat), .int .i64 (c : Nat)] 25)
  have B0 : Below w.heap.size w (w.alloc (.cells #[.int .i64 (n : Nat), .int .i64 (c : Nat)] 25)) := (Below.refl _ _).alloc (Nat.le_refl _) _
  generalize hV : w.alloc (.cells #[.int .i64 (n : Nat), .int .i64 (c : Nat)] 25) = V at c0 B0 ⊢
  clear hV
  have e0 : V.cell? ⟨w.heap.size, 0, none⟩ = some (.int .i64 (n : Nat)) := (cell_of_row _ _ _ _ _ _ c0).trans rfl
  have e1 : V.cell? ⟨w.heap.size, 1, none⟩ = some (.int .i64 (c : Nat)) := (cell_of_row _ _ _ _ _ _ c0).trans rfl
  go_loopw [6, 7] (fun x y wr => ∃ k o : Nat, k ≤ n - 1 ∧ x = .int .i64 (o : Nat) ∧ y = .int .i64 ((k + 1 : Nat) : Int) ∧ Hid (o = offL l k) ∧ wr = V) (fun _ y _ => ((n : Int) - intOf y).toNat)
  case atStart => exact ⟨0, 0, Nat.zero_le _, rfl, rfl, rfl, rfl⟩
  case round =>
    obtain ⟨k, o, hk, rfl, rfl, ho, rfl⟩ := hrel
    generalize wr = V at *
    by_cases hlt : k < n - 1
    · obtain ⟨a1, a2, a3, a4⟩ := HL.out k hlt
      rw [← ho.out] at a1 a2 a3 a4
      generalize he : o + toNl (l.drop o) = e at a1 a2 a3 a4
      have h1 : ((k : Int) + 1 < n) := by omega
      have hoe : o ≤ e := by omega
      have A1 : Hid (∀ a, o ≤ a → a < e → ∃ b, l[a]? = some b ∧ b.toNat ≠ 10) := a1
      have A2 : Hid (l[e]? = some 10) := a2
      have A3 : Hid (offL l (k + 1) = e + 1) := a3
      have A4 : Hid (e < s.size) := by unfold Hid; rw [HZ.out]; exact a4
      clear a1 a2 a3 a4 he
      go_wp2_with fail
      go_loopw [6] (fun x wi => ∃ a : Nat, o ≤ a ∧ a ≤ e ∧ x = .int .i64 (a : Nat) ∧ wi = V) (fun x _ => ((e : Int) - intOf x).toNat)
      case atStart => exact ⟨o, Nat.le_refl _, hoe, rfl, rfl⟩
      case round =>
        obtain ⟨a, ha1, ha2, rfl, rfl⟩ := hrel
        have A5 := A4.out
        have hlt2 : a < s.size := by omega
        have hlt3 : (a : Int) < (s.size : Int) := by omega
        clear A5
        obtain ⟨b, hb⟩ : ∃ b, s[a]'hlt2 = b := ⟨_, rfl⟩
        have HB : Hid (l[a]? = some b) := by have := HX.out a hlt2; rw [hb] at this; exact this
        by_cases hae : a < e
        · obtain ⟨b', hb', hn⟩ := A1.out a ha1 hae
          have : b' = b := Option.some.inj (hb'.symm.trans HB.out)
          subst this
          have hn1 : (((b'.toNat : Nat) : Int) == 10) = false := by rw [beq_eq_false_iff_ne]; omega
          have hn2 : ¬ ((b'.toNat : Nat) : Int) = 10 := by omega
          clear hn hb'
          go_wp2_with fail
          go_roundw
          case rel => exact ⟨a + 1, by omega, by omega, by simp, (by first | rfl | trivial)⟩
          case measure => simp [intOf]; omega
        · have hae : e = a := by omega
          have : b = 10 := by have := A2.out; rw [hae, HB.out] at this; exact Option.some.inj this
          subst this
          go_wp2_with fail
          go_roundw
          case rel => exact ⟨k + 1, e + 1, by omega, by rw [hae]; simp, by simp, A3.out.symm, (by first | rfl | trivial)⟩
          case measure => simp [intOf]; omega
    · have h1 : ¬ ((k : Int) + 1 < n) := by omega
      have hk2 : k = n - 1 := by omega
      have HO : Hid (o = offL l (n - 1)) := by unfold Hid; rw [← hk2]; exact ho
      have hoc : o + (c - 1) ≤ s.size := by rw [HO.out]; exact hE.out
      have h3 : (0 : Int) < n := by omega
      have h4 : (0 : Int) < c := by omega
      have h5 : (o : Int) + c - 1 ≤ s.size := by omega
      clear ho hk2 hoc
      go_wp2_with fail
      refine bodyPost_ret (v := .tuple #[.int .i64 ((o : Int) + c - 1), .bool true]) (by simp [results, Tryd.results9, go_sem]) rfl ⟨?_, B0⟩
      rw [← HO.out, show (o : Int) + ((c - 1 : Nat) : Int) = (o : Int) + c - 1 by omega]
end Go.Proofs.YthhbhfpdabiclaaDoor.L12
