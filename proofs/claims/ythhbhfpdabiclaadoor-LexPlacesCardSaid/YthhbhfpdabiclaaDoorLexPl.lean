/- lex (layer 12): LexPlaces' walk. -/
import Derived.Test.YthhbhfpdabiclaaDoorLexOff
import Derived.Test.YthhbhfpdabiclaaDoorLexHead
import Derived.BigQuiet
namespace Go.Proofs.YthhbhfpdabiclaaDoor.L12
open Go.RowKit Go.Shelf
set_option linter.unusedVariables false
set_option maxRecDepth 100000 in
set_option maxHeartbeats 4000000 in
theorem places_long (a : ByteArray) (h : 2000 < a.size) (ha : a.size ≤ 9223372036854775807) (w : World) (hT : LT w) : Calls Tryd.prog 4 #[.string a] w fun e w' => e = .returned (.bool true) ∧ Below w.heap.size w w' := by
  have H := Lib.hid (head_at w hT)
  clear hT
  have h1' : (2000 : Int) < a.size := by omega
  clear h
  go_enter Tryd.func4, Tryd.ntmps4
  go_wp2_with fail
  refine H.out.mono ?_; rintro e w1 ⟨rfl, g1⟩
  go_wp2_with fail
  go_ret
  exact ⟨rfl, g1⟩
set_option maxRecDepth 100000 in
set_option maxHeartbeats 4000000 in
theorem places_bad (p q : List UInt8) (hs : (p ++ q).length ≤ 2000) (hq : q ≠ []) (m : List Tok) (n c : Nat) (hx : (lexS (p ++ q)).2 = some (n, c)) (hm : lexS p = (m, none)) (hml : m.length ≤ p.length) (h1 : 1 ≤ n) (h2 : 1 ≤ c) (h3 : offL (p ++ q) (n - 1) + (c - 1) = p.length) (w : World) (hT : LT w) :
    Calls Tryd.prog 4 #[.string (St (p ++ q))] w fun e w' => e = .returned (.bool true) ∧ Below w.heap.size w w' := by
  have HL := fun W hT => Lib.hid (Lex_bad (p ++ q) (by omega) n c hx W hT)
  have hl0 : 0 < q.length := by cases q with | nil => exact absurd rfl hq | cons _ _ => simp
  have hpq : (p ++ q).length = p.length + q.length := List.length_append
  have HP := fun W hT => Lib.hid (Lex_good p (by omega) m m.length rfl hm W hT)
  have HO := fun W => Lib.hid (offset_at (p ++ q) (by omega) n c h1 h2 (by omega) W)
  rw [h3] at HO
  have HT := Lib.hid hT
  have sa : (St (p ++ q)).size = (p ++ q).length := rfl
  have ez : (St (p ++ q)).extract 0 p.length = St p := by rw [← St_of ((St (p ++ q)).extract 0 p.length), Lib.extract_data]; simp
  have hs1 : ¬ (2000 : Int) < ((p ++ q).length : Nat) := by omega
  have hs2 : ¬ ((p ++ q).length : Int) ≤ p.length := by omega
  have hs3 : (m.length : Int) < (p ++ q).length := by omega
  have hs4 : (p.length : Int) ≤ (p ++ q).length := by omega
  have HZ : Hid ((p ++ q).length ≤ 2000) := hs
  clear hT hx hm h3 hq hpq hml
  generalize p ++ q = s at *
  go_enter Tryd.func4, Tryd.ntmps4
  go_wp2_with fail
  refine (HL _ HT.out).out.mono ?_
  rintro e w1 ⟨rfl, g1⟩
  have b1 : Below w.heap.size w (w1.alloc (.cells #[.int .i64 (n : Nat), .int .i64 (c : Nat)] 25)) := g1.alloc g1.size _
  go_wp2_with fail
  refine (HO _).out.mono ?_
  rintro e w2 ⟨rfl, g2⟩
  have b2 := b1.trans (g2.mono b1.size)
  go_wp2_with fail
  refine (HP _ (HT.out.bel b2)).out.mono ?_
  rintro e w3 ⟨⟨pp, cc, rfl, t3⟩, g3⟩
  have b3 := b2.trans (g3.mono b2.size)
  have b4 : Below w.heap.size w (w3.alloc (.cells #[.int .i64 0, .int .i64 0] 25)) := b3.alloc b3.size _
  go_wp2_with fail
  refine (head_at _ (HT.out.bel b4)).mono ?_
  rintro e w4 ⟨rfl, g4⟩
  go_wp2_with fail
  go_ret
  exact ⟨rfl, b4.trans (g4.mono b4.size)⟩
theorem PosOk.len {s : List UInt8} {t : Tok} {a : Nat} (h : PosOk s t a) : a + t.text.length ≤ s.length := by
  have := h.2.2.2.2.length_le
  rw [List.length_drop] at this
  have := h.2.2.2.1
  omega
theorem PosOk.ext {s : List UInt8} {t : Tok} {a : Nat} (h : PosOk s t a) : (St s).extract a (a + t.text.length) = St t.text := by
  rw [← St_of ((St s).extract a (a + t.text.length)), Lib.extract_data]
  congr 1
  obtain ⟨r, hr⟩ := h.2.2.2.2
  rw [St_list, Nat.add_sub_cancel_left, ← hr]
  simp
set_option maxRecDepth 100000 in
set_option maxHeartbeats 4000000 in
theorem places_good (s : List UInt8) (hs : s.length ≤ 2000) (l : List Tok) (hx : lexS s = (l, none)) (hr : Rises s 0 l) (hc : l.length ≤ 4000) (w : World) (hT : LT w) :
    Calls Tryd.prog 4 #[.string (St s)] w fun e w' => e = .returned (.bool true) ∧ Below w.heap.size w w' := by
  have HL := fun W hT => Lib.hid (Lex_good s (by omega) l l.length rfl hx W hT)
  have HO : Hid (∀ (t : Tok) a W, PosOk s t a → Calls Tryd.prog 9 #[.string (St s), .agg #[.int .i64 (t.line : Nat), .int .i64 (t.col : Nat)]] W fun e w' => e = .returned (.tuple #[.int .i64 (a : Nat), .bool true]) ∧ Below W.heap.size W w') := fun t a W h => by
    have := offset_at s (by omega) t.line t.col h.1 h.2.1 (by rw [h.2.2.1]; exact h.2.2.2.1) W
    rw [h.2.2.1] at this
    exact this
  have HT := Lib.hid hT
  have sa : (St s).size = s.length := rfl
  have hs1 : ¬ (2000 : Int) < (s.length : Nat) := by omega
  have HR := Lib.hid hr
  clear hT hx hr
  go_enter Tryd.func4, Tryd.ntmps4
  go_wp2_with fail
  refine (HL _ HT.out).out.mono ?_
  rintro e w1 ⟨⟨p, c, rfl, t1⟩, g1⟩
  have b1 : Below w.heap.size w (w1.alloc (.cells #[.int .i64 0, .int .i64 0] 25)) := g1.alloc g1.size _
  have k1 : Below w1.heap.size w1 (w1.alloc (.cells #[.int .i64 0, .int .i64 0] 25)) := (Below.refl _ _).alloc (Nat.le_refl _) _
  have T1 := Lib.hid (t1.bel k1)
  have c0 := World.alloc_heap_new w1 (.cells #[.int .i64 0, .int .i64 0] 25)
  clear t1
  go_wp2_with fail
  generalize hV : w1.alloc (.cells #[.int .i64 0, .int .i64 0] 25) = V at c0 b1 k1 T1 ⊢
  have e0 : V.cell? ⟨w1.heap.size, 0, none⟩ = some (.int .i64 0) := (cell_of_row _ _ _ _ _ _ c0).trans rfl
  have e1 : V.cell? ⟨w1.heap.size, 1, none⟩ = some (.int .i64 0) := (cell_of_row _ _ _ _ _ _ c0).trans rfl
  have E0 := Lib.hid e0
  have E1 := Lib.hid e1
  have C0 := Lib.hid c0
  clear hV c0 e0 e1 k1
  go_loopw [11, 12] (fun x j wr => ∃ (k i : Nat) (z : Int), k ≤ l.length ∧ j = .int .i64 k ∧ x = .int .i64 z ∧ -1 ≤ z ∧ z < i ∧ Hid (Rises s i (l.drop k)) ∧ Below V.heap.size V wr) (fun _ j _ => ((l.length : Int) - intOf j).toNat)
  case atStart => exact ⟨0, 0, -1, Nat.zero_le _, rfl, rfl, by decide, by decide, HR, Below.refl _ _⟩
  case round =>
    obtain ⟨k, i, z, hk, rfl, rfl, hz1, hz2, hri, hw⟩ := hrel
    by_cases hlt : k < l.length
    · obtain ⟨t, ht⟩ : ∃ t, l[k]? = some t := ⟨_, List.getElem?_eq_getElem hlt⟩
      have hri2 := hri.out
      rw [txt_step ht] at hri2
      obtain ⟨a, hia, hpo, hrest⟩ := hri2
      have HR2 := Lib.hid hrest
      have HPO := Lib.hid hpo
      have hlen := hpo.len
      have hext := hpo.ext
      have hlt' : (k : Int) < l.length := by omega
      clear hri hrest hpo
      obtain ⟨g, rfl, t0, t1, t2, t3, t4⟩ := (T1.out.bel hw) k t ht
      clear ht t0 t2
      go_wp2_with fail
      refine (HO.out t a _ HPO.out).mono ?_
      rintro e w2 ⟨rfl, g2⟩
      have hw2 := hw.trans (g2.mono hw.size)
      have u1 := bel_cell g2 t1
      clear t1 t3 t4 g2
      have d1 : decide ((a : Int) ≤ z) = false := by rw [decide_eq_false_iff_not]; omega
      have st : (St t.text).size = t.text.length := rfl
      have d2 : decide ((s.length : Int) < (a : Int) + (t.text.length : Int)) = false := by rw [decide_eq_false_iff_not]; omega
      have hai : (0 : Int) ≤ a := by omega
      have hal : (a : Int) ≤ (a : Int) + (t.text.length : Int) := by omega
      have had : (a : Int) + (t.text.length : Int) ≤ s.length := by omega
      go_wp2_with fail
      go_quiet (fail)
      go_wp2_with fail
      go_roundw
      case rel => exact ⟨k + 1, a + 1, a, by omega, by simp, rfl, by omega, by omega, HR2, bel_drewN hw2 _⟩
      case measure => simp [intOf]; omega
    · obtain rfl : k = l.length := by omega
      have f0 := bel_cell hw E0.out
      have f1 := bel_cell hw E1.out
      have bw : Below w.heap.size w wr := b1.trans (hw.mono b1.size)
      have H := Lib.hid (head_at _ (HT.out.bel bw))
      go_wp2_with fail
      refine H.out.mono ?_
      rintro e w4 ⟨rfl, g4⟩
      go_wp2_with fail
      go_ret
      exact ⟨rfl, bw.trans (g4.mono bw.size)⟩
theorem places_walk (a : ByteArray) (ha : a.size ≤ 9223372036854775807) (w : World) (hT : LT w) : Calls Tryd.prog 4 #[.string a] w fun e w' => e = .returned (.bool true) ∧ Below w.heap.size w w' := by
  by_cases hl : 2000 < a.size
  · exact places_long a hl ha w hT
  · have h1 : a.data.toList.length ≤ 2000 := by have : a.size = a.data.toList.length := rfl; omega
    rw [← St_of a]
    generalize a.data.toList = s at h1
    clear hl ha
    cases xs : lexS s with
    | mk l e =>
      cases e with
      | none => exact places_good s h1 l xs (lex_rises xs) (by have := lex_count xs; omega) w hT
      | some e =>
        obtain ⟨n, c⟩ := e
        obtain ⟨p, q, m, rfl, hq, hm, hml, e1, e2, e3⟩ := lex_fault xs
        exact places_bad p q h1 hq m n c (by rw [xs]) hm hml e1 e2 e3 w hT
end Go.Proofs.YthhbhfpdabiclaaDoor.L12
