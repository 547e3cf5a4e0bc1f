/- lex (layer 12): LexAgain's walk. -/
import Derived.Test.YthhbhfpdabiclaaDoorLexAgm
import Derived.Test.YthhbhfpdabiclaaDoorLexHead
import Derived.Laws.IdiomStrings
import Derived.BigQuiet
import Derived.Deep.DeepCutAuto
namespace Go.Proofs.YthhbhfpdabiclaaDoor.L12
open Go.RowKit Go.Shelf
set_option linter.unusedVariables false
set_option maxRecDepth 100000 in
set_option maxHeartbeats 4000000 in
theorem again_long (a : ByteArray) (u : Int) (h : 2000 < a.size) (ha : a.size ≤ 9223372036854775807) (w : World) (hT : LT w) : Calls Tryd.prog 3 #[.string a, .int .u8 u] w fun e w' => e = .returned (.bool true) ∧ Below w.heap.size w w' := by
  have H := Lib.hid (head_at w hT)
  clear hT
  have h1' : (2000 : Int) < a.size := by omega
  clear h
  go_enter Tryd.func3, Tryd.ntmps3
  go_wp2_with fail
  refine H.out.mono ?_; rintro e w1 ⟨rfl, g1⟩
  go_wp2_with fail
  go_ret
  exact ⟨rfl, g1⟩
set_option maxRecDepth 100000 in
set_option maxHeartbeats 4000000 in
theorem again_bad (s : List UInt8) (u : Int) (hs : s.length ≤ 2000) (n c : Nat) (hx : (lexS s).2 = some (n, c)) (w : World) (hT : LT w) :
    Calls Tryd.prog 3 #[.string (St s), .int .u8 u] w fun e w' => e = .returned (.bool true) ∧ Below w.heap.size w w' := by
  have HL := fun W hT => Lib.hid (Lex_bad s (by omega) n c hx W hT)
  have HT := Lib.hid hT
  have sa : (St s).size = s.length := rfl
  have hs1 : ¬ (2000 : Int) < (s.length : Nat) := by omega
  clear hT hx
  go_enter Tryd.func3, Tryd.ntmps3
  go_wp2_with fail
  refine (HL _ HT.out).out.mono ?_
  rintro e w1 ⟨rfl, g1⟩
  have b1 : Below w.heap.size w (w1.alloc (.cells #[.int .i64 (n : Nat), .int .i64 (c : Nat)] 25)) := g1.alloc g1.size _
  go_wp2_with fail
  refine (head_at _ (HT.out.bel b1)).mono ?_
  rintro e w4 ⟨rfl, g4⟩
  go_wp2_with fail
  go_ret
  exact ⟨rfl, b1.trans (g4.mono b1.size)⟩
/-- The white that is put. -/
def gapL (u : Nat) : List UInt8 := match u with
  | 0 => [32]
  | 1 => [9]
  | 2 => [13, 32]
  | _ => [32, 32]
theorem gap_ne (u : Nat) : gapL u ≠ [] := by unfold gapL; split <;> simp
theorem gap_white (u : Nat) : ∀ b ∈ gapL u, isW b = true := by unfold gapL; split <;> decide
theorem gap_len (u : Nat) : (gapL u).length ≤ 2 := by unfold gapL; split <;> simp
set_option maxRecDepth 100000 in
set_option maxHeartbeats 4000000 in
theorem again_good (s : List UInt8) (u : Int) (hu0 : 0 ≤ u) (hu1 : u ≤ 255) (g : Nat) (hg : g ≤ 3) (hug : u.tmod 4 = g) (hs : s.length ≤ 2000) (l m d : List Tok) (hx : lexS s = (l, none)) (hm : lexS (txtL l) = (m, none)) (hml : m.map bare = l.map bare) (hd : lexS (moreL (gapL g) s ++ [10, 35]) = (d, none)) (hdl : d.map bare = l.map bare) (hc : l.length ≤ 4000) (ht : (txtL l).length ≤ 6000) (w : World) (hT : LT w) :
    Calls Tryd.prog 3 #[.string (St s), .int .u8 u] w fun e w' => e = .returned (.bool true) ∧ Below w.heap.size w w' := by
  have HL := fun W hT => Lib.hid (Lex_good s (by omega) l l.length rfl hx W hT)
  have HM := fun W hT => Lib.hid (Lex_good (txtL l) (by omega) m m.length rfl hm W hT)
  have hml2 : m.length = l.length := by have := congrArg List.length hml; simpa using this
  have hdl2 : d.length = l.length := by have := congrArg List.length hdl; simpa using this
  have HT := Lib.hid hT
  have HTX : Hid (∀ p c W, TokAt W p l → Calls Tryd.prog 7 #[.slice p l.length c] W fun e w' => e = .returned (.string (St (txtL l))) ∧ Below W.heap.size W w') := fun p c W h => Text_at l (by omega) (by omega) p c W h
  have HA1 : Hid (∀ p c q d' W, TokAt W p l → TokAt W q m → Calls Tryd.prog 8 #[.slice p l.length c, .slice q m.length d'] W fun e w' => e = .returned (.bool true) ∧ Below W.heap.size W w') := fun p c q d' W h h' => Alike_yes l m hml.symm (by omega) p q c d' W h h'
  have HA2 : Hid (∀ p c q d' W, TokAt W p l → TokAt W q d → Calls Tryd.prog 8 #[.slice p l.length c, .slice q d.length d'] W fun e w' => e = .returned (.bool true) ∧ Below W.heap.size W w') := fun p c q d' W h h' => Alike_yes l d hdl.symm (by omega) p q c d' W h h'
  have sa : (St s).size = s.length := rfl
  have hs1 : ¬ (2000 : Int) < (s.length : Nat) := by omega
  clear hT hx hm ht hml2 hdl2 hml hdl
  go_enter Tryd.func3, Tryd.ntmps3
  go_wp2_with fail
  refine (HL _ HT.out).out.mono ?_
  rintro e w1 ⟨⟨p1, c1, rfl, t1⟩, g1⟩
  have b1 : Below w.heap.size w (w1.alloc (.cells #[.int .i64 0, .int .i64 0] 25)) := g1.alloc g1.size _
  have k1 : Below w1.heap.size w1 (w1.alloc (.cells #[.int .i64 0, .int .i64 0] 25)) := (Below.refl _ _).alloc (Nat.le_refl _) _
  have T1 := Lib.hid (t1.bel k1)
  clear t1
  go_wp2_with fail
  generalize hV1 : w1.alloc (.cells #[.int .i64 0, .int .i64 0] 25) = V1 at b1 k1 T1 ⊢
  clear hV1 k1 g1
  refine (HTX.out p1 c1 _ T1.out).mono ?_
  rintro e w2 ⟨rfl, g2⟩
  have b2 := b1.trans (g2.mono b1.size)
  go_wp2_with fail
  refine (HM _ (HT.out.bel b2)).out.mono ?_
  rintro e w3 ⟨⟨p3, c3, rfl, t3⟩, g3⟩
  have b3 := b2.trans (g3.mono b2.size)
  have b4 : Below w.heap.size w (w3.alloc (.cells #[.int .i64 0, .int .i64 0] 25)) := b3.alloc b3.size _
  have k3 : Below w3.heap.size w3 (w3.alloc (.cells #[.int .i64 0, .int .i64 0] 25)) := (Below.refl _ _).alloc (Nat.le_refl _) _
  have T3 := Lib.hid (t3.bel k3)
  have T1c := Lib.hid ((T1.out.bel g2).bel (g3.trans (k3.mono g3.size)))
  clear t3 T1
  go_upto_region 8 with (fail)
  have b5 : Below w.heap.size w ((w3.alloc (.cells #[.int .i64 0, .int .i64 0] 25)).alloc (.cells #[.string ⟨#[32]⟩, .string ⟨#[9]⟩, .string ⟨#[13, 32]⟩, .string ⟨#[32, 32]⟩] 9)) := b4.alloc b4.size _
  have k5 : Below (w3.alloc (.cells #[.int .i64 0, .int .i64 0] 25)).heap.size (w3.alloc (.cells #[.int .i64 0, .int .i64 0] 25)) ((w3.alloc (.cells #[.int .i64 0, .int .i64 0] 25)).alloc (.cells #[.string ⟨#[32]⟩, .string ⟨#[9]⟩, .string ⟨#[13, 32]⟩, .string ⟨#[32, 32]⟩] 9)) := (Below.refl _ _).alloc (Nat.le_refl _) _
  have r5 : ((w3.alloc (.cells #[.int .i64 0, .int .i64 0] 25)).alloc (.cells #[.string ⟨#[32]⟩, .string ⟨#[9]⟩, .string ⟨#[13, 32]⟩, .string ⟨#[32, 32]⟩] 9)).heap[w3.heap.size + 1]? = some (.cells #[.string ⟨#[32]⟩, .string ⟨#[9]⟩, .string ⟨#[13, 32]⟩, .string ⟨#[32, 32]⟩] 9 (0, 0)) := row_born (by simp)
  have T3c := Lib.hid (T3.out.bel k5)
  have T1d := Lib.hid (T1c.out.bel k5)
  generalize hV4 : (w3.alloc (.cells #[.int .i64 0, .int .i64 0] 25)).alloc (.cells #[.string ⟨#[32]⟩, .string ⟨#[9]⟩, .string ⟨#[13, 32]⟩, .string ⟨#[32, 32]⟩] 9) = V4 at b5 r5 T3c T1d ⊢
  have cg : Hid (V4.cell? ⟨w3.heap.size + 1, g, none⟩ = some (.string (St (gapL g)))) := by
    unfold Hid
    rw [cell_of_row _ _ _ _ _ _ r5]
    rcases (by omega : g = 0 ∨ g = 1 ∨ g = 2 ∨ g = 3) with rfl | rfl | rfl | rfl <;> rfl
  have hgs : (St (gapL g)).size ≤ 2 := gap_len g
  have hgw := gap_white g
  have hM : Hid (∀ x y : List UInt8, St x ++ St y = St (x ++ y)) := fun x y => by
    rw [← St_of (St x ++ St y)]
    congr 1
  have hB : Hid (∀ x, (moreL (gapL g) x).length ≤ 20 + 12 * x.length) := fun x => by
    unfold moreL
    have hgl := gap_len g
    have : ∀ x : List UInt8, (x.flatMap (putW (gapL g))).length ≤ 12 * x.length := fun x => by
      induction x with
      | nil => simp
      | cons b x ih =>
        rw [List.flatMap_cons, List.length_append, List.length_cons]
        have : (putW (gapL g) b).length ≤ 12 := by
          unfold putW
          split
          · simp only [List.length_append, List.length_cons, List.length_nil]; omega
          · split
            · omega
            · simp
        omega
    have := this x
    simp only [List.length_append, List.length_cons, List.length_nil]
    omega
  have h0 : Hid (((⟨#[35, 32, 120, 10]⟩ : ByteArray) ++ St (gapL g)) ++ ⟨#[10]⟩ = St (moreL (gapL g) (s.take 0))) := by
    unfold Hid
    rw [show (⟨#[35, 32, 120, 10]⟩ : ByteArray) = St [35, 32, 120, 10] from rfl, show (⟨#[10]⟩ : ByteArray) = St [10] from rfl, hM.out, hM.out]
    simp [moreL]
  have hu2 : (g : Int) < 4 := by omega
  have hS : Hid (∀ (k : Nat) (b : UInt8), s[k]? = some b → moreL (gapL g) (s.take (k + 1)) = moreL (gapL g) (s.take k) ++ putW (gapL g) b) := fun k b hb => by
    unfold moreL
    rw [List.take_add_one, hb]
    simp
  have HX : Hid (∀ i (h : i < (St s).size), s[i]? = some ((St s)[i]'h)) := fun i h => List.getElem?_eq_getElem h
  generalize hG : St (gapL g) = G at cg hgs h0
  generalize hSt : St s = S at sa HX ⊢
  have HG := Lib.hid hG
  clear hG hSt hV4 r5 b4 k3 k5 T3 T1c g3 g2 b1 b2 b3
  have SZ := Lib.hid sa
  have hsz : S.size ≤ 2000 := by omega
  have cg0 := cg.out
  go_wp2_with fail
  clear cg0
  go_loopw [12, 13] (fun x j wr => ∃ k : Nat, k ≤ S.size ∧ j = .int .i64 k ∧ Hid (x = .string (St (moreL (gapL g) (s.take k)))) ∧ Below V4.heap.size V4 wr) (fun _ j _ => ((S.size : Int) - intOf j).toNat)
  case atStart => exact ⟨0, Nat.zero_le _, rfl, by unfold Hid; rw [← h0.out], Below.refl _ _⟩
  case round =>
    obtain ⟨k, hk, rfl, hx, hw⟩ := hrel
    by_cases hlt : k < S.size
    · have hlt' : (k : Int) < (S.size : Int) := by omega
      obtain ⟨b, hb⟩ : ∃ b, S[k]'hlt = b := ⟨_, rfl⟩
      have HB : s[k]? = some b := by have := HX.out k hlt; rw [hb] at this; exact this
      have HS := Lib.hid (hS.out k b HB)
      have c1 := bel_cell hw cg.out
      have hMs : (St (moreL (gapL g) (s.take k))).size ≤ 30000 := by
        have := hB.out (s.take k)
        rw [List.length_take] at this
        rw [St_size]; omega
      have w5 : Below V4.heap.size V4 (wr.alloc (.cells #[.int .u8 b.toNat] 5)) := hw.alloc hw.size _
      have c5 : (wr.alloc (.cells #[.int .u8 b.toNat] 5)).cell? ⟨w3.heap.size + 1, g, none⟩ = some (.string G) := bel_cell w5 cg.out
      have cv : (convert 31 9 (.slice (some ⟨wr.heap.size, 0, none⟩) 1 1)).run Tryd.prog (wr.alloc (.cells #[.int .u8 b.toNat] 5)) = .ok (.string ⟨#[b]⟩) (wr.alloc (.cells #[.int .u8 b.toNat] 5)) :=
        run_convert_bytes_back _ _ _ 5 ⟨wr.heap.size, 0, none⟩ 1 [b] Tryd.underlying31 Tryd.underlying5 Tryd.underlying9 (fun j hj => by
          obtain rfl : j = 0 := by simpa using hj
          exact (show (wr.alloc (.cells #[.int .u8 b.toNat] 5)).cell? ⟨wr.heap.size, 0, none⟩ = _ from (cell_of_row _ _ _ _ _ _ (heap_alloc_last _ _)).trans rfl))
      obtain ⟨x, hx2⟩ : ∃ x, x = St (moreL (gapL g) (s.take k)) := ⟨_, rfl⟩
      rw [← hx2] at hMs
      have HXX := Lib.hid hx2
      obtain rfl : _ = Value.string x := hx.out.trans (by rw [← hx2])
      clear hx hx2 HB hw
      by_cases h10 : b = 10
      · subst h10
        have cv2 : (convert 31 9 (.slice (some ⟨wr.heap.size, 0, none⟩) 1 1)).run Tryd.prog (wr.alloc (.cells #[.int .u8 10] 5)) = .ok (.string ⟨#[10]⟩) (wr.alloc (.cells #[.int .u8 10] 5)) := cv
        have c6 : (wr.alloc (.cells #[.int .u8 10] 5)).cell? ⟨w3.heap.size + 1, g, none⟩ = some (.string G) := c5
        clear cv c5
        have HN : Hid ((x ++ G) ++ ⟨#[10, 10, 32, 35, 32, 123, 32, 63, 10]⟩ = St (moreL (gapL g) (s.take (k + 1)))) := by
          unfold Hid
          rw [HS.out, ← HG.out, HXX.out, show (⟨#[10, 10, 32, 35, 32, 123, 32, 63, 10]⟩ : ByteArray) = St [10, 10, 32, 35, 32, 123, 32, 63, 10] from rfl, hM.out, hM.out, List.append_assoc]
          rfl
        go_wp2_with fail
        go_roundw
        case rel => exact ⟨k + 1, by omega, by simp, by unfold Hid; rw [← HN.out], w5⟩
        case measure => simp [intOf]; omega
      · by_cases h32 : b = 32
        · subst h32
          have cv2 : (convert 31 9 (.slice (some ⟨wr.heap.size, 0, none⟩) 1 1)).run Tryd.prog (wr.alloc (.cells #[.int .u8 32] 5)) = .ok (.string ⟨#[32]⟩) (wr.alloc (.cells #[.int .u8 32] 5)) := cv
          have c6 : (wr.alloc (.cells #[.int .u8 32] 5)).cell? ⟨w3.heap.size + 1, g, none⟩ = some (.string G) := c5
          clear cv c5
          have HN : Hid (x ++ G = St (moreL (gapL g) (s.take (k + 1)))) := by
            unfold Hid
            rw [HS.out, ← HG.out, HXX.out, hM.out]
            rfl
          go_wp2_with fail
          go_roundw
          case rel => exact ⟨k + 1, by omega, by simp, by unfold Hid; rw [← HN.out], w5⟩
          case measure => simp [intOf]; omega
        · have HN : Hid (x ++ ⟨#[b]⟩ = St (moreL (gapL g) (s.take (k + 1)))) := by
            unfold Hid
            rw [HS.out, HXX.out, show (⟨#[b]⟩ : ByteArray) = St [b] from rfl, hM.out, show putW (gapL g) b = [b] by unfold putW; rw [if_neg h10, if_neg h32]]
          have e10 : ((⟨#[b]⟩ : ByteArray).toList == [10]) = false := by
            rw [show (⟨#[b]⟩ : ByteArray).toList = [b] from St_toList [b]]
            simpa using h10
          have e32 : ((⟨#[b]⟩ : ByteArray).toList == [32]) = false := by
            rw [show (⟨#[b]⟩ : ByteArray).toList = [b] from St_toList [b]]
            simpa using h32
          have e1 : (⟨#[b]⟩ : ByteArray).size = 1 := rfl
          generalize (⟨#[b]⟩ : ByteArray) = y at HN e10 e32 e1 cv
          clear h10 h32
          go_wp2_with fail
          go_roundw
          case rel => exact ⟨k + 1, by omega, by simp, by unfold Hid; rw [← HN.out], w5⟩
          case measure => simp [intOf]; omega
    · obtain rfl : k = S.size := by omega
      have hfull : s.take S.size = s := by rw [SZ.out, List.take_length]
      rw [hfull] at hx
      have hMs : (St (moreL (gapL g) s)).size ≤ 30000 := by
        have := hB.out s
        rw [St_size]; omega
      have HD := fun W hT => Lib.hid (Lex_good (moreL (gapL g) s ++ [10, 35]) (by have := hB.out s; simp only [List.length_append, List.length_cons, List.length_nil]; omega) d d.length rfl hd W hT)
      have HN : Hid (St (moreL (gapL g) s) ++ ⟨#[10, 35]⟩ = St (moreL (gapL g) s ++ [10, 35])) := hM.out _ _
      obtain rfl := hx.out
      clear hx hd hfull
      generalize St (moreL (gapL g) s ++ [10, 35]) = y at HD HN
      generalize St (moreL (gapL g) s) = x at hMs HN ⊢
      have bw : Below w.heap.size w wr := b5.trans (hw.mono b5.size)
      have cat := HN.out
      go_wp2_with fail
      refine (HD _ (HT.out.bel bw)).out.mono ?_
      rintro e w6 ⟨⟨p6, c6, rfl, t6⟩, g6⟩
      have b6 := bw.trans (g6.mono bw.size)
      have b7 : Below w.heap.size w (w6.alloc (.cells #[.int .i64 0, .int .i64 0] 25)) := b6.alloc b6.size _
      have k7 : Below w6.heap.size w6 (w6.alloc (.cells #[.int .i64 0, .int .i64 0] 25)) := (Below.refl _ _).alloc (Nat.le_refl _) _
      have K7 : Below V4.heap.size V4 (w6.alloc (.cells #[.int .i64 0, .int .i64 0] 25)) := hw.trans ((g6.trans (k7.mono g6.size)).mono hw.size)
      have T6 := Lib.hid (t6.bel k7)
      have T3e := Lib.hid (T3c.out.bel K7)
      have T1e := Lib.hid (T1d.out.bel K7)
      clear t6 g6 k7 K7 b6 cat hw
      go_wp2_with fail
      generalize hV6 : w6.alloc (.cells #[.int .i64 0, .int .i64 0] 25) = V6 at b7 T6 T3e T1e ⊢
      clear hV6
      refine (HA1.out p1 c1 p3 c3 _ T1e.out T3e.out).mono ?_
      rintro e w8 ⟨rfl, g8⟩
      have b8 := b7.trans (g8.mono b7.size)
      have T1f := Lib.hid (T1e.out.bel g8)
      have T6f := Lib.hid (T6.out.bel g8)
      go_wp2_with fail
      refine (HA2.out p1 c1 p6 c6 _ T1f.out T6f.out).mono ?_
      rintro e w9 ⟨rfl, g9⟩
      have b9 := b8.trans (g9.mono b8.size)
      have H := Lib.hid (head_at _ (HT.out.bel b9))
      go_wp2_with fail
      refine H.out.mono ?_
      rintro e w10 ⟨rfl, g10⟩
      go_wp2_with fail
      go_ret
      exact ⟨rfl, b9.trans (g10.mono b9.size)⟩
theorem u8_b {n : Int} (h : (Lit.int .u8 n).wf = true) : 0 ≤ n ∧ n ≤ 255 := by
  simp only [Lit.wf, Bool.and_eq_true, decide_eq_true_eq] at h
  simp [IntKind.min, IntKind.max, IntKind.bits, IntKind.signed] at h
  omega
theorem again_walk (a : ByteArray) (u : Int) (ha : a.size ≤ 9223372036854775807) (hu0 : 0 ≤ u) (hu1 : u ≤ 255) (w : World) (hT : LT w) : Calls Tryd.prog 3 #[.string a, .int .u8 u] w fun e w' => e = .returned (.bool true) ∧ Below w.heap.size w w' := by
  by_cases hl : 2000 < a.size
  · exact again_long a u hl ha w hT
  · have h1 : a.data.toList.length ≤ 2000 := by have : a.size = a.data.toList.length := rfl; omega
    rw [← St_of a]
    generalize a.data.toList = s at h1
    clear hl ha
    cases xs : lexS s with
    | mk l e =>
      cases e with
      | none =>
        obtain ⟨m, hm, hml⟩ := lex_again xs
        obtain ⟨d, hd, hdl⟩ := lex_more (gap_ne (u.toNat % 4)) (gap_white (u.toNat % 4)) xs
        have hc := lex_count xs
        have ht := txt_size xs
        have hug : u.tmod 4 = (u.toNat % 4 : Nat) := by
          rw [Int.tmod_eq_emod_of_nonneg hu0]; omega
        exact again_good s u hu0 hu1 (u.toNat % 4) (by omega) hug h1 l m d xs hm hml hd hdl (by omega) (by omega) w hT
      | some e =>
        obtain ⟨n, c⟩ := e
        exact again_bad s u h1 n c (by rw [xs]) w hT
end Go.Proofs.YthhbhfpdabiclaaDoor.L12
