/- lex (layer 12): a word's token. -/
import Derived.Test.YthhbhfpdabiclaaGreatDoorLexTk
import Derived.Deep.RegionHeld3
import Derived.Laws.EntriesVeiled
namespace Go.Proofs.YthhbhfpdabiclaaGreatDoor.L12
open Go.RowKit Go.Shelf
set_option linter.unusedVariables false
/-- The first row from j on that matches. -/
def tokFrom (l : List UInt8) : Nat → Nat → Option (Nat × List UInt8 × Nat)
  | _, 0 => none
  | j, k + 1 => match readR l j with
    | some n => some (kindR j, Lib.trimSuffix l [58], n)
    | none => tokFrom l (j + 1) k
theorem noColon {l : List UInt8} (h : ∀ b ∈ l, b ≠ 58) : Lib.trimSuffix l [58] = l := by
  rcases suffix_cases l 58 with ⟨a, h1, _, _⟩ | ⟨_, h3, _⟩
  · exact absurd rfl (h 58 (by rw [h1]; simp))
  · exact h3
theorem dec_bytes (u : Nat) : ∀ b ∈ Lib.decDigits u, isD b = true := fun b hb => by
  obtain ⟨k, hk⟩ := List.mem_iff_getElem?.1 hb
  obtain ⟨d, hd⟩ := Lib.digit_of_decFrom _ 0 u (decFrom_dec u) k b hk
  obtain ⟨h1, h2, _⟩ := Lib.digitVal_eq hd
  exact decide_eq_true ⟨h1, h2⟩
theorem isD_ne {b : UInt8} (h : isD b = true) : b ≠ 58 := fun e => by subst e; cases h
theorem reg_colon {l : List UInt8} {n : Nat} (h : regL l = some n) : ∀ b ∈ l, b ≠ 58 := by
  unfold regL at h
  split at h
  · cases h
  · split at h
    · rename_i c t hc
      obtain ⟨_, _, hd⟩ := numL_bounds h
      intro b hb
      rcases List.mem_cons.1 hb with rfl | hb
      · rw [hc]; decide
      · rw [← hd] at hb
        exact isD_ne (dec_bytes _ b hb)
    · cases h
theorem number_colon {l : List UInt8} {n : Nat} (h : numberL l = some n) : ∀ b ∈ l, b ≠ 58 := by
  unfold numberL at h
  split at h
  · cases h
  · rename_i c t
    split at h
    · rename_i hc
      obtain ⟨u, hu, _⟩ := Option.map_eq_some_iff.1 h
      obtain ⟨_, _, hd⟩ := numL_bounds hu
      intro b hb
      rcases List.mem_cons.1 hb with rfl | hb
      · rw [hc]; decide
      · rw [← hd] at hb
        exact isD_ne (dec_bytes _ b hb)
    · obtain ⟨_, _, hd⟩ := numL_bounds h
      intro b hb
      rw [← hd] at hb
      exact isD_ne (dec_bytes _ b hb)
theorem name_bytes {l : List UInt8} (h : nameL l = true) : ∀ b ∈ l, isL b = true ∨ isD b = true := by
  cases l with
  | nil => intro b hb; cases hb
  | cons c t =>
    rw [nameL_is] at h
    simp only [Bool.and_eq_true] at h
    intro b hb
    have := List.all_eq_true.1 h.2 b hb
    simpa using this
theorem isL_ne {b : UInt8} (h : isL b = true) : b ≠ 58 := fun e => by subst e; cases h
theorem name_colon {l : List UInt8} (h : nameL l = true) : ∀ b ∈ l, b ≠ 58 := fun b hb => (name_bytes h b hb).elim isL_ne isD_ne
theorem tokFrom_is (l : List UInt8) : tokFrom l 0 6 = tokW l := by
  unfold tokW
  simp only [tokFrom, readR, kindR]
  by_cases h0 : l = [123]
  · subst h0; rfl
  · rw [if_neg h0, if_neg h0]
    by_cases h1 : l = [125]
    · subst h1; rfl
    · rw [if_neg h1, if_neg h1]
      simp only
      cases hr : regL l with
      | some n => simp only; rw [noColon (reg_colon hr)]
      | none =>
        simp only
        cases hn : numberL l with
        | some n => simp only; rw [noColon (number_colon hn)]
        | none =>
          simp only
          rcases suffix_cases l 58 with ⟨a, h1, h2, h3⟩ | ⟨h2, h3, h4⟩
          · unfold labL
            have e : l.take (l.length - 1) = a := by rw [h1]; simp
            rw [h2, e, h3]
            have hno : nameL l = false := by
              cases hh : nameL l with
              | false => rfl
              | true => exact absurd rfl (name_colon hh 58 (by rw [h1]; simp))
            cases hq : nameL a <;> simp [hno]
          · unfold labL
            rw [h2, h3]
            cases hq : nameL l <;> simp
/-- A token as cells. -/
def tokA (k : Nat) (x : List UInt8) (n : Nat) (line col : Int) : Value := .agg #[.int .u8 (k : Int), .string (St x), .int .u32 (n : Int), .int .i64 line, .int .i64 col]
def tokR (o : Option (Nat × List UInt8 × Nat)) : Value := match o with
  | some (k, x, n) => .tuple #[tokA k x n 0 0, .bool true]
  | none => .tuple #[tokA 0 [] 0 0 0, .bool false]
theorem read_any (l : List UInt8) (hl : l.length ≤ 65536) (w : World) (hT : LT w) : ∀ j, j < 6 → Calls Tryz.prog (fnR j) #[.string (St l)] w fun e w' => e = .returned (optV (readR l j)) ∧ Below w.heap.size w w' := fun j hj => by
  rcases (by omega : j = 0 ∨ j = 1 ∨ j = 2 ∨ j = 3 ∨ j = 4 ∨ j = 5) with rfl | rfl | rfl | rfl | rfl | rfl
  · exact open_at l w
  · exact close_at l w
  · exact register_at l hl w hT
  · exact number_at l hl w hT
  · exact label_at l hl w
  · exact name_at l hl w
theorem trim_le (l : List UInt8) : (Lib.trimSuffix l [58]).length ≤ l.length := Lib.trimSuffix_le l [58]
/-- A row, copied into a block of its own. -/
theorem row_copy (wr : World) (K : Int) (F : Nat) :
    (wr.alloc (.cells #[.int .u8 K, .func (.func F) #[] #[]] 60)).cell? ⟨wr.heap.size, 0, none⟩ = some (.int .u8 K)
    ∧ (wr.alloc (.cells #[.int .u8 K, .func (.func F) #[] #[]] 60)).cell? ⟨wr.heap.size, 1, none⟩ = some (.func (.func F) #[] #[])
    ∧ Below wr.heap.size wr (wr.alloc (.cells #[.int .u8 K, .func (.func F) #[] #[]] 60)) := by
  have h := heap_alloc_last wr (.cells #[.int .u8 K, .func (.func F) #[] #[]] 60)
  exact ⟨row_cell h rfl, row_cell h rfl, (Below.refl _ _).alloc (Nat.le_refl _) _⟩
/-- A token, written whole. -/
def tok5 (w : World) (b : Nat) (k : Int) (s : ByteArray) (n x y : Int) : World :=
  ((((w.setCell ⟨b, 0, none⟩ (.int .u8 k)).setCell ⟨b, 1, none⟩ (.string s)).setCell ⟨b, 2, none⟩ (.int .u32 n)).setCell ⟨b, 3, none⟩ (.int .i64 x)).setCell ⟨b, 4, none⟩ (.int .i64 y)
theorem tok5_heap {w : World} {b : Nat} {v0 v1 v2 v3 v4 : Value} (h : w.heap[b]? = some (.cells #[v0, v1, v2, v3, v4] 37 (0, 0))) (k : Int) (s : ByteArray) (n x y : Int) :
    (tok5 w b k s n x y).heap[b]? = some (.cells #[.int .u8 k, .string s, .int .u32 n, .int .i64 x, .int .i64 y] 37 (0, 0)) :=
  heap_setCell_same _ b 4 _ _ _ (heap_setCell_same _ b 3 _ _ _ (heap_setCell_same _ b 2 _ _ _ (heap_setCell_same _ b 1 _ _ _ (heap_setCell_same _ b 0 _ _ _ h))))
theorem tok5_below {a w : World} {B b : Nat} (h : Below B a w) (hb : B ≤ b) (k : Int) (s : ByteArray) (n x y : Int) : Below B a (tok5 w b k s n x y) :=
  ((((h.setCell (p := ⟨b, 0, none⟩) hb _).setCell (p := ⟨b, 1, none⟩) hb _).setCell (p := ⟨b, 2, none⟩) hb _).setCell (p := ⟨b, 3, none⟩) hb _).setCell (p := ⟨b, 4, none⟩) hb _
theorem token_ret {tmps : Array Value} {w : World} {b : Nat} {k n x y : Int} {s : ByteArray} {v : Value} (hp : tmps.getD 4 undef = .pointer (some ⟨b, 0, none⟩)) (hv : tmps.getD 5 undef = v)
    (h : w.heap[b]? = some (.cells #[.int .u8 k, .string s, .int .u32 n, .int .i64 x, .int .i64 y] 37 (0, 0))) :
    (results Tryz.f18 tmps).run Tryz.prog w = .ok (.tuple #[.agg #[.int .u8 k, .string s, .int .u32 n, .int .i64 x, .int .i64 y], v]) w := by
  rw [results_cell_tmp Tryz.results18, hp, hv]
  have c0 := row_cell h (j := 0) rfl
  have c1 := row_cell h (j := 1) rfl
  have c2 := row_cell h (j := 2) rfl
  have c3 := row_cell h (j := 3) rfl
  have c4 := row_cell h (j := 4) rfl
  simp [go_sem, asAddr, c0, c1, c2, c3, c4]
set_option maxRecDepth 100000 in
set_option maxHeartbeats 8000000 in
theorem token_at (l : List UInt8) (hl : l.length ≤ 65536) (g c : Nat) (w : World) (hT : LT w) (hR : Rows6 w g) : Calls Tryz.prog 18 #[.slice (some ⟨g, 0, none⟩) 6 c, .string (St l)] w fun e w' => e = .returned (tokR (tokW l)) ∧ Below w.heap.size w w' := by
  have HT := Lib.hid hT
  have HR := Lib.hid hR
  have HS := Lib.hid (tokFrom_is l)
  clear hT hR
  go_enter Tryz.func18, Tryz.ntmps18
  go_wp2_with fail
  go_loopw [13] (fun j wr => ∃ k : Nat, k ≤ 6 ∧ j = .int .i64 k ∧ tokFrom l k (6 - k) = tokW l ∧ wr.heap[w.heap.size]? = some (.cells #[.int .u8 0, .string ⟨#[]⟩, .int .u32 0, .int .i64 0, .int .i64 0] 37 (0, 0)) ∧ Below w.heap.size w wr) (fun j _ => (6 - intOf j).toNat)
  case atStart => exact ⟨0, by decide, rfl, HS.out, heap_alloc_last _ _, (Below.refl _ _).alloc (Nat.le_refl _) _⟩
  case round =>
    obtain ⟨k, hk, rfl, hs, hb, gB⟩ := hrel
    have HK := Lib.hid hs
    have HB := Lib.hid hb
    have GB := Lib.hid gB
    clear hs hb gB HS
    rcases (by omega : k = 6 ∨ k = 0 ∨ k = 1 ∨ k = 2 ∨ k = 3 ∨ k = 4 ∨ k = 5) with rfl | rfl | rfl | rfl | rfl | rfl | rfl
    · have HN : Hid (tokW l = none) := HK.out.symm
      have b0 := row_cell HB.out (j := 0) rfl
      have b1 := row_cell HB.out (j := 1) rfl
      have b2 := row_cell HB.out (j := 2) rfl
      have b3 := row_cell HB.out (j := 3) rfl
      have b4 := row_cell HB.out (j := 4) rfl
      have bf := fun j => row_frozen (j := j) HB.out
      rw [show ((6 : Nat) : Int) = 6 from rfl]
      go_wp2_with fail
      refine bodyPost_ret (token_ret rfl rfl (tok5_heap HB.out 0 ⟨#[]⟩ 0 0 0)) rfl ?_
      exact ⟨by rw [HN.out]; rfl, tok5_below GB.out (Nat.le_refl _) _ _ _ _ _⟩
    · obtain ⟨c0, c1⟩ := (HR.out.bel GB.out) 0 (by decide)
      simp only [kindR, fnR, Nat.reduceMul, Nat.reduceAdd] at c0 c1
      rw [show ((0 : Nat) : Int) = 0 from rfl]
      rw [show ((4 : Nat) : Int) = 4 from rfl] at c0
      obtain ⟨s2, s3, gY⟩ := row_copy wr 4 30
      have GY := Lib.hid gY
      have S2 := Lib.hid s2
      have CC : Hid (∀ W, LT W → Calls Tryz.prog 30 #[.string (St l)] W fun e w' => e = .returned (optV (readR l 0)) ∧ Below W.heap.size W w') := fun W hW => open_at l W
      have TY := Lib.hid ((HT.out.bel GB.out).bel gY)
      have HK' : Hid ((match readR l 0 with | some n => some (4, Lib.trimSuffix l [58], n) | none => tokFrom l 1 5) = tokW l) := HK.out
      clear gY s2
      cases hr : readR l 0 with
      | none =>
        rw [hr] at CC HK'
        clear hr
        go_wp2_with fail
        refine (CC.out _ TY.out).mono ?_; rintro e w2 ⟨rfl, g2⟩
        simp only [optV, Option.getD_none, Option.isSome_none]
        have G2 := Lib.hid (bel_trans GY.out g2)
        clear g2 c0 c1 s3
        go_wp2_with fail
        go_roundw
        case rel => exact ⟨1, by decide, by first | rfl | simp, HK'.out, bel_heap G2.out HB.out, bel_trans GB.out G2.out⟩
        case measure => simp [intOf]
      | some n =>
        rw [hr] at CC HK'
        clear hr
        go_wp2_with fail
        refine (CC.out _ TY.out).mono ?_; rintro e w2 ⟨rfl, g2⟩
        simp only [optV, Option.getD_some, Option.isSome_some]
        have c2 := bel_cell g2 S2.out
        have G2 := Lib.hid (bel_trans GY.out g2)
        clear g2 c0 c1 s3
        go_wp2_with fail
        refine (TrimSuffix_at l 58 (by omega) _).mono ?_; rintro e w3 ⟨rfl, rfl⟩
        go_wp2_with fail
        refine (Clone_at _ (Nat.le_trans (trim_le l) (by omega)) _).mono ?_; rintro e w4 ⟨rfl, g4⟩
        have c2 := bel_cell g4 c2
        have G4 := Lib.hid (bel_trans (bel_trans GB.out G2.out) g4)
        have B4 := bel_heap g4 (bel_heap G2.out HB.out)
        have b0 := row_cell B4 (j := 0) rfl
        have b1 := row_cell B4 (j := 1) rfl
        have b2 := row_cell B4 (j := 2) rfl
        have b3 := row_cell B4 (j := 3) rfl
        have b4 := row_cell B4 (j := 4) rfl
        have bf := fun j => row_frozen (j := j) B4
        clear g4
        go_wp2_with fail
        refine bodyPost_ret (token_ret rfl rfl (tok5_heap B4 4 (St (Lib.trimSuffix l [58])) n 0 0)) rfl ?_
        exact ⟨by rw [← HK'.out]; rfl, tok5_below G4.out (Nat.le_refl _) _ _ _ _ _⟩
    · obtain ⟨c0, c1⟩ := (HR.out.bel GB.out) 1 (by decide)
      simp only [kindR, fnR, Nat.reduceMul, Nat.reduceAdd] at c0 c1
      rw [show ((1 : Nat) : Int) = 1 from rfl]
      rw [show ((5 : Nat) : Int) = 5 from rfl] at c0
      obtain ⟨s2, s3, gY⟩ := row_copy wr 5 31
      have GY := Lib.hid gY
      have S2 := Lib.hid s2
      have CC : Hid (∀ W, LT W → Calls Tryz.prog 31 #[.string (St l)] W fun e w' => e = .returned (optV (readR l 1)) ∧ Below W.heap.size W w') := fun W hW => close_at l W
      have TY := Lib.hid ((HT.out.bel GB.out).bel gY)
      have HK' : Hid ((match readR l 1 with | some n => some (5, Lib.trimSuffix l [58], n) | none => tokFrom l 2 4) = tokW l) := HK.out
      clear gY s2
      cases hr : readR l 1 with
      | none =>
        rw [hr] at CC HK'
        clear hr
        go_wp2_with fail
        refine (CC.out _ TY.out).mono ?_; rintro e w2 ⟨rfl, g2⟩
        simp only [optV, Option.getD_none, Option.isSome_none]
        have G2 := Lib.hid (bel_trans GY.out g2)
        clear g2 c0 c1 s3
        go_wp2_with fail
        go_roundw
        case rel => exact ⟨2, by decide, by first | rfl | simp, HK'.out, bel_heap G2.out HB.out, bel_trans GB.out G2.out⟩
        case measure => simp [intOf]
      | some n =>
        rw [hr] at CC HK'
        clear hr
        go_wp2_with fail
        refine (CC.out _ TY.out).mono ?_; rintro e w2 ⟨rfl, g2⟩
        simp only [optV, Option.getD_some, Option.isSome_some]
        have c2 := bel_cell g2 S2.out
        have G2 := Lib.hid (bel_trans GY.out g2)
        clear g2 c0 c1 s3
        go_wp2_with fail
        refine (TrimSuffix_at l 58 (by omega) _).mono ?_; rintro e w3 ⟨rfl, rfl⟩
        go_wp2_with fail
        refine (Clone_at _ (Nat.le_trans (trim_le l) (by omega)) _).mono ?_; rintro e w4 ⟨rfl, g4⟩
        have c2 := bel_cell g4 c2
        have G4 := Lib.hid (bel_trans (bel_trans GB.out G2.out) g4)
        have B4 := bel_heap g4 (bel_heap G2.out HB.out)
        have b0 := row_cell B4 (j := 0) rfl
        have b1 := row_cell B4 (j := 1) rfl
        have b2 := row_cell B4 (j := 2) rfl
        have b3 := row_cell B4 (j := 3) rfl
        have b4 := row_cell B4 (j := 4) rfl
        have bf := fun j => row_frozen (j := j) B4
        clear g4
        go_wp2_with fail
        refine bodyPost_ret (token_ret rfl rfl (tok5_heap B4 5 (St (Lib.trimSuffix l [58])) n 0 0)) rfl ?_
        exact ⟨by rw [← HK'.out]; rfl, tok5_below G4.out (Nat.le_refl _) _ _ _ _ _⟩
    · obtain ⟨c0, c1⟩ := (HR.out.bel GB.out) 2 (by decide)
      simp only [kindR, fnR, Nat.reduceMul, Nat.reduceAdd] at c0 c1
      rw [show ((2 : Nat) : Int) = 2 from rfl]
      rw [show ((2 : Nat) : Int) = 2 from rfl] at c0
      obtain ⟨s2, s3, gY⟩ := row_copy wr 2 32
      have GY := Lib.hid gY
      have S2 := Lib.hid s2
      have CC : Hid (∀ W, LT W → Calls Tryz.prog 32 #[.string (St l)] W fun e w' => e = .returned (optV (readR l 2)) ∧ Below W.heap.size W w') := fun W hW => register_at l hl W hW
      have TY := Lib.hid ((HT.out.bel GB.out).bel gY)
      have HK' : Hid ((match readR l 2 with | some n => some (2, Lib.trimSuffix l [58], n) | none => tokFrom l 3 3) = tokW l) := HK.out
      clear gY s2
      cases hr : readR l 2 with
      | none =>
        rw [hr] at CC HK'
        clear hr
        go_wp2_with fail
        refine (CC.out _ TY.out).mono ?_; rintro e w2 ⟨rfl, g2⟩
        simp only [optV, Option.getD_none, Option.isSome_none]
        have G2 := Lib.hid (bel_trans GY.out g2)
        clear g2 c0 c1 s3
        go_wp2_with fail
        go_roundw
        case rel => exact ⟨3, by decide, by first | rfl | simp, HK'.out, bel_heap G2.out HB.out, bel_trans GB.out G2.out⟩
        case measure => simp [intOf]
      | some n =>
        rw [hr] at CC HK'
        clear hr
        go_wp2_with fail
        refine (CC.out _ TY.out).mono ?_; rintro e w2 ⟨rfl, g2⟩
        simp only [optV, Option.getD_some, Option.isSome_some]
        have c2 := bel_cell g2 S2.out
        have G2 := Lib.hid (bel_trans GY.out g2)
        clear g2 c0 c1 s3
        go_wp2_with fail
        refine (TrimSuffix_at l 58 (by omega) _).mono ?_; rintro e w3 ⟨rfl, rfl⟩
        go_wp2_with fail
        refine (Clone_at _ (Nat.le_trans (trim_le l) (by omega)) _).mono ?_; rintro e w4 ⟨rfl, g4⟩
        have c2 := bel_cell g4 c2
        have G4 := Lib.hid (bel_trans (bel_trans GB.out G2.out) g4)
        have B4 := bel_heap g4 (bel_heap G2.out HB.out)
        have b0 := row_cell B4 (j := 0) rfl
        have b1 := row_cell B4 (j := 1) rfl
        have b2 := row_cell B4 (j := 2) rfl
        have b3 := row_cell B4 (j := 3) rfl
        have b4 := row_cell B4 (j := 4) rfl
        have bf := fun j => row_frozen (j := j) B4
        clear g4
        go_wp2_with fail
        refine bodyPost_ret (token_ret rfl rfl (tok5_heap B4 2 (St (Lib.trimSuffix l [58])) n 0 0)) rfl ?_
        exact ⟨by rw [← HK'.out]; rfl, tok5_below G4.out (Nat.le_refl _) _ _ _ _ _⟩
    · obtain ⟨c0, c1⟩ := (HR.out.bel GB.out) 3 (by decide)
      simp only [kindR, fnR, Nat.reduceMul, Nat.reduceAdd] at c0 c1
      rw [show ((3 : Nat) : Int) = 3 from rfl]
      rw [show ((3 : Nat) : Int) = 3 from rfl] at c0
      obtain ⟨s2, s3, gY⟩ := row_copy wr 3 33
      have GY := Lib.hid gY
      have S2 := Lib.hid s2
      have CC : Hid (∀ W, LT W → Calls Tryz.prog 33 #[.string (St l)] W fun e w' => e = .returned (optV (readR l 3)) ∧ Below W.heap.size W w') := fun W hW => number_at l hl W hW
      have TY := Lib.hid ((HT.out.bel GB.out).bel gY)
      have HK' : Hid ((match readR l 3 with | some n => some (3, Lib.trimSuffix l [58], n) | none => tokFrom l 4 2) = tokW l) := HK.out
      clear gY s2
      cases hr : readR l 3 with
      | none =>
        rw [hr] at CC HK'
        clear hr
        go_wp2_with fail
        refine (CC.out _ TY.out).mono ?_; rintro e w2 ⟨rfl, g2⟩
        simp only [optV, Option.getD_none, Option.isSome_none]
        have G2 := Lib.hid (bel_trans GY.out g2)
        clear g2 c0 c1 s3
        go_wp2_with fail
        go_roundw
        case rel => exact ⟨4, by decide, by first | rfl | simp, HK'.out, bel_heap G2.out HB.out, bel_trans GB.out G2.out⟩
        case measure => simp [intOf]
      | some n =>
        rw [hr] at CC HK'
        clear hr
        go_wp2_with fail
        refine (CC.out _ TY.out).mono ?_; rintro e w2 ⟨rfl, g2⟩
        simp only [optV, Option.getD_some, Option.isSome_some]
        have c2 := bel_cell g2 S2.out
        have G2 := Lib.hid (bel_trans GY.out g2)
        clear g2 c0 c1 s3
        go_wp2_with fail
        refine (TrimSuffix_at l 58 (by omega) _).mono ?_; rintro e w3 ⟨rfl, rfl⟩
        go_wp2_with fail
        refine (Clone_at _ (Nat.le_trans (trim_le l) (by omega)) _).mono ?_; rintro e w4 ⟨rfl, g4⟩
        have c2 := bel_cell g4 c2
        have G4 := Lib.hid (bel_trans (bel_trans GB.out G2.out) g4)
        have B4 := bel_heap g4 (bel_heap G2.out HB.out)
        have b0 := row_cell B4 (j := 0) rfl
        have b1 := row_cell B4 (j := 1) rfl
        have b2 := row_cell B4 (j := 2) rfl
        have b3 := row_cell B4 (j := 3) rfl
        have b4 := row_cell B4 (j := 4) rfl
        have bf := fun j => row_frozen (j := j) B4
        clear g4
        go_wp2_with fail
        refine bodyPost_ret (token_ret rfl rfl (tok5_heap B4 3 (St (Lib.trimSuffix l [58])) n 0 0)) rfl ?_
        exact ⟨by rw [← HK'.out]; rfl, tok5_below G4.out (Nat.le_refl _) _ _ _ _ _⟩
    · obtain ⟨c0, c1⟩ := (HR.out.bel GB.out) 4 (by decide)
      simp only [kindR, fnR, Nat.reduceMul, Nat.reduceAdd] at c0 c1
      rw [show ((4 : Nat) : Int) = 4 from rfl]
      rw [show ((1 : Nat) : Int) = 1 from rfl] at c0
      obtain ⟨s2, s3, gY⟩ := row_copy wr 1 34
      have GY := Lib.hid gY
      have S2 := Lib.hid s2
      have CC : Hid (∀ W, LT W → Calls Tryz.prog 34 #[.string (St l)] W fun e w' => e = .returned (optV (readR l 4)) ∧ Below W.heap.size W w') := fun W hW => label_at l hl W
      have TY := Lib.hid ((HT.out.bel GB.out).bel gY)
      have HK' : Hid ((match readR l 4 with | some n => some (1, Lib.trimSuffix l [58], n) | none => tokFrom l 5 1) = tokW l) := HK.out
      clear gY s2
      cases hr : readR l 4 with
      | none =>
        rw [hr] at CC HK'
        clear hr
        go_wp2_with fail
        refine (CC.out _ TY.out).mono ?_; rintro e w2 ⟨rfl, g2⟩
        simp only [optV, Option.getD_none, Option.isSome_none]
        have G2 := Lib.hid (bel_trans GY.out g2)
        clear g2 c0 c1 s3
        go_wp2_with fail
        go_roundw
        case rel => exact ⟨5, by decide, by first | rfl | simp, HK'.out, bel_heap G2.out HB.out, bel_trans GB.out G2.out⟩
        case measure => simp [intOf]
      | some n =>
        rw [hr] at CC HK'
        clear hr
        go_wp2_with fail
        refine (CC.out _ TY.out).mono ?_; rintro e w2 ⟨rfl, g2⟩
        simp only [optV, Option.getD_some, Option.isSome_some]
        have c2 := bel_cell g2 S2.out
        have G2 := Lib.hid (bel_trans GY.out g2)
        clear g2 c0 c1 s3
        go_wp2_with fail
        refine (TrimSuffix_at l 58 (by omega) _).mono ?_; rintro e w3 ⟨rfl, rfl⟩
        go_wp2_with fail
        refine (Clone_at _ (Nat.le_trans (trim_le l) (by omega)) _).mono ?_; rintro e w4 ⟨rfl, g4⟩
        have c2 := bel_cell g4 c2
        have G4 := Lib.hid (bel_trans (bel_trans GB.out G2.out) g4)
        have B4 := bel_heap g4 (bel_heap G2.out HB.out)
        have b0 := row_cell B4 (j := 0) rfl
        have b1 := row_cell B4 (j := 1) rfl
        have b2 := row_cell B4 (j := 2) rfl
        have b3 := row_cell B4 (j := 3) rfl
        have b4 := row_cell B4 (j := 4) rfl
        have bf := fun j => row_frozen (j := j) B4
        clear g4
        go_wp2_with fail
        refine bodyPost_ret (token_ret rfl rfl (tok5_heap B4 1 (St (Lib.trimSuffix l [58])) n 0 0)) rfl ?_
        exact ⟨by rw [← HK'.out]; rfl, tok5_below G4.out (Nat.le_refl _) _ _ _ _ _⟩
    · obtain ⟨c0, c1⟩ := (HR.out.bel GB.out) 5 (by decide)
      simp only [kindR, fnR, Nat.reduceMul, Nat.reduceAdd] at c0 c1
      rw [show ((5 : Nat) : Int) = 5 from rfl]
      rw [show ((0 : Nat) : Int) = 0 from rfl] at c0
      obtain ⟨s2, s3, gY⟩ := row_copy wr 0 36
      have GY := Lib.hid gY
      have S2 := Lib.hid s2
      have CC : Hid (∀ W, LT W → Calls Tryz.prog 36 #[.string (St l)] W fun e w' => e = .returned (optV (readR l 5)) ∧ Below W.heap.size W w') := fun W hW => name_at l hl W
      have TY := Lib.hid ((HT.out.bel GB.out).bel gY)
      have HK' : Hid ((match readR l 5 with | some n => some (0, Lib.trimSuffix l [58], n) | none => tokFrom l 6 0) = tokW l) := HK.out
      clear gY s2
      cases hr : readR l 5 with
      | none =>
        rw [hr] at CC HK'
        clear hr
        go_wp2_with fail
        refine (CC.out _ TY.out).mono ?_; rintro e w2 ⟨rfl, g2⟩
        simp only [optV, Option.getD_none, Option.isSome_none]
        have G2 := Lib.hid (bel_trans GY.out g2)
        clear g2 c0 c1 s3
        go_wp2_with fail
        go_roundw
        case rel => exact ⟨6, by decide, by first | rfl | simp, HK'.out, bel_heap G2.out HB.out, bel_trans GB.out G2.out⟩
        case measure => simp [intOf]
      | some n =>
        rw [hr] at CC HK'
        clear hr
        go_wp2_with fail
        refine (CC.out _ TY.out).mono ?_; rintro e w2 ⟨rfl, g2⟩
        simp only [optV, Option.getD_some, Option.isSome_some]
        have c2 := bel_cell g2 S2.out
        have G2 := Lib.hid (bel_trans GY.out g2)
        clear g2 c0 c1 s3
        go_wp2_with fail
        refine (TrimSuffix_at l 58 (by omega) _).mono ?_; rintro e w3 ⟨rfl, rfl⟩
        go_wp2_with fail
        refine (Clone_at _ (Nat.le_trans (trim_le l) (by omega)) _).mono ?_; rintro e w4 ⟨rfl, g4⟩
        have c2 := bel_cell g4 c2
        have G4 := Lib.hid (bel_trans (bel_trans GB.out G2.out) g4)
        have B4 := bel_heap g4 (bel_heap G2.out HB.out)
        have b0 := row_cell B4 (j := 0) rfl
        have b1 := row_cell B4 (j := 1) rfl
        have b2 := row_cell B4 (j := 2) rfl
        have b3 := row_cell B4 (j := 3) rfl
        have b4 := row_cell B4 (j := 4) rfl
        have bf := fun j => row_frozen (j := j) B4
        clear g4
        go_wp2_with fail
        refine bodyPost_ret (token_ret rfl rfl (tok5_heap B4 0 (St (Lib.trimSuffix l [58])) n 0 0)) rfl ?_
        exact ⟨by rw [← HK'.out]; rfl, tok5_below G4.out (Nat.le_refl _) _ _ _ _ _⟩
end Go.Proofs.YthhbhfpdabiclaaGreatDoor.L12
