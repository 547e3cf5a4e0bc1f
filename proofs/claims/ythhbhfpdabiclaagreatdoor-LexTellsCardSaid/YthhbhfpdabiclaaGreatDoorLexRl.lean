/- lex (layer 12): the document's Lex, byte by byte. By genlexrl.py. -/
import Derived.Test.YthhbhfpdabiclaaGreatDoorLexRw
import Derived.Test.YthhbhfpdabiclaaGreatDoorLexAgm
import Derived.Test.YthhbhfpdabiclaaGreatDoorLexOff
import Derived.Test.YthhbhfpdabiclaaGreatDoorLexLex
import Derived.Deep.DeepCutAuto
import Derived.Deep.RegionWith
namespace Go.Proofs.YthhbhfpdabiclaaGreatDoor.L12
open Go.RowKit Go.Shelf
set_option linter.unusedVariables false
/-- Is the byte behind, in its line, a word's. -/
def pwAt (l : List UInt8) (bg k : Nat) : Bool := decide (bg < k) && (match l[k - 1]? with | some b => !isW b | none => false)
/-- How far the loop is. -/
def LInv (l : List UInt8) (k n bg : Nat) (sm no : Bool) (acc : List Tok) : Prop := bg ≤ k ∧ k ≤ l.length ∧ (acc ++ (refL n (k - bg + 1) sm no (pwAt l bg k) (l.drop k)).1, (refL n (k - bg + 1) sm no (pwAt l bg k) (l.drop k)).2) = lexS l
theorem drop_at {l : List UInt8} {k : Nat} {b : UInt8} (h : l[k]? = some b) : l.drop k = b :: l.drop (k + 1) := by
  have h := (List.getElem?_eq_some_iff.1 h)
  rw [List.drop_eq_getElem_cons h.1, h.2]
theorem pwAt_next {l : List UInt8} {bg k : Nat} {b : UInt8} (h : bg ≤ k) (hb : l[k]? = some b) : pwAt l bg (k + 1) = !isW b := by
  unfold pwAt
  rw [decide_eq_true (by omega), Nat.add_sub_cancel, hb]
  rfl
theorem LInv.start (l : List UInt8) : LInv l 0 1 0 false false [] := ⟨Nat.le_refl _, Nat.zero_le _, by rw [← ref_is]; rfl⟩
theorem LInv.last {l : List UInt8} {n bg : Nat} {sm no : Bool} {acc : List Tok} (h : LInv l l.length n bg sm no acc) : (acc ++ fin sm n (l.length - bg + 1), none) = lexS l := by
  have := h.2.2
  rw [List.drop_length] at this
  exact this
theorem LInv.line {l : List UInt8} {k n bg : Nat} {sm no : Bool} {acc : List Tok} (h : LInv l k n bg sm no acc) (hb : l[k]? = some 10) : LInv l (k + 1) (n + 1) (k + 1) false false (acc ++ fin sm n (k - bg + 1)) := by
  obtain ⟨h1, h2, h3⟩ := h
  have hk := (List.getElem?_eq_some_iff.1 hb).1
  refine ⟨Nat.le_refl _, by omega, ?_⟩
  rw [drop_at hb] at h3
  simp only [refL, if_true] at h3
  rw [← h3, show pwAt l (k + 1) (k + 1) = false by unfold pwAt; rw [decide_eq_false (by omega)]; rfl, Nat.sub_self, Nat.zero_add, List.append_assoc]
theorem LInv.skip {l : List UInt8} {k n bg : Nat} {sm no : Bool} {acc : List Tok} {b : UInt8} (h : LInv l k n bg sm no acc) (hb : l[k]? = some b) (h10 : b ≠ 10) (hs : (isW b || no || pwAt l bg k) = true) : LInv l (k + 1) n bg sm no acc := by
  obtain ⟨h1, h2, h3⟩ := h
  have hk := (List.getElem?_eq_some_iff.1 hb).1
  refine ⟨by omega, by omega, ?_⟩
  rw [drop_at hb] at h3
  simp only [refL] at h3
  rw [if_neg h10] at h3
  rw [← h3, pwAt_next h1 hb, show k + 1 - bg + 1 = k - bg + 1 + 1 by omega]
  by_cases hw : isW b = true
  · rw [if_pos hw, hw]; rfl
  · have hw' : isW b = false := by simpa using hw
    rw [hw', Bool.false_or] at hs
    rw [if_neg hw, if_pos hs, hw']; rfl
theorem LInv.rem {l : List UInt8} {k n bg : Nat} {no : Bool} {acc : List Tok} (h : LInv l k n bg false no acc) (hb : l[k]? = some 35) (hs : (no || pwAt l bg k) = false) : LInv l (k + 1) n bg false true acc := by
  obtain ⟨h1, h2, h3⟩ := h
  have hk := (List.getElem?_eq_some_iff.1 hb).1
  refine ⟨by omega, by omega, ?_⟩
  rw [drop_at hb] at h3
  simp only [refL] at h3
  rw [if_neg (by decide), if_neg (by decide), if_neg (by rw [hs]; decide), if_pos (by decide)] at h3
  rw [← h3, pwAt_next h1 hb, show k + 1 - bg + 1 = k - bg + 1 + 1 by omega]
  rfl
theorem LInv.at {l : List UInt8} {k n bg : Nat} {sm no : Bool} {acc : List Tok} {b : UInt8} (h : LInv l k n bg sm no acc) (hb : l[k]? = some b) (h10 : b ≠ 10) (hw : isW b = false) (hs : (no || pwAt l bg k) = false) (hh : (!sm && b == 35) = false) :
    (acc ++ (refL n (k - bg + 1) sm no (pwAt l bg k) (l.drop k)).1, (refL n (k - bg + 1) sm no (pwAt l bg k) (l.drop k)).2) = (match tokW ((l.drop k).takeWhile inW) with
      | none => (acc, some (n, k - bg + 1))
      | some (kd, y, v) => (acc ++ [⟨kd, y, v, n, k - bg + 1⟩] ++ (refL n (k - bg + 1 + 1) true no true (l.drop (k + 1))).1, (refL n (k - bg + 1 + 1) true no true (l.drop (k + 1))).2)) := by
  rw [drop_at hb]
  simp only [refL]
  rw [if_neg h10, if_neg (by rw [hw]; decide), if_neg (by rw [hs]; decide), if_neg (by rw [hh]; decide)]
  cases tokW ((b :: l.drop (k + 1)).takeWhile inW) with
  | none => simp
  | some p => obtain ⟨kd, y, v⟩ := p; simp
theorem LInv.bad {l : List UInt8} {k n bg : Nat} {sm no : Bool} {acc : List Tok} {b : UInt8} (h : LInv l k n bg sm no acc) (hb : l[k]? = some b) (h10 : b ≠ 10) (hw : isW b = false) (hs : (no || pwAt l bg k) = false) (hh : (!sm && b == 35) = false) (ht : tokW ((l.drop k).takeWhile inW) = none) : lexS l = (acc, some (n, k - bg + 1)) := by
  have := h.at hb h10 hw hs hh
  rw [ht] at this
  exact h.2.2.symm.trans this
theorem LInv.word {l y : List UInt8} {k n bg kd v : Nat} {sm no : Bool} {acc : List Tok} {b : UInt8} (h : LInv l k n bg sm no acc) (hb : l[k]? = some b) (h10 : b ≠ 10) (hw : isW b = false) (hs : (no || pwAt l bg k) = false) (hh : (!sm && b == 35) = false) (ht : tokW ((l.drop k).takeWhile inW) = some (kd, y, v)) : LInv l (k + 1) n bg true no (acc ++ [⟨kd, y, v, n, k - bg + 1⟩]) := by
  have h0 := h.at hb h10 hw hs hh
  rw [ht] at h0
  obtain ⟨h1, h2, h3⟩ := h
  have hk := (List.getElem?_eq_some_iff.1 hb).1
  refine ⟨by omega, by omega, ?_⟩
  rw [pwAt_next h1 hb, hw, show k + 1 - bg + 1 = k - bg + 1 + 1 by omega]
  exact h0.symm.trans h3
theorem LInv.len {l : List UInt8} {k n bg : Nat} {sm no : Bool} {acc : List Tok} (h : LInv l k n bg sm no acc) : acc.length ≤ 2 * l.length := by
  have h1 := congrArg (fun x => x.1.length) h.2.2
  simp only [List.length_append] at h1
  have h2 := lex_count (s := l) (l := (lexS l).1) (e := (lexS l).2) rfl
  omega
/-- A word's bytes. -/
theorem word_ext {l : List UInt8} {k e : Nat} (he : e = k + ((l.drop k).takeWhile inW).length) : (St l).extract k e = St ((l.drop k).takeWhile inW) := by
  rw [← St_of ((St l).extract k e), Lib.extract_data, St_list, he, Nat.add_sub_cancel_left]
  congr 1
  exact (List.prefix_iff_eq_take.1 (List.takeWhile_prefix inW)).symm
theorem word_in {l : List UInt8} {k a : Nat} (h1 : k ≤ a) (h2 : a < k + ((l.drop k).takeWhile inW).length) : ∃ b, l[a]? = some b ∧ inW b = true := by
  obtain ⟨b, hb, hn⟩ := takeWhile_at inW (l.drop k) (a - k) (by omega)
  rw [List.getElem?_drop, show k + (a - k) = a by omega] at hb
  exact ⟨b, hb, hn⟩
theorem word_end {l : List UInt8} {k e : Nat} (he : e = k + ((l.drop k).takeWhile inW).length) (h : e < l.length) : ∃ b, l[e]? = some b ∧ inW b = false := by
  obtain ⟨b, hb, hn⟩ := takeWhile_end inW (l.drop k) (by rw [List.length_drop]; omega)
  rw [List.getElem?_drop, ← he] at hb
  exact ⟨b, hb, hn⟩
theorem word_le (l : List UInt8) (k : Nat) (hk : k ≤ l.length) : k + ((l.drop k).takeWhile inW).length ≤ l.length := by
  have := (List.takeWhile_prefix inW (l := l.drop k)).length_le
  rw [List.length_drop] at this
  omega
theorem refWhite_at (b : UInt8) (w : World) : Calls Tryz.prog 19 #[.int .u8 b.toNat] w fun e w' => e = .returned (.bool (isW b)) ∧ w = w' := by
  have hn : ∀ x : UInt8, b ≠ x → ((b.toNat : Int) == x.toNat) = false := fun x hx => by
    rw [beq_eq_false_iff_ne]
    intro h
    exact hx (UInt8.toNat_inj.1 (by omega))
  by_cases h1 : b = 32
  · subst h1
    go_enter Tryz.func19, Tryz.ntmps19
    go_wp2_with fail
    go_ret
    exact ⟨rfl, rfl⟩
  by_cases h2 : b = 9
  · subst h2
    go_enter Tryz.func19, Tryz.ntmps19
    go_wp2_with fail
    go_ret
    exact ⟨rfl, rfl⟩
  by_cases h3 : b = 13
  · subst h3
    go_enter Tryz.func19, Tryz.ntmps19
    go_wp2_with fail
    go_ret
    exact ⟨rfl, rfl⟩
  have a1 : ((b.toNat : Int) == 32) = false := hn 32 h1
  have a2 : ((b.toNat : Int) == 9) = false := hn 9 h2
  have a3 : ((b.toNat : Int) == 13) = false := hn 13 h3
  have HW : Hid (isW b = false) := by
    unfold Hid isW
    simp [h1, h2, h3]
  clear h1 h2 h3 hn
  generalize (b.toNat : Int) = x at a1 a2 a3 ⊢
  go_enter Tryz.func19, Tryz.ntmps19
  go_wp2_with fail
  go_ret
  exact ⟨by rw [HW.out]; rfl, rfl⟩
theorem own_bel {w w' : World} {base n : Nat} {v : Value} {xs : List Value} (h : w.ownsRow base 37 5 v n xs) (k : Below w.heap.size w w') : w'.ownsRow base 37 5 v n xs :=
  row_same h fun g hg => k.block g (h.lt g hg).2
theorem grown_bel {A B : World} {r : Option Nat} {base : Nat} (q : A.grownBy B r) (hr : ∀ g, r = some g → base ≤ g) (hb : base ≤ A.heap.size) : Below base A B :=
  ⟨q.os, q.tape, q.output, q.size, fun k hk => q.block k (by omega) (fun e => by have := hr k e.symm; omega)⟩
theorem lex_add {w V V1 : World} {s : Value} {n : Nat} {xs : List Value} {o : Obj} (hown : V.ownsRow (w.heap.size + 1) 37 5 s n xs) (hV : Below w.heap.size w V) (hVs : w.heap.size + 1 ≤ V.heap.size) (hp : V.heap[w.heap.size]? = some o) (q : V.grownBy V1 s.ownBlock) : V1.heap[w.heap.size]? = some o ∧ Below w.heap.size w V1 ∧ w.heap.size + 1 ≤ V1.heap.size :=
  ⟨(q.block _ (by omega) (fun e => by have := own_ge hown e.symm; omega)).trans hp, hV.trans (grown_bel q (fun g hg => Nat.le_trans (Nat.le_succ _) (own_ge hown hg)) (by omega)), Nat.le_trans hVs q.size⟩
theorem wpList_tok {w : World} {ops : Array Oper} {rest : List Oper} {o : Oper} {a : Go.Act} {Q : Exit → Go.Act → World → Prop} (hgd : Region.wanted o (yielded ops a.tmps) = true) (sx x : Operand)
    (ho : o.op = .call { callee := .builtin .append, args := #[sx, x], argTypes := #[23, 23] }) (base : Nat) (s : Value) (n : Nat) (xs : List Value) (t : Tok) (hs : a.eval sx = s) (hown : w.ownsRow base 37 5 s n xs) (hbase : base ≤ w.heap.size) (c cc : Nat) (hx : a.eval x = .slice (some ⟨c, 0, none⟩) 1 cc) (hc : w.heap[c]? = some (.cells (tokCells t).toArray 37 (0, 0))) (hn : n ≤ 8589934592)
    (h : ∀ g' c' w', w'.ownsRow base 37 5 (.slice (some ⟨g', 0, none⟩) (n + 1) c') (n + 1) (xs ++ tokCells t) → w.grownBy w' s.ownBlock → wpList Tryz.prog ops Q rest (a.put o.dst (.slice (some ⟨g', 0, none⟩) (n + 1) c')) w') :
    wpList Tryz.prog ops Q (o :: rest) a w := by
  refine wpList_step fun K hK => ?_
  rw [if_pos hgd]
  obtain ⟨g', c', w', hrun, r1, r2, _⟩ := tok_tell (w := w) o.type base s n xs t hown hbase c cc hc hn
  unfold Oper.wp execOp
  simp only [ho, resolve, invoke, builtin, Sem.run_bind, Sem.run_pure, Result.andThen_ok, List.map_toArray, List.map_cons, List.map_nil, hs, hx, hrun]
  exact hK _ _ (h g' c' w' r1 r2)
set_option maxRecDepth 100000 in
set_option maxHeartbeats 8000000 in
theorem refLex_at (l : List UInt8) (hl : l.length ≤ 65536) (w : World) : Calls Tryz.prog 7 #[.string (St l)] w (LexO l w) := by
  have HX : Hid (∀ i (h : i < (St l).size), l[i]? = some ((St l)[i]'h)) := fun i h => List.getElem?_eq_getElem h
  have HZ : Hid ((St l).size = l.length) := rfl
  have WE : Hid (∀ k e, e = k + ((l.drop k).takeWhile inW).length → (St l).extract k e = St ((l.drop k).takeWhile inW)) := fun k e he => word_ext he
  have hsz : (St l).size ≤ 65536 := hl
  generalize St l = s at HX HZ WE hsz ⊢
  go_enter Tryz.func7, Tryz.ntmps7
  go_wp2_with fail
  have R0 := heap_alloc_last w (.cells #[.int .i64 0, .int .i64 0] 25)
  have B0 : Below w.heap.size w (w.alloc (.cells #[.int .i64 0, .int .i64 0] 25)) := (Below.refl _ _).alloc (Nat.le_refl _) _
  have Z0 : (w.alloc (.cells #[.int .i64 0, .int .i64 0] 25)).heap.size = w.heap.size + 1 := World.size_alloc _ _
  go_loopw [5, 6, 7, 8, 9, 10] (fun x5 x6 x7 x8 x9 x10 wr => ∃ (k n bg : Nat) (N BG : Int) (sm no : Bool) (acc : List Tok), k ≤ s.size + 1 ∧ x6 = .int .i64 N ∧ x7 = .int .i64 BG ∧ x8 = .bool sm ∧ x9 = .bool no ∧ x10 = .int .i64 k ∧ Hid (N = (n : Nat)) ∧ Hid (BG = (bg : Nat)) ∧ 1 ≤ N ∧ N ≤ k + 1 ∧ 0 ≤ BG ∧ BG ≤ k ∧ Hid (wr.ownsRow (w.heap.size + 1) 37 5 x5 acc.length (tokRow acc)) ∧ Hid (wr.heap[w.heap.size]? = some (.cells #[.int .i64 0, .int .i64 0] 25 (0, 0))) ∧ Below w.heap.size w wr ∧ w.heap.size + 1 ≤ wr.heap.size ∧ Hid (LInv l k n bg sm no acc ∨ (k = s.size + 1 ∧ (acc, none) = lexS l))) (fun _ _ _ _ _ j _ => ((s.size : Int) + 1 - intOf j).toNat)
  case atStart => exact ⟨0, 1, 0, 1, 0, false, false, [], by omega, rfl, rfl, rfl, rfl, rfl, rfl, rfl, by decide, by decide, by decide, by decide, World.ownsRow_nil _ _ _ _, R0, B0, by rw [Z0]; exact Nat.le_refl _, .inl (LInv.start l)⟩
  case round =>
    obtain ⟨k, n, bg, N, BG, sm, no, acc, hk, rfl, rfl, rfl, rfl, rfl, hN, hBG, hn1, hn2, hb1, hb2, hrow, hpos, hw, hws, hinv⟩ := hrel
    clear R0 B0 Z0
    by_cases hend : k = s.size + 1
    · have hL : Hid ((acc, none) = lexS l) := by
        rcases hinv.out with h | h
        · have := h.2.1; have := HZ.out; omega
        · exact h.2
      have hkk : ¬ (k : Int) ≤ (s.size : Int) := by omega
      have c0 := row_cell hpos.out (j := 0) rfl
      have c1 := row_cell hpos.out (j := 1) rfl
      have f0 := row_frozen (j := 0) hpos.out
      have f1 := row_frozen (j := 1) hpos.out
      clear hend
      go_wp2_with fail
      have x2 := heap_setCell_same _ w.heap.size 1 _ _ (.int .i64 0) (heap_setCell_same _ w.heap.size 0 _ _ (.int .i64 0) hpos.out)
      have y2 : Below w.heap.size w ((wr.setCell ⟨w.heap.size, 0, none⟩ (.int .i64 0)).setCell ⟨w.heap.size, 1, none⟩ (.int .i64 0)) := (hw.setCell (p := ⟨w.heap.size, 0, none⟩) (Nat.le_refl _) _).setCell (p := ⟨w.heap.size, 1, none⟩) (Nat.le_refl _) _
      have z2 : World.ownsRow ((wr.setCell ⟨w.heap.size, 0, none⟩ (.int .i64 0)).setCell ⟨w.heap.size, 1, none⟩ (.int .i64 0)) w.heap.size 37 5 u5 acc.length (tokRow acc) := row_base (row_same hrow.out fun g hg => by
        have := own_ge hrow.out hg
        rw [heap_setCell_other _ _ _ _ (by show g ≠ w.heap.size; omega), heap_setCell_other _ _ _ _ (by show g ≠ w.heap.size; omega)]) (Nat.le_succ _)
      generalize (wr.setCell ⟨w.heap.size, 0, none⟩ (.int .i64 0)).setCell ⟨w.heap.size, 1, none⟩ (.int .i64 0) = W2 at x2 y2 z2 ⊢
      have g0 : W2.cell? ⟨w.heap.size, 0, none⟩ = some (.int .i64 0) := row_cell x2 rfl
      have g1 : W2.cell? ⟨w.heap.size, 1, none⟩ = some (.int .i64 0) := row_cell x2 rfl
      refine bodyPost_ret (v := .tuple #[u5, .agg #[.int .i64 0, .int .i64 0], .int .i64 0]) (by simp [results, Tryz.results7, go_sem, g0, g1]) rfl ⟨y2, ?_⟩
      rw [← hL.out]
      exact ⟨_, rfl, z2⟩
    · have hI : Hid (LInv l k n bg sm no acc) := by
        rcases hinv.out with h | h
        · exact h
        · exact absurd h.1 hend
      have hk2 : k ≤ s.size := by omega
      have hkk : (k : Int) ≤ (s.size : Int) := by omega
      have hacc : acc.length ≤ 8589934592 := by have := hI.out.len; rw [← HZ.out] at this; omega
      have hcol : Hid (((k - bg + 1 : Nat) : Int) = (k : Int) - BG + 1) := by
        unfold Hid
        have h1 := hI.out.1
        have h2 := hBG.out
        omega
      clear hinv hend
      by_cases hkl : k = s.size
      · obtain rfl : k = s.size := hkl
        have hL : Hid ((acc ++ fin sm n (s.size - bg + 1), none) = lexS l) := by
          have h := hI.out
          unfold Hid
          rw [HZ.out] at h ⊢
          exact h.last
        cases sm with
        | false =>
          go_wp2_with fail
          go_roundw
          case rel => exact ⟨s.size + 1, n + 1, s.size + 1, N + 1, s.size + 1, false, false, acc, by omega, by first | rfl | simp, by first | rfl | simp, by first | rfl | simp, by first | rfl | simp, by first | rfl | simp, by unfold Hid; rw [hN.out]; simp, by unfold Hid; simp, by omega, by simp; omega, by omega, by simp, hrow, hpos, hw, hws, .inr ⟨rfl, by have := hL.out; simpa [fin] using this⟩⟩
          case measure => simp [intOf]
        | true =>
          have hrow8 : World.ownsRow (wr.alloc (.cells #[.int .u8 6, .string ⟨#[]⟩, .int .u32 0, .int .i64 N, .int .i64 ((s.size : Int) - BG + 1)] 37)) (w.heap.size + 1) 37 5 u5 acc.length (tokRow acc) := hrow.out.alloc _
          have hc8 : (wr.alloc (.cells #[.int .u8 6, .string ⟨#[]⟩, .int .u32 0, .int .i64 N, .int .i64 ((s.size : Int) - BG + 1)] 37)).heap[wr.heap.size]? = some (.cells (tokCells ⟨6, [], 0, n, s.size - bg + 1⟩).toArray 37 (0, 0)) := by
            have e : tokCells ⟨6, [], 0, n, s.size - bg + 1⟩ = [.int .u8 6, .string ⟨#[]⟩, .int .u32 0, .int .i64 N, .int .i64 ((s.size : Int) - BG + 1)] := by
              simp only [tokCells, hcol.out, ← hN.out]
              rfl
            rw [e]
            exact World.alloc_heap_new wr _
          have hb8 : w.heap.size + 1 ≤ (wr.alloc (.cells #[.int .u8 6, .string ⟨#[]⟩, .int .u32 0, .int .i64 N, .int .i64 ((s.size : Int) - BG + 1)] 37)).heap.size := by rw [World.size_alloc]; omega
          have hw8 : Below w.heap.size w (wr.alloc (.cells #[.int .u8 6, .string ⟨#[]⟩, .int .u32 0, .int .i64 N, .int .i64 ((s.size : Int) - BG + 1)] 37)) := hw.alloc hw.size _
          have hp8 : (wr.alloc (.cells #[.int .u8 6, .string ⟨#[]⟩, .int .u32 0, .int .i64 N, .int .i64 ((s.size : Int) - BG + 1)] 37)).heap[w.heap.size]? = some (.cells #[.int .i64 0, .int .i64 0] 25 (0, 0)) := row_alloc hpos.out
          generalize hD : (s.size : Int) - BG + 1 = D at hrow8 hc8 hb8 hw8 hp8
          have HDD := Lib.hid hD
          go_wp2_with (at_builtin; refine wpList_tok rfl _ _ rfl (w.heap.size + 1) _ acc.length (tokRow acc) ⟨6, [], 0, n, s.size - bg + 1⟩ ?la1 hrow8 hb8 wr.heap.size 1 ?la4 hc8 hacc ?la6; (case la1 => rfl); (case la4 => rfl); intro g' c' V1 a1 a2)
          obtain ⟨q1, q2, q3⟩ := lex_add hrow8 hw8 hb8 hp8 a2
          go_roundw
          case rel => exact ⟨s.size + 1, n + 1, s.size + 1, N + 1, s.size + 1, false, false, acc ++ [⟨6, [], 0, n, s.size - bg + 1⟩], by omega, by first | rfl | simp, by first | rfl | simp, by first | rfl | simp, by first | rfl | simp, by first | rfl | simp, by unfold Hid; rw [hN.out]; simp, by unfold Hid; simp, by omega, by simp; omega, by omega, by simp, by unfold Hid; rw [List.length_append, tokRow_snoc]; exact a1, q1, q2, q3, .inr ⟨rfl, hL.out⟩⟩
          case measure => first | (simp [intOf]; done) | (simp [intOf]; omega)
      · have hlt : k < s.size := by omega
        have hlt' : (k : Int) < (s.size : Int) := by omega
        have hne : ((k : Int) == (s.size : Int)) = false := by rw [beq_eq_false_iff_ne]; omega
        obtain ⟨b, hb⟩ : ∃ b, s[k]'hlt = b := ⟨_, rfl⟩
        have HB : Hid (l[k]? = some b) := by have := HX.out k hlt; rw [hb] at this; exact this
        clear hkl
        by_cases h10 : b = 10
        · subst h10
          have hL := Lib.hid (hI.out.line HB.out)
          cases sm with
          | false =>
            go_wp2_with fail
            go_roundw
            case rel => exact ⟨k + 1, n + 1, k + 1, N + 1, k + 1, false, false, acc, by omega, by first | rfl | simp, by first | rfl | simp, by first | rfl | simp, by first | rfl | simp, by first | rfl | simp, by unfold Hid; rw [hN.out]; simp, by unfold Hid; simp, by omega, by simp; omega, by omega, by simp, hrow, hpos, hw, hws, .inl (by have := hL.out; simpa [fin] using this)⟩
            case measure => first | (simp [intOf]; done) | (simp [intOf]; omega)
          | true =>
            have hrow8 : World.ownsRow (wr.alloc (.cells #[.int .u8 6, .string ⟨#[]⟩, .int .u32 0, .int .i64 N, .int .i64 ((k : Int) - BG + 1)] 37)) (w.heap.size + 1) 37 5 u5 acc.length (tokRow acc) := hrow.out.alloc _
            have hc8 : (wr.alloc (.cells #[.int .u8 6, .string ⟨#[]⟩, .int .u32 0, .int .i64 N, .int .i64 ((k : Int) - BG + 1)] 37)).heap[wr.heap.size]? = some (.cells (tokCells ⟨6, [], 0, n, k - bg + 1⟩).toArray 37 (0, 0)) := by
              have e : tokCells ⟨6, [], 0, n, k - bg + 1⟩ = [.int .u8 6, .string ⟨#[]⟩, .int .u32 0, .int .i64 N, .int .i64 ((k : Int) - BG + 1)] := by
                simp only [tokCells, hcol.out, ← hN.out]
                rfl
              rw [e]
              exact World.alloc_heap_new wr _
            have hb8 : w.heap.size + 1 ≤ (wr.alloc (.cells #[.int .u8 6, .string ⟨#[]⟩, .int .u32 0, .int .i64 N, .int .i64 ((k : Int) - BG + 1)] 37)).heap.size := by rw [World.size_alloc]; omega
            have hw8 : Below w.heap.size w (wr.alloc (.cells #[.int .u8 6, .string ⟨#[]⟩, .int .u32 0, .int .i64 N, .int .i64 ((k : Int) - BG + 1)] 37)) := hw.alloc hw.size _
            have hp8 : (wr.alloc (.cells #[.int .u8 6, .string ⟨#[]⟩, .int .u32 0, .int .i64 N, .int .i64 ((k : Int) - BG + 1)] 37)).heap[w.heap.size]? = some (.cells #[.int .i64 0, .int .i64 0] 25 (0, 0)) := row_alloc hpos.out
            generalize hD : (k : Int) - BG + 1 = D at hrow8 hc8 hb8 hw8 hp8
            have HDD := Lib.hid hD
            go_wp2_with (at_builtin; refine wpList_tok rfl _ _ rfl (w.heap.size + 1) _ acc.length (tokRow acc) ⟨6, [], 0, n, k - bg + 1⟩ ?nl1 hrow8 hb8 wr.heap.size 1 ?nl4 hc8 hacc ?nl6; (case nl1 => rfl); (case nl4 => rfl); intro g' c' V1 a1 a2)
            obtain ⟨q1, q2, q3⟩ := lex_add hrow8 hw8 hb8 hp8 a2
            go_roundw
            case rel => exact ⟨k + 1, n + 1, k + 1, N + 1, k + 1, false, false, acc ++ [⟨6, [], 0, n, k - bg + 1⟩], by omega, by first | rfl | simp, by first | rfl | simp, by first | rfl | simp, by first | rfl | simp, by first | rfl | simp, by unfold Hid; rw [hN.out]; simp, by unfold Hid; simp, by omega, by simp; omega, by omega, by simp, by unfold Hid; rw [List.length_append, tokRow_snoc]; exact a1, q1, q2, q3, .inl hL.out⟩
            case measure => first | (simp [intOf]; done) | (simp [intOf]; omega)
        · have h10' : ((b.toNat : Int) == 10) = false := by
            rw [beq_eq_false_iff_ne]
            intro h
            exact h10 (UInt8.toNat_inj.1 (show b.toNat = (10 : UInt8).toNat by show b.toNat = 10; omega))
          have H10 := Lib.hid h10
          have WB := Lib.hid (fun W => refWhite_at b W)
          clear h10
          generalize wr = V at *
          cases hWb : isW b with
          | true =>
            have HS := Lib.hid (hI.out.skip HB.out H10.out (by rw [hWb]; rfl))
            rw [hWb] at WB
            clear hWb
            go_wp2_with fail
            refine (WB.out _).mono ?_; rintro e w2 ⟨rfl, rfl⟩
            go_wp2_with fail
            go_roundw
            case rel => exact ⟨k + 1, n, bg, N, BG, sm, no, acc, by omega, rfl, rfl, by first | rfl | simp, by first | rfl | simp, by first | rfl | simp, hN, hBG, hn1, by omega, hb1, by omega, hrow, hpos, hw, hws, .inl HS.out⟩
            case measure => first | (simp [intOf]; done) | (simp [intOf]; omega)
          | false =>
            have HWB := Lib.hid hWb
            rw [hWb] at WB
            clear hWb
            cases no with
            | true =>
              have HS := Lib.hid (hI.out.skip HB.out H10.out (by simp))
              go_wp2_with fail
              refine (WB.out _).mono ?_; rintro e w2 ⟨rfl, rfl⟩
              go_wp2_with fail
              go_roundw
              case rel => exact ⟨k + 1, n, bg, N, BG, sm, true, acc, by omega, rfl, rfl, by first | rfl | simp, by first | rfl | simp, by first | rfl | simp, hN, hBG, hn1, by omega, hb1, by omega, hrow, hpos, hw, hws, .inl HS.out⟩
              case measure => first | (simp [intOf]; done) | (simp [intOf]; omega)
            | false =>
              by_cases hbk : BG < (k : Int)
              · have hbg : bg < k := by have := hBG.out; omega
                obtain ⟨j, hj0⟩ : ∃ j, j + 1 = k := ⟨k - 1, by omega⟩
                have hj : (k : Int) - 1 = j := by omega
                have hj1 : j < s.size := by omega
                have hj2 : (j : Int) < (s.size : Int) := by omega
                obtain ⟨z, hz⟩ : ∃ z, s[j]'hj1 = z := ⟨_, rfl⟩
                have HZB : Hid (l[k - 1]? = some z) := by unfold Hid; rw [show k - 1 = j by omega]; have := HX.out j hj1; rw [hz] at this; exact this
                have WZ := Lib.hid (fun W => refWhite_at z W)
                clear hj0
                cases hwz : isW z with
                | false =>
                  have HS := Lib.hid (hI.out.skip HB.out H10.out (by unfold pwAt; rw [decide_eq_true hbg, HZB.out]; simp [hwz]))
                  rw [hwz] at WZ
                  clear hwz hbg
                  go_wp2_with fail
                  refine (WB.out _).mono ?_; rintro e w2 ⟨rfl, rfl⟩
                  go_wp2_with fail
                  refine (WZ.out _).mono ?_; rintro e w3 ⟨rfl, rfl⟩
                  go_wp2_with fail
                  go_roundw
                  case rel => exact ⟨k + 1, n, bg, N, BG, sm, false, acc, by omega, rfl, rfl, by first | rfl | simp, by first | rfl | simp, by first | rfl | simp, hN, hBG, hn1, by omega, hb1, by omega, hrow, hpos, hw, hws, .inl HS.out⟩
                  case measure => first | (simp [intOf]; done) | (simp [intOf]; omega)
                | true =>
                  have hpw : Hid (pwAt l bg k = false) := by unfold Hid pwAt; rw [HZB.out]; simp [hwz]
                  rw [hwz] at WZ
                  clear hwz hbg
                  cases sm with
                  | true =>
                    have hsh : Hid ((!true && b == 35) = false) := by unfold Hid; simp
                    obtain ⟨x, hx⟩ : ∃ x, x = (l.drop k).takeWhile inW := ⟨_, rfl⟩
                    have HXX := Lib.hid hx
                    obtain ⟨en, hen⟩ : ∃ en, en = k + x.length := ⟨_, rfl⟩
                    have hle : en ≤ s.size := by rw [hen, hx, HZ.out]; exact word_le l k (by rw [← HZ.out]; exact hk2)
                    have hke : k ≤ en := by omega
                    have IN : Hid (∀ a, k ≤ a → a < en → ∃ b, l[a]? = some b ∧ inW b = true) := fun a h1 h2 => word_in h1 (by rw [← hx, ← hen]; exact h2)
                    have EN : Hid (en < l.length → ∃ b, l[en]? = some b ∧ inW b = false) := fun h => word_end (by rw [← hx, ← hen]) h
                    have EX : Hid (s.extract k en = St x) := by unfold Hid; rw [hx]; exact WE.out k en (by rw [← hx, ← hen])
                    have hx0 : x ≠ [] := fun e => by
                      have := drop_at HB.out
                      rw [hx, this, List.takeWhile_cons, if_pos (by unfold inW; rw [HWB.out]; simp [H10.out])] at e
                      cases e
                    have WD := Lib.hid (fun W => Word_at x (by omega) hx0 W)
                    have hen1 : (en : Int) ≤ (s.size : Int) := by omega
                    have hke1 : (k : Int) ≤ (en : Int) := by omega
                    clear hx hen hx0
                    obtain ⟨D, hD⟩ : ∃ D, (k : Int) - BG + 1 = D := ⟨_, rfl⟩
                    have HDD := Lib.hid hD
                    go_wp2_with fail
                    refine (WB.out _).mono ?_; rintro e w2 ⟨rfl, rfl⟩
                    go_wp2_with fail
                    refine (WZ.out _).mono ?_; rintro e w3 ⟨rfl, rfl⟩
                    go_wp2_with fail
                    go_loopw [11] (fun y wi => ∃ a : Nat, k ≤ a ∧ a ≤ en ∧ y = .int .i64 (a : Nat) ∧ wi = V) (fun y _ => ((en : Int) - intOf y).toNat)
                    case atStart => exact ⟨k, Nat.le_refl _, hke, rfl, rfl⟩
                    case round =>
                      obtain ⟨a, ha1, ha2, rfl, rfl⟩ := hrel
                      by_cases hae : a < en
                      · have hlt2 : a < s.size := by omega
                        have hlt3 : (a : Int) < (s.size : Int) := by omega
                        obtain ⟨c, hc1, hc2⟩ := IN.out a ha1 hae
                        have hc3 : s[a]'hlt2 = c := by have := HX.out a hlt2; rw [hc1] at this; exact (Option.some.inj this).symm
                        have hcw : isW c = false := by unfold inW at hc2; simp at hc2; exact hc2.1
                        have hc10 : ((c.toNat : Int) == 10) = false := by
                          unfold inW at hc2; simp at hc2
                          rw [beq_eq_false_iff_ne]
                          intro h
                          exact hc2.2 (UInt8.toNat_inj.1 (show c.toNat = (10 : UInt8).toNat by show c.toNat = 10; omega))
                        have hc12 : ¬ (c.toNat : Int) = 10 := by simpa using hc10
                        have WC := Lib.hid (fun W => refWhite_at c W)
                        rw [hcw] at WC
                        clear hc1 hc2 hcw
                        go_wp2_with fail
                        refine (WC.out _).mono ?_; rintro e w4 ⟨rfl, rfl⟩
                        go_wp2_with fail
                        go_roundw
                        case rel => exact ⟨a + 1, by omega, by omega, by simp, (by first | rfl | trivial)⟩
                        case measure => simp [intOf]; omega
                      · have hae2 : a = en := by omega
                        clear hae ha1 ha2
                        subst hae2
                        have ex := EX.out
                        by_cases hes : a < s.size
                        · have hlt3 : (a : Int) < (s.size : Int) := by omega
                          obtain ⟨c, hc1, hc2⟩ := EN.out (by rw [← HZ.out]; exact hes)
                          have hc3 : s[a]'hes = c := by have := HX.out a hes; rw [hc1] at this; exact (Option.some.inj this).symm
                          by_cases hc10 : c = 10
                          · subst hc10
                            clear hc1 hc2
                            go_wp2_with fail
                            refine (WD.out _).mono ?_
                            rintro e w7 ⟨ew, g7⟩
                            have hrow7 := own_bel hrow.out g7
                            have hpos7 := bel_heap g7 hpos.out
                            have hw7 := hw.trans (g7.mono hw.size)
                            have hws7 := Nat.le_trans hws g7.size
                            unfold WordO at ew
                            cases hk : tokW x with
                            | none =>
                              rw [hk] at ew
                              obtain ⟨k', s', v', rfl⟩ := ew
                              have hF := Lib.hid (hI.out.bad HB.out H10.out HWB.out (by rw [hpw.out]; rfl) hsh.out (by rw [← HXX.out]; exact hk))
                              clear hk
                              have hpA : (w7.alloc (.cells #[.int .u8 k', .string s', .int .u32 v', .int .i64 N, .int .i64 D] 37)).heap[w.heap.size]? = some (.cells #[.int .i64 0, .int .i64 0] 25 (0, 0)) := row_alloc hpos7
                              have hTA := heap_alloc_last w7 (.cells #[.int .u8 k', .string s', .int .u32 v', .int .i64 N, .int .i64 D] 37)
                              have bA : Below w.heap.size w (w7.alloc (.cells #[.int .u8 k', .string s', .int .u32 v', .int .i64 N, .int .i64 D] 37)) := hw7.alloc hw7.size _
                              have zA : (w7.alloc (.cells #[.int .u8 k', .string s', .int .u32 v', .int .i64 N, .int .i64 D] 37)).heap.size = w7.heap.size + 1 := World.size_alloc _ _
                              go_upto_region 24 with (fail)
                              generalize hWA : w7.alloc (.cells #[.int .u8 k', .string s', .int .u32 v', .int .i64 N, .int .i64 D] 37) = WA at hpA hTA bA zA ⊢
                              clear hWA
                              have t3 := row_cell hTA (j := 3) rfl
                              have t4 := row_cell hTA (j := 4) rfl
                              have c0 := row_cell hpA (j := 0) rfl
                              have c1 := row_cell hpA (j := 1) rfl
                              have f0 := row_frozen (j := 0) hpA
                              have f1 := row_frozen (j := 1) hpA
                              have sA : w.heap.size < WA.heap.size := by omega
                              have fin1 : Hid (∀ W2, W2 = (WA.setCell ⟨w.heap.size, 0, none⟩ (.int .i64 N)).setCell ⟨w.heap.size, 1, none⟩ (.int .i64 D) → W2.cell? ⟨w.heap.size, 0, none⟩ = some (.int .i64 N) ∧ W2.cell? ⟨w.heap.size, 1, none⟩ = some (.int .i64 D) ∧ Below w.heap.size w W2) := fun W2 e => by
                                have x2 := heap_setCell_same _ w.heap.size 1 _ _ (.int .i64 D) (heap_setCell_same _ w.heap.size 0 _ _ (.int .i64 N) hpA)
                                rw [← e] at x2
                                exact ⟨row_cell x2 rfl, row_cell x2 rfl, by rw [e]; exact (bA.setCell (p := ⟨w.heap.size, 0, none⟩) (Nat.le_refl _) _).setCell (p := ⟨w.heap.size, 1, none⟩) (Nat.le_refl _) _⟩
                              go_region_with fail
                              all_goals go_wp2_with fail
                              all_goals
                                go_simp
                                obtain ⟨g0, g1, gB⟩ := fin1.out _ rfl
                                generalize (WA.setCell ⟨w.heap.size, 0, none⟩ (.int .i64 N)).setCell ⟨w.heap.size, 1, none⟩ (.int .i64 D) = W2 at g0 g1 gB ⊢
                                refine bodyPost_ret (v := .tuple #[.slice none 0 0, .agg #[.int .i64 N, .int .i64 D], .int .i64 120]) (by simp [results, Tryz.results7, go_sem, g0, g1]) rfl ⟨gB.drew, ?_⟩
                                rw [hF.out]
                                show Ending.returned _ = Ending.returned _
                                rw [hcol.out, ← hN.out, HDD.out]
                            | some q =>
                              obtain ⟨kd, y, v⟩ := q
                              rw [hk] at ew
                              obtain rfl := ew
                              have hF := Lib.hid (hI.out.word HB.out H10.out HWB.out (by rw [hpw.out]; rfl) hsh.out (by rw [← HXX.out]; exact hk))
                              clear hk
                              have hrow8 : World.ownsRow ((w7.alloc (.cells #[.int .u8 (kd : Nat), .string (St y), .int .u32 (v : Nat), .int .i64 N, .int .i64 D] 37)).alloc (.cells #[.int .u8 (kd : Nat), .string (St y), .int .u32 (v : Nat), .int .i64 N, .int .i64 D] 37)) (w.heap.size + 1) 37 5 u5 acc.length (tokRow acc) := (hrow7.alloc _).alloc _
                              have hc8 : ((w7.alloc (.cells #[.int .u8 (kd : Nat), .string (St y), .int .u32 (v : Nat), .int .i64 N, .int .i64 D] 37)).alloc (.cells #[.int .u8 (kd : Nat), .string (St y), .int .u32 (v : Nat), .int .i64 N, .int .i64 D] 37)).heap[w7.heap.size + 1]? = some (.cells (tokCells ⟨kd, y, v, n, k - bg + 1⟩).toArray 37 (0, 0)) := by
                                have e : tokCells ⟨kd, y, v, n, k - bg + 1⟩ = [.int .u8 (kd : Nat), .string (St y), .int .u32 (v : Nat), .int .i64 N, .int .i64 D] := by
                                  simp only [tokCells, hcol.out, ← hN.out, HDD.out]
                                rw [e]
                                exact row_born (World.size_alloc _ _)
                              have hb8 : w.heap.size + 1 ≤ ((w7.alloc (.cells #[.int .u8 (kd : Nat), .string (St y), .int .u32 (v : Nat), .int .i64 N, .int .i64 D] 37)).alloc (.cells #[.int .u8 (kd : Nat), .string (St y), .int .u32 (v : Nat), .int .i64 N, .int .i64 D] 37)).heap.size := by rw [World.size_alloc, World.size_alloc]; omega
                              have hw8 : Below w.heap.size w ((w7.alloc (.cells #[.int .u8 (kd : Nat), .string (St y), .int .u32 (v : Nat), .int .i64 N, .int .i64 D] 37)).alloc (.cells #[.int .u8 (kd : Nat), .string (St y), .int .u32 (v : Nat), .int .i64 N, .int .i64 D] 37)) := (hw7.alloc hw7.size _).alloc (by rw [World.size_alloc]; exact Nat.le_succ_of_le hw7.size) _
                              have hp8 : ((w7.alloc (.cells #[.int .u8 (kd : Nat), .string (St y), .int .u32 (v : Nat), .int .i64 N, .int .i64 D] 37)).alloc (.cells #[.int .u8 (kd : Nat), .string (St y), .int .u32 (v : Nat), .int .i64 N, .int .i64 D] 37)).heap[w.heap.size]? = some (.cells #[.int .i64 0, .int .i64 0] 25 (0, 0)) := row_alloc (row_alloc hpos7)
                              go_wp2_with (at_builtin; refine wpList_tok rfl _ _ rfl (w.heap.size + 1) _ acc.length (tokRow acc) ⟨kd, y, v, n, k - bg + 1⟩ ?p11 hrow8 hb8 (w7.heap.size + 1) 1 ?p14 hc8 hacc ?p16; (case p11 => rfl); (case p14 => rfl); intro g' c' V1 a1 a2)
                              obtain ⟨q1, q2, q3⟩ := lex_add hrow8 hw8 hb8 hp8 a2
                              go_roundw
                              case rel => exact ⟨k + 1, n, bg, N, BG, true, false, acc ++ [⟨kd, y, v, n, k - bg + 1⟩], by omega, rfl, rfl, by first | rfl | simp, by first | rfl | simp, by first | rfl | simp, hN, hBG, hn1, by omega, hb1, by omega, by unfold Hid; rw [List.length_append, tokRow_snoc]; exact a1, q1, q2, q3, .inl hF.out⟩
                              case measure => first | (simp [intOf]; done) | (simp [intOf]; omega)
                          · have hcw : isW c = true := by unfold inW at hc2; simpa [hc10] using hc2
                            have hc11 : ((c.toNat : Int) == 10) = false := by
                              rw [beq_eq_false_iff_ne]
                              intro h
                              exact hc10 (UInt8.toNat_inj.1 (show c.toNat = (10 : UInt8).toNat by show c.toNat = 10; omega))
                            have hc12 : ¬ (c.toNat : Int) = 10 := by simpa using hc11
                            have WC := Lib.hid (fun W => refWhite_at c W)
                            rw [hcw] at WC
                            clear hc1 hc2 hcw hc10
                            go_wp2_with fail
                            refine (WC.out _).mono ?_; rintro e w4 ⟨rfl, rfl⟩
                            go_wp2_with fail
                            refine (WD.out _).mono ?_
                            rintro e w7 ⟨ew, g7⟩
                            have hrow7 := own_bel hrow.out g7
                            have hpos7 := bel_heap g7 hpos.out
                            have hw7 := hw.trans (g7.mono hw.size)
                            have hws7 := Nat.le_trans hws g7.size
                            unfold WordO at ew
                            cases hk : tokW x with
                            | none =>
                              rw [hk] at ew
                              obtain ⟨k', s', v', rfl⟩ := ew
                              have hF := Lib.hid (hI.out.bad HB.out H10.out HWB.out (by rw [hpw.out]; rfl) hsh.out (by rw [← HXX.out]; exact hk))
                              clear hk
                              have hpA : (w7.alloc (.cells #[.int .u8 k', .string s', .int .u32 v', .int .i64 N, .int .i64 D] 37)).heap[w.heap.size]? = some (.cells #[.int .i64 0, .int .i64 0] 25 (0, 0)) := row_alloc hpos7
                              have hTA := heap_alloc_last w7 (.cells #[.int .u8 k', .string s', .int .u32 v', .int .i64 N, .int .i64 D] 37)
                              have bA : Below w.heap.size w (w7.alloc (.cells #[.int .u8 k', .string s', .int .u32 v', .int .i64 N, .int .i64 D] 37)) := hw7.alloc hw7.size _
                              have zA : (w7.alloc (.cells #[.int .u8 k', .string s', .int .u32 v', .int .i64 N, .int .i64 D] 37)).heap.size = w7.heap.size + 1 := World.size_alloc _ _
                              go_upto_region 24 with (fail)
                              generalize hWA : w7.alloc (.cells #[.int .u8 k', .string s', .int .u32 v', .int .i64 N, .int .i64 D] 37) = WA at hpA hTA bA zA ⊢
                              clear hWA
                              have t3 := row_cell hTA (j := 3) rfl
                              have t4 := row_cell hTA (j := 4) rfl
                              have c0 := row_cell hpA (j := 0) rfl
                              have c1 := row_cell hpA (j := 1) rfl
                              have f0 := row_frozen (j := 0) hpA
                              have f1 := row_frozen (j := 1) hpA
                              have sA : w.heap.size < WA.heap.size := by omega
                              have fin1 : Hid (∀ W2, W2 = (WA.setCell ⟨w.heap.size, 0, none⟩ (.int .i64 N)).setCell ⟨w.heap.size, 1, none⟩ (.int .i64 D) → W2.cell? ⟨w.heap.size, 0, none⟩ = some (.int .i64 N) ∧ W2.cell? ⟨w.heap.size, 1, none⟩ = some (.int .i64 D) ∧ Below w.heap.size w W2) := fun W2 e => by
                                have x2 := heap_setCell_same _ w.heap.size 1 _ _ (.int .i64 D) (heap_setCell_same _ w.heap.size 0 _ _ (.int .i64 N) hpA)
                                rw [← e] at x2
                                exact ⟨row_cell x2 rfl, row_cell x2 rfl, by rw [e]; exact (bA.setCell (p := ⟨w.heap.size, 0, none⟩) (Nat.le_refl _) _).setCell (p := ⟨w.heap.size, 1, none⟩) (Nat.le_refl _) _⟩
                              go_region_with fail
                              all_goals go_wp2_with fail
                              all_goals
                                go_simp
                                obtain ⟨g0, g1, gB⟩ := fin1.out _ rfl
                                generalize (WA.setCell ⟨w.heap.size, 0, none⟩ (.int .i64 N)).setCell ⟨w.heap.size, 1, none⟩ (.int .i64 D) = W2 at g0 g1 gB ⊢
                                refine bodyPost_ret (v := .tuple #[.slice none 0 0, .agg #[.int .i64 N, .int .i64 D], .int .i64 120]) (by simp [results, Tryz.results7, go_sem, g0, g1]) rfl ⟨gB.drew, ?_⟩
                                rw [hF.out]
                                show Ending.returned _ = Ending.returned _
                                rw [hcol.out, ← hN.out, HDD.out]
                            | some q =>
                              obtain ⟨kd, y, v⟩ := q
                              rw [hk] at ew
                              obtain rfl := ew
                              have hF := Lib.hid (hI.out.word HB.out H10.out HWB.out (by rw [hpw.out]; rfl) hsh.out (by rw [← HXX.out]; exact hk))
                              clear hk
                              have hrow8 : World.ownsRow ((w7.alloc (.cells #[.int .u8 (kd : Nat), .string (St y), .int .u32 (v : Nat), .int .i64 N, .int .i64 D] 37)).alloc (.cells #[.int .u8 (kd : Nat), .string (St y), .int .u32 (v : Nat), .int .i64 N, .int .i64 D] 37)) (w.heap.size + 1) 37 5 u5 acc.length (tokRow acc) := (hrow7.alloc _).alloc _
                              have hc8 : ((w7.alloc (.cells #[.int .u8 (kd : Nat), .string (St y), .int .u32 (v : Nat), .int .i64 N, .int .i64 D] 37)).alloc (.cells #[.int .u8 (kd : Nat), .string (St y), .int .u32 (v : Nat), .int .i64 N, .int .i64 D] 37)).heap[w7.heap.size + 1]? = some (.cells (tokCells ⟨kd, y, v, n, k - bg + 1⟩).toArray 37 (0, 0)) := by
                                have e : tokCells ⟨kd, y, v, n, k - bg + 1⟩ = [.int .u8 (kd : Nat), .string (St y), .int .u32 (v : Nat), .int .i64 N, .int .i64 D] := by
                                  simp only [tokCells, hcol.out, ← hN.out, HDD.out]
                                rw [e]
                                exact row_born (World.size_alloc _ _)
                              have hb8 : w.heap.size + 1 ≤ ((w7.alloc (.cells #[.int .u8 (kd : Nat), .string (St y), .int .u32 (v : Nat), .int .i64 N, .int .i64 D] 37)).alloc (.cells #[.int .u8 (kd : Nat), .string (St y), .int .u32 (v : Nat), .int .i64 N, .int .i64 D] 37)).heap.size := by rw [World.size_alloc, World.size_alloc]; omega
                              have hw8 : Below w.heap.size w ((w7.alloc (.cells #[.int .u8 (kd : Nat), .string (St y), .int .u32 (v : Nat), .int .i64 N, .int .i64 D] 37)).alloc (.cells #[.int .u8 (kd : Nat), .string (St y), .int .u32 (v : Nat), .int .i64 N, .int .i64 D] 37)) := (hw7.alloc hw7.size _).alloc (by rw [World.size_alloc]; exact Nat.le_succ_of_le hw7.size) _
                              have hp8 : ((w7.alloc (.cells #[.int .u8 (kd : Nat), .string (St y), .int .u32 (v : Nat), .int .i64 N, .int .i64 D] 37)).alloc (.cells #[.int .u8 (kd : Nat), .string (St y), .int .u32 (v : Nat), .int .i64 N, .int .i64 D] 37)).heap[w.heap.size]? = some (.cells #[.int .i64 0, .int .i64 0] 25 (0, 0)) := row_alloc (row_alloc hpos7)
                              go_wp2_with (at_builtin; refine wpList_tok rfl _ _ rfl (w.heap.size + 1) _ acc.length (tokRow acc) ⟨kd, y, v, n, k - bg + 1⟩ ?p21 hrow8 hb8 (w7.heap.size + 1) 1 ?p24 hc8 hacc ?p26; (case p21 => rfl); (case p24 => rfl); intro g' c' V1 a1 a2)
                              obtain ⟨q1, q2, q3⟩ := lex_add hrow8 hw8 hb8 hp8 a2
                              go_roundw
                              case rel => exact ⟨k + 1, n, bg, N, BG, true, false, acc ++ [⟨kd, y, v, n, k - bg + 1⟩], by omega, rfl, rfl, by first | rfl | simp, by first | rfl | simp, by first | rfl | simp, hN, hBG, hn1, by omega, hb1, by omega, by unfold Hid; rw [List.length_append, tokRow_snoc]; exact a1, q1, q2, q3, .inl hF.out⟩
                              case measure => first | (simp [intOf]; done) | (simp [intOf]; omega)
                        · have hlt3 : ¬ (a : Int) < (s.size : Int) := by omega
                          go_wp2_with fail
                          refine (WD.out _).mono ?_
                          rintro e w7 ⟨ew, g7⟩
                          have hrow7 := own_bel hrow.out g7
                          have hpos7 := bel_heap g7 hpos.out
                          have hw7 := hw.trans (g7.mono hw.size)
                          have hws7 := Nat.le_trans hws g7.size
                          unfold WordO at ew
                          cases hk : tokW x with
                          | none =>
                            rw [hk] at ew
                            obtain ⟨k', s', v', rfl⟩ := ew
                            have hF := Lib.hid (hI.out.bad HB.out H10.out HWB.out (by rw [hpw.out]; rfl) hsh.out (by rw [← HXX.out]; exact hk))
                            clear hk
                            have hpA : (w7.alloc (.cells #[.int .u8 k', .string s', .int .u32 v', .int .i64 N, .int .i64 D] 37)).heap[w.heap.size]? = some (.cells #[.int .i64 0, .int .i64 0] 25 (0, 0)) := row_alloc hpos7
                            have hTA := heap_alloc_last w7 (.cells #[.int .u8 k', .string s', .int .u32 v', .int .i64 N, .int .i64 D] 37)
                            have bA : Below w.heap.size w (w7.alloc (.cells #[.int .u8 k', .string s', .int .u32 v', .int .i64 N, .int .i64 D] 37)) := hw7.alloc hw7.size _
                            have zA : (w7.alloc (.cells #[.int .u8 k', .string s', .int .u32 v', .int .i64 N, .int .i64 D] 37)).heap.size = w7.heap.size + 1 := World.size_alloc _ _
                            go_upto_region 24 with (fail)
                            generalize hWA : w7.alloc (.cells #[.int .u8 k', .string s', .int .u32 v', .int .i64 N, .int .i64 D] 37) = WA at hpA hTA bA zA ⊢
                            clear hWA
                            have t3 := row_cell hTA (j := 3) rfl
                            have t4 := row_cell hTA (j := 4) rfl
                            have c0 := row_cell hpA (j := 0) rfl
                            have c1 := row_cell hpA (j := 1) rfl
                            have f0 := row_frozen (j := 0) hpA
                            have f1 := row_frozen (j := 1) hpA
                            have sA : w.heap.size < WA.heap.size := by omega
                            have fin1 : Hid (∀ W2, W2 = (WA.setCell ⟨w.heap.size, 0, none⟩ (.int .i64 N)).setCell ⟨w.heap.size, 1, none⟩ (.int .i64 D) → W2.cell? ⟨w.heap.size, 0, none⟩ = some (.int .i64 N) ∧ W2.cell? ⟨w.heap.size, 1, none⟩ = some (.int .i64 D) ∧ Below w.heap.size w W2) := fun W2 e => by
                              have x2 := heap_setCell_same _ w.heap.size 1 _ _ (.int .i64 D) (heap_setCell_same _ w.heap.size 0 _ _ (.int .i64 N) hpA)
                              rw [← e] at x2
                              exact ⟨row_cell x2 rfl, row_cell x2 rfl, by rw [e]; exact (bA.setCell (p := ⟨w.heap.size, 0, none⟩) (Nat.le_refl _) _).setCell (p := ⟨w.heap.size, 1, none⟩) (Nat.le_refl _) _⟩
                            go_region_with fail
                            all_goals go_wp2_with fail
                            all_goals
                              go_simp
                              obtain ⟨g0, g1, gB⟩ := fin1.out _ rfl
                              generalize (WA.setCell ⟨w.heap.size, 0, none⟩ (.int .i64 N)).setCell ⟨w.heap.size, 1, none⟩ (.int .i64 D) = W2 at g0 g1 gB ⊢
                              refine bodyPost_ret (v := .tuple #[.slice none 0 0, .agg #[.int .i64 N, .int .i64 D], .int .i64 120]) (by simp [results, Tryz.results7, go_sem, g0, g1]) rfl ⟨gB.drew, ?_⟩
                              rw [hF.out]
                              show Ending.returned _ = Ending.returned _
                              rw [hcol.out, ← hN.out, HDD.out]
                          | some q =>
                            obtain ⟨kd, y, v⟩ := q
                            rw [hk] at ew
                            obtain rfl := ew
                            have hF := Lib.hid (hI.out.word HB.out H10.out HWB.out (by rw [hpw.out]; rfl) hsh.out (by rw [← HXX.out]; exact hk))
                            clear hk
                            have hrow8 : World.ownsRow ((w7.alloc (.cells #[.int .u8 (kd : Nat), .string (St y), .int .u32 (v : Nat), .int .i64 N, .int .i64 D] 37)).alloc (.cells #[.int .u8 (kd : Nat), .string (St y), .int .u32 (v : Nat), .int .i64 N, .int .i64 D] 37)) (w.heap.size + 1) 37 5 u5 acc.length (tokRow acc) := (hrow7.alloc _).alloc _
                            have hc8 : ((w7.alloc (.cells #[.int .u8 (kd : Nat), .string (St y), .int .u32 (v : Nat), .int .i64 N, .int .i64 D] 37)).alloc (.cells #[.int .u8 (kd : Nat), .string (St y), .int .u32 (v : Nat), .int .i64 N, .int .i64 D] 37)).heap[w7.heap.size + 1]? = some (.cells (tokCells ⟨kd, y, v, n, k - bg + 1⟩).toArray 37 (0, 0)) := by
                              have e : tokCells ⟨kd, y, v, n, k - bg + 1⟩ = [.int .u8 (kd : Nat), .string (St y), .int .u32 (v : Nat), .int .i64 N, .int .i64 D] := by
                                simp only [tokCells, hcol.out, ← hN.out, HDD.out]
                              rw [e]
                              exact row_born (World.size_alloc _ _)
                            have hb8 : w.heap.size + 1 ≤ ((w7.alloc (.cells #[.int .u8 (kd : Nat), .string (St y), .int .u32 (v : Nat), .int .i64 N, .int .i64 D] 37)).alloc (.cells #[.int .u8 (kd : Nat), .string (St y), .int .u32 (v : Nat), .int .i64 N, .int .i64 D] 37)).heap.size := by rw [World.size_alloc, World.size_alloc]; omega
                            have hw8 : Below w.heap.size w ((w7.alloc (.cells #[.int .u8 (kd : Nat), .string (St y), .int .u32 (v : Nat), .int .i64 N, .int .i64 D] 37)).alloc (.cells #[.int .u8 (kd : Nat), .string (St y), .int .u32 (v : Nat), .int .i64 N, .int .i64 D] 37)) := (hw7.alloc hw7.size _).alloc (by rw [World.size_alloc]; exact Nat.le_succ_of_le hw7.size) _
                            have hp8 : ((w7.alloc (.cells #[.int .u8 (kd : Nat), .string (St y), .int .u32 (v : Nat), .int .i64 N, .int .i64 D] 37)).alloc (.cells #[.int .u8 (kd : Nat), .string (St y), .int .u32 (v : Nat), .int .i64 N, .int .i64 D] 37)).heap[w.heap.size]? = some (.cells #[.int .i64 0, .int .i64 0] 25 (0, 0)) := row_alloc (row_alloc hpos7)
                            go_wp2_with (at_builtin; refine wpList_tok rfl _ _ rfl (w.heap.size + 1) _ acc.length (tokRow acc) ⟨kd, y, v, n, k - bg + 1⟩ ?p31 hrow8 hb8 (w7.heap.size + 1) 1 ?p34 hc8 hacc ?p36; (case p31 => rfl); (case p34 => rfl); intro g' c' V1 a1 a2)
                            obtain ⟨q1, q2, q3⟩ := lex_add hrow8 hw8 hb8 hp8 a2
                            go_roundw
                            case rel => exact ⟨k + 1, n, bg, N, BG, true, false, acc ++ [⟨kd, y, v, n, k - bg + 1⟩], by omega, rfl, rfl, by first | rfl | simp, by first | rfl | simp, by first | rfl | simp, hN, hBG, hn1, by omega, hb1, by omega, by unfold Hid; rw [List.length_append, tokRow_snoc]; exact a1, q1, q2, q3, .inl hF.out⟩
                            case measure => first | (simp [intOf]; done) | (simp [intOf]; omega)
                  | false =>
                    by_cases h35 : b = 35
                    · subst h35
                      have HS := Lib.hid (hI.out.rem HB.out (by rw [hpw.out]; rfl))
                      go_wp2_with fail
                      refine (WB.out _).mono ?_; rintro e w2 ⟨rfl, rfl⟩
                      go_wp2_with fail
                      refine (WZ.out _).mono ?_; rintro e w3 ⟨rfl, rfl⟩
                      go_wp2_with fail
                      go_roundw
                      case rel => exact ⟨k + 1, n, bg, N, BG, false, true, acc, by omega, rfl, rfl, by first | rfl | simp, by first | rfl | simp, by first | rfl | simp, hN, hBG, hn1, by omega, hb1, by omega, hrow, hpos, hw, hws, .inl HS.out⟩
                      case measure => first | (simp [intOf]; done) | (simp [intOf]; omega)
                    · have h35' : ((b.toNat : Int) == 35) = false := by
                        rw [beq_eq_false_iff_ne]
                        intro h
                        exact h35 (UInt8.toNat_inj.1 (show b.toNat = (35 : UInt8).toNat by show b.toNat = 35; omega))
                      have H35 := Lib.hid h35
                      clear h35
                      have hsh : Hid ((!false && b == 35) = false) := by unfold Hid; simp [H35.out]
                      obtain ⟨x, hx⟩ : ∃ x, x = (l.drop k).takeWhile inW := ⟨_, rfl⟩
                      have HXX := Lib.hid hx
                      obtain ⟨en, hen⟩ : ∃ en, en = k + x.length := ⟨_, rfl⟩
                      have hle : en ≤ s.size := by rw [hen, hx, HZ.out]; exact word_le l k (by rw [← HZ.out]; exact hk2)
                      have hke : k ≤ en := by omega
                      have IN : Hid (∀ a, k ≤ a → a < en → ∃ b, l[a]? = some b ∧ inW b = true) := fun a h1 h2 => word_in h1 (by rw [← hx, ← hen]; exact h2)
                      have EN : Hid (en < l.length → ∃ b, l[en]? = some b ∧ inW b = false) := fun h => word_end (by rw [← hx, ← hen]) h
                      have EX : Hid (s.extract k en = St x) := by unfold Hid; rw [hx]; exact WE.out k en (by rw [← hx, ← hen])
                      have hx0 : x ≠ [] := fun e => by
                        have := drop_at HB.out
                        rw [hx, this, List.takeWhile_cons, if_pos (by unfold inW; rw [HWB.out]; simp [H10.out])] at e
                        cases e
                      have WD := Lib.hid (fun W => Word_at x (by omega) hx0 W)
                      have hen1 : (en : Int) ≤ (s.size : Int) := by omega
                      have hke1 : (k : Int) ≤ (en : Int) := by omega
                      clear hx hen hx0
                      obtain ⟨D, hD⟩ : ∃ D, (k : Int) - BG + 1 = D := ⟨_, rfl⟩
                      have HDD := Lib.hid hD
                      go_wp2_with fail
                      refine (WB.out _).mono ?_; rintro e w2 ⟨rfl, rfl⟩
                      go_wp2_with fail
                      refine (WZ.out _).mono ?_; rintro e w3 ⟨rfl, rfl⟩
                      go_wp2_with fail
                      go_loopw [11] (fun y wi => ∃ a : Nat, k ≤ a ∧ a ≤ en ∧ y = .int .i64 (a : Nat) ∧ wi = V) (fun y _ => ((en : Int) - intOf y).toNat)
                      case atStart => exact ⟨k, Nat.le_refl _, hke, rfl, rfl⟩
                      case round =>
                        obtain ⟨a, ha1, ha2, rfl, rfl⟩ := hrel
                        by_cases hae : a < en
                        · have hlt2 : a < s.size := by omega
                          have hlt3 : (a : Int) < (s.size : Int) := by omega
                          obtain ⟨c, hc1, hc2⟩ := IN.out a ha1 hae
                          have hc3 : s[a]'hlt2 = c := by have := HX.out a hlt2; rw [hc1] at this; exact (Option.some.inj this).symm
                          have hcw : isW c = false := by unfold inW at hc2; simp at hc2; exact hc2.1
                          have hc10 : ((c.toNat : Int) == 10) = false := by
                            unfold inW at hc2; simp at hc2
                            rw [beq_eq_false_iff_ne]
                            intro h
                            exact hc2.2 (UInt8.toNat_inj.1 (show c.toNat = (10 : UInt8).toNat by show c.toNat = 10; omega))
                          have hc12 : ¬ (c.toNat : Int) = 10 := by simpa using hc10
                          have WC := Lib.hid (fun W => refWhite_at c W)
                          rw [hcw] at WC
                          clear hc1 hc2 hcw
                          go_wp2_with fail
                          refine (WC.out _).mono ?_; rintro e w4 ⟨rfl, rfl⟩
                          go_wp2_with fail
                          go_roundw
                          case rel => exact ⟨a + 1, by omega, by omega, by simp, (by first | rfl | trivial)⟩
                          case measure => simp [intOf]; omega
                        · have hae2 : a = en := by omega
                          clear hae ha1 ha2
                          subst hae2
                          have ex := EX.out
                          by_cases hes : a < s.size
                          · have hlt3 : (a : Int) < (s.size : Int) := by omega
                            obtain ⟨c, hc1, hc2⟩ := EN.out (by rw [← HZ.out]; exact hes)
                            have hc3 : s[a]'hes = c := by have := HX.out a hes; rw [hc1] at this; exact (Option.some.inj this).symm
                            by_cases hc10 : c = 10
                            · subst hc10
                              clear hc1 hc2
                              go_wp2_with fail
                              refine (WD.out _).mono ?_
                              rintro e w7 ⟨ew, g7⟩
                              have hrow7 := own_bel hrow.out g7
                              have hpos7 := bel_heap g7 hpos.out
                              have hw7 := hw.trans (g7.mono hw.size)
                              have hws7 := Nat.le_trans hws g7.size
                              unfold WordO at ew
                              cases hk : tokW x with
                              | none =>
                                rw [hk] at ew
                                obtain ⟨k', s', v', rfl⟩ := ew
                                have hF := Lib.hid (hI.out.bad HB.out H10.out HWB.out (by rw [hpw.out]; rfl) hsh.out (by rw [← HXX.out]; exact hk))
                                clear hk
                                have hpA : (w7.alloc (.cells #[.int .u8 k', .string s', .int .u32 v', .int .i64 N, .int .i64 D] 37)).heap[w.heap.size]? = some (.cells #[.int .i64 0, .int .i64 0] 25 (0, 0)) := row_alloc hpos7
                                have hTA := heap_alloc_last w7 (.cells #[.int .u8 k', .string s', .int .u32 v', .int .i64 N, .int .i64 D] 37)
                                have bA : Below w.heap.size w (w7.alloc (.cells #[.int .u8 k', .string s', .int .u32 v', .int .i64 N, .int .i64 D] 37)) := hw7.alloc hw7.size _
                                have zA : (w7.alloc (.cells #[.int .u8 k', .string s', .int .u32 v', .int .i64 N, .int .i64 D] 37)).heap.size = w7.heap.size + 1 := World.size_alloc _ _
                                go_upto_region 24 with (fail)
                                generalize hWA : w7.alloc (.cells #[.int .u8 k', .string s', .int .u32 v', .int .i64 N, .int .i64 D] 37) = WA at hpA hTA bA zA ⊢
                                clear hWA
                                have t3 := row_cell hTA (j := 3) rfl
                                have t4 := row_cell hTA (j := 4) rfl
                                have c0 := row_cell hpA (j := 0) rfl
                                have c1 := row_cell hpA (j := 1) rfl
                                have f0 := row_frozen (j := 0) hpA
                                have f1 := row_frozen (j := 1) hpA
                                have sA : w.heap.size < WA.heap.size := by omega
                                have fin1 : Hid (∀ W2, W2 = (WA.setCell ⟨w.heap.size, 0, none⟩ (.int .i64 N)).setCell ⟨w.heap.size, 1, none⟩ (.int .i64 D) → W2.cell? ⟨w.heap.size, 0, none⟩ = some (.int .i64 N) ∧ W2.cell? ⟨w.heap.size, 1, none⟩ = some (.int .i64 D) ∧ Below w.heap.size w W2) := fun W2 e => by
                                  have x2 := heap_setCell_same _ w.heap.size 1 _ _ (.int .i64 D) (heap_setCell_same _ w.heap.size 0 _ _ (.int .i64 N) hpA)
                                  rw [← e] at x2
                                  exact ⟨row_cell x2 rfl, row_cell x2 rfl, by rw [e]; exact (bA.setCell (p := ⟨w.heap.size, 0, none⟩) (Nat.le_refl _) _).setCell (p := ⟨w.heap.size, 1, none⟩) (Nat.le_refl _) _⟩
                                go_region_with fail
                                all_goals go_wp2_with fail
                                all_goals
                                  go_simp
                                  obtain ⟨g0, g1, gB⟩ := fin1.out _ rfl
                                  generalize (WA.setCell ⟨w.heap.size, 0, none⟩ (.int .i64 N)).setCell ⟨w.heap.size, 1, none⟩ (.int .i64 D) = W2 at g0 g1 gB ⊢
                                  refine bodyPost_ret (v := .tuple #[.slice none 0 0, .agg #[.int .i64 N, .int .i64 D], .int .i64 120]) (by simp [results, Tryz.results7, go_sem, g0, g1]) rfl ⟨gB.drew, ?_⟩
                                  rw [hF.out]
                                  show Ending.returned _ = Ending.returned _
                                  rw [hcol.out, ← hN.out, HDD.out]
                              | some q =>
                                obtain ⟨kd, y, v⟩ := q
                                rw [hk] at ew
                                obtain rfl := ew
                                have hF := Lib.hid (hI.out.word HB.out H10.out HWB.out (by rw [hpw.out]; rfl) hsh.out (by rw [← HXX.out]; exact hk))
                                clear hk
                                have hrow8 : World.ownsRow ((w7.alloc (.cells #[.int .u8 (kd : Nat), .string (St y), .int .u32 (v : Nat), .int .i64 N, .int .i64 D] 37)).alloc (.cells #[.int .u8 (kd : Nat), .string (St y), .int .u32 (v : Nat), .int .i64 N, .int .i64 D] 37)) (w.heap.size + 1) 37 5 u5 acc.length (tokRow acc) := (hrow7.alloc _).alloc _
                                have hc8 : ((w7.alloc (.cells #[.int .u8 (kd : Nat), .string (St y), .int .u32 (v : Nat), .int .i64 N, .int .i64 D] 37)).alloc (.cells #[.int .u8 (kd : Nat), .string (St y), .int .u32 (v : Nat), .int .i64 N, .int .i64 D] 37)).heap[w7.heap.size + 1]? = some (.cells (tokCells ⟨kd, y, v, n, k - bg + 1⟩).toArray 37 (0, 0)) := by
                                  have e : tokCells ⟨kd, y, v, n, k - bg + 1⟩ = [.int .u8 (kd : Nat), .string (St y), .int .u32 (v : Nat), .int .i64 N, .int .i64 D] := by
                                    simp only [tokCells, hcol.out, ← hN.out, HDD.out]
                                  rw [e]
                                  exact row_born (World.size_alloc _ _)
                                have hb8 : w.heap.size + 1 ≤ ((w7.alloc (.cells #[.int .u8 (kd : Nat), .string (St y), .int .u32 (v : Nat), .int .i64 N, .int .i64 D] 37)).alloc (.cells #[.int .u8 (kd : Nat), .string (St y), .int .u32 (v : Nat), .int .i64 N, .int .i64 D] 37)).heap.size := by rw [World.size_alloc, World.size_alloc]; omega
                                have hw8 : Below w.heap.size w ((w7.alloc (.cells #[.int .u8 (kd : Nat), .string (St y), .int .u32 (v : Nat), .int .i64 N, .int .i64 D] 37)).alloc (.cells #[.int .u8 (kd : Nat), .string (St y), .int .u32 (v : Nat), .int .i64 N, .int .i64 D] 37)) := (hw7.alloc hw7.size _).alloc (by rw [World.size_alloc]; exact Nat.le_succ_of_le hw7.size) _
                                have hp8 : ((w7.alloc (.cells #[.int .u8 (kd : Nat), .string (St y), .int .u32 (v : Nat), .int .i64 N, .int .i64 D] 37)).alloc (.cells #[.int .u8 (kd : Nat), .string (St y), .int .u32 (v : Nat), .int .i64 N, .int .i64 D] 37)).heap[w.heap.size]? = some (.cells #[.int .i64 0, .int .i64 0] 25 (0, 0)) := row_alloc (row_alloc hpos7)
                                go_wp2_with (at_builtin; refine wpList_tok rfl _ _ rfl (w.heap.size + 1) _ acc.length (tokRow acc) ⟨kd, y, v, n, k - bg + 1⟩ ?p41 hrow8 hb8 (w7.heap.size + 1) 1 ?p44 hc8 hacc ?p46; (case p41 => rfl); (case p44 => rfl); intro g' c' V1 a1 a2)
                                obtain ⟨q1, q2, q3⟩ := lex_add hrow8 hw8 hb8 hp8 a2
                                go_roundw
                                case rel => exact ⟨k + 1, n, bg, N, BG, true, false, acc ++ [⟨kd, y, v, n, k - bg + 1⟩], by omega, rfl, rfl, by first | rfl | simp, by first | rfl | simp, by first | rfl | simp, hN, hBG, hn1, by omega, hb1, by omega, by unfold Hid; rw [List.length_append, tokRow_snoc]; exact a1, q1, q2, q3, .inl hF.out⟩
                                case measure => first | (simp [intOf]; done) | (simp [intOf]; omega)
                            · have hcw : isW c = true := by unfold inW at hc2; simpa [hc10] using hc2
                              have hc11 : ((c.toNat : Int) == 10) = false := by
                                rw [beq_eq_false_iff_ne]
                                intro h
                                exact hc10 (UInt8.toNat_inj.1 (show c.toNat = (10 : UInt8).toNat by show c.toNat = 10; omega))
                              have hc12 : ¬ (c.toNat : Int) = 10 := by simpa using hc11
                              have WC := Lib.hid (fun W => refWhite_at c W)
                              rw [hcw] at WC
                              clear hc1 hc2 hcw hc10
                              go_wp2_with fail
                              refine (WC.out _).mono ?_; rintro e w4 ⟨rfl, rfl⟩
                              go_wp2_with fail
                              refine (WD.out _).mono ?_
                              rintro e w7 ⟨ew, g7⟩
                              have hrow7 := own_bel hrow.out g7
                              have hpos7 := bel_heap g7 hpos.out
                              have hw7 := hw.trans (g7.mono hw.size)
                              have hws7 := Nat.le_trans hws g7.size
                              unfold WordO at ew
                              cases hk : tokW x with
                              | none =>
                                rw [hk] at ew
                                obtain ⟨k', s', v', rfl⟩ := ew
                                have hF := Lib.hid (hI.out.bad HB.out H10.out HWB.out (by rw [hpw.out]; rfl) hsh.out (by rw [← HXX.out]; exact hk))
                                clear hk
                                have hpA : (w7.alloc (.cells #[.int .u8 k', .string s', .int .u32 v', .int .i64 N, .int .i64 D] 37)).heap[w.heap.size]? = some (.cells #[.int .i64 0, .int .i64 0] 25 (0, 0)) := row_alloc hpos7
                                have hTA := heap_alloc_last w7 (.cells #[.int .u8 k', .string s', .int .u32 v', .int .i64 N, .int .i64 D] 37)
                                have bA : Below w.heap.size w (w7.alloc (.cells #[.int .u8 k', .string s', .int .u32 v', .int .i64 N, .int .i64 D] 37)) := hw7.alloc hw7.size _
                                have zA : (w7.alloc (.cells #[.int .u8 k', .string s', .int .u32 v', .int .i64 N, .int .i64 D] 37)).heap.size = w7.heap.size + 1 := World.size_alloc _ _
                                go_upto_region 24 with (fail)
                                generalize hWA : w7.alloc (.cells #[.int .u8 k', .string s', .int .u32 v', .int .i64 N, .int .i64 D] 37) = WA at hpA hTA bA zA ⊢
                                clear hWA
                                have t3 := row_cell hTA (j := 3) rfl
                                have t4 := row_cell hTA (j := 4) rfl
                                have c0 := row_cell hpA (j := 0) rfl
                                have c1 := row_cell hpA (j := 1) rfl
                                have f0 := row_frozen (j := 0) hpA
                                have f1 := row_frozen (j := 1) hpA
                                have sA : w.heap.size < WA.heap.size := by omega
                                have fin1 : Hid (∀ W2, W2 = (WA.setCell ⟨w.heap.size, 0, none⟩ (.int .i64 N)).setCell ⟨w.heap.size, 1, none⟩ (.int .i64 D) → W2.cell? ⟨w.heap.size, 0, none⟩ = some (.int .i64 N) ∧ W2.cell? ⟨w.heap.size, 1, none⟩ = some (.int .i64 D) ∧ Below w.heap.size w W2) := fun W2 e => by
                                  have x2 := heap_setCell_same _ w.heap.size 1 _ _ (.int .i64 D) (heap_setCell_same _ w.heap.size 0 _ _ (.int .i64 N) hpA)
                                  rw [← e] at x2
                                  exact ⟨row_cell x2 rfl, row_cell x2 rfl, by rw [e]; exact (bA.setCell (p := ⟨w.heap.size, 0, none⟩) (Nat.le_refl _) _).setCell (p := ⟨w.heap.size, 1, none⟩) (Nat.le_refl _) _⟩
                                go_region_with fail
                                all_goals go_wp2_with fail
                                all_goals
                                  go_simp
                                  obtain ⟨g0, g1, gB⟩ := fin1.out _ rfl
                                  generalize (WA.setCell ⟨w.heap.size, 0, none⟩ (.int .i64 N)).setCell ⟨w.heap.size, 1, none⟩ (.int .i64 D) = W2 at g0 g1 gB ⊢
                                  refine bodyPost_ret (v := .tuple #[.slice none 0 0, .agg #[.int .i64 N, .int .i64 D], .int .i64 120]) (by simp [results, Tryz.results7, go_sem, g0, g1]) rfl ⟨gB.drew, ?_⟩
                                  rw [hF.out]
                                  show Ending.returned _ = Ending.returned _
                                  rw [hcol.out, ← hN.out, HDD.out]
                              | some q =>
                                obtain ⟨kd, y, v⟩ := q
                                rw [hk] at ew
                                obtain rfl := ew
                                have hF := Lib.hid (hI.out.word HB.out H10.out HWB.out (by rw [hpw.out]; rfl) hsh.out (by rw [← HXX.out]; exact hk))
                                clear hk
                                have hrow8 : World.ownsRow ((w7.alloc (.cells #[.int .u8 (kd : Nat), .string (St y), .int .u32 (v : Nat), .int .i64 N, .int .i64 D] 37)).alloc (.cells #[.int .u8 (kd : Nat), .string (St y), .int .u32 (v : Nat), .int .i64 N, .int .i64 D] 37)) (w.heap.size + 1) 37 5 u5 acc.length (tokRow acc) := (hrow7.alloc _).alloc _
                                have hc8 : ((w7.alloc (.cells #[.int .u8 (kd : Nat), .string (St y), .int .u32 (v : Nat), .int .i64 N, .int .i64 D] 37)).alloc (.cells #[.int .u8 (kd : Nat), .string (St y), .int .u32 (v : Nat), .int .i64 N, .int .i64 D] 37)).heap[w7.heap.size + 1]? = some (.cells (tokCells ⟨kd, y, v, n, k - bg + 1⟩).toArray 37 (0, 0)) := by
                                  have e : tokCells ⟨kd, y, v, n, k - bg + 1⟩ = [.int .u8 (kd : Nat), .string (St y), .int .u32 (v : Nat), .int .i64 N, .int .i64 D] := by
                                    simp only [tokCells, hcol.out, ← hN.out, HDD.out]
                                  rw [e]
                                  exact row_born (World.size_alloc _ _)
                                have hb8 : w.heap.size + 1 ≤ ((w7.alloc (.cells #[.int .u8 (kd : Nat), .string (St y), .int .u32 (v : Nat), .int .i64 N, .int .i64 D] 37)).alloc (.cells #[.int .u8 (kd : Nat), .string (St y), .int .u32 (v : Nat), .int .i64 N, .int .i64 D] 37)).heap.size := by rw [World.size_alloc, World.size_alloc]; omega
                                have hw8 : Below w.heap.size w ((w7.alloc (.cells #[.int .u8 (kd : Nat), .string (St y), .int .u32 (v : Nat), .int .i64 N, .int .i64 D] 37)).alloc (.cells #[.int .u8 (kd : Nat), .string (St y), .int .u32 (v : Nat), .int .i64 N, .int .i64 D] 37)) := (hw7.alloc hw7.size _).alloc (by rw [World.size_alloc]; exact Nat.le_succ_of_le hw7.size) _
                                have hp8 : ((w7.alloc (.cells #[.int .u8 (kd : Nat), .string (St y), .int .u32 (v : Nat), .int .i64 N, .int .i64 D] 37)).alloc (.cells #[.int .u8 (kd : Nat), .string (St y), .int .u32 (v : Nat), .int .i64 N, .int .i64 D] 37)).heap[w.heap.size]? = some (.cells #[.int .i64 0, .int .i64 0] 25 (0, 0)) := row_alloc (row_alloc hpos7)
                                go_wp2_with (at_builtin; refine wpList_tok rfl _ _ rfl (w.heap.size + 1) _ acc.length (tokRow acc) ⟨kd, y, v, n, k - bg + 1⟩ ?p51 hrow8 hb8 (w7.heap.size + 1) 1 ?p54 hc8 hacc ?p56; (case p51 => rfl); (case p54 => rfl); intro g' c' V1 a1 a2)
                                obtain ⟨q1, q2, q3⟩ := lex_add hrow8 hw8 hb8 hp8 a2
                                go_roundw
                                case rel => exact ⟨k + 1, n, bg, N, BG, true, false, acc ++ [⟨kd, y, v, n, k - bg + 1⟩], by omega, rfl, rfl, by first | rfl | simp, by first | rfl | simp, by first | rfl | simp, hN, hBG, hn1, by omega, hb1, by omega, by unfold Hid; rw [List.length_append, tokRow_snoc]; exact a1, q1, q2, q3, .inl hF.out⟩
                                case measure => first | (simp [intOf]; done) | (simp [intOf]; omega)
                          · have hlt3 : ¬ (a : Int) < (s.size : Int) := by omega
                            go_wp2_with fail
                            refine (WD.out _).mono ?_
                            rintro e w7 ⟨ew, g7⟩
                            have hrow7 := own_bel hrow.out g7
                            have hpos7 := bel_heap g7 hpos.out
                            have hw7 := hw.trans (g7.mono hw.size)
                            have hws7 := Nat.le_trans hws g7.size
                            unfold WordO at ew
                            cases hk : tokW x with
                            | none =>
                              rw [hk] at ew
                              obtain ⟨k', s', v', rfl⟩ := ew
                              have hF := Lib.hid (hI.out.bad HB.out H10.out HWB.out (by rw [hpw.out]; rfl) hsh.out (by rw [← HXX.out]; exact hk))
                              clear hk
                              have hpA : (w7.alloc (.cells #[.int .u8 k', .string s', .int .u32 v', .int .i64 N, .int .i64 D] 37)).heap[w.heap.size]? = some (.cells #[.int .i64 0, .int .i64 0] 25 (0, 0)) := row_alloc hpos7
                              have hTA := heap_alloc_last w7 (.cells #[.int .u8 k', .string s', .int .u32 v', .int .i64 N, .int .i64 D] 37)
                              have bA : Below w.heap.size w (w7.alloc (.cells #[.int .u8 k', .string s', .int .u32 v', .int .i64 N, .int .i64 D] 37)) := hw7.alloc hw7.size _
                              have zA : (w7.alloc (.cells #[.int .u8 k', .string s', .int .u32 v', .int .i64 N, .int .i64 D] 37)).heap.size = w7.heap.size + 1 := World.size_alloc _ _
                              go_upto_region 24 with (fail)
                              generalize hWA : w7.alloc (.cells #[.int .u8 k', .string s', .int .u32 v', .int .i64 N, .int .i64 D] 37) = WA at hpA hTA bA zA ⊢
                              clear hWA
                              have t3 := row_cell hTA (j := 3) rfl
                              have t4 := row_cell hTA (j := 4) rfl
                              have c0 := row_cell hpA (j := 0) rfl
                              have c1 := row_cell hpA (j := 1) rfl
                              have f0 := row_frozen (j := 0) hpA
                              have f1 := row_frozen (j := 1) hpA
                              have sA : w.heap.size < WA.heap.size := by omega
                              have fin1 : Hid (∀ W2, W2 = (WA.setCell ⟨w.heap.size, 0, none⟩ (.int .i64 N)).setCell ⟨w.heap.size, 1, none⟩ (.int .i64 D) → W2.cell? ⟨w.heap.size, 0, none⟩ = some (.int .i64 N) ∧ W2.cell? ⟨w.heap.size, 1, none⟩ = some (.int .i64 D) ∧ Below w.heap.size w W2) := fun W2 e => by
                                have x2 := heap_setCell_same _ w.heap.size 1 _ _ (.int .i64 D) (heap_setCell_same _ w.heap.size 0 _ _ (.int .i64 N) hpA)
                                rw [← e] at x2
                                exact ⟨row_cell x2 rfl, row_cell x2 rfl, by rw [e]; exact (bA.setCell (p := ⟨w.heap.size, 0, none⟩) (Nat.le_refl _) _).setCell (p := ⟨w.heap.size, 1, none⟩) (Nat.le_refl _) _⟩
                              go_region_with fail
                              all_goals go_wp2_with fail
                              all_goals
                                go_simp
                                obtain ⟨g0, g1, gB⟩ := fin1.out _ rfl
                                generalize (WA.setCell ⟨w.heap.size, 0, none⟩ (.int .i64 N)).setCell ⟨w.heap.size, 1, none⟩ (.int .i64 D) = W2 at g0 g1 gB ⊢
                                refine bodyPost_ret (v := .tuple #[.slice none 0 0, .agg #[.int .i64 N, .int .i64 D], .int .i64 120]) (by simp [results, Tryz.results7, go_sem, g0, g1]) rfl ⟨gB.drew, ?_⟩
                                rw [hF.out]
                                show Ending.returned _ = Ending.returned _
                                rw [hcol.out, ← hN.out, HDD.out]
                            | some q =>
                              obtain ⟨kd, y, v⟩ := q
                              rw [hk] at ew
                              obtain rfl := ew
                              have hF := Lib.hid (hI.out.word HB.out H10.out HWB.out (by rw [hpw.out]; rfl) hsh.out (by rw [← HXX.out]; exact hk))
                              clear hk
                              have hrow8 : World.ownsRow ((w7.alloc (.cells #[.int .u8 (kd : Nat), .string (St y), .int .u32 (v : Nat), .int .i64 N, .int .i64 D] 37)).alloc (.cells #[.int .u8 (kd : Nat), .string (St y), .int .u32 (v : Nat), .int .i64 N, .int .i64 D] 37)) (w.heap.size + 1) 37 5 u5 acc.length (tokRow acc) := (hrow7.alloc _).alloc _
                              have hc8 : ((w7.alloc (.cells #[.int .u8 (kd : Nat), .string (St y), .int .u32 (v : Nat), .int .i64 N, .int .i64 D] 37)).alloc (.cells #[.int .u8 (kd : Nat), .string (St y), .int .u32 (v : Nat), .int .i64 N, .int .i64 D] 37)).heap[w7.heap.size + 1]? = some (.cells (tokCells ⟨kd, y, v, n, k - bg + 1⟩).toArray 37 (0, 0)) := by
                                have e : tokCells ⟨kd, y, v, n, k - bg + 1⟩ = [.int .u8 (kd : Nat), .string (St y), .int .u32 (v : Nat), .int .i64 N, .int .i64 D] := by
                                  simp only [tokCells, hcol.out, ← hN.out, HDD.out]
                                rw [e]
                                exact row_born (World.size_alloc _ _)
                              have hb8 : w.heap.size + 1 ≤ ((w7.alloc (.cells #[.int .u8 (kd : Nat), .string (St y), .int .u32 (v : Nat), .int .i64 N, .int .i64 D] 37)).alloc (.cells #[.int .u8 (kd : Nat), .string (St y), .int .u32 (v : Nat), .int .i64 N, .int .i64 D] 37)).heap.size := by rw [World.size_alloc, World.size_alloc]; omega
                              have hw8 : Below w.heap.size w ((w7.alloc (.cells #[.int .u8 (kd : Nat), .string (St y), .int .u32 (v : Nat), .int .i64 N, .int .i64 D] 37)).alloc (.cells #[.int .u8 (kd : Nat), .string (St y), .int .u32 (v : Nat), .int .i64 N, .int .i64 D] 37)) := (hw7.alloc hw7.size _).alloc (by rw [World.size_alloc]; exact Nat.le_succ_of_le hw7.size) _
                              have hp8 : ((w7.alloc (.cells #[.int .u8 (kd : Nat), .string (St y), .int .u32 (v : Nat), .int .i64 N, .int .i64 D] 37)).alloc (.cells #[.int .u8 (kd : Nat), .string (St y), .int .u32 (v : Nat), .int .i64 N, .int .i64 D] 37)).heap[w.heap.size]? = some (.cells #[.int .i64 0, .int .i64 0] 25 (0, 0)) := row_alloc (row_alloc hpos7)
                              go_wp2_with (at_builtin; refine wpList_tok rfl _ _ rfl (w.heap.size + 1) _ acc.length (tokRow acc) ⟨kd, y, v, n, k - bg + 1⟩ ?p61 hrow8 hb8 (w7.heap.size + 1) 1 ?p64 hc8 hacc ?p66; (case p61 => rfl); (case p64 => rfl); intro g' c' V1 a1 a2)
                              obtain ⟨q1, q2, q3⟩ := lex_add hrow8 hw8 hb8 hp8 a2
                              go_roundw
                              case rel => exact ⟨k + 1, n, bg, N, BG, true, false, acc ++ [⟨kd, y, v, n, k - bg + 1⟩], by omega, rfl, rfl, by first | rfl | simp, by first | rfl | simp, by first | rfl | simp, hN, hBG, hn1, by omega, hb1, by omega, by unfold Hid; rw [List.length_append, tokRow_snoc]; exact a1, q1, q2, q3, .inl hF.out⟩
                              case measure => first | (simp [intOf]; done) | (simp [intOf]; omega)
              · have hpw : Hid (pwAt l bg k = false) := by
                  unfold Hid pwAt
                  rw [decide_eq_false (by have := hBG.out; omega)]; rfl
                cases sm with
                | true =>
                  have hsh : Hid ((!true && b == 35) = false) := by unfold Hid; simp
                  obtain ⟨x, hx⟩ : ∃ x, x = (l.drop k).takeWhile inW := ⟨_, rfl⟩
                  have HXX := Lib.hid hx
                  obtain ⟨en, hen⟩ : ∃ en, en = k + x.length := ⟨_, rfl⟩
                  have hle : en ≤ s.size := by rw [hen, hx, HZ.out]; exact word_le l k (by rw [← HZ.out]; exact hk2)
                  have hke : k ≤ en := by omega
                  have IN : Hid (∀ a, k ≤ a → a < en → ∃ b, l[a]? = some b ∧ inW b = true) := fun a h1 h2 => word_in h1 (by rw [← hx, ← hen]; exact h2)
                  have EN : Hid (en < l.length → ∃ b, l[en]? = some b ∧ inW b = false) := fun h => word_end (by rw [← hx, ← hen]) h
                  have EX : Hid (s.extract k en = St x) := by unfold Hid; rw [hx]; exact WE.out k en (by rw [← hx, ← hen])
                  have hx0 : x ≠ [] := fun e => by
                    have := drop_at HB.out
                    rw [hx, this, List.takeWhile_cons, if_pos (by unfold inW; rw [HWB.out]; simp [H10.out])] at e
                    cases e
                  have WD := Lib.hid (fun W => Word_at x (by omega) hx0 W)
                  have hen1 : (en : Int) ≤ (s.size : Int) := by omega
                  have hke1 : (k : Int) ≤ (en : Int) := by omega
                  clear hx hen hx0
                  obtain ⟨D, hD⟩ : ∃ D, (k : Int) - BG + 1 = D := ⟨_, rfl⟩
                  have HDD := Lib.hid hD
                  go_wp2_with fail
                  refine (WB.out _).mono ?_; rintro e w2 ⟨rfl, rfl⟩
                  go_wp2_with fail
                  go_loopw [11] (fun y wi => ∃ a : Nat, k ≤ a ∧ a ≤ en ∧ y = .int .i64 (a : Nat) ∧ wi = V) (fun y _ => ((en : Int) - intOf y).toNat)
                  case atStart => exact ⟨k, Nat.le_refl _, hke, rfl, rfl⟩
                  case round =>
                    obtain ⟨a, ha1, ha2, rfl, rfl⟩ := hrel
                    by_cases hae : a < en
                    · have hlt2 : a < s.size := by omega
                      have hlt3 : (a : Int) < (s.size : Int) := by omega
                      obtain ⟨c, hc1, hc2⟩ := IN.out a ha1 hae
                      have hc3 : s[a]'hlt2 = c := by have := HX.out a hlt2; rw [hc1] at this; exact (Option.some.inj this).symm
                      have hcw : isW c = false := by unfold inW at hc2; simp at hc2; exact hc2.1
                      have hc10 : ((c.toNat : Int) == 10) = false := by
                        unfold inW at hc2; simp at hc2
                        rw [beq_eq_false_iff_ne]
                        intro h
                        exact hc2.2 (UInt8.toNat_inj.1 (show c.toNat = (10 : UInt8).toNat by show c.toNat = 10; omega))
                      have hc12 : ¬ (c.toNat : Int) = 10 := by simpa using hc10
                      have WC := Lib.hid (fun W => refWhite_at c W)
                      rw [hcw] at WC
                      clear hc1 hc2 hcw
                      go_wp2_with fail
                      refine (WC.out _).mono ?_; rintro e w4 ⟨rfl, rfl⟩
                      go_wp2_with fail
                      go_roundw
                      case rel => exact ⟨a + 1, by omega, by omega, by simp, (by first | rfl | trivial)⟩
                      case measure => simp [intOf]; omega
                    · have hae2 : a = en := by omega
                      clear hae ha1 ha2
                      subst hae2
                      have ex := EX.out
                      by_cases hes : a < s.size
                      · have hlt3 : (a : Int) < (s.size : Int) := by omega
                        obtain ⟨c, hc1, hc2⟩ := EN.out (by rw [← HZ.out]; exact hes)
                        have hc3 : s[a]'hes = c := by have := HX.out a hes; rw [hc1] at this; exact (Option.some.inj this).symm
                        by_cases hc10 : c = 10
                        · subst hc10
                          clear hc1 hc2
                          go_wp2_with fail
                          refine (WD.out _).mono ?_
                          rintro e w7 ⟨ew, g7⟩
                          have hrow7 := own_bel hrow.out g7
                          have hpos7 := bel_heap g7 hpos.out
                          have hw7 := hw.trans (g7.mono hw.size)
                          have hws7 := Nat.le_trans hws g7.size
                          unfold WordO at ew
                          cases hk : tokW x with
                          | none =>
                            rw [hk] at ew
                            obtain ⟨k', s', v', rfl⟩ := ew
                            have hF := Lib.hid (hI.out.bad HB.out H10.out HWB.out (by rw [hpw.out]; rfl) hsh.out (by rw [← HXX.out]; exact hk))
                            clear hk
                            have hpA : (w7.alloc (.cells #[.int .u8 k', .string s', .int .u32 v', .int .i64 N, .int .i64 D] 37)).heap[w.heap.size]? = some (.cells #[.int .i64 0, .int .i64 0] 25 (0, 0)) := row_alloc hpos7
                            have hTA := heap_alloc_last w7 (.cells #[.int .u8 k', .string s', .int .u32 v', .int .i64 N, .int .i64 D] 37)
                            have bA : Below w.heap.size w (w7.alloc (.cells #[.int .u8 k', .string s', .int .u32 v', .int .i64 N, .int .i64 D] 37)) := hw7.alloc hw7.size _
                            have zA : (w7.alloc (.cells #[.int .u8 k', .string s', .int .u32 v', .int .i64 N, .int .i64 D] 37)).heap.size = w7.heap.size + 1 := World.size_alloc _ _
                            go_upto_region 24 with (fail)
                            generalize hWA : w7.alloc (.cells #[.int .u8 k', .string s', .int .u32 v', .int .i64 N, .int .i64 D] 37) = WA at hpA hTA bA zA ⊢
                            clear hWA
                            have t3 := row_cell hTA (j := 3) rfl
                            have t4 := row_cell hTA (j := 4) rfl
                            have c0 := row_cell hpA (j := 0) rfl
                            have c1 := row_cell hpA (j := 1) rfl
                            have f0 := row_frozen (j := 0) hpA
                            have f1 := row_frozen (j := 1) hpA
                            have sA : w.heap.size < WA.heap.size := by omega
                            have fin1 : Hid (∀ W2, W2 = (WA.setCell ⟨w.heap.size, 0, none⟩ (.int .i64 N)).setCell ⟨w.heap.size, 1, none⟩ (.int .i64 D) → W2.cell? ⟨w.heap.size, 0, none⟩ = some (.int .i64 N) ∧ W2.cell? ⟨w.heap.size, 1, none⟩ = some (.int .i64 D) ∧ Below w.heap.size w W2) := fun W2 e => by
                              have x2 := heap_setCell_same _ w.heap.size 1 _ _ (.int .i64 D) (heap_setCell_same _ w.heap.size 0 _ _ (.int .i64 N) hpA)
                              rw [← e] at x2
                              exact ⟨row_cell x2 rfl, row_cell x2 rfl, by rw [e]; exact (bA.setCell (p := ⟨w.heap.size, 0, none⟩) (Nat.le_refl _) _).setCell (p := ⟨w.heap.size, 1, none⟩) (Nat.le_refl _) _⟩
                            go_region_with fail
                            all_goals go_wp2_with fail
                            all_goals
                              go_simp
                              obtain ⟨g0, g1, gB⟩ := fin1.out _ rfl
                              generalize (WA.setCell ⟨w.heap.size, 0, none⟩ (.int .i64 N)).setCell ⟨w.heap.size, 1, none⟩ (.int .i64 D) = W2 at g0 g1 gB ⊢
                              refine bodyPost_ret (v := .tuple #[.slice none 0 0, .agg #[.int .i64 N, .int .i64 D], .int .i64 120]) (by simp [results, Tryz.results7, go_sem, g0, g1]) rfl ⟨gB.drew, ?_⟩
                              rw [hF.out]
                              show Ending.returned _ = Ending.returned _
                              rw [hcol.out, ← hN.out, HDD.out]
                          | some q =>
                            obtain ⟨kd, y, v⟩ := q
                            rw [hk] at ew
                            obtain rfl := ew
                            have hF := Lib.hid (hI.out.word HB.out H10.out HWB.out (by rw [hpw.out]; rfl) hsh.out (by rw [← HXX.out]; exact hk))
                            clear hk
                            have hrow8 : World.ownsRow ((w7.alloc (.cells #[.int .u8 (kd : Nat), .string (St y), .int .u32 (v : Nat), .int .i64 N, .int .i64 D] 37)).alloc (.cells #[.int .u8 (kd : Nat), .string (St y), .int .u32 (v : Nat), .int .i64 N, .int .i64 D] 37)) (w.heap.size + 1) 37 5 u5 acc.length (tokRow acc) := (hrow7.alloc _).alloc _
                            have hc8 : ((w7.alloc (.cells #[.int .u8 (kd : Nat), .string (St y), .int .u32 (v : Nat), .int .i64 N, .int .i64 D] 37)).alloc (.cells #[.int .u8 (kd : Nat), .string (St y), .int .u32 (v : Nat), .int .i64 N, .int .i64 D] 37)).heap[w7.heap.size + 1]? = some (.cells (tokCells ⟨kd, y, v, n, k - bg + 1⟩).toArray 37 (0, 0)) := by
                              have e : tokCells ⟨kd, y, v, n, k - bg + 1⟩ = [.int .u8 (kd : Nat), .string (St y), .int .u32 (v : Nat), .int .i64 N, .int .i64 D] := by
                                simp only [tokCells, hcol.out, ← hN.out, HDD.out]
                              rw [e]
                              exact row_born (World.size_alloc _ _)
                            have hb8 : w.heap.size + 1 ≤ ((w7.alloc (.cells #[.int .u8 (kd : Nat), .string (St y), .int .u32 (v : Nat), .int .i64 N, .int .i64 D] 37)).alloc (.cells #[.int .u8 (kd : Nat), .string (St y), .int .u32 (v : Nat), .int .i64 N, .int .i64 D] 37)).heap.size := by rw [World.size_alloc, World.size_alloc]; omega
                            have hw8 : Below w.heap.size w ((w7.alloc (.cells #[.int .u8 (kd : Nat), .string (St y), .int .u32 (v : Nat), .int .i64 N, .int .i64 D] 37)).alloc (.cells #[.int .u8 (kd : Nat), .string (St y), .int .u32 (v : Nat), .int .i64 N, .int .i64 D] 37)) := (hw7.alloc hw7.size _).alloc (by rw [World.size_alloc]; exact Nat.le_succ_of_le hw7.size) _
                            have hp8 : ((w7.alloc (.cells #[.int .u8 (kd : Nat), .string (St y), .int .u32 (v : Nat), .int .i64 N, .int .i64 D] 37)).alloc (.cells #[.int .u8 (kd : Nat), .string (St y), .int .u32 (v : Nat), .int .i64 N, .int .i64 D] 37)).heap[w.heap.size]? = some (.cells #[.int .i64 0, .int .i64 0] 25 (0, 0)) := row_alloc (row_alloc hpos7)
                            go_wp2_with (at_builtin; refine wpList_tok rfl _ _ rfl (w.heap.size + 1) _ acc.length (tokRow acc) ⟨kd, y, v, n, k - bg + 1⟩ ?p71 hrow8 hb8 (w7.heap.size + 1) 1 ?p74 hc8 hacc ?p76; (case p71 => rfl); (case p74 => rfl); intro g' c' V1 a1 a2)
                            obtain ⟨q1, q2, q3⟩ := lex_add hrow8 hw8 hb8 hp8 a2
                            go_roundw
                            case rel => exact ⟨k + 1, n, bg, N, BG, true, false, acc ++ [⟨kd, y, v, n, k - bg + 1⟩], by omega, rfl, rfl, by first | rfl | simp, by first | rfl | simp, by first | rfl | simp, hN, hBG, hn1, by omega, hb1, by omega, by unfold Hid; rw [List.length_append, tokRow_snoc]; exact a1, q1, q2, q3, .inl hF.out⟩
                            case measure => first | (simp [intOf]; done) | (simp [intOf]; omega)
                        · have hcw : isW c = true := by unfold inW at hc2; simpa [hc10] using hc2
                          have hc11 : ((c.toNat : Int) == 10) = false := by
                            rw [beq_eq_false_iff_ne]
                            intro h
                            exact hc10 (UInt8.toNat_inj.1 (show c.toNat = (10 : UInt8).toNat by show c.toNat = 10; omega))
                          have hc12 : ¬ (c.toNat : Int) = 10 := by simpa using hc11
                          have WC := Lib.hid (fun W => refWhite_at c W)
                          rw [hcw] at WC
                          clear hc1 hc2 hcw hc10
                          go_wp2_with fail
                          refine (WC.out _).mono ?_; rintro e w4 ⟨rfl, rfl⟩
                          go_wp2_with fail
                          refine (WD.out _).mono ?_
                          rintro e w7 ⟨ew, g7⟩
                          have hrow7 := own_bel hrow.out g7
                          have hpos7 := bel_heap g7 hpos.out
                          have hw7 := hw.trans (g7.mono hw.size)
                          have hws7 := Nat.le_trans hws g7.size
                          unfold WordO at ew
                          cases hk : tokW x with
                          | none =>
                            rw [hk] at ew
                            obtain ⟨k', s', v', rfl⟩ := ew
                            have hF := Lib.hid (hI.out.bad HB.out H10.out HWB.out (by rw [hpw.out]; rfl) hsh.out (by rw [← HXX.out]; exact hk))
                            clear hk
                            have hpA : (w7.alloc (.cells #[.int .u8 k', .string s', .int .u32 v', .int .i64 N, .int .i64 D] 37)).heap[w.heap.size]? = some (.cells #[.int .i64 0, .int .i64 0] 25 (0, 0)) := row_alloc hpos7
                            have hTA := heap_alloc_last w7 (.cells #[.int .u8 k', .string s', .int .u32 v', .int .i64 N, .int .i64 D] 37)
                            have bA : Below w.heap.size w (w7.alloc (.cells #[.int .u8 k', .string s', .int .u32 v', .int .i64 N, .int .i64 D] 37)) := hw7.alloc hw7.size _
                            have zA : (w7.alloc (.cells #[.int .u8 k', .string s', .int .u32 v', .int .i64 N, .int .i64 D] 37)).heap.size = w7.heap.size + 1 := World.size_alloc _ _
                            go_upto_region 24 with (fail)
                            generalize hWA : w7.alloc (.cells #[.int .u8 k', .string s', .int .u32 v', .int .i64 N, .int .i64 D] 37) = WA at hpA hTA bA zA ⊢
                            clear hWA
                            have t3 := row_cell hTA (j := 3) rfl
                            have t4 := row_cell hTA (j := 4) rfl
                            have c0 := row_cell hpA (j := 0) rfl
                            have c1 := row_cell hpA (j := 1) rfl
                            have f0 := row_frozen (j := 0) hpA
                            have f1 := row_frozen (j := 1) hpA
                            have sA : w.heap.size < WA.heap.size := by omega
                            have fin1 : Hid (∀ W2, W2 = (WA.setCell ⟨w.heap.size, 0, none⟩ (.int .i64 N)).setCell ⟨w.heap.size, 1, none⟩ (.int .i64 D) → W2.cell? ⟨w.heap.size, 0, none⟩ = some (.int .i64 N) ∧ W2.cell? ⟨w.heap.size, 1, none⟩ = some (.int .i64 D) ∧ Below w.heap.size w W2) := fun W2 e => by
                              have x2 := heap_setCell_same _ w.heap.size 1 _ _ (.int .i64 D) (heap_setCell_same _ w.heap.size 0 _ _ (.int .i64 N) hpA)
                              rw [← e] at x2
                              exact ⟨row_cell x2 rfl, row_cell x2 rfl, by rw [e]; exact (bA.setCell (p := ⟨w.heap.size, 0, none⟩) (Nat.le_refl _) _).setCell (p := ⟨w.heap.size, 1, none⟩) (Nat.le_refl _) _⟩
                            go_region_with fail
                            all_goals go_wp2_with fail
                            all_goals
                              go_simp
                              obtain ⟨g0, g1, gB⟩ := fin1.out _ rfl
                              generalize (WA.setCell ⟨w.heap.size, 0, none⟩ (.int .i64 N)).setCell ⟨w.heap.size, 1, none⟩ (.int .i64 D) = W2 at g0 g1 gB ⊢
                              refine bodyPost_ret (v := .tuple #[.slice none 0 0, .agg #[.int .i64 N, .int .i64 D], .int .i64 120]) (by simp [results, Tryz.results7, go_sem, g0, g1]) rfl ⟨gB.drew, ?_⟩
                              rw [hF.out]
                              show Ending.returned _ = Ending.returned _
                              rw [hcol.out, ← hN.out, HDD.out]
                          | some q =>
                            obtain ⟨kd, y, v⟩ := q
                            rw [hk] at ew
                            obtain rfl := ew
                            have hF := Lib.hid (hI.out.word HB.out H10.out HWB.out (by rw [hpw.out]; rfl) hsh.out (by rw [← HXX.out]; exact hk))
                            clear hk
                            have hrow8 : World.ownsRow ((w7.alloc (.cells #[.int .u8 (kd : Nat), .string (St y), .int .u32 (v : Nat), .int .i64 N, .int .i64 D] 37)).alloc (.cells #[.int .u8 (kd : Nat), .string (St y), .int .u32 (v : Nat), .int .i64 N, .int .i64 D] 37)) (w.heap.size + 1) 37 5 u5 acc.length (tokRow acc) := (hrow7.alloc _).alloc _
                            have hc8 : ((w7.alloc (.cells #[.int .u8 (kd : Nat), .string (St y), .int .u32 (v : Nat), .int .i64 N, .int .i64 D] 37)).alloc (.cells #[.int .u8 (kd : Nat), .string (St y), .int .u32 (v : Nat), .int .i64 N, .int .i64 D] 37)).heap[w7.heap.size + 1]? = some (.cells (tokCells ⟨kd, y, v, n, k - bg + 1⟩).toArray 37 (0, 0)) := by
                              have e : tokCells ⟨kd, y, v, n, k - bg + 1⟩ = [.int .u8 (kd : Nat), .string (St y), .int .u32 (v : Nat), .int .i64 N, .int .i64 D] := by
                                simp only [tokCells, hcol.out, ← hN.out, HDD.out]
                              rw [e]
                              exact row_born (World.size_alloc _ _)
                            have hb8 : w.heap.size + 1 ≤ ((w7.alloc (.cells #[.int .u8 (kd : Nat), .string (St y), .int .u32 (v : Nat), .int .i64 N, .int .i64 D] 37)).alloc (.cells #[.int .u8 (kd : Nat), .string (St y), .int .u32 (v : Nat), .int .i64 N, .int .i64 D] 37)).heap.size := by rw [World.size_alloc, World.size_alloc]; omega
                            have hw8 : Below w.heap.size w ((w7.alloc (.cells #[.int .u8 (kd : Nat), .string (St y), .int .u32 (v : Nat), .int .i64 N, .int .i64 D] 37)).alloc (.cells #[.int .u8 (kd : Nat), .string (St y), .int .u32 (v : Nat), .int .i64 N, .int .i64 D] 37)) := (hw7.alloc hw7.size _).alloc (by rw [World.size_alloc]; exact Nat.le_succ_of_le hw7.size) _
                            have hp8 : ((w7.alloc (.cells #[.int .u8 (kd : Nat), .string (St y), .int .u32 (v : Nat), .int .i64 N, .int .i64 D] 37)).alloc (.cells #[.int .u8 (kd : Nat), .string (St y), .int .u32 (v : Nat), .int .i64 N, .int .i64 D] 37)).heap[w.heap.size]? = some (.cells #[.int .i64 0, .int .i64 0] 25 (0, 0)) := row_alloc (row_alloc hpos7)
                            go_wp2_with (at_builtin; refine wpList_tok rfl _ _ rfl (w.heap.size + 1) _ acc.length (tokRow acc) ⟨kd, y, v, n, k - bg + 1⟩ ?p81 hrow8 hb8 (w7.heap.size + 1) 1 ?p84 hc8 hacc ?p86; (case p81 => rfl); (case p84 => rfl); intro g' c' V1 a1 a2)
                            obtain ⟨q1, q2, q3⟩ := lex_add hrow8 hw8 hb8 hp8 a2
                            go_roundw
                            case rel => exact ⟨k + 1, n, bg, N, BG, true, false, acc ++ [⟨kd, y, v, n, k - bg + 1⟩], by omega, rfl, rfl, by first | rfl | simp, by first | rfl | simp, by first | rfl | simp, hN, hBG, hn1, by omega, hb1, by omega, by unfold Hid; rw [List.length_append, tokRow_snoc]; exact a1, q1, q2, q3, .inl hF.out⟩
                            case measure => first | (simp [intOf]; done) | (simp [intOf]; omega)
                      · have hlt3 : ¬ (a : Int) < (s.size : Int) := by omega
                        go_wp2_with fail
                        refine (WD.out _).mono ?_
                        rintro e w7 ⟨ew, g7⟩
                        have hrow7 := own_bel hrow.out g7
                        have hpos7 := bel_heap g7 hpos.out
                        have hw7 := hw.trans (g7.mono hw.size)
                        have hws7 := Nat.le_trans hws g7.size
                        unfold WordO at ew
                        cases hk : tokW x with
                        | none =>
                          rw [hk] at ew
                          obtain ⟨k', s', v', rfl⟩ := ew
                          have hF := Lib.hid (hI.out.bad HB.out H10.out HWB.out (by rw [hpw.out]; rfl) hsh.out (by rw [← HXX.out]; exact hk))
                          clear hk
                          have hpA : (w7.alloc (.cells #[.int .u8 k', .string s', .int .u32 v', .int .i64 N, .int .i64 D] 37)).heap[w.heap.size]? = some (.cells #[.int .i64 0, .int .i64 0] 25 (0, 0)) := row_alloc hpos7
                          have hTA := heap_alloc_last w7 (.cells #[.int .u8 k', .string s', .int .u32 v', .int .i64 N, .int .i64 D] 37)
                          have bA : Below w.heap.size w (w7.alloc (.cells #[.int .u8 k', .string s', .int .u32 v', .int .i64 N, .int .i64 D] 37)) := hw7.alloc hw7.size _
                          have zA : (w7.alloc (.cells #[.int .u8 k', .string s', .int .u32 v', .int .i64 N, .int .i64 D] 37)).heap.size = w7.heap.size + 1 := World.size_alloc _ _
                          go_upto_region 24 with (fail)
                          generalize hWA : w7.alloc (.cells #[.int .u8 k', .string s', .int .u32 v', .int .i64 N, .int .i64 D] 37) = WA at hpA hTA bA zA ⊢
                          clear hWA
                          have t3 := row_cell hTA (j := 3) rfl
                          have t4 := row_cell hTA (j := 4) rfl
                          have c0 := row_cell hpA (j := 0) rfl
                          have c1 := row_cell hpA (j := 1) rfl
                          have f0 := row_frozen (j := 0) hpA
                          have f1 := row_frozen (j := 1) hpA
                          have sA : w.heap.size < WA.heap.size := by omega
                          have fin1 : Hid (∀ W2, W2 = (WA.setCell ⟨w.heap.size, 0, none⟩ (.int .i64 N)).setCell ⟨w.heap.size, 1, none⟩ (.int .i64 D) → W2.cell? ⟨w.heap.size, 0, none⟩ = some (.int .i64 N) ∧ W2.cell? ⟨w.heap.size, 1, none⟩ = some (.int .i64 D) ∧ Below w.heap.size w W2) := fun W2 e => by
                            have x2 := heap_setCell_same _ w.heap.size 1 _ _ (.int .i64 D) (heap_setCell_same _ w.heap.size 0 _ _ (.int .i64 N) hpA)
                            rw [← e] at x2
                            exact ⟨row_cell x2 rfl, row_cell x2 rfl, by rw [e]; exact (bA.setCell (p := ⟨w.heap.size, 0, none⟩) (Nat.le_refl _) _).setCell (p := ⟨w.heap.size, 1, none⟩) (Nat.le_refl _) _⟩
                          go_region_with fail
                          all_goals go_wp2_with fail
                          all_goals
                            go_simp
                            obtain ⟨g0, g1, gB⟩ := fin1.out _ rfl
                            generalize (WA.setCell ⟨w.heap.size, 0, none⟩ (.int .i64 N)).setCell ⟨w.heap.size, 1, none⟩ (.int .i64 D) = W2 at g0 g1 gB ⊢
                            refine bodyPost_ret (v := .tuple #[.slice none 0 0, .agg #[.int .i64 N, .int .i64 D], .int .i64 120]) (by simp [results, Tryz.results7, go_sem, g0, g1]) rfl ⟨gB.drew, ?_⟩
                            rw [hF.out]
                            show Ending.returned _ = Ending.returned _
                            rw [hcol.out, ← hN.out, HDD.out]
                        | some q =>
                          obtain ⟨kd, y, v⟩ := q
                          rw [hk] at ew
                          obtain rfl := ew
                          have hF := Lib.hid (hI.out.word HB.out H10.out HWB.out (by rw [hpw.out]; rfl) hsh.out (by rw [← HXX.out]; exact hk))
                          clear hk
                          have hrow8 : World.ownsRow ((w7.alloc (.cells #[.int .u8 (kd : Nat), .string (St y), .int .u32 (v : Nat), .int .i64 N, .int .i64 D] 37)).alloc (.cells #[.int .u8 (kd : Nat), .string (St y), .int .u32 (v : Nat), .int .i64 N, .int .i64 D] 37)) (w.heap.size + 1) 37 5 u5 acc.length (tokRow acc) := (hrow7.alloc _).alloc _
                          have hc8 : ((w7.alloc (.cells #[.int .u8 (kd : Nat), .string (St y), .int .u32 (v : Nat), .int .i64 N, .int .i64 D] 37)).alloc (.cells #[.int .u8 (kd : Nat), .string (St y), .int .u32 (v : Nat), .int .i64 N, .int .i64 D] 37)).heap[w7.heap.size + 1]? = some (.cells (tokCells ⟨kd, y, v, n, k - bg + 1⟩).toArray 37 (0, 0)) := by
                            have e : tokCells ⟨kd, y, v, n, k - bg + 1⟩ = [.int .u8 (kd : Nat), .string (St y), .int .u32 (v : Nat), .int .i64 N, .int .i64 D] := by
                              simp only [tokCells, hcol.out, ← hN.out, HDD.out]
                            rw [e]
                            exact row_born (World.size_alloc _ _)
                          have hb8 : w.heap.size + 1 ≤ ((w7.alloc (.cells #[.int .u8 (kd : Nat), .string (St y), .int .u32 (v : Nat), .int .i64 N, .int .i64 D] 37)).alloc (.cells #[.int .u8 (kd : Nat), .string (St y), .int .u32 (v : Nat), .int .i64 N, .int .i64 D] 37)).heap.size := by rw [World.size_alloc, World.size_alloc]; omega
                          have hw8 : Below w.heap.size w ((w7.alloc (.cells #[.int .u8 (kd : Nat), .string (St y), .int .u32 (v : Nat), .int .i64 N, .int .i64 D] 37)).alloc (.cells #[.int .u8 (kd : Nat), .string (St y), .int .u32 (v : Nat), .int .i64 N, .int .i64 D] 37)) := (hw7.alloc hw7.size _).alloc (by rw [World.size_alloc]; exact Nat.le_succ_of_le hw7.size) _
                          have hp8 : ((w7.alloc (.cells #[.int .u8 (kd : Nat), .string (St y), .int .u32 (v : Nat), .int .i64 N, .int .i64 D] 37)).alloc (.cells #[.int .u8 (kd : Nat), .string (St y), .int .u32 (v : Nat), .int .i64 N, .int .i64 D] 37)).heap[w.heap.size]? = some (.cells #[.int .i64 0, .int .i64 0] 25 (0, 0)) := row_alloc (row_alloc hpos7)
                          go_wp2_with (at_builtin; refine wpList_tok rfl _ _ rfl (w.heap.size + 1) _ acc.length (tokRow acc) ⟨kd, y, v, n, k - bg + 1⟩ ?p91 hrow8 hb8 (w7.heap.size + 1) 1 ?p94 hc8 hacc ?p96; (case p91 => rfl); (case p94 => rfl); intro g' c' V1 a1 a2)
                          obtain ⟨q1, q2, q3⟩ := lex_add hrow8 hw8 hb8 hp8 a2
                          go_roundw
                          case rel => exact ⟨k + 1, n, bg, N, BG, true, false, acc ++ [⟨kd, y, v, n, k - bg + 1⟩], by omega, rfl, rfl, by first | rfl | simp, by first | rfl | simp, by first | rfl | simp, hN, hBG, hn1, by omega, hb1, by omega, by unfold Hid; rw [List.length_append, tokRow_snoc]; exact a1, q1, q2, q3, .inl hF.out⟩
                          case measure => first | (simp [intOf]; done) | (simp [intOf]; omega)
                | false =>
                  by_cases h35 : b = 35
                  · subst h35
                    have HS := Lib.hid (hI.out.rem HB.out (by rw [hpw.out]; rfl))
                    go_wp2_with fail
                    refine (WB.out _).mono ?_; rintro e w2 ⟨rfl, rfl⟩
                    go_wp2_with fail
                    go_roundw
                    case rel => exact ⟨k + 1, n, bg, N, BG, false, true, acc, by omega, rfl, rfl, by first | rfl | simp, by first | rfl | simp, by first | rfl | simp, hN, hBG, hn1, by omega, hb1, by omega, hrow, hpos, hw, hws, .inl HS.out⟩
                    case measure => first | (simp [intOf]; done) | (simp [intOf]; omega)
                  · have h35' : ((b.toNat : Int) == 35) = false := by
                      rw [beq_eq_false_iff_ne]
                      intro h
                      exact h35 (UInt8.toNat_inj.1 (show b.toNat = (35 : UInt8).toNat by show b.toNat = 35; omega))
                    have H35 := Lib.hid h35
                    clear h35
                    have hsh : Hid ((!false && b == 35) = false) := by unfold Hid; simp [H35.out]
                    obtain ⟨x, hx⟩ : ∃ x, x = (l.drop k).takeWhile inW := ⟨_, rfl⟩
                    have HXX := Lib.hid hx
                    obtain ⟨en, hen⟩ : ∃ en, en = k + x.length := ⟨_, rfl⟩
                    have hle : en ≤ s.size := by rw [hen, hx, HZ.out]; exact word_le l k (by rw [← HZ.out]; exact hk2)
                    have hke : k ≤ en := by omega
                    have IN : Hid (∀ a, k ≤ a → a < en → ∃ b, l[a]? = some b ∧ inW b = true) := fun a h1 h2 => word_in h1 (by rw [← hx, ← hen]; exact h2)
                    have EN : Hid (en < l.length → ∃ b, l[en]? = some b ∧ inW b = false) := fun h => word_end (by rw [← hx, ← hen]) h
                    have EX : Hid (s.extract k en = St x) := by unfold Hid; rw [hx]; exact WE.out k en (by rw [← hx, ← hen])
                    have hx0 : x ≠ [] := fun e => by
                      have := drop_at HB.out
                      rw [hx, this, List.takeWhile_cons, if_pos (by unfold inW; rw [HWB.out]; simp [H10.out])] at e
                      cases e
                    have WD := Lib.hid (fun W => Word_at x (by omega) hx0 W)
                    have hen1 : (en : Int) ≤ (s.size : Int) := by omega
                    have hke1 : (k : Int) ≤ (en : Int) := by omega
                    clear hx hen hx0
                    obtain ⟨D, hD⟩ : ∃ D, (k : Int) - BG + 1 = D := ⟨_, rfl⟩
                    have HDD := Lib.hid hD
                    go_wp2_with fail
                    refine (WB.out _).mono ?_; rintro e w2 ⟨rfl, rfl⟩
                    go_wp2_with fail
                    go_loopw [11] (fun y wi => ∃ a : Nat, k ≤ a ∧ a ≤ en ∧ y = .int .i64 (a : Nat) ∧ wi = V) (fun y _ => ((en : Int) - intOf y).toNat)
                    case atStart => exact ⟨k, Nat.le_refl _, hke, rfl, rfl⟩
                    case round =>
                      obtain ⟨a, ha1, ha2, rfl, rfl⟩ := hrel
                      by_cases hae : a < en
                      · have hlt2 : a < s.size := by omega
                        have hlt3 : (a : Int) < (s.size : Int) := by omega
                        obtain ⟨c, hc1, hc2⟩ := IN.out a ha1 hae
                        have hc3 : s[a]'hlt2 = c := by have := HX.out a hlt2; rw [hc1] at this; exact (Option.some.inj this).symm
                        have hcw : isW c = false := by unfold inW at hc2; simp at hc2; exact hc2.1
                        have hc10 : ((c.toNat : Int) == 10) = false := by
                          unfold inW at hc2; simp at hc2
                          rw [beq_eq_false_iff_ne]
                          intro h
                          exact hc2.2 (UInt8.toNat_inj.1 (show c.toNat = (10 : UInt8).toNat by show c.toNat = 10; omega))
                        have hc12 : ¬ (c.toNat : Int) = 10 := by simpa using hc10
                        have WC := Lib.hid (fun W => refWhite_at c W)
                        rw [hcw] at WC
                        clear hc1 hc2 hcw
                        go_wp2_with fail
                        refine (WC.out _).mono ?_; rintro e w4 ⟨rfl, rfl⟩
                        go_wp2_with fail
                        go_roundw
                        case rel => exact ⟨a + 1, by omega, by omega, by simp, (by first | rfl | trivial)⟩
                        case measure => simp [intOf]; omega
                      · have hae2 : a = en := by omega
                        clear hae ha1 ha2
                        subst hae2
                        have ex := EX.out
                        by_cases hes : a < s.size
                        · have hlt3 : (a : Int) < (s.size : Int) := by omega
                          obtain ⟨c, hc1, hc2⟩ := EN.out (by rw [← HZ.out]; exact hes)
                          have hc3 : s[a]'hes = c := by have := HX.out a hes; rw [hc1] at this; exact (Option.some.inj this).symm
                          by_cases hc10 : c = 10
                          · subst hc10
                            clear hc1 hc2
                            go_wp2_with fail
                            refine (WD.out _).mono ?_
                            rintro e w7 ⟨ew, g7⟩
                            have hrow7 := own_bel hrow.out g7
                            have hpos7 := bel_heap g7 hpos.out
                            have hw7 := hw.trans (g7.mono hw.size)
                            have hws7 := Nat.le_trans hws g7.size
                            unfold WordO at ew
                            cases hk : tokW x with
                            | none =>
                              rw [hk] at ew
                              obtain ⟨k', s', v', rfl⟩ := ew
                              have hF := Lib.hid (hI.out.bad HB.out H10.out HWB.out (by rw [hpw.out]; rfl) hsh.out (by rw [← HXX.out]; exact hk))
                              clear hk
                              have hpA : (w7.alloc (.cells #[.int .u8 k', .string s', .int .u32 v', .int .i64 N, .int .i64 D] 37)).heap[w.heap.size]? = some (.cells #[.int .i64 0, .int .i64 0] 25 (0, 0)) := row_alloc hpos7
                              have hTA := heap_alloc_last w7 (.cells #[.int .u8 k', .string s', .int .u32 v', .int .i64 N, .int .i64 D] 37)
                              have bA : Below w.heap.size w (w7.alloc (.cells #[.int .u8 k', .string s', .int .u32 v', .int .i64 N, .int .i64 D] 37)) := hw7.alloc hw7.size _
                              have zA : (w7.alloc (.cells #[.int .u8 k', .string s', .int .u32 v', .int .i64 N, .int .i64 D] 37)).heap.size = w7.heap.size + 1 := World.size_alloc _ _
                              go_upto_region 24 with (fail)
                              generalize hWA : w7.alloc (.cells #[.int .u8 k', .string s', .int .u32 v', .int .i64 N, .int .i64 D] 37) = WA at hpA hTA bA zA ⊢
                              clear hWA
                              have t3 := row_cell hTA (j := 3) rfl
                              have t4 := row_cell hTA (j := 4) rfl
                              have c0 := row_cell hpA (j := 0) rfl
                              have c1 := row_cell hpA (j := 1) rfl
                              have f0 := row_frozen (j := 0) hpA
                              have f1 := row_frozen (j := 1) hpA
                              have sA : w.heap.size < WA.heap.size := by omega
                              have fin1 : Hid (∀ W2, W2 = (WA.setCell ⟨w.heap.size, 0, none⟩ (.int .i64 N)).setCell ⟨w.heap.size, 1, none⟩ (.int .i64 D) → W2.cell? ⟨w.heap.size, 0, none⟩ = some (.int .i64 N) ∧ W2.cell? ⟨w.heap.size, 1, none⟩ = some (.int .i64 D) ∧ Below w.heap.size w W2) := fun W2 e => by
                                have x2 := heap_setCell_same _ w.heap.size 1 _ _ (.int .i64 D) (heap_setCell_same _ w.heap.size 0 _ _ (.int .i64 N) hpA)
                                rw [← e] at x2
                                exact ⟨row_cell x2 rfl, row_cell x2 rfl, by rw [e]; exact (bA.setCell (p := ⟨w.heap.size, 0, none⟩) (Nat.le_refl _) _).setCell (p := ⟨w.heap.size, 1, none⟩) (Nat.le_refl _) _⟩
                              go_region_with fail
                              all_goals go_wp2_with fail
                              all_goals
                                go_simp
                                obtain ⟨g0, g1, gB⟩ := fin1.out _ rfl
                                generalize (WA.setCell ⟨w.heap.size, 0, none⟩ (.int .i64 N)).setCell ⟨w.heap.size, 1, none⟩ (.int .i64 D) = W2 at g0 g1 gB ⊢
                                refine bodyPost_ret (v := .tuple #[.slice none 0 0, .agg #[.int .i64 N, .int .i64 D], .int .i64 120]) (by simp [results, Tryz.results7, go_sem, g0, g1]) rfl ⟨gB.drew, ?_⟩
                                rw [hF.out]
                                show Ending.returned _ = Ending.returned _
                                rw [hcol.out, ← hN.out, HDD.out]
                            | some q =>
                              obtain ⟨kd, y, v⟩ := q
                              rw [hk] at ew
                              obtain rfl := ew
                              have hF := Lib.hid (hI.out.word HB.out H10.out HWB.out (by rw [hpw.out]; rfl) hsh.out (by rw [← HXX.out]; exact hk))
                              clear hk
                              have hrow8 : World.ownsRow ((w7.alloc (.cells #[.int .u8 (kd : Nat), .string (St y), .int .u32 (v : Nat), .int .i64 N, .int .i64 D] 37)).alloc (.cells #[.int .u8 (kd : Nat), .string (St y), .int .u32 (v : Nat), .int .i64 N, .int .i64 D] 37)) (w.heap.size + 1) 37 5 u5 acc.length (tokRow acc) := (hrow7.alloc _).alloc _
                              have hc8 : ((w7.alloc (.cells #[.int .u8 (kd : Nat), .string (St y), .int .u32 (v : Nat), .int .i64 N, .int .i64 D] 37)).alloc (.cells #[.int .u8 (kd : Nat), .string (St y), .int .u32 (v : Nat), .int .i64 N, .int .i64 D] 37)).heap[w7.heap.size + 1]? = some (.cells (tokCells ⟨kd, y, v, n, k - bg + 1⟩).toArray 37 (0, 0)) := by
                                have e : tokCells ⟨kd, y, v, n, k - bg + 1⟩ = [.int .u8 (kd : Nat), .string (St y), .int .u32 (v : Nat), .int .i64 N, .int .i64 D] := by
                                  simp only [tokCells, hcol.out, ← hN.out, HDD.out]
                                rw [e]
                                exact row_born (World.size_alloc _ _)
                              have hb8 : w.heap.size + 1 ≤ ((w7.alloc (.cells #[.int .u8 (kd : Nat), .string (St y), .int .u32 (v : Nat), .int .i64 N, .int .i64 D] 37)).alloc (.cells #[.int .u8 (kd : Nat), .string (St y), .int .u32 (v : Nat), .int .i64 N, .int .i64 D] 37)).heap.size := by rw [World.size_alloc, World.size_alloc]; omega
                              have hw8 : Below w.heap.size w ((w7.alloc (.cells #[.int .u8 (kd : Nat), .string (St y), .int .u32 (v : Nat), .int .i64 N, .int .i64 D] 37)).alloc (.cells #[.int .u8 (kd : Nat), .string (St y), .int .u32 (v : Nat), .int .i64 N, .int .i64 D] 37)) := (hw7.alloc hw7.size _).alloc (by rw [World.size_alloc]; exact Nat.le_succ_of_le hw7.size) _
                              have hp8 : ((w7.alloc (.cells #[.int .u8 (kd : Nat), .string (St y), .int .u32 (v : Nat), .int .i64 N, .int .i64 D] 37)).alloc (.cells #[.int .u8 (kd : Nat), .string (St y), .int .u32 (v : Nat), .int .i64 N, .int .i64 D] 37)).heap[w.heap.size]? = some (.cells #[.int .i64 0, .int .i64 0] 25 (0, 0)) := row_alloc (row_alloc hpos7)
                              go_wp2_with (at_builtin; refine wpList_tok rfl _ _ rfl (w.heap.size + 1) _ acc.length (tokRow acc) ⟨kd, y, v, n, k - bg + 1⟩ ?p101 hrow8 hb8 (w7.heap.size + 1) 1 ?p104 hc8 hacc ?p106; (case p101 => rfl); (case p104 => rfl); intro g' c' V1 a1 a2)
                              obtain ⟨q1, q2, q3⟩ := lex_add hrow8 hw8 hb8 hp8 a2
                              go_roundw
                              case rel => exact ⟨k + 1, n, bg, N, BG, true, false, acc ++ [⟨kd, y, v, n, k - bg + 1⟩], by omega, rfl, rfl, by first | rfl | simp, by first | rfl | simp, by first | rfl | simp, hN, hBG, hn1, by omega, hb1, by omega, by unfold Hid; rw [List.length_append, tokRow_snoc]; exact a1, q1, q2, q3, .inl hF.out⟩
                              case measure => first | (simp [intOf]; done) | (simp [intOf]; omega)
                          · have hcw : isW c = true := by unfold inW at hc2; simpa [hc10] using hc2
                            have hc11 : ((c.toNat : Int) == 10) = false := by
                              rw [beq_eq_false_iff_ne]
                              intro h
                              exact hc10 (UInt8.toNat_inj.1 (show c.toNat = (10 : UInt8).toNat by show c.toNat = 10; omega))
                            have hc12 : ¬ (c.toNat : Int) = 10 := by simpa using hc11
                            have WC := Lib.hid (fun W => refWhite_at c W)
                            rw [hcw] at WC
                            clear hc1 hc2 hcw hc10
                            go_wp2_with fail
                            refine (WC.out _).mono ?_; rintro e w4 ⟨rfl, rfl⟩
                            go_wp2_with fail
                            refine (WD.out _).mono ?_
                            rintro e w7 ⟨ew, g7⟩
                            have hrow7 := own_bel hrow.out g7
                            have hpos7 := bel_heap g7 hpos.out
                            have hw7 := hw.trans (g7.mono hw.size)
                            have hws7 := Nat.le_trans hws g7.size
                            unfold WordO at ew
                            cases hk : tokW x with
                            | none =>
                              rw [hk] at ew
                              obtain ⟨k', s', v', rfl⟩ := ew
                              have hF := Lib.hid (hI.out.bad HB.out H10.out HWB.out (by rw [hpw.out]; rfl) hsh.out (by rw [← HXX.out]; exact hk))
                              clear hk
                              have hpA : (w7.alloc (.cells #[.int .u8 k', .string s', .int .u32 v', .int .i64 N, .int .i64 D] 37)).heap[w.heap.size]? = some (.cells #[.int .i64 0, .int .i64 0] 25 (0, 0)) := row_alloc hpos7
                              have hTA := heap_alloc_last w7 (.cells #[.int .u8 k', .string s', .int .u32 v', .int .i64 N, .int .i64 D] 37)
                              have bA : Below w.heap.size w (w7.alloc (.cells #[.int .u8 k', .string s', .int .u32 v', .int .i64 N, .int .i64 D] 37)) := hw7.alloc hw7.size _
                              have zA : (w7.alloc (.cells #[.int .u8 k', .string s', .int .u32 v', .int .i64 N, .int .i64 D] 37)).heap.size = w7.heap.size + 1 := World.size_alloc _ _
                              go_upto_region 24 with (fail)
                              generalize hWA : w7.alloc (.cells #[.int .u8 k', .string s', .int .u32 v', .int .i64 N, .int .i64 D] 37) = WA at hpA hTA bA zA ⊢
                              clear hWA
                              have t3 := row_cell hTA (j := 3) rfl
                              have t4 := row_cell hTA (j := 4) rfl
                              have c0 := row_cell hpA (j := 0) rfl
                              have c1 := row_cell hpA (j := 1) rfl
                              have f0 := row_frozen (j := 0) hpA
                              have f1 := row_frozen (j := 1) hpA
                              have sA : w.heap.size < WA.heap.size := by omega
                              have fin1 : Hid (∀ W2, W2 = (WA.setCell ⟨w.heap.size, 0, none⟩ (.int .i64 N)).setCell ⟨w.heap.size, 1, none⟩ (.int .i64 D) → W2.cell? ⟨w.heap.size, 0, none⟩ = some (.int .i64 N) ∧ W2.cell? ⟨w.heap.size, 1, none⟩ = some (.int .i64 D) ∧ Below w.heap.size w W2) := fun W2 e => by
                                have x2 := heap_setCell_same _ w.heap.size 1 _ _ (.int .i64 D) (heap_setCell_same _ w.heap.size 0 _ _ (.int .i64 N) hpA)
                                rw [← e] at x2
                                exact ⟨row_cell x2 rfl, row_cell x2 rfl, by rw [e]; exact (bA.setCell (p := ⟨w.heap.size, 0, none⟩) (Nat.le_refl _) _).setCell (p := ⟨w.heap.size, 1, none⟩) (Nat.le_refl _) _⟩
                              go_region_with fail
                              all_goals go_wp2_with fail
                              all_goals
                                go_simp
                                obtain ⟨g0, g1, gB⟩ := fin1.out _ rfl
                                generalize (WA.setCell ⟨w.heap.size, 0, none⟩ (.int .i64 N)).setCell ⟨w.heap.size, 1, none⟩ (.int .i64 D) = W2 at g0 g1 gB ⊢
                                refine bodyPost_ret (v := .tuple #[.slice none 0 0, .agg #[.int .i64 N, .int .i64 D], .int .i64 120]) (by simp [results, Tryz.results7, go_sem, g0, g1]) rfl ⟨gB.drew, ?_⟩
                                rw [hF.out]
                                show Ending.returned _ = Ending.returned _
                                rw [hcol.out, ← hN.out, HDD.out]
                            | some q =>
                              obtain ⟨kd, y, v⟩ := q
                              rw [hk] at ew
                              obtain rfl := ew
                              have hF := Lib.hid (hI.out.word HB.out H10.out HWB.out (by rw [hpw.out]; rfl) hsh.out (by rw [← HXX.out]; exact hk))
                              clear hk
                              have hrow8 : World.ownsRow ((w7.alloc (.cells #[.int .u8 (kd : Nat), .string (St y), .int .u32 (v : Nat), .int .i64 N, .int .i64 D] 37)).alloc (.cells #[.int .u8 (kd : Nat), .string (St y), .int .u32 (v : Nat), .int .i64 N, .int .i64 D] 37)) (w.heap.size + 1) 37 5 u5 acc.length (tokRow acc) := (hrow7.alloc _).alloc _
                              have hc8 : ((w7.alloc (.cells #[.int .u8 (kd : Nat), .string (St y), .int .u32 (v : Nat), .int .i64 N, .int .i64 D] 37)).alloc (.cells #[.int .u8 (kd : Nat), .string (St y), .int .u32 (v : Nat), .int .i64 N, .int .i64 D] 37)).heap[w7.heap.size + 1]? = some (.cells (tokCells ⟨kd, y, v, n, k - bg + 1⟩).toArray 37 (0, 0)) := by
                                have e : tokCells ⟨kd, y, v, n, k - bg + 1⟩ = [.int .u8 (kd : Nat), .string (St y), .int .u32 (v : Nat), .int .i64 N, .int .i64 D] := by
                                  simp only [tokCells, hcol.out, ← hN.out, HDD.out]
                                rw [e]
                                exact row_born (World.size_alloc _ _)
                              have hb8 : w.heap.size + 1 ≤ ((w7.alloc (.cells #[.int .u8 (kd : Nat), .string (St y), .int .u32 (v : Nat), .int .i64 N, .int .i64 D] 37)).alloc (.cells #[.int .u8 (kd : Nat), .string (St y), .int .u32 (v : Nat), .int .i64 N, .int .i64 D] 37)).heap.size := by rw [World.size_alloc, World.size_alloc]; omega
                              have hw8 : Below w.heap.size w ((w7.alloc (.cells #[.int .u8 (kd : Nat), .string (St y), .int .u32 (v : Nat), .int .i64 N, .int .i64 D] 37)).alloc (.cells #[.int .u8 (kd : Nat), .string (St y), .int .u32 (v : Nat), .int .i64 N, .int .i64 D] 37)) := (hw7.alloc hw7.size _).alloc (by rw [World.size_alloc]; exact Nat.le_succ_of_le hw7.size) _
                              have hp8 : ((w7.alloc (.cells #[.int .u8 (kd : Nat), .string (St y), .int .u32 (v : Nat), .int .i64 N, .int .i64 D] 37)).alloc (.cells #[.int .u8 (kd : Nat), .string (St y), .int .u32 (v : Nat), .int .i64 N, .int .i64 D] 37)).heap[w.heap.size]? = some (.cells #[.int .i64 0, .int .i64 0] 25 (0, 0)) := row_alloc (row_alloc hpos7)
                              go_wp2_with (at_builtin; refine wpList_tok rfl _ _ rfl (w.heap.size + 1) _ acc.length (tokRow acc) ⟨kd, y, v, n, k - bg + 1⟩ ?p111 hrow8 hb8 (w7.heap.size + 1) 1 ?p114 hc8 hacc ?p116; (case p111 => rfl); (case p114 => rfl); intro g' c' V1 a1 a2)
                              obtain ⟨q1, q2, q3⟩ := lex_add hrow8 hw8 hb8 hp8 a2
                              go_roundw
                              case rel => exact ⟨k + 1, n, bg, N, BG, true, false, acc ++ [⟨kd, y, v, n, k - bg + 1⟩], by omega, rfl, rfl, by first | rfl | simp, by first | rfl | simp, by first | rfl | simp, hN, hBG, hn1, by omega, hb1, by omega, by unfold Hid; rw [List.length_append, tokRow_snoc]; exact a1, q1, q2, q3, .inl hF.out⟩
                              case measure => first | (simp [intOf]; done) | (simp [intOf]; omega)
                        · have hlt3 : ¬ (a : Int) < (s.size : Int) := by omega
                          go_wp2_with fail
                          refine (WD.out _).mono ?_
                          rintro e w7 ⟨ew, g7⟩
                          have hrow7 := own_bel hrow.out g7
                          have hpos7 := bel_heap g7 hpos.out
                          have hw7 := hw.trans (g7.mono hw.size)
                          have hws7 := Nat.le_trans hws g7.size
                          unfold WordO at ew
                          cases hk : tokW x with
                          | none =>
                            rw [hk] at ew
                            obtain ⟨k', s', v', rfl⟩ := ew
                            have hF := Lib.hid (hI.out.bad HB.out H10.out HWB.out (by rw [hpw.out]; rfl) hsh.out (by rw [← HXX.out]; exact hk))
                            clear hk
                            have hpA : (w7.alloc (.cells #[.int .u8 k', .string s', .int .u32 v', .int .i64 N, .int .i64 D] 37)).heap[w.heap.size]? = some (.cells #[.int .i64 0, .int .i64 0] 25 (0, 0)) := row_alloc hpos7
                            have hTA := heap_alloc_last w7 (.cells #[.int .u8 k', .string s', .int .u32 v', .int .i64 N, .int .i64 D] 37)
                            have bA : Below w.heap.size w (w7.alloc (.cells #[.int .u8 k', .string s', .int .u32 v', .int .i64 N, .int .i64 D] 37)) := hw7.alloc hw7.size _
                            have zA : (w7.alloc (.cells #[.int .u8 k', .string s', .int .u32 v', .int .i64 N, .int .i64 D] 37)).heap.size = w7.heap.size + 1 := World.size_alloc _ _
                            go_upto_region 24 with (fail)
                            generalize hWA : w7.alloc (.cells #[.int .u8 k', .string s', .int .u32 v', .int .i64 N, .int .i64 D] 37) = WA at hpA hTA bA zA ⊢
                            clear hWA
                            have t3 := row_cell hTA (j := 3) rfl
                            have t4 := row_cell hTA (j := 4) rfl
                            have c0 := row_cell hpA (j := 0) rfl
                            have c1 := row_cell hpA (j := 1) rfl
                            have f0 := row_frozen (j := 0) hpA
                            have f1 := row_frozen (j := 1) hpA
                            have sA : w.heap.size < WA.heap.size := by omega
                            have fin1 : Hid (∀ W2, W2 = (WA.setCell ⟨w.heap.size, 0, none⟩ (.int .i64 N)).setCell ⟨w.heap.size, 1, none⟩ (.int .i64 D) → W2.cell? ⟨w.heap.size, 0, none⟩ = some (.int .i64 N) ∧ W2.cell? ⟨w.heap.size, 1, none⟩ = some (.int .i64 D) ∧ Below w.heap.size w W2) := fun W2 e => by
                              have x2 := heap_setCell_same _ w.heap.size 1 _ _ (.int .i64 D) (heap_setCell_same _ w.heap.size 0 _ _ (.int .i64 N) hpA)
                              rw [← e] at x2
                              exact ⟨row_cell x2 rfl, row_cell x2 rfl, by rw [e]; exact (bA.setCell (p := ⟨w.heap.size, 0, none⟩) (Nat.le_refl _) _).setCell (p := ⟨w.heap.size, 1, none⟩) (Nat.le_refl _) _⟩
                            go_region_with fail
                            all_goals go_wp2_with fail
                            all_goals
                              go_simp
                              obtain ⟨g0, g1, gB⟩ := fin1.out _ rfl
                              generalize (WA.setCell ⟨w.heap.size, 0, none⟩ (.int .i64 N)).setCell ⟨w.heap.size, 1, none⟩ (.int .i64 D) = W2 at g0 g1 gB ⊢
                              refine bodyPost_ret (v := .tuple #[.slice none 0 0, .agg #[.int .i64 N, .int .i64 D], .int .i64 120]) (by simp [results, Tryz.results7, go_sem, g0, g1]) rfl ⟨gB.drew, ?_⟩
                              rw [hF.out]
                              show Ending.returned _ = Ending.returned _
                              rw [hcol.out, ← hN.out, HDD.out]
                          | some q =>
                            obtain ⟨kd, y, v⟩ := q
                            rw [hk] at ew
                            obtain rfl := ew
                            have hF := Lib.hid (hI.out.word HB.out H10.out HWB.out (by rw [hpw.out]; rfl) hsh.out (by rw [← HXX.out]; exact hk))
                            clear hk
                            have hrow8 : World.ownsRow ((w7.alloc (.cells #[.int .u8 (kd : Nat), .string (St y), .int .u32 (v : Nat), .int .i64 N, .int .i64 D] 37)).alloc (.cells #[.int .u8 (kd : Nat), .string (St y), .int .u32 (v : Nat), .int .i64 N, .int .i64 D] 37)) (w.heap.size + 1) 37 5 u5 acc.length (tokRow acc) := (hrow7.alloc _).alloc _
                            have hc8 : ((w7.alloc (.cells #[.int .u8 (kd : Nat), .string (St y), .int .u32 (v : Nat), .int .i64 N, .int .i64 D] 37)).alloc (.cells #[.int .u8 (kd : Nat), .string (St y), .int .u32 (v : Nat), .int .i64 N, .int .i64 D] 37)).heap[w7.heap.size + 1]? = some (.cells (tokCells ⟨kd, y, v, n, k - bg + 1⟩).toArray 37 (0, 0)) := by
                              have e : tokCells ⟨kd, y, v, n, k - bg + 1⟩ = [.int .u8 (kd : Nat), .string (St y), .int .u32 (v : Nat), .int .i64 N, .int .i64 D] := by
                                simp only [tokCells, hcol.out, ← hN.out, HDD.out]
                              rw [e]
                              exact row_born (World.size_alloc _ _)
                            have hb8 : w.heap.size + 1 ≤ ((w7.alloc (.cells #[.int .u8 (kd : Nat), .string (St y), .int .u32 (v : Nat), .int .i64 N, .int .i64 D] 37)).alloc (.cells #[.int .u8 (kd : Nat), .string (St y), .int .u32 (v : Nat), .int .i64 N, .int .i64 D] 37)).heap.size := by rw [World.size_alloc, World.size_alloc]; omega
                            have hw8 : Below w.heap.size w ((w7.alloc (.cells #[.int .u8 (kd : Nat), .string (St y), .int .u32 (v : Nat), .int .i64 N, .int .i64 D] 37)).alloc (.cells #[.int .u8 (kd : Nat), .string (St y), .int .u32 (v : Nat), .int .i64 N, .int .i64 D] 37)) := (hw7.alloc hw7.size _).alloc (by rw [World.size_alloc]; exact Nat.le_succ_of_le hw7.size) _
                            have hp8 : ((w7.alloc (.cells #[.int .u8 (kd : Nat), .string (St y), .int .u32 (v : Nat), .int .i64 N, .int .i64 D] 37)).alloc (.cells #[.int .u8 (kd : Nat), .string (St y), .int .u32 (v : Nat), .int .i64 N, .int .i64 D] 37)).heap[w.heap.size]? = some (.cells #[.int .i64 0, .int .i64 0] 25 (0, 0)) := row_alloc (row_alloc hpos7)
                            go_wp2_with (at_builtin; refine wpList_tok rfl _ _ rfl (w.heap.size + 1) _ acc.length (tokRow acc) ⟨kd, y, v, n, k - bg + 1⟩ ?p121 hrow8 hb8 (w7.heap.size + 1) 1 ?p124 hc8 hacc ?p126; (case p121 => rfl); (case p124 => rfl); intro g' c' V1 a1 a2)
                            obtain ⟨q1, q2, q3⟩ := lex_add hrow8 hw8 hb8 hp8 a2
                            go_roundw
                            case rel => exact ⟨k + 1, n, bg, N, BG, true, false, acc ++ [⟨kd, y, v, n, k - bg + 1⟩], by omega, rfl, rfl, by first | rfl | simp, by first | rfl | simp, by first | rfl | simp, hN, hBG, hn1, by omega, hb1, by omega, by unfold Hid; rw [List.length_append, tokRow_snoc]; exact a1, q1, q2, q3, .inl hF.out⟩
                            case measure => first | (simp [intOf]; done) | (simp [intOf]; omega)
end Go.Proofs.YthhbhfpdabiclaaGreatDoor.L12
