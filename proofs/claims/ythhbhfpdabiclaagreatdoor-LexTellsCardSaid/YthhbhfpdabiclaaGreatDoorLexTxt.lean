/- lex (layer 12): Text's walk. By genlextxt.py. -/
import Derived.Test.YthhbhfpdabiclaaGreatDoorLexText
namespace Go.Proofs.YthhbhfpdabiclaaGreatDoor.L12
open Go.RowKit Go.Shelf
set_option linter.unusedVariables false
theorem oth_row {e : TypeId} {b k : Nat} {w w' : World} {A : Array Value} {t : TypeId} (h : Lib.OthersKept e (some b) w w') (hk : w.heap[k]? = some (.cells A t (0, 0))) (hb : k ≠ b) (ht : t ≠ e) : w'.heap[k]? = some (.cells A t (0, 0)) :=
  h k _ hk (fun q => hb (Option.some.inj q)) (fun c fz q => by cases q; exact ht rfl)
theorem txt_step {l : List Tok} {k : Nat} {t : Tok} (hk : l[k]? = some t) : l.drop k = t :: l.drop (k + 1) := by
  have h := (List.getElem?_eq_some_iff.1 hk)
  rw [List.drop_eq_getElem_cons h.1, h.2]
theorem Bu.alloc {B b : Nat} {acc : List UInt8} {w : World} (h : Bu B b acc w) (o : Obj) : Bu B b acc (w.alloc o) := Lib.IsBuilderF.alloc h o
set_option maxRecDepth 100000 in
set_option maxHeartbeats 4000000 in
theorem Text_at (l : List Tok) (hl : l.length ≤ 8589934592) (hlen : (txtL l).length ≤ 140737488355328) (p : Option Addr) (c : Nat) (w : World) (h : TokAt w p l) : Calls Tryz.prog 9 #[.slice p l.length c] w fun e w' => e = .returned (.string (St (txtL l))) ∧ Below w.heap.size w w' := by
  have TA := Lib.hid h
  clear h
  go_enter Tryz.func9, Tryz.ntmps9
  go_wp2_with fail
  have f0 : Bu w.heap.size w.heap.size [] (w.alloc (.cells #[.pointer none, .slice none 0 0] 52)) := Lib.IsBuilderF.of (Lib.fresh_isBuilder _ _ _)
  go_loopw [8] (fun j wr => ∃ (k : Nat) (acc : List UInt8), k ≤ l.length ∧ j = .int .i64 k ∧ acc ++ txtL (l.drop k) = txtL l ∧ Bu w.heap.size w.heap.size acc wr ∧ Below w.heap.size w wr) (fun j _ => ((l.length : Int) - intOf j).toNat)
  case atStart => exact ⟨0, [], Nat.zero_le _, rfl, rfl, f0, (Below.refl _ _).alloc (Nat.le_refl _) _⟩
  case round =>
    obtain ⟨k, acc, hk, rfl, ha, hB, hw⟩ := hrel
    clear f0
    have hs : w.heap.size ≤ wr.heap.size := hw.size
    have hsb : w.heap.size < wr.heap.size := by
      rcases hB with hB | hB
      · exact hB.lt
      · exact hB.lt
    rcases Nat.lt_or_ge k l.length with hlt | hge
    · obtain ⟨t, ht⟩ : ∃ t, l[k]? = some t := ⟨_, List.getElem?_eq_getElem hlt⟩
      obtain ⟨g, rfl, t0, t1, t2, t3, t4⟩ := (TA.out.bel hw) k t ht
      have hlt' : (k : Int) < l.length := by omega
      rw [txt_step ht] at ha
      have hBA := hB.alloc (.cells (tokCells t).toArray 37)
      have hwA : Below w.heap.size w (wr.alloc (.cells (tokCells t).toArray 37)) := hw.alloc hs _
      have r5 := World.alloc_heap_new wr (.cells (tokCells t).toArray 37)
      have sA : w.heap.size ≤ (wr.alloc (.cells (tokCells t).toArray 37)).heap.size := hwA.size
      by_cases k6 : t.kind = 6
      · have HA : Hid ((acc ++ [10]) ++ txtL (l.drop (k + 1)) = txtL l) := by
          unfold Hid
          rw [← ha]
          simp [txtL, k6]
        have hln : acc.length + ([10] : List UInt8).length ≤ 140737488355328 := by
          have := congrArg List.length HA.out
          simp only [List.length_append, List.length_cons, List.length_nil] at this ⊢
          omega
        have hw6 : Below w.heap.size w (wr.alloc (.cells #[.int .u8 6, .string (St t.text), .int .u32 (t.num : Nat), .int .i64 (t.line : Nat), .int .i64 (t.col : Nat)] 37)) := hw.alloc hs _
        have C := Lib.hid (Write_at w.heap.size w.heap.size acc [10] (wr.alloc (.cells #[.int .u8 6, .string (St t.text), .int .u32 (t.num : Nat), .int .i64 (t.line : Nat), .int .i64 (t.col : Nat)] 37)) (hB.alloc _) hln hw6.size)
        have k6' : ((t.kind : Nat) : Int) = 6 := by omega
        clear ha hBA k6 r5
        go_wp2_with (refine C.out.mono ?_; rintro e w1 ⟨⟨v1, rfl⟩, b1, y1, z1⟩)
        go_roundw
        case rel => exact ⟨k + 1, acc ++ [10], by omega, by simp, HA.out, b1, hw6.trans y1⟩
        case measure => simp [intOf]; omega
      · have k6' : ¬ ((t.kind : Nat) : Int) = 6 := by omega
        have hln : acc.length + t.text.length ≤ 140737488355328 := by
          have := congrArg List.length ha
          simp only [txtL, if_neg k6, List.length_append] at this
          omega
        have C := Lib.hid (Write_at w.heap.size w.heap.size acc t.text _ hBA hln sA)
        have HA := Lib.hid ha
        have R5 := Lib.hid r5
        clear ha hBA r5
        go_wp2_with fail
        refine C.out.mono ?_
        rintro e w1 ⟨⟨v1, rfl⟩, b1, y1, z1⟩
        have q5 := oth_row z1 R5.out (by omega) (by decide)
        have q50 : w1.cell? ⟨wr.heap.size, 0, none⟩ = some (.int .u8 (t.kind : Nat)) := row_cell q5 rfl
        have hw1 := hwA.trans y1
        have s1 := hw1.size
        clear C R5 q5
        by_cases k1 : t.kind = 1
        · have k1' : ((t.kind : Nat) : Int) = 1 := by omega
          have hln1 : (acc ++ t.text).length + ([58] : List UInt8).length ≤ 140737488355328 := by
            have := congrArg List.length HA.out
            simp only [txtL, if_neg k6, if_pos k1, List.length_append, List.length_cons, List.length_nil] at this ⊢
            omega
          have C1 := Lib.hid (Write_at w.heap.size w.heap.size (acc ++ t.text) [58] _ b1 hln1 s1)
          go_wp2_with fail
          refine C1.out.mono ?_
          rintro e w2 ⟨⟨v2, rfl⟩, b2, y2, z2⟩
          have hw2 := hw1.trans y2
          clear C1
          rcases Nat.lt_or_ge (k + 1) l.length with hl1 | hl1
          · obtain ⟨u, hu⟩ : ∃ u, l[k + 1]? = some u := ⟨_, List.getElem?_eq_getElem hl1⟩
            obtain ⟨g', hg', u0, _⟩ := (TA.out.bel hw2) (k + 1) u hu
            obtain rfl : g = g' := by simpa using hg'
            have hl1' : (k : Int) + 1 < l.length := by omega
            by_cases u6 : u.kind = 6
            · have u6' : ((u.kind : Nat) : Int) = 6 := by omega
              have HA2 : Hid ((acc ++ t.text ++ [58]) ++ txtL (l.drop (k + 1)) = txtL l) := by
                unfold Hid
                rw [← HA.out, txt_step hu]
                simp [txtL, k1, u6]
              clear HA u6 k6
              go_wp2_with fail
              go_roundw
              case rel => exact ⟨k + 1, (acc ++ t.text ++ [58]), by omega, by simp, HA2.out, b2, hw2⟩
              case measure => simp [intOf]; omega
            · have u6' : ¬ ((u.kind : Nat) : Int) = 6 := by omega
              have HA2 : Hid ((acc ++ t.text ++ [58]) ++ [32] ++ txtL (l.drop (k + 1)) = txtL l) := by
                unfold Hid
                rw [← HA.out, txt_step hu]
                simp [txtL, k1, u6]
              have hln2 : ((acc ++ t.text ++ [58])).length + ([32] : List UInt8).length ≤ 140737488355328 := by
                have := congrArg List.length HA2.out
                simp only [List.length_append, List.length_cons, List.length_nil] at this ⊢
                omega
              have C2 := Lib.hid (Write_at w.heap.size w.heap.size ((acc ++ t.text ++ [58])) [32] _ b2 hln2 hw2.size)
              clear HA u6 k6
              go_wp2_with (refine C2.out.mono ?_; rintro e w3 ⟨⟨v3, rfl⟩, b3, y3, z3⟩)
              go_roundw
              case rel => exact ⟨k + 1, (acc ++ t.text ++ [58]) ++ [32], by omega, by simp, HA2.out, b3, hw2.trans y3⟩
              case measure => simp [intOf]; omega
          · have hl1' : ¬ (k : Int) + 1 < l.length := by omega
            have HA2 : Hid ((acc ++ t.text ++ [58]) ++ txtL (l.drop (k + 1)) = txtL l) := by
              unfold Hid
              rw [← HA.out, List.drop_eq_nil_of_le hl1]
              simp [txtL, k1]
            clear HA k6
            go_wp2_with fail
            go_roundw
            case rel => exact ⟨k + 1, (acc ++ t.text ++ [58]), by omega, by simp, HA2.out, b2, hw2⟩
            case measure => simp [intOf]; omega
        · have k1' : ¬ ((t.kind : Nat) : Int) = 1 := by omega
          rcases Nat.lt_or_ge (k + 1) l.length with hl1 | hl1
          · obtain ⟨u, hu⟩ : ∃ u, l[k + 1]? = some u := ⟨_, List.getElem?_eq_getElem hl1⟩
            obtain ⟨g', hg', u0, _⟩ := (TA.out.bel hw1) (k + 1) u hu
            obtain rfl : g = g' := by simpa using hg'
            have hl1' : (k : Int) + 1 < l.length := by omega
            by_cases u6 : u.kind = 6
            · have u6' : ((u.kind : Nat) : Int) = 6 := by omega
              have HA2 : Hid ((acc ++ t.text) ++ txtL (l.drop (k + 1)) = txtL l) := by
                unfold Hid
                rw [← HA.out, txt_step hu]
                simp [txtL, k6, k1, u6]
              clear HA u6 k6
              go_wp2_with fail
              go_roundw
              case rel => exact ⟨k + 1, (acc ++ t.text), by omega, by simp, HA2.out, b1, hw1⟩
              case measure => simp [intOf]; omega
            · have u6' : ¬ ((u.kind : Nat) : Int) = 6 := by omega
              have HA2 : Hid ((acc ++ t.text) ++ [32] ++ txtL (l.drop (k + 1)) = txtL l) := by
                unfold Hid
                rw [← HA.out, txt_step hu]
                simp [txtL, k6, k1, u6]
              have hln2 : ((acc ++ t.text)).length + ([32] : List UInt8).length ≤ 140737488355328 := by
                have := congrArg List.length HA2.out
                simp only [List.length_append, List.length_cons, List.length_nil] at this ⊢
                omega
              have C2 := Lib.hid (Write_at w.heap.size w.heap.size ((acc ++ t.text)) [32] _ b1 hln2 hw1.size)
              clear HA u6 k6
              go_wp2_with (refine C2.out.mono ?_; rintro e w3 ⟨⟨v3, rfl⟩, b3, y3, z3⟩)
              go_roundw
              case rel => exact ⟨k + 1, (acc ++ t.text) ++ [32], by omega, by simp, HA2.out, b3, hw1.trans y3⟩
              case measure => simp [intOf]; omega
          · have hl1' : ¬ (k : Int) + 1 < l.length := by omega
            have HA2 : Hid ((acc ++ t.text) ++ txtL (l.drop (k + 1)) = txtL l) := by
              unfold Hid
              rw [← HA.out, List.drop_eq_nil_of_le hl1]
              simp [txtL, k6, k1]
            clear HA k6
            go_wp2_with fail
            go_roundw
            case rel => exact ⟨k + 1, (acc ++ t.text), by omega, by simp, HA2.out, b1, hw1⟩
            case measure => simp [intOf]; omega
    · obtain rfl : k = l.length := by omega
      have ha2 : acc = txtL l := by rw [← ha]; simp [txtL]
      subst ha2
      have C := Lib.hid (String_at w.heap.size w.heap.size _ wr hB hs)
      clear ha
      go_wp2_with (refine C.out.mono ?_; rintro e w1 ⟨rfl, y1⟩)
      go_ret
      exact ⟨rfl, hw.trans y1⟩
end Go.Proofs.YthhbhfpdabiclaaGreatDoor.L12
