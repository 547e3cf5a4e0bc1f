/- lex (layer 12): the iterator over a line's words. -/
import Derived.Test.YthhbhfpdabiclaaGreatDoorLexLns
namespace Go.Proofs.YthhbhfpdabiclaaGreatDoor.L12
open Go.RowKit Go.Shelf
set_option linter.unusedVariables false
attribute [local go_sem] Oper.semAt_some
def encN (x : Nat × List UInt8) : Array Value := #[.int .i64 (x.1 : Nat), .string (St x.2)]
theorem trim_head : ∀ (l : List UInt8) (b : UInt8), (Lib.trimLeftS l [32, 9, 13]).head? = some b → isW b = false
  | [], b, h => by simp [Lib.trimLeftS] at h
  | c :: t, b, h => by
    unfold Lib.trimLeftS at h
    rw [List.dropWhile_cons] at h
    by_cases hb : ([32, 9, 13] : List UInt8).contains c = true
    · rw [if_pos hb] at h; exact trim_head t b h
    · rw [if_neg hb] at h
      have : c = b := by simpa using h
      subst this
      simpa [isW] using hb
theorem trim_len (l : List UInt8) : (Lib.trimLeftS l [32, 9, 13]).length ≤ l.length := (List.dropWhile_sublist _).length_le
theorem ix_split {l : List UInt8} (hl : l ≠ []) (h0 : ∀ b, l.head? = some b → isW b = false) : Lib.indexAny l [32, 9, 13] = -1 ∨ ∃ i : Nat, Lib.indexAny l [32, 9, 13] = i ∧ 1 ≤ i ∧ i < l.length := by
  have split : (∀ b ∈ l, isW b = false) ∨ ∃ i x, Lib.NoAny l [32, 9, 13] i ∧ l[i]? = some x ∧ isW x = true := by
    clear hl h0
    induction l with
    | nil => exact .inl (by simp)
    | cons b t ih =>
      by_cases hb : isW b = true
      · exact .inr ⟨0, b, Lib.NoAny.zero _ _, rfl, hb⟩
      · have hb' : isW b = false := by simpa using hb
        rcases ih with h | ⟨i, x, h1, h2, h3⟩
        · exact .inl fun y hy => by
            rcases List.mem_cons.1 hy with rfl | hy
            · exact hb'
            · exact h y hy
        · refine .inr ⟨i + 1, x, fun j y hj hy => ?_, by simpa using h2, h3⟩
          cases j with
          | zero => simp at hy; subst hy; exact hb'
          | succ j => exact h1 j y (by omega) (by simpa using hy)
  rcases split with h | ⟨i, x, h1, h2, h3⟩
  · exact .inl (Lib.indexAny_none fun j b hj hb => h b (List.mem_of_getElem? hb))
  · refine .inr ⟨i, Lib.indexAny_hit h1 h2 h3, ?_, (List.getElem?_eq_some_iff.1 h2).1⟩
    rcases Nat.eq_zero_or_pos i with e | e
    · subst e
      have := h0 x (by rw [← h2]; cases l <;> rfl)
      rw [this] at h3; cases h3
    · exact e
theorem fr_below {O : Ow} {A B : World} (hO : ∀ k, O k → k < A.heap.size) (h : Below A.heap.size A B) : FrO O A B := ⟨h.os, h.tape, h.output, h.size, fun k hk => h.block k (hO k hk)⟩
def strlen : Value → Nat
  | .string s => s.size
  | _ => 0
theorem words_at (s : List UInt8) (w : World) : Calls Tryz.prog 17 #[.string (St s)] w fun e w' => e = .returned (.func (.func 41) #[] #[.pointer (some ⟨w.heap.size, 0, none⟩)]) ∧ w' = w.alloc (.cells #[.string (St s)] 9) := by
  go_enter Tryz.func17, Tryz.ntmps17
  go_wp2_with fail
  go_ret
  exact ⟨rfl, rfl⟩
set_option maxRecDepth 100000 in
set_option maxHeartbeats 4000000 in
theorem words_seq (n : Nat) (hn : 1 ≤ n) (B : Nat) (s : List UInt8) (hs : s.length ≤ 65536) (w : World) (hB : SBx B s w) :
    SeqO Fence.wide n Tryz.prog 41 #[.pointer (some ⟨B, 0, none⟩)] encN (· = B) (· = wds 1 [] s) (· <+: wds 1 [] s) (Nx (wds 1 [] s)) w := fun l J Jx O W hW fJ fJx bJ bJx hG hY h0 => by
  have hb0 : SBx B s W := (hW.block B hB.lt).trans hB
  clear hB hW
  have c0 := hb0.cell
  have T := fun l w => Lib.hid ((callsIn_wide (n := n - 1)).2 (TrimLeft_at l w))
  refine callsIn_of_wp Tryz.func41 rfl trivial ?_ rfl
  simp only [Tryz.ntmps41, List.size_toArray, List.length_cons, List.length_nil, Nat.reduceAdd, Nat.reduceSub, Array.replicate_succ, Array.replicate_zero, List.push_toArray, List.append_toArray, List.nil_append, List.cons_append]
  gi_wp2_with (refine ⟨trivial, (T _ _).out.mono ?_⟩; rintro e w2 ⟨rfl, g2⟩)
  gi_loopw [3] (fun p wr => ∃ (pre : List (Nat × List UInt8)) (rest : List UInt8) (O1 : Ow), p = .string (St rest) ∧ wds 1 [] s = pre ++ wds (s.length - rest.length + 1) [] rest ∧ rest.length ≤ s.length ∧ (∀ b, rest.head? = some b → isW b = false) ∧ SBx B s wr ∧ J pre O1 wr ∧ ExtO O W O1 ∧ OnlyO (fun k => O k ∨ k = B) W wr)
    (fun p _ => strlen p)
  case atStart =>
    exact ⟨[], _, O, rfl, by rw [wds_white, List.nil_append]; congr 1; omega, trim_len s, trim_head s, (g2.block B hb0.lt).trans hb0, fJ _ _ _ _ h0 (fr_below (fun k hk => bJ _ _ _ h0 k hk) g2), ExtO.refl _ _, only_below g2⟩
  case round =>
    obtain ⟨pre, rest, O1, rfl, h1, h2, hw, h3, h4, h5, h6⟩ := hrel
    have c3 := h3.cell
    have bl : B < W.heap.size := hb0.lt
    have nB : ¬ O1 B := fun q => (h5 B q).elim (hG B rfl) (fun q => by omega)
    cases rest with
    | nil =>
      have hz : (St []).toList = [] := by rw [St_toList]
      gi_wp2
      go_end0
      exact ⟨⟨_, rfl⟩, O1, h5, h6, .inl ⟨pre, by rw [h1]; simp [wds], h4⟩⟩
    | cons b t =>
      have hne : b :: t ≠ [] := by simp
      have hz : (St (b :: t)).toList.isEmpty = false := by rw [St_toList]; rfl
      have hz2 : ¬ (St (b :: t)).toList = [] := by rw [St_toList]; simp
      generalize b :: t = y at h1 h2 hw hne hz hz2
      have hy1 : 1 ≤ y.length := by cases y with | nil => exact (hne rfl).elim | cons => simp
      have hsz : (St y).size = y.length := rfl
      have hss : (St s).size = s.length := rfl
      have C := fun w => Lib.hid ((callsIn_wide (n := n - 1)).2 (IndexAny_at y (by omega) w))
      have hc := wds_word hne hw (s.length - y.length + 1)
      have ec : ((s.length - y.length + 1 : Nat) : Int) = (s.length : Int) - y.length + 1 := by omega
      rcases ix_split hne hw with hi | ⟨i, hi, hi1, hil⟩
      · rw [hi] at C hc
        rw [if_pos (by decide), List.drop_length] at hc
        have hx : Nx (wds 1 [] s) pre (s.length - y.length + 1, y) := ⟨[], by rw [h1, hc]; simp [wds]⟩
        have HH := Lib.hid (h1.trans (by rw [hc]; simp [wds] : _ = pre ++ [(s.length - y.length + 1, y)]))
        clear hi hc h1
        gi_wp2_with (refine ⟨trivial, (C _).out.mono ?_⟩; rintro e w3 ⟨rfl, g3⟩)
        have hJ3 := fJ _ _ _ _ h4 (fr_below (fun k hk => bJ _ _ _ h4 k hk) g3)
        have hB3 : SBx B s w3 := (g3.block B h3.lt).trans h3
        have o3 : OnlyO (fun k => O k ∨ k = B) W w3 := h6.trans (O' := fun k => O k ∨ k = B) (only_below g3) (ExtO.refl _ _)
        obtain ⟨f0, t0, a0, cc0, hy0, hR0⟩ := hY pre _ O1 _ hJ3 hx h5
        unfold encN at hy0
        simp only [] at hy0
        rw [ec] at hy0
        have HR := Lib.hid hR0
        clear hR0
        rw [hy0]
        gi_wp2
        refine HR.out.mono ?_
        rintro e W4 ⟨O4, x4, y4, (⟨rfl, hJ4⟩ | ⟨rfl, hx4⟩)⟩
        · have hB4 : SBx B s W4 := (y4.block B hB3.lt nB).trans hB3
          gi_wp2_with (refine ⟨trivial, (T _ _).out.mono ?_⟩; rintro e w5 ⟨rfl, g5⟩)
          exact ⟨⟨pre ++ [(s.length - y.length + 1, y)], [], O4, rfl, by rw [HH.out]; simp [wds], by simp, by simp, (g5.block B hB4.lt).trans hB4, fJ _ _ _ _ hJ4 (fr_below (fun k hk => bJ _ _ _ hJ4 k hk) g5), h5.trans x4 o3.size, (only_after o3 y4 h5).trans (O' := fun k => O k ∨ k = B) (only_below g5) (ExtO.refl _ _)⟩, hy1⟩
        · gi_wp2
          refine bodyPost_ret (results_none rfl _ _ _) rfl ?_
          exact ⟨⟨_, rfl⟩, O4, h5.trans x4 o3.size, only_after o3 y4 h5, .inr ⟨pre ++ [(s.length - y.length + 1, y)], ⟨[], by rw [HH.out]; simp⟩, hx4⟩⟩
      · rw [hi] at C hc
        rw [if_neg (by omega), Int.toNat_natCast] at hc
        have hlen : (y.take i).length = i := by rw [List.length_take]; omega
        rw [hlen] at hc
        have hx : Nx (wds 1 [] s) pre (s.length - y.length + 1, y.take i) := ⟨wds (s.length - y.length + 1 + i) [] (y.drop i), by rw [h1, hc]; simp⟩
        have HH := Lib.hid (h1.trans (by rw [hc] : _ = pre ++ ((s.length - y.length + 1, y.take i) :: wds (s.length - y.length + 1 + i) [] (y.drop i))))
        have hsi : (St (y.take i)).size = i := hlen
        have e1 : (St y).extract 0 i = St (y.take i) := by rw [← St_of ((St y).extract 0 i), Lib.extract_data]; simp
        have e2 : (St y).extract i y.length = St (y.drop i) := by rw [← St_of ((St y).extract i y.length), Lib.extract_data]; simp only [St_list]; rw [List.take_of_length_le (by simp)]
        clear hi hc h1
        gi_wp2_with (refine ⟨trivial, (C _).out.mono ?_⟩; rintro e w3 ⟨rfl, g3⟩)
        have hJ3 := fJ _ _ _ _ h4 (fr_below (fun k hk => bJ _ _ _ h4 k hk) g3)
        have hB3 : SBx B s w3 := (g3.block B h3.lt).trans h3
        have o3 : OnlyO (fun k => O k ∨ k = B) W w3 := h6.trans (O' := fun k => O k ∨ k = B) (only_below g3) (ExtO.refl _ _)
        obtain ⟨f0, t0, a0, cc0, hy0, hR0⟩ := hY pre _ O1 _ hJ3 hx h5
        unfold encN at hy0
        simp only [] at hy0
        rw [ec] at hy0
        have HR := Lib.hid hR0
        clear hR0
        rw [hy0]
        gi_wp2
        refine HR.out.mono ?_
        rintro e W4 ⟨O4, x4, y4, (⟨rfl, hJ4⟩ | ⟨rfl, hx4⟩)⟩
        · have hB4 : SBx B s W4 := (y4.block B hB3.lt nB).trans hB3
          gi_wp2_with (refine ⟨trivial, (T _ _).out.mono ?_⟩; rintro e w5 ⟨rfl, g5⟩)
          have hln := trim_len (y.drop i)
          have hld : (y.drop i).length = y.length - i := List.length_drop
          refine ⟨⟨pre ++ [(s.length - y.length + 1, y.take i)], _, O4, rfl, ?_, by omega, trim_head _, (g5.block B hB4.lt).trans hB4, fJ _ _ _ _ hJ4 (fr_below (fun k hk => bJ _ _ _ hJ4 k hk) g5), h5.trans x4 o3.size, (only_after o3 y4 h5).trans (O' := fun k => O k ∨ k = B) (only_below g5) (ExtO.refl _ _)⟩, ?_⟩
          · rw [HH.out, wds_white (y.drop i), List.append_assoc, List.singleton_append]
            congr 3
            omega
          · show (Lib.trimLeftS (y.drop i) [32, 9, 13]).length < y.length
            omega
        · gi_wp2
          refine bodyPost_ret (results_none rfl _ _ _) rfl ?_
          exact ⟨⟨_, rfl⟩, O4, h5.trans x4 o3.size, only_after o3 y4 h5, .inr ⟨pre ++ [(s.length - y.length + 1, y.take i)], ⟨_, by rw [HH.out]; simp; rfl⟩, hx4⟩⟩
end Go.Proofs.YthhbhfpdabiclaaGreatDoor.L12
