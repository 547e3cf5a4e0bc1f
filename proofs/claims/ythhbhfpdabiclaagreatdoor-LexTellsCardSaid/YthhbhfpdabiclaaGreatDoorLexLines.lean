/- lex (layer 12): the iterator over a source's lines, built on the library's. -/
import Derived.Test.YthhbhfpdabiclaaGreatDoorLexWds
import Derived.Test.YthhbhfpdabiclaaGreatDoorLexEmpty
namespace Go.Proofs.YthhbhfpdabiclaaGreatDoor.L12
open Go.RowKit Go.Shelf
set_option linter.unusedVariables false
attribute [local go_sem] Oper.semAt_some
theorem lns_append : ∀ (a b : List (List UInt8)) (n : Nat), lns n (a ++ b) = lns n a ++ lns (n + a.length) b
  | [], b, n => by simp [lns]
  | x :: a, b, n => by
    have ih := lns_append a b (n + 1)
    simp only [List.cons_append, lns, List.length_cons]
    rw [ih, show n + 1 + a.length = n + (a.length + 1) by omega]
    split <;> simp
theorem chk_flat : ∀ (l cur : List UInt8), (chk cur l).flatten = cur ++ l
  | [], cur => by
    unfold chk
    split
    · next h => subst h; rfl
    · simp
  | b :: t, cur => by
    unfold chk
    split
    · rw [List.flatten_cons, chk_flat t []]; simp
    · rw [chk_flat t (cur ++ [b])]; simp
theorem chk_ne : ∀ (l cur : List UInt8), ∀ x ∈ chk cur l, x ≠ []
  | [], cur, x, h => by
    unfold chk at h
    split at h
    · simp at h
    · next hc => simp at h; subst h; exact hc
  | b :: t, cur, x, h => by
    unfold chk at h
    split at h
    · rcases List.mem_cons.1 h with rfl | h
      · simp
      · exact chk_ne t [] x h
    · exact chk_ne t _ x h
theorem len_flat : ∀ (L : List (List UInt8)), (∀ x ∈ L, x ≠ []) → L.length ≤ L.flatten.length
  | [], _ => by simp
  | x :: L, h => by
    have ih := len_flat L (fun y hy => h y (by simp [hy]))
    have hx : x ≠ [] := h x (by simp)
    have : 1 ≤ x.length := by cases x with | nil => exact (hx rfl).elim | cons => simp
    simp only [List.length_cons, List.flatten_cons, List.length_append]
    omega
theorem mem_flat : ∀ (L : List (List UInt8)) (x : List UInt8), x ∈ L → x.length ≤ L.flatten.length
  | y :: L, x, h => by
    simp only [List.flatten_cons, List.length_append]
    rcases List.mem_cons.1 h with rfl | h
    · omega
    · have := mem_flat L x h; omega
theorem chk_count (s : List UInt8) : (chk [] s).length ≤ s.length := by
  have := len_flat (chk [] s) (chk_ne s [])
  rwa [chk_flat, List.nil_append] at this
theorem chk_mem {s x : List UInt8} (h : x ∈ chk [] s) : x.length ≤ s.length := by
  have := mem_flat _ _ h
  rwa [chk_flat, List.nil_append] at this
theorem Nx.mem {α : Type} {L : List α} {pre : List α} {x : α} (h : Nx L pre x) : x ∈ L ∧ pre.length < L.length := by
  obtain ⟨r, rfl⟩ := h
  simp
theorem Nx.lines {L pre : List (List UInt8)} {x : List UInt8} (h : Nx L pre x) (he : emptyL (strip x) = false) : Nx (lns 1 L) (lns 1 pre) (pre.length + 1, strip x) := by
  obtain ⟨r, rfl⟩ := h
  refine ⟨lns (1 + (pre ++ [x]).length) r, ?_⟩
  rw [lns_append, lns_append]
  simp [lns, he, Nat.add_comm]
theorem lns_skip {pre : List (List UInt8)} {x : List UInt8} (he : emptyL (strip x) = true) : lns 1 (pre ++ [x]) = lns 1 pre := by rw [lns_append]; simp [lns, he]
theorem lns_take {pre : List (List UInt8)} {x : List UInt8} (he : emptyL (strip x) = false) : lns 1 (pre ++ [x]) = lns 1 pre ++ [(pre.length + 1, strip x)] := by rw [lns_append]; simp [lns, he, Nat.add_comm]
theorem lns_prefix {L pre : List (List UInt8)} (h : pre <+: L) : lns 1 pre <+: lns 1 L := by
  obtain ⟨r, rfl⟩ := h
  exact ⟨_, (lns_append pre r 1).symm⟩
theorem end_only {O G : Ow} {A B C : World} {D : Nat} {o : Obj} (h : OnlyO (fun _ => False) A B) (k : OnlyO O B C) (hD : A.heap.size ≤ D) (hO : ∀ j, j < A.heap.size → O j → G j) : OnlyO G A (C.putObj D o) :=
  ⟨k.os.trans h.os, k.tape.trans h.tape, k.output.trans h.output, by simp; exact Nat.le_trans h.size k.size, fun j hj hn => (World.putObj_heap_other (by omega)).trans ((k.block j (Nat.lt_of_lt_of_le hj h.size) (fun q => hn (hO j hj q))).trans (h.block j hj (fun q => q)))⟩
theorem round_wide {n m : Nat} {P : Program} {l : Nat} {f : FuncId} {t : Array Value} {a b : Code} {w : World} {R : Ending → World → Prop} (l' : Nat) (h : RoundIn Fence.wide n P l f t a b w R) : RoundIn (Fence.wide.inRound l') m P l f t a b w R :=
  ⟨h.1, fun c cs _ => h.2 c cs (room_wide _)⟩
theorem lines_at (s : List UInt8) (w : World) : Calls Tryz.prog 16 #[.string (St s)] w fun e w' => e = .returned (.func (.func 37) #[] #[.pointer (some ⟨w.heap.size, 0, none⟩)]) ∧ w' = w.alloc (.cells #[.string (St s)] 9) := by
  go_enter Tryz.func16, Tryz.ntmps16
  go_wp2_with fail
  go_ret
  exact ⟨rfl, rfl⟩
/-- What a round of the lines keeps: the owner's, the function to call, the count of lines. -/
def LnI (l b2 b3 : Nat) (J : List (Nat × List UInt8) → Ow → World → Prop) (O : Ow) (W : World) (pre : List (List UInt8)) (O' : Ow) (W' : World) : Prop :=
  ∃ O1, (∀ k, O' k ↔ (O1 k ∨ k = b2 ∨ k = b3)) ∧ ¬ O1 b2 ∧ ¬ O1 b3 ∧ Boxed W' b2 61 (.func (.yield l) #[] #[]) ∧ Boxed W' b3 3 (.int .i64 (pre.length : Nat)) ∧ ExtO O W O1 ∧ J (lns 1 pre) O1 W'
theorem LnI.framed {l b2 b3 : Nat} {J : List (Nat × List UInt8) → Ow → World → Prop} (fJ : Framed J) {O : Ow} {W : World} : Framed (LnI l b2 b3 J O W) := fun pre O' A B ⟨O1, e, h1, h2, h3, h4, h5, h6⟩ k =>
  ⟨O1, e, h1, h2, (k.block b2 ((e b2).2 (.inr (.inl rfl)))).trans h3, (k.block b3 ((e b3).2 (.inr (.inr rfl)))).trans h4, h5, fJ _ _ _ _ h6 ⟨k.os, k.tape, k.output, k.size, fun j hj => k.block j ((e j).2 (.inl hj))⟩⟩
theorem LnI.bounded {l b2 b3 : Nat} {J : List (Nat × List UInt8) → Ow → World → Prop} (bJ : Bounded J) {O : Ow} {W : World} : Bounded (LnI l b2 b3 J O W) := fun pre O' A ⟨O1, e, h1, h2, h3, h4, h5, h6⟩ k hk => by
  rcases (e k).1 hk with h | h | h
  · exact bJ _ _ _ h6 k h
  · subst h; exact h3.lt
  · subst h; exact h4.lt
set_option maxRecDepth 100000 in
set_option maxHeartbeats 4000000 in
theorem lines_seq (n : Nat) (hn : 4 ≤ n) (Bs : Nat) (s : List UInt8) (hs : s.length ≤ 65536) (w : World) (hB : SBx Bs s w) :
    SeqO Fence.wide n Tryz.prog 37 #[.pointer (some ⟨Bs, 0, none⟩)] encN (· = Bs) (· = lns 1 (chk [] s)) (· <+: lns 1 (chk [] s)) (Nx (lns 1 (chk [] s))) w := fun l J Jx O W hW fJ fJx bJ bJx hG hY h0 => by
  have hb0 : SBx Bs s W := (hW.block Bs hB.lt).trans hB
  clear hB hW
  have c0 := hb0.cell
  have l0 := hb0.lt
  have h1 : 1 ≤ n := by omega
  refine callsIn_of_wp_marks Tryz.func37 rfl trivial ?_ rfl
  simp only [Tryz.ntmps37, List.size_toArray, List.length_cons, List.length_nil, Nat.reduceAdd, Nat.reduceSub, Array.replicate_succ, Array.replicate_zero, List.push_toArray, List.append_toArray, List.nil_append, List.cons_append]
  gi_wp2_with (refine ⟨trivial, ((callsIn_wide (n := n - 1)).2 (Lines_at s _)).mono ?_⟩; rintro e w' ⟨rfl, rfl⟩)
  have bX := Boxed.new ((W.alloc (.cells #[.func (.yield l) #[] #[]] 61)).alloc (.cells #[.int .i64 0] 3)) 9 (.string (St s))
  have b3 := (Boxed.new (W.alloc (.cells #[.func (.yield l) #[] #[]] 61)) 3 (.int .i64 0)).alloc (.cells #[.string (St s)] 9)
  have b2 := ((Boxed.new W 61 (.func (.yield l) #[] #[])).alloc (.cells #[.int .i64 0] 3)).alloc (.cells #[.string (St s)] 9)
  simp only [World.size_alloc] at bX b3 b2
  have o0 : OnlyO (fun _ => False) W (((W.alloc (.cells #[.func (.yield l) #[] #[]] 61)).alloc (.cells #[.int .i64 0] 3)).alloc (.cells #[.string (St s)] 9)) :=
    ((only_alloc _ _ _).trans (O' := fun _ => False) (only_alloc _ _ _) (ExtO.refl _ _)).trans (O' := fun _ => False) (only_alloc _ _ _) (ExtO.refl _ _)
  have z0 : (((W.alloc (.cells #[.func (.yield l) #[] #[]] 61)).alloc (.cells #[.int .i64 0] 3)).alloc (.cells #[.string (St s)] 9)).heap.size = W.heap.size + 3 := by simp
  generalize ((W.alloc (.cells #[.func (.yield l) #[] #[]] 61)).alloc (.cells #[.int .i64 0] 3)).alloc (.cells #[.string (St s)] 9) = W0 at bX b3 b2 o0 z0 ⊢
  have hb := bJ _ _ _ h0
  refine range_o (F := Fence.wide) rfl h1 (gf := 52) (lb := #[.pointer (some ⟨W.heap.size + 1 + 1, 0, none⟩)]) rfl trivial (enters_of Tryz.func52 (by kernel_rfl) rfl)
    (Lines_seq (n - 1) (by omega) (W.heap.size + 1 + 1) s hs W0 bX) (Below.refl _ _) (fun _ => rfl)
    (LnI l W.heap.size (W.heap.size + 1) J O W) (fun c pre O' W' => c = .ret ∧ LnI l W.heap.size (W.heap.size + 1) Jx O W pre O' W')
    (LnI.framed fJ) (fun c pre O' A B h k => ⟨h.1, LnI.framed fJx _ _ _ _ h.2 k⟩) (LnI.bounded bJ) (fun c pre O' A h => LnI.bounded bJx _ _ _ h.2)
    (fun x a' _ _ => a' = { tmps := #[.func (.yield l) #[] #[], .pointer (some ⟨Bs, 0, none⟩), .pointer (some ⟨W.heap.size, 0, none⟩), .pointer (some ⟨W.heap.size + 1, 0, none⟩), .string (St x), .string (St s),
      .func (.func 52) #[] #[.pointer (some ⟨W.heap.size + 1 + 1, 0, none⟩)], .string (St x), undef, undef, undef, undef, undef, undef, undef, undef, undef, undef, undef, undef, undef, undef], defers := [] })
    (fun x a' _ _ _ _ h _ => h)
    (fun k => O k ∨ k = W.heap.size ∨ k = W.heap.size + 1) (fun k hk => ⟨by omega, fun h => by
      rcases h with h | h | h
      · have := hb k h; omega
      · omega
      · omega⟩)
    ⟨O, fun k => Iff.rfl, fun h => by have := hb _ h; omega, fun h => by have := hb _ h; omega, b2, b3, ExtO.refl _ _, fJ _ _ _ _ h0 (o0.fr hb fun _ _ h => h)⟩
    ?assign ?body ?done ?stop
  case assign =>
    rintro l2 pre x O2 W2 K hI hK
    simp only [encS]
    gi_wp2
    exact hK _ _ _ (ExtO.refl _ _) (OnlyO.refl _ _) hI rfl
  case body =>
    rintro l2 pre ch a' O2 W2 hl ⟨r, hr⟩ nl ⟨O1, e1, n2, n3, B2, B3, hx, hJ⟩ rfl hnx
    have c2 := B2.cell
    have c3 := B3.cell
    have f3 := B3.frozen
    have hm := hnx.mem
    have hcl := chk_mem hm.1
    have hcc := chk_count s
    have hln : pre.length ≤ 65535 := by omega
    have TS : ∀ w, Hid (CallsIn (Fence.wide.inRound l2) (n - 1 - 1 - 1) Tryz.prog 39 #[.string (St ch), .string ⟨#[10]⟩] w fun e w' => e = .returned (.string (St (strip ch))) ∧ w' = w) := fun w => Lib.hid (callsIn_wide.2 (TrimSuffix_at ch 10 (by omega) w))
    have IE := fun w => Lib.hid ((callsIn_wide (n := n - 1 - 1 - 1)).2 (isEmpty_at (strip ch) w))
    have h3' : 1 ≤ n - 1 - 1 := by omega
    have B3a : Boxed (W2.setCell ⟨W.heap.size + 1, 0, none⟩ (.int .i64 ((pre.length : Nat) + 1))) (W.heap.size + 1) 3 (.int .i64 ((pre.length : Nat) + 1)) := B3.set _
    have B2a : Boxed (W2.setCell ⟨W.heap.size + 1, 0, none⟩ (.int .i64 ((pre.length : Nat) + 1))) W.heap.size _ _ := B2.other (by omega) _
    have J3 := fJ _ _ _ _ hJ (fr_cell (v := .int .i64 ((pre.length : Nat) + 1)) (fun k hk => bJ _ _ _ hJ k hk) n3)
    have o3 : OnlyO O2 W2 (W2.setCell ⟨W.heap.size + 1, 0, none⟩ (.int .i64 ((pre.length : Nat) + 1))) := only_cell ((e1 _).2 (.inr (.inr rfl)))
    have el : ((pre ++ [ch]).length : Int) = (pre.length : Int) + 1 := by simp
    gi_wp2_with (refine ⟨trivial, (TS _).out.mono ?_⟩; rintro e w3 ⟨rfl, rfl⟩)
    refine ⟨trivial, CallsIn.inRound l2 ((IE _).out.mono ?_)⟩
    rintro e w4 ⟨rfl, g4⟩
    have B3b := (g4.block _ B3a.lt).trans B3a
    have B2b := (g4.block _ B2a.lt).trans B2a
    have J4 := fJ _ _ _ _ J3 (fr_below (fun k hk => bJ _ _ _ J3 k hk) g4)
    have o4 : OnlyO O2 W2 w4 := o3.trans (O' := O2) (only_below g4) (ExtO.refl _ _)
    have c2b := Boxed.cell B2b
    have c3b := Boxed.cell B3b
    cases he : emptyL (strip ch) with
    | true =>
      gi_wp2
      repeat (refine ⟨fun _ h => (by cases h), ?_⟩; gi_wp2)
      exact ⟨O2, ExtO.refl _ _, o4, O1, e1, n2, n3, B2b, by rw [el]; exact B3b, hx, by rw [lns_skip he]; exact J4⟩
    | false =>
      obtain ⟨f0, t0, a0, cc0, hy0, hR0⟩ := hY _ _ O1 _ J4 (hnx.lines he) hx
      unfold encN at hy0
      simp only [] at hy0
      rw [show ((pre.length + 1 : Nat) : Int) = (pre.length : Int) + 1 by omega] at hy0
      have HR := Lib.hid (round_wide (m := n - 1 - 1 - 1) l2 hR0)
      clear hR0
      have s4 : W.heap.size < w4.heap.size := Boxed.lt B2b
      have t4 := Boxed.lt B3b
      gi_wp2
      refine HR.out.mono ?_
      rintro e W5 ⟨O5, x5, y5, (⟨rfl, hJ5⟩ | ⟨rfl, hx5⟩)⟩
      all_goals
        have o5 : OnlyO O2 W2 W5 := o4.trans (O' := O2) (y5.wide fun k _ h => (e1 k).2 (.inl h)) (ExtO.refl _ _)
        have hext : ExtO O2 W2 (fun k => O5 k ∨ k = W.heap.size ∨ k = W.heap.size + 1) := fun k hk => by
          rcases hk with hk | hk
          · exact (x5 k hk).imp (fun q => (e1 k).2 (.inl q)) (fun q => Nat.le_trans o4.size q)
          · exact .inl ((e1 k).2 (.inr hk))
        have m2 : ¬ O5 W.heap.size := fun q => (x5 _ q).elim n2 (fun q => by omega)
        have m3 : ¬ O5 (W.heap.size + 1) := fun q => (x5 _ q).elim n3 (fun q => by omega)
        have B2c := (y5.block _ s4 n2).trans B2b
        have B3c := (y5.block _ t4 n3).trans B3b
        have hx5' : ExtO O W O5 := hx.trans x5 (by omega)
        gi_wp2
      · exact ⟨_, hext, o5, O5, fun k => Iff.rfl, m2, m3, B2c, by rw [el]; exact B3c, hx5', by rw [lns_take he]; exact hJ5⟩
      · repeat (refine ⟨fun _ h => (by cases h), ?_⟩; gi_wp2)
        exact ⟨_, hext, o5, rfl, O5, fun k => Iff.rfl, m2, m3, B2c, by rw [el]; exact B3c, hx5', by rw [lns_take he]; exact hx5⟩
  case done =>
    rintro D zs O' W5 hD rfl ⟨O1, e1, n2, n3, B2, B3, hx, hJ⟩ hext honly hK nD
    gi_wp2
    refine ⟨by simp, .inl ⟨_, _, rfl, run_takeDeferred hK, ?_⟩⟩
    refine ⟨_, results_none rfl _ _ _, ⟨_, rfl⟩, O1, hx, ?_, .inl ⟨_, rfl, fJ _ _ _ _ hJ (fr_put fun q => nD ((e1 D).2 (.inl q)))⟩⟩
    exact end_only o0 honly (by omega) (fun k hk q => by
      rcases q with (q | q | q) | q
      · exact .inl q
      · omega
      · omega
      · omega)
  case stop =>
    rintro D c pre O' W5 hD hp ⟨rfl, O1, e1, n2, n3, B2, B3, hx, hJ⟩ hext honly hK nD
    gi_wp2
    refine ⟨by simp, .inl ⟨_, _, rfl, run_takeDeferred hK, ?_⟩⟩
    refine ⟨_, results_none rfl _ _ _, ⟨_, rfl⟩, O1, hx, ?_, .inr ⟨_, lns_prefix hp, fJx _ _ _ _ hJ (fr_put fun q => nD ((e1 D).2 (.inl q)))⟩⟩
    exact end_only o0 honly (by omega) (fun k hk q => by
      rcases q with (q | q | q) | q
      · exact .inl q
      · omega
      · omega
      · omega)
end Go.Proofs.YthhbhfpdabiclaaGreatDoor.L12
