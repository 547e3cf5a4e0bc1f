/- The document's machine (layer 6): OpOut; OpRett in a bank. -/
import Derived.Test.YtiobgnelhiadbaaGreatDoorZMachGRb
namespace Go.Proofs.YtiobgnelhiadbaaGreatDoor.K6
open Go.RowKit
set_option linter.unusedVariables false
variable [Far]
omit [Far] in
theorem ap_list {ops : Array Oper} {rest : List Oper} {o : Oper} {a : Act} {w : World} {Q : Exit → Act → World → Prop} (hg : o.guard = none) (sl x : Operand)
    (hop : o.op = Op.call { callee := Callee.builtin Builtin.append, args := #[sl, x], argTypes := #[25, 25] }) (B : Nat) (hs : a.eval sl = .slice (some ⟨B, 0, none⟩) 0 0) (own : w.ownsRow B 22 1 (.slice (some ⟨B, 0, none⟩) 0 0) 0 []) (hB : B ≤ w.heap.size)
    (vc : Value) (n : Nat) (f : Nat → Int) (hx : a.eval x = vc) (hv : OwT w vc n f) (hn : n ≤ 1000000) (h : ∀ s' w', w'.ownsRow B 22 1 s' n (bsL .u32 f n) → w.grownBy w' (some B) → wpList Tryz.prog ops Q rest (a.put o.dst s') w') : wpList Tryz.prog ops Q (o :: rest) a w := by
  obtain ⟨i0, hi, hz0, hz1, hz2⟩ := info_parts u32_parts
  obtain ⟨hl, ⟨rfl, h0⟩ | ⟨g, cap, cur, rfl, hgB, hgg, hr⟩⟩ := id hv
  · subst h0
    refine wpList_append_own_none hg sl x 25 hop B 22 i0 1 u32_under hi (.slice (some ⟨B, 0, none⟩) 0 0) 0 [] hs own hx ?_
    exact h _ _ own ⟨rfl, rfl, rfl, Nat.le_refl _, fun _ _ _ => rfl⟩
  · refine wpList_append_own w hg sl x 25 hop B 22 i0 (.int .u32 0) 1 4 u32_under hi hz0 hz1 hz2 rfl (by decide) (.slice (some ⟨B, 0, none⟩) 0 0) 0 [] hs own ⟨g, 0, none⟩ n cap (bsL .u32 f n) hx ?_ ?_ ?_ ?_ ?_ ?_ ?_
    · rw [bsL_len]; omega
    · exact World.ownsRow.cells hv rfl
    · exact bsL_one _ _ _
    · unfold maxLen; omega
    · omega
    · exact hB
    · intro v' w' ho hgrow _
      rw [Nat.zero_add] at ho
      exact h _ _ ho hgrow
omit [Far] in
theorem ap_one {ops : Array Oper} {rest : List Oper} {o : Oper} {a : Act} {w : World} {Q : Exit → Act → World → Prop} (hg : o.guard = none) (sl x : Operand)
    (hop : o.op = Op.call { callee := Callee.builtin Builtin.append, args := #[sl, x], argTypes := #[25, 25] }) (B : Nat) (s : Value) (n : Nat) (xs : List Value) (hs : a.eval sl = s) (own : w.ownsRow B 22 1 s n xs) (hB : B ≤ w.heap.size)
    (z : Nat) (u : Int) (hx : a.eval x = .slice (some ⟨z, 0, none⟩) 1 1) (hz : w.cell? ⟨z, 0, none⟩ = some (.int .u32 u)) (hn : n ≤ 1000000) (h : ∀ s' w', w'.ownsRow B 22 1 s' (n + 1) (xs ++ [.int .u32 u]) → w.grownBy w' s.ownBlock → wpList Tryz.prog ops Q rest (a.put o.dst s') w') : wpList Tryz.prog ops Q (o :: rest) a w := by
  obtain ⟨i0, hi, hz0, hz1, hz2⟩ := info_parts u32_parts
  refine wpList_append_own w hg sl x 25 hop B 22 i0 (.int .u32 0) 1 4 u32_under hi hz0 hz1 hz2 rfl (by decide) s n xs hs own ⟨z, 0, none⟩ 1 1 [.int .u32 u] hx rfl ?_ ?_ ?_ ?_ hB ?_
  · intro j v hv
    match j, hv with
    | 0, hv =>
      obtain rfl : Value.int .u32 u = v := by simpa using hv
      exact hz
  · intro v hv
    simp at hv
    subst hv
    rfl
  · unfold maxLen; omega
  · omega
  · intro v' w' ho hgrow _
    exact h _ _ ho hgrow
omit [Far] in
theorem own_less6 {w : World} {B C : Nat} {t : TypeId} {z n : Nat} {s : Value} {xs : List Value} (h : w.ownsRow B t z s n xs) (hC : C ≤ B) : w.ownsRow C t z s n xs := by
  obtain ⟨h0, h1 | ⟨g, cap, cur, e, hB, r⟩⟩ := h
  · exact ⟨h0, .inl h1⟩
  · exact ⟨h0, .inr ⟨g, cap, cur, e, Nat.le_trans hC hB, r⟩⟩
omit [Far] in
theorem tell_list (m : MS) (a : Int) : bsL .u32 m.out m.ol ++ [.int .u32 a] = bsL .u32 (m.tell a).out (m.tell a).ol := by
  show _ = bsL .u32 (F3.upd m.out m.ol a) (m.ol + 1)
  rw [bsL_succ]
  congr 1
  · unfold bsL
    apply List.map_congr_left
    intro i hi
    have : i < m.ol := by simpa using hi
    rw [F3.upd_ne _ _ (by omega)]
  · rw [F3.upd_same]
set_option maxHeartbeats 2000000 in
set_option maxRecDepth 100000 in
theorem rest35 (q : RV) (m : MS) (L : Nat) (d s t : Int) (ib : Bool) (n a : Int) (w : World) (hA : RefAt w q m L) (hm : MOk m) (hol : m.ol ≤ 100000) :
    Calls Tryz.prog 83 #[.agg (rrow q), .agg (irow 35 d s t ib n), .int .u32 a] w (Gives w (m.tell a).on L) := by
  have HA := Lib.hid hA
  have HO := Lib.hid (fun W q2 (hW : RefAt W q2 (m.tell a) L) => on_ref q2 _ L W hW)
  have HOL := Lib.hid hol
  clear hA hm hol
  go_enter Tryz.func83, Tryz.ntmps83
  go_upto_region 1 with (refine q_start3 rfl rfl rfl (.tmp 0) (.tmp 1) rfl rfl (some 3) (some 4) (some 6) rfl rfl rfl q rfl 35 d s t ib n rfl (fun W c => by kernel_rfl) ?_; intro V1 c z r1 i1 z1 b1 s1; obtain ⟨k0, k1, k2, k3, k4, k5, k6, k7, k8, k9, k10, k11, k12, k13, k14, k15⟩ := r1.out.all; obtain ⟨j0, j1, j2, j3, j4, j5⟩ := i1.out.all)
  go_upto_region 11 with (fail)
  have lt1 := r1.out.lt
  have gE : Hid (Below V1.heap.size V1 (V1.alloc (.cells #[] 22))) := (Below.refl _ _).alloc (Nat.le_refl _) _
  have sE : (V1.alloc (.cells #[] 22)).heap.size = V1.heap.size + 1 := by simp
  have o1 : Hid ((V1.alloc (.cells #[] 22)).ownsRow V1.heap.size 22 1 (.slice (some ⟨V1.heap.size, 0, none⟩) 0 0) 0 []) := World.ownsRow_made V1 #[] 0 (Nat.le_refl _) (Nat.zero_le _) (by simp)
  have OT : Hid (OwT (V1.alloc (.cells #[] 22)) q.ot m.ol m.out) := ((HA.out.bel b1).bel gE.out).ot
  go_upto_region 12 with (first
    | (at_builtin; refine ap_list rfl (.tmp 43) (.tmp 45) rfl V1.heap.size rfl o1.out (by rw [sE]; omega) q.ot m.ol m.out rfl OT.out (by have := HOL.out; omega) ?_; intro s2 w2 own2 g2; have G2 := Lib.hid (gE.out.grown g2 (by rw [sE]; omega) (fun k hk => by cases hk; exact Nat.le_refl _)); have own2 := Lib.hid own2; have c2 : (w2.alloc (.cells #[.int .u32 a] 22)).cell? ⟨w2.heap.size, 0, none⟩ = some (.int .u32 a) := row_cell (heap_alloc_last _ _) rfl; have own3 := own2.out.alloc (.cells #[.int .u32 a] 22); have G3 : Below V1.heap.size V1 (w2.alloc (.cells #[.int .u32 a] 22)) := bel_trans G2.out ((Below.refl _ _).alloc (Nat.le_refl _) _))
    | (at_builtin; refine ap_one rfl (.tmp 46) (.tmp 48) rfl V1.heap.size s2 m.ol (bsL .u32 m.out m.ol) rfl own3 G3.size w2.heap.size a rfl c2 (by have := HOL.out; omega) ?_; intro s4 w4 own4 g4; obtain ⟨p4, c4, rfl⟩ := lenOf_own own4; have G4 := Lib.hid (G3.grown g4 G3.size (fun k hk => (World.ownsRow.lt own3 k hk).1)); have R4 := Lib.hid (r1.out.bel G4.out); have own4 := Lib.hid own4)
    | (refine q_store rfl 25 (.tmp 50) (.tmp 49) rfl q { q with ot := .slice p4 (m.ol + 1) c4 } w.heap.size 13 rfl [.slice p4 (m.ol + 1) c4] rfl R4.out (by kernel_rfl) (by intro u hu; simp at hu; subst hu; rfl) (Nat.le_of_ble_eq_true rfl) rfl ?_; intro V5 r5 g5))
  have z4 := Lib.hid (z1.out.bel G4.out)
  have z5 := Lib.hid (z4.out.only g5 (by have := s1.out; omega))
  have b5 := only_bel (bel_trans b1 G4.out) g5 (Nat.le_refl _)
  have A4 := Lib.hid ((HA.out.bel b1).bel G4.out)
  have O5 : V5.ownsRow 0 22 1 (.slice p4 (m.ol + 1) c4) (m.ol + 1) (bsL .u32 m.out m.ol ++ [.int .u32 a]) := own_less6 (World.ownsRow.kept own4.out g5 (.inr fun e => by have h1 := (World.ownsRow.lt own4.out _ e).1; omega)) (Nat.zero_le _)
  rw [tell_list] at O5
  have A5 : Hid (RefAt V5 { q with ot := .slice p4 (m.ol + 1) c4 } (m.tell a) L) := { A4.out.only R4.out g5 with ot := O5, fot := (far_row own4.out (HA.out.bel b1).low).1 }
  clear A4 O5 z4 z1 own4 G4 R4
  go_wp2_with (first
    | (refine q_load rfl (.tmp 3) rfl (some 51) rfl _ { q with ot := .slice p4 (m.ol + 1) c4 } rfl r5.out ?_))
  refine (HO.out _ _ A5.out).mono ?_; rintro e w6 ⟨q6, rfl, A6, g6⟩
  have R6 := Lib.hid A6
  have z6 := Lib.hid (z5.out.bel g6)
  have b6 := bel_trans b5 g6
  clear A6
  go_wp2_with (first
    | (refine q_whole rfl (.tmp 6) (.tmp 52) rfl z rzero q6 rfl rfl z6.out R6.out.ok ?_; intro V z' y'))
  exact gives_end rfl rfl rfl R6.out z6.out y'.out z'.out b6 s1.out
end Go.Proofs.YtiobgnelhiadbaaGreatDoor.K6
