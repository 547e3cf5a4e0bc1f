/- The document's lists (layer 7): Parts. -/
import Derived.Test.YtoecanjhkbeemaaDoorAsmRefB
namespace Go.Proofs.YtoecanjhkbeemaaDoor.A7
open Go.RowKit Go.Maps
set_option linter.unusedVariables false
set_option maxHeartbeats 2000000 in
set_option maxRecDepth 10000 in
theorem refParts_at (rd u : Int) (w : World) (hr : 0 ≤ rd ∧ rd ≤ 255) (hu : 0 ≤ u ∧ u < 4294967296) :
    Calls Tryd.prog 28 #[.int .u8 rd, .int .u32 u] w fun e w' => ∃ l, e = .returned l ∧ Ins w' (fun b => b < w.heap.size) l (cK u) (cX rd u) ∧ Below w.heap.size w w' := by
  have hwr := wrap_sgn u hu
  have hw2 : IntKind.i32.wrap (u - 4294967296) = IntKind.i32.wrap u := by simp [IntKind.wrap, IntKind.bits, IntKind.signed]
  cases hs : small u
  · have h1 : ¬ (u ≤ 16383 ∨ 4294950912 ≤ u) := of_decide_eq_false hs
    have w1 := wrap_same (u / 2048) (by omega)
    have w2 := wrap_same (u % 2048) (by omega)
    by_cases hz : u % 2048 = 0
    · have hK : cK u = 1 := by unfold cK; rw [hs, if_pos hz]; rfl
      have hX : Ins (w.alloc (.cells #[.int .u8 15, .int .u8 rd, .int .u8 0, .int .u8 0, .bool true, .int .i32 (u / 2048)] 49)) (fun b => b < w.heap.size) (.slice (some ⟨w.heap.size, 0, none⟩) 1 1) 1 (cX rd u) := by
        have := one_ins ⟨15, rd, 0, 0, true, u / 2048⟩ w
        obtain ⟨p, c, e, h⟩ := this
        refine ⟨p, c, e, fun hk => ?_⟩
        obtain ⟨b, o, e1, hb, hc⟩ := h hk
        refine ⟨b, o, e1, hb, fun i hi => ?_⟩
        obtain rfl : i = 0 := by omega
        have e0 : cX rd u 0 = ⟨15, rd, 0, 0, true, u / 2048⟩ := by unfold cX; rw [hs]; rfl
        rw [e0]; exact hc 0 hi
      have X := Lib.hid hX
      rw [hK]
      have h2 : 16384 ≤ u := by omega
      have h3 : u < 4294950912 := by omega
      clear hs h1 hK hX w2
      go_enter Tryd.func28, Tryd.ntmps28
      go_wp2
      all_goals first
        | (exfalso; omega)
        | (go_ret; exact ⟨_, rfl, X.out, (Below.refl _ _).alloc (Nat.le_refl _) _⟩)
        | skip
    · have hK : cK u = 2 := by unfold cK; rw [hs, if_neg hz]; rfl
      have X : Hid (∀ (v : Value) (W : World), W.ownsRow w.heap.size 49 6 v 2 [.int .u8 15, .int .u8 rd, .int .u8 0, .int .u8 0, .bool true, .int .i32 (u / 2048), .int .u8 7, .int .u8 rd, .int .u8 rd, .int .u8 0, .bool true, .int .i32 (u % 2048)] → Ins W (fun b => b < w.heap.size) v 2 (cX rd u)) := fun v W h => by
        have e0 : cX rd u 0 = ⟨15, rd, 0, 0, true, u / 2048⟩ := by unfold cX; rw [hs]; rfl
        have e1 : cX rd u 1 = ⟨7, rd, rd, 0, true, u % 2048⟩ := by unfold cX; rw [hs]; rfl
        refine own_ins h fun i hi j hj => ?_
        have hi' : i = 0 ∨ i = 1 := by omega
        have hj' : j = 0 ∨ j = 1 ∨ j = 2 ∨ j = 3 ∨ j = 4 ∨ j = 5 := by omega
        rcases hi' with rfl | rfl
        · rw [e0]; rcases hj' with rfl | rfl | rfl | rfl | rfl | rfl <;> rfl
        · rw [e1]; rcases hj' with rfl | rfl | rfl | rfl | rfl | rfl <;> rfl
      rw [hK]
      have O1 := Lib.hid (one_own ⟨15, rd, 0, 0, true, u / 2048⟩ w)
      obtain ⟨i0, hi, hz0, hz1, hz2⟩ := info_parts inst_parts
      have h2 : 16384 ≤ u := by omega
      have h3 : u < 4294950912 := by omega
      clear hs h1 hK hwr hw2
      go_enter Tryd.func28, Tryd.ntmps28
      go_wp2_with (at_builtin; refine wpList_append_own _ rfl _ _ 33 rfl w.heap.size 49 i0 _ 6 12 Tryd.underlying33 hi hz0 hz1 hz2 rfl (by decide) _ _ _ rfl (O1.out.alloc _) _ 1 1 (XI.row ⟨7, rd, rd, 0, true, u % 2048⟩) rfl rfl (new_inst _ _ _ (by simp)) (fun v hv => row_one _ v hv) (by unfold maxLen; omega) (by omega) (by simp; omega) ?_
                   intro v' w3 own gr hnil
                   have Y := Lib.hid (X.out v' w3 own)
                   have g3 := Lib.hid (Below.grown (((Below.refl _ w).alloc (Nat.le_refl _) (.cells #[.int .u8 15, .int .u8 rd, .int .u8 0, .int .u8 0, .bool true, .int .i32 (u / 2048)] 49)).alloc (by simp) (.cells #[.int .u8 7, .int .u8 rd, .int .u8 rd, .int .u8 0, .bool true, .int .i32 (u % 2048)] 49)) gr (by simp; omega) (fun j hj => ((one_own ⟨15, rd, 0, 0, true, u / 2048⟩ w).lt j hj).1))
                   clear own gr hnil)
      all_goals first
        | (exfalso; omega)
        | (go_ret; exact ⟨_, rfl, Y.out, g3.out⟩)
        | skip
  · have h1 : u ≤ 16383 ∨ 4294950912 ≤ u := of_decide_eq_true hs
    have hK : cK u = 1 := by unfold cK; rw [hs]; rfl
    have hX : cX rd u = fun _ => ⟨1, rd, 0, 0, true, sgn u⟩ := by funext i; unfold cX; rw [hs]; rfl
    rw [hK, hX]
    rw [hwr] at hw2
    clear hs hK hX
    rcases h1 with h1 | h1
    · go_enter Tryd.func28, Tryd.ntmps28
      go_wp2
      all_goals first
        | (exfalso; omega)
        | (go_ret; exact ⟨_, rfl, one_ins ⟨1, rd, 0, 0, true, sgn u⟩ w, (Below.refl _ _).alloc (Nat.le_refl _) _⟩)
        | skip
    · go_enter Tryd.func28, Tryd.ntmps28
      go_wp2
      all_goals first
        | (exfalso; omega)
        | (go_ret; exact ⟨_, rfl, one_ins ⟨1, rd, 0, 0, true, sgn u⟩ w, (Below.refl _ _).alloc (Nat.le_refl _) _⟩)
        | skip
end Go.Proofs.YtoecanjhkbeemaaDoor.A7
