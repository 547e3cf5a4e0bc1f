/- What join, Encode, split and Decode of package inst come to, for any instruction and any word. -/
import Derived.Test.YtgbodbejcffclaaDoorInstValid
import Derived.Test.YtgbodbejcffclaaDoorInstAsk
namespace Go.Proofs.YtgbodbejcffclaaDoor.I2
open Go.RowKit
set_option linter.unusedVariables false

/-! join. -/
theorem or_add (i : Nat) (p x y : Int) (hp : (2 : Int) ^ i = p) (hx : 0 ≤ x ∧ x < 4294967296) (hm : x % p = 0) (hy : 0 ≤ y ∧ y < p) (hs : y < 4294967296) : bits .or .u32 x y = x + y := by
  obtain ⟨a, rfl⟩ := Int.eq_ofNat_of_zero_le hx.1
  obtain ⟨c, rfl⟩ := Int.eq_ofNat_of_zero_le hy.1
  subst hp
  rw [u32_or_nat a c (by omega) (by omega)]
  have e : ((2 ^ i : Nat) : Int) = (2 : Int) ^ i := by simp
  have h1 : a % 2 ^ i = 0 := by rw [← e] at hm; omega
  have h2 : c < 2 ^ i := by have := hy.2; rw [← e] at this; omega
  rw [nat_join i a c h1 h2]
  simp
theorem join_wide (o d s t : Int) (b : Bool) (n : Int) (w : World) (ho : 0 ≤ o ∧ o ≤ 63) (hd : 0 ≤ d ∧ d ≤ 31) (hs : 0 ≤ s ∧ s ≤ 31) (ht : 0 ≤ t ∧ t ≤ 31) :
    Calls Tryd.prog 32 #[.agg #[.int .u8 o, .int .u8 d, .int .u8 s, .int .u8 t, .bool b, .int .i32 n], .bool true] w fun e w' => e = .returned (.int .u32 (o * 67108864 + d * 2097152 + n % 2097152)) ∧ Grown w w' := by
  have e1 : bits .or .u32 (o * 32) d = o * 32 + d := or_add 5 32 _ _ (by decide) (by omega) (by omega) (by omega) (by omega)
  have e2 : bits .or .u32 ((o * 32 + d) * 2097152) (n % 2097152) = o * 67108864 + d * 2097152 + n % 2097152 := by
    rw [or_add 21 2097152 _ _ (by decide) (by omega) (by omega) (by omega) (by omega)]; omega
  go_enter Tryd.func32, Tryd.ntmps32
  go_wp2_with (go_at_call 41; refine (lowest21 _ _ (by omega)).mono ?_; rintro e w1 ⟨rfl, rfl⟩)
  go_ret
  exact ⟨rfl, (Grown.refl _).alloc _ _⟩
theorem join_yes (o d s t : Int) (n : Int) (w : World) (ho : 0 ≤ o ∧ o ≤ 63) (hd : 0 ≤ d ∧ d ≤ 31) (hs : 0 ≤ s ∧ s ≤ 31) (ht : 0 ≤ t ∧ t ≤ 31) :
    Calls Tryd.prog 32 #[.agg #[.int .u8 o, .int .u8 d, .int .u8 s, .int .u8 t, .bool true, .int .i32 n], .bool false] w fun e w' => e = .returned (.int .u32 (o * 67108864 + d * 2097152 + s * 65536 + 32768 + n % 32768)) ∧ Grown w w' := by
  have e1 : bits .or .u32 (o * 32) d = o * 32 + d := or_add 5 32 _ _ (by decide) (by omega) (by omega) (by omega) (by omega)
  have e2 : bits .or .u32 ((o * 32 + d) * 32) s = (o * 32 + d) * 32 + s := or_add 5 32 _ _ (by decide) (by omega) (by omega) (by omega) (by omega)
  have e3 : bits .or .u32 (((o * 32 + d) * 32 + s) * 2) 1 = ((o * 32 + d) * 32 + s) * 2 + 1 := or_add 1 2 _ _ (by decide) (by omega) (by omega) (by omega) (by omega)
  have e4 : bits .or .u32 ((((o * 32 + d) * 32 + s) * 2 + 1) * 32768) (n % 32768) = o * 67108864 + d * 2097152 + s * 65536 + 32768 + n % 32768 := by
    rw [or_add 15 32768 _ _ (by decide) (by omega) (by omega) (by omega) (by omega)]; omega
  go_enter Tryd.func32, Tryd.ntmps32
  go_wp2_with (go_at_call 41; refine (lowest15 _ _ (by omega)).mono ?_; rintro e w1 ⟨rfl, rfl⟩)
  go_ret
  exact ⟨rfl, (Grown.refl _).alloc _ _⟩
theorem join_no (o d s t : Int) (n : Int) (w : World) (ho : 0 ≤ o ∧ o ≤ 63) (hd : 0 ≤ d ∧ d ≤ 31) (hs : 0 ≤ s ∧ s ≤ 31) (ht : 0 ≤ t ∧ t ≤ 31) :
    Calls Tryd.prog 32 #[.agg #[.int .u8 o, .int .u8 d, .int .u8 s, .int .u8 t, .bool false, .int .i32 n], .bool false] w fun e w' => e = .returned (.int .u32 (o * 67108864 + d * 2097152 + s * 65536 + t)) ∧ Grown w w' := by
  have e1 : bits .or .u32 (o * 32) d = o * 32 + d := or_add 5 32 _ _ (by decide) (by omega) (by omega) (by omega) (by omega)
  have e2 : bits .or .u32 ((o * 32 + d) * 32) s = (o * 32 + d) * 32 + s := or_add 5 32 _ _ (by decide) (by omega) (by omega) (by omega) (by omega)
  have e3 : bits .or .u32 (((o * 32 + d) * 32 + s) * 65536) t = o * 67108864 + d * 2097152 + s * 65536 + t := by
    rw [or_add 16 65536 _ _ (by decide) (by omega) (by omega) (by omega) (by omega)]; omega
  go_enter Tryd.func32, Tryd.ntmps32
  go_wp2
  go_ret
  exact ⟨rfl, (Grown.refl _).alloc _ _⟩
theorem may_small {o d s t : Int} {b : Bool} {n : Int} (ho : 0 ≤ o ∧ o ≤ 255) (hd : 0 ≤ d ∧ d ≤ 255) (hs : 0 ≤ s ∧ s ≤ 255) (ht : 0 ≤ t ∧ t ≤ 255) (h : may o d s t b n = true) : (0 ≤ o ∧ o ≤ 63) ∧ (0 ≤ d ∧ d ≤ 31) ∧ (0 ≤ s ∧ s ≤ 31) ∧ (0 ≤ t ∧ t ≤ 31) := by
  cases b
  · have h' : MayF o d s t n := of_decide_eq_true h
    unfold MayF Ka Kb at h'
    omega
  · have h' : MayT o d s t n := of_decide_eq_true h
    unfold MayT Ka Kb at h'
    omega
theorem join_any (o d s t : Int) (b : Bool) (n : Int) (w : World) (ho : 0 ≤ o ∧ o ≤ 255) (hd : 0 ≤ d ∧ d ≤ 255) (hs : 0 ≤ s ∧ s ≤ 255) (ht : 0 ≤ t ∧ t ≤ 255) (h : may o d s t b n = true) :
    Calls Tryd.prog 32 #[.agg #[.int .u8 o, .int .u8 d, .int .u8 s, .int .u8 t, .bool b, .int .i32 n], .bool (fW o)] w fun e w' => e = .returned (.int .u32 (enc o d s t b n)) ∧ Grown w w' := by
  obtain ⟨ko, kd, ks, kt⟩ := may_small ho hd hs ht h
  by_cases hw : Wd o
  · rw [show fW o = true from decide_eq_true hw, show enc o d s t b n = o * 67108864 + d * 2097152 + n % 2097152 by unfold enc; rw [if_pos hw]]
    exact join_wide o d s t b n w ko kd ks kt
  · rw [show fW o = false from decide_eq_false hw]
    cases b
    · rw [show enc o d s t false n = o * 67108864 + d * 2097152 + s * 65536 + t by unfold enc; rw [if_neg hw, if_neg (by decide)]]
      exact join_no o d s t n w ko kd ks kt
    · rw [show enc o d s t true n = o * 67108864 + d * 2097152 + s * 65536 + 32768 + n % 32768 by unfold enc; rw [if_neg hw, if_pos rfl]]
      exact join_yes o d s t n w ko kd ks kt

/-! Encode. -/
theorem fields_is (o : Int) (f0 f1 f2 f3 f4 x : Bool) (w : World) (hT : Tab w) (ho : 0 ≤ o ∧ o ≤ 255) (h0 : fD o = f0) (h1 : fS o = f1) (h2 : fT o = f2) (h3 : fN o = f3) (h4 : fW o = f4) (hx : fX o = x) :
    Calls Tryd.prog 30 #[.int .u8 o] w fun e w' => e = .returned (.tuple #[.agg #[.bool f0, .bool f1, .bool f2, .bool f3, .bool f4], .bool x]) ∧ Grown w w' := by
  subst h0 h1 h2 h3 h4 hx; exact fieldsOf_any o w hT ho
theorem valid_is (o d s t : Int) (b : Bool) (n : Int) (x : Bool) (w : World) (ho : 0 ≤ o ∧ o ≤ 255) (hd : 0 ≤ d ∧ d ≤ 255) (hs : 0 ≤ s ∧ s ≤ 255) (ht : 0 ≤ t ∧ t ≤ 255) (hx : fX o = true) (h : may o d s t b n = x) :
    Calls Tryd.prog 31 #[.agg #[.int .u8 o, .int .u8 d, .int .u8 s, .int .u8 t, .bool b, .int .i32 n], .agg #[.bool (fD o), .bool (fS o), .bool (fT o), .bool (fN o), .bool (fW o)]] w
      fun e w' => e = .returned (.bool x) ∧ Grown w w' := by
  have hv := vl_may o d s t b n hd hs ht
  unfold vl at hv
  rw [hx, Bool.true_and, h] at hv
  have hc := valid_any o d s t b n (fD o) (fS o) (fT o) (fN o) (fW o) w ho hd hs ht
  rw [hv] at hc
  exact hc
set_option maxHeartbeats 1000000 in
theorem enc_none (o d s t : Int) (b : Bool) (n : Int) (w : World) (hT : Tab w) (ho : 0 ≤ o ∧ o ≤ 255) (hx : fX o = false) :
    Calls Tryd.prog 28 #[.agg #[.int .u8 o, .int .u8 d, .int .u8 s, .int .u8 t, .bool b, .int .i32 n]] w fun e w' => e = .returned (.tuple #[.int .u32 0, .int .i64 2]) ∧ Grown w w' := by
  go_enter Tryd.func28, Tryd.ntmps28
  go_wp2_with fail
  refine (fields_is o _ _ _ _ _ _ _ (hT.grown ((Grown.refl _).alloc _ _)) ho rfl rfl rfl rfl rfl hx).mono ?_; rintro e w1 ⟨rfl, g1⟩
  go_wp2_with fail
  go_ret2
  exact ⟨rfl, grown_trans ((Grown.refl _).alloc _ _) (g1.alloc _ _)⟩
theorem inst_cells {w W : World} {o d s t : Int} {b : Bool} {n : Int} (g : Grown (w.alloc (.cells #[.int .u8 o, .int .u8 d, .int .u8 s, .int .u8 t, .bool b, .int .i32 n] 57)) W) :
    W.cell? ⟨w.heap.size, 0, none⟩ = some (.int .u8 o) ∧ W.cell? ⟨w.heap.size, 1, none⟩ = some (.int .u8 d) ∧ W.cell? ⟨w.heap.size, 2, none⟩ = some (.int .u8 s) ∧ W.cell? ⟨w.heap.size, 3, none⟩ = some (.int .u8 t) ∧ W.cell? ⟨w.heap.size, 4, none⟩ = some (.bool b) ∧ W.cell? ⟨w.heap.size, 5, none⟩ = some (.int .i32 n) ∧ w.heap.size < W.heap.size :=
  ⟨cell_new_grown g rfl, cell_new_grown g rfl, cell_new_grown g rfl, cell_new_grown g rfl, cell_new_grown g rfl, cell_new_grown g rfl, block_lt_of_cell (a := ⟨w.heap.size, 0, none⟩) (cell_new_grown g rfl)⟩
set_option maxHeartbeats 1000000 in
theorem enc_no (o d s t : Int) (b : Bool) (n : Int) (w : World) (hT : Tab w) (ho : 0 ≤ o ∧ o ≤ 255) (hd : 0 ≤ d ∧ d ≤ 255) (hs : 0 ≤ s ∧ s ≤ 255) (ht : 0 ≤ t ∧ t ≤ 255) (hx : fX o = true) (h : may o d s t b n = false) :
    Calls Tryd.prog 28 #[.agg #[.int .u8 o, .int .u8 d, .int .u8 s, .int .u8 t, .bool b, .int .i32 n]] w fun e w' => e = .returned (.tuple #[.int .u32 0, .int .i64 2]) ∧ Grown w w' := by
  go_enter Tryd.func28, Tryd.ntmps28
  go_wp2_with fail
  refine (fields_is o _ _ _ _ _ _ _ (hT.grown ((Grown.refl _).alloc _ _)) ho rfl rfl rfl rfl rfl hx).mono ?_; rintro e w1 ⟨rfl, g1⟩
  obtain ⟨c0, c1, c2, c3, c4, c5, cz⟩ := inst_cells g1
  go_wp2_with fail
  refine (valid_is o d s t b n _ _ ho hd hs ht hx h).mono ?_; rintro e w2 ⟨rfl, g2⟩
  go_wp2_with fail
  go_ret2
  exact ⟨rfl, grown_trans ((Grown.refl _).alloc _ _) (grown_trans (g1.alloc _ _) g2)⟩
set_option maxHeartbeats 1000000 in
theorem enc_yes (o d s t : Int) (b : Bool) (n : Int) (w : World) (hT : Tab w) (ho : 0 ≤ o ∧ o ≤ 255) (hd : 0 ≤ d ∧ d ≤ 255) (hs : 0 ≤ s ∧ s ≤ 255) (ht : 0 ≤ t ∧ t ≤ 255) (hx : fX o = true) (h : may o d s t b n = true) :
    Calls Tryd.prog 28 #[.agg #[.int .u8 o, .int .u8 d, .int .u8 s, .int .u8 t, .bool b, .int .i32 n]] w fun e w' => e = .returned (.tuple #[.int .u32 (enc o d s t b n), .int .i64 0]) ∧ Grown w w' := by
  go_enter Tryd.func28, Tryd.ntmps28
  go_wp2_with fail
  refine (fields_is o _ _ _ _ _ _ _ (hT.grown ((Grown.refl _).alloc _ _)) ho rfl rfl rfl rfl rfl hx).mono ?_; rintro e w1 ⟨rfl, g1⟩
  obtain ⟨c0, c1, c2, c3, c4, c5, cz⟩ := inst_cells g1
  go_wp2_with fail
  refine (valid_is o d s t b n _ _ ho hd hs ht hx h).mono ?_; rintro e w2 ⟨rfl, g2⟩
  have g3 := grown_trans (g1.alloc #[.bool (fD o), .bool (fS o), .bool (fT o), .bool (fN o), .bool (fW o)] 62) g2
  clear c0 c1 c2 c3 c4 c5 cz
  obtain ⟨c0, c1, c2, c3, c4, c5, cz⟩ := inst_cells g3
  have k4 : w2.cell? ⟨w1.heap.size, 4, none⟩ = some (.bool (fW o)) := cell_new_grown g2 rfl
  go_wp2_with fail
  refine (join_any o d s t b n _ ho hd hs ht h).mono ?_; rintro e w3 ⟨rfl, g4⟩
  go_wp2_with fail
  go_ret2
  exact ⟨rfl, grown_trans ((Grown.refl _).alloc _ _) (grown_trans g3 g4)⟩
theorem may_exists {o d s t : Int} {b : Bool} {n : Int} (h : fX o = false) : may o d s t b n = false := by
  have h' := of_decide_eq_false h
  cases b
  · apply decide_eq_false; unfold MayF Ka Kb; omega
  · apply decide_eq_false; unfold MayT Ka Kb; omega
/-- What Encode comes to, whatever the instruction. -/
theorem enc_any (o d s t : Int) (b : Bool) (n : Int) (w : World) (hT : Tab w) (ho : 0 ≤ o ∧ o ≤ 255) (hd : 0 ≤ d ∧ d ≤ 255) (hs : 0 ≤ s ∧ s ≤ 255) (ht : 0 ≤ t ∧ t ≤ 255) :
    Calls Tryd.prog 28 #[.agg #[.int .u8 o, .int .u8 d, .int .u8 s, .int .u8 t, .bool b, .int .i32 n]] w fun e w' => e = .returned (.tuple #[.int .u32 (eW o d s t b n), .int .i64 (eE o d s t b n)]) ∧ Grown w w' := by
  cases hx : fX o
  · rw [eW_no (may_exists hx), eE_no (may_exists hx)]
    exact enc_none o d s t b n w hT ho hx
  · cases h : may o d s t b n
    · rw [eW_no h, eE_no h]
      exact enc_no o d s t b n w hT ho hd hs ht hx h
    · rw [eW_yes h, eE_yes h]
      exact enc_yes o d s t b n w hT ho hd hs ht hx h
end Go.Proofs.YtgbodbejcffclaaDoor.I2
