/- join and split (package psr): the word of a state's parts, and the parts of a word; what was there has not turned. -/
import Derived.Test.YtoecanjhkbeemaaGreatDoorBel
import Derived.Test.YtoecanjhkbeemaaGreatDoorPsrRange
import Derived.Test.YtoecanjhkbeemaaGreatDoorPsrMath
namespace Go.Proofs.YtoecanjhkbeemaaGreatDoor.P4
open Go.RowKit Go.Shelf
set_option linter.unusedVariables false
attribute [local go_sem] Oper.semAt_some

theorem keepB_b (B : Nat) (w : World) : ∀ (W : World) (l : Nat) (o o' : Obj), w.heap.size ≤ l → W.heap[l]? = some o → o.isCells = false → o.isWalk = false → KeepB B W (W.putObj l o') :=
  fun W l o o' _ hl ho _ v hv => cell_kept hv (grownBy_putObj' W l o') (fun r e => by cases e; exact ⟨o, hl, ho⟩)
set_option maxRecDepth 100000 in
set_option maxHeartbeats 2000000 in
theorem join_in (F : Fence) (n : Nat) (h24 : F.fn 146) (h35 : F.fn 190) (h36 : F.fn 216) (hro : F.round = none) (hn : 3 ≤ n) (P : Fin 4 → Int) (hP : ∀ k, 0 ≤ P k ∧ P k < 256) (w : World) :
    CallsIn F n Tryz.prog 146 #[.agg #[.int .u8 (P 0), .int .u8 (P 1), .int .u8 (P 2), .int .u8 (P 3)]] w fun e w' => e = .returned (.int .u32 (jw P [0, 1, 2, 3])) ∧ Below w.heap.size w w' := by
  have h1 : 1 ≤ n := by omega
  refine callsIn_of_wp_marks Tryz.func146 rfl h24 ?_ hro
  simp only [Tryz.ntmps146, List.size_toArray, List.length_cons, List.length_nil, Nat.reduceAdd, Nat.reduceSub, Array.replicate_succ, Array.replicate_zero, List.push_toArray, List.append_toArray, List.nil_append, List.cons_append]
  gi_wp2_with (gi_at_call 190; refine (parts_any F (n - 1) h35 hro _ _).mono ?_; rintro e w' ⟨rfl, hw'⟩)
  have R0 : w'.heap[w.heap.size]? = some (.cells #[.int .u8 (P 0), .int .u8 (P 1), .int .u8 (P 2), .int .u8 (P 3)] 24 (0, 0)) := by rw [← hw']; exact row_alloc (row_alloc (row_alloc (row_born rfl)))
  have R1 : w'.heap[w.heap.size + 1]? = some (.cells #[.int .u32 0] 22 (0, 0)) := by rw [← hw']; exact row_alloc (row_alloc (row_born (by simp)))
  have R2 : w'.heap[w.heap.size + 1 + 1]? = some (.cells #[.int .i64 0] 3 (0, 0)) := by rw [← hw']; exact row_alloc (row_born (by simp))
  have R3 : w'.heap[w.heap.size + 1 + 1 + 1]? = some (.cells #[.pointer (some ⟨w.heap.size, 0, none⟩)] 242 (0, 0)) := by rw [← hw']; exact row_born (by simp)
  have hB : w'.cell? ⟨w.heap.size + 1 + 1 + 1, 0, none⟩ = some (.pointer (some ⟨w.heap.size, 0, none⟩)) := row_cell R3 rfl
  have hc : ∀ k : Fin 4, w'.cell? ⟨w.heap.size, k.val, none⟩ = some (.int .u8 (P k)) := by
    intro k
    match k with
    | 0 => exact row_cell R0 rfl
    | 1 => exact row_cell R0 rfl
    | 2 => exact row_cell R0 rfl
    | 3 => exact row_cell R0 rfl
  have hv : w'.cell? ⟨w.heap.size + 1, 0, none⟩ = some (.int .u32 (jw P [])) ∧ w'.frozen? ⟨w.heap.size + 1, 0, none⟩ = false := ⟨row_cell R1 rfl, row_frozen R1⟩
  have ha : w'.cell? ⟨w.heap.size + 1 + 1, 0, none⟩ = some (.int .i64 (ja [])) ∧ w'.frozen? ⟨w.heap.size + 1 + 1, 0, none⟩ = false := ⟨row_cell R2 rfl, row_frozen R2⟩
  have hG : Below w.heap.size w w' := by rw [← hw']; go_grown
  have hz : w.heap.size + 4 ≤ w'.heap.size := by rw [← hw']; simp
  clear hw' R0 R1 R2 R3
  refine wpIn_rangeFunc_ownF hro h1 (gf := 216) (lb := #[.pointer (some ⟨w.heap.size + 1 + 1 + 1, 0, none⟩)]) rfl h36 (enters_of Tryz.func216 (by kernel_rfl) rfl)
    (parts_stops F (n - 1) h36 hro (by omega) (w.heap.size + 1 + 1 + 1) w.heap.size w' hB) (fun h k v hv => k v (h v hv)) (keepB_b _ _) (Below.refl _ _) (fun _ => rfl)
    (fun pre W => ((∀ k : Fin 4, W.cell? ⟨w.heap.size, k.val, none⟩ = some (.int .u8 (P k))) ∧
        (W.cell? ⟨w.heap.size + 1, 0, none⟩ = some (.int .u32 (jw P pre)) ∧ W.frozen? ⟨w.heap.size + 1, 0, none⟩ = false) ∧
        (W.cell? ⟨w.heap.size + 1 + 1, 0, none⟩ = some (.int .i64 (ja pre)) ∧ W.frozen? ⟨w.heap.size + 1 + 1, 0, none⟩ = false)) ∧ Below w.heap.size w W)
    (fun _ _ _ => False)
    (OwnFrom.and (Own.from (fun s A B row hs hg hr => ⟨fun k => cell_kept (hs.1 k) hg hr, ⟨cell_kept hs.2.1.1 hg hr, (frozen_kept hs.2.1.1 hg hr).trans hs.2.1.2⟩, cell_kept hs.2.2.1 hg hr, (frozen_kept hs.2.2.1 hg hr).trans hs.2.2.2⟩) _) (ownFrom_below (Nat.le_refl _) (by omega)))
    (fun _ _ _ _ _ hs _ _ => hs)
    ⟨⟨hc, hv, ha⟩, hG⟩
    (fun x => { tmps := #[.agg #[.int .u8 (P 0), .int .u8 (P 1), .int .u8 (P 2), .int .u8 (P 3)], .pointer (some ⟨w.heap.size, 0, none⟩), .int .u32 0, .pointer (some ⟨w.heap.size + 1, 0, none⟩), .pointer (some ⟨w.heap.size + 1 + 1, 0, none⟩), .pointer (some ⟨w.heap.size, x.val, none⟩), .int .i64 (wid x),
      .func (.func 216) #[] #[.pointer (some ⟨w.heap.size + 1 + 1 + 1, 0, none⟩)], .pointer (some ⟨w.heap.size, x.val, none⟩), .int .i64 (wid x), undef, undef, undef, undef, undef, undef, undef, undef, undef, undef, undef, undef], defers := [] }) ?assign ?body ?done ?stop
  case assign =>
    intro l x W K hK
    simp only [encP]
    gi_wp2
    exact hK
  case body =>
    clear hB hc hv ha hG hz
    rintro l pre x W ⟨⟨hc, ⟨hv, hvf⟩, ha, haf⟩, hG⟩ hlen
    have hcx := hc x
    have hj0 : 0 ≤ ja pre := ja_nonneg pre
    have hj1 : ja pre ≤ 20 := by have := ja_le pre; omega
    have hw0 : 0 ≤ wid x := wid_nonneg x
    have hw1 : wid x ≤ 5 := wid_le x
    have hp0 := (hP x).1
    have hp1 := (hP x).2
    have hmx : Tryz.prog.follows .mixedOrders = true := by kernel_rfl
    have fin : Hid (∀ W' : World, W' = ((W.setCell ⟨w.heap.size + 1, 0, none⟩ (.int .u32 (bits .or .u32 (jw P pre) (P x * 2 ^ (ja pre).toNat % 4294967296)))).setCell ⟨w.heap.size + 1 + 1, 0, none⟩ (.int .i64 (ja pre + wid x))).drew →
        KeepsOthers W W' ∧ KeepB (w.heap.size + 1 + 1 + 1) W W' ∧ (((∀ k : Fin 4, W'.cell? ⟨w.heap.size, k.val, none⟩ = some (.int .u8 (P k))) ∧
        (W'.cell? ⟨w.heap.size + 1, 0, none⟩ = some (.int .u32 (jw P (pre ++ [x]))) ∧ W'.frozen? ⟨w.heap.size + 1, 0, none⟩ = false) ∧
        (W'.cell? ⟨w.heap.size + 1 + 1, 0, none⟩ = some (.int .i64 (ja (pre ++ [x]))) ∧ W'.frozen? ⟨w.heap.size + 1 + 1, 0, none⟩ = false)) ∧ Below w.heap.size w W')) := by
      rintro W' rfl
      refine ⟨((KeepsOthers.setCell _ _ _).trans (KeepsOthers.setCell _ _ _)).trans (KeepsOthers.drew _), fun v hv' => ?_, ⟨fun k => ?_, ⟨?_, ?_⟩, ?_, ?_⟩, ((hG.setCell (p := ⟨w.heap.size + 1, 0, none⟩) (by simp) _).setCell (p := ⟨w.heap.size + 1 + 1, 0, none⟩) (by simp; omega) _).drew⟩
      · rw [cell_drew_own, cell_other (by omega), cell_other (by omega)]; exact hv'
      · rw [cell_drew_own, cell_other (by omega), cell_other (by omega)]; exact hc k
      · rw [cell_drew_own, cell_other (by omega), jw_snoc]; exact World.cell?_setCell_same' _ _ _ (by rw [hv]; rfl)
      · rw [frozen_drew_own, World.frozen?_setCell, World.frozen?_setCell]; exact hvf
      · rw [cell_drew_own, ja_snoc]; exact World.cell?_setCell_same' _ _ _ (by rw [cell_other (by omega), ha]; rfl)
      · rw [frozen_drew_own, World.frozen?_setCell, World.frozen?_setCell]; exact haf
    gi_wp2
    gi_region_with_o fail
    all_goals gi_wp2
    all_goals (try go_bits)
    all_goals exact fin.out _ rfl
  case done =>
    rintro D ys W hD rfl ⟨⟨_, ⟨hv, _⟩, _⟩, hG⟩ hK
    gi_wp2
    refine ⟨by simp, .inl ⟨_, _, rfl, run_takeDeferred hK, ?_⟩⟩
    exact ⟨_, results_tmp rfl _ _ _, rfl, hG.trans (belowK_b (w := w) (Nat.le_refl _) W D _ _ (by omega) hK rfl rfl)⟩
  case stop =>
    rintro D c pre W _ _ h _
    exact h.elim

set_option maxRecDepth 100000 in
set_option maxHeartbeats 2000000 in
theorem split_in (F : Fence) (n : Nat) (h29 : F.fn 227) (h35 : F.fn 190) (h36 : F.fn 216) (hro : F.round = none) (hn : 3 ≤ n) (v : Int) (hv0 : 0 ≤ v) (hv1 : v < 4294967296) (w : World) :
    CallsIn F n Tryz.prog 227 #[.int .u32 v] w fun e w' => e = .returned (.agg #[.int .u8 (sQ v [0, 1, 2, 3] 0), .int .u8 (sQ v [0, 1, 2, 3] 1), .int .u8 (sQ v [0, 1, 2, 3] 2), .int .u8 (sQ v [0, 1, 2, 3] 3)]) ∧ Below w.heap.size w w' := by
  have h1 : 1 ≤ n := by omega
  refine callsIn_of_wp_marks Tryz.func227 rfl h29 ?_ hro
  simp only [Tryz.ntmps227, List.size_toArray, List.length_cons, List.length_nil, Nat.reduceAdd, Nat.reduceSub, Array.replicate_succ, Array.replicate_zero, List.push_toArray, List.append_toArray, List.nil_append, List.cons_append]
  gi_wp2_with (gi_at_call 190; refine (parts_any F (n - 1) h35 hro _ _).mono ?_; rintro e w' ⟨rfl, hw'⟩)
  have R0 : w'.heap[w.heap.size]? = some (.cells #[.int .u32 v] 22 (0, 0)) := by rw [← hw']; exact row_alloc (row_alloc (row_alloc (row_born rfl)))
  have R1 : w'.heap[w.heap.size + 1]? = some (.cells #[.int .u8 0, .int .u8 0, .int .u8 0, .int .u8 0] 24 (0, 0)) := by rw [← hw']; exact row_alloc (row_alloc (row_born (by simp)))
  have R2 : w'.heap[w.heap.size + 1 + 1]? = some (.cells #[.int .u8 0, .int .u8 0, .int .u8 0, .int .u8 0] 24 (0, 0)) := by rw [← hw']; exact row_alloc (row_born (by simp))
  have R3 : w'.heap[w.heap.size + 1 + 1 + 1]? = some (.cells #[.pointer (some ⟨w.heap.size + 1 + 1, 0, none⟩)] 242 (0, 0)) := by rw [← hw']; exact row_born (by simp)
  have hB : w'.cell? ⟨w.heap.size + 1 + 1 + 1, 0, none⟩ = some (.pointer (some ⟨w.heap.size + 1 + 1, 0, none⟩)) := row_cell R3 rfl
  have hc : ∀ k : Fin 4, w'.cell? ⟨w.heap.size + 1 + 1, k.val, none⟩ = some (.int .u8 (sQ v [] k)) ∧ w'.frozen? ⟨w.heap.size + 1 + 1, k.val, none⟩ = false := by
    intro k
    match k with
    | 0 => exact ⟨row_cell R2 rfl, row_frozen R2⟩
    | 1 => exact ⟨row_cell R2 rfl, row_frozen R2⟩
    | 2 => exact ⟨row_cell R2 rfl, row_frozen R2⟩
    | 3 => exact ⟨row_cell R2 rfl, row_frozen R2⟩
  have hr : ∀ k : Fin 4, w'.cell? ⟨w.heap.size + 1, k.val, none⟩ = some (.int .u8 0) ∧ w'.frozen? ⟨w.heap.size + 1, k.val, none⟩ = false := by
    intro k
    match k with
    | 0 => exact ⟨row_cell R1 rfl, row_frozen R1⟩
    | 1 => exact ⟨row_cell R1 rfl, row_frozen R1⟩
    | 2 => exact ⟨row_cell R1 rfl, row_frozen R1⟩
    | 3 => exact ⟨row_cell R1 rfl, row_frozen R1⟩
  have hs : w'.cell? ⟨w.heap.size, 0, none⟩ = some (.int .u32 (sR v [])) ∧ w'.frozen? ⟨w.heap.size, 0, none⟩ = false := ⟨row_cell R0 rfl, row_frozen R0⟩
  have hG : Below w.heap.size w w' := by rw [← hw']; go_grown
  have hz : w.heap.size + 4 ≤ w'.heap.size := by rw [← hw']; simp
  clear hw' R0 R1 R2 R3
  refine wpIn_rangeFunc_ownF hro h1 (gf := 216) (lb := #[.pointer (some ⟨w.heap.size + 1 + 1 + 1, 0, none⟩)]) rfl h36 (enters_of Tryz.func216 (by kernel_rfl) rfl)
    (parts_stops F (n - 1) h36 hro (by omega) (w.heap.size + 1 + 1 + 1) (w.heap.size + 1 + 1) w' hB) (fun h k v hv => k v (h v hv)) (keepB_b _ _) (Below.refl _ _) (fun _ => rfl)
    (fun pre W => ((∀ k : Fin 4, W.cell? ⟨w.heap.size + 1 + 1, k.val, none⟩ = some (.int .u8 (sQ v pre k)) ∧ W.frozen? ⟨w.heap.size + 1 + 1, k.val, none⟩ = false) ∧
        (∀ k : Fin 4, W.cell? ⟨w.heap.size + 1, k.val, none⟩ = some (.int .u8 0) ∧ W.frozen? ⟨w.heap.size + 1, k.val, none⟩ = false) ∧
        (W.cell? ⟨w.heap.size, 0, none⟩ = some (.int .u32 (sR v pre)) ∧ W.frozen? ⟨w.heap.size, 0, none⟩ = false)) ∧ Below w.heap.size w W)
    (fun _ _ _ => False)
    (OwnFrom.and (Own.from (fun s A B row hs hg hr => ⟨fun k => ⟨cell_kept (hs.1 k).1 hg hr, (frozen_kept (hs.1 k).1 hg hr).trans (hs.1 k).2⟩, fun k => ⟨cell_kept (hs.2.1 k).1 hg hr, (frozen_kept (hs.2.1 k).1 hg hr).trans (hs.2.1 k).2⟩, cell_kept hs.2.2.1 hg hr, (frozen_kept hs.2.2.1 hg hr).trans hs.2.2.2⟩) _) (ownFrom_below (Nat.le_refl _) (by omega)))
    (fun _ _ _ _ _ hs _ _ => hs)
    ⟨⟨hc, hr, hs⟩, hG⟩
    (fun x => { tmps := #[.int .u32 v, .pointer (some ⟨w.heap.size, 0, none⟩), .pointer (some ⟨w.heap.size + 1, 0, none⟩), .pointer (some ⟨w.heap.size + 1 + 1, 0, none⟩), .pointer (some ⟨w.heap.size + 1 + 1, x.val, none⟩), .int .i64 (wid x),
      .func (.func 216) #[] #[.pointer (some ⟨w.heap.size + 1 + 1 + 1, 0, none⟩)], .pointer (some ⟨w.heap.size + 1 + 1, x.val, none⟩), .int .i64 (wid x), undef, undef, undef, undef, undef, undef, undef, undef, undef, undef, undef, undef], defers := [] }) ?assign ?body ?done ?stop
  case assign =>
    intro l x W K hK
    simp only [encP]
    gi_wp2
    exact hK
  case body =>
    clear hB hc hr hs hG hz
    rintro l pre x W ⟨⟨hc, hr, hs, hsf⟩, hG⟩ hlen
    have hcx := (hc x).1
    have hcf := (hc x).2
    have hs0 := sR_nonneg hv0 pre
    have hs1 : sR v pre < 4294967296 := Int.lt_of_le_of_lt (sR_le hv0 pre) hv1
    have hmx : Tryz.prog.follows .mixedOrders = true := by kernel_rfl
    have hd : wid x = 5 ∨ wid x = 4 := wid_or x
    have fin : Hid (∀ m d : Int, m = 2 ^ (wid x).toNat - 1 → d = 2 ^ (wid x).toNat → ∀ W' : World, W' = ((W.setCell ⟨w.heap.size + 1 + 1, x.val, none⟩ (.int .u8 (bits .and .u32 (sR v pre) m % 256))).setCell ⟨w.heap.size, 0, none⟩ (.int .u32 (sR v pre / d))).drew →
        KeepsOthers W W' ∧ KeepB (w.heap.size + 1 + 1 + 1) W W' ∧ (((∀ k : Fin 4, W'.cell? ⟨w.heap.size + 1 + 1, k.val, none⟩ = some (.int .u8 (sQ v (pre ++ [x]) k)) ∧ W'.frozen? ⟨w.heap.size + 1 + 1, k.val, none⟩ = false) ∧
        (∀ k : Fin 4, W'.cell? ⟨w.heap.size + 1, k.val, none⟩ = some (.int .u8 0) ∧ W'.frozen? ⟨w.heap.size + 1, k.val, none⟩ = false) ∧
        (W'.cell? ⟨w.heap.size, 0, none⟩ = some (.int .u32 (sR v (pre ++ [x]))) ∧ W'.frozen? ⟨w.heap.size, 0, none⟩ = false)) ∧ Below w.heap.size w W')) := by
      rintro m d rfl rfl W' rfl
      refine ⟨((KeepsOthers.setCell _ _ _).trans (KeepsOthers.setCell _ _ _)).trans (KeepsOthers.drew _), fun u hu => ?_, ⟨fun k => ⟨?_, ?_⟩, fun k => ⟨?_, ?_⟩, ?_, ?_⟩, ((hG.setCell (p := ⟨w.heap.size + 1 + 1, x.val, none⟩) (by simp; omega) _).setCell (p := ⟨w.heap.size, 0, none⟩) (by simp) _).drew⟩
      · rw [cell_drew_own, cell_other (by omega), cell_other (by omega)]; exact hu
      · rw [cell_drew_own, cell_other (by omega), sQ_snoc]
        by_cases hk : k = x
        · subst hk; rw [if_pos rfl]; exact World.cell?_setCell_same' _ _ _ (by rw [hcx]; rfl)
        · rw [if_neg hk, World.cell?_setCell_other _ _ _ _ (fun e => hk (Fin.ext (by injection e with _ e2; exact e2.symm)))]; exact (hc k).1
      · rw [frozen_drew_own, World.frozen?_setCell, World.frozen?_setCell]; exact (hc k).2
      · rw [cell_drew_own, cell_other (by omega), cell_other (by omega)]; exact (hr k).1
      · rw [frozen_drew_own, World.frozen?_setCell, World.frozen?_setCell]; exact (hr k).2
      · rw [cell_drew_own, sR_snoc]; exact World.cell?_setCell_same' _ _ _ (by rw [cell_other (by omega), hs]; rfl)
      · rw [frozen_drew_own, World.frozen?_setCell, World.frozen?_setCell]; exact hsf
    rcases hd with hd | hd
    · have hm : Hid ((31 : Int) = 2 ^ (wid x).toNat - 1 ∧ (32 : Int) = 2 ^ (wid x).toNat) := by rw [hd]; exact ⟨rfl, rfl⟩
      rw [hd]
      gi_wp2
      gi_region_with_o fail
      all_goals gi_wp2
      all_goals (try go_bits)
      all_goals exact fin.out _ _ hm.out.1 hm.out.2 _ rfl
    · have hm : Hid ((15 : Int) = 2 ^ (wid x).toNat - 1 ∧ (16 : Int) = 2 ^ (wid x).toNat) := by rw [hd]; exact ⟨rfl, rfl⟩
      rw [hd]
      gi_wp2
      gi_region_with_o fail
      all_goals gi_wp2
      all_goals (try go_bits)
      all_goals exact fin.out _ _ hm.out.1 hm.out.2 _ rfl
  case done =>
    rintro D ys W hD rfl ⟨⟨hc, hr, hs⟩, hG⟩ hK
    have c0 : W.cell? ⟨w.heap.size + 1 + 1, 0, none⟩ = some (.int .u8 (sQ v [0, 1, 2, 3] 0)) := (hc 0).1
    have c1 : W.cell? ⟨w.heap.size + 1 + 1, 1, none⟩ = some (.int .u8 (sQ v [0, 1, 2, 3] 1)) := (hc 1).1
    have c2 : W.cell? ⟨w.heap.size + 1 + 1, 2, none⟩ = some (.int .u8 (sQ v [0, 1, 2, 3] 2)) := (hc 2).1
    have c3 : W.cell? ⟨w.heap.size + 1 + 1, 3, none⟩ = some (.int .u8 (sQ v [0, 1, 2, 3] 3)) := (hc 3).1
    obtain ⟨r0, f0⟩ : W.cell? ⟨w.heap.size + 1, 0, none⟩ = some (.int .u8 0) ∧ W.frozen? ⟨w.heap.size + 1, 0, none⟩ = false := hr 0
    obtain ⟨r1, f1⟩ : W.cell? ⟨w.heap.size + 1, 1, none⟩ = some (.int .u8 0) ∧ W.frozen? ⟨w.heap.size + 1, 1, none⟩ = false := hr 1
    obtain ⟨r2, f2⟩ : W.cell? ⟨w.heap.size + 1, 2, none⟩ = some (.int .u8 0) ∧ W.frozen? ⟨w.heap.size + 1, 2, none⟩ = false := hr 2
    obtain ⟨r3, f3⟩ : W.cell? ⟨w.heap.size + 1, 3, none⟩ = some (.int .u8 0) ∧ W.frozen? ⟨w.heap.size + 1, 3, none⟩ = false := hr 3
    clear hc hr hs
    gi_wp2
    have hk : KeepsOthers W ((((W.setCell ⟨w.heap.size + 1, 0, none⟩ (.int .u8 (sQ v [0, 1, 2, 3] 0))).setCell ⟨w.heap.size + 1, 1, none⟩ (.int .u8 (sQ v [0, 1, 2, 3] 1))).setCell ⟨w.heap.size + 1, 2, none⟩ (.int .u8 (sQ v [0, 1, 2, 3] 2))).setCell ⟨w.heap.size + 1, 3, none⟩ (.int .u8 (sQ v [0, 1, 2, 3] 3))) :=
      (((KeepsOthers.setCell _ _ _).trans (KeepsOthers.setCell _ _ _)).trans (KeepsOthers.setCell _ _ _)).trans (KeepsOthers.setCell _ _ _)
    have hG4 := (((hG.setCell (p := ⟨w.heap.size + 1, 0, none⟩) (by simp) (.int .u8 (sQ v [0, 1, 2, 3] 0))).setCell (p := ⟨w.heap.size + 1, 1, none⟩) (by simp) (.int .u8 (sQ v [0, 1, 2, 3] 1))).setCell (p := ⟨w.heap.size + 1, 2, none⟩) (by simp) (.int .u8 (sQ v [0, 1, 2, 3] 2))).setCell (p := ⟨w.heap.size + 1, 3, none⟩) (by simp) (.int .u8 (sQ v [0, 1, 2, 3] 3))
    have q0 : ((((W.setCell ⟨w.heap.size + 1, 0, none⟩ (.int .u8 (sQ v [0, 1, 2, 3] 0))).setCell ⟨w.heap.size + 1, 1, none⟩ (.int .u8 (sQ v [0, 1, 2, 3] 1))).setCell ⟨w.heap.size + 1, 2, none⟩ (.int .u8 (sQ v [0, 1, 2, 3] 2))).setCell ⟨w.heap.size + 1, 3, none⟩ (.int .u8 (sQ v [0, 1, 2, 3] 3))).cell? ⟨w.heap.size + 1, 0, none⟩ = some (.int .u8 (sQ v [0, 1, 2, 3] 0)) := by
      rw [cell_off (by decide), cell_off (by decide), cell_off (by decide)]; exact World.cell?_setCell_same' _ _ _ (by rw [r0]; rfl)
    have q1 : ((((W.setCell ⟨w.heap.size + 1, 0, none⟩ (.int .u8 (sQ v [0, 1, 2, 3] 0))).setCell ⟨w.heap.size + 1, 1, none⟩ (.int .u8 (sQ v [0, 1, 2, 3] 1))).setCell ⟨w.heap.size + 1, 2, none⟩ (.int .u8 (sQ v [0, 1, 2, 3] 2))).setCell ⟨w.heap.size + 1, 3, none⟩ (.int .u8 (sQ v [0, 1, 2, 3] 3))).cell? ⟨w.heap.size + 1, 1, none⟩ = some (.int .u8 (sQ v [0, 1, 2, 3] 1)) := by
      rw [cell_off (by decide), cell_off (by decide)]; exact World.cell?_setCell_same' _ _ _ (by rw [cell_off (by decide), r1]; rfl)
    have q2 : ((((W.setCell ⟨w.heap.size + 1, 0, none⟩ (.int .u8 (sQ v [0, 1, 2, 3] 0))).setCell ⟨w.heap.size + 1, 1, none⟩ (.int .u8 (sQ v [0, 1, 2, 3] 1))).setCell ⟨w.heap.size + 1, 2, none⟩ (.int .u8 (sQ v [0, 1, 2, 3] 2))).setCell ⟨w.heap.size + 1, 3, none⟩ (.int .u8 (sQ v [0, 1, 2, 3] 3))).cell? ⟨w.heap.size + 1, 2, none⟩ = some (.int .u8 (sQ v [0, 1, 2, 3] 2)) := by
      rw [cell_off (by decide)]; exact World.cell?_setCell_same' _ _ _ (by rw [cell_off (by decide), cell_off (by decide), r2]; rfl)
    have q3 : ((((W.setCell ⟨w.heap.size + 1, 0, none⟩ (.int .u8 (sQ v [0, 1, 2, 3] 0))).setCell ⟨w.heap.size + 1, 1, none⟩ (.int .u8 (sQ v [0, 1, 2, 3] 1))).setCell ⟨w.heap.size + 1, 2, none⟩ (.int .u8 (sQ v [0, 1, 2, 3] 2))).setCell ⟨w.heap.size + 1, 3, none⟩ (.int .u8 (sQ v [0, 1, 2, 3] 3))).cell? ⟨w.heap.size + 1, 3, none⟩ = some (.int .u8 (sQ v [0, 1, 2, 3] 3)) := by
      exact World.cell?_setCell_same' _ _ _ (by rw [cell_off (by decide), cell_off (by decide), cell_off (by decide), r3]; rfl)
    have hK' := hk.same D _ hK rfl
    refine ⟨by simp, .inl ⟨_, _, rfl, run_takeDeferred hK', ?_⟩⟩
    have hput : ∀ {j : Nat} {u : Value}, _ → _ := fun {j} {u} h => cell_kept (a := ⟨w.heap.size + 1, j, none⟩) (v := u) h (grownBy_putObj' _ D (.deferred none)) (fun r e => by cases e; exact ⟨_, hK', rfl⟩)
    have p0 := hput q0
    have p1 := hput q1
    have p2 := hput q2
    have p3 := hput q3
    refine ⟨.agg #[.int .u8 (sQ v [0, 1, 2, 3] 0), .int .u8 (sQ v [0, 1, 2, 3] 1), .int .u8 (sQ v [0, 1, 2, 3] 2), .int .u8 (sQ v [0, 1, 2, 3] 3)], ?_, rfl, hG4.trans (belowK_b (w := w) (Nat.le_refl _) _ D _ _ (by omega) hK' rfl rfl)⟩
    clear q0 q1 q2 q3 hput hG4 hk hK' hK c0 c1 c2 c3 r0 r1 r2 r3 f0 f1 f2 f3
    simp [results, Tryz.f227, go_sem, p0, p1, p2, p3]
  case stop =>
    rintro D c pre W _ _ h _
    exact h.elim

/-- A function on the four parts. -/
def fin4 (a b c d : Int) : Fin 4 → Int := fun k => match k with | 0 => a | 1 => b | 2 => c | 3 => d
/-- The word of a state whose parts are in their bounds. -/
theorem join_any (p0 p1 p2 p3 : Int) (h0 : 0 ≤ p0 ∧ p0 < 32) (h1 : 0 ≤ p1 ∧ p1 < 16) (h2 : 0 ≤ p2 ∧ p2 < 32) (h3 : 0 ≤ p3 ∧ p3 < 16) (w : World) :
    Calls Tryz.prog 146 #[.agg #[.int .u8 p0, .int .u8 p1, .int .u8 p2, .int .u8 p3]] w fun e w' => e = .returned (.int .u32 (p0 + 32 * p1 + 512 * p2 + 16384 * p3)) ∧ Below w.heap.size w w' := by
  have h := join_in Fence.wide 3 trivial trivial trivial rfl (Nat.le_refl _) (fin4 p0 p1 p2 p3) (fun k => by match k with | 0 => exact ⟨h0.1, by simp only [fin4]; omega⟩ | 1 => exact ⟨h1.1, by simp only [fin4]; omega⟩ | 2 => exact ⟨h2.1, by simp only [fin4]; omega⟩ | 3 => exact ⟨h3.1, by simp only [fin4]; omega⟩) w
  rw [jw_all _ h0 h1 h2 h3] at h
  exact callsIn_wide.1 h
/-- The parts of any word. -/
theorem split_any (v : Int) (hv : 0 ≤ v ∧ v < 4294967296) (w : World) :
    Calls Tryz.prog 227 #[.int .u32 v] w fun e w' => e = .returned (.agg #[.int .u8 (v % 32), .int .u8 (v / 32 % 16), .int .u8 (v / 512 % 32), .int .u8 (v / 16384 % 16)]) ∧ Below w.heap.size w w' := by
  have h := split_in Fence.wide 3 trivial trivial trivial rfl (Nat.le_refl _) v hv.1 hv.2 w
  rw [sQ_0 hv, sQ_1 hv, sQ_2 hv, sQ_3 hv] at h
  exact callsIn_wide.1 h
end Go.Proofs.YtoecanjhkbeemaaGreatDoor.P4
