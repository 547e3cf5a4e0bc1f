/- The walk of layer 5's statement MemNone: it returns true; of what was there nothing has turned. -/
import Derived.Test.YtbjnnlemgfbgnaaMemHead
import Derived.Test.YtbjnnlemgfbgnaaMemOps
namespace Go.Proofs.Ytbjnnlemgfbgnaa
open Go.RowKit
set_option linter.unusedVariables false
set_option maxHeartbeats 1000000 in
set_option maxRecDepth 100000 in
theorem memNone_walk (wh ad mn x : Int) (lp : Option Addr) (ll lc : Nat) (w : World) :
    Calls Try.prog 5 #[.agg #[.int .u8 wh, .int .u32 ad, .int .i64 mn, .int .u32 x, .slice lp ll lc]] w fun e w' => e = .returned (.bool true) ∧ Below w.heap.size w w' := by
  obtain ⟨V, hV⟩ : ∃ V, V = w.alloc (.cells #[.int .u8 wh, .int .u32 ad, .int .i64 mn, .int .u32 x, .slice lp ll lc] 34) := ⟨_, rfl⟩
  obtain ⟨U, hU⟩ : ∃ U, U = V.alloc (.cells #[.slice none 0 0] 55) := ⟨_, rfl⟩
  obtain ⟨T, hT⟩ : ∃ T, T = U.alloc (.cells #[.pointer none, .pointer (some ⟨V.heap.size, 0, none⟩)] 23) := ⟨_, rfl⟩
  have GV : Below w.heap.size w V := hV ▸ born_bel _ _
  have GU : Below V.heap.size V U := hU ▸ born_bel _ _
  have GT : Below U.heap.size U T := hT ▸ born_bel _ _
  have r0 : V.heap[w.heap.size]? = some (.cells #[.int .u8 wh, .int .u32 ad, .int .i64 mn, .int .u32 x, .slice lp ll lc] 34 (0, 0)) := by rw [hV]; exact heap_alloc_last _ _
  have r1 : U.heap[V.heap.size]? = some (.cells #[.slice none 0 0] 55 (0, 0)) := by rw [hU]; exact heap_alloc_last _ _
  have r2 : T.heap[U.heap.size]? = some (.cells #[.pointer none, .pointer (some ⟨V.heap.size, 0, none⟩)] 23 (0, 0)) := by rw [hT]; exact heap_alloc_last _ _
  have r0' := bel_heap GT (bel_heap GU r0)
  have r1' := bel_heap GT r1
  have c1 : T.cell? ⟨w.heap.size, 1, none⟩ = some (.int .u32 ad) := row_cell r0' rfl
  have c2 : T.cell? ⟨w.heap.size, 2, none⟩ = some (.int .i64 mn) := row_cell r0' rfl
  have c3 : T.cell? ⟨w.heap.size, 3, none⟩ = some (.int .u32 x) := row_cell r0' rfl
  have c4 : T.cell? ⟨w.heap.size, 4, none⟩ = some (.slice lp ll lc) := row_cell r0' rfl
  have cz : T.cell? ⟨V.heap.size, 0, none⟩ = some (.slice none 0 0) := row_cell r1' rfl
  have G : Below w.heap.size w T := bel_trans GV (bel_trans GU GT)
  have HP : Hid (∀ k : Nat, k < 2 → ∃ p, T.cell? ⟨U.heap.size, k, none⟩ = some (.pointer p) ∧ NoMem T p) := by
    intro k hk
    rcases (by omega : k = 0 ∨ k = 1) with rfl | rfl
    · exact ⟨none, row_cell r2 rfl, .inl rfl⟩
    · exact ⟨some ⟨V.heap.size, 0, none⟩, row_cell r2 rfl, .inr ⟨_, rfl, cz⟩⟩
  clear r0 r1 r2 r0' r1' cz GV GU GT
  have sV : V.heap.size = w.heap.size + 1 := by rw [hV]; simp
  have sU : U.heap.size = w.heap.size + 2 := by rw [hU]; simp [sV]
  rw [sU] at HP
  rw [hU, sV, hV] at hT
  clear hU hV sV sU
  go_enter Try.func5, Try.ntmps5
  go_wp2_with fail
  rw [← hT]
  clear hT
  go_loop [5] (fun i => ∃ k : Nat, k ≤ 2 ∧ i = .int .i64 (k : Int)) (fun i => 2 - (intOf i).toNat)
  case atStart => exact ⟨0, by decide, rfl⟩
  case round =>
    obtain ⟨k, hk, rfl⟩ := hrel
    by_cases h2 : k < 2
    · obtain ⟨p, hc, hN⟩ := HP.out k h2
      go_wp2_with fail
      refine (load_none _ _ _ _ hN).mono ?_; rintro e v1 ⟨rfl, rfl⟩
      go_wp2_with fail
      refine (words_none _ _ _ _ hN).mono ?_; rintro e v1 ⟨rfl, rfl⟩
      go_wp2_with fail
      refine (store_none _ _ _ _ _ hN).mono ?_; rintro e v1 ⟨rfl, rfl⟩
      go_wp2_with fail
      refine (put_none _ _ _ _ _ _ hN).mono ?_; rintro e v1 ⟨rfl, rfl⟩
      go_wp2_with fail
      refine (size_none _ _ hN).mono ?_; rintro e v1 ⟨rfl, rfl⟩
      go_wp2_with fail
      refine (copy_none _ _ hN).mono ?_; rintro e v1 ⟨rfl, rfl⟩
      go_wp2
      go_round
      case rel => exact ⟨k + 1, by omega, by go_num⟩
      case measure => simp [intOf]; omega
    · go_wp2_with fail
      refine (head_any memC _).mono ?_; rintro e v1 ⟨rfl, g1⟩
      go_wp2
      go_ret
      exact ⟨rfl, bel_trans G g1⟩
end Go.Proofs.Ytbjnnlemgfbgnaa
