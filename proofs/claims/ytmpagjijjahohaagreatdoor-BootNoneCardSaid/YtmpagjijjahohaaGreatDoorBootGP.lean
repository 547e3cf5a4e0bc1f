/- The walk of layer 11's statement BootNone: it returns true; of what was there nothing has turned. -/
import Derived.Test.YtmpagjijjahohaaGreatDoorBootGM
namespace Go.Proofs.YtmpagjijjahohaaGreatDoor.B11
open Go.RowKit
set_option linter.unusedVariables false
set_option maxRecDepth 100000 in
set_option maxHeartbeats 4000000 in
theorem bootNone_walk (nw : Int) (w : World) (hT : I2.Tab w) : Calls Tryz.prog 5 #[.int .i64 nw] w fun e w' => e = .returned (.bool true) ∧ Below w.heap.size w w' := by
  have G : Hid (Below w.heap.size w ((w.alloc (.cells (krow (kC (.pointer none) (fun _ => none) 0)) 79)).alloc (.cells #[.pointer none, .pointer (some ⟨w.heap.size, 0, none⟩)] 23))) := ((Below.refl _ _).alloc (Nat.le_refl _) _).alloc (by simp) _
  have HP : Hid (∀ k : Nat, k < 2 → ∃ p, ((w.alloc (.cells (krow (kC (.pointer none) (fun _ => none) 0)) 79)).alloc (.cells #[.pointer none, .pointer (some ⟨w.heap.size, 0, none⟩)] 23)).cell? ⟨w.heap.size + 1, k, none⟩ = some (.pointer p)
      ∧ NoKit ((w.alloc (.cells (krow (kC (.pointer none) (fun _ => none) 0)) 79)).alloc (.cells #[.pointer none, .pointer (some ⟨w.heap.size, 0, none⟩)] 23)) p) := by
    intro k hk
    have hl : ∀ j, ((w.alloc (.cells (krow (kC (.pointer none) (fun _ => none) 0)) 79)).alloc (.cells #[.pointer none, .pointer (some ⟨w.heap.size, 0, none⟩)] 23)).cell? ⟨w.heap.size + 1, j, none⟩ = (#[.pointer none, .pointer (some ⟨w.heap.size, 0, none⟩)] : Array Value)[j]? := fun j =>
      cell_of_row _ _ _ _ _ _ (heap_alloc2_new w _ _)
    have hf : ((w.alloc (.cells (krow (kC (.pointer none) (fun _ => none) 0)) 79)).alloc (.cells #[.pointer none, .pointer (some ⟨w.heap.size, 0, none⟩)] 23)).cell? ⟨w.heap.size, 0, none⟩ = some (.pointer none) :=
      (cell_of_row _ _ _ _ _ _ (heap_alloc2_old w _ _)).trans (krow_get _ (by decide))
    rcases (by omega : k = 0 ∨ k = 1) with rfl | rfl
    · exact ⟨none, hl 0, .inl rfl⟩
    · exact ⟨some ⟨w.heap.size, 0, none⟩, hl 1, .inr ⟨_, rfl, hf⟩⟩
  have HT := Lib.hid (A7.tab_bel hT G.out)
  clear hT
  go_enter Tryz.func5, Tryz.ntmps5
  go_wp2_with (first
    | (refine Great.wpList_boxTo rfl 79 (.tmp 12) rfl (some 13) rfl w.heap.size rfl (krow (kC (.pointer none) (fun _ => none) 0)) rfl ?_)
    | (refine wpList_buildTo rfl 79 #[] rfl (some 12) rfl (krow (kC (.pointer none) (fun _ => none) 0)) (by simpa [go_sem] using kit_zero) ?_))
  generalize ((w.alloc (.cells (krow (kC (.pointer none) (fun _ => none) 0)) 79)).alloc (.cells #[.pointer none, .pointer (some ⟨w.heap.size, 0, none⟩)] 23)) = v at G HP HT ⊢
  go_loopw [5] (fun i wr => ∃ k : Nat, k ≤ 2 ∧ i = .int .i64 (k : Int) ∧ Below v.heap.size v wr) (fun i _ => 2 - (intOf i).toNat)
  case atStart => exact ⟨0, by decide, rfl, Below.refl _ _⟩
  case round =>
    obtain ⟨k, hk, rfl, gv⟩ := hrel
    have GV := Lib.hid gv
    by_cases h2 : k < 2
    · obtain ⟨p, hc, hN⟩ := HP.out k h2
      have hc' := bel_cell gv hc
      have HN := Lib.hid (hN.bel gv)
      clear hc hN gv
      have h2' : (k : Int) < 2 := by omega
      go_wp2_with fail
      refine (words_no p nw wr HN.out).mono ?_; rintro e w1 ⟨rfl, g1⟩
      have N1 := Lib.hid (HN.out.bel g1)
      have G1 := Lib.hid (bel_trans GV.out g1)
      clear hc' g1
      go_wp2_with fail
      refine (start_no p nw w1 N1.out).mono ?_; rintro e w2 ⟨rfl, g2⟩
      have N2 := Lib.hid (N1.out.bel g2)
      have G2 := Lib.hid (bel_trans G1.out g2)
      clear g2
      go_wp2_with fail
      refine (made_no p w2 N2.out).mono ?_; rintro e w3 ⟨rfl, rfl⟩
      go_wp2_with fail
      go_roundw
      case rel => exact ⟨k + 1, by omega, by go_num, G2.out⟩
      case measure => simp [intOf]; omega
    · obtain rfl : k = 2 := by omega
      have HT2 := Lib.hid (A7.tab_bel HT.out GV.out)
      have GG := Lib.hid (bel_trans G.out GV.out)
      clear gv
      go_wp2_with fail
      refine (bhead_at wr HT2.out).mono ?_; rintro e w1 ⟨rfl, g1⟩
      go_wp2_with fail
      go_ret
      exact ⟨rfl, bel_trans GG.out g1⟩
end Go.Proofs.YtmpagjijjahohaaGreatDoor.B11
