/- The walk of layer 7's statement AsmNone: it returns true; of what was there nothing has turned. -/
import Derived.Test.YtbkhhfffgmappaaDoorAsmHead
import Derived.LoopN
import Derived.LoopTactic
namespace Go.Proofs.YtbkhhfffgmappaaDoor.A7
open Go.RowKit Go.Maps
set_option linter.unusedVariables false
theorem Copy_no (v : Value) (w : World) (h : NoAsm w v) : Calls Tryd.prog 9 #[v] w fun e w' => e = .returned (.pointer none) ∧ w' = w := by
  have H := Lib.hid h
  clear h
  go_enter Tryd.func9, Tryd.ntmps9
  go_wp2_with fail
  refine (isObject_no _ _ H.out).mono ?_; rintro e w1 ⟨rfl, rfl⟩
  go_wp2_with fail
  go_ret
  exact ⟨rfl, rfl⟩
/-- What the law has laid: the act, a list of no content, the two pointers. -/
structure NB (w : World) (n : Nat) (l : Value) (s : ByteArray) (u : Int) : Prop where
  x1 : w.cell? ⟨n, 1, none⟩ = some l
  x2 : w.cell? ⟨n, 2, none⟩ = some (.string s)
  x4 : w.cell? ⟨n, 4, none⟩ = some (.int .u32 u)
  p0 : w.cell? ⟨n + 1 + 1, 0, none⟩ = some (.pointer none)
  p1 : w.cell? ⟨n + 1 + 1, 1, none⟩ = some (.pointer (some ⟨n + 1, 0, none⟩))
  z : w.cell? ⟨n + 1, 0, none⟩ = some (.pointer none)
theorem NB.bel {w w' : World} {n : Nat} {l : Value} {s : ByteArray} {u : Int} (h : NB w n l s u) (g : Below w.heap.size w w') : NB w' n l s u :=
  ⟨bel_cell g h.x1, bel_cell g h.x2, bel_cell g h.x4, bel_cell g h.p0, bel_cell g h.p1, bel_cell g h.z⟩
theorem NB.made (w : World) (a l c : Value) (s : ByteArray) (u : Int) : NB (((w.alloc (.cells #[a, l, .string s, c, .int .u32 u] 36)).alloc (.cells #[.pointer none, .slice none 0 0, .map none, .slice none 0 0] 49)).alloc (.cells #[.pointer none, .pointer (some ⟨w.heap.size + 1, 0, none⟩)] 25)) w.heap.size l s u ∧
    Below w.heap.size w (((w.alloc (.cells #[a, l, .string s, c, .int .u32 u] 36)).alloc (.cells #[.pointer none, .slice none 0 0, .map none, .slice none 0 0] 49)).alloc (.cells #[.pointer none, .pointer (some ⟨w.heap.size + 1, 0, none⟩)] 25)) := by
  have s1 : (w.alloc (.cells #[a, l, .string s, c, .int .u32 u] 36)).heap.size = w.heap.size + 1 := by simp
  have s2 : ((w.alloc (.cells #[a, l, .string s, c, .int .u32 u] 36)).alloc (.cells #[.pointer none, .slice none 0 0, .map none, .slice none 0 0] 49)).heap.size = w.heap.size + 1 + 1 := by simp
  have r0 := row_alloc (o' := .cells #[.pointer none, .pointer (some ⟨w.heap.size + 1, 0, none⟩)] 25) (row_alloc (o' := .cells #[.pointer none, .slice none 0 0, .map none, .slice none 0 0] 49) (row_born (w := w) (A := #[a, l, .string s, c, .int .u32 u]) (t := 36) rfl))
  have r1 := row_alloc (o' := .cells #[.pointer none, .pointer (some ⟨w.heap.size + 1, 0, none⟩)] 25) (row_born (A := #[.pointer none, .slice none 0 0, .map none, .slice none 0 0]) (t := 49) s1)
  have r2 := row_born (A := #[.pointer none, .pointer (some ⟨w.heap.size + 1, 0, none⟩)]) (t := 25) s2
  exact ⟨⟨row_cell r0 rfl, row_cell r0 rfl, row_cell r0 rfl, row_cell r2 rfl, row_cell r2 rfl, row_cell r1 rfl⟩, (((Below.refl _ _).alloc (Nat.le_refl _) _).alloc (by simp) _).alloc (by simp; omega) _⟩
set_option maxHeartbeats 4000000 in
set_option maxRecDepth 20000 in
theorem none_walk (wh cd u : Int) (l : Value) (s : ByteArray) (w : World) (hT : I2.Tab w) (hu : 0 ≤ u ∧ u < 4294967296) :
    Calls Tryd.prog 5 #[.agg #[.int .u8 wh, l, .string s, .int .u8 cd, .int .u32 u]] w fun e w' => e = .returned (.bool true) ∧ Below w.heap.size w w' := by
  have HT := Lib.hid hT
  have HU := Lib.hid hu
  clear hT hu
  go_enter Tryd.func5, Tryd.ntmps5
  go_upto_region 3 with fail
  obtain ⟨N, g⟩ := NB.made w (.int .u8 wh) l (.int .u8 cd) s u
  have N0 := Lib.hid N
  have G0 := Lib.hid g
  clear N g
  generalize hn : w.heap.size = n at *
  generalize ((w.alloc (.cells #[.int .u8 wh, l, .string s, .int .u8 cd, .int .u32 u] 36)).alloc (.cells #[.pointer none, .slice none 0 0, .map none, .slice none 0 0] 49)).alloc (.cells #[.pointer none, .pointer (some ⟨n + 1, 0, none⟩)] 25) = V0 at *
  have HN := Lib.hid hn
  clear hn
  obtain ⟨x1, x2, x4, p0, p1, z⟩ := N0.out
  go_wp2_with fail
  refine wp_loop_rounds 3 ?_
  rw [rounds_succ]
  go_wp2_with fail
  refine (At_no (.pointer none) s _ (.inl rfl)).mono ?_; rintro e W ⟨rfl, rfl⟩
  go_wp2_with fail
  refine (Words_no (.pointer none) _ (.inl rfl)).mono ?_; rintro e W ⟨rfl, rfl⟩
  go_wp2_with fail
  refine (Put_no (.pointer none) l _ (.inl rfl)).mono ?_; rintro e W ⟨rfl, rfl⟩
  go_wp2_with fail
  refine (Mark_no (.pointer none) s _ (.inl rfl)).mono ?_; rintro e W ⟨rfl, rfl⟩
  go_wp2_with fail
  refine (Jump_no (.pointer none) 0 s _ (.inl rfl)).mono ?_; rintro e V1 ⟨rfl, g⟩
  have N1 := Lib.hid (N0.out.bel g)
  have G1 : Hid (Below n w V1) := G0.out.trans (g.mono (by have := G0.out.size; rw [HN.out] at this; exact this))
  clear g N0 G0 x1 x2 x4 p0 p1 z
  obtain ⟨x1, x2, x4, p0, p1, z⟩ := N1.out
  go_wp2_with fail
  refine (Call_no (.pointer none) s _ (.inl rfl)).mono ?_; rintro e V2 ⟨rfl, g⟩
  have N2 := Lib.hid (N1.out.bel g)
  have G2 : Hid (Below n w V2) := G1.out.trans (g.mono (by have := G1.out.size; rw [HN.out] at this; exact this))
  clear g N1 G1 x1 x2 x4 p0 p1 z
  obtain ⟨x1, x2, x4, p0, p1, z⟩ := N2.out
  go_wp2_with fail
  refine (Const_no (.pointer none) 1 u ⟨by decide, by decide⟩ HU.out (.inl rfl)).mono ?_; rintro e V3 ⟨rfl, g⟩
  have N3 := Lib.hid (N2.out.bel g)
  have G3 : Hid (Below n w V3) := G2.out.trans (g.mono (by have := G2.out.size; rw [HN.out] at this; exact this))
  clear g N2 G2 x1 x2 x4 p0 p1 z
  obtain ⟨x1, x2, x4, p0, p1, z⟩ := N3.out
  go_wp2_with fail
  refine (Len_no (.pointer none) _ (.inl rfl)).mono ?_; rintro e W ⟨rfl, rfl⟩
  go_wp2_with fail
  refine (Copy_no (.pointer none) _ (.inl rfl)).mono ?_; rintro e W ⟨rfl, rfl⟩
  go_wp2_with fail
  rw [rounds_succ]
  go_wp2_with fail
  refine (At_no (.pointer (some ⟨n + 1, 0, none⟩)) s _ (.inr ⟨_, rfl, N3.out.z⟩)).mono ?_; rintro e W ⟨rfl, rfl⟩
  go_wp2_with fail
  refine (Words_no (.pointer (some ⟨n + 1, 0, none⟩)) _ (.inr ⟨_, rfl, N3.out.z⟩)).mono ?_; rintro e W ⟨rfl, rfl⟩
  go_wp2_with fail
  refine (Put_no (.pointer (some ⟨n + 1, 0, none⟩)) l _ (.inr ⟨_, rfl, N3.out.z⟩)).mono ?_; rintro e W ⟨rfl, rfl⟩
  go_wp2_with fail
  refine (Mark_no (.pointer (some ⟨n + 1, 0, none⟩)) s _ (.inr ⟨_, rfl, N3.out.z⟩)).mono ?_; rintro e W ⟨rfl, rfl⟩
  go_wp2_with fail
  refine (Jump_no (.pointer (some ⟨n + 1, 0, none⟩)) 0 s _ (.inr ⟨_, rfl, N3.out.z⟩)).mono ?_; rintro e V4 ⟨rfl, g⟩
  have N4 := Lib.hid (N3.out.bel g)
  have G4 : Hid (Below n w V4) := G3.out.trans (g.mono (by have := G3.out.size; rw [HN.out] at this; exact this))
  clear g N3 G3 x1 x2 x4 p0 p1 z
  obtain ⟨x1, x2, x4, p0, p1, z⟩ := N4.out
  go_wp2_with fail
  refine (Call_no (.pointer (some ⟨n + 1, 0, none⟩)) s _ (.inr ⟨_, rfl, N4.out.z⟩)).mono ?_; rintro e V5 ⟨rfl, g⟩
  have N5 := Lib.hid (N4.out.bel g)
  have G5 : Hid (Below n w V5) := G4.out.trans (g.mono (by have := G4.out.size; rw [HN.out] at this; exact this))
  clear g N4 G4 x1 x2 x4 p0 p1 z
  obtain ⟨x1, x2, x4, p0, p1, z⟩ := N5.out
  go_wp2_with fail
  refine (Const_no (.pointer (some ⟨n + 1, 0, none⟩)) 1 u ⟨by decide, by decide⟩ HU.out (.inr ⟨_, rfl, N5.out.z⟩)).mono ?_; rintro e V6 ⟨rfl, g⟩
  have N6 := Lib.hid (N5.out.bel g)
  have G6 : Hid (Below n w V6) := G5.out.trans (g.mono (by have := G5.out.size; rw [HN.out] at this; exact this))
  clear g N5 G5 x1 x2 x4 p0 p1 z
  obtain ⟨x1, x2, x4, p0, p1, z⟩ := N6.out
  go_wp2_with fail
  refine (Len_no (.pointer (some ⟨n + 1, 0, none⟩)) _ (.inr ⟨_, rfl, N6.out.z⟩)).mono ?_; rintro e W ⟨rfl, rfl⟩
  go_wp2_with fail
  refine (Copy_no (.pointer (some ⟨n + 1, 0, none⟩)) _ (.inr ⟨_, rfl, N6.out.z⟩)).mono ?_; rintro e W ⟨rfl, rfl⟩
  go_wp2_with fail
  rw [rounds_succ]
  go_wp2_with fail
  refine (head_at _ (tab_bel HT.out (by rw [HN.out]; exact G6.out))).mono ?_; rintro e W ⟨rfl, g⟩
  have GZ : Hid (Below n w W) := G6.out.trans (g.mono (by have := G6.out.size; rw [HN.out] at this; exact this))
  clear g
  go_wp2_with fail
  go_ret
  exact ⟨rfl, by have := GZ.out; rw [← HN.out] at this; exact this⟩
end Go.Proofs.YtbkhhfffgmappaaDoor.A7
