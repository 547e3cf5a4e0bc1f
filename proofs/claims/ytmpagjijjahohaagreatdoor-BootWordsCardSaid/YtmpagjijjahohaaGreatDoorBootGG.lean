/- boot (layer 11): a kit that is none, and a new one. -/
import Derived.Test.YtmpagjijjahohaaGreatDoorBootGF
namespace Go.Proofs.YtmpagjijjahohaaGreatDoor.B11
open Go.RowKit
set_option linter.unusedVariables false
/-- No kit: nil, or one that New did not return. -/
def NoKit (w : World) (p : Option Addr) : Prop := p = none ∨ ∃ b, p = some ⟨b, 0, none⟩ ∧ w.cell? ⟨b, 0, none⟩ = some (.pointer none)
theorem NoKit.bel {w w' : World} {p : Option Addr} (h : NoKit w p) (k : Below w.heap.size w w') : NoKit w' p := by
  rcases h with h | ⟨b, h, hc⟩
  · exact .inl h
  · exact .inr ⟨b, h, bel_cell k hc⟩
theorem kptr_under : Tryz.prog.underlying 23 = some (.pointer 79) := by kernel_rfl
theorem kit_info : ∃ i, Tryz.prog.info? 79 = some i := Option.isSome_iff_exists.1 (by kernel_rfl)
theorem keq_self (a : Addr) (W : World) : (binOp .eql 23 (.pointer (some a)) (.pointer (some a))).run Tryz.prog W = .ok (.bool true) W := by
  obtain ⟨i, hi⟩ := kit_info
  exact run_eql_ptr_same W a kptr_under hi
theorem keq_none (a : Addr) (W : World) : (binOp .eql 23 (.pointer none) (.pointer (some a))).run Tryz.prog W = .ok (.bool false) W := by
  have h : ∀ d : Nat, (Op.equalIn (d + 1) 23 (.pointer none) (.pointer (some a))).run Tryz.prog W = .ok false W := fun d => by
    simp [Op.equalIn, run_underlying kptr_under]
  simp only [binOp]
  simp [Op.equal, Op.maxDepth, h 9999]
set_option maxRecDepth 100000 in
set_option maxHeartbeats 1600000 in
theorem isObject_no (p : Option Addr) (w : World) (h : NoKit w p) : Calls Tryz.prog 38 #[.pointer p] w fun e w' => e = .returned (.bool false) ∧ w = w' := by
  rcases h with rfl | ⟨b, rfl, hc⟩
  · go_enter Tryz.func38, Tryz.ntmps38
    go_wp2
    go_ret
    exact ⟨rfl, rfl⟩
  · have hq := keq_none ⟨b, 0, none⟩
    go_enter Tryz.func38, Tryz.ntmps38
    go_wp2
    go_ret
    exact ⟨rfl, rfl⟩
set_option maxRecDepth 100000 in
set_option maxHeartbeats 1600000 in
theorem isObject_yes (b : Nat) (w : World) (hc : w.cell? ⟨b, 0, none⟩ = some (.pointer (some ⟨b, 0, none⟩))) : Calls Tryz.prog 38 #[.pointer (some ⟨b, 0, none⟩)] w fun e w' => e = .returned (.bool true) ∧ w = w' := by
  have hq := keq_self ⟨b, 0, none⟩
  go_enter Tryz.func38, Tryz.ntmps38
  go_wp2
  go_ret
  exact ⟨rfl, rfl⟩
theorem made_no (p : Option Addr) (w : World) (h : NoKit w p) : Calls Tryz.prog 12 #[.pointer p] w fun e w' => e = .returned (.int .i64 0) ∧ w = w' := by
  have H := Lib.hid h
  clear h
  go_enter Tryz.func12, Tryz.ntmps12
  go_wp2_with fail
  refine (isObject_no _ _ H.out).mono ?_; rintro e w1 ⟨rfl, rfl⟩
  go_wp2_with fail
  go_ret
  exact ⟨rfl, rfl⟩
theorem runtime_no (p : Option Addr) (nw : Int) (w : World) (h : NoKit w p) : Calls Tryz.prog 36 #[.pointer p, .int .i64 nw] w fun e w' => e = .returned (.tuple #[.pointer none, .int .i64 1]) ∧ Below w.heap.size w w' := by
  have g2 : Hid (Below w.heap.size w ((w.alloc (.cells #[.pointer p] 23)).alloc (.cells #[.int .i64 nw] 3))) := ((Below.refl _ _).alloc (Nat.le_refl _) _).alloc (by simp) _
  have c1 : ((w.alloc (.cells #[.pointer p] 23)).alloc (.cells #[.int .i64 nw] 3)).cell? ⟨w.heap.size, 0, none⟩ = some (.pointer p) := by
    rw [World.cell?_alloc_past _ _ _ (by simp)]
    exact row_cell (heap_alloc_last _ _) rfl
  have H := Lib.hid (h.bel g2.out)
  clear h
  go_enter Tryz.func36, Tryz.ntmps36
  go_upto_region 1 with (fail)
  change Code.wp _ _ _ _ ((w.alloc (.cells #[.pointer p] 23)).alloc (.cells #[.int .i64 nw] 3))
  generalize ((w.alloc (.cells #[.pointer p] 23)).alloc (.cells #[.int .i64 nw] 3)) = V at g2 c1 H ⊢
  go_wp2_with fail
  refine (isObject_no _ _ H.out).mono ?_; rintro e w1 ⟨rfl, rfl⟩
  go_wp2_with fail
  go_ret2
  exact ⟨rfl, g2.out⟩
theorem words_no (p : Option Addr) (nw : Int) (w : World) (h : NoKit w p) : Calls Tryz.prog 10 #[.pointer p, .int .i64 nw] w fun e w' => e = .returned (.tuple #[.slice none 0 0, .int .i64 1]) ∧ Below w.heap.size w w' := by
  have H := Lib.hid h
  clear h
  go_enter Tryz.func10, Tryz.ntmps10
  go_wp2_with fail
  refine (runtime_no _ _ _ H.out).mono ?_; rintro e w1 ⟨rfl, g1⟩
  go_wp2_with fail
  go_ret2
  exact ⟨rfl, g1⟩
theorem start_no (p : Option Addr) (nw : Int) (w : World) (h : NoKit w p) : Calls Tryz.prog 13 #[.pointer p, .int .i64 nw] w fun e w' => e = .returned (.tuple #[.int .u32 0, .int .i64 1]) ∧ Below w.heap.size w w' := by
  have H := Lib.hid h
  clear h
  go_enter Tryz.func13, Tryz.ntmps13
  go_wp2_with fail
  refine (runtime_no _ _ _ H.out).mono ?_; rintro e w1 ⟨rfl, g1⟩
  go_wp2_with fail
  go_ret2
  exact ⟨rfl, g1⟩
end Go.Proofs.YtmpagjijjahohaaGreatDoor.B11
