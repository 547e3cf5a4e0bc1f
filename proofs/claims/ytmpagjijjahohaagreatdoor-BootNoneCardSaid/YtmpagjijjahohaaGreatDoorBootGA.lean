/- boot (layer 11): what a runtime's list is made of: vectors, the handlers of interrupts, the start. -/
import Derived.Test.YtmpagjijjahohaaGreatDoorTickG
import Derived.Test.YtmpagjijjahohaaGreatDoorSwapGD
import Derived.Test.YtmpagjijjahohaaGreatDoorWindGC
import Derived.Laws.MakeOwn
import Derived.Laws.CopyRow
namespace Go.Proofs.YtmpagjijjahohaaGreatDoor.B11
open Go.RowKit Go.Maps
open A7 (XI XB AS AJ AsmB Has)
open T9 (nm nm_size)
open W8 (sOver sUnder)
open S10 (sYield sEnd)
set_option linter.unusedVariables false
/-- The return from a trap. -/
def rX : XI := ⟨32, 0, 0, 0, false, 0⟩
theorem rX_b : XB rX := ⟨⟨by decide, by decide⟩, ⟨by decide, by decide⟩, ⟨by decide, by decide⟩, ⟨by decide, by decide⟩, ⟨by decide, by decide⟩⟩
theorem rX_may : rX.may = true := by kernel_rfl
def zI : List Value := [.int .u8 0, .int .u8 0, .int .u8 0, .int .u8 0, .bool false, .int .i32 0]
/-- So many of them, and places for four. -/
def rowK (k : Nat) : List Value := (List.replicate k rX.row).flatten ++ (List.replicate (4 - k) zI).flatten
theorem made4 : madeCells (Value.agg #[.int .u8 0, .int .u8 0, .int .u8 0, .int .u8 0, .bool false, .int .i32 0]).cells (((4 : Int).toNat) * 6) = (rowK 0).toArray := by kernel_rfl
theorem mul_at (w : World) : Calls Tryz.prog 353 #[.int .u64 1, .int .u64 4] w fun e w' => e = .returned (.tuple #[.int .u64 0, .int .u64 4]) ∧ w = w' := by
  go_enter Tryz.func353, Tryz.ntmps353
  go_wp2
  go_ret2
  exact ⟨by kernel_rfl, rfl⟩
section
variable {P : Program} {w : World} {ops : Array Oper} {rest : List Oper} {o : Oper} {a : Act} {Q : Exit → Act → World → Prop} {K : Act → World → Prop}
/-- Elements of several cells, copied: n of them onto the block g from the cell off on. -/
theorem run_copy_many (w : World) (dT sT ty elem : TypeId) (g off dLen dCap : Nat) (ad : Addr) (sLen sCap sz n : Nat) (cur : Array Value) (t : TypeId) (cs : List Value)
    (hu : P.underlying dT = some (.slice elem)) (hs : (P.info? elem).map (·.size) = some sz) (hn : n = Nat.min sLen dLen) (hcs : cs.length = n * sz)
    (hg : w.heap[g]? = some (.cells cur t (0, 0))) (hsrc : ∀ j v, cs[j]? = some v → w.cell? (ad.add j) = some v) (hfit : off + cs.length ≤ cur.size) (h1 : ∀ v ∈ cs, v.oneCell' = true) :
    (Builtin.copy_ #[dT, sT] ty #[.slice (some ⟨g, off, none⟩) dLen dCap, .slice (some ad) sLen sCap]).run P w = .ok (goInt n) (w.setRow g (cur.toList.take off ++ cs ++ cur.toList.drop (off + cs.length)).toArray) := by
  have hl := run_loadCells_list (P := P) w ad cs hsrc
  have hst := run_storeCells_at P g off t cs 0 cur w hg (by simpa using hfit) h1
  cases hq : P.info? elem with
  | none => simp [hq] at hs
  | some i =>
    have hi : i.size = sz := by simpa [hq] using hs
    simp [Builtin.copy_, run_underlying hu, Builtin.lenOf, Builtin.firstCells, sizeOf, typeInfo, hq, hi, ← hn, ← hcs, hl, hst]
end
/-- In hand: places of which k are filled. -/
structure M4 (w V : World) (k : Nat) : Prop where
  row : V.heap[w.heap.size]? = some (.cells (rowK k).toArray 106 (0, 0))
  g : Below w.heap.size w V
theorem rowK_one (k : Nat) : ∀ v ∈ (List.replicate k rX.row).flatten, v.oneCell' = true := fun v hv => by
  obtain ⟨l, hl, hv⟩ := List.mem_flatten.1 hv
  rw [List.eq_of_mem_replicate hl] at hv
  exact A7.row_one rX v hv
theorem M4.copy1 {w V : World} (h : M4 w V 1) : (Builtin.copy_ #[285, 285] 3 #[.slice (some ⟨w.heap.size, 6, none⟩) 3 3, .slice (some ⟨w.heap.size, 0, none⟩) 1 4]).run Tryz.prog V = .ok (goInt 1) (V.setRow w.heap.size (rowK 2).toArray) :=
  run_copy_many (P := Tryz.prog) V 285 285 3 106 w.heap.size 6 3 3 ⟨w.heap.size, 0, none⟩ 1 4 6 1 (rowK 1).toArray 106 (List.replicate 1 rX.row).flatten Tryz.underlying285 (by kernel_rfl) rfl rfl h.row (fun j v hj => by
    rw [add_off, Nat.zero_add]
    have hl := (List.getElem?_eq_some_iff.1 hj).1
    exact row_cell h.row (by rw [List.getElem?_toArray]; unfold rowK; rw [List.getElem?_append_left hl]; exact hj)) (by decide) (rowK_one 1)
theorem M4.copy2 {w V : World} (h : M4 w V 2) : (Builtin.copy_ #[285, 285] 3 #[.slice (some ⟨w.heap.size, 12, none⟩) 2 2, .slice (some ⟨w.heap.size, 0, none⟩) 2 4]).run Tryz.prog V = .ok (goInt 2) (V.setRow w.heap.size (rowK 4).toArray) :=
  run_copy_many (P := Tryz.prog) V 285 285 3 106 w.heap.size 12 2 2 ⟨w.heap.size, 0, none⟩ 2 4 6 2 (rowK 2).toArray 106 (List.replicate 2 rX.row).flatten Tryz.underlying285 (by kernel_rfl) rfl rfl h.row (fun j v hj => by
    rw [add_off, Nat.zero_add]
    have hl := (List.getElem?_eq_some_iff.1 hj).1
    exact row_cell h.row (by rw [List.getElem?_toArray]; unfold rowK; rw [List.getElem?_append_left hl]; exact hj)) (by decide) (rowK_one 2)
theorem M4.bel {w V V' : World} {k : Nat} (h : M4 w V k) (g : Below V.heap.size V V') : M4 w V' k := ⟨bel_heap g h.row, bel_trans h.g g⟩
theorem M4.set {w V : World} {k : Nat} (h : M4 w V k) (j : Nat) : M4 w (V.setRow w.heap.size (rowK j).toArray) j :=
  ⟨setRow_heap _ _ _ _ _ _ h.row, only_bel h.g (only_row (w := V) ⟨rfl, rfl, rfl, Nat.le_refl _, fun _ _ _ => rfl⟩ rfl) (Nat.le_refl _)⟩
set_option maxRecDepth 100000 in
set_option maxHeartbeats 4000000 in
/-- Four of them. -/
theorem repeat_at (g : Nat) (w : World) (h : w.heap[g]? = some (.cells #[.int .u8 32, .int .u8 0, .int .u8 0, .int .u8 0, .bool false, .int .i32 0] 106 (0, 0))) :
    Calls Tryz.prog 281 #[.slice (some ⟨g, 0, none⟩) 1 1, .int .i64 4] w fun e w' => ∃ y, e = .returned (.slice (some ⟨y, 0, none⟩) 4 4) ∧ w.heap.size ≤ y ∧ w'.heap[y]? = some (.cells #[.int .u8 32, .int .u8 0, .int .u8 0, .int .u8 0, .bool false, .int .i32 0, .int .u8 32, .int .u8 0, .int .u8 0, .int .u8 0, .bool false, .int .i32 0, .int .u8 32, .int .u8 0, .int .u8 0, .int .u8 0, .bool false, .int .i32 0, .int .u8 32, .int .u8 0, .int .u8 0, .int .u8 0, .bool false, .int .i32 0] 106 (0, 0)) ∧ Below w.heap.size w w' := by
  have c0 : w.cell? ⟨g, 0, none⟩ = some (.int .u8 32) := row_cell h rfl
  have c1 : w.cell? ⟨g, 1, none⟩ = some (.int .u8 0) := row_cell h rfl
  have c2 : w.cell? ⟨g, 2, none⟩ = some (.int .u8 0) := row_cell h rfl
  have c3 : w.cell? ⟨g, 3, none⟩ = some (.int .u8 0) := row_cell h rfl
  have c4 : w.cell? ⟨g, 4, none⟩ = some (.bool false) := row_cell h rfl
  have c5 : w.cell? ⟨g, 5, none⟩ = some (.int .i32 0) := row_cell h rfl
  obtain ⟨i0, hi, hz0, hz1, hz2⟩ := info_parts A7.inst_parts
  have hmk : ∀ W, _ := fun W => run_make (P := Tryz.prog) W 285 106 i0 _ Tryz.underlying285 hi hz0 .i64 .i64 4 4 (by decide) (by decide) (by rw [hz2]; decide) (by decide)
  rw [hz1, made4] at hmk
  go_enter Tryz.func281, Tryz.ntmps281
  go_wp2_with fail
  refine (mul_at _).mono ?_; rintro e w1 ⟨rfl, rfl⟩
  have hA := heap_alloc_last w (.cells (rowK 0).toArray 106)
  have gA : Hid (Below w.heap.size w (w.alloc (.cells (rowK 0).toArray 106))) := (Below.refl _ _).alloc (Nat.le_refl _) _
  have hcp : (Builtin.copy_ #[285, 285] 3 #[.slice (some ⟨w.heap.size, 0, none⟩) 4 4, .slice (some ⟨g, 0, none⟩) 1 1]).run Tryz.prog (w.alloc (.cells (rowK 0).toArray 106)) = .ok (goInt 1) ((w.alloc (.cells (rowK 0).toArray 106)).setRow w.heap.size (rowK 1).toArray) :=
    run_copy_many (P := Tryz.prog) (w.alloc (.cells (rowK 0).toArray 106)) 285 285 3 106 w.heap.size 0 4 4 ⟨g, 0, none⟩ 1 1 6 1 (rowK 0).toArray 106 rX.row Tryz.underlying285 (by kernel_rfl) rfl rfl hA (fun j v hj => by
      rw [add_off, Nat.zero_add]
      exact bel_cell gA.out (row_cell h (by rw [List.getElem?_toArray]; exact hj))) (by decide) (A7.row_one rX)
  have R1 : Hid (M4 w ((w.alloc (.cells (rowK 0).toArray 106)).setRow w.heap.size (rowK 1).toArray) 1) := ⟨setRow_heap _ _ _ _ _ _ hA, only_bel gA.out (only_row (w := w.alloc (.cells (rowK 0).toArray 106)) ⟨rfl, rfl, rfl, Nat.le_refl _, fun _ _ _ => rfl⟩ rfl) (Nat.le_refl _)⟩
  clear h c0 c1 c2 c3 c4 c5 hA gA hi hz0 hz2 hz1
  go_wp2_with fail
  clear hcp hmk
  generalize (w.alloc (.cells (rowK 0).toArray 106)).setRow w.heap.size (rowK 1).toArray = V at R1 ⊢
  go_loopw [8] (fun i wr => (i = .int .i64 1 ∧ M4 w wr 1) ∨ (i = .int .i64 2 ∧ M4 w wr 2) ∨ (i = .int .i64 4 ∧ M4 w wr 4)) (fun i _ => 4 - (intOf i).toNat)
  case atStart => exact .inl ⟨rfl, R1.out⟩
  case round =>
    clear R1
    rcases hrel with ⟨rfl, M⟩ | ⟨rfl, M⟩ | ⟨rfl, M⟩
    · have MD : Hid (M4 w wr.drew 1) := M.bel (Below.drew (Below.refl _ _))
      have M2 := Lib.hid (MD.out.set 2)
      have v2 : IntKind.i64.wrap 2 = 2 := by decide
      have hc := MD.out.copy1
      clear M
      go_wp2_with fail
      go_region_with (fail)
      all_goals
        clear hc
        go_wp2_with fail
        go_roundw
        case rel => exact ⟨.int .i64 2, _, _, _, _, _, _, _, _, _, _, _, _, _, .inr (.inl ⟨rfl, M2.out⟩), rfl⟩
        case measure => show 4 - (2 : Int).toNat < 3; decide
    · have MD : Hid (M4 w wr.drew 2) := M.bel (Below.drew (Below.refl _ _))
      have M2 := Lib.hid (MD.out.set 4)
      have v4 : IntKind.i64.wrap 4 = 4 := by decide
      have hc := MD.out.copy2
      clear M
      go_wp2_with fail
      go_region_with (fail)
      all_goals
        clear hc
        go_wp2_with fail
        go_roundw
        case rel => exact ⟨.int .i64 4, _, _, _, _, _, _, _, _, _, _, _, _, _, .inr (.inr ⟨rfl, M2.out⟩), rfl⟩
        case measure => show 4 - (4 : Int).toNat < 2; decide
    · have M := Lib.hid M
      go_wp2_with fail
      go_ret
      exact ⟨_, rfl, Nat.le_refl _, M.out.row, M.out.g⟩

/-- The mark of a type's handler. -/
def vN (k : Nat) : ByteArray := if k = 1 then sOver else if k = 2 then sUnder else if k = 3 then sYield else if k = 4 then sEnd else if 17 ≤ k then nm (k - 16) else ⟨#[]⟩
theorem handler_at (k : Nat) (hk : k < 32) (w : World) : Calls Tryz.prog 229 #[.int .i64 k] w fun e w' => e = .returned (.string (vN k)) ∧ w = w' := by
  rcases (by omega : k = 1 ∨ k = 2 ∨ k = 3 ∨ k = 4 ∨ (k ≠ 1 ∧ k ≠ 2 ∧ k ≠ 3 ∧ k ≠ 4)) with rfl | rfl | rfl | rfl | ⟨h1, h2, h3, h4⟩
  · go_enter Tryz.func229, Tryz.ntmps229
    go_wp2_with fail
    go_ret
    exact ⟨rfl, rfl⟩
  · go_enter Tryz.func229, Tryz.ntmps229
    go_wp2_with fail
    go_ret
    exact ⟨rfl, rfl⟩
  · go_enter Tryz.func229, Tryz.ntmps229
    go_wp2_with fail
    go_ret
    exact ⟨rfl, rfl⟩
  · go_enter Tryz.func229, Tryz.ntmps229
    go_wp2_with fail
    go_ret
    exact ⟨rfl, rfl⟩
  · have C : Hid (∀ W, Calls Tryz.prog 283 #[.int .i64 ((k : Int) - 16)] W fun e w' => e = .returned (.string (vN k)) ∧ w' = W) := fun W => by
      unfold vN
      rw [if_neg h1, if_neg h2, if_neg h3, if_neg h4]
      by_cases h17 : 17 ≤ k
      · rw [if_pos h17]
        have := T9.Name_at (k - 16) W (by omega) (by omega)
        rw [show ((k - 16 : Nat) : Int) = (k : Int) - 16 by omega] at this
        exact this
      · rw [if_neg h17]
        exact T9.Name_no _ W (by omega)
    have b1 : ((k : Int) == 1) = false := by simp; omega
    have b2 : ((k : Int) == 2) = false := by simp; omega
    have b3 : ((k : Int) == 3) = false := by simp; omega
    have b4 : ((k : Int) == 4) = false := by simp; omega
    have hk' : (k : Int) < 32 := by omega
    clear h1 h2 h3 h4
    go_enter Tryz.func229, Tryz.ntmps229
    go_wp2_with fail
    refine (C.out _).mono ?_; rintro e w1 ⟨rfl, rfl⟩
    go_wp2_with fail
    go_ret
    exact ⟨rfl, rfl⟩
end Go.Proofs.YtmpagjijjahohaaGreatDoor.B11
