/- boot (layer 11): the list of a runtime. -/
import Derived.Test.YtmpagjijjahohaaGreatDoorBootGA
import Derived.Test.YtmpagjijjahohaaGreatDoorSwapGE
import Derived.Laws.Closers25
namespace Go.Proofs.YtmpagjijjahohaaGreatDoor.B11
open Go.RowKit Go.Maps
open A7 (XI XB AS AJ AsmB Has Left Ins Turns)
open T9 (nm nm_size)
open W8 (sOver sUnder ovr und)
open S10 (sYield sEnd hq Un)
set_option linter.unusedVariables false
def rw0 : Int := rX.word
/-- Part of four returns. -/
theorem ins_part {w : World} {y : Nat} (h : w.heap[y]? = some (.cells (rowK 4).toArray 106 (0, 0))) (H : Nat → Prop) (hH : ¬ H y) (o k c : Nat) (hk : o + k ≤ 4) : Ins w H (.slice (some ⟨y, o * 6, none⟩) k c) k (fun _ => rX) := by
  refine ⟨_, _, rfl, fun _ => ⟨_, _, rfl, hH, fun i hi => ?_⟩⟩
  rcases (by omega : o + i = 0 ∨ o + i = 1 ∨ o + i = 2 ∨ o + i = 3) with e | e | e | e
  all_goals
    rw [show o * 6 + i * 6 = (o + i) * 6 by omega, e]
    exact ⟨row_cell h rfl, row_cell h rfl, row_cell h rfl, row_cell h rfl, row_cell h rfl, row_cell h rfl⟩
/-- What a vector makes of a list. -/
def vec (q : AS) (s : ByteArray) : AS := if s = ⟨#[]⟩ then q.adds (fun _ => rw0) 4 else (q.jump 17 0 s).adds (fun _ => rw0) 3
theorem vec_n (q : AS) (s : ByteArray) : (vec q s).n = q.n + 4 := by
  unfold vec
  split
  · rw [A7.AS.adds_n]
  · rw [A7.AS.adds_n]; show q.n + 1 + 3 = _; omega
theorem vec_ms (q : AS) (s : ByteArray) : (vec q s).ms = q.ms := by
  unfold vec
  split
  · rw [A7.AS.adds_ms]
  · rw [A7.AS.adds_ms]; rfl
def vecs (q : AS) : Nat → AS
  | 0 => q
  | k + 1 => vec (vecs q k) (vN k)
theorem vecs_n (q : AS) : ∀ k, (vecs q k).n = q.n + 4 * k
  | 0 => rfl
  | k + 1 => by show (vec (vecs q k) (vN k)).n = _; rw [vec_n, vecs_n q k]; omega
theorem vecs_ms (q : AS) : ∀ k, (vecs q k).ms = q.ms
  | 0 => rfl
  | k + 1 => by show (vec (vecs q k) (vN k)).ms = _; rw [vec_ms, vecs_ms q k]
theorem vN_size (k : Nat) : (vN k).size ≤ maxLen := by
  unfold vN
  split
  · decide
  · split
    · decide
    · split
      · decide
      · split
        · decide
        · split
          · exact nm_size _
          · decide
set_option maxRecDepth 100000 in
set_option maxHeartbeats 4000000 in
theorem vector_at {w0 w : World} {b : Nat} {G0 : Nat → Prop} {q : AS} (s : ByteArray) (hs : s.size ≤ maxLen) (h : Has w0 w b G0 q) (hn : q.n + 4 ≤ 100000) :
    Calls Tryz.prog 228 #[.pointer (some ⟨b, 0, none⟩), .string s] w fun e w' => e = .returned (.int .i64 0) ∧ Has w0 w' b G0 (vec q s) := by
  have gA : Hid (Below w.heap.size w (w.alloc (.cells #[.int .u8 32, .int .u8 0, .int .u8 0, .int .u8 0, .bool false, .int .i32 0] 106))) := (Below.refl _ _).alloc (Nat.le_refl _) _
  have RP := Lib.hid (repeat_at w.heap.size (w.alloc (.cells #[.int .u8 32, .int .u8 0, .int .u8 0, .int .u8 0, .bool false, .int .i32 0] 106)) (heap_alloc_last _ _))
  have H := Lib.hid h
  have HS := Lib.hid hs
  clear h hs
  go_enter Tryz.func228, Tryz.ntmps228
  go_wp2_with fail
  refine RP.out.mono ?_; rintro e w1 ⟨y, rfl, hy, hrow, g1⟩
  have G1 := Lib.hid (bel_trans gA.out g1)
  have H1 := Lib.hid (H.out.bel G1.out)
  have ROW := Lib.hid hrow
  have NY : Hid (∀ G K, AsmB w1 b G K q → (∀ i, G i → i < w.heap.size) → ¬ G y) := fun G K A lt e => by
    have := lt y e
    have := gA.out.size
    omega
  obtain ⟨G, K, A, lo, T⟩ := H.out
  have LT := Lib.hid A.lt
  have AA := Lib.hid (A.bel G1.out)
  have LO := Lib.hid lo
  have TT : Hid (Turns G0 w0 w1) := T.trans (G' := fun _ => False) (A7.Turns.of_bel G1.out) (fun _ e => e.elim)
  have S01 : Hid (w0.heap.size ≤ w1.heap.size) := TT.out.size
  have GY : Hid (¬ G y) := fun e => by have h1 := LT.out y e; have h2 := gA.out.size; omega
  clear A lo T hy hrow g1 RP gA H H1 NY
  by_cases he : s = ⟨#[]⟩
  · have EV : Hid (vec q s = q.adds (fun _ => rw0) 4) := by unfold Hid vec; rw [if_pos he]
    subst he
    go_wp2_with fail
    refine (A7.Put_yes (X := fun _ => rX) (k := 4) AA.out (ins_part ROW.out G GY.out 0 4 4 (by decide)) (fun _ _ => rX_b) hn (fun _ _ => rX_may)).mono ?_; rintro e w2 ⟨rfl, G', A', T', lo'⟩
    have R : Hid (Has w0 w2 b G0 (q.adds (fun _ => rw0) 4)) := ⟨G', _, A', fun i hi => (lo' i hi).elim (LO.out i) fun e => .inr (Nat.le_trans S01.out e), TT.out.trans T' LO.out⟩
    clear A' T' lo'
    go_wp2_with fail
    go_ret
    exact ⟨rfl, by rw [EV.out]; exact R.out⟩
  · have EV : Hid (vec q s = (q.jump 17 0 s).adds (fun _ => rw0) 3) := by unfold Hid vec; rw [if_neg he]
    have hb : s.toList.isEmpty = false := by rw [← decide_eq_emptyBytes]; exact decide_eq_false he
    have HE := Lib.hid he
    clear he
    go_wp2_with fail
    refine (A7.Jump_yes 0 s AA.out ⟨by decide, by decide⟩ HS.out (by omega)).mono ?_; rintro e w2 ⟨rfl, G', A', T', lo'⟩
    have A2 := Lib.hid A'
    have T2 := Lib.hid T'
    have LO2 := Lib.hid lo'
    have GY2 : Hid (¬ G' y) := fun e => (LO2.out y e).elim GY.out fun h => absurd (A7.heap_lt ROW.out) (Nat.not_lt.2 h)
    have ROW2 : Hid (w2.heap[y]? = some (.cells (rowK 4).toArray 106 (0, 0))) := by
      rw [Hid, T2.out.block y (A7.heap_lt ROW.out) GY.out]; exact ROW.out
    clear A' T' lo' AA
    go_wp2_with fail
    refine (A7.Put_yes (X := fun _ => rX) (k := 3) A2.out (ins_part ROW2.out G' GY2.out 1 3 3 (by decide)) (fun _ _ => rX_b) (by show q.n + 1 + 3 ≤ 100000; omega) (fun _ _ => rX_may)).mono ?_; rintro e w3 ⟨rfl, G3, A3, T3, lo3⟩
    have lo' : ∀ i, G' i → G0 i ∨ w0.heap.size ≤ i := fun i hi => (LO2.out i hi).elim (LO.out i) fun e => .inr (Nat.le_trans S01.out e)
    have T02 := TT.out.trans T2.out LO.out
    have R : Hid (Has w0 w3 b G0 ((q.jump 17 0 s).adds (fun _ => rw0) 3)) := ⟨G3, _, A3, fun i hi => (lo3 i hi).elim (lo' i) fun e => .inr (Nat.le_trans T02.size e), T02.trans T3 lo'⟩
    clear A3 T3 lo3 lo' T02
    go_wp2_with fail
    go_ret
    exact ⟨rfl, by rw [EV.out]; exact R.out⟩
set_option maxRecDepth 100000 in
theorem vectors_at {w0 w : World} {b : Nat} {G0 : Nat → Prop} {q : AS} (nw : Int) (h : Has w0 w b G0 q) (hn : q.n ≤ 1000) :
    Calls Tryz.prog 172 #[.pointer (some ⟨b, 0, none⟩), .int .i64 nw] w fun e w' => e = .returned (.int .i64 0) ∧ Has w0 w' b G0 (vecs q 32) := by
  have H := Lib.hid h
  clear h
  go_enter Tryz.func172, Tryz.ntmps172
  go_wp2_with fail
  go_loopw [7] (fun i wr => ∃ k : Nat, k ≤ 32 ∧ i = .int .i64 k ∧ Has w0 wr b G0 (vecs q k)) (fun i _ => 32 - (intOf i).toNat)
  case atStart => exact ⟨0, by decide, rfl, H.out⟩
  case round =>
    obtain ⟨k, hk, rfl, Hk⟩ := hrel
    have Hk := Lib.hid Hk
    clear H
    by_cases hlt : k < 32
    · have hlt' : (k : Int) < 32 := by omega
      have HL := Lib.hid hlt
      have C := Lib.hid (vector_at (vN k) (vN_size k) Hk.out (by rw [vecs_n]; omega))
      go_wp2_with fail
      refine (handler_at k HL.out _).mono ?_; rintro e w1 ⟨rfl, rfl⟩
      go_wp2_with fail
      refine C.out.mono ?_; rintro e w2 ⟨rfl, H2⟩
      have H2 : Hid (Has w0 w2 b G0 (vecs q (k + 1))) := H2
      clear C Hk
      go_wp2_with fail
      go_roundw
      case rel => exact ⟨k + 1, HL.out, by go_num, H2.out⟩
      case measure => simp only [intOf]; have := HL.out; omega
    · obtain rfl : k = 32 := by omega
      clear hlt hk
      have e32 : ((32 : Nat) : Int) = 32 := rfl
      rw [e32]
      clear e32
      go_wp2_with fail
      go_ret
      exact ⟨rfl, Hk.out⟩
theorem ticks_at {w0 w : World} {b : Nat} {G0 : Nat → Prop} {q : AS} (nw : Int) (h : Has w0 w b G0 q) (hq : ∀ j, 1 ≤ j → j ≤ 15 → A7.look q.ms (nm j) = none) (hm : q.ms.length ≤ 1000) (hn : q.n ≤ 1000) :
    Calls Tryz.prog 175 #[.pointer (some ⟨b, 0, none⟩), .int .i64 nw] w fun e w' => e = .returned (.int .i64 0) ∧ Has w0 w' b G0 (A7.tks q 15) := by
  have C := Lib.hid (A7.All_yes h hq hm hn)
  clear h hq hm hn
  go_enter Tryz.func175, Tryz.ntmps175
  go_wp2_with fail
  refine C.out.mono ?_; rintro e w1 ⟨rfl, H1⟩
  have H1 := Lib.hid H1
  clear C
  go_wp2_with fail
  go_ret
  exact ⟨rfl, H1.out⟩
def sStart : ByteArray := { data := #[115, 116, 97, 114, 116] }
/-- The start's instructions. -/
def tL : List XI := [⟨22, 1, 0, 0, true, 72⟩, ⟨23, 1, 0, 0, true, 136⟩, ⟨22, 14, 0, 0, true, 68⟩, ⟨22, 1, 0, 0, true, 64⟩, ⟨19, 0, 1, 0, true, 0⟩]
def tX (i : Nat) : XI := tL.getD i rX
def sta (q : AS) : AS := (q.mark sStart).adds (fun i => (tX i).word) 5
theorem tX_b : ∀ i, i < 5 → XB (tX i) := fun i hi => by
  rcases (by omega : i = 0 ∨ i = 1 ∨ i = 2 ∨ i = 3 ∨ i = 4) with rfl | rfl | rfl | rfl | rfl
  all_goals exact ⟨⟨by decide, by decide⟩, ⟨by decide, by decide⟩, ⟨by decide, by decide⟩, ⟨by decide, by decide⟩, ⟨by decide, by decide⟩⟩
theorem tX_may : ∀ i, i < 5 → (tX i).may = true := fun i hi => by
  rcases (by omega : i = 0 ∨ i = 1 ∨ i = 2 ∨ i = 3 ∨ i = 4) with rfl | rfl | rfl | rfl | rfl
  all_goals kernel_rfl
def tRow : Array Value := #[.int .u8 22, .int .u8 1, .int .u8 0, .int .u8 0, .bool true, .int .i32 72, .int .u8 23, .int .u8 1, .int .u8 0, .int .u8 0, .bool true, .int .i32 136, .int .u8 22, .int .u8 14, .int .u8 0, .int .u8 0, .bool true, .int .i32 68, .int .u8 22, .int .u8 1, .int .u8 0, .int .u8 0, .bool true, .int .i32 64, .int .u8 19, .int .u8 0, .int .u8 1, .int .u8 0, .bool true, .int .i32 0]
theorem ins_start {w : World} {y : Nat} (h : w.heap[y]? = some (.cells tRow 106 (0, 0))) (H : Nat → Prop) (hH : ¬ H y) : Ins w H (.slice (some ⟨y, 0, none⟩) 5 5) 5 tX := by
  refine ⟨_, _, rfl, fun _ => ⟨_, _, rfl, hH, fun i hi => ?_⟩⟩
  rcases (by omega : i = 0 ∨ i = 1 ∨ i = 2 ∨ i = 3 ∨ i = 4) with rfl | rfl | rfl | rfl | rfl
  all_goals exact ⟨row_cell h rfl, row_cell h rfl, row_cell h rfl, row_cell h rfl, row_cell h rfl, row_cell h rfl⟩
set_option maxRecDepth 100000 in
set_option maxHeartbeats 2000000 in
theorem start_at {w0 w : World} {b : Nat} {G0 : Nat → Prop} {q : AS} (nw : Int) (h : Has w0 w b G0 q) (hl : A7.look q.ms sStart = none) (hm : q.ms.length < 100000) (hn : q.n + 5 ≤ 100000) :
    Calls Tryz.prog 177 #[.pointer (some ⟨b, 0, none⟩), .int .i64 nw] w fun e w' => e = .returned (.int .i64 0) ∧ Has w0 w' b G0 (sta q) := by
  have C := Lib.hid (h.left fun G K A lt => A7.Mark_yes sStart (by decide) A hm hl)
  unfold sStart at C
  clear h hl hm
  go_enter Tryz.func177, Tryz.ntmps177
  go_wp2_with fail
  refine C.out.mono ?_; rintro e w1 ⟨rfl, H1⟩
  obtain ⟨G, K, A, lo, T⟩ := H1
  have gA : Hid (Below w1.heap.size w1 (w1.alloc (.cells tRow 106))) := (Below.refl _ _).alloc (Nat.le_refl _) _
  have CP := Lib.hid (A7.Put_yes (X := tX) (k := 5) (A.bel gA.out) (ins_start (heap_alloc_last _ _) G (fun e => absurd (A.lt _ e) (Nat.lt_irrefl _))) tX_b hn tX_may)
  have LO := Lib.hid lo
  have TT : Hid (Turns G0 w0 (w1.alloc (.cells tRow 106))) := T.trans (G' := fun _ => False) (A7.Turns.of_bel gA.out) (fun _ e => e.elim)
  unfold tRow at CP
  clear A lo T C
  go_wp2_with fail
  refine CP.out.mono ?_; rintro e w2 ⟨rfl, G', A', T', lo'⟩
  have R : Hid (Has w0 w2 b G0 (sta q)) := ⟨G', _, A', fun i hi => (lo' i hi).elim (LO.out i) fun e => .inr (Nat.le_trans TT.out.size e), TT.out.trans T' LO.out⟩
  clear CP A' T' lo'
  go_wp2_with fail
  go_ret
  exact ⟨rfl, R.out⟩
end Go.Proofs.YtmpagjijjahohaaGreatDoor.B11
