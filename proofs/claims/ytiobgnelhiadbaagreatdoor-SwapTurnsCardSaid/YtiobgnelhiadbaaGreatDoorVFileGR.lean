/- The words that layer 3's statements put, and when two rows of words are the same. What the document's New and Place of layer 3 come to, for any arguments. What the document's At and Get of layer 3 come to, for any arguments. What the document's Set of layer 3 comes to, for any arguments. -/
import Derived.Test.YtiobgnelhiadbaaGreatDoorVFileG
import Derived.OwnWalk
import Derived.Laws.AppendOwn
import Derived.IntWalk
import Derived.Deep.RegionHeld3
import Derived.Deep.RegionLaw
import Derived.Deep.DeepAppendWide
import Derived.Laws.AppendOwnNone
namespace Go.Proofs.YtiobgnelhiadbaaGreatDoor.F3
open Go.RowKit
set_option linter.unusedVariables false
/-- The words: one by one seven more, all around. -/
def wd (v : Int) (i : Nat) : Int := (v + (i : Int) * 7) % 4294967296
def ws (v : Int) (m : Nat) : List Value := (List.range m).map fun i => Value.int .u32 (wd v i)
theorem u32_parts : (Tryz.prog.info? 22).map (fun i => (i.zero, i.size, i.bytes)) = some (some (.int .u32 0), 1, 4) := by kernel_rfl
end Go.Proofs.YtiobgnelhiadbaaGreatDoor.F3
namespace Go.Proofs.YtiobgnelhiadbaaGreatDoor.F3
open Go.RowKit
set_option linter.unusedVariables false
theorem refNew_at (n : Int) (w : World) (h : 2 ≤ n) (h' : n ≤ 32) : Calls Tryz.prog 66 #[.int .i64 n] w fun e w' => e = .returned (.tuple #[.agg #[.int .i64 n, .slice none 0 0], .int .i64 0]) ∧ Below w.heap.size w w' := by
  have h2 : ¬ n < 2 := by omega
  have h3 : ¬ 32 < n := by omega
  go_enter Tryz.func66, Tryz.ntmps66
  go_wp2
  exact bodyPost_ret (v := .tuple #[.agg #[.int .i64 n, .slice none 0 0], .int .i64 0]) (by simp [results, Tryz.results66, go_sem]) rfl ⟨rfl, by go_grown⟩
def celV (c : Cel) : Value := .agg #[.int .i64 c.1, .int .i64 c.2.1, .int .i64 c.2.2]
set_option maxHeartbeats 1000000 in
theorem place_bad (n x k r : Int) (s : Value) (w : World) (h : ¬ Named n x k r) :
    Calls Tryz.prog 129 #[.agg #[.int .i64 n, s], .int .i64 x, .int .i64 k, .int .i64 r] w fun e w' => e = .returned (.tuple #[celV (0, 0, 0), .int .i64 2]) ∧ Below w.heap.size w w' := by
  unfold Named at h
  unfold celV
  by_cases h1 : x < 0
  · clear h
    go_enter Tryz.func129, Tryz.ntmps129
    go_wp2
    exact bodyPost_ret (v := .tuple #[.agg #[.int .i64 0, .int .i64 0, .int .i64 0], .int .i64 2]) (by simp [results, Tryz.results129, go_sem]) rfl ⟨rfl, by go_grown⟩
  by_cases h2 : n ≤ x
  · clear h
    go_enter Tryz.func129, Tryz.ntmps129
    go_wp2
    exact bodyPost_ret (v := .tuple #[.agg #[.int .i64 0, .int .i64 0, .int .i64 0], .int .i64 2]) (by simp [results, Tryz.results129, go_sem]) rfl ⟨rfl, by go_grown⟩
  by_cases h3 : k < 0
  · clear h
    go_enter Tryz.func129, Tryz.ntmps129
    go_wp2
    exact bodyPost_ret (v := .tuple #[.agg #[.int .i64 0, .int .i64 0, .int .i64 0], .int .i64 2]) (by simp [results, Tryz.results129, go_sem]) rfl ⟨rfl, by go_grown⟩
  by_cases h4 : 16 < k
  · clear h
    go_enter Tryz.func129, Tryz.ntmps129
    go_wp2
    exact bodyPost_ret (v := .tuple #[.agg #[.int .i64 0, .int .i64 0, .int .i64 0], .int .i64 2]) (by simp [results, Tryz.results129, go_sem]) rfl ⟨rfl, by go_grown⟩
  by_cases h5 : r < 0
  · clear h
    go_enter Tryz.func129, Tryz.ntmps129
    go_wp2
    exact bodyPost_ret (v := .tuple #[.agg #[.int .i64 0, .int .i64 0, .int .i64 0], .int .i64 2]) (by simp [results, Tryz.results129, go_sem]) rfl ⟨rfl, by go_grown⟩
  · have h6 : 31 < r := by omega
    clear h
    go_enter Tryz.func129, Tryz.ntmps129
    go_wp2
    exact bodyPost_ret (v := .tuple #[.agg #[.int .i64 0, .int .i64 0, .int .i64 0], .int .i64 2]) (by simp [results, Tryz.results129, go_sem]) rfl ⟨rfl, by go_grown⟩
set_option maxHeartbeats 1000000 in
theorem place_at (n x k r : Int) (s : Value) (w : World) (hn : 2 ≤ n) (hn' : n ≤ 32) (h : Named n x k r) :
    Calls Tryz.prog 129 #[.agg #[.int .i64 n, s], .int .i64 x, .int .i64 k, .int .i64 r] w fun e w' => e = .returned (.tuple #[celV (place n x k r), .int .i64 0]) ∧ Below w.heap.size w w' := by
  obtain ⟨h0, h1, h2, h3, h4, h5⟩ := h
  have g1 : ¬ x < 0 := by omega
  have g2 : ¬ n ≤ x := by omega
  have g3 : ¬ k < 0 := by omega
  have g4 : ¬ 16 < k := by omega
  have g5 : ¬ r < 0 := by omega
  have g6 : ¬ 31 < r := by omega
  unfold place celV
  by_cases c1 : r < 8
  · rw [if_pos c1]
    go_enter Tryz.func129, Tryz.ntmps129
    go_wp2
    exact bodyPost_ret (v := .tuple #[.agg #[.int .i64 0, .int .i64 k, .int .i64 r], .int .i64 0]) (by simp [results, Tryz.results129, go_sem]) rfl ⟨rfl, by go_grown⟩
  rw [if_neg c1]
  by_cases c2 : r < 16
  · rw [if_pos c2]
    go_enter Tryz.func129, Tryz.ntmps129
    go_wp2
    exact bodyPost_ret (v := .tuple #[.agg #[.int .i64 2, .int .i64 ((x + n - 1) % n), .int .i64 (r - 8)], .int .i64 0]) (by simp [results, Tryz.results129, go_sem]) rfl ⟨rfl, by go_grown⟩
  rw [if_neg c2]
  by_cases c3 : r < 24
  · rw [if_pos c3]
    go_enter Tryz.func129, Tryz.ntmps129
    go_wp2
    exact bodyPost_ret (v := .tuple #[.agg #[.int .i64 1, .int .i64 x, .int .i64 (r - 16)], .int .i64 0]) (by simp [results, Tryz.results129, go_sem]) rfl ⟨rfl, by go_grown⟩
  · rw [if_neg c3]
    go_enter Tryz.func129, Tryz.ntmps129
    go_wp2
    exact bodyPost_ret (v := .tuple #[.agg #[.int .i64 2, .int .i64 x, .int .i64 (r - 24)], .int .i64 0]) (by simp [results, Tryz.results129, go_sem]) rfl ⟨rfl, by go_grown⟩
end Go.Proofs.YtiobgnelhiadbaaGreatDoor.F3
namespace Go.Proofs.YtiobgnelhiadbaaGreatDoor.F3
open Go.RowKit
set_option linter.unusedVariables false
/-- The cells of an entry; of a list. -/
def ecells (e : Ent) : List Value := [.int .i64 e.1.1, .int .i64 e.1.2.1, .int .i64 e.1.2.2, .int .u32 e.2]
def lcells (l : List Ent) : List Value := l.flatMap ecells
theorem lcells_snoc (l : List Ent) (e : Ent) : lcells (l ++ [e]) = lcells l ++ ecells e := by simp [lcells]
theorem lcells_get : ∀ (l : List Ent) (i : Nat) (e : Ent) (j : Nat), l[i]? = some e → j < 4 → (lcells l)[i * 4 + j]? = (ecells e)[j]?
  | [], i, e, j, h, _ => by simp at h
  | a :: l, 0, e, j, h, hj => by
    simp at h; subst h
    simp only [lcells, List.flatMap_cons]
    rw [List.getElem?_append_left (by simp [ecells]; omega)]
    congr 1; omega
  | a :: l, i + 1, e, j, h, hj => by
    simp at h
    have ih := lcells_get l i e j h hj
    simp only [lcells, List.flatMap_cons] at ih ⊢
    rw [List.getElem?_append_right (by simp [ecells]; omega)]
    rw [show (i + 1) * 4 + j - (ecells a).length = i * 4 + j by simp [ecells]; omega]
    exact ih
theorem lcells_one : ∀ l : List Ent, ∀ v ∈ lcells l, v.oneCell' = true := by
  intro l v hv
  simp only [lcells, List.mem_flatMap] at hv
  obtain ⟨e, _, he⟩ := hv
  simp [ecells] at he
  rcases he with rfl | rfl | rfl | rfl <;> rfl
/-- The slice s holds the list. -/
def LAt (w : World) (s : Value) (l : List Ent) : Prop := w.ownsRow 0 232 4 s l.length (lcells l)
theorem LAt.bel {w w' : World} {s : Value} {l : List Ent} (h : LAt w s l) (g : Below w.heap.size w w') : LAt w' s l := by
  cases hs : s.ownBlock with
  | none => exact h.kept (row := none) ⟨g.os, g.tape, g.output, g.size, fun i hi _ => g.block i hi⟩ (.inl hs)
  | some b => exact h.kept (row := none) ⟨g.os, g.tape, g.output, g.size, fun i hi _ => g.block i hi⟩ (.inr (by rw [hs]; simp))
theorem LAt.form {w : World} {s : Value} {l : List Ent} (h : LAt w s l) : ∃ p c, s = .slice p l.length c ∧ (l ≠ [] → ∃ g, p = some ⟨g, 0, none⟩ ∧ ∀ i e, l[i]? = some e →
    w.cell? ⟨g, i * 4, none⟩ = some (.int .i64 e.1.1) ∧ w.cell? ⟨g, i * 4 + 1, none⟩ = some (.int .i64 e.1.2.1) ∧ w.cell? ⟨g, i * 4 + 2, none⟩ = some (.int .i64 e.1.2.2) ∧ w.cell? ⟨g, i * 4 + 3, none⟩ = some (.int .u32 e.2)) := by
  obtain ⟨hl, ⟨rfl, h0⟩ | ⟨g, cap, cur, rfl, _, hg, h1, h2, h3, h4⟩⟩ := h
  · exact ⟨none, 0, by rw [h0], fun hn => absurd (List.eq_nil_of_length_eq_zero h0) hn⟩
  · refine ⟨_, cap, rfl, fun _ => ⟨g, rfl, fun i e he => ?_⟩⟩
    have hi : i < l.length := (List.getElem?_eq_some_iff.1 he).1
    have at' : ∀ j, j < 4 → w.cell? ⟨g, i * 4 + j, none⟩ = (ecells e)[j]? := fun j hj => by
      rw [cell_of_row _ _ _ _ _ _ hg, ← lcells_get l i e j he hj, ← h4, List.getElem?_take_of_lt (by omega)]
      simp
    exact ⟨at' 0 (by omega), at' 1 (by omega), at' 2 (by omega), at' 3 (by omega)⟩
theorem eq_cel (a b c a' b' c' : Int) (W : World) :
    (Op.equalIn 10000 228 (.agg #[.int .i64 a, .int .i64 b, .int .i64 c]) (.agg #[.int .i64 a', .int .i64 b', .int .i64 c'])).run Tryz.prog W = .ok ((a == a') && (b == b') && (c == c')) W := by
  cases h1 : a == a'
  · go_simp
  cases h2 : b == b'
  · go_simp
  cases h3 : c == c'
  · go_simp
  · go_simp
theorem cel_eq_yes {a b c a' b' c' : Int} (h : ((a, b, c) : Cel) = (a', b', c')) : ((a == a') && (b == b') && (c == c')) = true := by
  simp only [Prod.mk.injEq] at h
  simp [h.1, h.2.1, h.2.2]
theorem cel_eq_no {a b c a' b' c' : Int} (h : ((a, b, c) : Cel) ≠ (a', b', c')) : ((a == a') && (b == b') && (c == c')) = false := by
  cases hs : ((a == a') && (b == b') && (c == c'))
  · rfl
  · refine absurd ?_ h
    simp at hs
    rw [hs.1.1, hs.1.2, hs.2]
theorem atL_g0 {l : List Ent} {c : Cel} (h : c.1 = 0 ∧ c.2.2 = 0) : atL l c = 0 := by unfold atL; rw [if_pos h]
theorem atL_w {l : List Ent} {c : Cel} (h : ¬ (c.1 = 0 ∧ c.2.2 = 0)) : atL l c = lastW l c := by unfold atL; rw [if_neg h]
theorem lastW_take (l : List Ent) (c : Cel) (k : Nat) (e : Ent) (h : l[k]? = some e) : lastW (l.take (k + 1)) c = if e.1 = c then e.2 else lastW (l.take k) c := by
  rw [List.take_add_one, h]
  simp only [Option.toList_some]
  exact lastW_snoc _ _ _
theorem int_eq {a b : Int} (h : a = b) : Ending.returned (.int .u32 a) = Ending.returned (.int .u32 b) := by rw [h]
theorem at_g0 (n k0 k1 k2 : Int) (s : Value) (l : List Ent) (w : World) (h : k0 = 0 ∧ k2 = 0) :
    Calls Tryz.prog 154 #[.agg #[.int .i64 n, s], .agg #[.int .i64 k0, .int .i64 k1, .int .i64 k2]] w fun e w' => e = .returned (.int .u32 (atL l (k0, k1, k2))) ∧ Below w.heap.size w w' := by
  rw [atL_g0 h]
  obtain ⟨rfl, rfl⟩ := h
  go_enter Tryz.func154, Tryz.ntmps154
  go_wp2
  go_ret
  exact ⟨rfl, by go_grown⟩
theorem at_nil (n k0 k1 k2 : Int) (p : Option Addr) (c : Nat) (w : World) (h : ¬ (k0 = 0 ∧ k2 = 0)) :
    Calls Tryz.prog 154 #[.agg #[.int .i64 n, .slice p 0 c], .agg #[.int .i64 k0, .int .i64 k1, .int .i64 k2]] w fun e w' => e = .returned (.int .u32 0) ∧ Below w.heap.size w w' := by
  by_cases h0 : k0 = 0
  · subst h0
    have h2 : (k2 == 0) = false := by simp; intro e; exact h ⟨rfl, e⟩
    clear h
    go_enter Tryz.func154, Tryz.ntmps154
    go_wp2
    go_rounds 1
    all_goals
      go_ret
      exact ⟨rfl, by go_grown⟩
  · have h1 : (k0 == 0) = false := by simpa using h0
    clear h
    go_enter Tryz.func154, Tryz.ntmps154
    go_wp2
    go_rounds 1
    all_goals
      go_ret
      exact ⟨rfl, by go_grown⟩
set_option maxHeartbeats 1000000 in
theorem at_more (n k0 k1 k2 : Int) (g c : Nat) (l : List Ent) (w : World) (hl : l.length ≤ 1000) (h : ¬ (k0 = 0 ∧ k2 = 0))
    (hc : ∀ i e, l[i]? = some e → w.cell? ⟨g, i * 4, none⟩ = some (.int .i64 e.1.1) ∧ w.cell? ⟨g, i * 4 + 1, none⟩ = some (.int .i64 e.1.2.1) ∧ w.cell? ⟨g, i * 4 + 2, none⟩ = some (.int .i64 e.1.2.2) ∧ w.cell? ⟨g, i * 4 + 3, none⟩ = some (.int .u32 e.2)) :
    Calls Tryz.prog 154 #[.agg #[.int .i64 n, .slice (some ⟨g, 0, none⟩) l.length c], .agg #[.int .i64 k0, .int .i64 k1, .int .i64 k2]] w fun e w' => e = .returned (.int .u32 (lastW l (k0, k1, k2))) ∧ Below w.heap.size w w' := by
  have HC := Lib.hid hc
  clear hc
  have G : Below w.heap.size w ((w.alloc (.cells #[.int .i64 n, .slice (some ⟨g, 0, none⟩) l.length c] 35)).alloc (.cells #[.int .i64 k0, .int .i64 k1, .int .i64 k2] 228)) := ((Below.refl _ _).alloc (Nat.le_refl _) _).alloc (by simp) _
  have x1 : ∀ j, ((w.alloc (.cells #[.int .i64 n, .slice (some ⟨g, 0, none⟩) l.length c] 35)).alloc (.cells #[.int .i64 k0, .int .i64 k1, .int .i64 k2] 228)).cell? ⟨w.heap.size, j, none⟩ = (#[.int .i64 n, .slice (some ⟨g, 0, none⟩) l.length c] : Array Value)[j]? := fun j => cell_of_row _ _ _ _ _ _ (heap_alloc2_old w _ _)
  have x2 : ∀ j, ((w.alloc (.cells #[.int .i64 n, .slice (some ⟨g, 0, none⟩) l.length c] 35)).alloc (.cells #[.int .i64 k0, .int .i64 k1, .int .i64 k2] 228)).cell? ⟨w.heap.size + 1, j, none⟩ = (#[.int .i64 k0, .int .i64 k1, .int .i64 k2] : Array Value)[j]? := fun j => cell_of_row _ _ _ _ _ _ (heap_alloc2_new w _ _)
  have HB := Lib.hid (And.intro (x1 1) (And.intro (x2 0) (And.intro (x2 1) (x2 2))))
  clear x1 x2
  have hk : (k0 == 0) = false ∨ ((k0 == 0) = true ∧ (k2 == 0) = false) := by
    by_cases h0 : k0 = 0
    · exact .inr ⟨by simpa using h0, by simp; intro e; exact h ⟨h0, e⟩⟩
    · exact .inl (by simpa using h0)
  clear h
  rcases hk with hk | ⟨hk0, hk⟩
  all_goals
    go_enter Tryz.func154, Tryz.ntmps154
    go_wp2
    generalize ((w.alloc (.cells #[.int .i64 n, .slice (some ⟨g, 0, none⟩) l.length c] 35)).alloc (.cells #[.int .i64 k0, .int .i64 k1, .int .i64 k2] 228)) = W at G HB ⊢
    go_loopw [5] (fun i wr => ∃ I : Int, -1 ≤ I ∧ I < l.length ∧ i = .int .i64 I ∧ Hid (lastW l (k0, k1, k2) = lastW (l.take (I + 1).toNat) (k0, k1, k2)) ∧ Below W.heap.size W wr) (fun i _ => (intOf i + 1).toNat)
    case atStart => exact ⟨_, by omega, by omega, rfl, (by show _ = _; rw [show ((l.length : Int) - 1 + 1).toNat = l.length by omega, List.take_length]), Below.refl _ _⟩
    case round =>
      obtain ⟨I, hI, hI', rfl, HL, hg⟩ := hrel
      by_cases hge : 0 ≤ I
      · obtain ⟨j, rfl⟩ : ∃ j : Nat, I = (j : Int) := ⟨I.toNat, by omega⟩
        have hj : j < l.length := by omega
        obtain ⟨e, he⟩ : ∃ e, l[j]? = some e := ⟨l[j], by simp [hj]⟩
        have HT := Lib.hid (lastW_take l (k0, k1, k2) j e he)
        obtain ⟨⟨e0, e1, e2⟩, ew⟩ := e
        have d0 : wr.cell? ⟨g, j * 4, none⟩ = some (.int .i64 e0) := bel_cell (bel_trans G hg) (HC.out j _ he).1
        have d1 : wr.cell? ⟨g, j * 4 + 1, none⟩ = some (.int .i64 e1) := bel_cell (bel_trans G hg) (HC.out j _ he).2.1
        have d2 : wr.cell? ⟨g, j * 4 + 2, none⟩ = some (.int .i64 e2) := bel_cell (bel_trans G hg) (HC.out j _ he).2.2.1
        have d3 : wr.cell? ⟨g, j * 4 + 3, none⟩ = some (.int .u32 ew) := bel_cell (bel_trans G hg) (HC.out j _ he).2.2.2
        have f0 : wr.cell? ⟨w.heap.size, 1, none⟩ = some (.slice (some ⟨g, 0, none⟩) l.length c) := bel_cell hg HB.out.1
        have f1 : wr.cell? ⟨w.heap.size + 1, 0, none⟩ = some (.int .i64 k0) := bel_cell hg HB.out.2.1
        have f2 : wr.cell? ⟨w.heap.size + 1, 1, none⟩ = some (.int .i64 k1) := bel_cell hg HB.out.2.2.1
        have f3 : wr.cell? ⟨w.heap.size + 1, 2, none⟩ = some (.int .i64 k2) := bel_cell hg HB.out.2.2.2
        clear he
        by_cases hEq : ((e0, e1, e2) : Cel) = (k0, k1, k2)
        · have HQ : ∀ W : World, (Op.equalIn 10000 228 (.agg #[.int .i64 e0, .int .i64 e1, .int .i64 e2]) (.agg #[.int .i64 k0, .int .i64 k1, .int .i64 k2])).run Tryz.prog W = .ok true W := fun W => by rw [eq_cel, cel_eq_yes hEq]
          have HR : Hid (lastW l (k0, k1, k2) = ew) := by
            show _ = _
            rw [HL.out, show ((j : Int) + 1).toNat = j + 1 by omega, HT.out, if_pos hEq]
          clear hEq
          go_wp2
          go_quiet (fail)
          go_wp2
          go_ret
          exact ⟨int_eq HR.out.symm, bel_drewN (bel_trans G hg) _⟩
        · have HQ : ∀ W : World, (Op.equalIn 10000 228 (.agg #[.int .i64 e0, .int .i64 e1, .int .i64 e2]) (.agg #[.int .i64 k0, .int .i64 k1, .int .i64 k2])).run Tryz.prog W = .ok false W := fun W => by rw [eq_cel, cel_eq_no hEq]
          have HR : Hid (lastW l (k0, k1, k2) = lastW (l.take ((j : Int) - 1 + 1).toNat) (k0, k1, k2)) := by
            show _ = _
            rw [HL.out, show ((j : Int) + 1).toNat = j + 1 by omega, HT.out, if_neg hEq, show ((j : Int) - 1 + 1).toNat = j by omega]
          clear hEq
          go_wp2
          go_quiet (fail)
          go_wp2
          go_roundw
          case rel => exact ⟨(j : Int) - 1, by omega, by omega, rfl, HR, bel_drewN hg _⟩
          case measure => simp [intOf]
      · obtain rfl : I = -1 := by omega
        have HR : Hid (lastW l (k0, k1, k2) = 0) := HL.out
        go_wp2
        go_ret
        exact ⟨int_eq HR.out.symm, bel_trans G hg⟩
/-- What the document's At comes to. -/
theorem at_any (n k0 k1 k2 : Int) (s : Value) (l : List Ent) (w : World) (hl : l.length ≤ 1000) (h : LAt w s l) :
    Calls Tryz.prog 154 #[.agg #[.int .i64 n, s], .agg #[.int .i64 k0, .int .i64 k1, .int .i64 k2]] w fun e w' => e = .returned (.int .u32 (atL l (k0, k1, k2))) ∧ Below w.heap.size w w' := by
  by_cases h0 : k0 = 0 ∧ k2 = 0
  · exact at_g0 n k0 k1 k2 s l w h0
  · rw [atL_w (by exact h0)]
    obtain ⟨p, c, rfl, hf⟩ := h.form
    by_cases hn : l = []
    · subst hn; exact at_nil n k0 k1 k2 p c w h0
    · obtain ⟨g, rfl, hc⟩ := hf hn
      exact at_more n k0 k1 k2 g c l w hl h0 hc
theorem place_is (n x k r c0 c1 c2 : Int) (s : Value) (w : World) (hn : 2 ≤ n) (hn' : n ≤ 32) (h : Named n x k r) (hp : place n x k r = (c0, c1, c2)) :
    Calls Tryz.prog 129 #[.agg #[.int .i64 n, s], .int .i64 x, .int .i64 k, .int .i64 r] w fun e w' => e = .returned (.tuple #[.agg #[.int .i64 c0, .int .i64 c1, .int .i64 c2], .int .i64 0]) ∧ Below w.heap.size w w' := by
  have := place_at n x k r s w hn hn' h
  rw [hp] at this
  exact this
theorem refGet_at (n x k r : Int) (s : Value) (l : List Ent) (w : World) (hn : 2 ≤ n) (hn' : n ≤ 32) (hl : l.length ≤ 1000) (hL : LAt w s l) (h : Named n x k r) :
    Calls Tryz.prog 87 #[.agg #[.int .i64 n, s], .int .i64 x, .int .i64 k, .int .i64 r] w fun e w' => e = .returned (.tuple #[.int .u32 (atL l (place n x k r)), .int .i64 0]) ∧ Below w.heap.size w w' := by
  obtain ⟨⟨c0, c1, c2⟩, hp⟩ : ∃ c, place n x k r = c := ⟨_, rfl⟩
  rw [hp]
  have HP := Lib.hid hp
  clear hp
  have G : Below w.heap.size w (w.alloc (.cells #[.int .i64 n, s] 35)) := (Below.refl _ _).alloc (Nat.le_refl _) _
  have b0 : (w.alloc (.cells #[.int .i64 n, s] 35)).cell? ⟨w.heap.size, 0, none⟩ = some (.int .i64 n) := cell_of_row _ _ _ _ _ _ (heap_alloc_last _ _)
  have b1 : (w.alloc (.cells #[.int .i64 n, s] 35)).cell? ⟨w.heap.size, 1, none⟩ = some s := cell_of_row _ _ _ _ _ _ (heap_alloc_last _ _)
  have HB := Lib.hid (And.intro b0 b1)
  clear b0 b1
  go_enter Tryz.func87, Tryz.ntmps87
  go_wp2_with fail
  generalize w.alloc (.cells #[.int .i64 n, s] 35) = W at G HB ⊢
  refine (place_is n x k r c0 c1 c2 s _ hn hn' h HP.out).mono ?_; rintro e w1 ⟨rfl, g1⟩
  have f0 := bel_cell g1 HB.out.1
  have f1 := bel_cell g1 HB.out.2
  have hz : w.heap.size < w1.heap.size := block_lt_of_cell (a := ⟨w.heap.size, 0, none⟩) f0
  have G1 := bel_trans G g1
  have G2 := G1.alloc G1.size (.cells #[.int .i64 c0, .int .i64 c1, .int .i64 c2] 228)
  have L2 := hL.bel G2
  go_wp2_with fail
  refine (at_any n c0 c1 c2 s l _ hl L2).mono ?_; rintro e w2 ⟨rfl, g2⟩
  have G3 := bel_trans G2 g2
  go_wp2_with fail
  go_ret2
  exact ⟨rfl, G3⟩
end Go.Proofs.YtiobgnelhiadbaaGreatDoor.F3
namespace Go.Proofs.YtiobgnelhiadbaaGreatDoor.F3
open Go.RowKit
set_option linter.unusedVariables false
theorem said_parts : (Tryz.prog.info? 232).map (fun i => (i.zero, i.size, i.bytes)) = some (some (.agg #[.int .i64 0, .int .i64 0, .int .i64 0, .int .u32 0]), 4, 32) := by kernel_rfl
theorem said_under : Tryz.prog.underlying 33 = some (.slice 232) := by kernel_rfl
theorem ecells_one (e : Ent) : ∀ u ∈ ecells e, u.oneCell' = true := by
  intro u hu
  simp [ecells] at hu
  rcases hu with rfl | rfl | rfl | rfl <;> rfl
/-- Behind a list of its own a list is laid: one step of a region that draws its order. -/
theorem step_list {ops : Array Oper} {o : Oper} {a : Act} {w : World} {K : Act → World → Prop} {Q : Exit → Act → World → Prop} {E : Prop} (hg : o.guard = none) (s x : Operand)
    (hop : o.op = Op.call { callee := Callee.builtin Builtin.append, args := #[s, x], argTypes := #[33, 33] })
    (B : Nat) (v1 vx : Value) (l : List Ent) (hs : a.eval s = v1) (h1 : w.ownsRow B 232 4 v1 0 []) (hx : a.eval x = vx) (hL : LAt w vx l) (hl : l.length ≤ 1000) (hB : B ≤ w.heap.size)
    (hK : ∀ v' w', w'.ownsRow B 232 4 v' l.length (lcells l) → Below B w w' → (∀ k o, v1.ownBlock ≠ some k → w.heap[k]? = some o → w'.heap[k]? = some o) → K (a.put o.dst v') w') :
    if Region.wanted o (yielded ops a.tmps) = true then Oper.wp Tryz.prog o a w K Q else E := by
  obtain ⟨i0, hi, hz0, hz1, hz2⟩ := info_parts said_parts
  have hw : Region.wanted o (yielded ops a.tmps) = true := by simp [Region.wanted, hg]
  rw [if_pos hw]
  obtain ⟨hlen, ⟨rfl, h0⟩ | ⟨g, cap, cur, rfl, _, hgg, q1, q2, q3, q4⟩⟩ := hL
  · obtain rfl : l = [] := List.eq_nil_of_length_eq_zero h0
    have hrun := run_append_owned_none (P := Tryz.prog) (w := w) B 33 o.type 232 i0 4 said_under hi v1 0 [] h1
    unfold Oper.wp
    simp [execOp, hop, resolve, invoke, builtin, hs, hx, hrun, Result.andThen]
    exact hK _ _ h1 (Below.refl _ _) (fun _ _ _ h => h)
  · refine wp_append_own_wide w s x 33 hop B 232 i0 _ 4 32 said_under hi hz0 hz1 hz2 rfl (by decide) v1 0 [] hs h1 ⟨g, 0, none⟩ l.length cap (lcells l) hx hlen ?_ (lcells_one l) (by unfold maxLen; omega) (by omega) hB ?_
    · intro j u hu
      rw [add_at, Nat.zero_add, cell_of_row _ _ _ _ _ _ hgg]
      have hj : j < l.length * 4 := by rw [← hlen]; exact (List.getElem?_eq_some_iff.1 hu).1
      rw [← q4, List.getElem?_take_of_lt hj] at hu
      simpa using hu
    · intro v' w' ho hgrow _
      rw [Nat.zero_add, List.nil_append] at ho
      refine hK v' w' ho ((Below.refl B w).grown hgrow hB (fun k hk => (h1.lt k hk).1)) (fun k o hk ho => ?_)
      have hlt : k < w.heap.size := by
        rcases Nat.lt_or_ge k w.heap.size with hh | hh
        · exact hh
        · rw [Array.getElem?_eq_none hh] at ho; cases ho
      rw [hgrow.block k hlt (fun e => hk e.symm)]
      exact ho
theorem own_empty {w : World} {B g : Nat} (h : w.heap[g]? = some (.cells #[] 232 (0, 0))) (hB : B ≤ g) : w.ownsRow B 232 4 (.slice (some ⟨g, 0, none⟩) 0 0) 0 [] :=
  ⟨rfl, .inr ⟨g, 0, #[], rfl, hB, h, Nat.le_refl _, Nat.zero_le _, rfl, rfl⟩⟩
/-- One entry more. -/
theorem step_entry {ops : Array Oper} {o : Oper} {a : Act} {w : World} {K : Act → World → Prop} {Q : Exit → Act → World → Prop} {E : Prop} (hg : o.guard = none) (s x : Operand)
    (hop : o.op = Op.call { callee := Callee.builtin Builtin.append, args := #[s, x], argTypes := #[33, 33] })
    (B : Nat) (v1 : Value) (l : List Ent) (e : Ent) (hs : a.eval s = v1) (h1 : w.ownsRow B 232 4 v1 l.length (lcells l)) (g c : Nat) (hx : a.eval x = .slice (some ⟨g, 0, none⟩) 1 c)
    (hc : w.heap[g]? = some (.cells (ecells e).toArray 232 (0, 0))) (hl : l.length ≤ 1000) (hB : B ≤ w.heap.size)
    (hK : ∀ g' c' w', w'.ownsRow B 232 4 (.slice (some ⟨g', 0, none⟩) (l.length + 1) c') (l.length + 1) (lcells (l ++ [e])) → Below B w w' → K (a.put o.dst (.slice (some ⟨g', 0, none⟩) (l.length + 1) c')) w') :
    if Region.wanted o (yielded ops a.tmps) = true then Oper.wp Tryz.prog o a w K Q else E := by
  obtain ⟨i0, hi, hz0, hz1, hz2⟩ := info_parts said_parts
  have hw : Region.wanted o (yielded ops a.tmps) = true := by simp [Region.wanted, hg]
  rw [if_pos hw]
  refine wp_append_own_wide w s x 33 hop B 232 i0 _ 4 32 said_under hi hz0 hz1 hz2 rfl (by decide) v1 l.length (lcells l) hs h1 ⟨g, 0, none⟩ 1 c (ecells e) hx rfl ?_ (ecells_one e) (by unfold maxLen; omega) (by omega) hB ?_
  · intro j u hu
    rw [add_at, Nat.zero_add, cell_of_row _ _ _ _ _ _ hc]
    simpa using hu
  · intro v' w' ho hgrow _
    rw [← lcells_snoc] at ho
    obtain ⟨g', c', rfl⟩ : ∃ g' c', v' = .slice (some ⟨g', 0, none⟩) (l.length + 1) c' := by
      obtain ⟨_, ⟨_, h0⟩ | ⟨g', c', _, rfl, _⟩⟩ := ho
      · omega
      · exact ⟨g', c', rfl⟩
    exact hK g' c' w' ho ((Below.refl B w).grown hgrow hB (fun k hk => (h1.lt k hk).1))
theorem two_boxes (w : World) (A B : Array Value) (t u : TypeId) : (∀ j v, A[j]? = some v → ((w.alloc (.cells A t)).alloc (.cells B u)).cell? ⟨w.heap.size, j, none⟩ = some v) ∧ (∀ j v, B[j]? = some v → ((w.alloc (.cells A t)).alloc (.cells B u)).cell? ⟨w.heap.size + 1, j, none⟩ = some v) ∧
    (∀ j, ((w.alloc (.cells A t)).alloc (.cells B u)).frozen? ⟨w.heap.size, j, none⟩ = false) ∧ (∀ j, ((w.alloc (.cells A t)).alloc (.cells B u)).frozen? ⟨w.heap.size + 1, j, none⟩ = false) :=
  ⟨fun j v h => (cell_of_row _ _ _ _ _ _ (heap_alloc2_old w _ _)).trans h, fun j v h => (cell_of_row _ _ _ _ _ _ (heap_alloc2_new w _ _)).trans h, fun j => frozen_of_row _ _ _ _ _ (heap_alloc2_old w _ _), fun j => frozen_of_row _ _ _ _ _ (heap_alloc2_new w _ _)⟩
theorem entry_far {w : World} {B z : Nat} {s : Value} {m : Nat} {xs : List Value} (h : w.ownsRow B 232 4 s m xs) (hz : z + 1 < B) (o : Nat) (u : Value) : (w.setCell ⟨z + 1, o, none⟩ u).ownsRow B 232 4 s m xs :=
  ownsRow_setCell_below h (a := ⟨z + 1, o, none⟩) hz u
/-- The slice holds the list, in a block not before B. -/
def LAtB (B : Nat) (w : World) (s : Value) (l : List Ent) : Prop := w.ownsRow B 232 4 s l.length (lcells l)
theorem LAtB.less {B C : Nat} {w : World} {s : Value} {l : List Ent} (h : LAtB B w s l) (hC : C ≤ B) : LAtB C w s l := by
  obtain ⟨h1, h2 | ⟨g, cap, cur, h3, h4, h5⟩⟩ := h
  · exact ⟨h1, .inl h2⟩
  · exact ⟨h1, .inr ⟨g, cap, cur, h3, Nat.le_trans hC h4, h5⟩⟩
theorem LAtB.at {B : Nat} {w : World} {s : Value} {l : List Ent} (h : LAtB B w s l) : LAt w s l := h.less (Nat.zero_le _)
theorem entry_at {w : World} {B C : Nat} {s : Value} {l : List Ent} {e : Ent} (h : w.ownsRow B 232 4 s (l.length + 1) (lcells (l ++ [e]))) (hC : C ≤ B) : LAtB C w s (l ++ [e]) := by
  refine LAtB.less (B := B) ?_ hC
  unfold LAtB
  rw [show (l ++ [e]).length = l.length + 1 by simp]
  exact h
/-- What stays while the document's Set lays its list: the boxes in the blocks z and q; the result's box, behind z, may be written. -/
structure SH (z q : Nat) (n : Int) (sv : Value) (c0 c1 c2 : Int) (V w : World) : Prop where
  b0 : w.cell? ⟨z, 0, none⟩ = some (.int .i64 n)
  b1 : w.cell? ⟨z, 1, none⟩ = some sv
  e0 : w.cell? ⟨q, 0, none⟩ = some (.int .i64 c0)
  e1 : w.cell? ⟨q, 1, none⟩ = some (.int .i64 c1)
  e2 : w.cell? ⟨q, 2, none⟩ = some (.int .i64 c2)
  d0 : (w.cell? ⟨z + 1, 0, none⟩).isSome = true
  d1 : (w.cell? ⟨z + 1, 1, none⟩).isSome = true
  f0 : w.frozen? ⟨z + 1, 0, none⟩ = false
  f1 : w.frozen? ⟨z + 1, 1, none⟩ = false
  lt : z + 1 < V.heap.size ∧ z < V.heap.size ∧ q < V.heap.size ∧ q ≠ z + 1
  only : V.grownBy w (some (z + 1))
theorem SH.all {z q : Nat} {n : Int} {sv : Value} {c0 c1 c2 : Int} {V w : World} (h : SH z q n sv c0 c1 c2 V w) :
    w.cell? ⟨z, 0, none⟩ = some (.int .i64 n) ∧ w.cell? ⟨z, 1, none⟩ = some sv ∧ w.cell? ⟨q, 0, none⟩ = some (.int .i64 c0) ∧ w.cell? ⟨q, 1, none⟩ = some (.int .i64 c1) ∧ w.cell? ⟨q, 2, none⟩ = some (.int .i64 c2) ∧ SH z q n sv c0 c1 c2 V w :=
  ⟨h.b0, h.b1, h.e0, h.e1, h.e2, h⟩
theorem SH.more {z q : Nat} {n : Int} {sv : Value} {c0 c1 c2 : Int} {V w w' : World} (h : SH z q n sv c0 c1 c2 V w) (g : Below V.heap.size w w') : SH z q n sv c0 c1 c2 V w' :=
  ⟨(g.cell (p := ⟨z, 0, none⟩) h.lt.2.1).trans h.b0, (g.cell (p := ⟨z, 1, none⟩) h.lt.2.1).trans h.b1, (g.cell (p := ⟨q, 0, none⟩) h.lt.2.2.1).trans h.e0, (g.cell (p := ⟨q, 1, none⟩) h.lt.2.2.1).trans h.e1, (g.cell (p := ⟨q, 2, none⟩) h.lt.2.2.1).trans h.e2,
    by rw [g.cell (p := ⟨z + 1, 0, none⟩) h.lt.1]; exact h.d0, by rw [g.cell (p := ⟨z + 1, 1, none⟩) h.lt.1]; exact h.d1, (g.frozen (p := ⟨z + 1, 0, none⟩) h.lt.1).trans h.f0, (g.frozen (p := ⟨z + 1, 1, none⟩) h.lt.1).trans h.f1, h.lt,
    ⟨g.os.trans h.only.os, g.tape.trans h.only.tape, g.output.trans h.only.output, Nat.le_trans h.only.size g.size, fun i hi hn => (g.block i hi).trans (h.only.block i hi hn)⟩⟩
theorem SH.size {z q : Nat} {n : Int} {sv : Value} {c0 c1 c2 : Int} {V w : World} (h : SH z q n sv c0 c1 c2 V w) : V.heap.size ≤ w.heap.size := h.only.size
theorem SH.cells {z q : Nat} {n : Int} {sv : Value} {c0 c1 c2 : Int} {V w : World} (h : SH z q n sv c0 c1 c2 V w) :
    ∃ u0 u1, w.cell? ⟨z + 1, 0, none⟩ = some u0 ∧ w.cell? ⟨z + 1, 1, none⟩ = some u1 ∧ w.frozen? ⟨z + 1, 0, none⟩ = false ∧ w.frozen? ⟨z + 1, 1, none⟩ = false := by
  obtain ⟨u0, h0⟩ := Option.isSome_iff_exists.1 h.d0
  obtain ⟨u1, h1⟩ := Option.isSome_iff_exists.1 h.d1
  exact ⟨u0, u1, h0, h1, h.f0, h.f1⟩
theorem SH.list {z q : Nat} {n : Int} {sv : Value} {c0 c1 c2 : Int} {V w : World} {l : List Ent} (h : SH z q n sv c0 c1 c2 V w) (hL : LAt V sv l) (hne : sv.ownBlock ≠ some (z + 1)) : LAt w sv l := World.ownsRow.kept hL h.only (.inr hne)
theorem SH.cell {z q : Nat} {n : Int} {sv : Value} {c0 c1 c2 : Int} {V w : World} (h : SH z q n sv c0 c1 c2 V w) (o : Nat) (u : Value) : SH z q n sv c0 c1 c2 V (w.setCell ⟨z + 1, o, none⟩ u) := by
  have far : ∀ b j, b ≠ z + 1 → (w.setCell ⟨z + 1, o, none⟩ u).cell? ⟨b, j, none⟩ = w.cell? ⟨b, j, none⟩ := fun b j hb => World.cell?_setCell_other _ _ _ _ (fun e => hb (by cases e; rfl))
  have some' : ∀ j, (w.cell? ⟨z + 1, j, none⟩).isSome = true → ((w.setCell ⟨z + 1, o, none⟩ u).cell? ⟨z + 1, j, none⟩).isSome = true := fun j hj => by
    obtain ⟨x, hx⟩ := Option.isSome_iff_exists.1 hj
    by_cases e : o = j
    · subst e; rw [World.cell?_setCell_same _ _ _ hx]; rfl
    · rw [World.cell?_setCell_other _ _ _ _ (fun e' => e (by cases e'; rfl)), hx]; rfl
  exact ⟨(far z 0 (by omega)).trans h.b0, (far z 1 (by omega)).trans h.b1, (far q 0 h.lt.2.2.2).trans h.e0, (far q 1 h.lt.2.2.2).trans h.e1, (far q 2 h.lt.2.2.2).trans h.e2, some' 0 h.d0, some' 1 h.d1,
    (World.frozen?_setCell _ _ _ _).trans h.f0, (World.frozen?_setCell _ _ _ _).trans h.f1, h.lt, only_cell h.only o u⟩
set_option maxHeartbeats 4000000 in
theorem refSet_at (n x k r v : Int) (p : Option Addr) (m c : Nat) (l : List Ent) (w : World) (hn : 2 ≤ n) (hn' : n ≤ 32) (hl : l.length ≤ 900) (hL : LAt w (.slice p m c) l) (h : Named n x k r) :
    Calls Tryz.prog 64 #[.agg #[.int .i64 n, .slice p m c], .int .i64 x, .int .i64 k, .int .i64 r, .int .u32 v] w fun e w' => ∃ s', e = .returned (.tuple #[.agg #[.int .i64 n, s'], .int .i64 0]) ∧ LAtB w.heap.size w' s' (l ++ [(place n x k r, v)]) ∧ Below w.heap.size w w' := by
  obtain ⟨⟨c0, c1, c2⟩, hp⟩ : ∃ c, place n x k r = c := ⟨_, rfl⟩
  rw [hp]
  have HP := Lib.hid hp
  clear hp
  have G : Below w.heap.size w ((w.alloc (.cells #[.int .i64 n, .slice p m c] 35)).alloc (.cells #[.int .i64 0, .slice none 0 0] 35)) := ((Below.refl _ _).alloc (Nat.le_refl _) _).alloc (by simp) _
  have HB := Lib.hid (two_boxes w #[.int .i64 n, .slice p m c] #[.int .i64 0, .slice none 0 0] 35 35)
  go_enter Tryz.func64, Tryz.ntmps64
  go_wp2_with fail
  generalize (w.alloc (.cells #[.int .i64 n, .slice p m c] 35)).alloc (.cells #[.int .i64 0, .slice none 0 0] 35) = W at G HB ⊢
  refine (place_is n x k r c0 c1 c2 _ _ hn hn' h HP.out).mono ?_; rintro e w1 ⟨rfl, g1⟩
  have b0' : w1.cell? ⟨w.heap.size, 0, none⟩ = some (.int .i64 n) := bel_cell g1 (HB.out.1 0 _ rfl)
  have b1' : w1.cell? ⟨w.heap.size, 1, none⟩ = some (.slice p m c) := bel_cell g1 (HB.out.1 1 _ rfl)
  have d0' : w1.cell? ⟨w.heap.size + 1, 0, none⟩ = some (.int .i64 0) := bel_cell g1 (HB.out.2.1 0 _ rfl)
  have d1' : w1.cell? ⟨w.heap.size + 1, 1, none⟩ = some (.slice none 0 0) := bel_cell g1 (HB.out.2.1 1 _ rfl)
  have f0' : w1.frozen? ⟨w.heap.size + 1, 0, none⟩ = false := bel_frozen g1 (HB.out.2.1 0 _ rfl) (HB.out.2.2.2 0)
  have f1' : w1.frozen? ⟨w.heap.size + 1, 1, none⟩ = false := bel_frozen g1 (HB.out.2.1 0 _ rfl) (HB.out.2.2.2 1)
  have G1 := bel_trans G g1
  have L1 := hL.bel G1
  have hne : (Value.slice p m c).ownBlock ≠ some (w.heap.size + 1) := fun e => by have := (hL.lt _ e).2; omega
  clear G g1 HB hL W
  go_wp2_with fail
  have a1 := (Below.refl w1.heap.size w1).alloc (Nat.le_refl _) (.cells #[.int .i64 c0, .int .i64 c1, .int .i64 c2] 228)
  have e0 : (w1.alloc (.cells #[.int .i64 c0, .int .i64 c1, .int .i64 c2] 228)).cell? ⟨w1.heap.size, 0, none⟩ = some (.int .i64 c0) := cell_of_row _ _ _ _ _ _ (heap_alloc_last _ _)
  have e1 : (w1.alloc (.cells #[.int .i64 c0, .int .i64 c1, .int .i64 c2] 228)).cell? ⟨w1.heap.size, 1, none⟩ = some (.int .i64 c1) := cell_of_row _ _ _ _ _ _ (heap_alloc_last _ _)
  have e2 : (w1.alloc (.cells #[.int .i64 c0, .int .i64 c1, .int .i64 c2] 228)).cell? ⟨w1.heap.size, 2, none⟩ = some (.int .i64 c2) := cell_of_row _ _ _ _ _ _ (heap_alloc_last _ _)
  have b0 := bel_cell a1 b0'
  have b1 := bel_cell a1 b1'
  have f0 := bel_frozen a1 d0' f0'
  have f1 := bel_frozen a1 d0' f1'
  have d0 := bel_cell a1 d0'
  have d1 := bel_cell a1 d1'
  have G2 := bel_trans G1 a1
  have L2 := L1.bel a1
  have hq1 : w.heap.size + 1 < w1.heap.size := block_lt_of_cell (a := ⟨w.heap.size + 1, 0, none⟩) d0'
  generalize w1.alloc (.cells #[.int .i64 c0, .int .i64 c1, .int .i64 c2] 228) = V at a1 e0 e1 e2 b0 b1 d0 d1 f0 f1 G2 L2 ⊢
  clear a1 G1 L1 b0' b1' d0' d1' f0' f1' 
  generalize w1.heap.size = q at e0 e1 e2 hq1 ⊢
  clear w1
  have hqz : q ≠ w.heap.size + 1 := by omega
  have lz := block_lt_of_cell (a := ⟨w.heap.size + 1, 0, none⟩) d0
  have lq := block_lt_of_cell (a := ⟨q, 0, none⟩) e0
  have S0 : SH w.heap.size q n (.slice p m c) c0 c1 c2 V V := ⟨b0, b1, e0, e1, e2, by rw [d0]; rfl, by rw [d1]; rfl, f0, f1, ⟨lz, Nat.lt_of_succ_lt lz, lq, hqz⟩, ⟨rfl, rfl, rfl, Nat.le_refl _, fun _ _ _ => rfl⟩⟩
  clear b0 b1 e0 e1 e2 d0 d1 f0 f1 lz lq hqz
  go_region_held3 (fun w' => w'.cell? ⟨w.heap.size, 0, none⟩ = some (.int .i64 n) ∧ w'.cell? ⟨w.heap.size, 1, none⟩ = some (.slice p m c) ∧ w'.cell? ⟨q, 0, none⟩ = some (.int .i64 c0) ∧ w'.cell? ⟨q, 1, none⟩ = some (.int .i64 c1) ∧ w'.cell? ⟨q, 2, none⟩ = some (.int .i64 c2) ∧ SH w.heap.size q n (.slice p m c) c0 c1 c2 V w')
    (first
      | exact (S0.more (Below.refl _ _).drew).all
      | (go_split_ands; exact (SH.more (by assumption) (Below.alloc (Below.refl _ _) (SH.size (by assumption)) _)).all)
      | (go_split_ands; exact (SH.more (by assumption) hbL).all)
      | (go_split_ands; exact (SH.cell (SH.cell (by assumption) _ _) _ _).all))
    (first
      | (go_split_ands; refine step_list rfl _ _ rfl V.heap.size (.slice (some ⟨_, 0, none⟩) 0 0) (.slice p m c) l rfl (by first | exact own_empty (heap_alloc_last _ _) (by simp) | exact own_empty (heap_alloc2_old _ _ _) (by simp) | exact own_empty (heap_alloc2_new _ _ _) (by simp)) rfl (SH.list (by assumption) L2 hne) (by omega) (SH.size (by assumption)) ?_; intro v1 w3 ho1 hbL hkeep)
      | (go_split_ands; refine step_entry rfl _ _ rfl V.heap.size _ l ((c0, c1, c2), v) rfl (by first | exact ho1 | exact ho1.alloc _) _ _ rfl (by first | exact heap_alloc_last _ _ | exact hkeep _ _ (by simp [Value.ownBlock]) (heap_alloc2_old _ _ _) | exact hkeep _ _ (by simp [Value.ownBlock]) (heap_alloc2_new _ _ _)) (by omega) (SH.size (by assumption)) ?_; intro g2 k2 w4 ho2 hbL; obtain ⟨u0, u1, x0, x1, y0, y1⟩ := (SH.more (by assumption) hbL).cells))
  all_goals
    rename_i hH
    have hS := hH.2.2.2.2.2
    clear hH
    have F := only_bel G2 hS.only (Nat.le_succ _)
    have L := entry_at (entry_far (entry_far ho2 hS.lt.1 0 (.int .i64 n)) hS.lt.1 1 (.slice (some ⟨g2, 0, none⟩) (l.length + 1) k2)) G2.size
    clear hS ho1 ho2 hbL
    go_wp2
    refine bodyPost_ret (v := .tuple #[.agg #[.int .i64 n, .slice (some ⟨g2, 0, none⟩) (l.length + 1) k2], .int .i64 0]) ?_ rfl ⟨_, rfl, L, F⟩
    simp [results, Tryz.results64, go_sem, x0, x1]
end Go.Proofs.YtiobgnelhiadbaaGreatDoor.F3
