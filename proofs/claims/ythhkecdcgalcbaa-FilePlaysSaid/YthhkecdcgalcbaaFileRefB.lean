/- What the document's At and Get of layer 3 come to, for any arguments. -/
import Derived.Test.YthhkecdcgalcbaaFileRefA
namespace Go.Proofs.Ythhkecdcgalcbaa
open Go.RowKit
set_option linter.unusedVariables false
/-- The cells of an entry; of a list. -/
def ecells (e : Ent) : List Value := [.int .i64 e.1.1, .int .i64 e.1.2.1, .int .i64 e.1.2.2, .int .u32 e.2]
def lcells (l : List Ent) : List Value := l.flatMap ecells
theorem lcells_len : ∀ l : List Ent, (lcells l).length = l.length * 4
  | [] => rfl
  | e :: l => by
    have ih := lcells_len l
    simp only [lcells, List.flatMap_cons, List.length_append, List.length_cons] at ih ⊢
    rw [ih]
    simp [ecells]
    omega
theorem lcells_snoc (l : List Ent) (e : Ent) : lcells (l ++ [e]) = lcells l ++ ecells e := by simp [lcells]
theorem lcells_get : ∀ (l : List Ent) (i : Nat) (e : Ent) (j : Nat), l[i]? = some e → j < 4 → (lcells l)[i * 4 + j]? = (ecells e)[j]?
  | [], i, e, j, h, _ => by simp at h
  | a :: l, 0, e, j, h, hj => by
    simp at h; subst h
    simp only [lcells, List.flatMap_cons]
    rw [List.getElem?_append_left (by simp [ecells]; omega)]
    congr 1; omega
  | a :: l, i + 1, e, j, h, hj => by
    simp at h
    have ih := lcells_get l i e j h hj
    simp only [lcells, List.flatMap_cons] at ih ⊢
    rw [List.getElem?_append_right (by simp [ecells]; omega)]
    rw [show (i + 1) * 4 + j - (ecells a).length = i * 4 + j by simp [ecells]; omega]
    exact ih
theorem lcells_one : ∀ l : List Ent, ∀ v ∈ lcells l, v.oneCell' = true := by
  intro l v hv
  simp only [lcells, List.mem_flatMap] at hv
  obtain ⟨e, _, he⟩ := hv
  simp [ecells] at he
  rcases he with rfl | rfl | rfl | rfl <;> rfl
/-- The slice s holds the list. -/
def LAt (w : World) (s : Value) (l : List Ent) : Prop := w.ownsRow 0 72 4 s l.length (lcells l)
theorem LAt.nil (w : World) : LAt w (.slice none 0 0) [] := World.ownsRow_nil _ _ _ _
theorem LAt.bel {w w' : World} {s : Value} {l : List Ent} (h : LAt w s l) (g : Below w.heap.size w w') : LAt w' s l := by
  cases hs : s.ownBlock with
  | none => exact h.kept (row := none) ⟨g.os, g.tape, g.output, g.size, fun i hi _ => g.block i hi⟩ (.inl hs)
  | some b => exact h.kept (row := none) ⟨g.os, g.tape, g.output, g.size, fun i hi _ => g.block i hi⟩ (.inr (by rw [hs]; simp))
theorem LAt.form {w : World} {s : Value} {l : List Ent} (h : LAt w s l) : ∃ p c, s = .slice p l.length c ∧ (l ≠ [] → ∃ g, p = some ⟨g, 0, none⟩ ∧ ∀ i e, l[i]? = some e →
    w.cell? ⟨g, i * 4, none⟩ = some (.int .i64 e.1.1) ∧ w.cell? ⟨g, i * 4 + 1, none⟩ = some (.int .i64 e.1.2.1) ∧ w.cell? ⟨g, i * 4 + 2, none⟩ = some (.int .i64 e.1.2.2) ∧ w.cell? ⟨g, i * 4 + 3, none⟩ = some (.int .u32 e.2)) := by
  obtain ⟨hl, ⟨rfl, h0⟩ | ⟨g, cap, cur, rfl, _, hg, h1, h2, h3, h4⟩⟩ := h
  · exact ⟨none, 0, by rw [h0], fun hn => absurd (List.eq_nil_of_length_eq_zero h0) hn⟩
  · refine ⟨_, cap, rfl, fun _ => ⟨g, rfl, fun i e he => ?_⟩⟩
    have hi : i < l.length := (List.getElem?_eq_some_iff.1 he).1
    have at' : ∀ j, j < 4 → w.cell? ⟨g, i * 4 + j, none⟩ = (ecells e)[j]? := fun j hj => by
      rw [cell_of_row _ _ _ _ _ _ hg, ← lcells_get l i e j he hj, ← h4, List.getElem?_take_of_lt (by omega)]
      simp
    exact ⟨at' 0 (by omega), at' 1 (by omega), at' 2 (by omega), at' 3 (by omega)⟩
theorem eq_cel (a b c a' b' c' : Int) (W : World) :
    (Op.equalIn 10000 68 (.agg #[.int .i64 a, .int .i64 b, .int .i64 c]) (.agg #[.int .i64 a', .int .i64 b', .int .i64 c'])).run Try.prog W = .ok ((a == a') && (b == b') && (c == c')) W := by
  cases h1 : a == a'
  · go_simp
  cases h2 : b == b'
  · go_simp
  cases h3 : c == c'
  · go_simp
  · go_simp
theorem cel_eq_yes {a b c a' b' c' : Int} (h : ((a, b, c) : Cel) = (a', b', c')) : ((a == a') && (b == b') && (c == c')) = true := by
  simp only [Prod.mk.injEq] at h
  simp [h.1, h.2.1, h.2.2]
theorem cel_eq_no {a b c a' b' c' : Int} (h : ((a, b, c) : Cel) ≠ (a', b', c')) : ((a == a') && (b == b') && (c == c')) = false := by
  cases hs : ((a == a') && (b == b') && (c == c'))
  · rfl
  · refine absurd ?_ h
    simp at hs
    rw [hs.1.1, hs.1.2, hs.2]
theorem atL_g0 {l : List Ent} {c : Cel} (h : c.1 = 0 ∧ c.2.2 = 0) : atL l c = 0 := by unfold atL; rw [if_pos h]
theorem atL_w {l : List Ent} {c : Cel} (h : ¬ (c.1 = 0 ∧ c.2.2 = 0)) : atL l c = lastW l c := by unfold atL; rw [if_neg h]
theorem lastW_take (l : List Ent) (c : Cel) (k : Nat) (e : Ent) (h : l[k]? = some e) : lastW (l.take (k + 1)) c = if e.1 = c then e.2 else lastW (l.take k) c := by
  rw [List.take_add_one, h]
  simp only [Option.toList_some]
  exact lastW_snoc _ _ _
theorem int_eq {a b : Int} (h : a = b) : Ending.returned (.int .u32 a) = Ending.returned (.int .u32 b) := by rw [h]
theorem at_g0 (n k0 k1 k2 : Int) (s : Value) (l : List Ent) (w : World) (h : k0 = 0 ∧ k2 = 0) :
    Calls Try.prog 26 #[.agg #[.int .i64 n, s], .agg #[.int .i64 k0, .int .i64 k1, .int .i64 k2]] w fun e w' => e = .returned (.int .u32 (atL l (k0, k1, k2))) ∧ Below w.heap.size w w' := by
  rw [atL_g0 h]
  obtain ⟨rfl, rfl⟩ := h
  go_enter Try.func26, Try.ntmps26
  go_wp2
  go_ret
  exact ⟨rfl, by go_grown⟩
theorem at_nil (n k0 k1 k2 : Int) (p : Option Addr) (c : Nat) (w : World) (h : ¬ (k0 = 0 ∧ k2 = 0)) :
    Calls Try.prog 26 #[.agg #[.int .i64 n, .slice p 0 c], .agg #[.int .i64 k0, .int .i64 k1, .int .i64 k2]] w fun e w' => e = .returned (.int .u32 0) ∧ Below w.heap.size w w' := by
  by_cases h0 : k0 = 0
  · subst h0
    have h2 : (k2 == 0) = false := by simp; intro e; exact h ⟨rfl, e⟩
    clear h
    go_enter Try.func26, Try.ntmps26
    go_wp2
    go_rounds 1
    all_goals
      go_ret
      exact ⟨rfl, by go_grown⟩
  · have h1 : (k0 == 0) = false := by simpa using h0
    clear h
    go_enter Try.func26, Try.ntmps26
    go_wp2
    go_rounds 1
    all_goals
      go_ret
      exact ⟨rfl, by go_grown⟩
set_option maxHeartbeats 1000000 in
theorem at_more (n k0 k1 k2 : Int) (g c : Nat) (l : List Ent) (w : World) (hl : l.length ≤ 1000) (h : ¬ (k0 = 0 ∧ k2 = 0))
    (hc : ∀ i e, l[i]? = some e → w.cell? ⟨g, i * 4, none⟩ = some (.int .i64 e.1.1) ∧ w.cell? ⟨g, i * 4 + 1, none⟩ = some (.int .i64 e.1.2.1) ∧ w.cell? ⟨g, i * 4 + 2, none⟩ = some (.int .i64 e.1.2.2) ∧ w.cell? ⟨g, i * 4 + 3, none⟩ = some (.int .u32 e.2)) :
    Calls Try.prog 26 #[.agg #[.int .i64 n, .slice (some ⟨g, 0, none⟩) l.length c], .agg #[.int .i64 k0, .int .i64 k1, .int .i64 k2]] w fun e w' => e = .returned (.int .u32 (lastW l (k0, k1, k2))) ∧ Below w.heap.size w w' := by
  have HC := Lib.hid hc
  clear hc
  have G : Below w.heap.size w ((w.alloc (.cells #[.int .i64 n, .slice (some ⟨g, 0, none⟩) l.length c] 29)).alloc (.cells #[.int .i64 k0, .int .i64 k1, .int .i64 k2] 68)) := ((Below.refl _ _).alloc (Nat.le_refl _) _).alloc (by simp) _
  have x1 : ∀ j, ((w.alloc (.cells #[.int .i64 n, .slice (some ⟨g, 0, none⟩) l.length c] 29)).alloc (.cells #[.int .i64 k0, .int .i64 k1, .int .i64 k2] 68)).cell? ⟨w.heap.size, j, none⟩ = (#[.int .i64 n, .slice (some ⟨g, 0, none⟩) l.length c] : Array Value)[j]? := fun j => cell_of_row _ _ _ _ _ _ (heap_alloc2_old w _ _)
  have x2 : ∀ j, ((w.alloc (.cells #[.int .i64 n, .slice (some ⟨g, 0, none⟩) l.length c] 29)).alloc (.cells #[.int .i64 k0, .int .i64 k1, .int .i64 k2] 68)).cell? ⟨w.heap.size + 1, j, none⟩ = (#[.int .i64 k0, .int .i64 k1, .int .i64 k2] : Array Value)[j]? := fun j => cell_of_row _ _ _ _ _ _ (heap_alloc2_new w _ _)
  have HB := Lib.hid (And.intro (x1 1) (And.intro (x2 0) (And.intro (x2 1) (x2 2))))
  clear x1 x2
  have hk : (k0 == 0) = false ∨ ((k0 == 0) = true ∧ (k2 == 0) = false) := by
    by_cases h0 : k0 = 0
    · exact .inr ⟨by simpa using h0, by simp; intro e; exact h ⟨h0, e⟩⟩
    · exact .inl (by simpa using h0)
  clear h
  rcases hk with hk | ⟨hk0, hk⟩
  all_goals
    go_enter Try.func26, Try.ntmps26
    go_wp2
    generalize ((w.alloc (.cells #[.int .i64 n, .slice (some ⟨g, 0, none⟩) l.length c] 29)).alloc (.cells #[.int .i64 k0, .int .i64 k1, .int .i64 k2] 68)) = W at G HB ⊢
    go_loopw [5] (fun i wr => ∃ I : Int, -1 ≤ I ∧ I < l.length ∧ i = .int .i64 I ∧ Hid (lastW l (k0, k1, k2) = lastW (l.take (I + 1).toNat) (k0, k1, k2)) ∧ Below W.heap.size W wr) (fun i _ => (intOf i + 1).toNat)
    case atStart => exact ⟨_, by omega, by omega, rfl, (by show _ = _; rw [show ((l.length : Int) - 1 + 1).toNat = l.length by omega, List.take_length]), Below.refl _ _⟩
    case round =>
      obtain ⟨I, hI, hI', rfl, HL, hg⟩ := hrel
      by_cases hge : 0 ≤ I
      · obtain ⟨j, rfl⟩ : ∃ j : Nat, I = (j : Int) := ⟨I.toNat, by omega⟩
        have hj : j < l.length := by omega
        obtain ⟨e, he⟩ : ∃ e, l[j]? = some e := ⟨l[j], by simp [hj]⟩
        have HT := Lib.hid (lastW_take l (k0, k1, k2) j e he)
        obtain ⟨⟨e0, e1, e2⟩, ew⟩ := e
        have d0 : wr.cell? ⟨g, j * 4, none⟩ = some (.int .i64 e0) := bel_cell (bel_trans G hg) (HC.out j _ he).1
        have d1 : wr.cell? ⟨g, j * 4 + 1, none⟩ = some (.int .i64 e1) := bel_cell (bel_trans G hg) (HC.out j _ he).2.1
        have d2 : wr.cell? ⟨g, j * 4 + 2, none⟩ = some (.int .i64 e2) := bel_cell (bel_trans G hg) (HC.out j _ he).2.2.1
        have d3 : wr.cell? ⟨g, j * 4 + 3, none⟩ = some (.int .u32 ew) := bel_cell (bel_trans G hg) (HC.out j _ he).2.2.2
        have f0 : wr.cell? ⟨w.heap.size, 1, none⟩ = some (.slice (some ⟨g, 0, none⟩) l.length c) := bel_cell hg HB.out.1
        have f1 : wr.cell? ⟨w.heap.size + 1, 0, none⟩ = some (.int .i64 k0) := bel_cell hg HB.out.2.1
        have f2 : wr.cell? ⟨w.heap.size + 1, 1, none⟩ = some (.int .i64 k1) := bel_cell hg HB.out.2.2.1
        have f3 : wr.cell? ⟨w.heap.size + 1, 2, none⟩ = some (.int .i64 k2) := bel_cell hg HB.out.2.2.2
        clear he
        by_cases hEq : ((e0, e1, e2) : Cel) = (k0, k1, k2)
        · have HQ : ∀ W : World, (Op.equalIn 10000 68 (.agg #[.int .i64 e0, .int .i64 e1, .int .i64 e2]) (.agg #[.int .i64 k0, .int .i64 k1, .int .i64 k2])).run Try.prog W = .ok true W := fun W => by rw [eq_cel, cel_eq_yes hEq]
          have HR : Hid (lastW l (k0, k1, k2) = ew) := by
            show _ = _
            rw [HL.out, show ((j : Int) + 1).toNat = j + 1 by omega, HT.out, if_pos hEq]
          clear hEq
          go_wp2
          go_quiet (fail)
          go_wp2
          go_ret
          exact ⟨int_eq HR.out.symm, bel_drewN (bel_trans G hg) _⟩
        · have HQ : ∀ W : World, (Op.equalIn 10000 68 (.agg #[.int .i64 e0, .int .i64 e1, .int .i64 e2]) (.agg #[.int .i64 k0, .int .i64 k1, .int .i64 k2])).run Try.prog W = .ok false W := fun W => by rw [eq_cel, cel_eq_no hEq]
          have HR : Hid (lastW l (k0, k1, k2) = lastW (l.take ((j : Int) - 1 + 1).toNat) (k0, k1, k2)) := by
            show _ = _
            rw [HL.out, show ((j : Int) + 1).toNat = j + 1 by omega, HT.out, if_neg hEq, show ((j : Int) - 1 + 1).toNat = j by omega]
          clear hEq
          go_wp2
          go_quiet (fail)
          go_wp2
          go_roundw
          case rel => exact ⟨(j : Int) - 1, by omega, by omega, rfl, HR, bel_drewN hg _⟩
          case measure => simp [intOf]
      · obtain rfl : I = -1 := by omega
        have HR : Hid (lastW l (k0, k1, k2) = 0) := HL.out
        go_wp2
        go_ret
        exact ⟨int_eq HR.out.symm, bel_trans G hg⟩
/-- What the document's At comes to. -/
theorem at_any (n k0 k1 k2 : Int) (s : Value) (l : List Ent) (w : World) (hl : l.length ≤ 1000) (h : LAt w s l) :
    Calls Try.prog 26 #[.agg #[.int .i64 n, s], .agg #[.int .i64 k0, .int .i64 k1, .int .i64 k2]] w fun e w' => e = .returned (.int .u32 (atL l (k0, k1, k2))) ∧ Below w.heap.size w w' := by
  by_cases h0 : k0 = 0 ∧ k2 = 0
  · exact at_g0 n k0 k1 k2 s l w h0
  · rw [atL_w (by exact h0)]
    obtain ⟨p, c, rfl, hf⟩ := h.form
    by_cases hn : l = []
    · subst hn; exact at_nil n k0 k1 k2 p c w h0
    · obtain ⟨g, rfl, hc⟩ := hf hn
      exact at_more n k0 k1 k2 g c l w hl h0 hc
theorem place_is (n x k r c0 c1 c2 : Int) (s : Value) (w : World) (hn : 2 ≤ n) (hn' : n ≤ 32) (h : Named n x k r) (hp : place n x k r = (c0, c1, c2)) :
    Calls Try.prog 24 #[.agg #[.int .i64 n, s], .int .i64 x, .int .i64 k, .int .i64 r] w fun e w' => e = .returned (.tuple #[.agg #[.int .i64 c0, .int .i64 c1, .int .i64 c2], .int .i64 0]) ∧ Below w.heap.size w w' := by
  have := place_at n x k r s w hn hn' h
  rw [hp] at this
  exact this
theorem refGet_bad (n x k r : Int) (s : Value) (w : World) (h : ¬ Named n x k r) :
    Calls Try.prog 17 #[.agg #[.int .i64 n, s], .int .i64 x, .int .i64 k, .int .i64 r] w fun e w' => e = .returned (.tuple #[.int .u32 0, .int .i64 2]) ∧ Below w.heap.size w w' := by
  have G : Below w.heap.size w (w.alloc (.cells #[.int .i64 n, s] 29)) := (Below.refl _ _).alloc (Nat.le_refl _) _
  go_enter Try.func17, Try.ntmps17
  go_wp2_with fail
  generalize w.alloc (.cells #[.int .i64 n, s] 29) = W at G ⊢
  refine (place_bad n x k r s _ h).mono ?_; unfold celV; rintro e w1 ⟨rfl, g1⟩
  have G1 := bel_trans G g1
  go_wp2_with fail
  go_ret2
  exact ⟨rfl, G1.alloc G1.size _⟩
theorem refGet_at (n x k r : Int) (s : Value) (l : List Ent) (w : World) (hn : 2 ≤ n) (hn' : n ≤ 32) (hl : l.length ≤ 1000) (hL : LAt w s l) (h : Named n x k r) :
    Calls Try.prog 17 #[.agg #[.int .i64 n, s], .int .i64 x, .int .i64 k, .int .i64 r] w fun e w' => e = .returned (.tuple #[.int .u32 (atL l (place n x k r)), .int .i64 0]) ∧ Below w.heap.size w w' := by
  obtain ⟨⟨c0, c1, c2⟩, hp⟩ : ∃ c, place n x k r = c := ⟨_, rfl⟩
  rw [hp]
  have HP := Lib.hid hp
  clear hp
  have G : Below w.heap.size w (w.alloc (.cells #[.int .i64 n, s] 29)) := (Below.refl _ _).alloc (Nat.le_refl _) _
  have b0 : (w.alloc (.cells #[.int .i64 n, s] 29)).cell? ⟨w.heap.size, 0, none⟩ = some (.int .i64 n) := cell_of_row _ _ _ _ _ _ (heap_alloc_last _ _)
  have b1 : (w.alloc (.cells #[.int .i64 n, s] 29)).cell? ⟨w.heap.size, 1, none⟩ = some s := cell_of_row _ _ _ _ _ _ (heap_alloc_last _ _)
  have HB := Lib.hid (And.intro b0 b1)
  clear b0 b1
  go_enter Try.func17, Try.ntmps17
  go_wp2_with fail
  generalize w.alloc (.cells #[.int .i64 n, s] 29) = W at G HB ⊢
  refine (place_is n x k r c0 c1 c2 s _ hn hn' h HP.out).mono ?_; rintro e w1 ⟨rfl, g1⟩
  have f0 := bel_cell g1 HB.out.1
  have f1 := bel_cell g1 HB.out.2
  have hz : w.heap.size < w1.heap.size := block_lt_of_cell (a := ⟨w.heap.size, 0, none⟩) f0
  have G1 := bel_trans G g1
  have G2 := G1.alloc G1.size (.cells #[.int .i64 c0, .int .i64 c1, .int .i64 c2] 68)
  have L2 := hL.bel G2
  go_wp2_with fail
  refine (at_any n c0 c1 c2 s l _ hl L2).mono ?_; rintro e w2 ⟨rfl, g2⟩
  have G3 := bel_trans G2 g2
  go_wp2_with fail
  go_ret2
  exact ⟨rfl, G3⟩
end Go.Proofs.Ythhkecdcgalcbaa
