/- The words that layer 3's statements put, and when two rows of words are the same. -/
import Derived.Test.YthhkecdcgalcbaaFileRows
import Derived.OwnWalk
import Derived.Laws.AppendOwn
import Derived.IntWalk
namespace Go.Proofs.Ythhkecdcgalcbaa
open Go.RowKit
set_option linter.unusedVariables false
theorem bel_drewN {B : Nat} {a w : World} (h : Below B a w) (n : Nat) : Below B a (w.drewN n) := ⟨h.os, h.tape, h.output, h.size, h.block⟩
/-- The words: one by one seven more, all around. -/
def wd (v : Int) (i : Nat) : Int := (v + (i : Int) * 7) % 4294967296
def ws (v : Int) (m : Nat) : List Value := (List.range m).map fun i => Value.int .u32 (wd v i)
theorem ws_succ (v : Int) (m : Nat) : ws v (m + 1) = ws v m ++ [.int .u32 (wd v m)] := by simp [ws, List.range_succ]
theorem ws_get (v : Int) (m i : Nat) (h : i < m) : (ws v m)[i]? = some (.int .u32 (wd v i)) := by simp [ws, h]
theorem ws_len (v : Int) (m : Nat) : (ws v m).length = m := by simp [ws]
theorem one_new (w : World) (x : Value) (t : TypeId) : ∀ j u, [x][j]? = some u → (w.alloc (.cells #[x] t)).cell? ((⟨w.heap.size, 0, none⟩ : Addr).add j) = some u := by
  intro j u h
  cases j with
  | zero => rw [add_at, cell_of_row _ _ _ _ _ _ (heap_alloc_last _ _)]; simpa using h
  | succ j => simp at h
theorem only_none {w w' : World} {s : Value} {B : Nat} {a : World} (h : Below B a w) (k : w.grownBy w' s.ownBlock) (hB : B ≤ w.heap.size) (hs : ∀ j, s.ownBlock = some j → B ≤ j) : Below B a w' := h.grown k hB hs
theorem u32_parts : (Try.prog.info? 34).map (fun i => (i.zero, i.size, i.bytes)) = some (some (.int .u32 0), 1, 4) := by kernel_rfl
set_option maxHeartbeats 1000000 in
theorem words_any (v : Int) (m : Nat) (w : World) (hv : 0 ≤ v) (hv' : v < 4294967296) (hm : m ≤ 16) :
    Calls Try.prog 12 #[.int .u32 v, .int .i64 m] w fun e w' => ∃ s, e = .returned s ∧ w'.ownsRow w.heap.size 34 1 s m (ws v m) ∧ Below w.heap.size w w' := by
  obtain ⟨i0, hi, hz0, hz1, hz2⟩ := info_parts u32_parts
  go_enter Try.func12, Try.ntmps12
  go_wp2
  go_loopw [5, 6] (fun s i wr => ∃ k : Nat, k ≤ m ∧ i = .int .i64 k ∧ wr.ownsRow w.heap.size 34 1 s k (ws v k) ∧ Below w.heap.size w wr) (fun _ i _ => m - (intOf i).toNat)
  case atStart => exact ⟨0, by omega, rfl, World.ownsRow_nil _ _ _ _, Below.refl _ _⟩
  case round =>
    obtain ⟨k, hk, rfl, hown, hg⟩ := hrel
    by_cases hlt : k < m
    · have hk16 : k < 16 := by omega
      have hsz := hg.size
      go_wp2_with (at_builtin; refine wpList_append_own _ rfl _ _ 38 rfl w.heap.size 34 i0 (.int .u32 0) 1 4 u32_under hi hz0 hz1 hz2 rfl (by decide) _ _ _ rfl (hown.alloc _) ⟨wr.heap.size, 0, none⟩ 1 1 [.int .u32 ((v + (k : Int) * 7) % 4294967296)] rfl rfl (one_new _ _ _) (fun x hx => by simp at hx; subst hx; rfl) (by unfold maxLen; omega) (by omega) (by simp; omega) ?_; intro s' w3 hown' hgrow hnil
                   have X : Hid (w3.ownsRow w.heap.size 34 1 s' (k + 1) (ws v (k + 1)) ∧ Below w.heap.size w w3) := ⟨by rw [ws_succ]; exact hown', Below.grown (hg.alloc (by omega) _) hgrow (by simp; omega) (fun j hj => (hown.lt _ hj).1)⟩
                   clear hown' hgrow hnil)
      go_roundw
      case rel => exact ⟨k + 1, by omega, by go_num, X.out.1, X.out.2⟩
      case measure => simp [intOf]; omega
    · obtain rfl : k = m := by omega
      go_wp2
      go_ret
      exact ⟨_, rfl, hown, hg⟩
/-- The form of a row of words. -/
theorem words_form {w : World} {B m : Nat} {s : Value} {v : Int} (h : w.ownsRow B 34 1 s m (ws v m)) (hm : 0 < m) : ∃ g c, s = .slice (some ⟨g, 0, none⟩) m c ∧ B ≤ g ∧ ∀ i, i < m → w.cell? ⟨g, i, none⟩ = some (.int .u32 (wd v i)) := by
  obtain ⟨_, h | ⟨g, cap, cur, rfl, hB, hg, h1, h2, h3, h4⟩⟩ := h
  · omega
  · refine ⟨g, cap, rfl, hB, fun i hi => ?_⟩
    rw [cell_of_row _ _ _ _ _ _ hg]
    have := ws_get v m i hi
    rw [← h4, List.getElem?_take_of_lt (by omega)] at this
    simpa using this
set_option maxHeartbeats 1000000 in
/-- Two rows of words are the same. -/
theorem same_yes (p q : Option Addr) (m c d : Nat) (f : Nat → Int) (w : World) (hm : m ≤ 16)
    (h1 : ∃ b, p = some ⟨b, 0, none⟩ ∧ ∀ i, i < m → w.cell? ⟨b, i, none⟩ = some (.int .u32 (f i))) (h2 : ∃ b, q = some ⟨b, 0, none⟩ ∧ ∀ i, i < m → w.cell? ⟨b, i, none⟩ = some (.int .u32 (f i))) :
    Calls Try.prog 21 #[.slice p m c, .slice q m d] w fun e w' => e = .returned (.bool true) ∧ Below w.heap.size w w' := by
  obtain ⟨b1, rfl, h1⟩ := h1
  obtain ⟨b2, rfl, h2⟩ := h2
  have H1 := Lib.hid h1
  have H2 := Lib.hid h2
  clear h1 h2
  go_enter Try.func21, Try.ntmps21
  go_wp2
  go_loopw [5] (fun i wr => ∃ k : Nat, k ≤ m ∧ i = .int .i64 k ∧ Below w.heap.size w wr) (fun i _ => m - (intOf i).toNat)
  case atStart => exact ⟨0, by omega, rfl, Below.refl _ _⟩
  case round =>
    obtain ⟨k, hk, rfl, hg⟩ := hrel
    by_cases hlt : k < m
    · have c1 := bel_cell hg (H1.out k hlt)
      have c2 := bel_cell hg (H2.out k hlt)
      go_wp2
      go_quiet (fail)
      go_wp2
      go_roundw
      case rel => exact ⟨k + 1, by omega, by go_num, bel_drewN hg _⟩
      case measure => simp [intOf]; omega
    · go_wp2
      go_ret
      exact ⟨rfl, hg⟩
end Go.Proofs.Ythhkecdcgalcbaa
