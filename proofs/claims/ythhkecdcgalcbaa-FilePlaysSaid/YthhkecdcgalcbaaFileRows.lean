/- What Window and Put of package file come to, for any arguments. -/
import Derived.Test.YthhkecdcgalcbaaFileOps
import Derived.Laws.CopyOwn
namespace Go.Proofs.Ythhkecdcgalcbaa
open Go.RowKit
set_option linter.unusedVariables false
/-- Sixteen words as cells. -/
def wl (f : Nat → Int) : List Value := (List.range 16).map fun i => Value.int .u32 (f i)
theorem wl_len (f : Nat → Int) : (wl f).length = 16 := by simp [wl]
theorem wl_get (f : Nat → Int) {i : Nat} (h : i < 16) : (wl f)[i]? = some (.int .u32 (f i)) := by simp [wl, h]
theorem wl_some (f : Nat → Int) {i : Nat} {v : Value} (h : (wl f)[i]? = some v) : i < 16 ∧ v = .int .u32 (f i) := by
  have hi : i < 16 := by have := (List.getElem?_eq_some_iff.1 h).1; rwa [wl_len] at this
  rw [wl_get f hi] at h
  exact ⟨hi, by cases h; rfl⟩
theorem wl_one (f : Nat → Int) : ∀ v ∈ wl f, v.oneCell' = true := by
  intro v hv
  simp only [wl, List.mem_map] at hv
  obtain ⟨i, _, rfl⟩ := hv
  rfl
theorem wl_congr {f g : Nat → Int} (h : ∀ i, i < 16 → f i = g i) : wl f = wl g := by
  unfold wl
  apply List.map_congr_left
  intro i hi
  rw [h i (by simpa using hi)]
/-- Sixteen words of a file's words, replaced. -/
def putF (R : Nat → Int) (o : Nat) (f : Nat → Int) : Nat → Int := fun j => if o ≤ j ∧ j < o + 16 then f (j - o) else R j
theorem wcells_put (m : Nat) (n : Int) (R : Nat → Int) (o : Nat) (f : Nat → Int) (h : o + 16 ≤ m) :
    ((wcells m n R).toList.take (1 + o) ++ (wl f ++ (wcells m n R).toList.drop (1 + o + 16))).toArray = wcells m n (putF R o f) := by
  unfold wcells
  congr 1
  rw [List.toList_toArray, Nat.add_comm 1 o, List.take_succ_cons, show o + 1 + 16 = (o + 16) + 1 by omega, List.drop_succ_cons, List.cons_append]
  congr 1
  apply List.ext_getElem?
  intro j
  by_cases h1 : j < o
  · rw [List.getElem?_append_left (by simp; omega)]
    have hm : j < m := by omega
    have hc : ¬ (o ≤ j ∧ j < o + 16) := by omega
    simp [h1, hm, putF, hc]
  · rw [List.getElem?_append_right (by simp; omega)]
    have e : (List.take o (List.map (fun j => Value.int IntKind.u32 (R j)) (List.range m))).length = o := by simp; omega
    rw [e]
    by_cases h2 : j < o + 16
    · rw [List.getElem?_append_left (by rw [wl_len]; omega), wl_get f (by omega)]
      have hm : j < m := by omega
      have hc : o ≤ j ∧ j < o + 16 := by omega
      simp [hm, putF, hc]
    · rw [List.getElem?_append_right (by rw [wl_len]; omega), wl_len]
      have hc : ¬ (o ≤ j ∧ j < o + 16) := by omega
      by_cases hm : j < m
      · rw [List.getElem?_drop, show o + 16 + (j - o - 16) = j by omega]
        simp [hm, putF, hc]
      · rw [List.getElem?_drop, show o + 16 + (j - o - 16) = j by omega]
        simp [hm]
theorem window_no (p : Option Addr) (x : Int) (w : World) (h : NoFile w p) :
    Calls Try.prog 19 #[.pointer p, .int .i64 x] w fun e w' => e = .returned (.tuple #[.slice none 0 0, .int .i64 1]) ∧ w = w' := by
  go_enter Try.func19, Try.ntmps19
  go_wp2_with fail
  refine (check_no _ _ _ h).mono ?_; rintro e w1 ⟨rfl, rfl⟩
  go_wp2_with fail
  go_ret2
  exact ⟨rfl, rfl⟩
theorem window_bad (b : Nat) (n x : Int) (w : World) (hc : w.cell? ⟨b, 0, none⟩ = some (.int .i64 n)) (hn : 2 ≤ n) (h : x < 0 ∨ n ≤ x) :
    Calls Try.prog 19 #[.pointer (some ⟨b, 0, none⟩), .int .i64 x] w fun e w' => e = .returned (.tuple #[.slice none 0 0, .int .i64 2]) ∧ w = w' := by
  go_enter Try.func19, Try.ntmps19
  go_wp2_with fail
  refine (check_out _ n _ _ hc hn h).mono ?_; rintro e w1 ⟨rfl, rfl⟩
  go_wp2_with fail
  go_ret2
  exact ⟨rfl, rfl⟩
theorem add_at (b o j : Nat) : (⟨b, o, none⟩ : Addr).add j = ⟨b, o + j, none⟩ := by unfold Addr.add; split <;> simp_all
theorem splice_whole (f g : Nat → Int) : splice (wl f) 0 (wl g) = wl g := by simp [splice, wl]
theorem u32_under : Try.prog.underlying 38 = some (.slice 34) := by kernel_rfl
theorem u32_size : (Try.prog.info? 34).map (·.size) = some 1 := by kernel_rfl
set_option maxHeartbeats 1000000 in
theorem window_at (b : Nat) (n x : Int) (R : Nat → Int) (w : World) (hF : FileAt w b n R) (hn : 2 ≤ n) (hn' : n ≤ 32) (h0 : 0 ≤ x) (h1 : x < n) :
    Calls Try.prog 19 #[.pointer (some ⟨b, 0, none⟩), .int .i64 x] w fun e w' => e = .returned (.tuple #[.slice (some ⟨w.heap.size, 0, none⟩) 16 16, .int .i64 0]) ∧ Below w.heap.size w w' ∧ w'.heap[w.heap.size]? = some (.cells (wl fun i => R (x.toNat * 16 + i)).toArray 34 (0, 0)) := by
  have hx : x.toNat < 32 := by omega
  have G : Below w.heap.size w (w.alloc (.cells (wl fun _ => 0).toArray 34)) := (Below.refl _ _).alloc (Nat.le_refl _) _
  have F1 := hF.bel G
  have HS : Hid (∀ j v, (wl fun i => R (x.toNat * 16 + i))[j]? = some v → (w.alloc (.cells (wl fun _ => 0).toArray 34)).cell? ((⟨b, 1 + x.toNat * 16, none⟩ : Addr).add j) = some v) := by
    intro j v hv
    obtain ⟨hj, rfl⟩ := wl_some _ hv
    rw [add_at, show 1 + x.toNat * 16 + j = 1 + (x.toNat * 16 + j) by omega]
    exact F1.reg (by omega)
  go_enter Try.func19, Try.ntmps19
  go_wp2_with fail
  refine (check_in _ n _ _ hF.nw hn h0 h1).mono ?_; rintro e w1 ⟨rfl, rfl⟩
  go_wp2_with (first
    | (refine Great.wpList_allocTo rfl (some 20) rfl (.slice (some ⟨w.heap.size, 0, none⟩) 16 16) (.cells (wl fun _ => 0).toArray 34) (by kernel_rfl) ?_)
    | (refine wpList_copy_splice rfl (.tmp 21) (.tmp 24) 38 38 rfl 34 u32_under u32_size _ _ _ _ _ _ rfl rfl w.heap.size 0 (wl fun _ => 0) 34 (heap_alloc_last _ _) (wl fun i => R (x.toNat * 16 + i)) (wl_len _) (fun _ => ⟨rfl, _, rfl, HS.out⟩) (by rw [wl_len, wl_len]; omega) (wl_one _) w.heap.size w G (Nat.le_refl _) ?_; intro w2 hg2 hb2; rw [splice_whole] at hg2))
  go_ret2
  exact ⟨rfl, hb2, hg2.out⟩
theorem put_no (p : Option Addr) (x : Int) (v : Value) (w : World) (h : NoFile w p) :
    Calls Try.prog 13 #[.pointer p, .int .i64 x, v] w fun e w' => e = .returned (.int .i64 1) ∧ w = w' := by
  go_enter Try.func13, Try.ntmps13
  go_wp2_with fail
  refine (check_no _ _ _ h).mono ?_; rintro e w1 ⟨rfl, rfl⟩
  go_wp2_with fail
  go_ret
  exact ⟨rfl, rfl⟩
theorem put_bad (b : Nat) (n x : Int) (v : Value) (w : World) (hc : w.cell? ⟨b, 0, none⟩ = some (.int .i64 n)) (hn : 2 ≤ n) (h : x < 0 ∨ n ≤ x) :
    Calls Try.prog 13 #[.pointer (some ⟨b, 0, none⟩), .int .i64 x, v] w fun e w' => e = .returned (.int .i64 2) ∧ w = w' := by
  go_enter Try.func13, Try.ntmps13
  go_wp2_with fail
  refine (check_out _ n _ _ hc hn h).mono ?_; rintro e w1 ⟨rfl, rfl⟩
  go_wp2_with fail
  go_ret
  exact ⟨rfl, rfl⟩
theorem put_len (b : Nat) (n x : Int) (p : Option Addr) (m c : Nat) (w : World) (hc : w.cell? ⟨b, 0, none⟩ = some (.int .i64 n)) (hn : 2 ≤ n) (hn' : n ≤ 32) (h0 : 0 ≤ x) (h1 : x < n) (hm : m < 16) :
    Calls Try.prog 13 #[.pointer (some ⟨b, 0, none⟩), .int .i64 x, .slice p m c] w fun e w' => e = .returned (.int .i64 2) ∧ w = w' := by
  have hx : x.toNat < 32 := by omega
  have hb : ((m : Int) != 16) = true := by simp; omega
  go_enter Try.func13, Try.ntmps13
  go_wp2_with fail
  refine (check_in _ n _ _ hc hn h0 h1).mono ?_; rintro e w1 ⟨rfl, rfl⟩
  go_wp2_with fail
  go_ret
  exact ⟨rfl, rfl⟩
set_option maxHeartbeats 1000000 in
theorem put_at (b : Nat) (n x : Int) (R f : Nat → Int) (g c : Nat) (w : World) (hF : FileAt w b n R) (hn : 2 ≤ n) (hn' : n ≤ 32) (h0 : 0 ≤ x) (h1 : x < n)
    (hs : ∀ i, i < 16 → w.cell? ⟨g, i, none⟩ = some (.int .u32 (f i))) :
    Calls Try.prog 13 #[.pointer (some ⟨b, 0, none⟩), .int .i64 x, .slice (some ⟨g, 0, none⟩) 16 c] w fun e w' => e = .returned (.int .i64 0) ∧ w.grownBy w' (some b) ∧ FileAt w' b n (putF R (x.toNat * 16) f) := by
  have hx : x.toNat < 32 := by omega
  have HS : Hid (∀ j v, (wl f)[j]? = some v → w.cell? ((⟨g, 0, none⟩ : Addr).add j) = some v) := by
    intro j v hv
    obtain ⟨hj, rfl⟩ := wl_some _ hv
    rw [add_at, Nat.zero_add]
    exact hs j hj
  clear hs
  have HP : Hid (((fcells n R).toList.take (1 + x.toNat * 16) ++ (wl f ++ (fcells n R).toList.drop (1 + x.toNat * 16 + (wl f).length))).toArray = fcells n (putF R (x.toNat * 16) f)) := by
    rw [wl_len]; exact wcells_put 648 n R _ f (by omega)
  have G : w.grownBy (w.setRow b (fcells n (putF R (x.toNat * 16) f))) (some b) := only_row ⟨rfl, rfl, rfl, Nat.le_refl _, fun _ _ _ => rfl⟩ rfl
  have F : FileAt (w.setRow b (fcells n (putF R (x.toNat * 16) f))) b n (putF R (x.toNat * 16) f) := setRow_heap _ _ _ _ _ _ hF
  go_enter Try.func13, Try.ntmps13
  go_wp2_with fail
  refine (check_in _ n _ _ hF.nw hn h0 h1).mono ?_; rintro e w1 ⟨rfl, rfl⟩
  go_wp2_with (first
    | (refine wpList_copy_own rfl (.tmp 25) (.tmp 26) 38 38 rfl 34 u32_under u32_size b (1 + x.toNat * 16) _ _ _ _ _ rfl rfl (fcells n R) 57 hF (wl f) (wl_len _) HS.out (by rw [wl_len, fcells_size]; omega) (wl_one _) ?_; rw [HP.out]))
  go_ret
  exact ⟨rfl, G, F⟩
end Go.Proofs.Ythhkecdcgalcbaa
