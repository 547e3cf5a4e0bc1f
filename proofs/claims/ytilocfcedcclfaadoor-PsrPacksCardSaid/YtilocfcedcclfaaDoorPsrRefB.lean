/- The document's answers for layer 4, for any arguments: Wim, Invalid, Resident; when two rows are the same. -/
import Derived.Test.YtilocfcedcclfaaDoorPsrRef
import Derived.Test.YtilocfcedcclfaaDoorPsrRes
namespace Go.Proofs.YtilocfcedcclfaaDoor
open Go.RowKit
set_option linter.unusedVariables false
theorem pw_succ (k : Nat) : 2 * pw k = pw (k + 1) := by unfold pw; rw [Nat.pow_succ]; omega
theorem pw_inj {a b : Nat} (h : pw a = pw b) : a = b := by
  unfold pw at h
  have h' : 2 ^ a = 2 ^ b := by omega
  rcases Nat.lt_trichotomy a b with hh | hh | hh
  · have := Nat.pow_lt_pow_right (a := 2) (by decide) hh; omega
  · exact hh
  · have := Nat.pow_lt_pow_right (a := 2) (by decide) hh; omega
theorem rWim_no (x n : Int) (w : World) (h : ¬ (2 ≤ n ∧ n ≤ 32 ∧ 0 ≤ x ∧ x < n)) : Calls Tryd.prog 17 #[.int .i64 x, .int .i64 n] w fun e w' => e = .returned (.tuple #[.int .u32 0, .int .i64 2]) ∧ w = w' := by
  by_cases hn : 2 ≤ n ∧ n ≤ 32
  · by_cases h0 : x < 0
    · obtain ⟨hn, hn'⟩ := hn
      clear h
      go_enter Tryd.func17, Tryd.ntmps17
      go_wp2_with fail
      refine (rwin_yes n _ hn hn').mono ?_; rintro e w1 ⟨rfl, rfl⟩
      go_wp2_with fail
      go_ret2
      exact ⟨rfl, rfl⟩
    · have h1 : n ≤ x := by omega
      obtain ⟨hn, hn'⟩ := hn
      clear h
      go_enter Tryd.func17, Tryd.ntmps17
      go_wp2_with fail
      refine (rwin_yes n _ hn hn').mono ?_; rintro e w1 ⟨rfl, rfl⟩
      go_wp2_with fail
      go_ret2
      exact ⟨rfl, rfl⟩
  · have H := Lib.hid hn
    clear h hn
    go_enter Tryd.func17, Tryd.ntmps17
    go_wp2_with fail
    refine (rwin_no n _ H.out).mono ?_; rintro e w1 ⟨rfl, rfl⟩
    go_wp2_with fail
    go_ret2
    exact ⟨rfl, rfl⟩
theorem rWim_yes (x : Nat) (n : Int) (w : World) (hn : 2 ≤ n) (hn' : n ≤ 32) (h1 : (x : Int) < n) : Calls Tryd.prog 17 #[.int .i64 x, .int .i64 n] w fun e w' => e = .returned (.tuple #[.int .u32 (pw x), .int .i64 0]) ∧ w = w' := by
  have h2 : ¬ (x : Int) < 0 := by omega
  have h3 : ¬ n ≤ x := by omega
  have hx : (x : Int) < 32 := by omega
  go_enter Tryd.func17, Tryd.ntmps17
  go_wp2_with fail
  refine (rwin_yes n _ hn hn').mono ?_; rintro e w1 ⟨rfl, rfl⟩
  go_wp2_with fail
  go_loop [6, 7] (fun m i => ∃ k : Nat, k ≤ x ∧ i = .int .i64 k ∧ m = .int .u32 (pw k)) (fun _ i => x - (intOf i).toNat)
  case atStart => exact ⟨0, by omega, rfl, rfl⟩
  case round =>
    obtain ⟨k, hk, rfl, rfl⟩ := hrel
    by_cases hlt : k < x
    · have hp := Lib.hid (pw_succ k)
      obtain ⟨p0, p1⟩ := pw_in (x := k) (by omega)
      obtain ⟨q0, q1⟩ := pw_in (x := k + 1) (by omega)
      rw [← pw_succ] at q0 q1
      generalize pw k = u at *
      go_wp2_with fail
      go_round
      case rel => exact ⟨k + 1, by omega, by go_num, by rw [← hp.out]⟩
      case measure => simp [intOf]; omega
    · obtain rfl : k = x := by omega
      go_wp2_with fail
      go_ret2
      exact ⟨rfl, rfl⟩
theorem rInvalid_arg (v n : Int) (w : World) (h : ¬ (2 ≤ n ∧ n ≤ 32)) : Calls Tryd.prog 19 #[.int .u32 v, .int .i64 n] w fun e w' => e = .returned (.tuple #[.int .i64 0, .int .i64 2]) ∧ w = w' := by
  have H := Lib.hid h
  clear h
  go_enter Tryd.func19, Tryd.ntmps19
  go_wp2_with fail
  refine (rwin_no n _ H.out).mono ?_; rintro e w1 ⟨rfl, rfl⟩
  go_wp2_with fail
  go_ret2
  exact ⟨rfl, rfl⟩
theorem rInvalid_yes (x : Nat) (n : Int) (w : World) (hn : 2 ≤ n) (hn' : n ≤ 32) (h1 : (x : Int) < n) : Calls Tryd.prog 19 #[.int .u32 (pw x), .int .i64 n] w fun e w' => e = .returned (.tuple #[.int .i64 x, .int .i64 0]) ∧ w = w' := by
  have hx : (x : Int) < 32 := by omega
  have HE : Hid (∀ k : Nat, k < x → pw k ≠ pw x) := fun k hk e => by have := pw_inj e; omega
  have HP : Hid (∀ k : Nat, 0 ≤ pw k) := fun k => by unfold pw; exact Int.natCast_nonneg _
  go_enter Tryd.func19, Tryd.ntmps19
  go_wp2_with fail
  refine (rwin_yes n _ hn hn').mono ?_; rintro e w1 ⟨rfl, rfl⟩
  go_wp2_with fail
  go_loop [6] (fun i => ∃ k : Nat, k ≤ x ∧ i = .int .i64 k) (fun i => x - (intOf i).toNat)
  case atStart => exact ⟨0, by omega, rfl⟩
  case round =>
    obtain ⟨k, hk, rfl⟩ := hrel
    have hkn : (k : Int) < n := by omega
    have hc := Lib.hid (fun w => rWim_yes k n w hn hn' hkn)
    by_cases hlt : k < x
    · have hne : (pw k == pw x) = false := by simpa using HE.out k hlt
      generalize pw k = u at *
      go_wp2_with fail
      refine (hc.out _).mono ?_; rintro e w1 ⟨rfl, rfl⟩
      go_wp2_with fail
      go_round
      case rel => exact ⟨k + 1, by omega, by go_num⟩
      case measure => simp [intOf]; omega
    · obtain rfl : k = x := by omega
      generalize pw k = u at *
      go_wp2_with fail
      refine (hc.out _).mono ?_; rintro e w1 ⟨rfl, rfl⟩
      go_wp2_with fail
      go_ret2
      exact ⟨rfl, rfl⟩
theorem rInvalid_form (v n : Int) (w : World) (hv : 0 ≤ v ∧ v < 4294967296) (hn : 2 ≤ n) (hn' : n ≤ 32) (h : ∀ x : Nat, (x : Int) < n → v ≠ pw x) : Calls Tryd.prog 19 #[.int .u32 v, .int .i64 n] w fun e w' => e = .returned (.tuple #[.int .i64 0, .int .i64 5]) ∧ w = w' := by
  have HE := Lib.hid h
  clear h
  obtain ⟨hv0, hv1⟩ := hv
  obtain ⟨m, rfl⟩ : ∃ m : Nat, n = m := ⟨n.toNat, by omega⟩
  go_enter Tryd.func19, Tryd.ntmps19
  go_wp2_with fail
  refine (rwin_yes m _ hn hn').mono ?_; rintro e w1 ⟨rfl, rfl⟩
  go_wp2_with fail
  go_loop [6] (fun i => ∃ k : Nat, k ≤ m ∧ i = .int .i64 k) (fun i => m - (intOf i).toNat)
  case atStart => exact ⟨0, by omega, rfl⟩
  case round =>
    obtain ⟨k, hk, rfl⟩ := hrel
    by_cases hlt : k < m
    · have hkn : (k : Int) < m := by omega
      have hc := Lib.hid (fun w => rWim_yes k m w hn hn' hkn)
      have hne : (pw k == v) = false := by have := HE.out k hkn; simp; exact fun e => this e.symm
      generalize pw k = u at *
      go_wp2_with fail
      refine (hc.out _).mono ?_; rintro e w1 ⟨rfl, rfl⟩
      go_wp2_with fail
      go_round
      case rel => exact ⟨k + 1, by omega, by go_num⟩
      case measure => simp [intOf]; omega
    · obtain rfl : k = m := by omega
      go_wp2_with fail
      go_ret2
      exact ⟨rfl, rfl⟩
theorem rResident_arg (x v n : Int) (w : World) (h : ¬ (2 ≤ n ∧ n ≤ 32 ∧ 0 ≤ x ∧ x < n)) : Calls Tryd.prog 21 #[.int .i64 x, .int .u32 v, .int .i64 n] w fun e w' => e = .returned (.tuple #[.slice none 0 0, .int .i64 2]) ∧ w = w' := by
  by_cases hn : 2 ≤ n ∧ n ≤ 32
  · by_cases h0 : x < 0
    · obtain ⟨hn, hn'⟩ := hn
      clear h
      go_enter Tryd.func21, Tryd.ntmps21
      go_wp2_with fail
      refine (rwin_yes n _ hn hn').mono ?_; rintro e w1 ⟨rfl, rfl⟩
      go_wp2_with fail
      go_ret2
      exact ⟨rfl, rfl⟩
    · have h1 : n ≤ x := by omega
      obtain ⟨hn, hn'⟩ := hn
      clear h
      go_enter Tryd.func21, Tryd.ntmps21
      go_wp2_with fail
      refine (rwin_yes n _ hn hn').mono ?_; rintro e w1 ⟨rfl, rfl⟩
      go_wp2_with fail
      go_ret2
      exact ⟨rfl, rfl⟩
  · have H := Lib.hid hn
    clear h hn
    go_enter Tryd.func21, Tryd.ntmps21
    go_wp2_with fail
    refine (rwin_no n _ H.out).mono ?_; rintro e w1 ⟨rfl, rfl⟩
    go_wp2_with fail
    go_ret2
    exact ⟨rfl, rfl⟩
theorem rResident_form (x v n : Int) (w : World) (hv : 0 ≤ v ∧ v < 4294967296) (hn : 2 ≤ n) (hn' : n ≤ 32) (h0 : 0 ≤ x) (h1 : x < n) (h : ∀ y : Nat, (y : Int) < n → v ≠ pw y) :
    Calls Tryd.prog 21 #[.int .i64 x, .int .u32 v, .int .i64 n] w fun e w' => e = .returned (.tuple #[.slice none 0 0, .int .i64 5]) ∧ w = w' := by
  have H := Lib.hid h
  clear h
  have h2 : ¬ x < 0 := by omega
  have h3 : ¬ n ≤ x := by omega
  go_enter Tryd.func21, Tryd.ntmps21
  go_wp2_with fail
  refine (rwin_yes n _ hn hn').mono ?_; rintro e w1 ⟨rfl, rfl⟩
  go_wp2_with fail
  refine (rInvalid_form v n _ hv hn hn' H.out).mono ?_; rintro e w2 ⟨rfl, rfl⟩
  go_wp2_with fail
  go_ret2
  exact ⟨rfl, rfl⟩
set_option maxHeartbeats 1000000 in
theorem rResident_yes (x n : Int) (y : Nat) (w : World) (hn : 2 ≤ n) (hn' : n ≤ 32) (h0 : 0 ≤ x) (h1 : x < n) (hy : (y : Int) < n) :
    Calls Tryd.prog 21 #[.int .i64 x, .int .u32 (pw y), .int .i64 n] w fun e w' => ∃ s, e = .returned (.tuple #[s, .int .i64 0]) ∧ Row w' w.heap.size s x n (dist x y n).toNat ∧ Below w.heap.size w w' := by
  have hd := dist_in ⟨h0, h1⟩ ⟨Int.natCast_nonneg y, hy⟩
  obtain ⟨d, hdd⟩ : ∃ d : Nat, dist x y n = d := ⟨(dist x y n).toNat, by omega⟩
  have HW : Hid (∀ k : Nat, k ≤ d → (win x n k = y ↔ k = d)) := fun k hk => (win_eq ⟨h0, h1⟩ ⟨Int.natCast_nonneg y, hy⟩ (by omega)).trans (by omega)
  have HI : Hid (∀ k : Nat, 0 ≤ win x n k ∧ win x n k < n) := fun k => win_in (by omega) k
  have HZ := Lib.hid (win_zero ⟨h0, h1⟩)
  rw [hdd, Int.toNat_natCast]
  have hdn : (d : Int) < 32 := by omega
  clear hdd hd
  obtain ⟨i0, hi, hz0, hz1, hz2⟩ := info_parts int_parts
  have HV := Lib.hid (fun W => rInvalid_yes y n W hn hn' hy)
  have h2 : ¬ x < 0 := by omega
  have h3 : ¬ n ≤ x := by omega
  generalize pw y = v at *
  go_enter Tryd.func21, Tryd.ntmps21
  go_wp2_with fail
  refine (rwin_yes n _ hn hn').mono ?_; rintro e w1 ⟨rfl, rfl⟩
  go_wp2_with fail
  refine (HV.out _).mono ?_; rintro e w2 ⟨rfl, rfl⟩
  clear HV
  go_wp2_with fail
  go_loopw [0, 10] (fun i s wr => ∃ k : Nat, k ≤ d ∧ i = .int .i64 (win x n k) ∧ wr.ownsRow w.heap.size 3 1 s k (rl x n k) ∧ Below w.heap.size w wr) (fun _ s _ => d - lenOf s)
  case atStart => exact ⟨0, by omega, by rw [HZ.out], World.ownsRow_nil _ _ _ _, Below.refl _ _⟩
  case round =>
    obtain ⟨k, hk, rfl, hown, hg⟩ := hrel
    have hlen := Lib.hid (own_len hown)
    have hu0 := (HI.out k).1
    have hu1 := (HI.out k).2
    have hs1 := Lib.hid (win_succ x n k)
    by_cases hlt : k < d
    · have hne : (win x n k != y) = true := by have := HW.out k hk; simp; omega
      have hsz := hg.size
      have hrl := Lib.hid (rl_succ x n k)
      generalize win x n k = u at *
      have hk32 : k < 32 := by omega
      go_wp2_with (at_builtin; refine wpList_append_own _ rfl _ _ 45 rfl w.heap.size 3 i0 (.int .i64 0) 1 8 int_under hi hz0 hz1 hz2 rfl (by decide) _ _ _ rfl (hown.alloc _) ⟨wr.heap.size, 0, none⟩ 1 1 [.int .i64 u] rfl rfl (one_new _ _ _) (fun x hx => by simp at hx; subst hx; rfl) (by unfold maxLen; omega) (by omega) (by simp; omega) ?_; intro s' w3 hown' hgrow hnil
                   have X : Hid (w3.ownsRow w.heap.size 3 1 s' (k + 1) (rl x n (k + 1)) ∧ Below w.heap.size w w3) := ⟨by rw [hrl.out]; exact hown', Below.grown (hg.alloc (by omega) _) hgrow (by simp; omega) (fun j hj => (hown.lt _ hj).1)⟩
                   clear hown' hgrow hnil)
      go_roundw
      case rel => exact ⟨k + 1, by omega, by rw [← hs1.out], X.out.1, X.out.2⟩
      case measure =>
        have h1 := own_len X.out.1
        have h2 := hlen.out
        simp
        omega
    · obtain rfl : k = d := by omega
      rw [(HW.out k hk).2 rfl]
      go_wp2_with fail
      go_ret2
      exact ⟨_, rfl, hown, hg⟩
/-! Two rows that are the same. -/
def Ints (w : World) (s : Value) (m : Nat) (f : Nat → Int) : Prop := ∃ p c, s = .slice p m c ∧ (0 < m → ∃ b, p = some ⟨b, 0, none⟩ ∧ ∀ i, i < m → w.cell? ⟨b, i, none⟩ = some (.int .i64 (f i)))
theorem Ints.bel {w w' : World} {s : Value} {m : Nat} {f : Nat → Int} (h : Ints w s m f) (g : Below w.heap.size w w') : Ints w' s m f := by
  obtain ⟨p, c, rfl, h⟩ := h
  exact ⟨p, c, rfl, fun hm => by obtain ⟨b, rfl, hc⟩ := h hm; exact ⟨b, rfl, fun i hi => bel_cell g (hc i hi)⟩⟩
theorem row_ints {w : World} {B m : Nat} {s : Value} {x n : Int} (h : Row w B s x n m) : Ints w s m (win x n) := by
  obtain ⟨_, h | ⟨g, cap, cur, rfl, hB, hg, h1, h2, h3, h4⟩⟩ := h
  · obtain ⟨rfl, rfl⟩ := h; exact ⟨none, 0, rfl, fun h => absurd h (by decide)⟩
  · refine ⟨_, cap, rfl, fun _ => ⟨g, rfl, fun i hi => ?_⟩⟩
    rw [cell_of_row _ _ _ _ _ _ hg]
    have := rl_get x n m i hi
    rw [← h4, List.getElem?_take_of_lt (by omega)] at this
    simpa using this
set_option maxHeartbeats 1000000 in
theorem ints_same (s t : Value) (m : Nat) (f g : Nat → Int) (w : World) (hm : m ≤ 32) (h1 : Ints w s m f) (h2 : Ints w t m g) (he : ∀ i, i < m → f i = g i) :
    Calls Tryd.prog 22 #[s, t] w fun e w' => e = .returned (.bool true) ∧ Below w.heap.size w w' := by
  obtain ⟨p, c, rfl, h1⟩ := h1
  obtain ⟨q, d, rfl, h2⟩ := h2
  have H1 := Lib.hid h1
  have H2 := Lib.hid h2
  have HE := Lib.hid he
  clear h1 h2 he
  go_enter Tryd.func22, Tryd.ntmps22
  go_wp2
  go_loopw [5] (fun i wr => ∃ k : Nat, k ≤ m ∧ i = .int .i64 k ∧ Below w.heap.size w wr) (fun i _ => m - (intOf i).toNat)
  case atStart => exact ⟨0, by omega, rfl, Below.refl _ _⟩
  case round =>
    obtain ⟨k, hk, rfl, hg⟩ := hrel
    by_cases hlt : k < m
    · obtain ⟨a, rfl, ha⟩ := H1.out (by omega)
      obtain ⟨b, rfl, hb⟩ := H2.out (by omega)
      have ca := bel_cell hg (ha k hlt)
      have cb := bel_cell hg (hb k hlt)
      rw [← HE.out k hlt] at cb
      have hk32 : k < 32 := by omega
      clear ha hb H1 H2
      go_wp2
      go_quiet (fail)
      go_wp2
      go_roundw
      case rel => exact ⟨k + 1, by omega, by go_num, bel_drewN hg _⟩
      case measure => simp [intOf]; omega
    · obtain rfl : k = m := by omega
      go_wp2
      go_ret
      exact ⟨rfl, hg⟩
end Go.Proofs.YtilocfcedcclfaaDoor
