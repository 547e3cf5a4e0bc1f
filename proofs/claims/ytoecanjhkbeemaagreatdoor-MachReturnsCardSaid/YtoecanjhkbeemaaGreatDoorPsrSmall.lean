/- What the small functions of package psr come to: whether numbers are in their bounds, windows, the library's two counts of bits. -/
import Derived.Test.YtoecanjhkbeemaaGreatDoorBel
import Derived.Test.YtoecanjhkbeemaaGreatDoorPsrMath
import Derived.Deep.RegionWith
import Derived.BigQuiet
import Derived.IntWalk
import Derived.Deep.QuietTactic
import Derived.Deep.RegionHeld3
import Derived.Deep.DeepCutAuto
namespace Go.Proofs.YtoecanjhkbeemaaGreatDoor.P4
open Go.RowKit
set_option linter.unusedVariables false
theorem windows_any (n : Int) (w : World) : Calls Tryz.prog 148 #[.int .i64 n] w fun e w' => e = .returned (.agg #[.int .i64 n, .int .i64 2, .int .i64 33]) ∧ Below w.heap.size w w' := by
  go_enter Tryz.func148, Tryz.ntmps148
  go_wp2
  exact bodyPost_ret (v := .agg #[.int .i64 n, .int .i64 2, .int .i64 33]) (by simp [results, Tryz.results148, go_sem]) rfl ⟨rfl, by go_grown⟩
theorem below_any (n m : Int) (w : World) : Calls Tryz.prog 189 #[.int .i64 n, .int .i64 m] w fun e w' => e = .returned (.agg #[.int .i64 n, .int .i64 0, .int .i64 m]) ∧ Below w.heap.size w w' := by
  go_enter Tryz.func189, Tryz.ntmps189
  go_wp2
  exact bodyPost_ret (v := .agg #[.int .i64 n, .int .i64 0, .int .i64 m]) (by simp [results, Tryz.results189, go_sem]) rfl ⟨rfl, by go_grown⟩
theorem after_any (x n : Int) (w : World) (h0 : 0 ≤ x) (h1 : x < n) (hn : n ≤ 32) : Calls Tryz.prog 226 #[.int .i64 x, .int .i64 n] w fun e w' => e = .returned (.int .i64 ((x + 1) % n)) ∧ w = w' := by
  go_enter Tryz.func226, Tryz.ntmps226
  go_wp2
  go_ret
  exact ⟨rfl, rfl⟩
/-- The numbers that are asked after, row by row: the number, its least, its end. -/
def Nums (w : World) (B m : Nat) (N L E : Nat → Int) : Prop := ∀ i, i < m → w.cell? ⟨B, i * 3, none⟩ = some (.int .i64 (N i)) ∧ w.cell? ⟨B, i * 3 + 1, none⟩ = some (.int .i64 (L i)) ∧ w.cell? ⟨B, i * 3 + 2, none⟩ = some (.int .i64 (E i))
theorem Nums.bel {w w' : World} {B m : Nat} {N L E : Nat → Int} (h : Nums w B m N L E) (g : Below w.heap.size w w') : Nums w' B m N L E := fun i hi =>
  ⟨bel_cell g (h i hi).1, bel_cell g (h i hi).2.1, bel_cell g (h i hi).2.2⟩
set_option maxHeartbeats 1000000 in
theorem valid_yes (B m c : Nat) (N L E : Nat → Int) (w : World) (hm : m ≤ 5) (h : Nums w B m N L E) (hk : ∀ i, i < m → L i ≤ N i ∧ N i < E i) :
    Calls Tryz.prog 147 #[.slice (some ⟨B, 0, none⟩) m c] w fun e w' => e = .returned (.bool true) ∧ Below w.heap.size w w' := by
  have HN := Lib.hid h
  have HK := Lib.hid hk
  clear h hk
  go_enter Tryz.func147, Tryz.ntmps147
  go_wp2
  go_loopw [7] (fun i wr => ∃ k : Nat, k ≤ m ∧ i = .int .i64 k ∧ Below w.heap.size w wr) (fun i _ => m - (intOf i).toNat)
  case atStart => exact ⟨0, by omega, rfl, Below.refl _ _⟩
  case round =>
    obtain ⟨k, hkm, rfl, hg⟩ := hrel
    by_cases hlt : k < m
    · have h5 : k < 5 := by omega
      obtain ⟨c0, c1, c2⟩ := (HN.out.bel hg) k hlt
      obtain ⟨l0, l1⟩ := HK.out k hlt
      have n0 : ¬ N k < L k := by omega
      have n1 : ¬ E k ≤ N k := by omega
      go_wp2
      go_roundw
      case rel => exact ⟨k + 1, by omega, by go_num, bel_trans hg (by go_grown)⟩
      case measure => simp [intOf]; omega
    · obtain rfl : k = m := by omega
      go_wp2
      go_ret
      exact ⟨rfl, hg⟩
set_option maxHeartbeats 1000000 in
theorem valid_no (B m c : Nat) (N L E : Nat → Int) (w : World) (hm : m ≤ 5) (h : Nums w B m N L E) (q : Nat) (hq : q < m) (hk : ∀ i, i < q → L i ≤ N i ∧ N i < E i) (hn : N q < L q ∨ E q ≤ N q) :
    Calls Tryz.prog 147 #[.slice (some ⟨B, 0, none⟩) m c] w fun e w' => e = .returned (.bool false) ∧ Below w.heap.size w w' := by
  have HN := Lib.hid h
  have HK := Lib.hid hk
  clear h hk
  go_enter Tryz.func147, Tryz.ntmps147
  go_wp2
  go_loopw [7] (fun i wr => ∃ k : Nat, k ≤ q ∧ i = .int .i64 k ∧ Below w.heap.size w wr) (fun i _ => m - (intOf i).toNat)
  case atStart => exact ⟨0, by omega, rfl, Below.refl _ _⟩
  case round =>
    obtain ⟨k, hkm, rfl, hg⟩ := hrel
    have h5 : k < 5 := by omega
    have hlm : k < m := by omega
    obtain ⟨c0, c1, c2⟩ := (HN.out.bel hg) k hlm
    by_cases hlt : k < q
    · obtain ⟨l0, l1⟩ := HK.out k hlt
      have n0 : ¬ N k < L k := by omega
      have n1 : ¬ E k ≤ N k := by omega
      go_wp2
      go_roundw
      case rel => exact ⟨k + 1, by omega, by go_num, bel_trans hg (by go_grown)⟩
      case measure => simp [intOf]; omega
    · obtain rfl : k = q := by omega
      by_cases n0 : N k < L k
      · go_wp2
        go_ret
        exact ⟨rfl, bel_trans hg (by go_grown)⟩
      · have n1 : E k ≤ N k := by omega
        go_wp2
        go_ret
        exact ⟨rfl, bel_trans hg (by go_grown)⟩
theorem first_bad {p : Nat → Prop} : ∀ {m : Nat}, (¬ ∀ i, i < m → p i) → ∃ q, q < m ∧ (∀ i, i < q → p i) ∧ ¬ p q
  | 0, h => absurd (fun i hi => by omega) h
  | m + 1, h => by
    by_cases hm : ∀ i, i < m → p i
    · exact ⟨m, by omega, hm, fun hp => h fun i hi => (Nat.lt_or_eq_of_le (Nat.le_of_lt_succ hi)).elim (hm i) (fun e => e ▸ hp)⟩
    · obtain ⟨q, h1, h2, h3⟩ := first_bad hm
      exact ⟨q, by omega, h2, h3⟩
theorem valid_not (B m c : Nat) (N L E : Nat → Int) (w : World) (hm : m ≤ 5) (h : Nums w B m N L E) (hn : ¬ ∀ i, i < m → L i ≤ N i ∧ N i < E i) :
    Calls Tryz.prog 147 #[.slice (some ⟨B, 0, none⟩) m c] w fun e w' => e = .returned (.bool false) ∧ Below w.heap.size w w' := by
  obtain ⟨q, h1, h2, h3⟩ := first_bad hn
  exact valid_no B m c N L E w hm h q h1 h2 (by omega)
/-! Whether a window exists; whether a state is one. -/
theorem nums_new {w : World} {A : Array Value} {t : TypeId} {m : Nat} {N L E : Nat → Int} (h : ∀ i, i < m → A[i * 3]? = some (.int .i64 (N i)) ∧ A[i * 3 + 1]? = some (.int .i64 (L i)) ∧ A[i * 3 + 2]? = some (.int .i64 (E i))) : Nums (w.alloc (.cells A t)) w.heap.size m N L E :=
  fun i hi => ⟨row_cell (row_born rfl) (h i hi).1, row_cell (row_born rfl) (h i hi).2.1, row_cell (row_born rfl) (h i hi).2.2⟩
def at2 (a b : Int) : Nat → Int := fun i => match i with | 0 => a | _ => b
def at5 (a b c d e : Int) : Nat → Int := fun i => match i with | 0 => a | 1 => b | 2 => c | 3 => d | _ => e
theorem nums1 (w : World) (n : Int) (t : TypeId) : Nums (w.alloc (.cells #[.int .i64 n, .int .i64 2, .int .i64 33] t)) w.heap.size 1 (fun _ => n) (fun _ => 2) (fun _ => 33) :=
  nums_new fun i hi => by
    obtain rfl : i = 0 := by omega
    exact ⟨rfl, rfl, rfl⟩
theorem nums2 (w : World) (x n : Int) (t : TypeId) : Nums (w.alloc (.cells #[.int .i64 n, .int .i64 2, .int .i64 33, .int .i64 x, .int .i64 0, .int .i64 n] t)) w.heap.size 2 (at2 n x) (at2 2 0) (at2 33 n) :=
  nums_new fun i hi => by
    match i, hi with
    | 0, _ => exact ⟨rfl, rfl, rfl⟩
    | 1, _ => exact ⟨rfl, rfl, rfl⟩
theorem nums5 (w : World) (n a b c d : Int) (t : TypeId) : Nums (w.alloc (.cells #[.int .i64 n, .int .i64 2, .int .i64 33, .int .i64 a, .int .i64 0, .int .i64 n, .int .i64 b, .int .i64 0, .int .i64 16, .int .i64 c, .int .i64 0, .int .i64 17, .int .i64 d, .int .i64 0, .int .i64 16] t)) w.heap.size 5 (at5 n a b c d) (at5 2 0 0 0 0) (at5 33 n 16 17 16) :=
  nums_new fun i hi => by
    match i, hi with
    | 0, _ => exact ⟨rfl, rfl, rfl⟩
    | 1, _ => exact ⟨rfl, rfl, rfl⟩
    | 2, _ => exact ⟨rfl, rfl, rfl⟩
    | 3, _ => exact ⟨rfl, rfl, rfl⟩
    | 4, _ => exact ⟨rfl, rfl, rfl⟩
theorem isWindow_yes (x n : Int) (w : World) (hn : 2 ≤ n) (hn' : n ≤ 32) (h0 : 0 ≤ x) (h1 : x < n) : Calls Tryz.prog 144 #[.int .i64 x, .int .i64 n] w fun e w' => e = .returned (.bool true) ∧ Below w.heap.size w w' := by
  go_enter Tryz.func144, Tryz.ntmps144
  go_wp2_with fail
  refine (windows_any _ _).mono ?_; rintro e w1 ⟨rfl, g1⟩
  go_wp2_with fail
  refine (below_any _ _ _).mono ?_; rintro e w2 ⟨rfl, g2⟩
  go_wp2_with fail
  refine (valid_yes _ 2 _ _ _ _ _ (by decide) (nums2 w2 x n _) (fun i hi => by match i, hi with | 0, _ => exact ⟨hn, by simp only [at2]; omega⟩ | 1, _ => exact ⟨h0, h1⟩)).mono ?_; rintro e w3 ⟨rfl, g3⟩
  go_wp2_with fail
  go_ret
  exact ⟨rfl, bel_trans (bel_trans (bel_trans g1 g2) ((Below.refl _ _).alloc (Nat.le_refl _) _)) g3⟩
theorem isWindow_no (x n : Int) (w : World) (h : ¬ (2 ≤ n ∧ n ≤ 32 ∧ 0 ≤ x ∧ x < n)) : Calls Tryz.prog 144 #[.int .i64 x, .int .i64 n] w fun e w' => e = .returned (.bool false) ∧ Below w.heap.size w w' := by
  have H := Lib.hid h
  clear h
  go_enter Tryz.func144, Tryz.ntmps144
  go_wp2_with fail
  refine (windows_any _ _).mono ?_; rintro e w1 ⟨rfl, g1⟩
  go_wp2_with fail
  refine (below_any _ _ _).mono ?_; rintro e w2 ⟨rfl, g2⟩
  go_wp2_with fail
  refine (valid_not _ 2 _ _ _ _ _ (by decide) (nums2 w2 x n _) (fun hh => H.out (by
    obtain ⟨a0, a1⟩ := hh 0 (by decide)
    obtain ⟨b0, b1⟩ := hh 1 (by decide)
    simp only [at2] at a0 a1 b0 b1
    exact ⟨a0, by omega, b0, b1⟩))).mono ?_; rintro e w3 ⟨rfl, g3⟩
  go_wp2_with fail
  go_ret
  exact ⟨rfl, bel_trans (bel_trans (bel_trans g1 g2) ((Below.refl _ _).alloc (Nat.le_refl _) _)) g3⟩
/-- The states of a machine of n windows. -/
def State (a b c d n : Int) : Prop := 2 ≤ n ∧ n ≤ 32 ∧ a < n ∧ b ≤ 15 ∧ c ≤ 16 ∧ d ≤ 15
def Byte (x : Int) : Prop := 0 ≤ x ∧ x < 256
/-- What stands while a state is asked after: its own block; of what was there nothing has turned. -/
structure SB (w : World) (z : Nat) (A : Array Value) (t : TypeId) (W : World) : Prop where
  row : W.heap[z]? = some (.cells A t (0, 0))
  bel : Below w.heap.size w W
theorem SB.more {w : World} {z : Nat} {A : Array Value} {t : TypeId} {W W' : World} (h : SB w z A t W) (g : Below W.heap.size W W') : SB w z A t W' := ⟨bel_heap g h.row, bel_trans h.bel g⟩
theorem SB.all4 {w : World} {z : Nat} {a b c d : Value} {t : TypeId} {W : World} (h : SB w z #[a, b, c, d] t W) : W.cell? ⟨z, 0, none⟩ = some a ∧ W.cell? ⟨z, 1, none⟩ = some b ∧ W.cell? ⟨z, 2, none⟩ = some c ∧ W.cell? ⟨z, 3, none⟩ = some d ∧ SB w z #[a, b, c, d] t W :=
  ⟨row_cell h.row rfl, row_cell h.row rfl, row_cell h.row rfl, row_cell h.row rfl, h⟩
theorem bel_size {W w' : World} {A : Array Value} {t : TypeId} (h : Below (W.heap.size + 1) (W.alloc (.cells A t)) w') : Below (W.alloc (.cells A t)).heap.size (W.alloc (.cells A t)) w' := by simpa using h
set_option maxHeartbeats 1000000 in
theorem isState_walk (a b c d n : Int) (w : World) (ha : Byte a) (hb : Byte b) (hc : Byte c) (hd : Byte d) (r : Bool)
    (hv : ∀ W : World, Calls Tryz.prog 147 #[.slice (some ⟨W.heap.size, 0, none⟩) 5 5] (W.alloc (.cells #[.int .i64 n, .int .i64 2, .int .i64 33, .int .i64 a, .int .i64 0, .int .i64 n, .int .i64 b, .int .i64 0, .int .i64 16, .int .i64 c, .int .i64 0, .int .i64 17, .int .i64 d, .int .i64 0, .int .i64 16] 224)) fun e w' => e = .returned (.bool r) ∧ Below (W.heap.size + 1) (W.alloc (.cells #[.int .i64 n, .int .i64 2, .int .i64 33, .int .i64 a, .int .i64 0, .int .i64 n, .int .i64 b, .int .i64 0, .int .i64 16, .int .i64 c, .int .i64 0, .int .i64 17, .int .i64 d, .int .i64 0, .int .i64 16] 224)) w') :
    Calls Tryz.prog 145 #[.agg #[.int .u8 a, .int .u8 b, .int .u8 c, .int .u8 d], .int .i64 n] w fun e w' => e = .returned (.bool r) ∧ Below w.heap.size w w' := by
  have HV := Lib.hid hv
  clear hv
  obtain ⟨ha0, ha1⟩ := ha
  obtain ⟨hb0, hb1⟩ := hb
  obtain ⟨hc0, hc1⟩ := hc
  obtain ⟨hd0, hd1⟩ := hd
  go_enter Tryz.func145, Tryz.ntmps145
  go_wp2_with fail
  have S0 : SB w w.heap.size #[.int .u8 a, .int .u8 b, .int .u8 c, .int .u8 d] 24 (w.alloc (.cells #[.int .u8 a, .int .u8 b, .int .u8 c, .int .u8 d] 24)) := ⟨row_born rfl, (Below.refl _ _).alloc (Nat.le_refl _) _⟩
  generalize w.alloc (.cells #[.int .u8 a, .int .u8 b, .int .u8 c, .int .u8 d] 24) = V at S0 ⊢
  have wa : IntKind.i64.wrap a = a := IntWalk.i64_in _ (by omega)
  have wb : IntKind.i64.wrap b = b := IntWalk.i64_in _ (by omega)
  have wc : IntKind.i64.wrap c = c := IntWalk.i64_in _ (by omega)
  have wd : IntKind.i64.wrap d = d := IntWalk.i64_in _ (by omega)
  go_region_held3 (fun W => W.cell? ⟨w.heap.size, 0, none⟩ = some (.int .u8 a) ∧ W.cell? ⟨w.heap.size, 1, none⟩ = some (.int .u8 b) ∧ W.cell? ⟨w.heap.size, 2, none⟩ = some (.int .u8 c) ∧ W.cell? ⟨w.heap.size, 3, none⟩ = some (.int .u8 d) ∧ SB w w.heap.size #[.int .u8 a, .int .u8 b, .int .u8 c, .int .u8 d] 24 W)
    (first
      | exact (S0.more (Below.refl _ _).drew).all4
      | (go_split_ands; exact (SB.more (by assumption) gL).all4)
      | (go_split_ands; exact (SB.more (by assumption) (Below.alloc (Below.refl _ _) (Nat.le_refl _) _)).all4))
    (first
      | (go_at_call 148; refine (windows_any _ _).mono ?_; rintro e w1 ⟨rfl, gL⟩)
      | (go_at_call 189; refine (below_any _ _ _).mono ?_; rintro e w1 ⟨rfl, gL⟩)
      | (go_at_call 147; refine (HV.out _).mono ?_; rintro e w1 ⟨rfl, gL'⟩; have gL := bel_size gL'))
  rename_i hH
  have hS := hH.2.2.2.2.bel
  clear hH
  go_wp2
  go_ret
  exact ⟨rfl, hS⟩
theorem isState_yes (a b c d n : Int) (w : World) (ha : Byte a) (hb : Byte b) (hc : Byte c) (hd : Byte d) (h : State a b c d n) :
    Calls Tryz.prog 145 #[.agg #[.int .u8 a, .int .u8 b, .int .u8 c, .int .u8 d], .int .i64 n] w fun e w' => e = .returned (.bool true) ∧ Below w.heap.size w w' := by
  obtain ⟨ha0, ha1⟩ := ha
  obtain ⟨hb0, hb1⟩ := hb
  obtain ⟨hc0, hc1⟩ := hc
  obtain ⟨hd0, hd1⟩ := hd
  obtain ⟨h0, h1, h2, h3, h4, h5⟩ := h
  refine isState_walk a b c d n w ⟨ha0, ha1⟩ ⟨hb0, hb1⟩ ⟨hc0, hc1⟩ ⟨hd0, hd1⟩ true (fun W => (valid_yes _ 5 _ _ _ _ _ (by decide) (nums5 W n a b c d _) (fun i hi => ?_)).mono (fun e w' he => ⟨he.1, by simpa using he.2⟩))
  match i, hi with
  | 0, _ => exact ⟨h0, by simp only [at5]; omega⟩
  | 1, _ => exact ⟨ha0, h2⟩
  | 2, _ => exact ⟨hb0, by simp only [at5]; omega⟩
  | 3, _ => exact ⟨hc0, by simp only [at5]; omega⟩
  | 4, _ => exact ⟨hd0, by simp only [at5]; omega⟩
theorem isState_no (a b c d n : Int) (w : World) (ha : Byte a) (hb : Byte b) (hc : Byte c) (hd : Byte d) (h : ¬ State a b c d n) :
    Calls Tryz.prog 145 #[.agg #[.int .u8 a, .int .u8 b, .int .u8 c, .int .u8 d], .int .i64 n] w fun e w' => e = .returned (.bool false) ∧ Below w.heap.size w w' := by
  refine isState_walk a b c d n w ha hb hc hd false (fun W => (valid_not _ 5 _ _ _ _ _ (by decide) (nums5 W n a b c d _) (fun hh => h ?_)).mono (fun e w' he => ⟨he.1, by simpa using he.2⟩))
  have x0 := hh 0 (by decide)
  have x1 := hh 1 (by decide)
  have x2 := hh 2 (by decide)
  have x3 := hh 3 (by decide)
  have x4 := hh 4 (by decide)
  simp only [at5] at x0 x1 x2 x3 x4
  exact ⟨x0.1, by omega, x1.2, by omega, by omega, by omega⟩
end Go.Proofs.YtoecanjhkbeemaaGreatDoor.P4
