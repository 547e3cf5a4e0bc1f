/- What the small functions of package inst come to, for any arguments, in a world that holds the table of fields. -/
import Derived.Test.YtgbodbejcffclaaDoorGrown
import Derived.Test.YtgbodbejcffclaaDoorInstMath
import Derived.WalkSpells
import Derived.WalkLawsBesides
import Derived.Handy
namespace Go.Proofs.YtgbodbejcffclaaDoor.I2
open Go.RowKit
set_option linter.unusedVariables false

/-! The table of fields. -/
/-- Which fields an Op has: Rd, Rs1, Rs2, a number, 21 bits of it; and whether there is such an Op. -/
def fD (o : Int) : Bool := decide (Ka o ∨ o = 15 ∨ o = 17 ∨ o = 26 ∨ o = 28 ∨ o = 30 ∨ o = 34)
def fS (o : Int) : Bool := decide (Ka o ∨ Kb o ∨ o = 31 ∨ o = 35 ∨ o = 36)
def fT (o : Int) : Bool := decide (Ka o ∨ Kb o)
def fN (o : Int) : Bool := decide (Ka o ∨ Kb o ∨ Wd o ∨ o = 30 ∨ o = 31 ∨ o = 33 ∨ o = 37)
def fW (o : Int) : Bool := decide (Wd o)
def fX (o : Int) : Bool := decide (1 ≤ o ∧ o ≤ 37)
/-- The table, a row each: nothing at 0 and from 2 to 14. -/
def tb (k j : Nat) : Bool := if k = 0 ∨ (2 ≤ k ∧ k ≤ 14) then false else if j = 0 then fD k else if j = 1 then fS k else if j = 2 then fT k else if j = 3 then fN k else fW k
/-- The world holds the table of fields. -/
def Tab (w : World) : Prop := ∀ k, k < 38 → ∀ j, j < 5 → w.cell? ⟨0, k * 5 + j, none⟩ = some (.bool (tb k j))
theorem Tab.grown {a b : World} (h : Tab a) (g : Grown a b) : Tab b := fun k hk j hj => grown_cell g (h k hk j hj)
theorem fieldsOf_at (k : Nat) (f0 f1 f2 f3 f4 : Bool) (w : World) (hk : 15 ≤ k ∧ k ≤ 37) (hz : 0 < w.heap.size)
    (h0 : w.cell? ⟨0, k * 5, none⟩ = some (.bool f0)) (h1 : w.cell? ⟨0, k * 5 + 1, none⟩ = some (.bool f1)) (h2 : w.cell? ⟨0, k * 5 + 2, none⟩ = some (.bool f2)) (h3 : w.cell? ⟨0, k * 5 + 3, none⟩ = some (.bool f3)) (h4 : w.cell? ⟨0, k * 5 + 4, none⟩ = some (.bool f4)) :
    Calls Tryd.prog 30 #[.int .u8 k] w fun e w' => e = .returned (.tuple #[.agg #[.bool f0, .bool f1, .bool f2, .bool f3, .bool f4], .bool true]) ∧ Grown w w' := by
  go_enter Tryd.func30, Tryd.ntmps30
  go_wp2
  exact bodyPost_ret (v := .tuple #[.agg #[.bool f0, .bool f1, .bool f2, .bool f3, .bool f4], .bool true]) (by simp [results, Tryd.results30, go_sem]) rfl ⟨rfl, (Grown.refl _).alloc _ _⟩
theorem fieldsOf_alu (o : Int) (f0 f1 f2 f3 f4 : Bool) (w : World) (hk : 1 ≤ o ∧ o ≤ 14) (hz : 0 < w.heap.size)
    (h0 : w.cell? ⟨0, 5, none⟩ = some (.bool f0)) (h1 : w.cell? ⟨0, 6, none⟩ = some (.bool f1)) (h2 : w.cell? ⟨0, 7, none⟩ = some (.bool f2)) (h3 : w.cell? ⟨0, 8, none⟩ = some (.bool f3)) (h4 : w.cell? ⟨0, 9, none⟩ = some (.bool f4)) :
    Calls Tryd.prog 30 #[.int .u8 o] w fun e w' => e = .returned (.tuple #[.agg #[.bool f0, .bool f1, .bool f2, .bool f3, .bool f4], .bool true]) ∧ Grown w w' := by
  go_enter Tryd.func30, Tryd.ntmps30
  go_wp2
  exact bodyPost_ret (v := .tuple #[.agg #[.bool f0, .bool f1, .bool f2, .bool f3, .bool f4], .bool true]) (by simp [results, Tryd.results30, go_sem]) rfl ⟨rfl, (Grown.refl _).alloc _ _⟩
theorem fieldsOf_no (o : Int) (w : World) (hk : o < 1 ∨ 37 < o) :
    Calls Tryd.prog 30 #[.int .u8 o] w fun e w' => e = .returned (.tuple #[.agg #[.bool false, .bool false, .bool false, .bool false, .bool false], .bool false]) ∧ Grown w w' := by
  rcases hk with hk | hk
  · go_enter Tryd.func30, Tryd.ntmps30
    go_wp2
    exact bodyPost_ret (v := .tuple #[.agg #[.bool false, .bool false, .bool false, .bool false, .bool false], .bool false]) (by simp [results, Tryd.results30, go_sem]) rfl ⟨rfl, (Grown.refl _).alloc _ _⟩
  · have h1 : ¬ o < 1 := by omega
    go_enter Tryd.func30, Tryd.ntmps30
    go_wp2
    exact bodyPost_ret (v := .tuple #[.agg #[.bool false, .bool false, .bool false, .bool false, .bool false], .bool false]) (by simp [results, Tryd.results30, go_sem]) rfl ⟨rfl, (Grown.refl _).alloc _ _⟩
theorem tab_size {w : World} (h : Tab w) : 0 < w.heap.size := block_lt_of_cell (h 1 (by decide) 0 (by decide))
/-- What fieldsOf comes to, whatever the Op. -/
theorem fieldsOf_any (o : Int) (w : World) (hT : Tab w) (ho : 0 ≤ o ∧ o ≤ 255) :
    Calls Tryd.prog 30 #[.int .u8 o] w fun e w' => e = .returned (.tuple #[.agg #[.bool (fD o), .bool (fS o), .bool (fT o), .bool (fN o), .bool (fW o)], .bool (fX o)]) ∧ Grown w w' := by
  have hz := tab_size hT
  by_cases hx : o < 1 ∨ 37 < o
  · have e : fD o = false ∧ fS o = false ∧ fT o = false ∧ fN o = false ∧ fW o = false ∧ fX o = false := by
      refine ⟨?_, ?_, ?_, ?_, ?_, ?_⟩ <;> (apply decide_eq_false; (try unfold Ka); (try unfold Kb); (try unfold Wd); omega)
    obtain ⟨e1, e2, e3, e4, e5, e6⟩ := e
    rw [e1, e2, e3, e4, e5, e6]
    exact fieldsOf_no o w hx
  · have e6 : fX o = true := by unfold fX; rw [decide_eq_true_iff]; omega
    rw [e6]
    by_cases ha : o ≤ 14
    · have e : fD o = true ∧ fS o = true ∧ fT o = true ∧ fN o = true ∧ fW o = false := by
        refine ⟨?_, ?_, ?_, ?_, ?_⟩ <;> first | (apply decide_eq_true; (try unfold Ka); (try unfold Kb); (try unfold Wd); omega) | (apply decide_eq_false; (try unfold Wd); omega)
      obtain ⟨e1, e2, e3, e4, e5⟩ := e
      rw [e1, e2, e3, e4, e5]
      exact fieldsOf_alu o _ _ _ _ _ w (by omega) hz (hT 1 (by decide) 0 (by decide)) (hT 1 (by decide) 1 (by decide)) (hT 1 (by decide) 2 (by decide)) (hT 1 (by decide) 3 (by decide)) (hT 1 (by decide) 4 (by decide))
    · obtain ⟨k, rfl⟩ := Int.eq_ofNat_of_zero_le ho.1
      have hk : 15 ≤ k ∧ k ≤ 37 := by omega
      have nb : ¬ (k = 0 ∨ (2 ≤ k ∧ k ≤ 14)) := by omega
      have t0 : tb k 0 = fD k := by unfold tb; rw [if_neg nb]; rfl
      have t1 : tb k 1 = fS k := by unfold tb; rw [if_neg nb]; rfl
      have t2 : tb k 2 = fT k := by unfold tb; rw [if_neg nb]; rfl
      have t3 : tb k 3 = fN k := by unfold tb; rw [if_neg nb]; rfl
      have t4 : tb k 4 = fW k := by unfold tb; rw [if_neg nb]; rfl
      exact fieldsOf_at k _ _ _ _ _ w hk hz (t0 ▸ hT k (by omega) 0 (by decide)) (t1 ▸ hT k (by omega) 1 (by decide)) (t2 ▸ hT k (by omega) 2 (by decide)) (t3 ▸ hT k (by omega) 3 (by decide)) (t4 ▸ hT k (by omega) 4 (by decide))

/-! Registers. -/
theorem rfits_no (r h : Int) (w : World) (hr : 0 ≤ r ∧ r ≤ 255) :
    Calls Tryd.prog 38 #[.int .u8 r, .bool false, .int .u8 h] w fun e w' => e = .returned (.bool (r == 0)) ∧ w = w' := by
  go_enter Tryd.func38, Tryd.ntmps38
  go_wp2
  go_ret
  exact ⟨rfl, rfl⟩
theorem rfits_yes (r h : Int) (w : World) (hr : 0 ≤ r ∧ r ≤ 255) :
    Calls Tryd.prog 38 #[.int .u8 r, .bool true, .int .u8 h] w fun e w' => e = .returned (.bool (decide (r ≤ h))) ∧ w = w' := by
  go_enter Tryd.func38, Tryd.ntmps38
  go_wp2
  go_ret
  exact ⟨rfl, rfl⟩
/-- Does a register fit: 0 if it is not used, else at most h. -/
def rf (r : Int) (u : Bool) (h : Int) : Bool := if u then decide (r ≤ h) else r == 0
theorem rfits_any (r h : Int) (u : Bool) (w : World) (hr : 0 ≤ r ∧ r ≤ 255) :
    Calls Tryd.prog 38 #[.int .u8 r, .bool u, .int .u8 h] w fun e w' => e = .returned (.bool (rf r u h)) ∧ w = w' := by
  cases u
  · exact rfits_no r h w hr
  · exact rfits_yes r h w hr
def hR (o : Int) : Int := if o = 17 then 6 else 31
theorem highest_any (o : Int) (w : World) (ho : 0 ≤ o ∧ o ≤ 255) :
    Calls Tryd.prog 39 #[.int .u8 o] w fun e w' => e = .returned (.int .u8 (hR o)) ∧ w = w' := by
  by_cases h : o = 17
  · subst h
    go_enter Tryd.func39, Tryd.ntmps39
    go_wp2
    go_ret
    exact ⟨rfl, rfl⟩
  · have e : hR o = 31 := by unfold hR; rw [if_neg h]
    have hb : (o == 17) = false := by simpa using h
    rw [e]
    clear e h
    go_enter Tryd.func39, Tryd.ntmps39
    go_wp2
    go_ret
    exact ⟨rfl, rfl⟩
theorem isfits_t (f0 f1 f2 f3 f4 : Bool) (w : World) :
    Calls Tryd.prog 37 #[.bool true, .agg #[.bool f0, .bool f1, .bool f2, .bool f3, .bool f4]] w fun e w' => e = .returned (.bool f3) ∧ Grown w w' := by
  go_enter Tryd.func37, Tryd.ntmps37
  go_wp2
  go_ret
  exact ⟨rfl, (Grown.refl _).alloc _ _⟩
theorem isfits_f (f0 f1 f2 f3 f4 : Bool) (w : World) :
    Calls Tryd.prog 37 #[.bool false, .agg #[.bool f0, .bool f1, .bool f2, .bool f3, .bool f4]] w fun e w' => e = .returned (.bool (f2 || !f3)) ∧ Grown w w' := by
  cases f2
  all_goals
    go_enter Tryd.func37, Tryd.ntmps37
    go_wp2
    go_ret
    exact ⟨rfl, (Grown.refl _).alloc _ _⟩
def iF (b f2 f3 : Bool) : Bool := if b then f3 else f2 || !f3
theorem isfits_any (b f0 f1 f2 f3 f4 : Bool) (w : World) :
    Calls Tryd.prog 37 #[.bool b, .agg #[.bool f0, .bool f1, .bool f2, .bool f3, .bool f4]] w fun e w' => e = .returned (.bool (iF b f2 f3)) ∧ Grown w w' := by
  cases b
  · exact isfits_f f0 f1 f2 f3 f4 w
  · exact isfits_t f0 f1 f2 f3 f4 w

/-! Numbers. -/
def lo (o : Int) : Int := if o = 15 then 0 else if o = 17 ∨ o = 18 then -1048576 else if o = 30 ∨ o = 31 then 0 else if o = 33 then 3 else if o = 37 then 1 else -16384
def hi (o : Int) : Int := if o = 15 then 2097151 else if o = 17 ∨ o = 18 then 1048575 else if o = 30 ∨ o = 31 then 1 else if o = 33 then 4 else if o = 37 then 3 else 16383
theorem nums_any (o : Int) (w : World) (ho : 0 ≤ o ∧ o ≤ 255) :
    Calls Tryd.prog 47 #[.int .u8 o] w fun e w' => e = .returned (.tuple #[.int .i32 (lo o), .int .i32 (hi o)]) ∧ w = w' := by
  by_cases h : o = 15 ∨ o = 17 ∨ o = 18 ∨ o = 30 ∨ o = 31 ∨ o = 33 ∨ o = 37
  · rcases h with rfl | rfl | rfl | rfl | rfl | rfl | rfl
    all_goals
      go_enter Tryd.func47, Tryd.ntmps47
      go_wp2
      go_ret2
      exact ⟨rfl, rfl⟩
  · have e1 : lo o = -16384 := by
      unfold lo
      repeat rw [if_neg (by omega)]
    have e2 : hi o = 16383 := by
      unfold hi
      repeat rw [if_neg (by omega)]
    have b1 : (o == 15) = false := by simp; omega
    have b2 : (o == 17) = false := by simp; omega
    have b3 : (o == 18) = false := by simp; omega
    have b4 : (o == 30) = false := by simp; omega
    have b5 : (o == 31) = false := by simp; omega
    have b6 : (o == 33) = false := by simp; omega
    have b7 : (o == 37) = false := by simp; omega
    rw [e1, e2]
    clear e1 e2 h
    go_enter Tryd.func47, Tryd.ntmps47
    go_wp2
    go_ret2
    exact ⟨rfl, rfl⟩
/-- Does a number fit. -/
def nF (o : Int) (b : Bool) (n : Int) : Bool := if b then decide (lo o ≤ n) && decide (n ≤ hi o) else n == 0
theorem nfits_any (o d s t : Int) (b : Bool) (n : Int) (w : World) (ho : 0 ≤ o ∧ o ≤ 255) :
    Calls Tryd.prog 40 #[.agg #[.int .u8 o, .int .u8 d, .int .u8 s, .int .u8 t, .bool b, .int .i32 n]] w fun e w' => e = .returned (.bool (nF o b n)) ∧ Grown w w' := by
  cases b
  · go_enter Tryd.func40, Tryd.ntmps40
    go_wp2
    go_ret
    exact ⟨rfl, (Grown.refl _).alloc _ _⟩
  · have e : nF o true n = (decide (lo o ≤ n) && decide (n ≤ hi o)) := rfl
    rw [e]
    clear e
    by_cases h : lo o ≤ n
    · have hb : decide (lo o ≤ n) = true := by simpa using h
      rw [hb]
      go_enter Tryd.func40, Tryd.ntmps40
      go_wp2_with (go_at_call 47; refine (nums_any _ _ ho).mono ?_; rintro e w1 ⟨rfl, rfl⟩)
      go_ret
      exact ⟨by simp, (Grown.refl _).alloc _ _⟩
    · have hb : decide (lo o ≤ n) = false := by simpa using h
      rw [hb]
      go_enter Tryd.func40, Tryd.ntmps40
      go_wp2_with (go_at_call 47; refine (nums_any _ _ ho).mono ?_; rintro e w1 ⟨rfl, rfl⟩)
      go_ret
      exact ⟨by simp, (Grown.refl _).alloc _ _⟩

/-! Parts of words. -/
theorem and_1 (x : Int) (h : 0 ≤ x ∧ x < 4294967296) : bits .and .u32 x 1 = x % 2 := by
  rw [u32_and x 1 h.1 h.2 (by decide) (by decide)]
  have : (1 : Int).toNat = 1 := rfl
  rw [this, nat_mask1]; omega
theorem lowest1 (x : Int) (w : World) (hx : 0 ≤ x ∧ x < 4294967296) :
    Calls Tryd.prog 41 #[.int .u32 x, .int .i64 1] w fun e w' => e = .returned (.int .u32 (x % 2)) ∧ w = w' := by
  have h := and_1 x hx
  go_enter Tryd.func41, Tryd.ntmps41
  go_wp2
  go_ret
  exact ⟨rfl, rfl⟩
theorem and_5 (x : Int) (h : 0 ≤ x ∧ x < 4294967296) : bits .and .u32 x 31 = x % 32 := by
  rw [u32_and x 31 h.1 h.2 (by decide) (by decide)]
  have : (31 : Int).toNat = 31 := rfl
  rw [this, nat_mask5]; omega
theorem lowest5 (x : Int) (w : World) (hx : 0 ≤ x ∧ x < 4294967296) :
    Calls Tryd.prog 41 #[.int .u32 x, .int .i64 5] w fun e w' => e = .returned (.int .u32 (x % 32)) ∧ w = w' := by
  have h := and_5 x hx
  go_enter Tryd.func41, Tryd.ntmps41
  go_wp2
  go_ret
  exact ⟨rfl, rfl⟩
theorem and_6 (x : Int) (h : 0 ≤ x ∧ x < 4294967296) : bits .and .u32 x 63 = x % 64 := by
  rw [u32_and x 63 h.1 h.2 (by decide) (by decide)]
  have : (63 : Int).toNat = 63 := rfl
  rw [this, nat_mask6]; omega
theorem lowest6 (x : Int) (w : World) (hx : 0 ≤ x ∧ x < 4294967296) :
    Calls Tryd.prog 41 #[.int .u32 x, .int .i64 6] w fun e w' => e = .returned (.int .u32 (x % 64)) ∧ w = w' := by
  have h := and_6 x hx
  go_enter Tryd.func41, Tryd.ntmps41
  go_wp2
  go_ret
  exact ⟨rfl, rfl⟩
theorem and_15 (x : Int) (h : 0 ≤ x ∧ x < 4294967296) : bits .and .u32 x 32767 = x % 32768 := by
  rw [u32_and x 32767 h.1 h.2 (by decide) (by decide)]
  have : (32767 : Int).toNat = 32767 := rfl
  rw [this, nat_mask15]; omega
theorem lowest15 (x : Int) (w : World) (hx : 0 ≤ x ∧ x < 4294967296) :
    Calls Tryd.prog 41 #[.int .u32 x, .int .i64 15] w fun e w' => e = .returned (.int .u32 (x % 32768)) ∧ w = w' := by
  have h := and_15 x hx
  go_enter Tryd.func41, Tryd.ntmps41
  go_wp2
  go_ret
  exact ⟨rfl, rfl⟩
theorem and_21 (x : Int) (h : 0 ≤ x ∧ x < 4294967296) : bits .and .u32 x 2097151 = x % 2097152 := by
  rw [u32_and x 2097151 h.1 h.2 (by decide) (by decide)]
  have : (2097151 : Int).toNat = 2097151 := rfl
  rw [this, nat_mask21]; omega
theorem lowest21 (x : Int) (w : World) (hx : 0 ≤ x ∧ x < 4294967296) :
    Calls Tryd.prog 41 #[.int .u32 x, .int .i64 21] w fun e w' => e = .returned (.int .u32 (x % 2097152)) ∧ w = w' := by
  have h := and_21 x hx
  go_enter Tryd.func41, Tryd.ntmps41
  go_wp2
  go_ret
  exact ⟨rfl, rfl⟩
/-- The number that split makes of the lowest bits: what is greater than the Op's greatest one less the whole range. -/
def nm (o p h : Int) : Int := if hi o < p then p - 2 * h else p
end Go.Proofs.YtgbodbejcffclaaDoor.I2
