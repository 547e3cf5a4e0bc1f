/- What the small functions of package inst come to, for any arguments, in a world that holds the table of fields. What valid of package inst comes to, for any instruction and any row of fields. What the code of package inst asks of an instruction is what the document asks: plain arithmetic, Op by Op. What join, Encode, split and Decode of package inst come to, for any instruction and any word. Which instructions may be, class by class of Ops: plain arithmetic. -/
import Derived.Test.YtmpagjijjahohaaGreatDoorBaseG
import Derived.WalkSpells
import Derived.WalkLawsBesides
import Derived.Handy
import Derived.Deep.RegionWith
namespace Go.Proofs.YtmpagjijjahohaaGreatDoor.I2
open Go.RowKit
set_option linter.unusedVariables false

/-! The table of fields. -/
/-- Which fields an Op has: Rd, Rs1, Rs2, a number, 21 bits of it; and whether there is such an Op. -/
def fD (o : Int) : Bool := decide (Ka o ∨ o = 15 ∨ o = 17 ∨ o = 26 ∨ o = 28 ∨ o = 30 ∨ o = 34)
def fS (o : Int) : Bool := decide (Ka o ∨ Kb o ∨ o = 31 ∨ o = 35 ∨ o = 36)
def fT (o : Int) : Bool := decide (Ka o ∨ Kb o)
def fN (o : Int) : Bool := decide (Ka o ∨ Kb o ∨ Wd o ∨ o = 30 ∨ o = 31 ∨ o = 33 ∨ o = 37)
def fW (o : Int) : Bool := decide (Wd o)
def fX (o : Int) : Bool := decide (1 ≤ o ∧ o ≤ 37)
/-- The table, a row each: nothing at 0 and from 2 to 14. -/
def tb (k j : Nat) : Bool := if k = 0 ∨ (2 ≤ k ∧ k ≤ 14) then false else if j = 0 then fD k else if j = 1 then fS k else if j = 2 then fT k else if j = 3 then fN k else fW k
/-- The world holds the table of fields. -/
def Tab (w : World) : Prop := ∀ k, k < 38 → ∀ j, j < 5 → w.cell? ⟨0, k * 5 + j, none⟩ = some (.bool (tb k j))
theorem Tab.grown {a b : World} (h : Tab a) (g : Grown a b) : Tab b := fun k hk j hj => grown_cell g (h k hk j hj)
theorem fieldsOf_at (k : Nat) (f0 f1 f2 f3 f4 : Bool) (w : World) (hk : 15 ≤ k ∧ k ≤ 37) (hz : 0 < w.heap.size)
    (h0 : w.cell? ⟨0, k * 5, none⟩ = some (.bool f0)) (h1 : w.cell? ⟨0, k * 5 + 1, none⟩ = some (.bool f1)) (h2 : w.cell? ⟨0, k * 5 + 2, none⟩ = some (.bool f2)) (h3 : w.cell? ⟨0, k * 5 + 3, none⟩ = some (.bool f3)) (h4 : w.cell? ⟨0, k * 5 + 4, none⟩ = some (.bool f4)) :
    Calls Tryz.prog 183 #[.int .u8 k] w fun e w' => e = .returned (.tuple #[.agg #[.bool f0, .bool f1, .bool f2, .bool f3, .bool f4], .bool true]) ∧ Grown w w' := by
  go_enter Tryz.func183, Tryz.ntmps183
  go_wp2
  exact bodyPost_ret (v := .tuple #[.agg #[.bool f0, .bool f1, .bool f2, .bool f3, .bool f4], .bool true]) (by simp [results, Tryz.results183, go_sem]) rfl ⟨rfl, (Grown.refl _).alloc _ _⟩
theorem fieldsOf_alu (o : Int) (f0 f1 f2 f3 f4 : Bool) (w : World) (hk : 1 ≤ o ∧ o ≤ 14) (hz : 0 < w.heap.size)
    (h0 : w.cell? ⟨0, 5, none⟩ = some (.bool f0)) (h1 : w.cell? ⟨0, 6, none⟩ = some (.bool f1)) (h2 : w.cell? ⟨0, 7, none⟩ = some (.bool f2)) (h3 : w.cell? ⟨0, 8, none⟩ = some (.bool f3)) (h4 : w.cell? ⟨0, 9, none⟩ = some (.bool f4)) :
    Calls Tryz.prog 183 #[.int .u8 o] w fun e w' => e = .returned (.tuple #[.agg #[.bool f0, .bool f1, .bool f2, .bool f3, .bool f4], .bool true]) ∧ Grown w w' := by
  go_enter Tryz.func183, Tryz.ntmps183
  go_wp2
  exact bodyPost_ret (v := .tuple #[.agg #[.bool f0, .bool f1, .bool f2, .bool f3, .bool f4], .bool true]) (by simp [results, Tryz.results183, go_sem]) rfl ⟨rfl, (Grown.refl _).alloc _ _⟩
theorem fieldsOf_no (o : Int) (w : World) (hk : o < 1 ∨ 37 < o) :
    Calls Tryz.prog 183 #[.int .u8 o] w fun e w' => e = .returned (.tuple #[.agg #[.bool false, .bool false, .bool false, .bool false, .bool false], .bool false]) ∧ Grown w w' := by
  rcases hk with hk | hk
  · go_enter Tryz.func183, Tryz.ntmps183
    go_wp2
    exact bodyPost_ret (v := .tuple #[.agg #[.bool false, .bool false, .bool false, .bool false, .bool false], .bool false]) (by simp [results, Tryz.results183, go_sem]) rfl ⟨rfl, (Grown.refl _).alloc _ _⟩
  · have h1 : ¬ o < 1 := by omega
    go_enter Tryz.func183, Tryz.ntmps183
    go_wp2
    exact bodyPost_ret (v := .tuple #[.agg #[.bool false, .bool false, .bool false, .bool false, .bool false], .bool false]) (by simp [results, Tryz.results183, go_sem]) rfl ⟨rfl, (Grown.refl _).alloc _ _⟩
theorem tab_size {w : World} (h : Tab w) : 0 < w.heap.size := block_lt_of_cell (h 1 (by decide) 0 (by decide))
/-- What fieldsOf comes to, whatever the Op. -/
theorem fieldsOf_any (o : Int) (w : World) (hT : Tab w) (ho : 0 ≤ o ∧ o ≤ 255) :
    Calls Tryz.prog 183 #[.int .u8 o] w fun e w' => e = .returned (.tuple #[.agg #[.bool (fD o), .bool (fS o), .bool (fT o), .bool (fN o), .bool (fW o)], .bool (fX o)]) ∧ Grown w w' := by
  have hz := tab_size hT
  by_cases hx : o < 1 ∨ 37 < o
  · have e : fD o = false ∧ fS o = false ∧ fT o = false ∧ fN o = false ∧ fW o = false ∧ fX o = false := by
      refine ⟨?_, ?_, ?_, ?_, ?_, ?_⟩ <;> (apply decide_eq_false; (try unfold Ka); (try unfold Kb); (try unfold Wd); omega)
    obtain ⟨e1, e2, e3, e4, e5, e6⟩ := e
    rw [e1, e2, e3, e4, e5, e6]
    exact fieldsOf_no o w hx
  · have e6 : fX o = true := by unfold fX; rw [decide_eq_true_iff]; omega
    rw [e6]
    by_cases ha : o ≤ 14
    · have e : fD o = true ∧ fS o = true ∧ fT o = true ∧ fN o = true ∧ fW o = false := by
        refine ⟨?_, ?_, ?_, ?_, ?_⟩ <;> first | (apply decide_eq_true; (try unfold Ka); (try unfold Kb); (try unfold Wd); omega) | (apply decide_eq_false; (try unfold Wd); omega)
      obtain ⟨e1, e2, e3, e4, e5⟩ := e
      rw [e1, e2, e3, e4, e5]
      exact fieldsOf_alu o _ _ _ _ _ w (by omega) hz (hT 1 (by decide) 0 (by decide)) (hT 1 (by decide) 1 (by decide)) (hT 1 (by decide) 2 (by decide)) (hT 1 (by decide) 3 (by decide)) (hT 1 (by decide) 4 (by decide))
    · obtain ⟨k, rfl⟩ := Int.eq_ofNat_of_zero_le ho.1
      have hk : 15 ≤ k ∧ k ≤ 37 := by omega
      have nb : ¬ (k = 0 ∨ (2 ≤ k ∧ k ≤ 14)) := by omega
      have t0 : tb k 0 = fD k := by unfold tb; rw [if_neg nb]; rfl
      have t1 : tb k 1 = fS k := by unfold tb; rw [if_neg nb]; rfl
      have t2 : tb k 2 = fT k := by unfold tb; rw [if_neg nb]; rfl
      have t3 : tb k 3 = fN k := by unfold tb; rw [if_neg nb]; rfl
      have t4 : tb k 4 = fW k := by unfold tb; rw [if_neg nb]; rfl
      exact fieldsOf_at k _ _ _ _ _ w hk hz (t0 ▸ hT k (by omega) 0 (by decide)) (t1 ▸ hT k (by omega) 1 (by decide)) (t2 ▸ hT k (by omega) 2 (by decide)) (t3 ▸ hT k (by omega) 3 (by decide)) (t4 ▸ hT k (by omega) 4 (by decide))

/-! Registers. -/
theorem rfits_no (r h : Int) (w : World) (hr : 0 ≤ r ∧ r ≤ 255) :
    Calls Tryz.prog 249 #[.int .u8 r, .bool false, .int .u8 h] w fun e w' => e = .returned (.bool (r == 0)) ∧ w = w' := by
  go_enter Tryz.func249, Tryz.ntmps249
  go_wp2
  go_ret
  exact ⟨rfl, rfl⟩
theorem rfits_yes (r h : Int) (w : World) (hr : 0 ≤ r ∧ r ≤ 255) :
    Calls Tryz.prog 249 #[.int .u8 r, .bool true, .int .u8 h] w fun e w' => e = .returned (.bool (decide (r ≤ h))) ∧ w = w' := by
  go_enter Tryz.func249, Tryz.ntmps249
  go_wp2
  go_ret
  exact ⟨rfl, rfl⟩
/-- Does a register fit: 0 if it is not used, else at most h. -/
def rf (r : Int) (u : Bool) (h : Int) : Bool := if u then decide (r ≤ h) else r == 0
theorem rfits_any (r h : Int) (u : Bool) (w : World) (hr : 0 ≤ r ∧ r ≤ 255) :
    Calls Tryz.prog 249 #[.int .u8 r, .bool u, .int .u8 h] w fun e w' => e = .returned (.bool (rf r u h)) ∧ w = w' := by
  cases u
  · exact rfits_no r h w hr
  · exact rfits_yes r h w hr
def hR (o : Int) : Int := if o = 17 then 6 else 31
theorem highest_any (o : Int) (w : World) (ho : 0 ≤ o ∧ o ≤ 255) :
    Calls Tryz.prog 250 #[.int .u8 o] w fun e w' => e = .returned (.int .u8 (hR o)) ∧ w = w' := by
  by_cases h : o = 17
  · subst h
    go_enter Tryz.func250, Tryz.ntmps250
    go_wp2
    go_ret
    exact ⟨rfl, rfl⟩
  · have e : hR o = 31 := by unfold hR; rw [if_neg h]
    have hb : (o == 17) = false := by simpa using h
    rw [e]
    clear e h
    go_enter Tryz.func250, Tryz.ntmps250
    go_wp2
    go_ret
    exact ⟨rfl, rfl⟩
theorem isfits_t (f0 f1 f2 f3 f4 : Bool) (w : World) :
    Calls Tryz.prog 248 #[.bool true, .agg #[.bool f0, .bool f1, .bool f2, .bool f3, .bool f4]] w fun e w' => e = .returned (.bool f3) ∧ Grown w w' := by
  go_enter Tryz.func248, Tryz.ntmps248
  go_wp2
  go_ret
  exact ⟨rfl, (Grown.refl _).alloc _ _⟩
theorem isfits_f (f0 f1 f2 f3 f4 : Bool) (w : World) :
    Calls Tryz.prog 248 #[.bool false, .agg #[.bool f0, .bool f1, .bool f2, .bool f3, .bool f4]] w fun e w' => e = .returned (.bool (f2 || !f3)) ∧ Grown w w' := by
  cases f2
  all_goals
    go_enter Tryz.func248, Tryz.ntmps248
    go_wp2
    go_ret
    exact ⟨rfl, (Grown.refl _).alloc _ _⟩
def iF (b f2 f3 : Bool) : Bool := if b then f3 else f2 || !f3
theorem isfits_any (b f0 f1 f2 f3 f4 : Bool) (w : World) :
    Calls Tryz.prog 248 #[.bool b, .agg #[.bool f0, .bool f1, .bool f2, .bool f3, .bool f4]] w fun e w' => e = .returned (.bool (iF b f2 f3)) ∧ Grown w w' := by
  cases b
  · exact isfits_f f0 f1 f2 f3 f4 w
  · exact isfits_t f0 f1 f2 f3 f4 w

/-! Numbers. -/
def lo (o : Int) : Int := if o = 15 then 0 else if o = 17 ∨ o = 18 then -1048576 else if o = 30 ∨ o = 31 then 0 else if o = 33 then 3 else if o = 37 then 1 else -16384
def hi (o : Int) : Int := if o = 15 then 2097151 else if o = 17 ∨ o = 18 then 1048575 else if o = 30 ∨ o = 31 then 1 else if o = 33 then 4 else if o = 37 then 3 else 16383
theorem nums_any (o : Int) (w : World) (ho : 0 ≤ o ∧ o ≤ 255) :
    Calls Tryz.prog 247 #[.int .u8 o] w fun e w' => e = .returned (.tuple #[.int .i32 (lo o), .int .i32 (hi o)]) ∧ w = w' := by
  by_cases h : o = 15 ∨ o = 17 ∨ o = 18 ∨ o = 30 ∨ o = 31 ∨ o = 33 ∨ o = 37
  · rcases h with rfl | rfl | rfl | rfl | rfl | rfl | rfl
    all_goals
      go_enter Tryz.func247, Tryz.ntmps247
      go_wp2
      go_ret2
      exact ⟨rfl, rfl⟩
  · have e1 : lo o = -16384 := by
      unfold lo
      repeat rw [if_neg (by omega)]
    have e2 : hi o = 16383 := by
      unfold hi
      repeat rw [if_neg (by omega)]
    have b1 : (o == 15) = false := by simp; omega
    have b2 : (o == 17) = false := by simp; omega
    have b3 : (o == 18) = false := by simp; omega
    have b4 : (o == 30) = false := by simp; omega
    have b5 : (o == 31) = false := by simp; omega
    have b6 : (o == 33) = false := by simp; omega
    have b7 : (o == 37) = false := by simp; omega
    rw [e1, e2]
    clear e1 e2 h
    go_enter Tryz.func247, Tryz.ntmps247
    go_wp2
    go_ret2
    exact ⟨rfl, rfl⟩
/-- Does a number fit. -/
def nF (o : Int) (b : Bool) (n : Int) : Bool := if b then decide (lo o ≤ n) && decide (n ≤ hi o) else n == 0
theorem nfits_any (o d s t : Int) (b : Bool) (n : Int) (w : World) (ho : 0 ≤ o ∧ o ≤ 255) :
    Calls Tryz.prog 251 #[.agg #[.int .u8 o, .int .u8 d, .int .u8 s, .int .u8 t, .bool b, .int .i32 n]] w fun e w' => e = .returned (.bool (nF o b n)) ∧ Grown w w' := by
  cases b
  · go_enter Tryz.func251, Tryz.ntmps251
    go_wp2
    go_ret
    exact ⟨rfl, (Grown.refl _).alloc _ _⟩
  · have e : nF o true n = (decide (lo o ≤ n) && decide (n ≤ hi o)) := rfl
    rw [e]
    clear e
    by_cases h : lo o ≤ n
    · have hb : decide (lo o ≤ n) = true := by simpa using h
      rw [hb]
      go_enter Tryz.func251, Tryz.ntmps251
      go_wp2_with (go_at_call 247; refine (nums_any _ _ ho).mono ?_; rintro e w1 ⟨rfl, rfl⟩)
      go_ret
      exact ⟨by simp, (Grown.refl _).alloc _ _⟩
    · have hb : decide (lo o ≤ n) = false := by simpa using h
      rw [hb]
      go_enter Tryz.func251, Tryz.ntmps251
      go_wp2_with (go_at_call 247; refine (nums_any _ _ ho).mono ?_; rintro e w1 ⟨rfl, rfl⟩)
      go_ret
      exact ⟨by simp, (Grown.refl _).alloc _ _⟩

/-! Parts of words. -/
theorem and_1 (x : Int) (h : 0 ≤ x ∧ x < 4294967296) : bits .and .u32 x 1 = x % 2 := by
  rw [u32_and x 1 h.1 h.2 (by decide) (by decide)]
  have : (1 : Int).toNat = 1 := rfl
  rw [this, nat_mask1]; omega
theorem lowest1 (x : Int) (w : World) (hx : 0 ≤ x ∧ x < 4294967296) :
    Calls Tryz.prog 185 #[.int .u32 x, .int .i64 1] w fun e w' => e = .returned (.int .u32 (x % 2)) ∧ w = w' := by
  have h := and_1 x hx
  go_enter Tryz.func185, Tryz.ntmps185
  go_wp2
  go_ret
  exact ⟨rfl, rfl⟩
theorem take1 (x : Int) (b : Nat) (w : World) (hx : 0 ≤ x ∧ x < 4294967296) (hc : w.cell? ⟨b, 0, none⟩ = some (.int .u32 x)) (hf : w.frozen? ⟨b, 0, none⟩ = false) :
    Calls Tryz.prog 246 #[.int .i64 1, .pointer (some ⟨b, 0, none⟩)] w fun e w' => e = .returned (.int .u32 (x % 2)) ∧ w' = w.setCell ⟨b, 0, none⟩ (.int .u32 (x / 2)) := by
  go_enter Tryz.func246, Tryz.ntmps246
  go_wp2_with (go_at_call 185; refine (lowest1 _ _ hx).mono ?_; rintro e w1 ⟨rfl, rfl⟩)
  go_ret
  exact ⟨rfl, rfl⟩
theorem and_5 (x : Int) (h : 0 ≤ x ∧ x < 4294967296) : bits .and .u32 x 31 = x % 32 := by
  rw [u32_and x 31 h.1 h.2 (by decide) (by decide)]
  have : (31 : Int).toNat = 31 := rfl
  rw [this, nat_mask5]; omega
theorem lowest5 (x : Int) (w : World) (hx : 0 ≤ x ∧ x < 4294967296) :
    Calls Tryz.prog 185 #[.int .u32 x, .int .i64 5] w fun e w' => e = .returned (.int .u32 (x % 32)) ∧ w = w' := by
  have h := and_5 x hx
  go_enter Tryz.func185, Tryz.ntmps185
  go_wp2
  go_ret
  exact ⟨rfl, rfl⟩
theorem take5 (x : Int) (b : Nat) (w : World) (hx : 0 ≤ x ∧ x < 4294967296) (hc : w.cell? ⟨b, 0, none⟩ = some (.int .u32 x)) (hf : w.frozen? ⟨b, 0, none⟩ = false) :
    Calls Tryz.prog 246 #[.int .i64 5, .pointer (some ⟨b, 0, none⟩)] w fun e w' => e = .returned (.int .u32 (x % 32)) ∧ w' = w.setCell ⟨b, 0, none⟩ (.int .u32 (x / 32)) := by
  go_enter Tryz.func246, Tryz.ntmps246
  go_wp2_with (go_at_call 185; refine (lowest5 _ _ hx).mono ?_; rintro e w1 ⟨rfl, rfl⟩)
  go_ret
  exact ⟨rfl, rfl⟩
theorem and_6 (x : Int) (h : 0 ≤ x ∧ x < 4294967296) : bits .and .u32 x 63 = x % 64 := by
  rw [u32_and x 63 h.1 h.2 (by decide) (by decide)]
  have : (63 : Int).toNat = 63 := rfl
  rw [this, nat_mask6]; omega
theorem lowest6 (x : Int) (w : World) (hx : 0 ≤ x ∧ x < 4294967296) :
    Calls Tryz.prog 185 #[.int .u32 x, .int .i64 6] w fun e w' => e = .returned (.int .u32 (x % 64)) ∧ w = w' := by
  have h := and_6 x hx
  go_enter Tryz.func185, Tryz.ntmps185
  go_wp2
  go_ret
  exact ⟨rfl, rfl⟩
theorem take6 (x : Int) (b : Nat) (w : World) (hx : 0 ≤ x ∧ x < 4294967296) (hc : w.cell? ⟨b, 0, none⟩ = some (.int .u32 x)) (hf : w.frozen? ⟨b, 0, none⟩ = false) :
    Calls Tryz.prog 246 #[.int .i64 6, .pointer (some ⟨b, 0, none⟩)] w fun e w' => e = .returned (.int .u32 (x % 64)) ∧ w' = w.setCell ⟨b, 0, none⟩ (.int .u32 (x / 64)) := by
  go_enter Tryz.func246, Tryz.ntmps246
  go_wp2_with (go_at_call 185; refine (lowest6 _ _ hx).mono ?_; rintro e w1 ⟨rfl, rfl⟩)
  go_ret
  exact ⟨rfl, rfl⟩
theorem and_15 (x : Int) (h : 0 ≤ x ∧ x < 4294967296) : bits .and .u32 x 32767 = x % 32768 := by
  rw [u32_and x 32767 h.1 h.2 (by decide) (by decide)]
  have : (32767 : Int).toNat = 32767 := rfl
  rw [this, nat_mask15]; omega
theorem lowest15 (x : Int) (w : World) (hx : 0 ≤ x ∧ x < 4294967296) :
    Calls Tryz.prog 185 #[.int .u32 x, .int .i64 15] w fun e w' => e = .returned (.int .u32 (x % 32768)) ∧ w = w' := by
  have h := and_15 x hx
  go_enter Tryz.func185, Tryz.ntmps185
  go_wp2
  go_ret
  exact ⟨rfl, rfl⟩
theorem take15 (x : Int) (b : Nat) (w : World) (hx : 0 ≤ x ∧ x < 4294967296) (hc : w.cell? ⟨b, 0, none⟩ = some (.int .u32 x)) (hf : w.frozen? ⟨b, 0, none⟩ = false) :
    Calls Tryz.prog 246 #[.int .i64 15, .pointer (some ⟨b, 0, none⟩)] w fun e w' => e = .returned (.int .u32 (x % 32768)) ∧ w' = w.setCell ⟨b, 0, none⟩ (.int .u32 (x / 32768)) := by
  go_enter Tryz.func246, Tryz.ntmps246
  go_wp2_with (go_at_call 185; refine (lowest15 _ _ hx).mono ?_; rintro e w1 ⟨rfl, rfl⟩)
  go_ret
  exact ⟨rfl, rfl⟩
theorem and_21 (x : Int) (h : 0 ≤ x ∧ x < 4294967296) : bits .and .u32 x 2097151 = x % 2097152 := by
  rw [u32_and x 2097151 h.1 h.2 (by decide) (by decide)]
  have : (2097151 : Int).toNat = 2097151 := rfl
  rw [this, nat_mask21]; omega
theorem lowest21 (x : Int) (w : World) (hx : 0 ≤ x ∧ x < 4294967296) :
    Calls Tryz.prog 185 #[.int .u32 x, .int .i64 21] w fun e w' => e = .returned (.int .u32 (x % 2097152)) ∧ w = w' := by
  have h := and_21 x hx
  go_enter Tryz.func185, Tryz.ntmps185
  go_wp2
  go_ret
  exact ⟨rfl, rfl⟩
theorem take21 (x : Int) (b : Nat) (w : World) (hx : 0 ≤ x ∧ x < 4294967296) (hc : w.cell? ⟨b, 0, none⟩ = some (.int .u32 x)) (hf : w.frozen? ⟨b, 0, none⟩ = false) :
    Calls Tryz.prog 246 #[.int .i64 21, .pointer (some ⟨b, 0, none⟩)] w fun e w' => e = .returned (.int .u32 (x % 2097152)) ∧ w' = w.setCell ⟨b, 0, none⟩ (.int .u32 (x / 2097152)) := by
  go_enter Tryz.func246, Tryz.ntmps246
  go_wp2_with (go_at_call 185; refine (lowest21 _ _ hx).mono ?_; rintro e w1 ⟨rfl, rfl⟩)
  go_ret
  exact ⟨rfl, rfl⟩
theorem parts_any (x : Int) (w : World) :
    Calls Tryz.prog 182 #[.int .u32 x] w fun e w' => e = .returned (.func (.func 246) #[] #[.pointer (some ⟨w.heap.size, 0, none⟩)]) ∧ w' = w.alloc (.cells #[.int .u32 x] 32) := by
  go_enter Tryz.func182, Tryz.ntmps182
  go_wp2
  go_ret
  exact ⟨rfl, rfl⟩
/-- The number that split makes of the lowest bits: what is greater than the Op's greatest one less the whole range. -/
def nm (o p h : Int) : Int := if hi o < p then p - 2 * h else p
theorem number15 (o x : Int) (w : World) (ho : 0 ≤ o ∧ o ≤ 255) (hx : 0 ≤ x ∧ x < 32768) :
    Calls Tryz.prog 184 #[.int .u8 o, .int .u32 x, .int .i64 15] w fun e w' => e = .returned (.int .i32 (nm o x 16384)) ∧ w = w' := by
  by_cases h : hi o < x
  · have e : nm o x 16384 = x - 32768 := by unfold nm; rw [if_pos h]; omega
    rw [e]
    clear e
    go_enter Tryz.func184, Tryz.ntmps184
    go_wp2_with (go_at_call 247; refine (nums_any _ _ ho).mono ?_; rintro e w1 ⟨rfl, rfl⟩)
    go_ret
    exact ⟨rfl, rfl⟩
  · have e : nm o x 16384 = x := by unfold nm; rw [if_neg h]
    rw [e]
    clear e
    go_enter Tryz.func184, Tryz.ntmps184
    go_wp2_with (go_at_call 247; refine (nums_any _ _ ho).mono ?_; rintro e w1 ⟨rfl, rfl⟩)
    go_ret
    exact ⟨rfl, rfl⟩
theorem number21 (o x : Int) (w : World) (ho : 0 ≤ o ∧ o ≤ 255) (hx : 0 ≤ x ∧ x < 2097152) :
    Calls Tryz.prog 184 #[.int .u8 o, .int .u32 x, .int .i64 21] w fun e w' => e = .returned (.int .i32 (nm o x 1048576)) ∧ w = w' := by
  by_cases h : hi o < x
  · have e : nm o x 1048576 = x - 2097152 := by unfold nm; rw [if_pos h]; omega
    rw [e]
    clear e
    go_enter Tryz.func184, Tryz.ntmps184
    go_wp2_with (go_at_call 247; refine (nums_any _ _ ho).mono ?_; rintro e w1 ⟨rfl, rfl⟩)
    go_ret
    exact ⟨rfl, rfl⟩
  · have e : nm o x 1048576 = x := by unfold nm; rw [if_neg h]
    rw [e]
    clear e
    go_enter Tryz.func184, Tryz.ntmps184
    go_wp2_with (go_at_call 247; refine (nums_any _ _ ho).mono ?_; rintro e w1 ⟨rfl, rfl⟩)
    go_ret
    exact ⟨rfl, rfl⟩
end Go.Proofs.YtmpagjijjahohaaGreatDoor.I2
namespace Go.Proofs.YtmpagjijjahohaaGreatDoor.I2
open Go.RowKit
set_option linter.unusedVariables false
/-- A world that has grown behind valid's two boxed arguments. -/
structure VW (w : World) (o d s t : Int) (b : Bool) (n : Int) (f0 f1 f2 f3 f4 : Bool) where
  W : World
  g : Grown ((w.alloc (.cells #[.int .u8 o, .int .u8 d, .int .u8 s, .int .u8 t, .bool b, .int .i32 n] 106)).alloc (.cells #[.bool f0, .bool f1, .bool f2, .bool f3, .bool f4] 245)) W
theorem VW.g1 {w : World} {o d s t : Int} {b : Bool} {n : Int} {f0 f1 f2 f3 f4 : Bool} (p : VW w o d s t b n f0 f1 f2 f3 f4) : Grown (w.alloc (.cells #[.int .u8 o, .int .u8 d, .int .u8 s, .int .u8 t, .bool b, .int .i32 n] 106)) p.W :=
  grown_trans ((Grown.refl _).alloc _ _) p.g
theorem VW.g0 {w : World} {o d s t : Int} {b : Bool} {n : Int} {f0 f1 f2 f3 f4 : Bool} (p : VW w o d s t b n f0 f1 f2 f3 f4) : Grown w p.W :=
  grown_trans ((Grown.refl _).alloc _ _) p.g1
theorem isfits_is (b f0 f1 f2 f3 f4 x : Bool) (w : World) (h : iF b f2 f3 = x) :
    Calls Tryz.prog 248 #[.bool b, .agg #[.bool f0, .bool f1, .bool f2, .bool f3, .bool f4]] w fun e w' => e = .returned (.bool x) ∧ Grown w w' := by
  subst h; exact isfits_any b f0 f1 f2 f3 f4 w
theorem rfits_is (r h : Int) (u x : Bool) (w : World) (hr : 0 ≤ r ∧ r ≤ 255) (hx : rf r u h = x) :
    Calls Tryz.prog 249 #[.int .u8 r, .bool u, .int .u8 h] w fun e w' => e = .returned (.bool x) ∧ w = w' := by
  subst hx; exact rfits_any r h u w hr
theorem nfits_is (o d s t : Int) (b : Bool) (n : Int) (x : Bool) (w : World) (ho : 0 ≤ o ∧ o ≤ 255) (hx : nF o b n = x) :
    Calls Tryz.prog 251 #[.agg #[.int .u8 o, .int .u8 d, .int .u8 s, .int .u8 t, .bool b, .int .i32 n]] w fun e w' => e = .returned (.bool x) ∧ Grown w w' := by
  subst hx; exact nfits_any o d s t b n w ho
theorem VW.cells (w : World) (o d s t : Int) (b : Bool) (n : Int) (f0 f1 f2 f3 f4 : Bool) (p : VW w o d s t b n f0 f1 f2 f3 f4) :
    p.W.cell? ⟨w.heap.size, 0, none⟩ = some (.int .u8 o) ∧ p.W.cell? ⟨w.heap.size, 1, none⟩ = some (.int .u8 d) ∧ p.W.cell? ⟨w.heap.size, 2, none⟩ = some (.int .u8 s) ∧ p.W.cell? ⟨w.heap.size, 3, none⟩ = some (.int .u8 t) ∧ p.W.cell? ⟨w.heap.size, 4, none⟩ = some (.bool b) ∧ p.W.cell? ⟨w.heap.size, 5, none⟩ = some (.int .i32 n)
    ∧ p.W.cell? ⟨w.heap.size + 1, 0, none⟩ = some (.bool f0) ∧ p.W.cell? ⟨w.heap.size + 1, 1, none⟩ = some (.bool f1) ∧ p.W.cell? ⟨w.heap.size + 1, 2, none⟩ = some (.bool f2) ∧ p.W.cell? ⟨w.heap.size + 1, 3, none⟩ = some (.bool f3) ∧ p.W.cell? ⟨w.heap.size + 1, 4, none⟩ = some (.bool f4) := by
  have z := size_new w #[.int .u8 o, .int .u8 d, .int .u8 s, .int .u8 t, .bool b, .int .i32 n] 106
  refine ⟨cell_new_grown p.g1 rfl, cell_new_grown p.g1 rfl, cell_new_grown p.g1 rfl, cell_new_grown p.g1 rfl, cell_new_grown p.g1 rfl, cell_new_grown p.g1 rfl, ?_, ?_, ?_, ?_, ?_⟩
  all_goals (rw [← z]; exact cell_new_grown p.g rfl)
set_option maxHeartbeats 2000000 in
theorem valid1 (o d s t : Int) (b : Bool) (n : Int) (f0 f1 f2 f3 f4 : Bool) (w : World) (ho : 0 ≤ o ∧ o ≤ 255) (hd : 0 ≤ d ∧ d ≤ 255) (hs : 0 ≤ s ∧ s ≤ 255) (ht : 0 ≤ t ∧ t ≤ 255) (h1 : iF b f2 f3 = false) :
    Calls Tryz.prog 186 #[.agg #[.int .u8 o, .int .u8 d, .int .u8 s, .int .u8 t, .bool b, .int .i32 n], .agg #[.bool f0, .bool f1, .bool f2, .bool f3, .bool f4]] w
      fun e w' => e = .returned (.bool false) ∧ Grown w w' := by
  have C := VW.cells w o d s t b n f0 f1 f2 f3 f4
  have c0 := fun p => (C p).1
  have c1 := fun p => (C p).2.1
  have c2 := fun p => (C p).2.2.1
  have c3 := fun p => (C p).2.2.2.1
  have c4 := fun p => (C p).2.2.2.2.1
  have c5 := fun p => (C p).2.2.2.2.2.1
  have e0 := fun p => (C p).2.2.2.2.2.2.1
  have e1 := fun p => (C p).2.2.2.2.2.2.2.1
  have e2 := fun p => (C p).2.2.2.2.2.2.2.2.1
  have e3 := fun p => (C p).2.2.2.2.2.2.2.2.2.1
  have e4 := fun p => (C p).2.2.2.2.2.2.2.2.2.2
  clear C
  have hne : Nonempty (VW w o d s t b n f0 f1 f2 f3 f4) := ⟨⟨_, Grown.refl _⟩⟩
  go_enter Tryz.func186, Tryz.ntmps186
  go_wp2_with fail
  refine wp_region_class (fun p : VW w o d s t b n f0 f1 f2 f3 f4 => p.W) (by kernel_rfl) (by kernel_rfl) ⟨⟨_, (Grown.refl _).drew⟩, rfl⟩ ?_
  repeat (go_big_quiet_step (first
    | (go_at_call 248; refine (isfits_is _ _ _ _ _ _ _ _ h1).mono ?_; rintro e w1 ⟨rfl, hg⟩; exact ⟨rfl, ⟨w1, grown_trans (VW.g _) hg⟩, rfl⟩)))
  refine wpQuiet_nil ?_
  intro _ hw
  obtain ⟨p, hw⟩ := hw
  subst hw
  go_wp2
  go_ret
  exact ⟨rfl, p.g0⟩
set_option maxHeartbeats 2000000 in
theorem valid2 (o d s t : Int) (b : Bool) (n : Int) (f0 f1 f2 f3 f4 : Bool) (w : World) (ho : 0 ≤ o ∧ o ≤ 255) (hd : 0 ≤ d ∧ d ≤ 255) (hs : 0 ≤ s ∧ s ≤ 255) (ht : 0 ≤ t ∧ t ≤ 255) (h1 : iF b f2 f3 = true) (h2 : rf d f0 (hR o) = false) :
    Calls Tryz.prog 186 #[.agg #[.int .u8 o, .int .u8 d, .int .u8 s, .int .u8 t, .bool b, .int .i32 n], .agg #[.bool f0, .bool f1, .bool f2, .bool f3, .bool f4]] w
      fun e w' => e = .returned (.bool false) ∧ Grown w w' := by
  have C := VW.cells w o d s t b n f0 f1 f2 f3 f4
  have c0 := fun p => (C p).1
  have c1 := fun p => (C p).2.1
  have c2 := fun p => (C p).2.2.1
  have c3 := fun p => (C p).2.2.2.1
  have c4 := fun p => (C p).2.2.2.2.1
  have c5 := fun p => (C p).2.2.2.2.2.1
  have e0 := fun p => (C p).2.2.2.2.2.2.1
  have e1 := fun p => (C p).2.2.2.2.2.2.2.1
  have e2 := fun p => (C p).2.2.2.2.2.2.2.2.1
  have e3 := fun p => (C p).2.2.2.2.2.2.2.2.2.1
  have e4 := fun p => (C p).2.2.2.2.2.2.2.2.2.2
  clear C
  have hne : Nonempty (VW w o d s t b n f0 f1 f2 f3 f4) := ⟨⟨_, Grown.refl _⟩⟩
  go_enter Tryz.func186, Tryz.ntmps186
  go_wp2_with fail
  refine wp_region_class (fun p : VW w o d s t b n f0 f1 f2 f3 f4 => p.W) (by kernel_rfl) (by kernel_rfl) ⟨⟨_, (Grown.refl _).drew⟩, rfl⟩ ?_
  repeat (go_big_quiet_step (first
    | (go_at_call 248; refine (isfits_is _ _ _ _ _ _ _ _ h1).mono ?_; rintro e w1 ⟨rfl, hg⟩; exact ⟨rfl, ⟨w1, grown_trans (VW.g _) hg⟩, rfl⟩)
    | (go_at_call 250; refine (highest_any _ _ ho).mono ?_; rintro e w1 ⟨rfl, rfl⟩; exact ⟨rfl, _, rfl⟩)
    | (go_at_call_of 249 (Value.int IntKind.u8 d); refine (rfits_is _ _ _ _ _ hd h2).mono ?_; rintro e w1 ⟨rfl, rfl⟩; exact ⟨rfl, _, rfl⟩)))
  refine wpQuiet_nil ?_
  intro _ hw
  obtain ⟨p, hw⟩ := hw
  subst hw
  go_wp2
  go_ret
  exact ⟨rfl, p.g0⟩
set_option maxHeartbeats 2000000 in
theorem valid3 (o d s t : Int) (b : Bool) (n : Int) (f0 f1 f2 f3 f4 : Bool) (w : World) (ho : 0 ≤ o ∧ o ≤ 255) (hd : 0 ≤ d ∧ d ≤ 255) (hs : 0 ≤ s ∧ s ≤ 255) (ht : 0 ≤ t ∧ t ≤ 255) (h1 : iF b f2 f3 = true) (h2 : rf d f0 (hR o) = true) (h3 : rf s f1 31 = false) :
    Calls Tryz.prog 186 #[.agg #[.int .u8 o, .int .u8 d, .int .u8 s, .int .u8 t, .bool b, .int .i32 n], .agg #[.bool f0, .bool f1, .bool f2, .bool f3, .bool f4]] w
      fun e w' => e = .returned (.bool false) ∧ Grown w w' := by
  have C := VW.cells w o d s t b n f0 f1 f2 f3 f4
  have c0 := fun p => (C p).1
  have c1 := fun p => (C p).2.1
  have c2 := fun p => (C p).2.2.1
  have c3 := fun p => (C p).2.2.2.1
  have c4 := fun p => (C p).2.2.2.2.1
  have c5 := fun p => (C p).2.2.2.2.2.1
  have e0 := fun p => (C p).2.2.2.2.2.2.1
  have e1 := fun p => (C p).2.2.2.2.2.2.2.1
  have e2 := fun p => (C p).2.2.2.2.2.2.2.2.1
  have e3 := fun p => (C p).2.2.2.2.2.2.2.2.2.1
  have e4 := fun p => (C p).2.2.2.2.2.2.2.2.2.2
  clear C
  have hne : Nonempty (VW w o d s t b n f0 f1 f2 f3 f4) := ⟨⟨_, Grown.refl _⟩⟩
  go_enter Tryz.func186, Tryz.ntmps186
  go_wp2_with fail
  refine wp_region_class (fun p : VW w o d s t b n f0 f1 f2 f3 f4 => p.W) (by kernel_rfl) (by kernel_rfl) ⟨⟨_, (Grown.refl _).drew⟩, rfl⟩ ?_
  repeat (go_big_quiet_step (first
    | (go_at_call 248; refine (isfits_is _ _ _ _ _ _ _ _ h1).mono ?_; rintro e w1 ⟨rfl, hg⟩; exact ⟨rfl, ⟨w1, grown_trans (VW.g _) hg⟩, rfl⟩)
    | (go_at_call 250; refine (highest_any _ _ ho).mono ?_; rintro e w1 ⟨rfl, rfl⟩; exact ⟨rfl, _, rfl⟩)
    | (go_at_call_of 249 (Value.int IntKind.u8 d); refine (rfits_is _ _ _ _ _ hd h2).mono ?_; rintro e w1 ⟨rfl, rfl⟩; exact ⟨rfl, _, rfl⟩)
    | (go_at_call_of 249 (Value.int IntKind.u8 s); refine (rfits_is _ _ _ _ _ hs h3).mono ?_; rintro e w1 ⟨rfl, rfl⟩; exact ⟨rfl, _, rfl⟩)))
  refine wpQuiet_nil ?_
  intro _ hw
  obtain ⟨p, hw⟩ := hw
  subst hw
  go_wp2
  go_ret
  exact ⟨rfl, p.g0⟩
set_option maxHeartbeats 2000000 in
theorem valid4f (o d s t : Int) (b : Bool) (n : Int) (f0 f1 f3 f4 : Bool) (w : World) (ho : 0 ≤ o ∧ o ≤ 255) (hd : 0 ≤ d ∧ d ≤ 255) (hs : 0 ≤ s ∧ s ≤ 255) (ht : 0 ≤ t ∧ t ≤ 255) (h1 : iF b false f3 = true) (h2 : rf d f0 (hR o) = true) (h3 : rf s f1 31 = true) (h4 : rf t (false) 31 = false) :
    Calls Tryz.prog 186 #[.agg #[.int .u8 o, .int .u8 d, .int .u8 s, .int .u8 t, .bool b, .int .i32 n], .agg #[.bool f0, .bool f1, .bool false, .bool f3, .bool f4]] w
      fun e w' => e = .returned (.bool false) ∧ Grown w w' := by
  have C := VW.cells w o d s t b n f0 f1 false f3 f4
  have c0 := fun p => (C p).1
  have c1 := fun p => (C p).2.1
  have c2 := fun p => (C p).2.2.1
  have c3 := fun p => (C p).2.2.2.1
  have c4 := fun p => (C p).2.2.2.2.1
  have c5 := fun p => (C p).2.2.2.2.2.1
  have e0 := fun p => (C p).2.2.2.2.2.2.1
  have e1 := fun p => (C p).2.2.2.2.2.2.2.1
  have e2 := fun p => (C p).2.2.2.2.2.2.2.2.1
  have e3 := fun p => (C p).2.2.2.2.2.2.2.2.2.1
  have e4 := fun p => (C p).2.2.2.2.2.2.2.2.2.2
  clear C
  have hne : Nonempty (VW w o d s t b n f0 f1 false f3 f4) := ⟨⟨_, Grown.refl _⟩⟩
  go_enter Tryz.func186, Tryz.ntmps186
  go_wp2_with fail
  refine wp_region_class (fun p : VW w o d s t b n f0 f1 false f3 f4 => p.W) (by kernel_rfl) (by kernel_rfl) ⟨⟨_, (Grown.refl _).drew⟩, rfl⟩ ?_
  repeat (go_big_quiet_step (first
    | (go_at_call 248; refine (isfits_is _ _ _ _ _ _ _ _ h1).mono ?_; rintro e w1 ⟨rfl, hg⟩; exact ⟨rfl, ⟨w1, grown_trans (VW.g _) hg⟩, rfl⟩)
    | (go_at_call 250; refine (highest_any _ _ ho).mono ?_; rintro e w1 ⟨rfl, rfl⟩; exact ⟨rfl, _, rfl⟩)
    | (go_at_call_of 249 (Value.int IntKind.u8 d); refine (rfits_is _ _ _ _ _ hd h2).mono ?_; rintro e w1 ⟨rfl, rfl⟩; exact ⟨rfl, _, rfl⟩)
    | (go_at_call_of 249 (Value.int IntKind.u8 s); refine (rfits_is _ _ _ _ _ hs h3).mono ?_; rintro e w1 ⟨rfl, rfl⟩; exact ⟨rfl, _, rfl⟩)
    | (go_at_call_of 249 (Value.int IntKind.u8 t); refine (rfits_is _ _ _ _ _ ht h4).mono ?_; rintro e w1 ⟨rfl, rfl⟩; exact ⟨rfl, _, rfl⟩)))
  refine wpQuiet_nil ?_
  intro _ hw
  obtain ⟨p, hw⟩ := hw
  subst hw
  go_wp2
  go_ret
  exact ⟨rfl, p.g0⟩
set_option maxHeartbeats 2000000 in
theorem valid5f (o d s t : Int) (b : Bool) (n : Int) (f0 f1 f3 f4 : Bool) (w : World) (ho : 0 ≤ o ∧ o ≤ 255) (hd : 0 ≤ d ∧ d ≤ 255) (hs : 0 ≤ s ∧ s ≤ 255) (ht : 0 ≤ t ∧ t ≤ 255) (h1 : iF b false f3 = true) (h2 : rf d f0 (hR o) = true) (h3 : rf s f1 31 = true) (h4 : rf t (false) 31 = true) (h5 : nF o b n = false) :
    Calls Tryz.prog 186 #[.agg #[.int .u8 o, .int .u8 d, .int .u8 s, .int .u8 t, .bool b, .int .i32 n], .agg #[.bool f0, .bool f1, .bool false, .bool f3, .bool f4]] w
      fun e w' => e = .returned (.bool false) ∧ Grown w w' := by
  have C := VW.cells w o d s t b n f0 f1 false f3 f4
  have c0 := fun p => (C p).1
  have c1 := fun p => (C p).2.1
  have c2 := fun p => (C p).2.2.1
  have c3 := fun p => (C p).2.2.2.1
  have c4 := fun p => (C p).2.2.2.2.1
  have c5 := fun p => (C p).2.2.2.2.2.1
  have e0 := fun p => (C p).2.2.2.2.2.2.1
  have e1 := fun p => (C p).2.2.2.2.2.2.2.1
  have e2 := fun p => (C p).2.2.2.2.2.2.2.2.1
  have e3 := fun p => (C p).2.2.2.2.2.2.2.2.2.1
  have e4 := fun p => (C p).2.2.2.2.2.2.2.2.2.2
  clear C
  have hne : Nonempty (VW w o d s t b n f0 f1 false f3 f4) := ⟨⟨_, Grown.refl _⟩⟩
  go_enter Tryz.func186, Tryz.ntmps186
  go_wp2_with fail
  refine wp_region_class (fun p : VW w o d s t b n f0 f1 false f3 f4 => p.W) (by kernel_rfl) (by kernel_rfl) ⟨⟨_, (Grown.refl _).drew⟩, rfl⟩ ?_
  repeat (go_big_quiet_step (first
    | (go_at_call 248; refine (isfits_is _ _ _ _ _ _ _ _ h1).mono ?_; rintro e w1 ⟨rfl, hg⟩; exact ⟨rfl, ⟨w1, grown_trans (VW.g _) hg⟩, rfl⟩)
    | (go_at_call 250; refine (highest_any _ _ ho).mono ?_; rintro e w1 ⟨rfl, rfl⟩; exact ⟨rfl, _, rfl⟩)
    | (go_at_call_of 249 (Value.int IntKind.u8 d); refine (rfits_is _ _ _ _ _ hd h2).mono ?_; rintro e w1 ⟨rfl, rfl⟩; exact ⟨rfl, _, rfl⟩)
    | (go_at_call_of 249 (Value.int IntKind.u8 s); refine (rfits_is _ _ _ _ _ hs h3).mono ?_; rintro e w1 ⟨rfl, rfl⟩; exact ⟨rfl, _, rfl⟩)
    | (go_at_call_of 249 (Value.int IntKind.u8 t); refine (rfits_is _ _ _ _ _ ht h4).mono ?_; rintro e w1 ⟨rfl, rfl⟩; exact ⟨rfl, _, rfl⟩)
    | (go_at_call 251; refine (nfits_is _ _ _ _ _ _ _ _ ho h5).mono ?_; rintro e w1 ⟨rfl, hg⟩; exact ⟨rfl, ⟨w1, grown_trans (VW.g _) hg⟩, rfl⟩)))
  refine wpQuiet_nil ?_
  intro _ hw
  obtain ⟨p, hw⟩ := hw
  subst hw
  go_wp2
  go_ret
  exact ⟨rfl, p.g0⟩
set_option maxHeartbeats 2000000 in
theorem valid6f (o d s t : Int) (b : Bool) (n : Int) (f0 f1 f3 f4 : Bool) (w : World) (ho : 0 ≤ o ∧ o ≤ 255) (hd : 0 ≤ d ∧ d ≤ 255) (hs : 0 ≤ s ∧ s ≤ 255) (ht : 0 ≤ t ∧ t ≤ 255) (h1 : iF b false f3 = true) (h2 : rf d f0 (hR o) = true) (h3 : rf s f1 31 = true) (h4 : rf t (false) 31 = true) (h5 : nF o b n = true) :
    Calls Tryz.prog 186 #[.agg #[.int .u8 o, .int .u8 d, .int .u8 s, .int .u8 t, .bool b, .int .i32 n], .agg #[.bool f0, .bool f1, .bool false, .bool f3, .bool f4]] w
      fun e w' => e = .returned (.bool true) ∧ Grown w w' := by
  have C := VW.cells w o d s t b n f0 f1 false f3 f4
  have c0 := fun p => (C p).1
  have c1 := fun p => (C p).2.1
  have c2 := fun p => (C p).2.2.1
  have c3 := fun p => (C p).2.2.2.1
  have c4 := fun p => (C p).2.2.2.2.1
  have c5 := fun p => (C p).2.2.2.2.2.1
  have e0 := fun p => (C p).2.2.2.2.2.2.1
  have e1 := fun p => (C p).2.2.2.2.2.2.2.1
  have e2 := fun p => (C p).2.2.2.2.2.2.2.2.1
  have e3 := fun p => (C p).2.2.2.2.2.2.2.2.2.1
  have e4 := fun p => (C p).2.2.2.2.2.2.2.2.2.2
  clear C
  have hne : Nonempty (VW w o d s t b n f0 f1 false f3 f4) := ⟨⟨_, Grown.refl _⟩⟩
  go_enter Tryz.func186, Tryz.ntmps186
  go_wp2_with fail
  refine wp_region_class (fun p : VW w o d s t b n f0 f1 false f3 f4 => p.W) (by kernel_rfl) (by kernel_rfl) ⟨⟨_, (Grown.refl _).drew⟩, rfl⟩ ?_
  repeat (go_big_quiet_step (first
    | (go_at_call 248; refine (isfits_is _ _ _ _ _ _ _ _ h1).mono ?_; rintro e w1 ⟨rfl, hg⟩; exact ⟨rfl, ⟨w1, grown_trans (VW.g _) hg⟩, rfl⟩)
    | (go_at_call 250; refine (highest_any _ _ ho).mono ?_; rintro e w1 ⟨rfl, rfl⟩; exact ⟨rfl, _, rfl⟩)
    | (go_at_call_of 249 (Value.int IntKind.u8 d); refine (rfits_is _ _ _ _ _ hd h2).mono ?_; rintro e w1 ⟨rfl, rfl⟩; exact ⟨rfl, _, rfl⟩)
    | (go_at_call_of 249 (Value.int IntKind.u8 s); refine (rfits_is _ _ _ _ _ hs h3).mono ?_; rintro e w1 ⟨rfl, rfl⟩; exact ⟨rfl, _, rfl⟩)
    | (go_at_call_of 249 (Value.int IntKind.u8 t); refine (rfits_is _ _ _ _ _ ht h4).mono ?_; rintro e w1 ⟨rfl, rfl⟩; exact ⟨rfl, _, rfl⟩)
    | (go_at_call 251; refine (nfits_is _ _ _ _ _ _ _ _ ho h5).mono ?_; rintro e w1 ⟨rfl, hg⟩; exact ⟨rfl, ⟨w1, grown_trans (VW.g _) hg⟩, rfl⟩)))
  refine wpQuiet_nil ?_
  intro _ hw
  obtain ⟨p, hw⟩ := hw
  subst hw
  go_wp2
  go_ret
  exact ⟨rfl, p.g0⟩
set_option maxHeartbeats 2000000 in
theorem valid4t (o d s t : Int) (b : Bool) (n : Int) (f0 f1 f3 f4 : Bool) (w : World) (ho : 0 ≤ o ∧ o ≤ 255) (hd : 0 ≤ d ∧ d ≤ 255) (hs : 0 ≤ s ∧ s ≤ 255) (ht : 0 ≤ t ∧ t ≤ 255) (h1 : iF b true f3 = true) (h2 : rf d f0 (hR o) = true) (h3 : rf s f1 31 = true) (h4 : rf t (!b) 31 = false) :
    Calls Tryz.prog 186 #[.agg #[.int .u8 o, .int .u8 d, .int .u8 s, .int .u8 t, .bool b, .int .i32 n], .agg #[.bool f0, .bool f1, .bool true, .bool f3, .bool f4]] w
      fun e w' => e = .returned (.bool false) ∧ Grown w w' := by
  have C := VW.cells w o d s t b n f0 f1 true f3 f4
  have c0 := fun p => (C p).1
  have c1 := fun p => (C p).2.1
  have c2 := fun p => (C p).2.2.1
  have c3 := fun p => (C p).2.2.2.1
  have c4 := fun p => (C p).2.2.2.2.1
  have c5 := fun p => (C p).2.2.2.2.2.1
  have e0 := fun p => (C p).2.2.2.2.2.2.1
  have e1 := fun p => (C p).2.2.2.2.2.2.2.1
  have e2 := fun p => (C p).2.2.2.2.2.2.2.2.1
  have e3 := fun p => (C p).2.2.2.2.2.2.2.2.2.1
  have e4 := fun p => (C p).2.2.2.2.2.2.2.2.2.2
  clear C
  have hne : Nonempty (VW w o d s t b n f0 f1 true f3 f4) := ⟨⟨_, Grown.refl _⟩⟩
  go_enter Tryz.func186, Tryz.ntmps186
  go_wp2_with fail
  refine wp_region_class (fun p : VW w o d s t b n f0 f1 true f3 f4 => p.W) (by kernel_rfl) (by kernel_rfl) ⟨⟨_, (Grown.refl _).drew⟩, rfl⟩ ?_
  repeat (go_big_quiet_step (first
    | (go_at_call 248; refine (isfits_is _ _ _ _ _ _ _ _ h1).mono ?_; rintro e w1 ⟨rfl, hg⟩; exact ⟨rfl, ⟨w1, grown_trans (VW.g _) hg⟩, rfl⟩)
    | (go_at_call 250; refine (highest_any _ _ ho).mono ?_; rintro e w1 ⟨rfl, rfl⟩; exact ⟨rfl, _, rfl⟩)
    | (go_at_call_of 249 (Value.int IntKind.u8 d); refine (rfits_is _ _ _ _ _ hd h2).mono ?_; rintro e w1 ⟨rfl, rfl⟩; exact ⟨rfl, _, rfl⟩)
    | (go_at_call_of 249 (Value.int IntKind.u8 s); refine (rfits_is _ _ _ _ _ hs h3).mono ?_; rintro e w1 ⟨rfl, rfl⟩; exact ⟨rfl, _, rfl⟩)
    | (go_at_call_of 249 (Value.int IntKind.u8 t); refine (rfits_is _ _ _ _ _ ht h4).mono ?_; rintro e w1 ⟨rfl, rfl⟩; exact ⟨rfl, _, rfl⟩)))
  refine wpQuiet_nil ?_
  intro _ hw
  obtain ⟨p, hw⟩ := hw
  subst hw
  go_wp2
  go_ret
  exact ⟨rfl, p.g0⟩
set_option maxHeartbeats 2000000 in
theorem valid5t (o d s t : Int) (b : Bool) (n : Int) (f0 f1 f3 f4 : Bool) (w : World) (ho : 0 ≤ o ∧ o ≤ 255) (hd : 0 ≤ d ∧ d ≤ 255) (hs : 0 ≤ s ∧ s ≤ 255) (ht : 0 ≤ t ∧ t ≤ 255) (h1 : iF b true f3 = true) (h2 : rf d f0 (hR o) = true) (h3 : rf s f1 31 = true) (h4 : rf t (!b) 31 = true) (h5 : nF o b n = false) :
    Calls Tryz.prog 186 #[.agg #[.int .u8 o, .int .u8 d, .int .u8 s, .int .u8 t, .bool b, .int .i32 n], .agg #[.bool f0, .bool f1, .bool true, .bool f3, .bool f4]] w
      fun e w' => e = .returned (.bool false) ∧ Grown w w' := by
  have C := VW.cells w o d s t b n f0 f1 true f3 f4
  have c0 := fun p => (C p).1
  have c1 := fun p => (C p).2.1
  have c2 := fun p => (C p).2.2.1
  have c3 := fun p => (C p).2.2.2.1
  have c4 := fun p => (C p).2.2.2.2.1
  have c5 := fun p => (C p).2.2.2.2.2.1
  have e0 := fun p => (C p).2.2.2.2.2.2.1
  have e1 := fun p => (C p).2.2.2.2.2.2.2.1
  have e2 := fun p => (C p).2.2.2.2.2.2.2.2.1
  have e3 := fun p => (C p).2.2.2.2.2.2.2.2.2.1
  have e4 := fun p => (C p).2.2.2.2.2.2.2.2.2.2
  clear C
  have hne : Nonempty (VW w o d s t b n f0 f1 true f3 f4) := ⟨⟨_, Grown.refl _⟩⟩
  go_enter Tryz.func186, Tryz.ntmps186
  go_wp2_with fail
  refine wp_region_class (fun p : VW w o d s t b n f0 f1 true f3 f4 => p.W) (by kernel_rfl) (by kernel_rfl) ⟨⟨_, (Grown.refl _).drew⟩, rfl⟩ ?_
  repeat (go_big_quiet_step (first
    | (go_at_call 248; refine (isfits_is _ _ _ _ _ _ _ _ h1).mono ?_; rintro e w1 ⟨rfl, hg⟩; exact ⟨rfl, ⟨w1, grown_trans (VW.g _) hg⟩, rfl⟩)
    | (go_at_call 250; refine (highest_any _ _ ho).mono ?_; rintro e w1 ⟨rfl, rfl⟩; exact ⟨rfl, _, rfl⟩)
    | (go_at_call_of 249 (Value.int IntKind.u8 d); refine (rfits_is _ _ _ _ _ hd h2).mono ?_; rintro e w1 ⟨rfl, rfl⟩; exact ⟨rfl, _, rfl⟩)
    | (go_at_call_of 249 (Value.int IntKind.u8 s); refine (rfits_is _ _ _ _ _ hs h3).mono ?_; rintro e w1 ⟨rfl, rfl⟩; exact ⟨rfl, _, rfl⟩)
    | (go_at_call_of 249 (Value.int IntKind.u8 t); refine (rfits_is _ _ _ _ _ ht h4).mono ?_; rintro e w1 ⟨rfl, rfl⟩; exact ⟨rfl, _, rfl⟩)
    | (go_at_call 251; refine (nfits_is _ _ _ _ _ _ _ _ ho h5).mono ?_; rintro e w1 ⟨rfl, hg⟩; exact ⟨rfl, ⟨w1, grown_trans (VW.g _) hg⟩, rfl⟩)))
  refine wpQuiet_nil ?_
  intro _ hw
  obtain ⟨p, hw⟩ := hw
  subst hw
  go_wp2
  go_ret
  exact ⟨rfl, p.g0⟩
set_option maxHeartbeats 2000000 in
theorem valid6t (o d s t : Int) (b : Bool) (n : Int) (f0 f1 f3 f4 : Bool) (w : World) (ho : 0 ≤ o ∧ o ≤ 255) (hd : 0 ≤ d ∧ d ≤ 255) (hs : 0 ≤ s ∧ s ≤ 255) (ht : 0 ≤ t ∧ t ≤ 255) (h1 : iF b true f3 = true) (h2 : rf d f0 (hR o) = true) (h3 : rf s f1 31 = true) (h4 : rf t (!b) 31 = true) (h5 : nF o b n = true) :
    Calls Tryz.prog 186 #[.agg #[.int .u8 o, .int .u8 d, .int .u8 s, .int .u8 t, .bool b, .int .i32 n], .agg #[.bool f0, .bool f1, .bool true, .bool f3, .bool f4]] w
      fun e w' => e = .returned (.bool true) ∧ Grown w w' := by
  have C := VW.cells w o d s t b n f0 f1 true f3 f4
  have c0 := fun p => (C p).1
  have c1 := fun p => (C p).2.1
  have c2 := fun p => (C p).2.2.1
  have c3 := fun p => (C p).2.2.2.1
  have c4 := fun p => (C p).2.2.2.2.1
  have c5 := fun p => (C p).2.2.2.2.2.1
  have e0 := fun p => (C p).2.2.2.2.2.2.1
  have e1 := fun p => (C p).2.2.2.2.2.2.2.1
  have e2 := fun p => (C p).2.2.2.2.2.2.2.2.1
  have e3 := fun p => (C p).2.2.2.2.2.2.2.2.2.1
  have e4 := fun p => (C p).2.2.2.2.2.2.2.2.2.2
  clear C
  have hne : Nonempty (VW w o d s t b n f0 f1 true f3 f4) := ⟨⟨_, Grown.refl _⟩⟩
  go_enter Tryz.func186, Tryz.ntmps186
  go_wp2_with fail
  refine wp_region_class (fun p : VW w o d s t b n f0 f1 true f3 f4 => p.W) (by kernel_rfl) (by kernel_rfl) ⟨⟨_, (Grown.refl _).drew⟩, rfl⟩ ?_
  repeat (go_big_quiet_step (first
    | (go_at_call 248; refine (isfits_is _ _ _ _ _ _ _ _ h1).mono ?_; rintro e w1 ⟨rfl, hg⟩; exact ⟨rfl, ⟨w1, grown_trans (VW.g _) hg⟩, rfl⟩)
    | (go_at_call 250; refine (highest_any _ _ ho).mono ?_; rintro e w1 ⟨rfl, rfl⟩; exact ⟨rfl, _, rfl⟩)
    | (go_at_call_of 249 (Value.int IntKind.u8 d); refine (rfits_is _ _ _ _ _ hd h2).mono ?_; rintro e w1 ⟨rfl, rfl⟩; exact ⟨rfl, _, rfl⟩)
    | (go_at_call_of 249 (Value.int IntKind.u8 s); refine (rfits_is _ _ _ _ _ hs h3).mono ?_; rintro e w1 ⟨rfl, rfl⟩; exact ⟨rfl, _, rfl⟩)
    | (go_at_call_of 249 (Value.int IntKind.u8 t); refine (rfits_is _ _ _ _ _ ht h4).mono ?_; rintro e w1 ⟨rfl, rfl⟩; exact ⟨rfl, _, rfl⟩)
    | (go_at_call 251; refine (nfits_is _ _ _ _ _ _ _ _ ho h5).mono ?_; rintro e w1 ⟨rfl, hg⟩; exact ⟨rfl, ⟨w1, grown_trans (VW.g _) hg⟩, rfl⟩)))
  refine wpQuiet_nil ?_
  intro _ hw
  obtain ⟨p, hw⟩ := hw
  subst hw
  go_wp2
  go_ret
  exact ⟨rfl, p.g0⟩
/-- What valid comes to. -/
theorem valid_any (o d s t : Int) (b : Bool) (n : Int) (f0 f1 f2 f3 f4 : Bool) (w : World) (ho : 0 ≤ o ∧ o ≤ 255) (hd : 0 ≤ d ∧ d ≤ 255) (hs : 0 ≤ s ∧ s ≤ 255) (ht : 0 ≤ t ∧ t ≤ 255) :
    Calls Tryz.prog 186 #[.agg #[.int .u8 o, .int .u8 d, .int .u8 s, .int .u8 t, .bool b, .int .i32 n], .agg #[.bool f0, .bool f1, .bool f2, .bool f3, .bool f4]] w
      fun e w' => e = .returned (.bool (iF b f2 f3 && rf d f0 (hR o) && rf s f1 31 && rf t (f2 && !b) 31 && nF o b n)) ∧ Grown w w' := by
  cases h1 : iF b f2 f3
  · exact valid1 o d s t b n f0 f1 f2 f3 f4 w ho hd hs ht h1
  cases h2 : rf d f0 (hR o)
  · exact valid2 o d s t b n f0 f1 f2 f3 f4 w ho hd hs ht h1 h2
  cases h3 : rf s f1 31
  · exact valid3 o d s t b n f0 f1 f2 f3 f4 w ho hd hs ht h1 h2 h3
  cases f2
  · cases h4 : rf t (false && !b) 31
    · exact valid4f o d s t b n f0 f1 f3 f4 w ho hd hs ht h1 h2 h3 h4
    cases h5 : nF o b n
    · exact valid5f o d s t b n f0 f1 f3 f4 w ho hd hs ht h1 h2 h3 h4 h5
    · exact valid6f o d s t b n f0 f1 f3 f4 w ho hd hs ht h1 h2 h3 h4 h5
  · cases h4 : rf t (true && !b) 31
    · exact valid4t o d s t b n f0 f1 f3 f4 w ho hd hs ht h1 h2 h3 h4
    cases h5 : nF o b n
    · exact valid5t o d s t b n f0 f1 f3 f4 w ho hd hs ht h1 h2 h3 h4 h5
    · exact valid6t o d s t b n f0 f1 f3 f4 w ho hd hs ht h1 h2 h3 h4 h5
end Go.Proofs.YtmpagjijjahohaaGreatDoor.I2
namespace Go.Proofs.YtmpagjijjahohaaGreatDoor.I2
open Go.RowKit
theorem classes (o : Int) : (Ka o) ∨ (Kb o) ∨ (o = 15) ∨ (o = 17) ∨ (o = 18) ∨ (o = 26 ∨ o = 28 ∨ o = 34) ∨ (o = 30) ∨ (o = 31) ∨ (o = 33) ∨ (o = 35 ∨ o = 36) ∨ (o = 32) ∨ (o = 37) ∨ (o < 1 ∨ 37 < o) := by
  unfold Ka Kb
  omega
/-- What valid asks. -/
def vl (o d s t : Int) (b : Bool) (n : Int) : Bool := fX o && (iF b (fT o) (fN o) && rf d (fD o) (hR o) && rf s (fS o) 31 && rf t (fT o && !b) 31 && nF o b n)
theorem vl_may (o d s t : Int) (b : Bool) (n : Int) (hd : 0 ≤ d ∧ d ≤ 255) (hs : 0 ≤ s ∧ s ≤ 255) (ht : 0 ≤ t ∧ t ≤ 255) : vl o d s t b n = may o d s t b n := by
  rcases classes o with h | h | h | h | h | h | h | h | h | h | h | h | h
  · unfold Ka at h
    have efD : fD o = true := by apply decide_eq_true; (try unfold Ka); (try unfold Kb); (try unfold Wd); omega
    have efS : fS o = true := by apply decide_eq_true; (try unfold Ka); (try unfold Kb); (try unfold Wd); omega
    have efT : fT o = true := by apply decide_eq_true; (try unfold Ka); (try unfold Kb); (try unfold Wd); omega
    have efN : fN o = true := by apply decide_eq_true; (try unfold Ka); (try unfold Kb); (try unfold Wd); omega
    have efW : fW o = false := by apply decide_eq_false; (try unfold Ka); (try unfold Kb); (try unfold Wd); omega
    have efX : fX o = true := by apply decide_eq_true; (try unfold Ka); (try unfold Kb); (try unfold Wd); omega
    have ehR : hR o = 31 := by unfold hR; (repeat (first | rw [if_pos (by omega)] | rw [if_neg (by omega)]))
    have elo : lo o = -16384 := by unfold lo; (repeat (first | rw [if_pos (by omega)] | rw [if_neg (by omega)]))
    have ehi : hi o = 16383 := by unfold hi; (repeat (first | rw [if_pos (by omega)] | rw [if_neg (by omega)]))
    unfold vl
    rw [efD, efS, efT, efN, efX, ehR]
    cases b
    · rw [Bool.eq_iff_iff, may_f]
      constructor
      · intro h0
        simp [iF, rf, nF] at h0
        all_goals (apply decide_eq_true; unfold MayF Ka Kb; refine ⟨by omega, ?_⟩; repeat (first | (left; omega; done) | right)); (try omega)
      · intro h0
        obtain ⟨h2, h1⟩ := of_decide_eq_true h0
        clear h0
        unfold Ka Kb at h1
        rcases h1 with h1 | h1 | h1 | h1 | h1
        all_goals first | (exfalso; omega; done) | (simp [iF, rf, nF]; omega; done)
    · rw [Bool.eq_iff_iff, may_t]
      constructor
      · intro h0
        simp [iF, rf, nF, elo, ehi] at h0
        all_goals (apply decide_eq_true; unfold MayT Ka Kb; refine ⟨by omega, ?_⟩; repeat (first | (left; omega; done) | right)); (try omega)
      · intro h0
        obtain ⟨h2, h1⟩ := of_decide_eq_true h0
        clear h0
        unfold Ka Kb at h1
        rcases h1 with h1 | h1 | h1 | h1 | h1 | h1 | h1 | h1 | h1
        all_goals first | (exfalso; omega; done) | (simp [iF, rf, nF, elo, ehi]; omega; done)
  · unfold Kb at h
    have efD : fD o = false := by apply decide_eq_false; (try unfold Ka); (try unfold Kb); (try unfold Wd); omega
    have efS : fS o = true := by apply decide_eq_true; (try unfold Ka); (try unfold Kb); (try unfold Wd); omega
    have efT : fT o = true := by apply decide_eq_true; (try unfold Ka); (try unfold Kb); (try unfold Wd); omega
    have efN : fN o = true := by apply decide_eq_true; (try unfold Ka); (try unfold Kb); (try unfold Wd); omega
    have efW : fW o = false := by apply decide_eq_false; (try unfold Ka); (try unfold Kb); (try unfold Wd); omega
    have efX : fX o = true := by apply decide_eq_true; (try unfold Ka); (try unfold Kb); (try unfold Wd); omega
    have ehR : hR o = 31 := by unfold hR; (repeat (first | rw [if_pos (by omega)] | rw [if_neg (by omega)]))
    have elo : lo o = -16384 := by unfold lo; (repeat (first | rw [if_pos (by omega)] | rw [if_neg (by omega)]))
    have ehi : hi o = 16383 := by unfold hi; (repeat (first | rw [if_pos (by omega)] | rw [if_neg (by omega)]))
    unfold vl
    rw [efD, efS, efT, efN, efX, ehR]
    cases b
    · rw [Bool.eq_iff_iff, may_f]
      constructor
      · intro h0
        simp [iF, rf, nF] at h0
        all_goals (apply decide_eq_true; unfold MayF Ka Kb; refine ⟨by omega, ?_⟩; repeat (first | (left; omega; done) | right)); (try omega)
      · intro h0
        obtain ⟨h2, h1⟩ := of_decide_eq_true h0
        clear h0
        unfold Ka Kb at h1
        rcases h1 with h1 | h1 | h1 | h1 | h1
        all_goals first | (exfalso; omega; done) | (simp [iF, rf, nF]; omega; done)
    · rw [Bool.eq_iff_iff, may_t]
      constructor
      · intro h0
        simp [iF, rf, nF, elo, ehi] at h0
        all_goals (apply decide_eq_true; unfold MayT Ka Kb; refine ⟨by omega, ?_⟩; repeat (first | (left; omega; done) | right)); (try omega)
      · intro h0
        obtain ⟨h2, h1⟩ := of_decide_eq_true h0
        clear h0
        unfold Ka Kb at h1
        rcases h1 with h1 | h1 | h1 | h1 | h1 | h1 | h1 | h1 | h1
        all_goals first | (exfalso; omega; done) | (simp [iF, rf, nF, elo, ehi]; omega; done)
  · skip
    have efD : fD o = true := by apply decide_eq_true; (try unfold Ka); (try unfold Kb); (try unfold Wd); omega
    have efS : fS o = false := by apply decide_eq_false; (try unfold Ka); (try unfold Kb); (try unfold Wd); omega
    have efT : fT o = false := by apply decide_eq_false; (try unfold Ka); (try unfold Kb); (try unfold Wd); omega
    have efN : fN o = true := by apply decide_eq_true; (try unfold Ka); (try unfold Kb); (try unfold Wd); omega
    have efW : fW o = true := by apply decide_eq_true; (try unfold Ka); (try unfold Kb); (try unfold Wd); omega
    have efX : fX o = true := by apply decide_eq_true; (try unfold Ka); (try unfold Kb); (try unfold Wd); omega
    have ehR : hR o = 31 := by unfold hR; (repeat (first | rw [if_pos (by omega)] | rw [if_neg (by omega)]))
    have elo : lo o = 0 := by unfold lo; (repeat (first | rw [if_pos (by omega)] | rw [if_neg (by omega)]))
    have ehi : hi o = 2097151 := by unfold hi; (repeat (first | rw [if_pos (by omega)] | rw [if_neg (by omega)]))
    unfold vl
    rw [efD, efS, efT, efN, efX, ehR]
    cases b
    · rw [Bool.eq_iff_iff, may_f]
      constructor
      · intro h0
        simp [iF, rf, nF] at h0
        all_goals (apply decide_eq_true; unfold MayF Ka Kb; refine ⟨by omega, ?_⟩; repeat (first | (left; omega; done) | right)); (try omega)
      · intro h0
        obtain ⟨h2, h1⟩ := of_decide_eq_true h0
        clear h0
        unfold Ka Kb at h1
        rcases h1 with h1 | h1 | h1 | h1 | h1
        all_goals first | (exfalso; omega; done) | (simp [iF, rf, nF]; omega; done)
    · rw [Bool.eq_iff_iff, may_t]
      constructor
      · intro h0
        simp [iF, rf, nF, elo, ehi] at h0
        all_goals (apply decide_eq_true; unfold MayT Ka Kb; refine ⟨by omega, ?_⟩; repeat (first | (left; omega; done) | right)); (try omega)
      · intro h0
        obtain ⟨h2, h1⟩ := of_decide_eq_true h0
        clear h0
        unfold Ka Kb at h1
        rcases h1 with h1 | h1 | h1 | h1 | h1 | h1 | h1 | h1 | h1
        all_goals first | (exfalso; omega; done) | (simp [iF, rf, nF, elo, ehi]; omega; done)
  · skip
    have efD : fD o = true := by apply decide_eq_true; (try unfold Ka); (try unfold Kb); (try unfold Wd); omega
    have efS : fS o = false := by apply decide_eq_false; (try unfold Ka); (try unfold Kb); (try unfold Wd); omega
    have efT : fT o = false := by apply decide_eq_false; (try unfold Ka); (try unfold Kb); (try unfold Wd); omega
    have efN : fN o = true := by apply decide_eq_true; (try unfold Ka); (try unfold Kb); (try unfold Wd); omega
    have efW : fW o = true := by apply decide_eq_true; (try unfold Ka); (try unfold Kb); (try unfold Wd); omega
    have efX : fX o = true := by apply decide_eq_true; (try unfold Ka); (try unfold Kb); (try unfold Wd); omega
    have ehR : hR o = 6 := by unfold hR; (repeat (first | rw [if_pos (by omega)] | rw [if_neg (by omega)]))
    have elo : lo o = -1048576 := by unfold lo; (repeat (first | rw [if_pos (by omega)] | rw [if_neg (by omega)]))
    have ehi : hi o = 1048575 := by unfold hi; (repeat (first | rw [if_pos (by omega)] | rw [if_neg (by omega)]))
    unfold vl
    rw [efD, efS, efT, efN, efX, ehR]
    cases b
    · rw [Bool.eq_iff_iff, may_f]
      constructor
      · intro h0
        simp [iF, rf, nF] at h0
        all_goals (apply decide_eq_true; unfold MayF Ka Kb; refine ⟨by omega, ?_⟩; repeat (first | (left; omega; done) | right)); (try omega)
      · intro h0
        obtain ⟨h2, h1⟩ := of_decide_eq_true h0
        clear h0
        unfold Ka Kb at h1
        rcases h1 with h1 | h1 | h1 | h1 | h1
        all_goals first | (exfalso; omega; done) | (simp [iF, rf, nF]; omega; done)
    · rw [Bool.eq_iff_iff, may_t]
      constructor
      · intro h0
        simp [iF, rf, nF, elo, ehi] at h0
        all_goals (apply decide_eq_true; unfold MayT Ka Kb; refine ⟨by omega, ?_⟩; repeat (first | (left; omega; done) | right)); (try omega)
      · intro h0
        obtain ⟨h2, h1⟩ := of_decide_eq_true h0
        clear h0
        unfold Ka Kb at h1
        rcases h1 with h1 | h1 | h1 | h1 | h1 | h1 | h1 | h1 | h1
        all_goals first | (exfalso; omega; done) | (simp [iF, rf, nF, elo, ehi]; omega; done)
  · skip
    have efD : fD o = false := by apply decide_eq_false; (try unfold Ka); (try unfold Kb); (try unfold Wd); omega
    have efS : fS o = false := by apply decide_eq_false; (try unfold Ka); (try unfold Kb); (try unfold Wd); omega
    have efT : fT o = false := by apply decide_eq_false; (try unfold Ka); (try unfold Kb); (try unfold Wd); omega
    have efN : fN o = true := by apply decide_eq_true; (try unfold Ka); (try unfold Kb); (try unfold Wd); omega
    have efW : fW o = true := by apply decide_eq_true; (try unfold Ka); (try unfold Kb); (try unfold Wd); omega
    have efX : fX o = true := by apply decide_eq_true; (try unfold Ka); (try unfold Kb); (try unfold Wd); omega
    have ehR : hR o = 31 := by unfold hR; (repeat (first | rw [if_pos (by omega)] | rw [if_neg (by omega)]))
    have elo : lo o = -1048576 := by unfold lo; (repeat (first | rw [if_pos (by omega)] | rw [if_neg (by omega)]))
    have ehi : hi o = 1048575 := by unfold hi; (repeat (first | rw [if_pos (by omega)] | rw [if_neg (by omega)]))
    unfold vl
    rw [efD, efS, efT, efN, efX, ehR]
    cases b
    · rw [Bool.eq_iff_iff, may_f]
      constructor
      · intro h0
        simp [iF, rf, nF] at h0
        all_goals (apply decide_eq_true; unfold MayF Ka Kb; refine ⟨by omega, ?_⟩; repeat (first | (left; omega; done) | right)); (try omega)
      · intro h0
        obtain ⟨h2, h1⟩ := of_decide_eq_true h0
        clear h0
        unfold Ka Kb at h1
        rcases h1 with h1 | h1 | h1 | h1 | h1
        all_goals first | (exfalso; omega; done) | (simp [iF, rf, nF]; omega; done)
    · rw [Bool.eq_iff_iff, may_t]
      constructor
      · intro h0
        simp [iF, rf, nF, elo, ehi] at h0
        all_goals (apply decide_eq_true; unfold MayT Ka Kb; refine ⟨by omega, ?_⟩; repeat (first | (left; omega; done) | right)); (try omega)
      · intro h0
        obtain ⟨h2, h1⟩ := of_decide_eq_true h0
        clear h0
        unfold Ka Kb at h1
        rcases h1 with h1 | h1 | h1 | h1 | h1 | h1 | h1 | h1 | h1
        all_goals first | (exfalso; omega; done) | (simp [iF, rf, nF, elo, ehi]; omega; done)
  · skip
    have efD : fD o = true := by apply decide_eq_true; (try unfold Ka); (try unfold Kb); (try unfold Wd); omega
    have efS : fS o = false := by apply decide_eq_false; (try unfold Ka); (try unfold Kb); (try unfold Wd); omega
    have efT : fT o = false := by apply decide_eq_false; (try unfold Ka); (try unfold Kb); (try unfold Wd); omega
    have efN : fN o = false := by apply decide_eq_false; (try unfold Ka); (try unfold Kb); (try unfold Wd); omega
    have efW : fW o = false := by apply decide_eq_false; (try unfold Ka); (try unfold Kb); (try unfold Wd); omega
    have efX : fX o = true := by apply decide_eq_true; (try unfold Ka); (try unfold Kb); (try unfold Wd); omega
    have ehR : hR o = 31 := by unfold hR; (repeat (first | rw [if_pos (by omega)] | rw [if_neg (by omega)]))
    have elo : lo o = -16384 := by unfold lo; (repeat (first | rw [if_pos (by omega)] | rw [if_neg (by omega)]))
    have ehi : hi o = 16383 := by unfold hi; (repeat (first | rw [if_pos (by omega)] | rw [if_neg (by omega)]))
    unfold vl
    rw [efD, efS, efT, efN, efX, ehR]
    cases b
    · rw [Bool.eq_iff_iff, may_f]
      constructor
      · intro h0
        simp [iF, rf, nF] at h0
        all_goals (apply decide_eq_true; unfold MayF Ka Kb; refine ⟨by omega, ?_⟩; repeat (first | (left; omega; done) | right)); (try omega)
      · intro h0
        obtain ⟨h2, h1⟩ := of_decide_eq_true h0
        clear h0
        unfold Ka Kb at h1
        rcases h1 with h1 | h1 | h1 | h1 | h1
        all_goals first | (exfalso; omega; done) | (simp [iF, rf, nF]; omega; done)
    · rw [Bool.eq_iff_iff, may_t]
      constructor
      · intro h0
        simp [iF, rf, nF, elo, ehi] at h0
        all_goals (apply decide_eq_true; unfold MayT Ka Kb; refine ⟨by omega, ?_⟩; repeat (first | (left; omega; done) | right)); (try omega)
      · intro h0
        obtain ⟨h2, h1⟩ := of_decide_eq_true h0
        clear h0
        unfold Ka Kb at h1
        rcases h1 with h1 | h1 | h1 | h1 | h1 | h1 | h1 | h1 | h1
        all_goals first | (exfalso; omega; done) | (simp [iF, rf, nF, elo, ehi]; omega; done)
  · skip
    have efD : fD o = true := by apply decide_eq_true; (try unfold Ka); (try unfold Kb); (try unfold Wd); omega
    have efS : fS o = false := by apply decide_eq_false; (try unfold Ka); (try unfold Kb); (try unfold Wd); omega
    have efT : fT o = false := by apply decide_eq_false; (try unfold Ka); (try unfold Kb); (try unfold Wd); omega
    have efN : fN o = true := by apply decide_eq_true; (try unfold Ka); (try unfold Kb); (try unfold Wd); omega
    have efW : fW o = false := by apply decide_eq_false; (try unfold Ka); (try unfold Kb); (try unfold Wd); omega
    have efX : fX o = true := by apply decide_eq_true; (try unfold Ka); (try unfold Kb); (try unfold Wd); omega
    have ehR : hR o = 31 := by unfold hR; (repeat (first | rw [if_pos (by omega)] | rw [if_neg (by omega)]))
    have elo : lo o = 0 := by unfold lo; (repeat (first | rw [if_pos (by omega)] | rw [if_neg (by omega)]))
    have ehi : hi o = 1 := by unfold hi; (repeat (first | rw [if_pos (by omega)] | rw [if_neg (by omega)]))
    unfold vl
    rw [efD, efS, efT, efN, efX, ehR]
    cases b
    · rw [Bool.eq_iff_iff, may_f]
      constructor
      · intro h0
        simp [iF, rf, nF] at h0
        all_goals (apply decide_eq_true; unfold MayF Ka Kb; refine ⟨by omega, ?_⟩; repeat (first | (left; omega; done) | right)); (try omega)
      · intro h0
        obtain ⟨h2, h1⟩ := of_decide_eq_true h0
        clear h0
        unfold Ka Kb at h1
        rcases h1 with h1 | h1 | h1 | h1 | h1
        all_goals first | (exfalso; omega; done) | (simp [iF, rf, nF]; omega; done)
    · rw [Bool.eq_iff_iff, may_t]
      constructor
      · intro h0
        simp [iF, rf, nF, elo, ehi] at h0
        all_goals (apply decide_eq_true; unfold MayT Ka Kb; refine ⟨by omega, ?_⟩; repeat (first | (left; omega; done) | right)); (try omega)
      · intro h0
        obtain ⟨h2, h1⟩ := of_decide_eq_true h0
        clear h0
        unfold Ka Kb at h1
        rcases h1 with h1 | h1 | h1 | h1 | h1 | h1 | h1 | h1 | h1
        all_goals first | (exfalso; omega; done) | (simp [iF, rf, nF, elo, ehi]; omega; done)
  · skip
    have efD : fD o = false := by apply decide_eq_false; (try unfold Ka); (try unfold Kb); (try unfold Wd); omega
    have efS : fS o = true := by apply decide_eq_true; (try unfold Ka); (try unfold Kb); (try unfold Wd); omega
    have efT : fT o = false := by apply decide_eq_false; (try unfold Ka); (try unfold Kb); (try unfold Wd); omega
    have efN : fN o = true := by apply decide_eq_true; (try unfold Ka); (try unfold Kb); (try unfold Wd); omega
    have efW : fW o = false := by apply decide_eq_false; (try unfold Ka); (try unfold Kb); (try unfold Wd); omega
    have efX : fX o = true := by apply decide_eq_true; (try unfold Ka); (try unfold Kb); (try unfold Wd); omega
    have ehR : hR o = 31 := by unfold hR; (repeat (first | rw [if_pos (by omega)] | rw [if_neg (by omega)]))
    have elo : lo o = 0 := by unfold lo; (repeat (first | rw [if_pos (by omega)] | rw [if_neg (by omega)]))
    have ehi : hi o = 1 := by unfold hi; (repeat (first | rw [if_pos (by omega)] | rw [if_neg (by omega)]))
    unfold vl
    rw [efD, efS, efT, efN, efX, ehR]
    cases b
    · rw [Bool.eq_iff_iff, may_f]
      constructor
      · intro h0
        simp [iF, rf, nF] at h0
        all_goals (apply decide_eq_true; unfold MayF Ka Kb; refine ⟨by omega, ?_⟩; repeat (first | (left; omega; done) | right)); (try omega)
      · intro h0
        obtain ⟨h2, h1⟩ := of_decide_eq_true h0
        clear h0
        unfold Ka Kb at h1
        rcases h1 with h1 | h1 | h1 | h1 | h1
        all_goals first | (exfalso; omega; done) | (simp [iF, rf, nF]; omega; done)
    · rw [Bool.eq_iff_iff, may_t]
      constructor
      · intro h0
        simp [iF, rf, nF, elo, ehi] at h0
        all_goals (apply decide_eq_true; unfold MayT Ka Kb; refine ⟨by omega, ?_⟩; repeat (first | (left; omega; done) | right)); (try omega)
      · intro h0
        obtain ⟨h2, h1⟩ := of_decide_eq_true h0
        clear h0
        unfold Ka Kb at h1
        rcases h1 with h1 | h1 | h1 | h1 | h1 | h1 | h1 | h1 | h1
        all_goals first | (exfalso; omega; done) | (simp [iF, rf, nF, elo, ehi]; omega; done)
  · skip
    have efD : fD o = false := by apply decide_eq_false; (try unfold Ka); (try unfold Kb); (try unfold Wd); omega
    have efS : fS o = false := by apply decide_eq_false; (try unfold Ka); (try unfold Kb); (try unfold Wd); omega
    have efT : fT o = false := by apply decide_eq_false; (try unfold Ka); (try unfold Kb); (try unfold Wd); omega
    have efN : fN o = true := by apply decide_eq_true; (try unfold Ka); (try unfold Kb); (try unfold Wd); omega
    have efW : fW o = false := by apply decide_eq_false; (try unfold Ka); (try unfold Kb); (try unfold Wd); omega
    have efX : fX o = true := by apply decide_eq_true; (try unfold Ka); (try unfold Kb); (try unfold Wd); omega
    have ehR : hR o = 31 := by unfold hR; (repeat (first | rw [if_pos (by omega)] | rw [if_neg (by omega)]))
    have elo : lo o = 3 := by unfold lo; (repeat (first | rw [if_pos (by omega)] | rw [if_neg (by omega)]))
    have ehi : hi o = 4 := by unfold hi; (repeat (first | rw [if_pos (by omega)] | rw [if_neg (by omega)]))
    unfold vl
    rw [efD, efS, efT, efN, efX, ehR]
    cases b
    · rw [Bool.eq_iff_iff, may_f]
      constructor
      · intro h0
        simp [iF, rf, nF] at h0
        all_goals (apply decide_eq_true; unfold MayF Ka Kb; refine ⟨by omega, ?_⟩; repeat (first | (left; omega; done) | right)); (try omega)
      · intro h0
        obtain ⟨h2, h1⟩ := of_decide_eq_true h0
        clear h0
        unfold Ka Kb at h1
        rcases h1 with h1 | h1 | h1 | h1 | h1
        all_goals first | (exfalso; omega; done) | (simp [iF, rf, nF]; omega; done)
    · rw [Bool.eq_iff_iff, may_t]
      constructor
      · intro h0
        simp [iF, rf, nF, elo, ehi] at h0
        all_goals (apply decide_eq_true; unfold MayT Ka Kb; refine ⟨by omega, ?_⟩; repeat (first | (left; omega; done) | right)); (try omega)
      · intro h0
        obtain ⟨h2, h1⟩ := of_decide_eq_true h0
        clear h0
        unfold Ka Kb at h1
        rcases h1 with h1 | h1 | h1 | h1 | h1 | h1 | h1 | h1 | h1
        all_goals first | (exfalso; omega; done) | (simp [iF, rf, nF, elo, ehi]; omega; done)
  · skip
    have efD : fD o = false := by apply decide_eq_false; (try unfold Ka); (try unfold Kb); (try unfold Wd); omega
    have efS : fS o = true := by apply decide_eq_true; (try unfold Ka); (try unfold Kb); (try unfold Wd); omega
    have efT : fT o = false := by apply decide_eq_false; (try unfold Ka); (try unfold Kb); (try unfold Wd); omega
    have efN : fN o = false := by apply decide_eq_false; (try unfold Ka); (try unfold Kb); (try unfold Wd); omega
    have efW : fW o = false := by apply decide_eq_false; (try unfold Ka); (try unfold Kb); (try unfold Wd); omega
    have efX : fX o = true := by apply decide_eq_true; (try unfold Ka); (try unfold Kb); (try unfold Wd); omega
    have ehR : hR o = 31 := by unfold hR; (repeat (first | rw [if_pos (by omega)] | rw [if_neg (by omega)]))
    have elo : lo o = -16384 := by unfold lo; (repeat (first | rw [if_pos (by omega)] | rw [if_neg (by omega)]))
    have ehi : hi o = 16383 := by unfold hi; (repeat (first | rw [if_pos (by omega)] | rw [if_neg (by omega)]))
    unfold vl
    rw [efD, efS, efT, efN, efX, ehR]
    cases b
    · rw [Bool.eq_iff_iff, may_f]
      constructor
      · intro h0
        simp [iF, rf, nF] at h0
        all_goals (apply decide_eq_true; unfold MayF Ka Kb; refine ⟨by omega, ?_⟩; repeat (first | (left; omega; done) | right)); (try omega)
      · intro h0
        obtain ⟨h2, h1⟩ := of_decide_eq_true h0
        clear h0
        unfold Ka Kb at h1
        rcases h1 with h1 | h1 | h1 | h1 | h1
        all_goals first | (exfalso; omega; done) | (simp [iF, rf, nF]; omega; done)
    · rw [Bool.eq_iff_iff, may_t]
      constructor
      · intro h0
        simp [iF, rf, nF, elo, ehi] at h0
        all_goals (apply decide_eq_true; unfold MayT Ka Kb; refine ⟨by omega, ?_⟩; repeat (first | (left; omega; done) | right)); (try omega)
      · intro h0
        obtain ⟨h2, h1⟩ := of_decide_eq_true h0
        clear h0
        unfold Ka Kb at h1
        rcases h1 with h1 | h1 | h1 | h1 | h1 | h1 | h1 | h1 | h1
        all_goals first | (exfalso; omega; done) | (simp [iF, rf, nF, elo, ehi]; omega; done)
  · skip
    have efD : fD o = false := by apply decide_eq_false; (try unfold Ka); (try unfold Kb); (try unfold Wd); omega
    have efS : fS o = false := by apply decide_eq_false; (try unfold Ka); (try unfold Kb); (try unfold Wd); omega
    have efT : fT o = false := by apply decide_eq_false; (try unfold Ka); (try unfold Kb); (try unfold Wd); omega
    have efN : fN o = false := by apply decide_eq_false; (try unfold Ka); (try unfold Kb); (try unfold Wd); omega
    have efW : fW o = false := by apply decide_eq_false; (try unfold Ka); (try unfold Kb); (try unfold Wd); omega
    have efX : fX o = true := by apply decide_eq_true; (try unfold Ka); (try unfold Kb); (try unfold Wd); omega
    have ehR : hR o = 31 := by unfold hR; (repeat (first | rw [if_pos (by omega)] | rw [if_neg (by omega)]))
    have elo : lo o = -16384 := by unfold lo; (repeat (first | rw [if_pos (by omega)] | rw [if_neg (by omega)]))
    have ehi : hi o = 16383 := by unfold hi; (repeat (first | rw [if_pos (by omega)] | rw [if_neg (by omega)]))
    unfold vl
    rw [efD, efS, efT, efN, efX, ehR]
    cases b
    · rw [Bool.eq_iff_iff, may_f]
      constructor
      · intro h0
        simp [iF, rf, nF] at h0
        all_goals (apply decide_eq_true; unfold MayF Ka Kb; refine ⟨by omega, ?_⟩; repeat (first | (left; omega; done) | right)); (try omega)
      · intro h0
        obtain ⟨h2, h1⟩ := of_decide_eq_true h0
        clear h0
        unfold Ka Kb at h1
        rcases h1 with h1 | h1 | h1 | h1 | h1
        all_goals first | (exfalso; omega; done) | (simp [iF, rf, nF]; omega; done)
    · rw [Bool.eq_iff_iff, may_t]
      constructor
      · intro h0
        simp [iF, rf, nF, elo, ehi] at h0
        all_goals (apply decide_eq_true; unfold MayT Ka Kb; refine ⟨by omega, ?_⟩; repeat (first | (left; omega; done) | right)); (try omega)
      · intro h0
        obtain ⟨h2, h1⟩ := of_decide_eq_true h0
        clear h0
        unfold Ka Kb at h1
        rcases h1 with h1 | h1 | h1 | h1 | h1 | h1 | h1 | h1 | h1
        all_goals first | (exfalso; omega; done) | (simp [iF, rf, nF, elo, ehi]; omega; done)
  · skip
    have efD : fD o = false := by apply decide_eq_false; (try unfold Ka); (try unfold Kb); (try unfold Wd); omega
    have efS : fS o = false := by apply decide_eq_false; (try unfold Ka); (try unfold Kb); (try unfold Wd); omega
    have efT : fT o = false := by apply decide_eq_false; (try unfold Ka); (try unfold Kb); (try unfold Wd); omega
    have efN : fN o = true := by apply decide_eq_true; (try unfold Ka); (try unfold Kb); (try unfold Wd); omega
    have efW : fW o = false := by apply decide_eq_false; (try unfold Ka); (try unfold Kb); (try unfold Wd); omega
    have efX : fX o = true := by apply decide_eq_true; (try unfold Ka); (try unfold Kb); (try unfold Wd); omega
    have ehR : hR o = 31 := by unfold hR; (repeat (first | rw [if_pos (by omega)] | rw [if_neg (by omega)]))
    have elo : lo o = 1 := by unfold lo; (repeat (first | rw [if_pos (by omega)] | rw [if_neg (by omega)]))
    have ehi : hi o = 3 := by unfold hi; (repeat (first | rw [if_pos (by omega)] | rw [if_neg (by omega)]))
    unfold vl
    rw [efD, efS, efT, efN, efX, ehR]
    cases b
    · rw [Bool.eq_iff_iff, may_f]
      constructor
      · intro h0
        simp [iF, rf, nF] at h0
        all_goals (apply decide_eq_true; unfold MayF Ka Kb; refine ⟨by omega, ?_⟩; repeat (first | (left; omega; done) | right)); (try omega)
      · intro h0
        obtain ⟨h2, h1⟩ := of_decide_eq_true h0
        clear h0
        unfold Ka Kb at h1
        rcases h1 with h1 | h1 | h1 | h1 | h1
        all_goals first | (exfalso; omega; done) | (simp [iF, rf, nF]; omega; done)
    · rw [Bool.eq_iff_iff, may_t]
      constructor
      · intro h0
        simp [iF, rf, nF, elo, ehi] at h0
        all_goals (apply decide_eq_true; unfold MayT Ka Kb; refine ⟨by omega, ?_⟩; repeat (first | (left; omega; done) | right)); (try omega)
      · intro h0
        obtain ⟨h2, h1⟩ := of_decide_eq_true h0
        clear h0
        unfold Ka Kb at h1
        rcases h1 with h1 | h1 | h1 | h1 | h1 | h1 | h1 | h1 | h1
        all_goals first | (exfalso; omega; done) | (simp [iF, rf, nF, elo, ehi]; omega; done)
  · skip
    have efD : fD o = false := by apply decide_eq_false; (try unfold Ka); (try unfold Kb); (try unfold Wd); omega
    have efS : fS o = false := by apply decide_eq_false; (try unfold Ka); (try unfold Kb); (try unfold Wd); omega
    have efT : fT o = false := by apply decide_eq_false; (try unfold Ka); (try unfold Kb); (try unfold Wd); omega
    have efN : fN o = false := by apply decide_eq_false; (try unfold Ka); (try unfold Kb); (try unfold Wd); omega
    have efW : fW o = false := by apply decide_eq_false; (try unfold Ka); (try unfold Kb); (try unfold Wd); omega
    have efX : fX o = false := by apply decide_eq_false; (try unfold Ka); (try unfold Kb); (try unfold Wd); omega
    have ehR : hR o = 31 := by unfold hR; (repeat (first | rw [if_pos (by omega)] | rw [if_neg (by omega)]))
    have elo : lo o = -16384 := by unfold lo; (repeat (first | rw [if_pos (by omega)] | rw [if_neg (by omega)]))
    have ehi : hi o = 16383 := by unfold hi; (repeat (first | rw [if_pos (by omega)] | rw [if_neg (by omega)]))
    unfold vl
    rw [efD, efS, efT, efN, efX, ehR]
    cases b
    · rw [Bool.eq_iff_iff, may_f]
      constructor
      · intro h0
        simp [iF, rf, nF] at h0
        all_goals (apply decide_eq_true; unfold MayF Ka Kb; refine ⟨by omega, ?_⟩; repeat (first | (left; omega; done) | right)); (try omega)
      · intro h0
        obtain ⟨h2, h1⟩ := of_decide_eq_true h0
        clear h0
        unfold Ka Kb at h1
        rcases h1 with h1 | h1 | h1 | h1 | h1
        all_goals first | (exfalso; omega; done) | (simp [iF, rf, nF]; omega; done)
    · rw [Bool.eq_iff_iff, may_t]
      constructor
      · intro h0
        simp [iF, rf, nF, elo, ehi] at h0
        all_goals (apply decide_eq_true; unfold MayT Ka Kb; refine ⟨by omega, ?_⟩; repeat (first | (left; omega; done) | right)); (try omega)
      · intro h0
        obtain ⟨h2, h1⟩ := of_decide_eq_true h0
        clear h0
        unfold Ka Kb at h1
        rcases h1 with h1 | h1 | h1 | h1 | h1 | h1 | h1 | h1 | h1
        all_goals first | (exfalso; omega; done) | (simp [iF, rf, nF, elo, ehi]; omega; done)
end Go.Proofs.YtmpagjijjahohaaGreatDoor.I2
namespace Go.Proofs.YtmpagjijjahohaaGreatDoor.I2
open Go.RowKit
set_option linter.unusedVariables false

/-! join. -/
theorem or_add (i : Nat) (p x y : Int) (hp : (2 : Int) ^ i = p) (hx : 0 ≤ x ∧ x < 4294967296) (hm : x % p = 0) (hy : 0 ≤ y ∧ y < p) (hs : y < 4294967296) : bits .or .u32 x y = x + y := by
  obtain ⟨a, rfl⟩ := Int.eq_ofNat_of_zero_le hx.1
  obtain ⟨c, rfl⟩ := Int.eq_ofNat_of_zero_le hy.1
  subst hp
  rw [u32_or_nat a c (by omega) (by omega)]
  have e : ((2 ^ i : Nat) : Int) = (2 : Int) ^ i := by simp
  have h1 : a % 2 ^ i = 0 := by rw [← e] at hm; omega
  have h2 : c < 2 ^ i := by have := hy.2; rw [← e] at this; omega
  rw [nat_join i a c h1 h2]
  simp
theorem join_wide (o d s t : Int) (b : Bool) (n : Int) (w : World) (ho : 0 ≤ o ∧ o ≤ 63) (hd : 0 ≤ d ∧ d ≤ 31) (hs : 0 ≤ s ∧ s ≤ 31) (ht : 0 ≤ t ∧ t ≤ 31) :
    Calls Tryz.prog 187 #[.agg #[.int .u8 o, .int .u8 d, .int .u8 s, .int .u8 t, .bool b, .int .i32 n], .bool true] w fun e w' => e = .returned (.int .u32 (o * 67108864 + d * 2097152 + n % 2097152)) ∧ Grown w w' := by
  have e1 : bits .or .u32 (o * 32) d = o * 32 + d := or_add 5 32 _ _ (by decide) (by omega) (by omega) (by omega) (by omega)
  have e2 : bits .or .u32 ((o * 32 + d) * 2097152) (n % 2097152) = o * 67108864 + d * 2097152 + n % 2097152 := by
    rw [or_add 21 2097152 _ _ (by decide) (by omega) (by omega) (by omega) (by omega)]; omega
  go_enter Tryz.func187, Tryz.ntmps187
  go_wp2_with (go_at_call 185; refine (lowest21 _ _ (by omega)).mono ?_; rintro e w1 ⟨rfl, rfl⟩)
  go_ret
  exact ⟨rfl, (Grown.refl _).alloc _ _⟩
theorem join_yes (o d s t : Int) (n : Int) (w : World) (ho : 0 ≤ o ∧ o ≤ 63) (hd : 0 ≤ d ∧ d ≤ 31) (hs : 0 ≤ s ∧ s ≤ 31) (ht : 0 ≤ t ∧ t ≤ 31) :
    Calls Tryz.prog 187 #[.agg #[.int .u8 o, .int .u8 d, .int .u8 s, .int .u8 t, .bool true, .int .i32 n], .bool false] w fun e w' => e = .returned (.int .u32 (o * 67108864 + d * 2097152 + s * 65536 + 32768 + n % 32768)) ∧ Grown w w' := by
  have e1 : bits .or .u32 (o * 32) d = o * 32 + d := or_add 5 32 _ _ (by decide) (by omega) (by omega) (by omega) (by omega)
  have e2 : bits .or .u32 ((o * 32 + d) * 32) s = (o * 32 + d) * 32 + s := or_add 5 32 _ _ (by decide) (by omega) (by omega) (by omega) (by omega)
  have e3 : bits .or .u32 (((o * 32 + d) * 32 + s) * 2) 1 = ((o * 32 + d) * 32 + s) * 2 + 1 := or_add 1 2 _ _ (by decide) (by omega) (by omega) (by omega) (by omega)
  have e4 : bits .or .u32 ((((o * 32 + d) * 32 + s) * 2 + 1) * 32768) (n % 32768) = o * 67108864 + d * 2097152 + s * 65536 + 32768 + n % 32768 := by
    rw [or_add 15 32768 _ _ (by decide) (by omega) (by omega) (by omega) (by omega)]; omega
  go_enter Tryz.func187, Tryz.ntmps187
  go_wp2_with (go_at_call 185; refine (lowest15 _ _ (by omega)).mono ?_; rintro e w1 ⟨rfl, rfl⟩)
  go_ret
  exact ⟨rfl, (Grown.refl _).alloc _ _⟩
theorem join_no (o d s t : Int) (n : Int) (w : World) (ho : 0 ≤ o ∧ o ≤ 63) (hd : 0 ≤ d ∧ d ≤ 31) (hs : 0 ≤ s ∧ s ≤ 31) (ht : 0 ≤ t ∧ t ≤ 31) :
    Calls Tryz.prog 187 #[.agg #[.int .u8 o, .int .u8 d, .int .u8 s, .int .u8 t, .bool false, .int .i32 n], .bool false] w fun e w' => e = .returned (.int .u32 (o * 67108864 + d * 2097152 + s * 65536 + t)) ∧ Grown w w' := by
  have e1 : bits .or .u32 (o * 32) d = o * 32 + d := or_add 5 32 _ _ (by decide) (by omega) (by omega) (by omega) (by omega)
  have e2 : bits .or .u32 ((o * 32 + d) * 32) s = (o * 32 + d) * 32 + s := or_add 5 32 _ _ (by decide) (by omega) (by omega) (by omega) (by omega)
  have e3 : bits .or .u32 (((o * 32 + d) * 32 + s) * 65536) t = o * 67108864 + d * 2097152 + s * 65536 + t := by
    rw [or_add 16 65536 _ _ (by decide) (by omega) (by omega) (by omega) (by omega)]; omega
  go_enter Tryz.func187, Tryz.ntmps187
  go_wp2
  go_ret
  exact ⟨rfl, (Grown.refl _).alloc _ _⟩
theorem may_small {o d s t : Int} {b : Bool} {n : Int} (ho : 0 ≤ o ∧ o ≤ 255) (hd : 0 ≤ d ∧ d ≤ 255) (hs : 0 ≤ s ∧ s ≤ 255) (ht : 0 ≤ t ∧ t ≤ 255) (h : may o d s t b n = true) : (0 ≤ o ∧ o ≤ 63) ∧ (0 ≤ d ∧ d ≤ 31) ∧ (0 ≤ s ∧ s ≤ 31) ∧ (0 ≤ t ∧ t ≤ 31) := by
  cases b
  · have h' : MayF o d s t n := of_decide_eq_true h
    unfold MayF Ka Kb at h'
    omega
  · have h' : MayT o d s t n := of_decide_eq_true h
    unfold MayT Ka Kb at h'
    omega
theorem join_any (o d s t : Int) (b : Bool) (n : Int) (w : World) (ho : 0 ≤ o ∧ o ≤ 255) (hd : 0 ≤ d ∧ d ≤ 255) (hs : 0 ≤ s ∧ s ≤ 255) (ht : 0 ≤ t ∧ t ≤ 255) (h : may o d s t b n = true) :
    Calls Tryz.prog 187 #[.agg #[.int .u8 o, .int .u8 d, .int .u8 s, .int .u8 t, .bool b, .int .i32 n], .bool (fW o)] w fun e w' => e = .returned (.int .u32 (enc o d s t b n)) ∧ Grown w w' := by
  obtain ⟨ko, kd, ks, kt⟩ := may_small ho hd hs ht h
  by_cases hw : Wd o
  · rw [show fW o = true from decide_eq_true hw, show enc o d s t b n = o * 67108864 + d * 2097152 + n % 2097152 by unfold enc; rw [if_pos hw]]
    exact join_wide o d s t b n w ko kd ks kt
  · rw [show fW o = false from decide_eq_false hw]
    cases b
    · rw [show enc o d s t false n = o * 67108864 + d * 2097152 + s * 65536 + t by unfold enc; rw [if_neg hw, if_neg (by decide)]]
      exact join_no o d s t n w ko kd ks kt
    · rw [show enc o d s t true n = o * 67108864 + d * 2097152 + s * 65536 + 32768 + n % 32768 by unfold enc; rw [if_neg hw, if_pos rfl]]
      exact join_yes o d s t n w ko kd ks kt

/-! Encode. -/
theorem fields_is (o : Int) (f0 f1 f2 f3 f4 x : Bool) (w : World) (hT : Tab w) (ho : 0 ≤ o ∧ o ≤ 255) (h0 : fD o = f0) (h1 : fS o = f1) (h2 : fT o = f2) (h3 : fN o = f3) (h4 : fW o = f4) (hx : fX o = x) :
    Calls Tryz.prog 183 #[.int .u8 o] w fun e w' => e = .returned (.tuple #[.agg #[.bool f0, .bool f1, .bool f2, .bool f3, .bool f4], .bool x]) ∧ Grown w w' := by
  subst h0 h1 h2 h3 h4 hx; exact fieldsOf_any o w hT ho
theorem valid_is (o d s t : Int) (b : Bool) (n : Int) (x : Bool) (w : World) (ho : 0 ≤ o ∧ o ≤ 255) (hd : 0 ≤ d ∧ d ≤ 255) (hs : 0 ≤ s ∧ s ≤ 255) (ht : 0 ≤ t ∧ t ≤ 255) (hx : fX o = true) (h : may o d s t b n = x) :
    Calls Tryz.prog 186 #[.agg #[.int .u8 o, .int .u8 d, .int .u8 s, .int .u8 t, .bool b, .int .i32 n], .agg #[.bool (fD o), .bool (fS o), .bool (fT o), .bool (fN o), .bool (fW o)]] w
      fun e w' => e = .returned (.bool x) ∧ Grown w w' := by
  have hv := vl_may o d s t b n hd hs ht
  unfold vl at hv
  rw [hx, Bool.true_and, h] at hv
  have hc := valid_any o d s t b n (fD o) (fS o) (fT o) (fN o) (fW o) w ho hd hs ht
  rw [hv] at hc
  exact hc
set_option maxHeartbeats 1000000 in
theorem enc_none (o d s t : Int) (b : Bool) (n : Int) (w : World) (hT : Tab w) (ho : 0 ≤ o ∧ o ≤ 255) (hx : fX o = false) :
    Calls Tryz.prog 118 #[.agg #[.int .u8 o, .int .u8 d, .int .u8 s, .int .u8 t, .bool b, .int .i32 n]] w fun e w' => e = .returned (.tuple #[.int .u32 0, .int .i64 2]) ∧ Grown w w' := by
  go_enter Tryz.func118, Tryz.ntmps118
  go_wp2_with fail
  refine (fields_is o _ _ _ _ _ _ _ (hT.grown ((Grown.refl _).alloc _ _)) ho rfl rfl rfl rfl rfl hx).mono ?_; rintro e w1 ⟨rfl, g1⟩
  go_wp2_with fail
  go_ret2
  exact ⟨rfl, grown_trans ((Grown.refl _).alloc _ _) (g1.alloc _ _)⟩
theorem inst_cells {w W : World} {o d s t : Int} {b : Bool} {n : Int} (g : Grown (w.alloc (.cells #[.int .u8 o, .int .u8 d, .int .u8 s, .int .u8 t, .bool b, .int .i32 n] 106)) W) :
    W.cell? ⟨w.heap.size, 0, none⟩ = some (.int .u8 o) ∧ W.cell? ⟨w.heap.size, 1, none⟩ = some (.int .u8 d) ∧ W.cell? ⟨w.heap.size, 2, none⟩ = some (.int .u8 s) ∧ W.cell? ⟨w.heap.size, 3, none⟩ = some (.int .u8 t) ∧ W.cell? ⟨w.heap.size, 4, none⟩ = some (.bool b) ∧ W.cell? ⟨w.heap.size, 5, none⟩ = some (.int .i32 n) ∧ w.heap.size < W.heap.size :=
  ⟨cell_new_grown g rfl, cell_new_grown g rfl, cell_new_grown g rfl, cell_new_grown g rfl, cell_new_grown g rfl, cell_new_grown g rfl, block_lt_of_cell (a := ⟨w.heap.size, 0, none⟩) (cell_new_grown g rfl)⟩
set_option maxHeartbeats 1000000 in
theorem enc_no (o d s t : Int) (b : Bool) (n : Int) (w : World) (hT : Tab w) (ho : 0 ≤ o ∧ o ≤ 255) (hd : 0 ≤ d ∧ d ≤ 255) (hs : 0 ≤ s ∧ s ≤ 255) (ht : 0 ≤ t ∧ t ≤ 255) (hx : fX o = true) (h : may o d s t b n = false) :
    Calls Tryz.prog 118 #[.agg #[.int .u8 o, .int .u8 d, .int .u8 s, .int .u8 t, .bool b, .int .i32 n]] w fun e w' => e = .returned (.tuple #[.int .u32 0, .int .i64 2]) ∧ Grown w w' := by
  go_enter Tryz.func118, Tryz.ntmps118
  go_wp2_with fail
  refine (fields_is o _ _ _ _ _ _ _ (hT.grown ((Grown.refl _).alloc _ _)) ho rfl rfl rfl rfl rfl hx).mono ?_; rintro e w1 ⟨rfl, g1⟩
  obtain ⟨c0, c1, c2, c3, c4, c5, cz⟩ := inst_cells g1
  go_wp2_with fail
  refine (valid_is o d s t b n _ _ ho hd hs ht hx h).mono ?_; rintro e w2 ⟨rfl, g2⟩
  go_wp2_with fail
  go_ret2
  exact ⟨rfl, grown_trans ((Grown.refl _).alloc _ _) (grown_trans (g1.alloc _ _) g2)⟩
set_option maxHeartbeats 1000000 in
theorem enc_yes (o d s t : Int) (b : Bool) (n : Int) (w : World) (hT : Tab w) (ho : 0 ≤ o ∧ o ≤ 255) (hd : 0 ≤ d ∧ d ≤ 255) (hs : 0 ≤ s ∧ s ≤ 255) (ht : 0 ≤ t ∧ t ≤ 255) (hx : fX o = true) (h : may o d s t b n = true) :
    Calls Tryz.prog 118 #[.agg #[.int .u8 o, .int .u8 d, .int .u8 s, .int .u8 t, .bool b, .int .i32 n]] w fun e w' => e = .returned (.tuple #[.int .u32 (enc o d s t b n), .int .i64 0]) ∧ Grown w w' := by
  go_enter Tryz.func118, Tryz.ntmps118
  go_wp2_with fail
  refine (fields_is o _ _ _ _ _ _ _ (hT.grown ((Grown.refl _).alloc _ _)) ho rfl rfl rfl rfl rfl hx).mono ?_; rintro e w1 ⟨rfl, g1⟩
  obtain ⟨c0, c1, c2, c3, c4, c5, cz⟩ := inst_cells g1
  go_wp2_with fail
  refine (valid_is o d s t b n _ _ ho hd hs ht hx h).mono ?_; rintro e w2 ⟨rfl, g2⟩
  have g3 := grown_trans (g1.alloc #[.bool (fD o), .bool (fS o), .bool (fT o), .bool (fN o), .bool (fW o)] 245) g2
  clear c0 c1 c2 c3 c4 c5 cz
  obtain ⟨c0, c1, c2, c3, c4, c5, cz⟩ := inst_cells g3
  have k4 : w2.cell? ⟨w1.heap.size, 4, none⟩ = some (.bool (fW o)) := cell_new_grown g2 rfl
  go_wp2_with fail
  refine (join_any o d s t b n _ ho hd hs ht h).mono ?_; rintro e w3 ⟨rfl, g4⟩
  go_wp2_with fail
  go_ret2
  exact ⟨rfl, grown_trans ((Grown.refl _).alloc _ _) (grown_trans g3 g4)⟩
theorem may_exists {o d s t : Int} {b : Bool} {n : Int} (h : fX o = false) : may o d s t b n = false := by
  have h' := of_decide_eq_false h
  cases b
  · apply decide_eq_false; unfold MayF Ka Kb; omega
  · apply decide_eq_false; unfold MayT Ka Kb; omega
/-- What Encode comes to, whatever the instruction. -/
theorem enc_any (o d s t : Int) (b : Bool) (n : Int) (w : World) (hT : Tab w) (ho : 0 ≤ o ∧ o ≤ 255) (hd : 0 ≤ d ∧ d ≤ 255) (hs : 0 ≤ s ∧ s ≤ 255) (ht : 0 ≤ t ∧ t ≤ 255) :
    Calls Tryz.prog 118 #[.agg #[.int .u8 o, .int .u8 d, .int .u8 s, .int .u8 t, .bool b, .int .i32 n]] w fun e w' => e = .returned (.tuple #[.int .u32 (eW o d s t b n), .int .i64 (eE o d s t b n)]) ∧ Grown w w' := by
  cases hx : fX o
  · rw [eW_no (may_exists hx), eE_no (may_exists hx)]
    exact enc_none o d s t b n w hT ho hx
  · cases h : may o d s t b n
    · rw [eW_no h, eE_no h]
      exact enc_no o d s t b n w hT ho hd hs ht hx h
    · rw [eW_yes h, eE_yes h]
      exact enc_yes o d s t b n w hT ho hd hs ht hx h
end Go.Proofs.YtmpagjijjahohaaGreatDoor.I2
namespace Go.Proofs.YtmpagjijjahohaaGreatDoor.I2
set_option linter.unusedVariables false
theorem kinds (o : Int) : (Ka o) ∨ (Kb o) ∨ (o = 15) ∨ (o = 17) ∨ (o = 18) ∨ (o = 26 ∨ o = 28 ∨ o = 34) ∨ (o = 30) ∨ (o = 31) ∨ (o = 33) ∨ (o = 35 ∨ o = 36) ∨ (o = 37) ∨ (o = 32) ∨ (o < 1 ∨ 37 < o) := by
  unfold Ka Kb
  omega
theorem mayKa_t (o d s t n : Int) (hd : 0 ≤ d) (hs : 0 ≤ s) (ht : 0 ≤ t) (h : Ka o) : may o d s t true n = decide (d ≤ 31 ∧ s ≤ 31 ∧ t = 0 ∧ -16384 ≤ n ∧ n ≤ 16383) := by
  have e : MayT o d s t n ↔ (d ≤ 31 ∧ s ≤ 31 ∧ t = 0 ∧ -16384 ≤ n ∧ n ≤ 16383) := by
    (try unfold Ka at h); (try unfold Kb at h)
    constructor
    · intro h0
      obtain ⟨h2, h1⟩ := h0
      unfold Ka Kb at h1
      rcases h1 with h1 | h1 | h1 | h1 | h1 | h1 | h1 | h1 | h1
      all_goals omega
    · intro h0
      unfold MayT Ka Kb
      refine ⟨by omega, ?_⟩
      repeat (first | (left; omega; done) | right)
      all_goals omega
  exact (Bool.eq_iff_iff.2 (by rw [show may o d s t true n = decide (MayT o d s t n) from rfl, decide_eq_true_iff, e, decide_eq_true_iff]))
theorem mayKa_f (o d s t n : Int) (hd : 0 ≤ d) (hs : 0 ≤ s) (ht : 0 ≤ t) (h : Ka o) : may o d s t false n = decide (d ≤ 31 ∧ s ≤ 31 ∧ t ≤ 31 ∧ n = 0) := by
  have e : MayF o d s t n ↔ (d ≤ 31 ∧ s ≤ 31 ∧ t ≤ 31 ∧ n = 0) := by
    (try unfold Ka at h); (try unfold Kb at h)
    constructor
    · intro h0
      obtain ⟨h2, h1⟩ := h0
      unfold Ka Kb at h1
      rcases h1 with h1 | h1 | h1 | h1 | h1
      all_goals omega
    · intro h0
      unfold MayF Ka Kb
      refine ⟨by omega, ?_⟩
      repeat (first | (left; omega; done) | right)
      all_goals omega
  exact (Bool.eq_iff_iff.2 (by rw [show may o d s t false n = decide (MayF o d s t n) from rfl, decide_eq_true_iff, e, decide_eq_true_iff]))
theorem mayKb_t (o d s t n : Int) (hd : 0 ≤ d) (hs : 0 ≤ s) (ht : 0 ≤ t) (h : Kb o) : may o d s t true n = decide (d = 0 ∧ s ≤ 31 ∧ t = 0 ∧ -16384 ≤ n ∧ n ≤ 16383) := by
  have e : MayT o d s t n ↔ (d = 0 ∧ s ≤ 31 ∧ t = 0 ∧ -16384 ≤ n ∧ n ≤ 16383) := by
    (try unfold Ka at h); (try unfold Kb at h)
    constructor
    · intro h0
      obtain ⟨h2, h1⟩ := h0
      unfold Ka Kb at h1
      rcases h1 with h1 | h1 | h1 | h1 | h1 | h1 | h1 | h1 | h1
      all_goals omega
    · intro h0
      unfold MayT Ka Kb
      refine ⟨by omega, ?_⟩
      repeat (first | (left; omega; done) | right)
      all_goals omega
  exact (Bool.eq_iff_iff.2 (by rw [show may o d s t true n = decide (MayT o d s t n) from rfl, decide_eq_true_iff, e, decide_eq_true_iff]))
theorem mayKb_f (o d s t n : Int) (hd : 0 ≤ d) (hs : 0 ≤ s) (ht : 0 ≤ t) (h : Kb o) : may o d s t false n = decide (d = 0 ∧ s ≤ 31 ∧ t ≤ 31 ∧ n = 0) := by
  have e : MayF o d s t n ↔ (d = 0 ∧ s ≤ 31 ∧ t ≤ 31 ∧ n = 0) := by
    (try unfold Ka at h); (try unfold Kb at h)
    constructor
    · intro h0
      obtain ⟨h2, h1⟩ := h0
      unfold Ka Kb at h1
      rcases h1 with h1 | h1 | h1 | h1 | h1
      all_goals omega
    · intro h0
      unfold MayF Ka Kb
      refine ⟨by omega, ?_⟩
      repeat (first | (left; omega; done) | right)
      all_goals omega
  exact (Bool.eq_iff_iff.2 (by rw [show may o d s t false n = decide (MayF o d s t n) from rfl, decide_eq_true_iff, e, decide_eq_true_iff]))
theorem may3_t (o d s t n : Int) (hd : 0 ≤ d) (hs : 0 ≤ s) (ht : 0 ≤ t) (h : o = 15) : may o d s t true n = decide (d ≤ 31 ∧ s = 0 ∧ t = 0 ∧ 0 ≤ n ∧ n ≤ 2097151) := by
  have e : MayT o d s t n ↔ (d ≤ 31 ∧ s = 0 ∧ t = 0 ∧ 0 ≤ n ∧ n ≤ 2097151) := by
    (try unfold Ka at h); (try unfold Kb at h)
    constructor
    · intro h0
      obtain ⟨h2, h1⟩ := h0
      unfold Ka Kb at h1
      rcases h1 with h1 | h1 | h1 | h1 | h1 | h1 | h1 | h1 | h1
      all_goals omega
    · intro h0
      unfold MayT Ka Kb
      refine ⟨by omega, ?_⟩
      repeat (first | (left; omega; done) | right)
      all_goals omega
  exact (Bool.eq_iff_iff.2 (by rw [show may o d s t true n = decide (MayT o d s t n) from rfl, decide_eq_true_iff, e, decide_eq_true_iff]))
theorem may3_f (o d s t n : Int) (hd : 0 ≤ d) (hs : 0 ≤ s) (ht : 0 ≤ t) (h : o = 15) : may o d s t false n = false := by
  have e : MayF o d s t n ↔ (False) := by
    (try unfold Ka at h); (try unfold Kb at h)
    constructor
    · intro h0
      obtain ⟨h2, h1⟩ := h0
      unfold Ka Kb at h1
      rcases h1 with h1 | h1 | h1 | h1 | h1
      all_goals omega
    · intro h0
      unfold MayF Ka Kb
      exact h0.elim
  exact decide_eq_false e.1
theorem may4_t (o d s t n : Int) (hd : 0 ≤ d) (hs : 0 ≤ s) (ht : 0 ≤ t) (h : o = 17) : may o d s t true n = decide (d ≤ 6 ∧ s = 0 ∧ t = 0 ∧ -1048576 ≤ n ∧ n ≤ 1048575) := by
  have e : MayT o d s t n ↔ (d ≤ 6 ∧ s = 0 ∧ t = 0 ∧ -1048576 ≤ n ∧ n ≤ 1048575) := by
    (try unfold Ka at h); (try unfold Kb at h)
    constructor
    · intro h0
      obtain ⟨h2, h1⟩ := h0
      unfold Ka Kb at h1
      rcases h1 with h1 | h1 | h1 | h1 | h1 | h1 | h1 | h1 | h1
      all_goals omega
    · intro h0
      unfold MayT Ka Kb
      refine ⟨by omega, ?_⟩
      repeat (first | (left; omega; done) | right)
      all_goals omega
  exact (Bool.eq_iff_iff.2 (by rw [show may o d s t true n = decide (MayT o d s t n) from rfl, decide_eq_true_iff, e, decide_eq_true_iff]))
theorem may4_f (o d s t n : Int) (hd : 0 ≤ d) (hs : 0 ≤ s) (ht : 0 ≤ t) (h : o = 17) : may o d s t false n = false := by
  have e : MayF o d s t n ↔ (False) := by
    (try unfold Ka at h); (try unfold Kb at h)
    constructor
    · intro h0
      obtain ⟨h2, h1⟩ := h0
      unfold Ka Kb at h1
      rcases h1 with h1 | h1 | h1 | h1 | h1
      all_goals omega
    · intro h0
      unfold MayF Ka Kb
      exact h0.elim
  exact decide_eq_false e.1
theorem may5_t (o d s t n : Int) (hd : 0 ≤ d) (hs : 0 ≤ s) (ht : 0 ≤ t) (h : o = 18) : may o d s t true n = decide (d = 0 ∧ s = 0 ∧ t = 0 ∧ -1048576 ≤ n ∧ n ≤ 1048575) := by
  have e : MayT o d s t n ↔ (d = 0 ∧ s = 0 ∧ t = 0 ∧ -1048576 ≤ n ∧ n ≤ 1048575) := by
    (try unfold Ka at h); (try unfold Kb at h)
    constructor
    · intro h0
      obtain ⟨h2, h1⟩ := h0
      unfold Ka Kb at h1
      rcases h1 with h1 | h1 | h1 | h1 | h1 | h1 | h1 | h1 | h1
      all_goals omega
    · intro h0
      unfold MayT Ka Kb
      refine ⟨by omega, ?_⟩
      repeat (first | (left; omega; done) | right)
      all_goals omega
  exact (Bool.eq_iff_iff.2 (by rw [show may o d s t true n = decide (MayT o d s t n) from rfl, decide_eq_true_iff, e, decide_eq_true_iff]))
theorem may5_f (o d s t n : Int) (hd : 0 ≤ d) (hs : 0 ≤ s) (ht : 0 ≤ t) (h : o = 18) : may o d s t false n = false := by
  have e : MayF o d s t n ↔ (False) := by
    (try unfold Ka at h); (try unfold Kb at h)
    constructor
    · intro h0
      obtain ⟨h2, h1⟩ := h0
      unfold Ka Kb at h1
      rcases h1 with h1 | h1 | h1 | h1 | h1
      all_goals omega
    · intro h0
      unfold MayF Ka Kb
      exact h0.elim
  exact decide_eq_false e.1
theorem may6_t (o d s t n : Int) (hd : 0 ≤ d) (hs : 0 ≤ s) (ht : 0 ≤ t) (h : o = 26 ∨ o = 28 ∨ o = 34) : may o d s t true n = false := by
  have e : MayT o d s t n ↔ (False) := by
    (try unfold Ka at h); (try unfold Kb at h)
    constructor
    · intro h0
      obtain ⟨h2, h1⟩ := h0
      unfold Ka Kb at h1
      rcases h1 with h1 | h1 | h1 | h1 | h1 | h1 | h1 | h1 | h1
      all_goals omega
    · intro h0
      unfold MayT Ka Kb
      exact h0.elim
  exact decide_eq_false e.1
theorem may6_f (o d s t n : Int) (hd : 0 ≤ d) (hs : 0 ≤ s) (ht : 0 ≤ t) (h : o = 26 ∨ o = 28 ∨ o = 34) : may o d s t false n = decide (d ≤ 31 ∧ s = 0 ∧ t = 0 ∧ n = 0) := by
  have e : MayF o d s t n ↔ (d ≤ 31 ∧ s = 0 ∧ t = 0 ∧ n = 0) := by
    (try unfold Ka at h); (try unfold Kb at h)
    constructor
    · intro h0
      obtain ⟨h2, h1⟩ := h0
      unfold Ka Kb at h1
      rcases h1 with h1 | h1 | h1 | h1 | h1
      all_goals omega
    · intro h0
      unfold MayF Ka Kb
      refine ⟨by omega, ?_⟩
      repeat (first | (left; omega; done) | right)
      all_goals omega
  exact (Bool.eq_iff_iff.2 (by rw [show may o d s t false n = decide (MayF o d s t n) from rfl, decide_eq_true_iff, e, decide_eq_true_iff]))
theorem may7_t (o d s t n : Int) (hd : 0 ≤ d) (hs : 0 ≤ s) (ht : 0 ≤ t) (h : o = 30) : may o d s t true n = decide (d ≤ 31 ∧ s = 0 ∧ t = 0 ∧ 0 ≤ n ∧ n ≤ 1) := by
  have e : MayT o d s t n ↔ (d ≤ 31 ∧ s = 0 ∧ t = 0 ∧ 0 ≤ n ∧ n ≤ 1) := by
    (try unfold Ka at h); (try unfold Kb at h)
    constructor
    · intro h0
      obtain ⟨h2, h1⟩ := h0
      unfold Ka Kb at h1
      rcases h1 with h1 | h1 | h1 | h1 | h1 | h1 | h1 | h1 | h1
      all_goals omega
    · intro h0
      unfold MayT Ka Kb
      refine ⟨by omega, ?_⟩
      repeat (first | (left; omega; done) | right)
      all_goals omega
  exact (Bool.eq_iff_iff.2 (by rw [show may o d s t true n = decide (MayT o d s t n) from rfl, decide_eq_true_iff, e, decide_eq_true_iff]))
theorem may7_f (o d s t n : Int) (hd : 0 ≤ d) (hs : 0 ≤ s) (ht : 0 ≤ t) (h : o = 30) : may o d s t false n = false := by
  have e : MayF o d s t n ↔ (False) := by
    (try unfold Ka at h); (try unfold Kb at h)
    constructor
    · intro h0
      obtain ⟨h2, h1⟩ := h0
      unfold Ka Kb at h1
      rcases h1 with h1 | h1 | h1 | h1 | h1
      all_goals omega
    · intro h0
      unfold MayF Ka Kb
      exact h0.elim
  exact decide_eq_false e.1
theorem may8_t (o d s t n : Int) (hd : 0 ≤ d) (hs : 0 ≤ s) (ht : 0 ≤ t) (h : o = 31) : may o d s t true n = decide (d = 0 ∧ s ≤ 31 ∧ t = 0 ∧ 0 ≤ n ∧ n ≤ 1) := by
  have e : MayT o d s t n ↔ (d = 0 ∧ s ≤ 31 ∧ t = 0 ∧ 0 ≤ n ∧ n ≤ 1) := by
    (try unfold Ka at h); (try unfold Kb at h)
    constructor
    · intro h0
      obtain ⟨h2, h1⟩ := h0
      unfold Ka Kb at h1
      rcases h1 with h1 | h1 | h1 | h1 | h1 | h1 | h1 | h1 | h1
      all_goals omega
    · intro h0
      unfold MayT Ka Kb
      refine ⟨by omega, ?_⟩
      repeat (first | (left; omega; done) | right)
      all_goals omega
  exact (Bool.eq_iff_iff.2 (by rw [show may o d s t true n = decide (MayT o d s t n) from rfl, decide_eq_true_iff, e, decide_eq_true_iff]))
theorem may8_f (o d s t n : Int) (hd : 0 ≤ d) (hs : 0 ≤ s) (ht : 0 ≤ t) (h : o = 31) : may o d s t false n = false := by
  have e : MayF o d s t n ↔ (False) := by
    (try unfold Ka at h); (try unfold Kb at h)
    constructor
    · intro h0
      obtain ⟨h2, h1⟩ := h0
      unfold Ka Kb at h1
      rcases h1 with h1 | h1 | h1 | h1 | h1
      all_goals omega
    · intro h0
      unfold MayF Ka Kb
      exact h0.elim
  exact decide_eq_false e.1
theorem may9_t (o d s t n : Int) (hd : 0 ≤ d) (hs : 0 ≤ s) (ht : 0 ≤ t) (h : o = 33) : may o d s t true n = decide (d = 0 ∧ s = 0 ∧ t = 0 ∧ 3 ≤ n ∧ n ≤ 4) := by
  have e : MayT o d s t n ↔ (d = 0 ∧ s = 0 ∧ t = 0 ∧ 3 ≤ n ∧ n ≤ 4) := by
    (try unfold Ka at h); (try unfold Kb at h)
    constructor
    · intro h0
      obtain ⟨h2, h1⟩ := h0
      unfold Ka Kb at h1
      rcases h1 with h1 | h1 | h1 | h1 | h1 | h1 | h1 | h1 | h1
      all_goals omega
    · intro h0
      unfold MayT Ka Kb
      refine ⟨by omega, ?_⟩
      repeat (first | (left; omega; done) | right)
      all_goals omega
  exact (Bool.eq_iff_iff.2 (by rw [show may o d s t true n = decide (MayT o d s t n) from rfl, decide_eq_true_iff, e, decide_eq_true_iff]))
theorem may9_f (o d s t n : Int) (hd : 0 ≤ d) (hs : 0 ≤ s) (ht : 0 ≤ t) (h : o = 33) : may o d s t false n = false := by
  have e : MayF o d s t n ↔ (False) := by
    (try unfold Ka at h); (try unfold Kb at h)
    constructor
    · intro h0
      obtain ⟨h2, h1⟩ := h0
      unfold Ka Kb at h1
      rcases h1 with h1 | h1 | h1 | h1 | h1
      all_goals omega
    · intro h0
      unfold MayF Ka Kb
      exact h0.elim
  exact decide_eq_false e.1
theorem may10_t (o d s t n : Int) (hd : 0 ≤ d) (hs : 0 ≤ s) (ht : 0 ≤ t) (h : o = 35 ∨ o = 36) : may o d s t true n = false := by
  have e : MayT o d s t n ↔ (False) := by
    (try unfold Ka at h); (try unfold Kb at h)
    constructor
    · intro h0
      obtain ⟨h2, h1⟩ := h0
      unfold Ka Kb at h1
      rcases h1 with h1 | h1 | h1 | h1 | h1 | h1 | h1 | h1 | h1
      all_goals omega
    · intro h0
      unfold MayT Ka Kb
      exact h0.elim
  exact decide_eq_false e.1
theorem may10_f (o d s t n : Int) (hd : 0 ≤ d) (hs : 0 ≤ s) (ht : 0 ≤ t) (h : o = 35 ∨ o = 36) : may o d s t false n = decide (d = 0 ∧ s ≤ 31 ∧ t = 0 ∧ n = 0) := by
  have e : MayF o d s t n ↔ (d = 0 ∧ s ≤ 31 ∧ t = 0 ∧ n = 0) := by
    (try unfold Ka at h); (try unfold Kb at h)
    constructor
    · intro h0
      obtain ⟨h2, h1⟩ := h0
      unfold Ka Kb at h1
      rcases h1 with h1 | h1 | h1 | h1 | h1
      all_goals omega
    · intro h0
      unfold MayF Ka Kb
      refine ⟨by omega, ?_⟩
      repeat (first | (left; omega; done) | right)
      all_goals omega
  exact (Bool.eq_iff_iff.2 (by rw [show may o d s t false n = decide (MayF o d s t n) from rfl, decide_eq_true_iff, e, decide_eq_true_iff]))
theorem may11_t (o d s t n : Int) (hd : 0 ≤ d) (hs : 0 ≤ s) (ht : 0 ≤ t) (h : o = 37) : may o d s t true n = decide (d = 0 ∧ s = 0 ∧ t = 0 ∧ 1 ≤ n ∧ n ≤ 3) := by
  have e : MayT o d s t n ↔ (d = 0 ∧ s = 0 ∧ t = 0 ∧ 1 ≤ n ∧ n ≤ 3) := by
    (try unfold Ka at h); (try unfold Kb at h)
    constructor
    · intro h0
      obtain ⟨h2, h1⟩ := h0
      unfold Ka Kb at h1
      rcases h1 with h1 | h1 | h1 | h1 | h1 | h1 | h1 | h1 | h1
      all_goals omega
    · intro h0
      unfold MayT Ka Kb
      refine ⟨by omega, ?_⟩
      repeat (first | (left; omega; done) | right)
      all_goals omega
  exact (Bool.eq_iff_iff.2 (by rw [show may o d s t true n = decide (MayT o d s t n) from rfl, decide_eq_true_iff, e, decide_eq_true_iff]))
theorem may11_f (o d s t n : Int) (hd : 0 ≤ d) (hs : 0 ≤ s) (ht : 0 ≤ t) (h : o = 37) : may o d s t false n = false := by
  have e : MayF o d s t n ↔ (False) := by
    (try unfold Ka at h); (try unfold Kb at h)
    constructor
    · intro h0
      obtain ⟨h2, h1⟩ := h0
      unfold Ka Kb at h1
      rcases h1 with h1 | h1 | h1 | h1 | h1
      all_goals omega
    · intro h0
      unfold MayF Ka Kb
      exact h0.elim
  exact decide_eq_false e.1
theorem may12_t (o d s t n : Int) (hd : 0 ≤ d) (hs : 0 ≤ s) (ht : 0 ≤ t) (h : o = 32) : may o d s t true n = false := by
  have e : MayT o d s t n ↔ (False) := by
    (try unfold Ka at h); (try unfold Kb at h)
    constructor
    · intro h0
      obtain ⟨h2, h1⟩ := h0
      unfold Ka Kb at h1
      rcases h1 with h1 | h1 | h1 | h1 | h1 | h1 | h1 | h1 | h1
      all_goals omega
    · intro h0
      unfold MayT Ka Kb
      exact h0.elim
  exact decide_eq_false e.1
theorem may12_f (o d s t n : Int) (hd : 0 ≤ d) (hs : 0 ≤ s) (ht : 0 ≤ t) (h : o = 32) : may o d s t false n = decide (d = 0 ∧ s = 0 ∧ t = 0 ∧ n = 0) := by
  have e : MayF o d s t n ↔ (d = 0 ∧ s = 0 ∧ t = 0 ∧ n = 0) := by
    (try unfold Ka at h); (try unfold Kb at h)
    constructor
    · intro h0
      obtain ⟨h2, h1⟩ := h0
      unfold Ka Kb at h1
      rcases h1 with h1 | h1 | h1 | h1 | h1
      all_goals omega
    · intro h0
      unfold MayF Ka Kb
      refine ⟨by omega, ?_⟩
      repeat (first | (left; omega; done) | right)
      all_goals omega
  exact (Bool.eq_iff_iff.2 (by rw [show may o d s t false n = decide (MayF o d s t n) from rfl, decide_eq_true_iff, e, decide_eq_true_iff]))
theorem may0_t (o d s t n : Int) (hd : 0 ≤ d) (hs : 0 ≤ s) (ht : 0 ≤ t) (h : o < 1 ∨ 37 < o) : may o d s t true n = false := by
  have e : MayT o d s t n ↔ (False) := by
    (try unfold Ka at h); (try unfold Kb at h)
    constructor
    · intro h0
      obtain ⟨h2, h1⟩ := h0
      unfold Ka Kb at h1
      rcases h1 with h1 | h1 | h1 | h1 | h1 | h1 | h1 | h1 | h1
      all_goals omega
    · intro h0
      unfold MayT Ka Kb
      exact h0.elim
  exact decide_eq_false e.1
theorem may0_f (o d s t n : Int) (hd : 0 ≤ d) (hs : 0 ≤ s) (ht : 0 ≤ t) (h : o < 1 ∨ 37 < o) : may o d s t false n = false := by
  have e : MayF o d s t n ↔ (False) := by
    (try unfold Ka at h); (try unfold Kb at h)
    constructor
    · intro h0
      obtain ⟨h2, h1⟩ := h0
      unfold Ka Kb at h1
      rcases h1 with h1 | h1 | h1 | h1 | h1
      all_goals omega
    · intro h0
      unfold MayF Ka Kb
      exact h0.elim
  exact decide_eq_false e.1
end Go.Proofs.YtmpagjijjahohaaGreatDoor.I2
