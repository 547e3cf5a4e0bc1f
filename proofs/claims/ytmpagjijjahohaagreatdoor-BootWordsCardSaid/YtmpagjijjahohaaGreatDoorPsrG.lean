/- Plain arithmetic of layer 4 (psr), which imports nothing of the translation. The iterator over a state's parts (package psr): it hands on a pointer to each of the four parts, with its width, in order; for any loop body that keeps the iterator's own variable. join and split (package psr): the word of a state's parts, and the parts of a word; what was there has not turned. What the small functions of package psr come to: whether numbers are in their bounds, windows, the library's two counts of bits. The library's two counts of bits, as package psr asks them: of a word that has just one bit, and of any other. What package psr's functions come to, for any arguments: Pack, Unpack, Next, Ahead, Wim, Invalid, Resident. -/
import Derived.RowKit
import Derived.Laws.BitsAllLaws
import Derived.Lib.TrailingZeros
import Derived.RangeFuncNested
import Derived.RangeFuncBound
import Derived.RangeFuncCalls
import Derived.RangeFuncLeaves
import Derived.Shelf.Abstract
import Derived.Shelf.RegionOpen
import Derived.WalkKit
import Derived.OwnWalkIn
import Derived.TacticsInMore
import Derived.LoopNIn
import Derived.LoopIn
import Derived.Test.YtmpagjijjahohaaGreatDoorChecked
import Derived.Test.YtmpagjijjahohaaGreatDoorBaseG
import Derived.Deep.RegionWith
import Derived.BigQuiet
import Derived.IntWalk
import Derived.Deep.QuietTactic
import Derived.Deep.RegionHeld3
import Derived.Deep.DeepCutAuto
import Derived.Lib.BitFns
import Derived.KernelRfl
namespace Go.Proofs.YtmpagjijjahohaaGreatDoor.P4
/-- A part's width. -/
def wid (k : Fin 4) : Int := if k.val % 2 = 0 then 5 else 4
/-- How many bits the parts take that have come. -/
def ja (l : List (Fin 4)) : Int := l.foldl (fun a k => a + wid k) 0
/-- The word of the parts that have come, by the code's own operations. -/
def jstep (P : Fin 4 → Int) (s : Int × Int) (k : Fin 4) : Int × Int := (bits .or .u32 s.1 (P k * 2 ^ s.2.toNat % 4294967296), s.2 + wid k)
def jw (P : Fin 4 → Int) (l : List (Fin 4)) : Int := (l.foldl (jstep P) (0, 0)).1
theorem snoc_ind {α : Type} {p : List α → Prop} (h0 : p []) (h1 : ∀ l a, p l → p (l ++ [a])) (l : List α) : p l := by
  rw [← List.reverse_reverse l]
  induction l.reverse with
  | nil => exact h0
  | cons a r ih => rw [List.reverse_cons]; exact h1 _ _ ih
theorem wid_nonneg (k : Fin 4) : 0 ≤ wid k := by unfold wid; split <;> decide
theorem wid_le (k : Fin 4) : wid k ≤ 5 := by unfold wid; split <;> decide
theorem ja_snoc (l : List (Fin 4)) (k : Fin 4) : ja (l ++ [k]) = ja l + wid k := by simp [ja, List.foldl_append]
theorem ja_nonneg (l : List (Fin 4)) : 0 ≤ ja l := by
  refine snoc_ind (p := fun l => 0 ≤ ja l) (by simp [ja]) (fun l k ih => ?_) l
  rw [ja_snoc]; have := wid_nonneg k; omega
theorem ja_le (l : List (Fin 4)) : ja l ≤ 5 * l.length := by
  refine snoc_ind (p := fun l => ja l ≤ 5 * l.length) (by simp [ja]) (fun l k ih => ?_) l
  rw [ja_snoc]; have := wid_le k; simp; omega
theorem jstep_at (P : Fin 4 → Int) (l : List (Fin 4)) : (l.foldl (jstep P) (0, 0)).2 = ja l := by
  refine snoc_ind (p := fun l => (l.foldl (jstep P) (0, 0)).2 = ja l) (by simp [ja]) (fun l k ih => ?_) l
  rw [List.foldl_append, ja_snoc, ← ih]; simp [jstep]
theorem jw_snoc (P : Fin 4 → Int) (l : List (Fin 4)) (k : Fin 4) : jw P (l ++ [k]) = bits .or .u32 (jw P l) (P k * 2 ^ (ja l).toNat % 4294967296) := by
  rw [← jstep_at P]; simp [jw, jstep, List.foldl_append]
/-- What is left of a word, and the parts that have come of it. -/
def sstep (s : Int × (Fin 4 → Int)) (k : Fin 4) : Int × (Fin 4 → Int) :=
  (s.1 / 2 ^ (wid k).toNat, fun j => if j = k then bits .and .u32 s.1 (2 ^ (wid k).toNat - 1) % 256 else s.2 j)
def sSt (v : Int) (l : List (Fin 4)) : Int × (Fin 4 → Int) := l.foldl sstep (v, fun _ => 0)
def sR (v : Int) (l : List (Fin 4)) : Int := (sSt v l).1
def sQ (v : Int) (l : List (Fin 4)) (k : Fin 4) : Int := (sSt v l).2 k
theorem wid_or (k : Fin 4) : wid k = 5 ∨ wid k = 4 := by unfold wid; split <;> simp
theorem sSt_snoc (v : Int) (l : List (Fin 4)) (k : Fin 4) : sSt v (l ++ [k]) = sstep (sSt v l) k := by simp [sSt, List.foldl_append]
theorem sR_snoc (v : Int) (l : List (Fin 4)) (k : Fin 4) : sR v (l ++ [k]) = sR v l / 2 ^ (wid k).toNat := by unfold sR; rw [sSt_snoc]; rfl
theorem sQ_snoc (v : Int) (l : List (Fin 4)) (k j : Fin 4) : sQ v (l ++ [k]) j = if j = k then bits .and .u32 (sR v l) (2 ^ (wid k).toNat - 1) % 256 else sQ v l j := by unfold sQ; rw [sSt_snoc]; rfl
theorem sR_nonneg {v : Int} (h : 0 ≤ v) (l : List (Fin 4)) : 0 ≤ sR v l := by
  refine snoc_ind (p := fun l => 0 ≤ sR v l) h (fun l k ih => ?_) l
  rw [sR_snoc]; rcases wid_or k with e | e <;> rw [e] <;> simp <;> omega
theorem sR_le {v : Int} (h : 0 ≤ v) (l : List (Fin 4)) : sR v l ≤ v := by
  refine snoc_ind (p := fun l => sR v l ≤ v) (Int.le_refl _) (fun l k ih => ?_) l
  have := sR_nonneg h l
  rw [sR_snoc]; rcases wid_or k with e | e <;> rw [e] <;> simp <;> omega
theorem or_low (i : Nat) (p x y : Int) (hp : (2 : Int) ^ i = p) (hx : 0 ≤ x ∧ x < p) (hm : y % p = 0) (hy : 0 ≤ y ∧ y < 4294967296) (hs : x < 4294967296) : bits .or .u32 x y = x + y := by
  obtain ⟨a, rfl⟩ : ∃ a : Nat, x = a := ⟨x.toNat, by omega⟩
  obtain ⟨b, rfl⟩ : ∃ b : Nat, y = b := ⟨y.toNat, by omega⟩
  rw [u32_or_nat a b (by omega) (by omega)]
  have h2 : ((2 ^ i : Nat) : Int) = p := by rw [← hp]; simp
  have hb : b % 2 ^ i = 0 := by
    have : ((b % 2 ^ i : Nat) : Int) = 0 := by rw [Int.natCast_emod, h2]; exact hm
    omega
  have ha : a < 2 ^ i := by omega
  have hq : b = 2 ^ i * (b / 2 ^ i) := by have := Nat.div_add_mod b (2 ^ i); omega
  have : a ||| b = a + b := by
    rw [Nat.or_comm, hq, ← Nat.two_pow_add_eq_or_of_lt ha, Nat.add_comm]
  rw [this]; simp
theorem jw_all (P : Fin 4 → Int) (h0 : 0 ≤ P 0 ∧ P 0 < 32) (h1 : 0 ≤ P 1 ∧ P 1 < 16) (h2 : 0 ≤ P 2 ∧ P 2 < 32) (h3 : 0 ≤ P 3 ∧ P 3 < 16) : jw P [0, 1, 2, 3] = P 0 + 32 * P 1 + 512 * P 2 + 16384 * P 3 := by
  have e : jw P [0, 1, 2, 3] = bits .or .u32 (bits .or .u32 (bits .or .u32 (bits .or .u32 0 (P 0 * 1 % 4294967296)) (P 1 * 32 % 4294967296)) (P 2 * 512 % 4294967296)) (P 3 * 16384 % 4294967296) := rfl
  have e1 : bits .or .u32 0 (P 0 * 1 % 4294967296) = P 0 := by rw [or_low 0 1 0 _ rfl (by omega) (by omega) (by omega) (by omega)]; omega
  have e2 : bits .or .u32 (P 0) (P 1 * 32 % 4294967296) = P 0 + 32 * P 1 := by rw [or_low 5 32 _ _ rfl (by omega) (by omega) (by omega) (by omega)]; omega
  have e3 : bits .or .u32 (P 0 + 32 * P 1) (P 2 * 512 % 4294967296) = P 0 + 32 * P 1 + 512 * P 2 := by rw [or_low 9 512 _ _ rfl (by omega) (by omega) (by omega) (by omega)]; omega
  have e4 : bits .or .u32 (P 0 + 32 * P 1 + 512 * P 2) (P 3 * 16384 % 4294967296) = P 0 + 32 * P 1 + 512 * P 2 + 16384 * P 3 := by rw [or_low 14 16384 _ _ rfl (by omega) (by omega) (by omega) (by omega)]; omega
  rw [e, e1, e2, e3, e4]
theorem and_mask (i : Nat) (m p v : Int) (hm : (2 : Int) ^ i - 1 = m) (hp : (2 : Int) ^ i = p) (hl : p ≤ 4294967296) (hv : 0 ≤ v ∧ v < 4294967296) : bits .and .u32 v m = v % p := by
  obtain ⟨a, rfl⟩ : ∃ a : Nat, v = a := ⟨v.toNat, by omega⟩
  have h2 : ((2 ^ i : Nat) : Int) = p := by rw [← hp]; simp
  have h1 : 1 ≤ 2 ^ i := Nat.one_le_two_pow
  have h3 : m = ((2 ^ i - 1 : Nat) : Int) := by omega
  rw [h3, u32_and_nat a _ (by omega) (by omega), Nat.and_two_pow_sub_one_eq_mod, ← h2, Int.natCast_emod]
theorem sQ_0 {v : Int} (h : 0 ≤ v ∧ v < 4294967296) : sQ v [0, 1, 2, 3] 0 = v % 32 := by
  have e : sQ v [0, 1, 2, 3] 0 = bits .and .u32 v 31 % 256 := rfl
  rw [e, and_mask 5 31 32 _ rfl rfl (by omega) h]; omega
theorem sQ_1 {v : Int} (h : 0 ≤ v ∧ v < 4294967296) : sQ v [0, 1, 2, 3] 1 = v / 32 % 16 := by
  have e : sQ v [0, 1, 2, 3] 1 = bits .and .u32 (v / 32) 15 % 256 := rfl
  rw [e, and_mask 4 15 16 _ rfl rfl (by omega) (by omega)]; omega
theorem sQ_2 {v : Int} (h : 0 ≤ v ∧ v < 4294967296) : sQ v [0, 1, 2, 3] 2 = v / 512 % 32 := by
  have e : sQ v [0, 1, 2, 3] 2 = bits .and .u32 (v / 32 / 16) 31 % 256 := rfl
  rw [e, and_mask 5 31 32 _ rfl rfl (by omega) (by omega)]; omega
theorem sQ_3 {v : Int} (h : 0 ≤ v ∧ v < 4294967296) : sQ v [0, 1, 2, 3] 3 = v / 16384 % 16 := by
  have e : sQ v [0, 1, 2, 3] 3 = bits .and .u32 (v / 32 / 16 / 32) 15 % 256 := rfl
  rw [e, and_mask 4 15 16 _ rfl rfl (by omega) (by omega)]; omega
end Go.Proofs.YtmpagjijjahohaaGreatDoor.P4
namespace Go.Proofs.YtmpagjijjahohaaGreatDoor.P4
open Go.RowKit Go.Shelf
set_option linter.unusedVariables false
attribute [local go_sem] Oper.semAt_some

/-- What a round is handed: where the part lies, and its width. -/
def encP (b : Nat) (k : Fin 4) : Array Value := #[.pointer (some ⟨b, k.val, none⟩), .int .i64 (wid k)]
theorem encP0 (b : Nat) : encP b 0 = #[.pointer (some ⟨b, 0, none⟩), .int .i64 5] := rfl
theorem encP1 (b : Nat) : encP b 1 = #[.pointer (some ⟨b, 1, none⟩), .int .i64 4] := rfl
theorem encP2 (b : Nat) : encP b 2 = #[.pointer (some ⟨b, 2, none⟩), .int .i64 5] := rfl
theorem encP3 (b : Nat) : encP b 3 = #[.pointer (some ⟨b, 3, none⟩), .int .i64 4] := rfl
/-- What a round keeps: the iterator's variable. -/
def KeepB (B : Nat) (A C : World) : Prop := ∀ v, A.cell? ⟨B, 0, none⟩ = some v → C.cell? ⟨B, 0, none⟩ = some v

theorem parts_any (F : Fence) (n : Nat) (h35 : F.fn 316) (hro : F.round = none) (b : Nat) (w : World) :
    CallsIn F n Tryz.prog 316 #[.pointer (some ⟨b, 0, none⟩)] w fun e w' => e = .returned (.func (.func 369) #[] #[.pointer (some ⟨w.heap.size, 0, none⟩)]) ∧ w.alloc (.cells #[.pointer (some ⟨b, 0, none⟩)] 346) = w' := by
  refine callsIn_of_wp Tryz.func316 rfl h35 ?_ hro
  simp only [Tryz.ntmps316, List.size_toArray, List.length_cons, List.length_nil, Nat.reduceAdd, Nat.reduceSub, Array.replicate_succ, Array.replicate_zero, List.push_toArray, List.append_toArray, List.nil_append, List.cons_append]
  gi_wp2
  go_ret
  exact ⟨rfl, rfl⟩

set_option maxRecDepth 100000 in
set_option maxHeartbeats 2000000 in
theorem parts_stops (F : Fence) (n : Nat) (h36 : F.fn 369) (hro : F.round = none) (hn : 1 ≤ n) (B b : Nat) (w : World) (hB : w.cell? ⟨B, 0, none⟩ = some (.pointer (some ⟨b, 0, none⟩))) :
    SeqStopsK F n Tryz.prog 369 #[.pointer (some ⟨B, 0, none⟩)] (encP b) (KeepB B) (fun xs => xs = [0, 1, 2, 3]) (fun _ => True) 4 w := fun l J Jx W hW _ _ hY h0 => by
  have hb0 : W.cell? ⟨B, 0, none⟩ = some (.pointer (some ⟨b, 0, none⟩)) := (hW.cell (p := ⟨B, 0, none⟩) (block_lt_of_cell hB)).trans hB
  clear hB hW
  refine callsIn_of_wp Tryz.func369 rfl h36 ?_ hro
  simp only [Tryz.ntmps369, List.size_toArray, List.length_cons, List.length_nil, Nat.reduceAdd, Nat.reduceSub, Array.replicate_succ, Array.replicate_zero, List.push_toArray, List.append_toArray, List.nil_append, List.cons_append]
  obtain ⟨f0, t0, a0, c0, hy0, hR0⟩ := hY [] 0 W h0 (by simp)
  rw [encP0] at hy0
  gi_wp2
  refine hR0.mono ?_
  rintro e W1 (⟨rfl, hJ1, k1⟩ | ⟨rfl, hx1⟩)
  · have hb1 := k1 _ hb0
    clear hR0 hy0 k1
    obtain ⟨f1, t1, a1, c1, hy1, hR1⟩ := hY [0] 1 W1 hJ1 (by simp)
    rw [encP1] at hy1
    gi_wp2
    refine hR1.mono ?_
    rintro e W2 (⟨rfl, hJ2, k2⟩ | ⟨rfl, hx2⟩)
    · have hb2 := k2 _ hb1
      clear hR1 hy1 k2
      obtain ⟨f2, t2, a2, c2, hy2, hR2⟩ := hY [0, 1] 2 W2 hJ2 (by simp)
      rw [encP2] at hy2
      gi_wp2
      refine hR2.mono ?_
      rintro e W3 (⟨rfl, hJ3, k3⟩ | ⟨rfl, hx3⟩)
      · have hb3 := k3 _ hb2
        clear hR2 hy2 k3
        obtain ⟨f3, t3, a3, c3, hy3, hR3⟩ := hY [0, 1, 2] 3 W3 hJ3 (by simp)
        rw [encP3] at hy3
        gi_wp2
        refine hR3.mono ?_
        rintro e W4 (⟨rfl, hJ4, k4⟩ | ⟨rfl, hx4⟩)
        · gi_wp2
          go_end0
          exact ⟨⟨_, rfl⟩, .inl ⟨[0, 1, 2, 3], rfl, hJ4⟩⟩
        · gi_wp2
          go_end0
          exact ⟨⟨_, rfl⟩, .inr ⟨_, trivial, hx4⟩⟩
      · gi_wp2
        repeat (refine ⟨fun _ h => (by cases h), ?_⟩; gi_wp2)
        go_end0
        exact ⟨⟨_, rfl⟩, .inr ⟨_, trivial, hx3⟩⟩
    · gi_wp2
      repeat (refine ⟨fun _ h => (by cases h), ?_⟩; gi_wp2)
      go_end0
      exact ⟨⟨_, rfl⟩, .inr ⟨_, trivial, hx2⟩⟩
  · gi_wp2
    repeat (refine ⟨fun _ h => (by cases h), ?_⟩; gi_wp2)
    go_end0
    exact ⟨⟨_, rfl⟩, .inr ⟨_, trivial, hx1⟩⟩
end Go.Proofs.YtmpagjijjahohaaGreatDoor.P4
namespace Go.Proofs.YtmpagjijjahohaaGreatDoor.P4
open Go.RowKit Go.Shelf
set_option linter.unusedVariables false
attribute [local go_sem] Oper.semAt_some

theorem keepB_b (B : Nat) (w : World) : ∀ (W : World) (l : Nat) (o o' : Obj), w.heap.size ≤ l → W.heap[l]? = some o → o.isCells = false → o.isWalk = false → KeepB B W (W.putObj l o') :=
  fun W l o o' _ hl ho _ v hv => cell_kept hv (grownBy_putObj' W l o') (fun r e => by cases e; exact ⟨o, hl, ho⟩)
set_option maxRecDepth 100000 in
set_option maxHeartbeats 2000000 in
theorem join_in (F : Fence) (n : Nat) (h24 : F.fn 244) (h35 : F.fn 316) (h36 : F.fn 369) (hro : F.round = none) (hn : 3 ≤ n) (P : Fin 4 → Int) (hP : ∀ k, 0 ≤ P k ∧ P k < 256) (w : World) :
    CallsIn F n Tryz.prog 244 #[.agg #[.int .u8 (P 0), .int .u8 (P 1), .int .u8 (P 2), .int .u8 (P 3)]] w fun e w' => e = .returned (.int .u32 (jw P [0, 1, 2, 3])) ∧ Below w.heap.size w w' := by
  have h1 : 1 ≤ n := by omega
  refine callsIn_of_wp_marks Tryz.func244 rfl h24 ?_ hro
  simp only [Tryz.ntmps244, List.size_toArray, List.length_cons, List.length_nil, Nat.reduceAdd, Nat.reduceSub, Array.replicate_succ, Array.replicate_zero, List.push_toArray, List.append_toArray, List.nil_append, List.cons_append]
  gi_wp2_with (gi_at_call 316; refine (parts_any F (n - 1) h35 hro _ _).mono ?_; rintro e w' ⟨rfl, hw'⟩)
  have R0 : w'.heap[w.heap.size]? = some (.cells #[.int .u8 (P 0), .int .u8 (P 1), .int .u8 (P 2), .int .u8 (P 3)] 58 (0, 0)) := by rw [← hw']; exact row_alloc (row_alloc (row_alloc (row_born rfl)))
  have R1 : w'.heap[w.heap.size + 1]? = some (.cells #[.int .u32 0] 32 (0, 0)) := by rw [← hw']; exact row_alloc (row_alloc (row_born (by simp)))
  have R2 : w'.heap[w.heap.size + 1 + 1]? = some (.cells #[.int .i64 0] 3 (0, 0)) := by rw [← hw']; exact row_alloc (row_born (by simp))
  have R3 : w'.heap[w.heap.size + 1 + 1 + 1]? = some (.cells #[.pointer (some ⟨w.heap.size, 0, none⟩)] 346 (0, 0)) := by rw [← hw']; exact row_born (by simp)
  have hB : w'.cell? ⟨w.heap.size + 1 + 1 + 1, 0, none⟩ = some (.pointer (some ⟨w.heap.size, 0, none⟩)) := row_cell R3 rfl
  have hc : ∀ k : Fin 4, w'.cell? ⟨w.heap.size, k.val, none⟩ = some (.int .u8 (P k)) := by
    intro k
    match k with
    | 0 => exact row_cell R0 rfl
    | 1 => exact row_cell R0 rfl
    | 2 => exact row_cell R0 rfl
    | 3 => exact row_cell R0 rfl
  have hv : w'.cell? ⟨w.heap.size + 1, 0, none⟩ = some (.int .u32 (jw P [])) ∧ w'.frozen? ⟨w.heap.size + 1, 0, none⟩ = false := ⟨row_cell R1 rfl, row_frozen R1⟩
  have ha : w'.cell? ⟨w.heap.size + 1 + 1, 0, none⟩ = some (.int .i64 (ja [])) ∧ w'.frozen? ⟨w.heap.size + 1 + 1, 0, none⟩ = false := ⟨row_cell R2 rfl, row_frozen R2⟩
  have hG : Below w.heap.size w w' := by rw [← hw']; go_grown
  have hz : w.heap.size + 4 ≤ w'.heap.size := by rw [← hw']; simp
  clear hw' R0 R1 R2 R3
  refine wpIn_rangeFunc_ownF hro h1 (gf := 369) (lb := #[.pointer (some ⟨w.heap.size + 1 + 1 + 1, 0, none⟩)]) rfl h36 (enters_of Tryz.func369 (by kernel_rfl) rfl)
    (parts_stops F (n - 1) h36 hro (by omega) (w.heap.size + 1 + 1 + 1) w.heap.size w' hB) (fun h k v hv => k v (h v hv)) (keepB_b _ _) (Below.refl _ _) (fun _ => rfl)
    (fun pre W => ((∀ k : Fin 4, W.cell? ⟨w.heap.size, k.val, none⟩ = some (.int .u8 (P k))) ∧
        (W.cell? ⟨w.heap.size + 1, 0, none⟩ = some (.int .u32 (jw P pre)) ∧ W.frozen? ⟨w.heap.size + 1, 0, none⟩ = false) ∧
        (W.cell? ⟨w.heap.size + 1 + 1, 0, none⟩ = some (.int .i64 (ja pre)) ∧ W.frozen? ⟨w.heap.size + 1 + 1, 0, none⟩ = false)) ∧ Below w.heap.size w W)
    (fun _ _ _ => False)
    (OwnFrom.and (Own.from (fun s A B row hs hg hr => ⟨fun k => cell_kept (hs.1 k) hg hr, ⟨cell_kept hs.2.1.1 hg hr, (frozen_kept hs.2.1.1 hg hr).trans hs.2.1.2⟩, cell_kept hs.2.2.1 hg hr, (frozen_kept hs.2.2.1 hg hr).trans hs.2.2.2⟩) _) (ownFrom_below (Nat.le_refl _) (by omega)))
    (fun _ _ _ _ _ hs _ _ => hs)
    ⟨⟨hc, hv, ha⟩, hG⟩
    (fun x => { tmps := #[.agg #[.int .u8 (P 0), .int .u8 (P 1), .int .u8 (P 2), .int .u8 (P 3)], .pointer (some ⟨w.heap.size, 0, none⟩), .int .u32 0, .pointer (some ⟨w.heap.size + 1, 0, none⟩), .pointer (some ⟨w.heap.size + 1 + 1, 0, none⟩), .pointer (some ⟨w.heap.size, x.val, none⟩), .int .i64 (wid x),
      .func (.func 369) #[] #[.pointer (some ⟨w.heap.size + 1 + 1 + 1, 0, none⟩)], .pointer (some ⟨w.heap.size, x.val, none⟩), .int .i64 (wid x), undef, undef, undef, undef, undef, undef, undef, undef, undef, undef, undef, undef], defers := [] }) ?assign ?body ?done ?stop
  case assign =>
    intro l x W K hK
    simp only [encP]
    gi_wp2
    exact hK
  case body =>
    clear hB hc hv ha hG hz
    rintro l pre x W ⟨⟨hc, ⟨hv, hvf⟩, ha, haf⟩, hG⟩ hlen
    have hcx := hc x
    have hj0 : 0 ≤ ja pre := ja_nonneg pre
    have hj1 : ja pre ≤ 20 := by have := ja_le pre; omega
    have hw0 : 0 ≤ wid x := wid_nonneg x
    have hw1 : wid x ≤ 5 := wid_le x
    have hp0 := (hP x).1
    have hp1 := (hP x).2
    have hmx : Tryz.prog.follows .mixedOrders = true := by kernel_rfl
    have fin : Hid (∀ W' : World, W' = ((W.setCell ⟨w.heap.size + 1, 0, none⟩ (.int .u32 (bits .or .u32 (jw P pre) (P x * 2 ^ (ja pre).toNat % 4294967296)))).setCell ⟨w.heap.size + 1 + 1, 0, none⟩ (.int .i64 (ja pre + wid x))).drew →
        KeepsOthers W W' ∧ KeepB (w.heap.size + 1 + 1 + 1) W W' ∧ (((∀ k : Fin 4, W'.cell? ⟨w.heap.size, k.val, none⟩ = some (.int .u8 (P k))) ∧
        (W'.cell? ⟨w.heap.size + 1, 0, none⟩ = some (.int .u32 (jw P (pre ++ [x]))) ∧ W'.frozen? ⟨w.heap.size + 1, 0, none⟩ = false) ∧
        (W'.cell? ⟨w.heap.size + 1 + 1, 0, none⟩ = some (.int .i64 (ja (pre ++ [x]))) ∧ W'.frozen? ⟨w.heap.size + 1 + 1, 0, none⟩ = false)) ∧ Below w.heap.size w W')) := by
      rintro W' rfl
      refine ⟨((KeepsOthers.setCell _ _ _).trans (KeepsOthers.setCell _ _ _)).trans (KeepsOthers.drew _), fun v hv' => ?_, ⟨fun k => ?_, ⟨?_, ?_⟩, ?_, ?_⟩, ((hG.setCell (p := ⟨w.heap.size + 1, 0, none⟩) (by simp) _).setCell (p := ⟨w.heap.size + 1 + 1, 0, none⟩) (by simp; omega) _).drew⟩
      · rw [cell_drew_own, cell_other (by omega), cell_other (by omega)]; exact hv'
      · rw [cell_drew_own, cell_other (by omega), cell_other (by omega)]; exact hc k
      · rw [cell_drew_own, cell_other (by omega), jw_snoc]; exact World.cell?_setCell_same' _ _ _ (by rw [hv]; rfl)
      · rw [frozen_drew_own, World.frozen?_setCell, World.frozen?_setCell]; exact hvf
      · rw [cell_drew_own, ja_snoc]; exact World.cell?_setCell_same' _ _ _ (by rw [cell_other (by omega), ha]; rfl)
      · rw [frozen_drew_own, World.frozen?_setCell, World.frozen?_setCell]; exact haf
    gi_wp2
    gi_region_with_o fail
    all_goals gi_wp2
    all_goals (try go_bits)
    all_goals exact fin.out _ rfl
  case done =>
    rintro D ys W hD rfl ⟨⟨_, ⟨hv, _⟩, _⟩, hG⟩ hK
    gi_wp2
    refine ⟨by simp, .inl ⟨_, _, rfl, run_takeDeferred hK, ?_⟩⟩
    exact ⟨_, results_tmp rfl _ _ _, rfl, hG.trans (belowK_b (w := w) (Nat.le_refl _) W D _ _ (by omega) hK rfl rfl)⟩
  case stop =>
    rintro D c pre W _ _ h _
    exact h.elim

set_option maxRecDepth 100000 in
set_option maxHeartbeats 2000000 in
theorem split_in (F : Fence) (n : Nat) (h29 : F.fn 258) (h35 : F.fn 316) (h36 : F.fn 369) (hro : F.round = none) (hn : 3 ≤ n) (v : Int) (hv0 : 0 ≤ v) (hv1 : v < 4294967296) (w : World) :
    CallsIn F n Tryz.prog 258 #[.int .u32 v] w fun e w' => e = .returned (.agg #[.int .u8 (sQ v [0, 1, 2, 3] 0), .int .u8 (sQ v [0, 1, 2, 3] 1), .int .u8 (sQ v [0, 1, 2, 3] 2), .int .u8 (sQ v [0, 1, 2, 3] 3)]) ∧ Below w.heap.size w w' := by
  have h1 : 1 ≤ n := by omega
  refine callsIn_of_wp_marks Tryz.func258 rfl h29 ?_ hro
  simp only [Tryz.ntmps258, List.size_toArray, List.length_cons, List.length_nil, Nat.reduceAdd, Nat.reduceSub, Array.replicate_succ, Array.replicate_zero, List.push_toArray, List.append_toArray, List.nil_append, List.cons_append]
  gi_wp2_with (gi_at_call 316; refine (parts_any F (n - 1) h35 hro _ _).mono ?_; rintro e w' ⟨rfl, hw'⟩)
  have R0 : w'.heap[w.heap.size]? = some (.cells #[.int .u32 v] 32 (0, 0)) := by rw [← hw']; exact row_alloc (row_alloc (row_alloc (row_born rfl)))
  have R1 : w'.heap[w.heap.size + 1]? = some (.cells #[.int .u8 0, .int .u8 0, .int .u8 0, .int .u8 0] 58 (0, 0)) := by rw [← hw']; exact row_alloc (row_alloc (row_born (by simp)))
  have R2 : w'.heap[w.heap.size + 1 + 1]? = some (.cells #[.int .u8 0, .int .u8 0, .int .u8 0, .int .u8 0] 58 (0, 0)) := by rw [← hw']; exact row_alloc (row_born (by simp))
  have R3 : w'.heap[w.heap.size + 1 + 1 + 1]? = some (.cells #[.pointer (some ⟨w.heap.size + 1 + 1, 0, none⟩)] 346 (0, 0)) := by rw [← hw']; exact row_born (by simp)
  have hB : w'.cell? ⟨w.heap.size + 1 + 1 + 1, 0, none⟩ = some (.pointer (some ⟨w.heap.size + 1 + 1, 0, none⟩)) := row_cell R3 rfl
  have hc : ∀ k : Fin 4, w'.cell? ⟨w.heap.size + 1 + 1, k.val, none⟩ = some (.int .u8 (sQ v [] k)) ∧ w'.frozen? ⟨w.heap.size + 1 + 1, k.val, none⟩ = false := by
    intro k
    match k with
    | 0 => exact ⟨row_cell R2 rfl, row_frozen R2⟩
    | 1 => exact ⟨row_cell R2 rfl, row_frozen R2⟩
    | 2 => exact ⟨row_cell R2 rfl, row_frozen R2⟩
    | 3 => exact ⟨row_cell R2 rfl, row_frozen R2⟩
  have hr : ∀ k : Fin 4, w'.cell? ⟨w.heap.size + 1, k.val, none⟩ = some (.int .u8 0) ∧ w'.frozen? ⟨w.heap.size + 1, k.val, none⟩ = false := by
    intro k
    match k with
    | 0 => exact ⟨row_cell R1 rfl, row_frozen R1⟩
    | 1 => exact ⟨row_cell R1 rfl, row_frozen R1⟩
    | 2 => exact ⟨row_cell R1 rfl, row_frozen R1⟩
    | 3 => exact ⟨row_cell R1 rfl, row_frozen R1⟩
  have hs : w'.cell? ⟨w.heap.size, 0, none⟩ = some (.int .u32 (sR v [])) ∧ w'.frozen? ⟨w.heap.size, 0, none⟩ = false := ⟨row_cell R0 rfl, row_frozen R0⟩
  have hG : Below w.heap.size w w' := by rw [← hw']; go_grown
  have hz : w.heap.size + 4 ≤ w'.heap.size := by rw [← hw']; simp
  clear hw' R0 R1 R2 R3
  refine wpIn_rangeFunc_ownF hro h1 (gf := 369) (lb := #[.pointer (some ⟨w.heap.size + 1 + 1 + 1, 0, none⟩)]) rfl h36 (enters_of Tryz.func369 (by kernel_rfl) rfl)
    (parts_stops F (n - 1) h36 hro (by omega) (w.heap.size + 1 + 1 + 1) (w.heap.size + 1 + 1) w' hB) (fun h k v hv => k v (h v hv)) (keepB_b _ _) (Below.refl _ _) (fun _ => rfl)
    (fun pre W => ((∀ k : Fin 4, W.cell? ⟨w.heap.size + 1 + 1, k.val, none⟩ = some (.int .u8 (sQ v pre k)) ∧ W.frozen? ⟨w.heap.size + 1 + 1, k.val, none⟩ = false) ∧
        (∀ k : Fin 4, W.cell? ⟨w.heap.size + 1, k.val, none⟩ = some (.int .u8 0) ∧ W.frozen? ⟨w.heap.size + 1, k.val, none⟩ = false) ∧
        (W.cell? ⟨w.heap.size, 0, none⟩ = some (.int .u32 (sR v pre)) ∧ W.frozen? ⟨w.heap.size, 0, none⟩ = false)) ∧ Below w.heap.size w W)
    (fun _ _ _ => False)
    (OwnFrom.and (Own.from (fun s A B row hs hg hr => ⟨fun k => ⟨cell_kept (hs.1 k).1 hg hr, (frozen_kept (hs.1 k).1 hg hr).trans (hs.1 k).2⟩, fun k => ⟨cell_kept (hs.2.1 k).1 hg hr, (frozen_kept (hs.2.1 k).1 hg hr).trans (hs.2.1 k).2⟩, cell_kept hs.2.2.1 hg hr, (frozen_kept hs.2.2.1 hg hr).trans hs.2.2.2⟩) _) (ownFrom_below (Nat.le_refl _) (by omega)))
    (fun _ _ _ _ _ hs _ _ => hs)
    ⟨⟨hc, hr, hs⟩, hG⟩
    (fun x => { tmps := #[.int .u32 v, .pointer (some ⟨w.heap.size, 0, none⟩), .pointer (some ⟨w.heap.size + 1, 0, none⟩), .pointer (some ⟨w.heap.size + 1 + 1, 0, none⟩), .pointer (some ⟨w.heap.size + 1 + 1, x.val, none⟩), .int .i64 (wid x),
      .func (.func 369) #[] #[.pointer (some ⟨w.heap.size + 1 + 1 + 1, 0, none⟩)], .pointer (some ⟨w.heap.size + 1 + 1, x.val, none⟩), .int .i64 (wid x), undef, undef, undef, undef, undef, undef, undef, undef, undef, undef, undef, undef], defers := [] }) ?assign ?body ?done ?stop
  case assign =>
    intro l x W K hK
    simp only [encP]
    gi_wp2
    exact hK
  case body =>
    clear hB hc hr hs hG hz
    rintro l pre x W ⟨⟨hc, hr, hs, hsf⟩, hG⟩ hlen
    have hcx := (hc x).1
    have hcf := (hc x).2
    have hs0 := sR_nonneg hv0 pre
    have hs1 : sR v pre < 4294967296 := Int.lt_of_le_of_lt (sR_le hv0 pre) hv1
    have hmx : Tryz.prog.follows .mixedOrders = true := by kernel_rfl
    have hd : wid x = 5 ∨ wid x = 4 := wid_or x
    have fin : Hid (∀ m d : Int, m = 2 ^ (wid x).toNat - 1 → d = 2 ^ (wid x).toNat → ∀ W' : World, W' = ((W.setCell ⟨w.heap.size + 1 + 1, x.val, none⟩ (.int .u8 (bits .and .u32 (sR v pre) m % 256))).setCell ⟨w.heap.size, 0, none⟩ (.int .u32 (sR v pre / d))).drew →
        KeepsOthers W W' ∧ KeepB (w.heap.size + 1 + 1 + 1) W W' ∧ (((∀ k : Fin 4, W'.cell? ⟨w.heap.size + 1 + 1, k.val, none⟩ = some (.int .u8 (sQ v (pre ++ [x]) k)) ∧ W'.frozen? ⟨w.heap.size + 1 + 1, k.val, none⟩ = false) ∧
        (∀ k : Fin 4, W'.cell? ⟨w.heap.size + 1, k.val, none⟩ = some (.int .u8 0) ∧ W'.frozen? ⟨w.heap.size + 1, k.val, none⟩ = false) ∧
        (W'.cell? ⟨w.heap.size, 0, none⟩ = some (.int .u32 (sR v (pre ++ [x]))) ∧ W'.frozen? ⟨w.heap.size, 0, none⟩ = false)) ∧ Below w.heap.size w W')) := by
      rintro m d rfl rfl W' rfl
      refine ⟨((KeepsOthers.setCell _ _ _).trans (KeepsOthers.setCell _ _ _)).trans (KeepsOthers.drew _), fun u hu => ?_, ⟨fun k => ⟨?_, ?_⟩, fun k => ⟨?_, ?_⟩, ?_, ?_⟩, ((hG.setCell (p := ⟨w.heap.size + 1 + 1, x.val, none⟩) (by simp; omega) _).setCell (p := ⟨w.heap.size, 0, none⟩) (by simp) _).drew⟩
      · rw [cell_drew_own, cell_other (by omega), cell_other (by omega)]; exact hu
      · rw [cell_drew_own, cell_other (by omega), sQ_snoc]
        by_cases hk : k = x
        · subst hk; rw [if_pos rfl]; exact World.cell?_setCell_same' _ _ _ (by rw [hcx]; rfl)
        · rw [if_neg hk, World.cell?_setCell_other _ _ _ _ (fun e => hk (Fin.ext (by injection e with _ e2; exact e2.symm)))]; exact (hc k).1
      · rw [frozen_drew_own, World.frozen?_setCell, World.frozen?_setCell]; exact (hc k).2
      · rw [cell_drew_own, cell_other (by omega), cell_other (by omega)]; exact (hr k).1
      · rw [frozen_drew_own, World.frozen?_setCell, World.frozen?_setCell]; exact (hr k).2
      · rw [cell_drew_own, sR_snoc]; exact World.cell?_setCell_same' _ _ _ (by rw [cell_other (by omega), hs]; rfl)
      · rw [frozen_drew_own, World.frozen?_setCell, World.frozen?_setCell]; exact hsf
    rcases hd with hd | hd
    · have hm : Hid ((31 : Int) = 2 ^ (wid x).toNat - 1 ∧ (32 : Int) = 2 ^ (wid x).toNat) := by rw [hd]; exact ⟨rfl, rfl⟩
      rw [hd]
      gi_wp2
      gi_region_with_o fail
      all_goals gi_wp2
      all_goals (try go_bits)
      all_goals exact fin.out _ _ hm.out.1 hm.out.2 _ rfl
    · have hm : Hid ((15 : Int) = 2 ^ (wid x).toNat - 1 ∧ (16 : Int) = 2 ^ (wid x).toNat) := by rw [hd]; exact ⟨rfl, rfl⟩
      rw [hd]
      gi_wp2
      gi_region_with_o fail
      all_goals gi_wp2
      all_goals (try go_bits)
      all_goals exact fin.out _ _ hm.out.1 hm.out.2 _ rfl
  case done =>
    rintro D ys W hD rfl ⟨⟨hc, hr, hs⟩, hG⟩ hK
    have c0 : W.cell? ⟨w.heap.size + 1 + 1, 0, none⟩ = some (.int .u8 (sQ v [0, 1, 2, 3] 0)) := (hc 0).1
    have c1 : W.cell? ⟨w.heap.size + 1 + 1, 1, none⟩ = some (.int .u8 (sQ v [0, 1, 2, 3] 1)) := (hc 1).1
    have c2 : W.cell? ⟨w.heap.size + 1 + 1, 2, none⟩ = some (.int .u8 (sQ v [0, 1, 2, 3] 2)) := (hc 2).1
    have c3 : W.cell? ⟨w.heap.size + 1 + 1, 3, none⟩ = some (.int .u8 (sQ v [0, 1, 2, 3] 3)) := (hc 3).1
    obtain ⟨r0, f0⟩ : W.cell? ⟨w.heap.size + 1, 0, none⟩ = some (.int .u8 0) ∧ W.frozen? ⟨w.heap.size + 1, 0, none⟩ = false := hr 0
    obtain ⟨r1, f1⟩ : W.cell? ⟨w.heap.size + 1, 1, none⟩ = some (.int .u8 0) ∧ W.frozen? ⟨w.heap.size + 1, 1, none⟩ = false := hr 1
    obtain ⟨r2, f2⟩ : W.cell? ⟨w.heap.size + 1, 2, none⟩ = some (.int .u8 0) ∧ W.frozen? ⟨w.heap.size + 1, 2, none⟩ = false := hr 2
    obtain ⟨r3, f3⟩ : W.cell? ⟨w.heap.size + 1, 3, none⟩ = some (.int .u8 0) ∧ W.frozen? ⟨w.heap.size + 1, 3, none⟩ = false := hr 3
    clear hc hr hs
    gi_wp2
    have hk : KeepsOthers W ((((W.setCell ⟨w.heap.size + 1, 0, none⟩ (.int .u8 (sQ v [0, 1, 2, 3] 0))).setCell ⟨w.heap.size + 1, 1, none⟩ (.int .u8 (sQ v [0, 1, 2, 3] 1))).setCell ⟨w.heap.size + 1, 2, none⟩ (.int .u8 (sQ v [0, 1, 2, 3] 2))).setCell ⟨w.heap.size + 1, 3, none⟩ (.int .u8 (sQ v [0, 1, 2, 3] 3))) :=
      (((KeepsOthers.setCell _ _ _).trans (KeepsOthers.setCell _ _ _)).trans (KeepsOthers.setCell _ _ _)).trans (KeepsOthers.setCell _ _ _)
    have hG4 := (((hG.setCell (p := ⟨w.heap.size + 1, 0, none⟩) (by simp) (.int .u8 (sQ v [0, 1, 2, 3] 0))).setCell (p := ⟨w.heap.size + 1, 1, none⟩) (by simp) (.int .u8 (sQ v [0, 1, 2, 3] 1))).setCell (p := ⟨w.heap.size + 1, 2, none⟩) (by simp) (.int .u8 (sQ v [0, 1, 2, 3] 2))).setCell (p := ⟨w.heap.size + 1, 3, none⟩) (by simp) (.int .u8 (sQ v [0, 1, 2, 3] 3))
    have q0 : ((((W.setCell ⟨w.heap.size + 1, 0, none⟩ (.int .u8 (sQ v [0, 1, 2, 3] 0))).setCell ⟨w.heap.size + 1, 1, none⟩ (.int .u8 (sQ v [0, 1, 2, 3] 1))).setCell ⟨w.heap.size + 1, 2, none⟩ (.int .u8 (sQ v [0, 1, 2, 3] 2))).setCell ⟨w.heap.size + 1, 3, none⟩ (.int .u8 (sQ v [0, 1, 2, 3] 3))).cell? ⟨w.heap.size + 1, 0, none⟩ = some (.int .u8 (sQ v [0, 1, 2, 3] 0)) := by
      rw [cell_off (by decide), cell_off (by decide), cell_off (by decide)]; exact World.cell?_setCell_same' _ _ _ (by rw [r0]; rfl)
    have q1 : ((((W.setCell ⟨w.heap.size + 1, 0, none⟩ (.int .u8 (sQ v [0, 1, 2, 3] 0))).setCell ⟨w.heap.size + 1, 1, none⟩ (.int .u8 (sQ v [0, 1, 2, 3] 1))).setCell ⟨w.heap.size + 1, 2, none⟩ (.int .u8 (sQ v [0, 1, 2, 3] 2))).setCell ⟨w.heap.size + 1, 3, none⟩ (.int .u8 (sQ v [0, 1, 2, 3] 3))).cell? ⟨w.heap.size + 1, 1, none⟩ = some (.int .u8 (sQ v [0, 1, 2, 3] 1)) := by
      rw [cell_off (by decide), cell_off (by decide)]; exact World.cell?_setCell_same' _ _ _ (by rw [cell_off (by decide), r1]; rfl)
    have q2 : ((((W.setCell ⟨w.heap.size + 1, 0, none⟩ (.int .u8 (sQ v [0, 1, 2, 3] 0))).setCell ⟨w.heap.size + 1, 1, none⟩ (.int .u8 (sQ v [0, 1, 2, 3] 1))).setCell ⟨w.heap.size + 1, 2, none⟩ (.int .u8 (sQ v [0, 1, 2, 3] 2))).setCell ⟨w.heap.size + 1, 3, none⟩ (.int .u8 (sQ v [0, 1, 2, 3] 3))).cell? ⟨w.heap.size + 1, 2, none⟩ = some (.int .u8 (sQ v [0, 1, 2, 3] 2)) := by
      rw [cell_off (by decide)]; exact World.cell?_setCell_same' _ _ _ (by rw [cell_off (by decide), cell_off (by decide), r2]; rfl)
    have q3 : ((((W.setCell ⟨w.heap.size + 1, 0, none⟩ (.int .u8 (sQ v [0, 1, 2, 3] 0))).setCell ⟨w.heap.size + 1, 1, none⟩ (.int .u8 (sQ v [0, 1, 2, 3] 1))).setCell ⟨w.heap.size + 1, 2, none⟩ (.int .u8 (sQ v [0, 1, 2, 3] 2))).setCell ⟨w.heap.size + 1, 3, none⟩ (.int .u8 (sQ v [0, 1, 2, 3] 3))).cell? ⟨w.heap.size + 1, 3, none⟩ = some (.int .u8 (sQ v [0, 1, 2, 3] 3)) := by
      exact World.cell?_setCell_same' _ _ _ (by rw [cell_off (by decide), cell_off (by decide), cell_off (by decide), r3]; rfl)
    have hK' := hk.same D _ hK rfl
    refine ⟨by simp, .inl ⟨_, _, rfl, run_takeDeferred hK', ?_⟩⟩
    have hput : ∀ {j : Nat} {u : Value}, _ → _ := fun {j} {u} h => cell_kept (a := ⟨w.heap.size + 1, j, none⟩) (v := u) h (grownBy_putObj' _ D (.deferred none)) (fun r e => by cases e; exact ⟨_, hK', rfl⟩)
    have p0 := hput q0
    have p1 := hput q1
    have p2 := hput q2
    have p3 := hput q3
    refine ⟨.agg #[.int .u8 (sQ v [0, 1, 2, 3] 0), .int .u8 (sQ v [0, 1, 2, 3] 1), .int .u8 (sQ v [0, 1, 2, 3] 2), .int .u8 (sQ v [0, 1, 2, 3] 3)], ?_, rfl, hG4.trans (belowK_b (w := w) (Nat.le_refl _) _ D _ _ (by omega) hK' rfl rfl)⟩
    clear q0 q1 q2 q3 hput hG4 hk hK' hK c0 c1 c2 c3 r0 r1 r2 r3 f0 f1 f2 f3
    simp [results, Tryz.f258, go_sem, p0, p1, p2, p3]
  case stop =>
    rintro D c pre W _ _ h _
    exact h.elim

/-- A function on the four parts. -/
def fin4 (a b c d : Int) : Fin 4 → Int := fun k => match k with | 0 => a | 1 => b | 2 => c | 3 => d
/-- The word of a state whose parts are in their bounds. -/
theorem join_any (p0 p1 p2 p3 : Int) (h0 : 0 ≤ p0 ∧ p0 < 32) (h1 : 0 ≤ p1 ∧ p1 < 16) (h2 : 0 ≤ p2 ∧ p2 < 32) (h3 : 0 ≤ p3 ∧ p3 < 16) (w : World) :
    Calls Tryz.prog 244 #[.agg #[.int .u8 p0, .int .u8 p1, .int .u8 p2, .int .u8 p3]] w fun e w' => e = .returned (.int .u32 (p0 + 32 * p1 + 512 * p2 + 16384 * p3)) ∧ Below w.heap.size w w' := by
  have h := join_in Fence.wide 3 trivial trivial trivial rfl (Nat.le_refl _) (fin4 p0 p1 p2 p3) (fun k => by match k with | 0 => exact ⟨h0.1, by simp only [fin4]; omega⟩ | 1 => exact ⟨h1.1, by simp only [fin4]; omega⟩ | 2 => exact ⟨h2.1, by simp only [fin4]; omega⟩ | 3 => exact ⟨h3.1, by simp only [fin4]; omega⟩) w
  rw [jw_all _ h0 h1 h2 h3] at h
  exact callsIn_wide.1 h
/-- The parts of any word. -/
theorem split_any (v : Int) (hv : 0 ≤ v ∧ v < 4294967296) (w : World) :
    Calls Tryz.prog 258 #[.int .u32 v] w fun e w' => e = .returned (.agg #[.int .u8 (v % 32), .int .u8 (v / 32 % 16), .int .u8 (v / 512 % 32), .int .u8 (v / 16384 % 16)]) ∧ Below w.heap.size w w' := by
  have h := split_in Fence.wide 3 trivial trivial trivial rfl (Nat.le_refl _) v hv.1 hv.2 w
  rw [sQ_0 hv, sQ_1 hv, sQ_2 hv, sQ_3 hv] at h
  exact callsIn_wide.1 h
end Go.Proofs.YtmpagjijjahohaaGreatDoor.P4
namespace Go.Proofs.YtmpagjijjahohaaGreatDoor.P4
open Go.RowKit
set_option linter.unusedVariables false
theorem windows_any (n : Int) (w : World) : Calls Tryz.prog 165 #[.int .i64 n] w fun e w' => e = .returned (.agg #[.int .i64 n, .int .i64 2, .int .i64 33]) ∧ Below w.heap.size w w' := by
  go_enter Tryz.func165, Tryz.ntmps165
  go_wp2
  exact bodyPost_ret (v := .agg #[.int .i64 n, .int .i64 2, .int .i64 33]) (by simp [results, Tryz.results165, go_sem]) rfl ⟨rfl, by go_grown⟩
theorem below_any (n m : Int) (w : World) : Calls Tryz.prog 166 #[.int .i64 n, .int .i64 m] w fun e w' => e = .returned (.agg #[.int .i64 n, .int .i64 0, .int .i64 m]) ∧ Below w.heap.size w w' := by
  go_enter Tryz.func166, Tryz.ntmps166
  go_wp2
  exact bodyPost_ret (v := .agg #[.int .i64 n, .int .i64 0, .int .i64 m]) (by simp [results, Tryz.results166, go_sem]) rfl ⟨rfl, by go_grown⟩
theorem after_any (x n : Int) (w : World) (h0 : 0 ≤ x) (h1 : x < n) (hn : n ≤ 32) : Calls Tryz.prog 257 #[.int .i64 x, .int .i64 n] w fun e w' => e = .returned (.int .i64 ((x + 1) % n)) ∧ w = w' := by
  go_enter Tryz.func257, Tryz.ntmps257
  go_wp2
  go_ret
  exact ⟨rfl, rfl⟩
/-- The numbers that are asked after, row by row: the number, its least, its end. -/
def Nums (w : World) (B m : Nat) (N L E : Nat → Int) : Prop := ∀ i, i < m → w.cell? ⟨B, i * 3, none⟩ = some (.int .i64 (N i)) ∧ w.cell? ⟨B, i * 3 + 1, none⟩ = some (.int .i64 (L i)) ∧ w.cell? ⟨B, i * 3 + 2, none⟩ = some (.int .i64 (E i))
theorem Nums.bel {w w' : World} {B m : Nat} {N L E : Nat → Int} (h : Nums w B m N L E) (g : Below w.heap.size w w') : Nums w' B m N L E := fun i hi =>
  ⟨bel_cell g (h i hi).1, bel_cell g (h i hi).2.1, bel_cell g (h i hi).2.2⟩
set_option maxHeartbeats 1000000 in
theorem valid_yes (B m c : Nat) (N L E : Nat → Int) (w : World) (hm : m ≤ 5) (h : Nums w B m N L E) (hk : ∀ i, i < m → L i ≤ N i ∧ N i < E i) :
    Calls Tryz.prog 164 #[.slice (some ⟨B, 0, none⟩) m c] w fun e w' => e = .returned (.bool true) ∧ Below w.heap.size w w' := by
  have HN := Lib.hid h
  have HK := Lib.hid hk
  clear h hk
  go_enter Tryz.func164, Tryz.ntmps164
  go_wp2
  go_loopw [7] (fun i wr => ∃ k : Nat, k ≤ m ∧ i = .int .i64 k ∧ Below w.heap.size w wr) (fun i _ => m - (intOf i).toNat)
  case atStart => exact ⟨0, by omega, rfl, Below.refl _ _⟩
  case round =>
    obtain ⟨k, hkm, rfl, hg⟩ := hrel
    by_cases hlt : k < m
    · have h5 : k < 5 := by omega
      obtain ⟨c0, c1, c2⟩ := (HN.out.bel hg) k hlt
      obtain ⟨l0, l1⟩ := HK.out k hlt
      have n0 : ¬ N k < L k := by omega
      have n1 : ¬ E k ≤ N k := by omega
      go_wp2
      go_roundw
      case rel => exact ⟨k + 1, by omega, by go_num, bel_trans hg (by go_grown)⟩
      case measure => simp [intOf]; omega
    · obtain rfl : k = m := by omega
      go_wp2
      go_ret
      exact ⟨rfl, hg⟩
set_option maxHeartbeats 1000000 in
theorem valid_no (B m c : Nat) (N L E : Nat → Int) (w : World) (hm : m ≤ 5) (h : Nums w B m N L E) (q : Nat) (hq : q < m) (hk : ∀ i, i < q → L i ≤ N i ∧ N i < E i) (hn : N q < L q ∨ E q ≤ N q) :
    Calls Tryz.prog 164 #[.slice (some ⟨B, 0, none⟩) m c] w fun e w' => e = .returned (.bool false) ∧ Below w.heap.size w w' := by
  have HN := Lib.hid h
  have HK := Lib.hid hk
  clear h hk
  go_enter Tryz.func164, Tryz.ntmps164
  go_wp2
  go_loopw [7] (fun i wr => ∃ k : Nat, k ≤ q ∧ i = .int .i64 k ∧ Below w.heap.size w wr) (fun i _ => m - (intOf i).toNat)
  case atStart => exact ⟨0, by omega, rfl, Below.refl _ _⟩
  case round =>
    obtain ⟨k, hkm, rfl, hg⟩ := hrel
    have h5 : k < 5 := by omega
    have hlm : k < m := by omega
    obtain ⟨c0, c1, c2⟩ := (HN.out.bel hg) k hlm
    by_cases hlt : k < q
    · obtain ⟨l0, l1⟩ := HK.out k hlt
      have n0 : ¬ N k < L k := by omega
      have n1 : ¬ E k ≤ N k := by omega
      go_wp2
      go_roundw
      case rel => exact ⟨k + 1, by omega, by go_num, bel_trans hg (by go_grown)⟩
      case measure => simp [intOf]; omega
    · obtain rfl : k = q := by omega
      by_cases n0 : N k < L k
      · go_wp2
        go_ret
        exact ⟨rfl, bel_trans hg (by go_grown)⟩
      · have n1 : E k ≤ N k := by omega
        go_wp2
        go_ret
        exact ⟨rfl, bel_trans hg (by go_grown)⟩
theorem first_bad {p : Nat → Prop} : ∀ {m : Nat}, (¬ ∀ i, i < m → p i) → ∃ q, q < m ∧ (∀ i, i < q → p i) ∧ ¬ p q
  | 0, h => absurd (fun i hi => by omega) h
  | m + 1, h => by
    by_cases hm : ∀ i, i < m → p i
    · exact ⟨m, by omega, hm, fun hp => h fun i hi => (Nat.lt_or_eq_of_le (Nat.le_of_lt_succ hi)).elim (hm i) (fun e => e ▸ hp)⟩
    · obtain ⟨q, h1, h2, h3⟩ := first_bad hm
      exact ⟨q, by omega, h2, h3⟩
theorem valid_not (B m c : Nat) (N L E : Nat → Int) (w : World) (hm : m ≤ 5) (h : Nums w B m N L E) (hn : ¬ ∀ i, i < m → L i ≤ N i ∧ N i < E i) :
    Calls Tryz.prog 164 #[.slice (some ⟨B, 0, none⟩) m c] w fun e w' => e = .returned (.bool false) ∧ Below w.heap.size w w' := by
  obtain ⟨q, h1, h2, h3⟩ := first_bad hn
  exact valid_no B m c N L E w hm h q h1 h2 (by omega)
/-! Whether a window exists; whether a state is one. -/
theorem nums_new {w : World} {A : Array Value} {t : TypeId} {m : Nat} {N L E : Nat → Int} (h : ∀ i, i < m → A[i * 3]? = some (.int .i64 (N i)) ∧ A[i * 3 + 1]? = some (.int .i64 (L i)) ∧ A[i * 3 + 2]? = some (.int .i64 (E i))) : Nums (w.alloc (.cells A t)) w.heap.size m N L E :=
  fun i hi => ⟨row_cell (row_born rfl) (h i hi).1, row_cell (row_born rfl) (h i hi).2.1, row_cell (row_born rfl) (h i hi).2.2⟩
def at2 (a b : Int) : Nat → Int := fun i => match i with | 0 => a | _ => b
def at5 (a b c d e : Int) : Nat → Int := fun i => match i with | 0 => a | 1 => b | 2 => c | 3 => d | _ => e
theorem nums1 (w : World) (n : Int) (t : TypeId) : Nums (w.alloc (.cells #[.int .i64 n, .int .i64 2, .int .i64 33] t)) w.heap.size 1 (fun _ => n) (fun _ => 2) (fun _ => 33) :=
  nums_new fun i hi => by
    obtain rfl : i = 0 := by omega
    exact ⟨rfl, rfl, rfl⟩
theorem nums2 (w : World) (x n : Int) (t : TypeId) : Nums (w.alloc (.cells #[.int .i64 n, .int .i64 2, .int .i64 33, .int .i64 x, .int .i64 0, .int .i64 n] t)) w.heap.size 2 (at2 n x) (at2 2 0) (at2 33 n) :=
  nums_new fun i hi => by
    match i, hi with
    | 0, _ => exact ⟨rfl, rfl, rfl⟩
    | 1, _ => exact ⟨rfl, rfl, rfl⟩
theorem nums5 (w : World) (n a b c d : Int) (t : TypeId) : Nums (w.alloc (.cells #[.int .i64 n, .int .i64 2, .int .i64 33, .int .i64 a, .int .i64 0, .int .i64 n, .int .i64 b, .int .i64 0, .int .i64 16, .int .i64 c, .int .i64 0, .int .i64 17, .int .i64 d, .int .i64 0, .int .i64 16] t)) w.heap.size 5 (at5 n a b c d) (at5 2 0 0 0 0) (at5 33 n 16 17 16) :=
  nums_new fun i hi => by
    match i, hi with
    | 0, _ => exact ⟨rfl, rfl, rfl⟩
    | 1, _ => exact ⟨rfl, rfl, rfl⟩
    | 2, _ => exact ⟨rfl, rfl, rfl⟩
    | 3, _ => exact ⟨rfl, rfl, rfl⟩
    | 4, _ => exact ⟨rfl, rfl, rfl⟩
theorem isWindow_yes (x n : Int) (w : World) (hn : 2 ≤ n) (hn' : n ≤ 32) (h0 : 0 ≤ x) (h1 : x < n) : Calls Tryz.prog 106 #[.int .i64 x, .int .i64 n] w fun e w' => e = .returned (.bool true) ∧ Below w.heap.size w w' := by
  go_enter Tryz.func106, Tryz.ntmps106
  go_wp2_with fail
  refine (windows_any _ _).mono ?_; rintro e w1 ⟨rfl, g1⟩
  go_wp2_with fail
  refine (below_any _ _ _).mono ?_; rintro e w2 ⟨rfl, g2⟩
  go_wp2_with fail
  refine (valid_yes _ 2 _ _ _ _ _ (by decide) (nums2 w2 x n _) (fun i hi => by match i, hi with | 0, _ => exact ⟨hn, by simp only [at2]; omega⟩ | 1, _ => exact ⟨h0, h1⟩)).mono ?_; rintro e w3 ⟨rfl, g3⟩
  go_wp2_with fail
  go_ret
  exact ⟨rfl, bel_trans (bel_trans (bel_trans g1 g2) ((Below.refl _ _).alloc (Nat.le_refl _) _)) g3⟩
theorem isWindow_no (x n : Int) (w : World) (h : ¬ (2 ≤ n ∧ n ≤ 32 ∧ 0 ≤ x ∧ x < n)) : Calls Tryz.prog 106 #[.int .i64 x, .int .i64 n] w fun e w' => e = .returned (.bool false) ∧ Below w.heap.size w w' := by
  have H := Lib.hid h
  clear h
  go_enter Tryz.func106, Tryz.ntmps106
  go_wp2_with fail
  refine (windows_any _ _).mono ?_; rintro e w1 ⟨rfl, g1⟩
  go_wp2_with fail
  refine (below_any _ _ _).mono ?_; rintro e w2 ⟨rfl, g2⟩
  go_wp2_with fail
  refine (valid_not _ 2 _ _ _ _ _ (by decide) (nums2 w2 x n _) (fun hh => H.out (by
    obtain ⟨a0, a1⟩ := hh 0 (by decide)
    obtain ⟨b0, b1⟩ := hh 1 (by decide)
    simp only [at2] at a0 a1 b0 b1
    exact ⟨a0, by omega, b0, b1⟩))).mono ?_; rintro e w3 ⟨rfl, g3⟩
  go_wp2_with fail
  go_ret
  exact ⟨rfl, bel_trans (bel_trans (bel_trans g1 g2) ((Below.refl _ _).alloc (Nat.le_refl _) _)) g3⟩
/-- The states of a machine of n windows. -/
def State (a b c d n : Int) : Prop := 2 ≤ n ∧ n ≤ 32 ∧ a < n ∧ b ≤ 15 ∧ c ≤ 16 ∧ d ≤ 15
def Byte (x : Int) : Prop := 0 ≤ x ∧ x < 256
/-- What stands while a state is asked after: its own block; of what was there nothing has turned. -/
structure SB (w : World) (z : Nat) (A : Array Value) (t : TypeId) (W : World) : Prop where
  row : W.heap[z]? = some (.cells A t (0, 0))
  bel : Below w.heap.size w W
theorem SB.more {w : World} {z : Nat} {A : Array Value} {t : TypeId} {W W' : World} (h : SB w z A t W) (g : Below W.heap.size W W') : SB w z A t W' := ⟨bel_heap g h.row, bel_trans h.bel g⟩
theorem SB.all4 {w : World} {z : Nat} {a b c d : Value} {t : TypeId} {W : World} (h : SB w z #[a, b, c, d] t W) : W.cell? ⟨z, 0, none⟩ = some a ∧ W.cell? ⟨z, 1, none⟩ = some b ∧ W.cell? ⟨z, 2, none⟩ = some c ∧ W.cell? ⟨z, 3, none⟩ = some d ∧ SB w z #[a, b, c, d] t W :=
  ⟨row_cell h.row rfl, row_cell h.row rfl, row_cell h.row rfl, row_cell h.row rfl, h⟩
theorem bel_size {W w' : World} {A : Array Value} {t : TypeId} (h : Below (W.heap.size + 1) (W.alloc (.cells A t)) w') : Below (W.alloc (.cells A t)).heap.size (W.alloc (.cells A t)) w' := by simpa using h
set_option maxHeartbeats 1000000 in
theorem isState_walk (a b c d n : Int) (w : World) (ha : Byte a) (hb : Byte b) (hc : Byte c) (hd : Byte d) (r : Bool)
    (hv : ∀ W : World, Calls Tryz.prog 164 #[.slice (some ⟨W.heap.size, 0, none⟩) 5 5] (W.alloc (.cells #[.int .i64 n, .int .i64 2, .int .i64 33, .int .i64 a, .int .i64 0, .int .i64 n, .int .i64 b, .int .i64 0, .int .i64 16, .int .i64 c, .int .i64 0, .int .i64 17, .int .i64 d, .int .i64 0, .int .i64 16] 223)) fun e w' => e = .returned (.bool r) ∧ Below (W.heap.size + 1) (W.alloc (.cells #[.int .i64 n, .int .i64 2, .int .i64 33, .int .i64 a, .int .i64 0, .int .i64 n, .int .i64 b, .int .i64 0, .int .i64 16, .int .i64 c, .int .i64 0, .int .i64 17, .int .i64 d, .int .i64 0, .int .i64 16] 223)) w') :
    Calls Tryz.prog 243 #[.agg #[.int .u8 a, .int .u8 b, .int .u8 c, .int .u8 d], .int .i64 n] w fun e w' => e = .returned (.bool r) ∧ Below w.heap.size w w' := by
  have HV := Lib.hid hv
  clear hv
  obtain ⟨ha0, ha1⟩ := ha
  obtain ⟨hb0, hb1⟩ := hb
  obtain ⟨hc0, hc1⟩ := hc
  obtain ⟨hd0, hd1⟩ := hd
  go_enter Tryz.func243, Tryz.ntmps243
  go_wp2_with fail
  have S0 : SB w w.heap.size #[.int .u8 a, .int .u8 b, .int .u8 c, .int .u8 d] 58 (w.alloc (.cells #[.int .u8 a, .int .u8 b, .int .u8 c, .int .u8 d] 58)) := ⟨row_born rfl, (Below.refl _ _).alloc (Nat.le_refl _) _⟩
  generalize w.alloc (.cells #[.int .u8 a, .int .u8 b, .int .u8 c, .int .u8 d] 58) = V at S0 ⊢
  have wa : IntKind.i64.wrap a = a := IntWalk.i64_in _ (by omega)
  have wb : IntKind.i64.wrap b = b := IntWalk.i64_in _ (by omega)
  have wc : IntKind.i64.wrap c = c := IntWalk.i64_in _ (by omega)
  have wd : IntKind.i64.wrap d = d := IntWalk.i64_in _ (by omega)
  go_region_held3 (fun W => W.cell? ⟨w.heap.size, 0, none⟩ = some (.int .u8 a) ∧ W.cell? ⟨w.heap.size, 1, none⟩ = some (.int .u8 b) ∧ W.cell? ⟨w.heap.size, 2, none⟩ = some (.int .u8 c) ∧ W.cell? ⟨w.heap.size, 3, none⟩ = some (.int .u8 d) ∧ SB w w.heap.size #[.int .u8 a, .int .u8 b, .int .u8 c, .int .u8 d] 58 W)
    (first
      | exact (S0.more (Below.refl _ _).drew).all4
      | (go_split_ands; exact (SB.more (by assumption) gL).all4)
      | (go_split_ands; exact (SB.more (by assumption) (Below.alloc (Below.refl _ _) (Nat.le_refl _) _)).all4))
    (first
      | (go_at_call 165; refine (windows_any _ _).mono ?_; rintro e w1 ⟨rfl, gL⟩)
      | (go_at_call 166; refine (below_any _ _ _).mono ?_; rintro e w1 ⟨rfl, gL⟩)
      | (go_at_call 164; refine (HV.out _).mono ?_; rintro e w1 ⟨rfl, gL'⟩; have gL := bel_size gL'))
  rename_i hH
  have hS := hH.2.2.2.2.bel
  clear hH
  go_wp2
  go_ret
  exact ⟨rfl, hS⟩
theorem isState_yes (a b c d n : Int) (w : World) (ha : Byte a) (hb : Byte b) (hc : Byte c) (hd : Byte d) (h : State a b c d n) :
    Calls Tryz.prog 243 #[.agg #[.int .u8 a, .int .u8 b, .int .u8 c, .int .u8 d], .int .i64 n] w fun e w' => e = .returned (.bool true) ∧ Below w.heap.size w w' := by
  obtain ⟨ha0, ha1⟩ := ha
  obtain ⟨hb0, hb1⟩ := hb
  obtain ⟨hc0, hc1⟩ := hc
  obtain ⟨hd0, hd1⟩ := hd
  obtain ⟨h0, h1, h2, h3, h4, h5⟩ := h
  refine isState_walk a b c d n w ⟨ha0, ha1⟩ ⟨hb0, hb1⟩ ⟨hc0, hc1⟩ ⟨hd0, hd1⟩ true (fun W => (valid_yes _ 5 _ _ _ _ _ (by decide) (nums5 W n a b c d _) (fun i hi => ?_)).mono (fun e w' he => ⟨he.1, by simpa using he.2⟩))
  match i, hi with
  | 0, _ => exact ⟨h0, by simp only [at5]; omega⟩
  | 1, _ => exact ⟨ha0, h2⟩
  | 2, _ => exact ⟨hb0, by simp only [at5]; omega⟩
  | 3, _ => exact ⟨hc0, by simp only [at5]; omega⟩
  | 4, _ => exact ⟨hd0, by simp only [at5]; omega⟩
theorem isState_no (a b c d n : Int) (w : World) (ha : Byte a) (hb : Byte b) (hc : Byte c) (hd : Byte d) (h : ¬ State a b c d n) :
    Calls Tryz.prog 243 #[.agg #[.int .u8 a, .int .u8 b, .int .u8 c, .int .u8 d], .int .i64 n] w fun e w' => e = .returned (.bool false) ∧ Below w.heap.size w w' := by
  refine isState_walk a b c d n w ha hb hc hd false (fun W => (valid_not _ 5 _ _ _ _ _ (by decide) (nums5 W n a b c d _) (fun hh => h ?_)).mono (fun e w' he => ⟨he.1, by simpa using he.2⟩))
  have x0 := hh 0 (by decide)
  have x1 := hh 1 (by decide)
  have x2 := hh 2 (by decide)
  have x3 := hh 3 (by decide)
  have x4 := hh 4 (by decide)
  simp only [at5] at x0 x1 x2 x3 x4
  exact ⟨x0.1, by omega, x1.2, by omega, by omega, by omega⟩
end Go.Proofs.YtmpagjijjahohaaGreatDoor.P4
namespace Go.Proofs.YtmpagjijjahohaaGreatDoor.P4
open Go.RowKit
set_option linter.unusedVariables false
/-- The library's table, as the row lays it. -/
def TabAt (w : World) : Prop := ∀ j, j < 32 → w.cell? ⟨5, j, none⟩ = some (.int .u8 (Lib.deBruijn32tab.getD j 0))
theorem TabAt.bel {w w' : World} (h : TabAt w) (g : Below w.heap.size w w') : TabAt w' := fun j hj => bel_cell g (h j hj)
theorem tz_zero (w : World) : Calls Tryz.prog 333 #[.int .u32 0] w fun e w' => e = .returned (.int .i64 32) ∧ w = w' := by
  go_enter Tryz.func333, Tryz.ntmps333
  go_wp2
  go_ret
  exact ⟨rfl, rfl⟩
theorem tz_any (v : Int) (k idx : Nat) (w : World) (hv0 : (v == 0) = false) (hv : 0 ≤ v ∧ v < 4294967296) (key : bits BinOp.and IntKind.u32 v (-v % 4294967296) * 125613361 % 4294967296 / 134217728 = (idx : Int)) (hi : idx < 32) (hk : k < 32)
    (hcell : w.cell? ⟨5, idx, none⟩ = some (.int .u8 k)) : Calls Tryz.prog 333 #[.int .u32 v] w fun e w' => e = .returned (.int .i64 k) ∧ w = w' := by
  go_enter Tryz.func333, Tryz.ntmps333
  go_wp2_with (simp only [key])
  go_ret
  exact ⟨rfl, rfl⟩
/-- How many trailing zeros a word has. -/
theorem tz_word (v : Int) (w : World) (hv : 0 ≤ v ∧ v < 4294967296) (hT : TabAt w) : Calls Tryz.prog 333 #[.int .u32 v] w fun e w' => e = .returned (.int .i64 (Lib.ctz 32 v.toNat)) ∧ w = w' := by
  obtain ⟨x, rfl⟩ : ∃ x : Nat, v = x := ⟨v.toNat, by omega⟩
  by_cases hx0 : x = 0
  · subst hx0
    exact tz_zero w
  · obtain ⟨hlow, hk⟩ := Lib.lowest_bit 32 x hx0 (by omega)
    obtain ⟨hi, htab⟩ := Lib.deBruijn32_at _ hk
    have hcell := hT _ hi
    rw [htab] at hcell
    have e1 : -(x : Int) % 4294967296 = ((4294967296 - x : Nat) : Int) := by omega
    have key : bits BinOp.and IntKind.u32 (x : Int) (-(x : Int) % 4294967296) * 125613361 % 4294967296 / 134217728 = ((2 ^ Lib.ctz 32 x * 125613361 % 4294967296 / 134217728 : Nat) : Int) := by
      rw [e1, u32_and_nat x _ (by omega) (by omega), show x &&& (4294967296 - x) = 2 ^ Lib.ctz 32 x from hlow]
      simp [Int.natCast_ediv, Int.natCast_emod]
    rw [Int.toNat_natCast]
    exact tz_any x _ _ w (by simp; omega) hv key hi hk hcell
/-- How many ones a word has, by the library's table of bytes. -/
def popc (v : Int) : Int := (Lib.pop8 (v / 16777216) + Lib.pop8 (v / 65536 % 256) + Lib.pop8 (v / 256 % 256) + Lib.pop8 (v % 256)) % 256
theorem ones_any (v : Int) (w : World) (hv : 0 ≤ v ∧ v < 4294967296) : Calls Tryz.prog 334 #[.int .u32 v] w fun e w' => e = .returned (.int .i64 (popc v)) ∧ Below w.heap.size w w' := by
  go_enter Tryz.func334, Tryz.ntmps334
  obtain ⟨hv0, hv1⟩ := hv
  have a3 : bits .and .u32 v 255 = v % 256 := and_mask 8 255 256 _ rfl rfl (by omega) ⟨hv0, hv1⟩
  have a2 : bits .and .u32 (v / 256) 255 = v / 256 % 256 := and_mask 8 255 256 _ rfl rfl (by omega) (by omega)
  have a1 : bits .and .u32 (v / 65536) 255 = v / 65536 % 256 := and_mask 8 255 256 _ rfl rfl (by omega) (by omega)
  go_wp2
  generalize hs : ByteArray.mk (List.toArray _) = s
  obtain rfl : Lib.pop8tab = s := by rw [← hs]; kernel_rfl
  clear hs
  have i0 : 0 ≤ v / 16777216 := by omega
  have i1 : v / 16777216 ≤ 255 := by omega
  go_quiet (fail)
  go_wp2
  go_ret
  exact ⟨rfl, bel_drewN (Below.refl _ _) _⟩
theorem pop_bound : ∀ n : Fin 256, 0 ≤ Lib.pop8 (n.val : Int) ∧ Lib.pop8 (n.val : Int) ≤ 8 := by decide +kernel
theorem pop_zero : ∀ n : Fin 256, Lib.pop8 (n.val : Int) = 0 → n.val = 0 := by decide +kernel
theorem pop_one : ∀ n : Fin 256, Lib.pop8 (n.val : Int) = 1 → ∃ k : Fin 8, n.val = 2 ^ k.val := by decide +kernel
theorem popc_one {v : Int} (hv : 0 ≤ v ∧ v < 4294967296) (h : popc v = 1) : ∃ k : Nat, k < 32 ∧ v = ((2 ^ k : Nat) : Int) := by
  obtain ⟨x, rfl⟩ : ∃ x : Nat, v = x := ⟨v.toNat, by omega⟩
  unfold popc at h
  have b0 := pop_bound ⟨x / 16777216, by omega⟩
  have b1 := pop_bound ⟨x / 65536 % 256, by omega⟩
  have b2 := pop_bound ⟨x / 256 % 256, by omega⟩
  have b3 := pop_bound ⟨x % 256, by omega⟩
  have z0 := pop_zero ⟨x / 16777216, by omega⟩
  have z1 := pop_zero ⟨x / 65536 % 256, by omega⟩
  have z2 := pop_zero ⟨x / 256 % 256, by omega⟩
  have z3 := pop_zero ⟨x % 256, by omega⟩
  have o0 := pop_one ⟨x / 16777216, by omega⟩
  have o1 := pop_one ⟨x / 65536 % 256, by omega⟩
  have o2 := pop_one ⟨x / 256 % 256, by omega⟩
  have o3 := pop_one ⟨x % 256, by omega⟩
  simp only at b0 b1 b2 b3 z0 z1 z2 z3 o0 o1 o2 o3
  have c0 : (x : Int) / 16777216 = ((x / 16777216 : Nat) : Int) := by omega
  have c1 : (x : Int) / 65536 % 256 = ((x / 65536 % 256 : Nat) : Int) := by omega
  have c2 : (x : Int) / 256 % 256 = ((x / 256 % 256 : Nat) : Int) := by omega
  have c3 : (x : Int) % 256 = ((x % 256 : Nat) : Int) := by omega
  rw [c0, c1, c2, c3] at h
  generalize Lib.pop8 ((x / 16777216 : Nat) : Int) = p0 at *
  generalize Lib.pop8 ((x / 65536 % 256 : Nat) : Int) = p1 at *
  generalize Lib.pop8 ((x / 256 % 256 : Nat) : Int) = p2 at *
  generalize Lib.pop8 ((x % 256 : Nat) : Int) = p3 at *
  clear c0 c1 c2 c3
  rcases (by omega : (p0 = 1 ∧ p1 = 0 ∧ p2 = 0 ∧ p3 = 0) ∨ (p0 = 0 ∧ p1 = 1 ∧ p2 = 0 ∧ p3 = 0) ∨ (p0 = 0 ∧ p1 = 0 ∧ p2 = 1 ∧ p3 = 0) ∨ (p0 = 0 ∧ p1 = 0 ∧ p2 = 0 ∧ p3 = 1)) with ⟨h0, h1, h2, h3⟩ | ⟨h0, h1, h2, h3⟩ | ⟨h0, h1, h2, h3⟩ | ⟨h0, h1, h2, h3⟩
  · obtain ⟨k, hk⟩ := o0 h0
    have := z1 h1; have := z2 h2; have := z3 h3
    refine ⟨k.val + 24, by omega, ?_⟩
    rw [Nat.pow_add, ← hk]; omega
  · obtain ⟨k, hk⟩ := o1 h1
    have := z0 h0; have := z2 h2; have := z3 h3
    refine ⟨k.val + 16, by omega, ?_⟩
    rw [Nat.pow_add, ← hk]; omega
  · obtain ⟨k, hk⟩ := o2 h2
    have := z0 h0; have := z1 h1; have := z3 h3
    refine ⟨k.val + 8, by omega, ?_⟩
    rw [Nat.pow_add, ← hk]; omega
  · obtain ⟨k, hk⟩ := o3 h3
    have := z0 h0; have := z1 h1; have := z2 h2
    refine ⟨k.val, by omega, ?_⟩
    rw [← hk]; omega
theorem popc_pow : ∀ k : Fin 32, popc ((2 ^ k.val : Nat) : Int) = 1 := by decide +kernel
theorem ctz_pow : ∀ k : Fin 32, Lib.ctz 32 (2 ^ k.val) = k.val := by decide +kernel
end Go.Proofs.YtmpagjijjahohaaGreatDoor.P4
namespace Go.Proofs.YtmpagjijjahohaaGreatDoor.P4
open Go.RowKit
set_option linter.unusedVariables false
/-- The word of a state. -/
def pword (a b c d : Int) : Int := a + 32 * b + 512 * c + 16384 * d
theorem Pack_no (a b c d n : Int) (w : World) (ha : Byte a) (hb : Byte b) (hc : Byte c) (hd : Byte d) (h : ¬ State a b c d n) :
    Calls Tryz.prog 180 #[.agg #[.int .u8 a, .int .u8 b, .int .u8 c, .int .u8 d], .int .i64 n] w fun e w' => e = .returned (.tuple #[.int .u32 0, .int .i64 2]) ∧ Below w.heap.size w w' := by
  go_enter Tryz.func180, Tryz.ntmps180
  go_wp2_with fail
  refine (isState_no a b c d n _ ha hb hc hd h).mono ?_; rintro e w1 ⟨rfl, g1⟩
  go_wp2_with fail
  go_ret2
  exact ⟨rfl, bel_trans ((Below.refl _ _).alloc (Nat.le_refl _) _) g1⟩
theorem Pack_yes (a b c d n : Int) (w : World) (ha : Byte a) (hb : Byte b) (hc : Byte c) (hd : Byte d) (h : State a b c d n) :
    Calls Tryz.prog 180 #[.agg #[.int .u8 a, .int .u8 b, .int .u8 c, .int .u8 d], .int .i64 n] w fun e w' => e = .returned (.tuple #[.int .u32 (pword a b c d), .int .i64 0]) ∧ Below w.heap.size w w' := by
  have H := Lib.hid h
  go_enter Tryz.func180, Tryz.ntmps180
  go_wp2_with fail
  refine (isState_yes a b c d n _ ha hb hc hd H.out).mono ?_; rintro e w1 ⟨rfl, g1⟩
  have S1 : SB w w.heap.size #[.int .u8 a, .int .u8 b, .int .u8 c, .int .u8 d] 58 w1 := SB.more ⟨row_born rfl, (Below.refl _ _).alloc (Nat.le_refl _) _⟩ g1
  clear g1
  obtain ⟨c0, c1, c2, c3, S1⟩ := S1.all4
  have g1 := S1.bel
  clear S1
  go_wp2_with fail
  refine (join_any a b c d ?_ ?_ ?_ ?_ _).mono ?_
  · have := H.out; unfold State at this; unfold Byte at ha; omega
  · have := H.out; unfold State at this; unfold Byte at hb; omega
  · have := H.out; unfold State at this; unfold Byte at hc; omega
  · have := H.out; unfold State at this; unfold Byte at hd; omega
  rintro e w2 ⟨rfl, g2⟩
  go_wp2_with fail
  go_ret2
  exact ⟨rfl, bel_trans g1 g2⟩
theorem Next_no (x n : Int) (w : World) (h : ¬ (2 ≤ n ∧ n ≤ 32 ∧ 0 ≤ x ∧ x < n)) : Calls Tryz.prog 198 #[.int .i64 x, .int .i64 n] w fun e w' => e = .returned (.tuple #[.int .i64 0, .int .i64 2]) ∧ Below w.heap.size w w' := by
  go_enter Tryz.func198, Tryz.ntmps198
  go_wp2_with fail
  refine (isWindow_no x n _ h).mono ?_; rintro e w1 ⟨rfl, g1⟩
  go_wp2_with fail
  go_ret2
  exact ⟨rfl, g1⟩
theorem Next_yes (x n : Int) (w : World) (hn : 2 ≤ n) (hn' : n ≤ 32) (h0 : 0 ≤ x) (h1 : x < n) : Calls Tryz.prog 198 #[.int .i64 x, .int .i64 n] w fun e w' => e = .returned (.tuple #[.int .i64 ((x + 1) % n), .int .i64 0]) ∧ Below w.heap.size w w' := by
  go_enter Tryz.func198, Tryz.ntmps198
  go_wp2_with fail
  refine (isWindow_yes x n _ hn hn' h0 h1).mono ?_; rintro e w1 ⟨rfl, g1⟩
  go_wp2_with fail
  refine (after_any x n _ h0 h1 hn').mono ?_; rintro e w2 ⟨rfl, rfl⟩
  go_wp2_with fail
  go_ret2
  exact ⟨rfl, g1⟩
theorem Ahead_no (x n : Int) (w : World) (h : ¬ (2 ≤ n ∧ n ≤ 32 ∧ 0 ≤ x ∧ x < n)) : Calls Tryz.prog 196 #[.int .i64 x, .int .i64 n] w fun e w' => e = .returned (.tuple #[.int .i64 0, .int .i64 2]) ∧ Below w.heap.size w w' := by
  go_enter Tryz.func196, Tryz.ntmps196
  go_wp2_with fail
  refine (isWindow_no x n _ h).mono ?_; rintro e w1 ⟨rfl, g1⟩
  go_wp2_with fail
  go_ret2
  exact ⟨rfl, g1⟩
theorem Ahead_yes (x n : Int) (w : World) (hn : 2 ≤ n) (hn' : n ≤ 32) (h0 : 0 ≤ x) (h1 : x < n) : Calls Tryz.prog 196 #[.int .i64 x, .int .i64 n] w fun e w' => e = .returned (.tuple #[.int .i64 ((x + n - 1) % n), .int .i64 0]) ∧ Below w.heap.size w w' := by
  go_enter Tryz.func196, Tryz.ntmps196
  go_wp2_with fail
  refine (isWindow_yes x n _ hn hn' h0 h1).mono ?_; rintro e w1 ⟨rfl, g1⟩
  go_wp2_with fail
  go_ret2
  exact ⟨rfl, g1⟩
theorem Wim_no (x n : Int) (w : World) (h : ¬ (2 ≤ n ∧ n ≤ 32 ∧ 0 ≤ x ∧ x < n)) : Calls Tryz.prog 68 #[.int .i64 x, .int .i64 n] w fun e w' => e = .returned (.tuple #[.int .u32 0, .int .i64 2]) ∧ Below w.heap.size w w' := by
  go_enter Tryz.func68, Tryz.ntmps68
  go_wp2_with fail
  refine (isWindow_no x n _ h).mono ?_; rintro e w1 ⟨rfl, g1⟩
  go_wp2_with fail
  go_ret2
  exact ⟨rfl, g1⟩
/-- The WIM in which a window is invalid. -/
def pw (x : Nat) : Int := ((2 ^ x : Nat) : Int)
theorem pw_in {x : Nat} (h : x < 32) : 1 ≤ pw x ∧ pw x < 4294967296 := by
  have h1 : 2 ^ x ≤ 2147483648 := Nat.pow_le_pow_right (i := x) (j := 31) (by decide) (by omega)
  have h2 : 1 ≤ 2 ^ x := Nat.one_le_two_pow
  unfold pw
  generalize 2 ^ x = y at *
  omega
theorem pw_mod {x : Nat} (h : x < 32) : (2 : Int) ^ x % 4294967296 = pw x := by
  have := pw_in h
  have e : (2 : Int) ^ x = pw x := by simp [pw]
  rw [e]; omega
theorem Wim_yes (x : Nat) (n : Int) (w : World) (hn : 2 ≤ n) (hn' : n ≤ 32) (h1 : (x : Int) < n) : Calls Tryz.prog 68 #[.int .i64 x, .int .i64 n] w fun e w' => e = .returned (.tuple #[.int .u32 (pw x), .int .i64 0]) ∧ Below w.heap.size w w' := by
  have h0 : (0 : Int) ≤ x := by omega
  have hx : (x : Int) < 32 := by omega
  have hp := Lib.hid (pw_mod (x := x) (by omega))
  go_enter Tryz.func68, Tryz.ntmps68
  go_wp2_with fail
  refine (isWindow_yes x n _ hn hn' h0 h1).mono ?_; rintro e w1 ⟨rfl, g1⟩
  go_wp2_with fail
  go_ret2
  refine ⟨?_, g1⟩
  show Ending.returned (.tuple #[.int .u32 ((2 : Int) ^ x % 4294967296), .int .i64 0]) = _
  rw [hp.out]
theorem Invalid_arg (v n : Int) (w : World) (h : ¬ (2 ≤ n ∧ n ≤ 32)) : Calls Tryz.prog 256 #[.int .u32 v, .int .i64 n] w fun e w' => e = .returned (.tuple #[.int .i64 0, .int .i64 2]) ∧ Below w.heap.size w w' := by
  have H := Lib.hid h
  clear h
  go_enter Tryz.func256, Tryz.ntmps256
  go_wp2_with fail
  refine (windows_any _ _).mono ?_; rintro e w1 ⟨rfl, g1⟩
  go_wp2_with fail
  refine (valid_not _ 1 _ _ _ _ _ (by decide) (nums1 w1 n _) (fun hh => H.out (by
    obtain ⟨a0, a1⟩ := hh 0 (by decide)
    exact ⟨a0, by omega⟩))).mono ?_; rintro e w2 ⟨rfl, g2⟩
  go_wp2_with fail
  go_ret2
  exact ⟨rfl, bel_trans (bel_trans g1 ((Below.refl _ _).alloc (Nat.le_refl _) _)) g2⟩
/-- The window whose WIM a word is. -/
theorem Invalid_yes (x : Nat) (n : Int) (w : World) (hT : TabAt w) (hn : 2 ≤ n) (hn' : n ≤ 32) (h1 : (x : Int) < n) : Calls Tryz.prog 256 #[.int .u32 (pw x), .int .i64 n] w fun e w' => e = .returned (.tuple #[.int .i64 x, .int .i64 0]) ∧ Below w.heap.size w w' := by
  have hx : x < 32 := by omega
  have hc : Lib.ctz 32 (pw x).toNat = x := ctz_pow ⟨x, hx⟩
  have hp : popc (pw x) = 1 := popc_pow ⟨x, hx⟩
  obtain ⟨p0, p1⟩ := pw_in hx
  have HT := Lib.hid hT
  clear hT
  have hn1 : ¬ n ≤ (x : Int) := by omega
  generalize pw x = v at *
  go_enter Tryz.func256, Tryz.ntmps256
  go_wp2_with fail
  refine (windows_any _ _).mono ?_; rintro e w1 ⟨rfl, g1⟩
  go_wp2_with fail
  refine (valid_yes _ 1 _ _ _ _ _ (by decide) (nums1 w1 n _) (fun i _ => ⟨hn, by omega⟩)).mono ?_; rintro e w2 ⟨rfl, g2⟩
  have G2 := bel_trans (bel_trans g1 ((Below.refl _ _).alloc (Nat.le_refl _) _)) g2
  clear g1 g2
  go_wp2_with fail
  refine (tz_word v _ (by omega) (HT.out.bel G2)).mono ?_; rintro e w3 ⟨rfl, rfl⟩
  rw [hc]
  go_wp2_with fail
  refine (ones_any v _ (by omega)).mono ?_; rintro e w4 ⟨rfl, g4⟩
  rw [hp]
  go_wp2_with fail
  go_ret2
  exact ⟨rfl, bel_trans G2 g4⟩
/-- A word that is no window's WIM. -/
theorem Invalid_form (v n : Int) (w : World) (hT : TabAt w) (hv : 0 ≤ v ∧ v < 4294967296) (hn : 2 ≤ n) (hn' : n ≤ 32) (h : ∀ x : Nat, (x : Int) < n → v ≠ pw x) :
    Calls Tryz.prog 256 #[.int .u32 v, .int .i64 n] w fun e w' => e = .returned (.tuple #[.int .i64 0, .int .i64 5]) ∧ Below w.heap.size w w' := by
  obtain ⟨hv0, hv1⟩ := hv
  have HT := Lib.hid hT
  clear hT
  by_cases hp : popc v = 1
  · obtain ⟨k, hk, hvk⟩ := popc_one ⟨hv0, hv1⟩ hp
    have hc : Lib.ctz 32 v.toNat = k := by
      have := ctz_pow ⟨k, hk⟩
      rw [hvk, Int.toNat_natCast]; exact this
    have hkn : n ≤ (k : Int) := by
      rcases Int.lt_or_le k n with hh | hh
      · exact absurd hvk (h k hh)
      · exact hh
    clear h hvk
    go_enter Tryz.func256, Tryz.ntmps256
    go_wp2_with fail
    refine (windows_any _ _).mono ?_; rintro e w1 ⟨rfl, g1⟩
    go_wp2_with fail
    refine (valid_yes _ 1 _ _ _ _ _ (by decide) (nums1 w1 n _) (fun i _ => ⟨hn, by omega⟩)).mono ?_; rintro e w2 ⟨rfl, g2⟩
    have G2 := bel_trans (bel_trans g1 ((Below.refl _ _).alloc (Nat.le_refl _) _)) g2
    clear g1 g2
    go_wp2_with fail
    refine (tz_word v _ ⟨hv0, hv1⟩ (HT.out.bel G2)).mono ?_; rintro e w3 ⟨rfl, rfl⟩
    rw [hc]
    go_wp2_with fail
    refine (ones_any v _ ⟨hv0, hv1⟩).mono ?_; rintro e w4 ⟨rfl, g4⟩
    rw [hp]
    go_wp2_with fail
    go_ret2
    exact ⟨rfl, bel_trans G2 g4⟩
  · have hp' : (popc v != 1) = true := by simpa using hp
    clear h hp
    go_enter Tryz.func256, Tryz.ntmps256
    go_wp2_with fail
    refine (windows_any _ _).mono ?_; rintro e w1 ⟨rfl, g1⟩
    go_wp2_with fail
    refine (valid_yes _ 1 _ _ _ _ _ (by decide) (nums1 w1 n _) (fun i _ => ⟨hn, by omega⟩)).mono ?_; rintro e w2 ⟨rfl, g2⟩
    have G2 := bel_trans (bel_trans g1 ((Below.refl _ _).alloc (Nat.le_refl _) _)) g2
    clear g1 g2
    go_wp2_with fail
    refine (tz_word v _ ⟨hv0, hv1⟩ (HT.out.bel G2)).mono ?_; rintro e w3 ⟨rfl, rfl⟩
    go_wp2_with fail
    refine (ones_any v _ ⟨hv0, hv1⟩).mono ?_; rintro e w4 ⟨rfl, g4⟩
    go_wp2_with fail
    go_ret2
    exact ⟨rfl, bel_trans G2 g4⟩
/-! The state whose word a word is. -/
theorem Unpack_arg (v n : Int) (w : World) (h : ¬ (2 ≤ n ∧ n ≤ 32)) : Calls Tryz.prog 201 #[.int .u32 v, .int .i64 n] w fun e w' => e = .returned (.tuple #[.agg #[.int .u8 0, .int .u8 0, .int .u8 0, .int .u8 0], .int .i64 2]) ∧ Below w.heap.size w w' := by
  have H := Lib.hid h
  clear h
  go_enter Tryz.func201, Tryz.ntmps201
  go_wp2_with fail
  refine (windows_any _ _).mono ?_; rintro e w1 ⟨rfl, g1⟩
  have R1 : w1.heap[w.heap.size]? = some (.cells #[.int .u8 0, .int .u8 0, .int .u8 0, .int .u8 0] 58 (0, 0)) := bel_heap g1 (row_born rfl)
  have G1 := bel_trans ((Below.refl _ _).alloc (Nat.le_refl _) _) g1
  clear g1
  go_wp2_with fail
  refine (valid_not _ 1 _ _ _ _ _ (by decide) (nums1 w1 n _) (fun hh => H.out (by
    obtain ⟨a0, a1⟩ := hh 0 (by decide)
    exact ⟨a0, by omega⟩))).mono ?_; rintro e w2 ⟨rfl, g2⟩
  have R2 := bel_heap g2 (row_alloc R1)
  have G2 := bel_trans (bel_trans G1 ((Below.refl _ _).alloc (Nat.le_refl _) _)) g2
  clear g2 R1 G1
  obtain ⟨⟨c0, c1, c2, c3⟩, f0, f1, f2, f3⟩ := four_at R2
  go_wp2_with fail
  have G3 := put4_bel (y0 := .int .u8 0) (y1 := .int .u8 0) (y2 := .int .u8 0) (y3 := .int .u8 0) G2 (Nat.le_refl _)
  obtain ⟨⟨q0, q1, q2, q3⟩, _⟩ := four_at (put4_row (y0 := .int .u8 0) (y1 := .int .u8 0) (y2 := .int .u8 0) (y3 := .int .u8 0) R2)
  clear c0 c1 c2 c3 f0 f1 f2 f3 R2 G2
  refine bodyPost_ret (v := .tuple #[.agg #[.int .u8 0, .int .u8 0, .int .u8 0, .int .u8 0], .int .i64 2]) ?_ rfl ⟨rfl, G3⟩
  simp [results, Tryz.results201, go_sem, q0, q1, q2, q3]
theorem Unpack_walk (v n : Int) (w : World) (hn : 2 ≤ n) (hn' : n ≤ 32) (hv : 0 ≤ v ∧ v < 4294967296) (k y e0 y0 y1 y2 y3 : Int)
    (hp : ∀ W : World, Calls Tryz.prog 180 #[.agg #[.int .u8 (v % 32), .int .u8 (v / 32 % 16), .int .u8 (v / 512 % 32), .int .u8 (v / 16384 % 16)], .int .i64 n] W fun e w' => e = .returned (.tuple #[.int .u32 y, .int .i64 k]) ∧ Below W.heap.size W w')
    (hk : (k = 0 ∧ y = v ∧ e0 = 0 ∧ y0 = v % 32 ∧ y1 = v / 32 % 16 ∧ y2 = v / 512 % 32 ∧ y3 = v / 16384 % 16) ∨ ((k = 2 ∨ k = 0 ∧ y ≠ v) ∧ e0 = 5 ∧ y0 = 0 ∧ y1 = 0 ∧ y2 = 0 ∧ y3 = 0)) :
    Calls Tryz.prog 201 #[.int .u32 v, .int .i64 n] w fun e w' => e = .returned (.tuple #[.agg #[.int .u8 y0, .int .u8 y1, .int .u8 y2, .int .u8 y3], .int .i64 e0]) ∧ Below w.heap.size w w' := by
  have HP := Lib.hid hp
  have HK := Lib.hid hk
  clear hp hk
  have hs := Lib.hid (split_any v hv)
  generalize v % 32 = p0 at *
  generalize v / 32 % 16 = p1 at *
  generalize v / 512 % 32 = p2 at *
  generalize v / 16384 % 16 = p3 at *
  go_enter Tryz.func201, Tryz.ntmps201
  go_wp2_with fail
  refine (windows_any _ _).mono ?_; rintro e w1 ⟨rfl, g1⟩
  have R1 : w1.heap[w.heap.size]? = some (.cells #[.int .u8 0, .int .u8 0, .int .u8 0, .int .u8 0] 58 (0, 0)) := bel_heap g1 (row_born rfl)
  have G1 := bel_trans ((Below.refl _ _).alloc (Nat.le_refl _) _) g1
  clear g1
  go_wp2_with fail
  refine (valid_yes _ 1 _ _ _ _ _ (by decide) (nums1 w1 n _) (fun i _ => ⟨hn, by omega⟩)).mono ?_; rintro e w2 ⟨rfl, g2⟩
  have R2 := bel_heap g2 (row_alloc R1)
  have G2 := bel_trans (bel_trans G1 ((Below.refl _ _).alloc (Nat.le_refl _) _)) g2
  clear g2 R1 G1
  go_wp2_with fail
  refine (hs.out _).mono ?_; rintro e w3 ⟨rfl, g3⟩
  have R3 := bel_heap g3 R2
  have G3 := bel_trans G2 g3
  clear g3 R2 G2 hs
  have hz3 : w.heap.size < w3.heap.size := by
    have := G3.size
    rcases Nat.lt_or_ge w.heap.size w3.heap.size with hh | hh
    · exact hh
    · rw [Array.getElem?_eq_none hh] at R3; cases R3
  go_wp2_with fail
  refine (HP.out _).mono ?_; rintro e w4 ⟨rfl, g4⟩
  have R4 := bel_heap g4 (row_alloc R3)
  have P4 : w4.heap[w3.heap.size]? = some (.cells #[.int .u8 p0, .int .u8 p1, .int .u8 p2, .int .u8 p3] 58 (0, 0)) := bel_heap g4 (row_born rfl)
  have G4 := bel_trans (bel_trans G3 ((Below.refl _ _).alloc (Nat.le_refl _) _)) g4
  clear g4 R3 G3 HP
  obtain ⟨⟨c0, c1, c2, c3⟩, f0, f1, f2, f3⟩ := four_at R4
  obtain ⟨⟨d0, d1, d2, d3⟩, _⟩ := four_at P4
  generalize w3.heap.size = z3 at *
  clear P4 w3 hz3
  rcases HK.out with ⟨rfl, rfl, rfl, rfl, rfl, rfl, rfl⟩ | ⟨hk, rfl, rfl, rfl, rfl, rfl⟩
  · clear HK
    go_wp2_with fail
    have G5 := put4_bel (y0 := .int .u8 y0) (y1 := .int .u8 y1) (y2 := .int .u8 y2) (y3 := .int .u8 y3) G4 (Nat.le_refl _)
    obtain ⟨⟨q0, q1, q2, q3⟩, _⟩ := four_at (put4_row (y0 := .int .u8 y0) (y1 := .int .u8 y1) (y2 := .int .u8 y2) (y3 := .int .u8 y3) R4)
    clear c0 c1 c2 c3 d0 d1 d2 d3 f0 f1 f2 f3 R4 G4
    refine bodyPost_ret (v := .tuple #[.agg #[.int .u8 y0, .int .u8 y1, .int .u8 y2, .int .u8 y3], .int .i64 0]) ?_ rfl ⟨rfl, G5⟩
    simp [results, Tryz.results201, go_sem, q0, q1, q2, q3]
  · clear HK
    have G5 := put4_bel (y0 := .int .u8 0) (y1 := .int .u8 0) (y2 := .int .u8 0) (y3 := .int .u8 0) G4 (Nat.le_refl _)
    obtain ⟨⟨q0, q1, q2, q3⟩, _⟩ := four_at (put4_row (y0 := .int .u8 0) (y1 := .int .u8 0) (y2 := .int .u8 0) (y3 := .int .u8 0) R4)
    have G5 := Lib.hid G5
    have Q0 := Lib.hid q0
    have Q1 := Lib.hid q1
    have Q2 := Lib.hid q2
    have Q3 := Lib.hid q3
    clear q0 q1 q2 q3
    rcases hk with rfl | ⟨rfl, hne⟩
    · go_wp2_with fail
      refine bodyPost_ret (v := .tuple #[.agg #[.int .u8 0, .int .u8 0, .int .u8 0, .int .u8 0], .int .i64 5]) ?_ rfl ⟨rfl, G5.out⟩
      simp [results, Tryz.results201, go_sem, Q0.out, Q1.out, Q2.out, Q3.out]
    · have hne' : (y != v) = true := by simpa using hne
      go_wp2_with fail
      refine bodyPost_ret (v := .tuple #[.agg #[.int .u8 0, .int .u8 0, .int .u8 0, .int .u8 0], .int .i64 5]) ?_ rfl ⟨rfl, G5.out⟩
      simp [results, Tryz.results201, go_sem, Q0.out, Q1.out, Q2.out, Q3.out]
/-- The state that a word would have. -/
def WState (v n : Int) : Prop := State (v % 32) (v / 32 % 16) (v / 512 % 32) (v / 16384 % 16) n
theorem parts_byte (v : Int) : Byte (v % 32) ∧ Byte (v / 32 % 16) ∧ Byte (v / 512 % 32) ∧ Byte (v / 16384 % 16) := by unfold Byte; omega
theorem pword_parts {v : Int} (hv : 0 ≤ v ∧ v < 4294967296) : pword (v % 32) (v / 32 % 16) (v / 512 % 32) (v / 16384 % 16) = v ↔ v < 262144 := by unfold pword; omega
theorem Unpack_yes (v n : Int) (w : World) (hv : 0 ≤ v ∧ v < 262144) (h : WState v n) : Calls Tryz.prog 201 #[.int .u32 v, .int .i64 n] w fun e w' => e = .returned (.tuple #[.agg #[.int .u8 (v % 32), .int .u8 (v / 32 % 16), .int .u8 (v / 512 % 32), .int .u8 (v / 16384 % 16)], .int .i64 0]) ∧ Below w.heap.size w w' := by
  obtain ⟨b0, b1, b2, b3⟩ := parts_byte v
  exact Unpack_walk v n w h.1 h.2.1 (by omega) 0 _ 0 _ _ _ _ (fun W => Pack_yes _ _ _ _ n W b0 b1 b2 b3 h) (.inl ⟨rfl, (pword_parts (by omega)).2 hv.2, rfl, rfl, rfl, rfl, rfl⟩)
theorem Unpack_form (v n : Int) (w : World) (hn : 2 ≤ n) (hn' : n ≤ 32) (hv : 0 ≤ v ∧ v < 4294967296) (h : ¬ (v < 262144 ∧ WState v n)) : Calls Tryz.prog 201 #[.int .u32 v, .int .i64 n] w fun e w' => e = .returned (.tuple #[.agg #[.int .u8 0, .int .u8 0, .int .u8 0, .int .u8 0], .int .i64 5]) ∧ Below w.heap.size w w' := by
  obtain ⟨b0, b1, b2, b3⟩ := parts_byte v
  by_cases hs : WState v n
  · exact Unpack_walk v n w hn hn' hv 0 _ 5 _ _ _ _ (fun W => Pack_yes _ _ _ _ n W b0 b1 b2 b3 hs) (.inr ⟨.inr ⟨rfl, fun e => h ⟨(pword_parts hv).1 e, hs⟩⟩, rfl, rfl, rfl, rfl, rfl⟩)
  · exact Unpack_walk v n w hn hn' hv 2 0 5 _ _ _ _ (fun W => Pack_no _ _ _ _ n W b0 b1 b2 b3 hs) (.inr ⟨.inl rfl, rfl, rfl, rfl, rfl, rfl⟩)
end Go.Proofs.YtmpagjijjahohaaGreatDoor.P4
