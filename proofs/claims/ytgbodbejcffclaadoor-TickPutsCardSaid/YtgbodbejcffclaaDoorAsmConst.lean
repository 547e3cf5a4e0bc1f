/- Package asm as it has landed: constants. -/
import Derived.Test.YtgbodbejcffclaaDoorAsmPut
import Derived.IntWalk
namespace Go.Proofs.YtgbodbejcffclaaDoor.A7
open Go.RowKit Go.Maps
set_option linter.unusedVariables false
def small (w : Int) : Bool := decide (w ≤ 16383 ∨ 4294950912 ≤ w)
def sgn (w : Int) : Int := if 2147483648 ≤ w then w - 4294967296 else w
/-- A constant's instructions: how many, and which. -/
def cK (w : Int) : Nat := if small w then 1 else if w % 2048 = 0 then 1 else 2
def cX (rd w : Int) (i : Nat) : XI := if small w then ⟨1, rd, 0, 0, true, sgn w⟩ else if i = 0 then ⟨15, rd, 0, 0, true, w / 2048⟩ else ⟨7, rd, rd, 0, true, w % 2048⟩
theorem nat_mask11 (n : Nat) : n &&& 2047 = n % 2048 := Nat.and_two_pow_sub_one_eq_mod n 11
theorem and_11 (x : Int) (h : 0 ≤ x ∧ x < 4294967296) : bits .and .u32 x 2047 = x % 2048 := by
  rw [u32_and x 2047 h.1 h.2 (by decide) (by decide)]
  have : (2047 : Int).toNat = 2047 := rfl
  rw [this, nat_mask11]; omega
theorem wrap_sgn (u : Int) (hu : 0 ≤ u ∧ u < 4294967296) : IntKind.i32.wrap u = sgn u := by
  unfold sgn
  simp [IntKind.wrap, IntKind.bits, IntKind.signed]
  split <;> split <;> omega
theorem wrap_same (u : Int) (hu : 0 ≤ u ∧ u < 2147483648) : IntKind.i32.wrap u = u := by
  rw [wrap_sgn u (by omega)]; unfold sgn; rw [if_neg (by omega)]
theorem own_ins {w : World} {B : Nat} {v : Value} {k : Nat} {xs : List Value} {X : Nat → XI} (h : w.ownsRow B 57 6 v k xs) (hx : ∀ i, i < k → ∀ j, j < 6 → xs[i * 6 + j]? = (X i).row[j]?) : Ins w (fun b => b < B) v k X := by
  obtain ⟨hl, ⟨rfl, rfl⟩ | ⟨g, cap, cur, rfl, hB, hg, h1, h2, h3, h4⟩⟩ := h
  · exact ⟨none, 0, rfl, fun h => absurd h (Nat.lt_irrefl _)⟩
  · refine ⟨_, _, rfl, fun _ => ⟨g, 0, rfl, by omega, fun i hi => ?_⟩⟩
    have key : ∀ j, j < 6 → ∀ v, (X i).row[j]? = some v → w.cell? ⟨g, 0 + i * 6 + j, none⟩ = some v := by
      intro j hj v hv
      rw [← hx i hi j hj, ← h4, List.getElem?_take_of_lt (by omega)] at hv
      rw [Nat.zero_add, cell_of_row _ _ _ _ _ _ hg]
      simpa using hv
    exact ⟨key 0 (by decide) _ rfl, key 1 (by decide) _ rfl, key 2 (by decide) _ rfl, key 3 (by decide) _ rfl, key 4 (by decide) _ rfl, key 5 (by decide) _ rfl⟩
theorem Ins.mono {w : World} {H H' : Nat → Prop} {v : Value} {k : Nat} {X : Nat → XI} (h : Ins w H v k X) (hh : ∀ i, H' i → H i) : Ins w H' v k X := by
  obtain ⟨p, c, rfl, h⟩ := h
  exact ⟨p, c, rfl, fun hk => by obtain ⟨b, o, rfl, hb, hc⟩ := h hk; exact ⟨b, o, rfl, fun e => hb (hh _ e), hc⟩⟩
theorem Ins.bel {w w' : World} {H : Nat → Prop} {v : Value} {k : Nat} {X : Nat → XI} (h : Ins w H v k X) (g : Below w.heap.size w w') : Ins w' H v k X := by
  obtain ⟨p, c, rfl, h⟩ := h
  exact ⟨p, c, rfl, fun hk => by obtain ⟨b, o, rfl, hb, hc⟩ := h hk; exact ⟨b, o, rfl, hb, fun i hi => by obtain ⟨a0, a1, a2, a3, a4, a5⟩ := hc i hi; exact ⟨bel_cell g a0, bel_cell g a1, bel_cell g a2, bel_cell g a3, bel_cell g a4, bel_cell g a5⟩⟩⟩
/-- One instruction in a new block. -/
theorem one_ins (x : XI) (w : World) : Ins (w.alloc (.cells x.row.toArray 57)) (fun b => b < w.heap.size) (.slice (some ⟨w.heap.size, 0, none⟩) 1 1) 1 (fun _ => x) := by
  have h := heap_alloc_last w (.cells x.row.toArray 57)
  refine ⟨_, _, rfl, fun _ => ⟨_, _, rfl, Nat.lt_irrefl _, fun i hi => ?_⟩⟩
  obtain rfl : i = 0 := by omega
  have hr : (w.alloc (.cells x.row.toArray 57)).heap[w.heap.size]? = some (.cells x.row.toArray 57 (0, 0)) := h
  exact ⟨row_cell hr rfl, row_cell hr rfl, row_cell hr rfl, row_cell hr rfl, row_cell hr rfl, row_cell hr rfl⟩
theorem one_own (x : XI) (w : World) : (w.alloc (.cells x.row.toArray 57)).ownsRow w.heap.size 57 6 (.slice (some ⟨w.heap.size, 0, none⟩) 1 1) 1 x.row := by
  refine ⟨rfl, .inr ⟨_, 1, x.row.toArray, rfl, Nat.le_refl _, heap_alloc_last w (.cells x.row.toArray 57), Nat.le_refl _, by unfold maxLen; omega, rfl, rfl⟩⟩
theorem inst_parts : (Tryd.prog.info? 57).map (fun i => (i.zero, i.size, i.bytes)) = some (some (.agg #[.int .u8 0, .int .u8 0, .int .u8 0, .int .u8 0, .bool false, .int .i32 0]), 6, 12) := by kernel_rfl
theorem row_one (x : XI) : ∀ v ∈ x.row, v.oneCell' = true := by
  intro v hv
  simp only [XI.row, List.mem_cons, List.not_mem_nil, or_false] at hv
  rcases hv with rfl | rfl | rfl | rfl | rfl | rfl <;> rfl
theorem new_inst (x : XI) (b : Nat) (w : World) (hb : b = w.heap.size) : ∀ j v, x.row[j]? = some v → (w.alloc (.cells x.row.toArray 57)).cell? ((⟨b, 0, none⟩ : Addr).add j) = some v := by
  subst hb
  intro j v hj
  have h : (w.alloc (.cells x.row.toArray 57)).heap[w.heap.size]? = some (.cells x.row.toArray 57 (0, 0)) := heap_alloc_last _ _
  rw [add_off, Nat.zero_add]
  exact row_cell h (by simpa using hj)
end Go.Proofs.YtgbodbejcffclaaDoor.A7
