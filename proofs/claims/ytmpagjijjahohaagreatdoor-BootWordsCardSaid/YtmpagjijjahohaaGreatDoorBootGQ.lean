/- BootWords (layer 11): how many numbers were asked for, and a list of numbers by append. -/
import Derived.Test.YtmpagjijjahohaaGreatDoorBootGO
namespace Go.Proofs.YtmpagjijjahohaaGreatDoor.B11
open Go.RowKit
set_option linter.unusedVariables false
theorem int_under : Tryz.prog.underlying 22 = some (.slice 3) := by kernel_rfl
theorem int_parts : (Tryz.prog.info? 3).map (fun i => (i.zero, i.size, i.bytes)) = some (some (.int .i64 0), 1, 8) := by kernel_rfl
/-- A list of numbers as values. -/
def ivs (L : List Int) : List Value := L.map fun x => .int .i64 x
theorem ivs_len (L : List Int) : (ivs L).length = L.length := by simp [ivs]
section
variable {ops : Array Oper} {o : Oper} {a : Act} {w : World} {K : Act → World → Prop} {Q : Exit → Act → World → Prop}
theorem wp_num (s x : Operand) (hop : o.op = Op.call { callee := Callee.builtin Builtin.append, args := #[s, x], argTypes := #[22, 22] })
    (B : Nat) (v1 : Value) (L : List Int) (u : Int) (hs : a.eval s = v1) (h1 : w.ownsRow B 3 1 v1 L.length (ivs L)) (g c : Nat) (hx : a.eval x = .slice (some ⟨g, 0, none⟩) 1 c) (hc : w.heap[g]? = some (.cells #[.int .i64 u] 3 (0, 0))) (hn : L.length ≤ 1000) (hB : B ≤ w.heap.size)
    (hK : ∀ g' c' w', w'.ownsRow B 3 1 (.slice (some ⟨g', 0, none⟩) (L.length + 1) c') (L ++ [u]).length (ivs (L ++ [u])) → w.grownBy w' v1.ownBlock → K (a.put o.dst (.slice (some ⟨g', 0, none⟩) (L.length + 1) c')) w') : Oper.wp Tryz.prog o a w K Q := by
  obtain ⟨i0, hi, hz0, hz1, hz2⟩ := info_parts int_parts
  have hbig : (L.length + 1 + (L.length + 1) / 4 + 192) * 8 ≤ 281474976710656 := Nat.le_trans (Nat.mul_le_mul (by omega : L.length + 1 + (L.length + 1) / 4 + 192 ≤ 2000) (Nat.le_refl 8)) (by decide)
  refine wp_append_own_wide w s x 22 hop B 3 i0 _ 1 8 int_under hi hz0 hz1 hz2 rfl (by decide) v1 L.length (ivs L) hs h1 ⟨g, 0, none⟩ 1 c [.int .i64 u] hx rfl ?_ (fun v hv => by simp at hv; subst hv; rfl) (by unfold maxLen; omega) hbig hB ?_
  · intro j v hj
    rw [add_off, Nat.zero_add, cell_of_row _ _ _ _ _ _ hc]
    simpa using hj
  · intro v' w' ho hgrow _
    obtain ⟨g', c', rfl⟩ : ∃ g' c', v' = .slice (some ⟨g', 0, none⟩) (L.length + 1) c' := by
      obtain ⟨_, ⟨_, h0⟩ | ⟨g', c', _, rfl, _⟩⟩ := ho
      · omega
      · exact ⟨g', c', rfl⟩
    refine hK g' c' w' ?_ hgrow
    rw [show (L ++ [u]).length = L.length + 1 by simp, show ivs (L ++ [u]) = ivs L ++ [.int .i64 u] by simp [ivs]]
    exact ho
theorem wpList_num {rest : List Oper} (hgd : o.guard = none) (s x : Operand) (hop : o.op = Op.call { callee := Callee.builtin Builtin.append, args := #[s, x], argTypes := #[22, 22] })
    (B : Nat) (v1 : Value) (L : List Int) (u : Int) (hs : a.eval s = v1) (h1 : w.ownsRow B 3 1 v1 L.length (ivs L)) (g c : Nat) (hx : a.eval x = .slice (some ⟨g, 0, none⟩) 1 c) (hc : w.heap[g]? = some (.cells #[.int .i64 u] 3 (0, 0))) (hn : L.length ≤ 1000) (hB : B ≤ w.heap.size)
    (h : ∀ g' c' w', w'.ownsRow B 3 1 (.slice (some ⟨g', 0, none⟩) (L.length + 1) c') (L ++ [u]).length (ivs (L ++ [u])) → w.grownBy w' v1.ownBlock → wpList Tryz.prog ops Q rest (a.put o.dst (.slice (some ⟨g', 0, none⟩) (L.length + 1) c')) w') :
    wpList Tryz.prog ops Q (o :: rest) a w :=
  wpList_plain hgd fun K hK => wp_num s x hop B v1 L u hs h1 g c hx hc hn hB fun g' c' w' a1 a2 => hK _ _ (h g' c' w' a1 a2)
end
theorem own_nums {w : World} {B : Nat} {v : Value} {L : List Int} (h : w.ownsRow B 3 1 v L.length (ivs L)) : ∃ p c, v = .slice p L.length c ∧ ∀ i (hi : i < L.length), ∃ g, p = some ⟨g, 0, none⟩ ∧ w.cell? ⟨g, i, none⟩ = some (.int .i64 L[i]) := by
  obtain ⟨_, ⟨rfl, h0⟩ | ⟨g, c, cur, rfl, _, hg, q1, q2, q3, q4⟩⟩ := h
  · refine ⟨none, 0, by rw [h0], fun i hi => ?_⟩
    omega
  · refine ⟨_, c, rfl, fun i hi => ⟨g, rfl, row_cell hg ?_⟩⟩
    have : (ivs L)[i]? = some (.int .i64 L[i]) := by simp [ivs, hi]
    rw [← q4, List.getElem?_take_of_lt (by omega)] at this
    simpa using this
/-- Is a number in a list? -/
theorem has_at (v : Value) (L : List Int) (u : Int) (B : Nat) (w : World) (h : w.ownsRow B 3 1 v L.length (ivs L)) (hl : L.length ≤ 1000) : Calls Tryz.prog 11 #[v, .int .i64 u] w fun e w' => e = .returned (.bool (decide (u ∈ L))) ∧ w = w' := by
  obtain ⟨p, c, rfl, hc⟩ := own_nums h
  have HC := Lib.hid hc
  clear hc h
  go_enter Tryz.func11, Tryz.ntmps11
  go_wp2_with fail
  go_loopw [5] (fun i wr => ∃ k : Nat, k ≤ L.length ∧ i = .int .i64 k ∧ w = wr ∧ ∀ x ∈ L.take k, x ≠ u) (fun i _ => (L.length - intOf i).toNat)
  case atStart => exact ⟨0, Nat.zero_le _, rfl, rfl, by simp⟩
  case round =>
    obtain ⟨k, hk, rfl, rfl, hno⟩ := hrel
    have HNO := Lib.hid hno
    clear hno
    by_cases hlt : k < L.length
    · obtain ⟨g, rfl, c0⟩ := HC.out k hlt
      have hlt' : (k : Int) < (L.length : Int) := by omega
      have hd : decide ((k : Int) ≥ (L.length : Int)) = false := decide_eq_false (by omega)
      by_cases hq : L[k] = u
      · have hq' : (L[k] == u) = true := by simpa using hq
        have hin : Hid (u ∈ L) := hq ▸ List.getElem_mem hlt
        rw [hq] at c0
        clear hq' hq
        go_wp2_with fail
        go_ret
        exact ⟨by have hh := decide_eq_true hin.out; rw [hh]; rfl, rfl⟩
      · have hq' : (L[k] == u) = false := by simpa using hq
        have H1 : Hid (∀ x ∈ L.take (k + 1), x ≠ u) := fun x hx => by
          rw [List.take_add_one, List.getElem?_eq_getElem hlt] at hx
          rcases List.mem_append.1 hx with hx | hx
          · exact HNO.out x hx
          · simp at hx; rw [hx]; exact hq
        generalize L[k] = z at c0 hq' hq
        go_wp2_with fail
        go_roundw
        case rel => exact ⟨k + 1, by omega, by first | rfl | simp, by first | rfl | trivial, H1.out⟩
        case measure => simp only [intOf]; omega
    · obtain rfl : k = L.length := by omega
      have hin : Hid (¬ u ∈ L) := fun hm => HNO.out u (by rw [List.take_length]; exact hm) rfl
      go_wp2_with fail
      go_ret
      exact ⟨by have hh := decide_eq_false hin.out; rw [hh]; rfl, rfl⟩
theorem KitAt.grown {w w' : World} {b : Nat} {S : Nat → Option Value} {n : Int} {x : Option Nat} (h : KitAt w b S n) (g : w.grownBy w' x) (hx : ∀ j, x = some j → ∃ cur, w.heap[j]? = some (.cells cur 3 (0, 0))) : KitAt w' b S n := by
  have hb : some b ≠ x := fun e => by
    obtain ⟨cur, hc⟩ := hx b e.symm
    rw [show w.heap[b]? = _ from h.box] at hc
    injection hc with hc
    injection hc with _ hc _
    exact absurd hc (by decide)
  refine ⟨(g.block b (A7.heap_lt h.box) hb).trans h.box, fun i v hv => A7.own_same (h.words i v hv) fun j hj => g.block j ((h.words i v hv).lt j hj).2 fun e => ?_, h.n0, h.n1⟩
  obtain ⟨cur, hc⟩ := hx j e.symm
  obtain ⟨cur', hc'⟩ := A7.own_typ (h.words i v hv) hj
  rw [hc] at hc'
  injection hc' with hc'
  injection hc' with _ hc' _
  exact absurd hc' (by decide)
/-- Another kit turns. -/
theorem KitAt.other {w w' : World} {a b : Nat} {n : Int} (h : KitAt w b (fun _ => none) n) (g : w.grownBy w' (some a)) (hab : b ≠ a) : KitAt w' b (fun _ => none) n :=
  ⟨(g.block b (A7.heap_lt h.box) (fun e => hab (Option.some.inj e))).trans h.box, fun i v hv => (by cases hv), h.n0, h.n1⟩
theorem nums_far {w : World} {kb B n : Nat} {C : Nat → Value} {v : Value} {xs : List Value} (hk : KBox w kb C) (h : w.ownsRow B 3 1 v n xs) : v.ownBlock ≠ some kb := fun e => by
  obtain ⟨cur, hc⟩ := A7.own_typ h e
  rw [show w.heap[kb]? = _ from hk] at hc
  injection hc with hc
  injection hc with _ hc _
  exact absurd hc (by decide)
/-- What BootWords has in hand: which numbers were asked for, of the kit a. -/
structure Ask (w wr : World) (a b : Nat) (v : Value) (L : List Int) (S : Nat → Option Value) : Prop where
  gb : w.heap.size ≤ b
  ka : KitAt wr a S L.length
  kb : KitAt wr b (fun _ => none) 0
  row : wr.ownsRow w.heap.size 3 1 v L.length (ivs L)
  ok : ∀ i : Nat, i < 31 → ((S i).isSome = true ↔ ((i : Int) + 2) ∈ L)
  g : Below w.heap.size w wr
  tab : I2.Tab wr
section
variable {w wr w' : World} {a b : Nat} {v : Value} {L : List Int} {S : Nat → Option Value}
theorem Ask.bel (h : Ask w wr a b v L S) (k : Below wr.heap.size wr w') : Ask w w' a b v L S :=
  ⟨h.gb, h.ka.bel k, h.kb.bel k, A7.own_same h.row fun j hj => k.block j (h.row.lt j hj).2, h.ok, bel_trans h.g k, A7.tab_bel h.tab k⟩
/-- A number that was asked for already. -/
theorem Ask.old (h : Ask w wr a b v L S) (ha : w.heap.size ≤ a) (hb : b ≠ a) (h0 : a ≠ 0) {i : Nat} (hi : i < 31) (hm : ((i : Int) + 2) ∈ L) {S' : Nat → Option Value} {n' : Int} (K : KitAt w' a S' n') (s1 : (S' i).isSome = true) (s2 : ∀ k, k ≠ i → S' k = S k) (s3 : n' = L.length + bump (S i)) (g : wr.grownBy w' (some a)) : Ask w w' a b v L S' := by
  have e : n' = L.length := by
    rw [s3]; unfold bump; rw [if_pos ((h.ok i hi).2 hm)]; omega
  rw [e] at K
  refine ⟨h.gb, K, h.kb.other g hb, World.ownsRow.kept h.row g (.inr (nums_far h.ka.box h.row)), fun j hj => ?_, only_bel h.g g ha, tab_only h.tab g h0⟩
  by_cases ej : j = i
  · subst ej; exact ⟨fun _ => hm, fun _ => s1⟩
  · rw [s2 j ej]; exact h.ok j hj
/-- A new one: the kit has it, the list not yet. -/
theorem Ask.new (h : Ask w wr a b v L S) (ha : w.heap.size ≤ a) (hb : b ≠ a) (h0 : a ≠ 0) {i : Nat} (hi : i < 31) (hm : ¬ ((i : Int) + 2) ∈ L) {S' : Nat → Option Value} {n' : Int} (K : KitAt w' a S' n') (s1 : (S' i).isSome = true) (s2 : ∀ k, k ≠ i → S' k = S k) (s3 : n' = L.length + bump (S i)) (g : wr.grownBy w' (some a)) :
    KitAt w' a S' ((L.length : Int) + 1) ∧ KitAt w' b (fun _ => none) 0 ∧ w'.ownsRow w.heap.size 3 1 v L.length (ivs L) ∧ Below w.heap.size w w' ∧ I2.Tab w' ∧ ∀ j : Nat, j < 31 → ((S' j).isSome = true ↔ ((j : Int) + 2) ∈ L ++ [(i : Int) + 2]) := by
  have e : n' = L.length + 1 := by
    have hS : (S i).isSome = false := by
      cases hs : (S i).isSome with
      | false => rfl
      | true => exact absurd ((h.ok i hi).1 hs) hm
    rw [s3]; unfold bump; rw [hS]; rfl
  rw [e] at K
  refine ⟨K, h.kb.other g hb, World.ownsRow.kept h.row g (.inr (nums_far h.ka.box h.row)), only_bel h.g g ha, tab_only h.tab g h0, fun j hj => ?_⟩
  by_cases ej : j = i
  · subst ej; exact ⟨fun _ => by simp, fun _ => s1⟩
  · rw [s2 j ej, h.ok j hj]
    simp only [List.mem_append, List.mem_singleton]
    exact ⟨.inl, fun hh => hh.elim id fun q => absurd (by omega) ej⟩
end
/-- What lay stays a table behind an append. -/
theorem tab_num {w w' : World} {B : Nat} {v : Value} {n : Nat} {xs : List Value} (h : I2.Tab w) (hr : w.ownsRow B 3 1 v n xs) (g : w.grownBy w' v.ownBlock) (hB : 0 < B) : I2.Tab w' := fun a ha b hb => by
  have hc := h a ha b hb
  have hl := block_lt_of_cell hc
  unfold World.cell? at hc ⊢
  rw [g.block 0 hl (fun e => by have := (hr.lt 0 e.symm).1; omega)]
  exact hc
/-- Where the handlers' types lead, up to a type. -/
def tos (k : Nat) : List Int := ((List.range k).filter hasH).map fun j => 256 + 4 * (tgt j : Int)
theorem tos_succ (k : Nat) : tos (k + 1) = if hasH k then tos k ++ [256 + 4 * (tgt k : Int)] else tos k := by
  unfold tos
  rw [List.range_succ, List.filter_append, List.map_append]
  cases h : hasH k <;> simp [h]
theorem tos_all : ((List.range 32).all fun k => !hasH k || (!(tos k).contains (256 + 4 * (tgt k : Int)) && decide (256 + 4 * tgt k < 1600))) = true := by kernel_rfl
theorem tos_new {k : Nat} (hk : k < 32) (h : hasH k = true) : ¬ (256 + 4 * (tgt k : Int)) ∈ tos k ∧ 256 + 4 * tgt k < 1600 := by
  have := List.all_eq_true.1 tos_all k (List.mem_range.2 hk)
  rw [h] at this
  simpa using this
theorem tos_len (k : Nat) : (tos k).length ≤ k := by
  unfold tos
  rw [List.length_map]
  exact Nat.le_trans (List.length_filter_le _ _) (by simp)
end Go.Proofs.YtmpagjijjahohaaGreatDoor.B11
