/- boot (layer 11): a runtime, built. -/
import Derived.Test.YtmpagjijjahohaaGreatDoorBootGC
import Derived.Deep.DeepAppendWide
import Derived.Laws.AppendOwnNone
import Derived.Deep.OwnRows
import Derived.OwnWalk
namespace Go.Proofs.YtmpagjijjahohaaGreatDoor.B11
open Go.RowKit Go.Maps
open A7 (XI XB AS AJ AsmB Has Left Ins Turns)
set_option linter.unusedVariables false
section
variable {ops : Array Oper} {o : Oper} {a : Act} {w : World} {K : Act → World → Prop} {Q : Exit → Act → World → Prop}
/-- Values appended behind those that lie already. -/
theorem wp_catG (s x : Operand) (S E : TypeId) (z : Value) (nb : Nat) (hu : Tryz.prog.underlying S = some (.slice E)) (hp : (Tryz.prog.info? E).map (fun i => (i.zero, i.size, i.bytes)) = some (some z, 1, nb)) (hzs : z.cells.size = 1) (hnb : nb ≤ 64)
    (hop : o.op = Op.call { callee := Callee.builtin Builtin.append, args := #[s, x], argTypes := #[S, S] })
    (B : Nat) (v1 vx : Value) (n m : Nat) (ys xs : List Value) (hs : a.eval s = v1) (h1 : w.ownsRow B E 1 v1 n ys) (hx : a.eval x = vx) (hL : w.ownsRow 0 E 1 vx m xs) (hone : ∀ u ∈ xs, u.oneCell' = true) (hm : n + m ≤ 1000) (hm0 : 0 < m) (hB : B ≤ w.heap.size)
    (hK : ∀ v' w', w'.ownsRow B E 1 v' (n + m) (ys ++ xs) → Below B w w' → K (a.put o.dst v') w') : Oper.wp Tryz.prog o a w K Q := by
  obtain ⟨i0, hi, hz0, hz1, hz2⟩ := info_parts hp
  obtain ⟨hlen, ⟨rfl, h0⟩ | ⟨g, cap, cur, rfl, _, hgg, q1, q2, q3, q4⟩⟩ := hL
  · omega
  · have hbig : (n + m + (n + m) / 4 + 192) * nb ≤ 281474976710656 := Nat.le_trans (Nat.mul_le_mul (by omega : n + m + (n + m) / 4 + 192 ≤ 2000) hnb) (by decide)
    refine wp_append_own_wide w s x S hop B E i0 _ 1 nb hu hi hz0 hz1 hz2 hzs (by decide) v1 n ys hs h1 ⟨g, 0, none⟩ m cap xs hx (by simpa using hlen) ?_ hone (by unfold maxLen; omega) hbig hB ?_
    · intro j u hj
      rw [add_off, Nat.zero_add, cell_of_row _ _ _ _ _ _ hgg]
      have hjm : j < m := by have := (List.getElem?_eq_some_iff.1 hj).1; rw [hlen] at this; omega
      rw [← q4, List.getElem?_take_of_lt (by omega)] at hj
      simpa using hj
    · intro v' w' ho hgrow _
      exact hK v' w' ho ((Below.refl B w).grown hgrow hB (fun k hk => (h1.lt k hk).1))
theorem wpList_catG {rest : List Oper} (hgd : o.guard = none) (s x : Operand) (S E : TypeId) (z : Value) (nb : Nat) (hu : Tryz.prog.underlying S = some (.slice E)) (hp : (Tryz.prog.info? E).map (fun i => (i.zero, i.size, i.bytes)) = some (some z, 1, nb)) (hzs : z.cells.size = 1) (hnb : nb ≤ 64)
    (hop : o.op = Op.call { callee := Callee.builtin Builtin.append, args := #[s, x], argTypes := #[S, S] })
    (B : Nat) (v1 vx : Value) (n m : Nat) (ys xs : List Value) (hs : a.eval s = v1) (h1 : w.ownsRow B E 1 v1 n ys) (hx : a.eval x = vx) (hL : w.ownsRow 0 E 1 vx m xs) (hone : ∀ u ∈ xs, u.oneCell' = true) (hm : n + m ≤ 1000) (hm0 : 0 < m) (hB : B ≤ w.heap.size)
    (h : ∀ v' w', w'.ownsRow B E 1 v' (n + m) (ys ++ xs) → Below B w w' → wpList Tryz.prog ops Q rest (a.put o.dst v') w') : wpList Tryz.prog ops Q (o :: rest) a w :=
  wpList_plain hgd fun K hK => wp_catG s x S E z nb hu hp hzs hnb hop B v1 vx n m ys xs hs h1 hx hL hone hm hm0 hB fun v' w' a1 a2 => hK _ _ (h v' w' a1 a2)
end
theorem own_lessD {w : World} {B C : Nat} {t : TypeId} {z n : Nat} {s : Value} {xs : List Value} (h : w.ownsRow B t z s n xs) (hC : C ≤ B) : w.ownsRow C t z s n xs := by
  obtain ⟨h0, h1 | ⟨g, cap, cur, e, hB, r⟩⟩ := h
  · exact ⟨h0, .inl h1⟩
  · exact ⟨h0, .inr ⟨g, cap, cur, e, Nat.le_trans hC hB, r⟩⟩
/-- The words of a runtime, from 0 on. -/
def bF (nw : Int) (i : Nat) : Int := if i < 64 then 0 else bW nw (i - 64)
theorem bF_cat (nw : Int) : bsL .u32 (fun _ => 0) 64 ++ bsL .u32 (bW nw) 341 = bsL .u32 (bF nw) 405 := by
  apply List.ext_getElem?
  intro i
  by_cases h : i < 64
  · rw [List.getElem?_append_left (by rw [bsL_len]; exact h), bsL_get _ _ h, bsL_get _ _ (by omega)]
    unfold bF
    rw [if_pos h]
  · rw [List.getElem?_append_right (by rw [bsL_len]; omega), bsL_len]
    by_cases h2 : i < 405
    · rw [bsL_get _ _ (by omega), bsL_get _ _ h2]
      unfold bF
      rw [if_neg h]
    · rw [List.getElem?_eq_none (by rw [bsL_len]; omega), List.getElem?_eq_none (by rw [bsL_len]; omega)]
theorem start_is {w : World} {b : Nat} {G K : Nat → Prop} (nw : Int) (h : AsmB w b G K (bQ nw)) : Calls Tryz.prog 111 #[.pointer (some ⟨b, 0, none⟩), .string sStart] w fun e w' => e = .returned (.tuple #[.int .i64 336, .int .i64 0]) ∧ w' = w := by
  have := A7.At_at sStart (by decide) h
  unfold A7.atV A7.atE at this
  rw [bQ_start] at this
  exact this
theorem zero64 : madeCells #[.int .u32 0] 64 = (bsL .u32 (fun _ => 0) 64).toArray := by kernel_rfl
theorem bu32_parts : (Tryz.prog.info? 32).map (fun i => (i.zero, i.size, i.bytes)) = some (some (.int .u32 0), 1, 4) := by kernel_rfl
theorem bsL_one (k : IntKind) (f : Nat → Int) (n : Nat) : ∀ u ∈ bsL k f n, u.oneCell' = true := fun u hu => by
  obtain ⟨i, _, rfl⟩ := List.mem_map.1 hu
  rfl
set_option maxHeartbeats 4000000 in
theorem build_at (nw : Int) (h2 : 2 ≤ nw) (h32 : nw ≤ 32) (w : World) (hT : I2.Tab w) :
    Calls Tryz.prog 71 #[.int .i64 nw] w fun e w' => ∃ v, e = .returned (.tuple #[v, .int .u32 1600, .int .i64 0]) ∧ w'.ownsRow w.heap.size 32 1 v 405 (bsL .u32 (bF nw) 405) ∧ Below w.heap.size w w' := by
  have HT := Lib.hid hT
  obtain ⟨zs, hzs⟩ : ∃ zs : List Value, zs = bsL .u32 (fun _ => 0) 64 := ⟨_, rfl⟩
  have ZL : Hid (zs.length = 64) := by unfold Hid; rw [hzs, bsL_len]
  have HZS := Lib.hid hzs
  have hmk : ∀ W, (Instr.makeSlice 26 (.int .i64 64) (.int .i64 64)).run Tryz.prog W = .ok (.slice (some ⟨W.heap.size, 0, none⟩) 64 64) (W.alloc (.cells zs.toArray 32)) := fun W => by
    rw [hzs, ← zero64]
    exact run_make_row' (P := Tryz.prog) 26 32 (.int .u32 0) 4 Tryz.underlying26 bu32_parts rfl .i64 .i64 64 (by omega) (by omega) W
  clear hT hzs
  go_enter Tryz.func71, Tryz.ntmps71
  go_wp2_with fail
  refine (list_at nw h2 h32 w HT.out).mono ?_; rintro e w1 ⟨b, G, K, rfl, A1, low1, g1⟩
  have A1 := Lib.hid A1
  have G1 := Lib.hid g1
  clear low1 g1
  go_wp2_with fail
  refine (A7.Words_any A1.out).mono ?_; rintro e w2 (⟨f, v, hf, rfl, ho, g2⟩ | ⟨hf, rfl, g2⟩)
  · obtain rfl : bW nw = f := by rw [bQ_words] at hf; injection hf
    rw [bQ_n] at ho
    have HO := Lib.hid ho
    have A2 := Lib.hid (A1.out.bel g2)
    have G2 := Lib.hid (bel_trans G1.out g2)
    clear hf ho g2
    go_wp2_with fail
    refine (start_is nw A2.out).mono ?_; rintro e w3 ⟨rfl, rfl⟩
    have Z1 : Hid ((w3.alloc (.cells zs.toArray 32)).ownsRow w3.heap.size 32 1 (.slice (some ⟨w3.heap.size, 0, none⟩) 64 64) 64 zs) :=
      ⟨ZL.out, .inr ⟨w3.heap.size, 64, zs.toArray, rfl, Nat.le_refl _, heap_alloc_last _ _, Nat.le_refl _, by decide, by rw [List.size_toArray]; exact ZL.out, by rw [List.toList_toArray]; exact List.take_of_length_le (Nat.le_of_eq ZL.out)⟩⟩
    have HV : Hid ((w3.alloc (.cells zs.toArray 32)).ownsRow 0 32 1 v 341 (bsL .u32 (bW nw) 341)) := own_lessD (HO.out.alloc _) (Nat.zero_le _)
    have sz : w3.heap.size ≤ (w3.alloc (.cells zs.toArray 32)).heap.size := by simp
    have gZ : Hid (Below w3.heap.size w3 (w3.alloc (.cells zs.toArray 32))) := (Below.refl _ _).alloc (Nat.le_refl _) _
    clear A2 A1 G1 HT
    go_wp2_with (refine wpList_catG rfl _ _ 26 32 (.int .u32 0) 4 Tryz.underlying26 bu32_parts rfl (by decide) rfl w3.heap.size _ _ 64 341 _ _ rfl Z1.out rfl HV.out (bsL_one _ _ _) (by decide) (by decide) sz ?_; intro v' w4 ho g4)
    go_ret3
    refine ⟨v', rfl, ?_, ?_⟩
    · rw [← bF_cat, ← HZS.out]
      exact own_lessD ho G2.out.size
    · exact bel_trans G2.out (gZ.out.trans g4)
  · rw [bQ_words] at hf
    cases hf
end Go.Proofs.YtmpagjijjahohaaGreatDoor.B11
