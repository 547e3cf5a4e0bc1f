/- Package asm as it has landed: Jump, Call. -/
import Derived.Test.YtgbodbejcffclaaDoorAsmJump
namespace Go.Proofs.YtgbodbejcffclaaDoor.A7
open Go.RowKit Go.Maps
set_option linter.unusedVariables false
section
variable {w w2 : World} {b mp : Nat} {wv jv : Value} {vs : List Value} {G K : Nat → Prop} {q : AS}
theorem AsmP.jumped {g' c' bn bx ba : Nat} {j : AJ} (h : AsmP w b mp wv jv vs G K q) (own : w2.ownsRow 0 52 1 (.slice (some ⟨g', 0, none⟩) (q.js.length + 1) c') (q.js.length + 1) (vs ++ [jval bn bx ba])) (gr : w.grownBy w2 jv.ownBlock) (loc : jv = .slice (some ⟨g', 0, none⟩) q.js.length c' ∨ (w.heap.size ≤ g' ∧ w.grownBy w2 none))
    (J : JIn w K bn bx ba j) (jok : JOk q.n j) (hl : q.js.length + 1 ≤ q.n) :
    AsmP (w2.setCell ⟨b, 3, none⟩ (.slice (some ⟨g', 0, none⟩) (q.js.length + 1) c')) b mp wv (.slice (some ⟨g', 0, none⟩) (q.js.length + 1) c') (vs ++ [jval bn bx ba]) (fun i => G i ∨ i = g') (fun i => K i ∨ (G i ∨ i = g')) { q with js := q.js ++ [j] } ∧
    Turns G w (w2.setCell ⟨b, 3, none⟩ (.slice (some ⟨g', 0, none⟩) (q.js.length + 1) c')) ∧ ∀ i, (G i ∨ i = g') → G i ∨ w.heap.size ≤ i := by
  have T1 : Turns G w w2 := ⟨gr.os, gr.tape, gr.output, gr.size, fun i hi hn => gr.block i hi fun e => hn (h.gj i e.symm)⟩
  have B2 := (gr.block b (h.lt _ h.gb) fun e => (h.jb e.symm).1 rfl).trans h.box
  have W2 := own_same h.words fun j hj => gr.block j (h.words.lt j hj).2 fun e => (h.jb e.symm).2.2 hj
  have M2 := map_same h.marks (gr.block mp h.marks.lt fun e => (h.jb e.symm).2.1 rfl)
  have k1 : w2.grownBy (w2.setCell ⟨b, 3, none⟩ (.slice (some ⟨g', 0, none⟩) (q.js.length + 1) c')) (some b) := only_cell ⟨rfl, rfl, rfl, Nat.le_refl _, fun _ _ _ => rfl⟩ 3 _
  have T2 : Turns G w (w2.setCell ⟨b, 3, none⟩ (.slice (some ⟨g', 0, none⟩) (q.js.length + 1) c')) := T1.trans (G' := G) (Turns.of_only k1 h.gb) (fun _ e => .inl e)
  have low : ∀ i, (G i ∨ i = g') → G i ∨ w.heap.size ≤ i := fun i hi => hi.elim .inl fun e => by
    subst e
    rcases loc with rfl | ⟨hn, _⟩
    · exact .inl (h.gj _ rfl)
    · exact .inr hn
  have lowK : ∀ i, (K i ∨ (G i ∨ i = g')) → K i ∨ w.heap.size ≤ i := fun i hi => hi.elim .inl fun e => (low i e).imp (h.sub i) id
  have hlen : vs.length = q.js.length := by have := h.jumps.1; simpa using this
  refine ⟨{
    box := heap_setCell_same w2 b 3 _ _ _ B2
    words := only_own W2 k1 fun j hj => (h.wb hj).1
    marks := only_map M2 k1 h.bm.symm
    jumps := by
      have e : ({ q with js := q.js ++ [j] } : AS).js.length = q.js.length + 1 := by simp
      rw [e]
      exact only_own own k1 fun j hj => not_typ B2 (by decide) (own_typ own hj)
    each := fun i v x hv hx => by
      have hx' : (q.js ++ [j])[i]? = some x := hx
      by_cases hi : i < q.js.length
      · rw [List.getElem?_append_left (by omega)] at hv
        rw [List.getElem?_append_left hi] at hx'
        exact (h.each i v x hv hx').turns T2 (fun _ e => .inl (h.sub _ e)) lowK
      · rw [List.getElem?_append_right (by omega)] at hv
        rw [List.getElem?_append_right (by omega)] at hx'
        have h0 : i - q.js.length = 0 := by
          rcases Nat.eq_zero_or_pos (i - q.js.length) with h | h
          · exact h
          · rw [List.getElem?_eq_none (by simp; omega)] at hx'; cases hx'
        rw [hlen, h0] at hv
        rw [h0] at hx'
        simp at hv hx'
        subst hv hx'
        exact JAt.turns (w := w) (G := K) ⟨bn, bx, ba, rfl, J⟩ T2 (fun _ e => .inl (h.sub _ e)) lowK
    gb := .inl h.gb, gm := .inl h.gm, gw := fun j hj => .inl (h.gw j hj), gj := fun j hj => .inr (by simpa [Value.ownBlock] using hj.symm)
    sub := fun _ hi => .inr hi
    klt := fun i hi => hi.elim (fun e => Nat.lt_of_lt_of_le (h.klt i e) T2.size) fun hi => hi.elim (fun e => Nat.lt_of_lt_of_le (h.lt i e) T2.size) fun e => by subst e; exact Nat.lt_of_lt_of_le (own.lt _ rfl).2 k1.size
    far := fun i hi ht => (low i hi).elim (fun e => h.far i e ht) fun e => absurd (tab_lt h.tab ht) (Nat.not_lt.2 e)
    tab := tab_turns h.tab T2 h.far
    ok :=
      { n := h.ok.n
        ms := h.ok.ms
        at_ := h.ok.at_
        js := fun x hx => by
          have hx' : x ∈ q.js ++ [j] := hx
          rcases List.mem_append.1 hx' with hx' | hx'
          · exact h.ok.js x hx'
          · simp at hx'; subst hx'; exact jok
        jl := by show (q.js ++ [j]).length ≤ q.n; rw [List.length_append]; exact hl } }, T2, low⟩
theorem JIn.turns {w w' : World} {G H G' : Nat → Prop} {bn bx ba : Nat} {j : AJ} (h : JIn w G bn bx ba j) (k : Turns H w w') (hH : ∀ i, H i → G i ∨ w.heap.size ≤ i) (hg : ∀ i, G' i → G i ∨ w.heap.size ≤ i) : JIn w' G' bn bx ba j := by
  have l1 := heap_lt h.name
  have l2 := heap_lt h.inst
  have l3 := heap_lt h.pos
  have no : ∀ (K : Nat → Prop), (∀ i, K i → G i ∨ w.heap.size ≤ i) → ∀ i, ¬ G i → i < w.heap.size → ¬ K i := fun K hK i hi hl e => (hK i e).elim hi (fun h => by omega)
  exact ⟨k.heap (no _ hH _ h.gn l1) h.name, k.heap (no _ hH _ h.gx l2) h.inst, k.heap (no _ hH _ h.ga l3) h.pos, no _ hg _ h.gn l1, no _ hg _ h.gx l2, no _ hg _ h.ga l3⟩
/-- The world ahead of a jump's Put. -/
def jW (w : World) (o d : Int) (s : ByteArray) (n : Nat) : World := ((w.alloc (.cells #[.int .u8 o, .int .u8 d, .int .u8 0, .int .u8 0, .bool true, .int .i32 0] 57)).alloc (.cells #[.string s] 9)).alloc (.cells #[.int .i64 n] 3)
theorem jW_in (w : World) (o d : Int) (s : ByteArray) (n : Nat) (hG : ∀ i, G i → i < w.heap.size) : JIn (jW w o d s n) G (w.heap.size + 1) w.heap.size (w.heap.size + 1 + 1) ⟨n, o, d, s⟩ ∧ Below w.heap.size w (jW w o d s n) := by
  have no : ∀ i, w.heap.size ≤ i → ¬ G i := fun i hi e => absurd (hG i e) (Nat.not_lt.2 hi)
  have s1 : (w.alloc (.cells #[.int .u8 o, .int .u8 d, .int .u8 0, .int .u8 0, .bool true, .int .i32 0] 57)).heap.size = w.heap.size + 1 := by simp
  have s2 : ((w.alloc (.cells #[.int .u8 o, .int .u8 d, .int .u8 0, .int .u8 0, .bool true, .int .i32 0] 57)).alloc (.cells #[.string s] 9)).heap.size = w.heap.size + 1 + 1 := by simp
  exact ⟨⟨row_alloc (row_born s1), row_alloc (row_alloc (row_born rfl)), row_born s2, no _ (by omega), no _ (by omega), no _ (by omega)⟩, (((Below.refl _ _).alloc (Nat.le_refl _) _).alloc (by simp) _).alloc (by simp; omega) _⟩
theorem jW_ins (w : World) (o d : Int) (s : ByteArray) (n : Nat) (hG : ∀ i, G i → i < w.heap.size) : Ins ((jW w o d s n).alloc (.cells #[.int .u8 o, .int .u8 d, .int .u8 0, .int .u8 0, .bool true, .int .i32 0] 57)) G (.slice (some ⟨w.heap.size + 1 + 1 + 1, 0, none⟩) 1 1) 1 (fun _ => ⟨o, d, 0, 0, true, 0⟩) := by
  have h := one_ins ⟨o, d, 0, 0, true, 0⟩ (jW w o d s n)
  have e : (jW w o d s n).heap.size = w.heap.size + 1 + 1 + 1 := by simp [jW]
  rw [e] at h
  exact h.mono fun i hi => by have := hG i hi; omega
end
end Go.Proofs.YtgbodbejcffclaaDoor.A7
