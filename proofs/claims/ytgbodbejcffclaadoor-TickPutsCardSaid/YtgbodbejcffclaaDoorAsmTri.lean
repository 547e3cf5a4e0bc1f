/- Package asm as it has landed: several lists at once; two rows of words that are the same. -/
import Derived.Test.YtgbodbejcffclaaDoorAsmWords
namespace Go.Proofs.YtgbodbejcffclaaDoor.A7
open Go.RowKit Go.Maps
set_option linter.unusedVariables false
/-- Three lists, all made since w0; nothing that was there in w0 has turned. -/
def Tri (w0 w : World) (a b c : Nat) (qa qb qc : AS) : Prop := ∃ Ga Gb Gc K : Nat → Prop, AsmB w a Ga K qa ∧ AsmB w b Gb K qb ∧ AsmB w c Gc K qc ∧ (∀ i, Ga i → ¬ Gb i) ∧ (∀ i, Ga i → ¬ Gc i) ∧ (∀ i, Gb i → ¬ Gc i) ∧ (∀ i, (Ga i ∨ Gb i ∨ Gc i) → w0.heap.size ≤ i) ∧ Below w0.heap.size w0 w
section
variable {w0 w w' : World} {a b c : Nat} {qa qb qc q' : AS}
theorem Tri.rot (h : Tri w0 w a b c qa qb qc) : Tri w0 w b c a qb qc qa := by
  obtain ⟨Ga, Gb, Gc, K, A, B, C, ab, ac, bc, low, g⟩ := h
  exact ⟨Gb, Gc, Ga, K, B, C, A, bc, fun i hb ha => ab i ha hb, fun i hc ha => ac i ha hc, fun i hi => low i (by rcases hi with h | h | h <;> simp [h]), g⟩
theorem Tri.bel (h : Tri w0 w a b c qa qb qc) : Below w0.heap.size w0 w := by obtain ⟨Ga, Gb, Gc, K, A, B, C, ab, ac, bc, low, g⟩ := h; exact g
theorem Tri.more (h : Tri w0 w a b c qa qb qc) (k : Below w.heap.size w w') : Tri w0 w' a b c qa qb qc := by
  obtain ⟨Ga, Gb, Gc, K, A, B, C, ab, ac, bc, low, g⟩ := h
  exact ⟨Ga, Gb, Gc, K, A.bel k, B.bel k, C.bel k, ab, ac, bc, low, bel_trans g k⟩
theorem Tri.see (h : Tri w0 w a b c qa qb qc) : ∃ G K, AsmB w a G K qa := by obtain ⟨Ga, Gb, Gc, K, A, _⟩ := h; exact ⟨_, _, A⟩
theorem Tri.left (h : Tri w0 w a b c qa qb qc) {F : Nat} {xs : Array Value} {r : Value} (P : ∀ G K, AsmB w a G K qa → Calls Tryd.prog F xs w fun e w' => e = .returned r ∧ Left w a G K q' w') : Calls Tryd.prog F xs w fun e w' => e = .returned r ∧ Tri w0 w' a b c q' qb qc := by
  obtain ⟨Ga, Gb, Gc, K, A, B, C, ab, ac, bc, low, g⟩ := h
  refine (P Ga K A).mono ?_
  rintro e w' ⟨rfl, G', A', T, lo⟩
  have l1 := A'.lt
  have no : ∀ (H : Nat → Prop), (∀ i, Ga i → ¬ H i) → (∀ i, H i → i < w.heap.size) → ∀ i, G' i → ¬ H i := fun H hH hl i hi e => (lo i hi).elim (fun h => hH i h e) fun h => absurd (hl i e) (Nat.not_lt.2 h)
  refine ⟨rfl, G', Gb, Gc, fun i => K i ∨ G' i, A', B.beside T (fun i hb ha => ab i ha hb) A.sub A.far lo l1, C.beside T (fun i hc ha => ac i ha hc) A.sub A.far lo l1, no Gb ab B.lt, no Gc ac C.lt, bc, fun i hi => ?_, Turns.bel g T (fun i hi => low i (.inl hi))⟩
  rcases hi with h | h
  · exact (lo i h).elim (fun h => low i (.inl h)) fun h => Nat.le_trans g.size h
  · exact low i (.inr h)
theorem Tri.left2 {u : World} (h : Tri w0 u a b c qa qb qc) (k : Below u.heap.size u w) {F : Nat} {xs : Array Value} {r : Value} (P : ∀ G K, AsmB w a G K qa → (∀ i, G i → i < u.heap.size) → Calls Tryd.prog F xs w fun e w' => e = .returned r ∧ Left w a G K q' w') : Calls Tryd.prog F xs w fun e w' => e = .returned r ∧ Tri w0 w' a b c q' qb qc := by
  obtain ⟨Ga, Gb, Gc, K, A, B, C, ab, ac, bc, low, g⟩ := h
  refine (P Ga K (A.bel k) A.lt).mono ?_
  replace A := A.bel k
  replace B := B.bel k
  replace C := C.bel k
  replace g := bel_trans g k
  rintro e w' ⟨rfl, G', A', T, lo⟩
  have l1 := A'.lt
  have no : ∀ (H : Nat → Prop), (∀ i, Ga i → ¬ H i) → (∀ i, H i → i < w.heap.size) → ∀ i, G' i → ¬ H i := fun H hH hl i hi e => (lo i hi).elim (fun h => hH i h e) fun h => absurd (hl i e) (Nat.not_lt.2 h)
  refine ⟨rfl, G', Gb, Gc, fun i => K i ∨ G' i, A', B.beside T (fun i hb ha => ab i ha hb) A.sub A.far lo l1, C.beside T (fun i hc ha => ac i ha hc) A.sub A.far lo l1, no Gb ab B.lt, no Gc ac C.lt, bc, fun i hi => ?_, Turns.bel g T (fun i hi => low i (.inl hi))⟩
  rcases hi with h | h
  · exact (lo i h).elim (fun h => low i (.inl h)) fun h => Nat.le_trans g.size h
  · exact low i (.inr h)
/-- A new list beside others. -/
theorem AsmB.besideNew {Ga K G : Nat → Prop} (h : AsmB w a Ga K qa) (k : Below w.heap.size w w') (low : ∀ i, G i → w.heap.size ≤ i) (lt' : ∀ i, G i → i < w'.heap.size) : AsmB w' a Ga (fun i => K i ∨ G i) qa :=
  h.beside (H := fun _ => False) (Turns.of_bel k) (fun _ _ e => e) (fun _ e => e.elim) (fun _ e => e.elim) (fun i hi => .inr (low i hi)) lt'
set_option maxHeartbeats 1000000 in
theorem Same_yes (s t : Value) (m : Nat) (f g : Nat → Int) (w : World) (hm : m ≤ 4194304) (h1 : Sl .u32 w s m f) (h2 : Sl .u32 w t m g) (he : ∀ i, i < m → f i = g i) :
    Calls Tryd.prog 11 #[s, t] w fun e w' => e = .returned (.bool true) ∧ Below w.heap.size w w' := by
  obtain ⟨p, c, rfl, h1⟩ := h1
  obtain ⟨q, d, rfl, h2⟩ := h2
  have H1 := Lib.hid h1
  have H2 := Lib.hid h2
  have HE := Lib.hid he
  clear h1 h2 he
  go_enter Tryd.func11, Tryd.ntmps11
  go_wp2
  go_loopw [5] (fun i wr => ∃ k : Nat, k ≤ m ∧ i = .int .i64 k ∧ Below w.heap.size w wr) (fun i _ => m - (intOf i).toNat)
  case atStart => exact ⟨0, by omega, rfl, Below.refl _ _⟩
  case round =>
    obtain ⟨k, hk, rfl, hg⟩ := hrel
    by_cases hlt : k < m
    · obtain ⟨a, o, rfl, ha⟩ := H1.out (by omega)
      obtain ⟨b, r, rfl, hb⟩ := H2.out (by omega)
      have ca := bel_cell hg (ha k hlt)
      have cb := bel_cell hg (hb k hlt)
      rw [← HE.out k hlt] at cb
      have hk32 : k < 4194304 := by omega
      clear ha hb H1 H2
      go_wp2
      go_quiet (fail)
      go_wp2
      go_roundw
      case rel => exact ⟨k + 1, by omega, by go_num, bel_drewN hg _⟩
      case measure => simp [intOf]; omega
    · obtain rfl : k = m := by omega
      go_wp2
      go_ret
      exact ⟨rfl, hg⟩
theorem lit_sl (l : List Int) (n : Nat) (hl : l.length = n) (w : World) : Sl .u32 (w.alloc (.cells (l.map (Value.int .u32)).toArray 49)) (.slice (some ⟨w.heap.size, 0, none⟩) n n) n (fun i => l.getD i 0) := by
  have h : (w.alloc (.cells (l.map (Value.int .u32)).toArray 49)).heap[w.heap.size]? = some (.cells (l.map (Value.int .u32)).toArray 49 (0, 0)) := heap_alloc_last _ _
  refine ⟨_, _, rfl, fun _ => ⟨_, 0, rfl, fun i hi => row_cell h ?_⟩⟩
  rw [Nat.zero_add]
  have hi' : i < l.length := by omega
  simp [hi', List.getD]
theorem range_eq {f : Nat → Int} {l : List Int} {n : Nat} (h : (List.range n).map f = l) : ∀ i, i < n → f i = l.getD i 0 := by
  intro i hi
  subst h
  simp [List.getD, hi]
end
end Go.Proofs.YtgbodbejcffclaaDoor.A7
