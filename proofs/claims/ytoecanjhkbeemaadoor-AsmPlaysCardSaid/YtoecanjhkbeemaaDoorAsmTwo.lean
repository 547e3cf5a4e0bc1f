/- Two lists, each beside a document's list that lies in a box (layer 7): an act on one of them. -/
import Derived.Test.YtoecanjhkbeemaaDoorAsmDoesE
import Derived.Test.YtoecanjhkbeemaaDoorAsmShift
namespace Go.Proofs.YtoecanjhkbeemaaDoor.A7
open Go.RowKit Go.Maps
set_option linter.unusedVariables false
theorem K_or {K : Nat → Prop} : (fun i => K i ∨ False) = K := funext fun i => by simp
structure TwoP (w0 w : World) (z y a b : Nat) (qa qb : AS) (xa ya xb yb la ma lb mb : Value) (lA : List It) (mA : List (ByteArray × Nat)) (lB : List It) (mB : List (ByteArray × Nat)) (Ga Gb K : Nat → Prop) : Prop where
  A : AsmB w a Ga K qa
  B : AsmB w b Gb K qb
  ab : ∀ i, Ga i → ¬ Gb i
  low : ∀ i, K i → w0.heap.size ≤ i
  ra : RL w la ma lA mA
  rb : RL w lb mb lB mB
  fa : ∀ i, la.ownBlock = some i ∨ ma.ownBlock = some i → ¬ K i
  fb : ∀ i, lb.ownBlock = some i ∨ mb.ownBlock = some i → ¬ K i
  za : w.heap[z]? = some (.cells #[xa, ya] 30 (0, 0))
  zb : w.heap[y]? = some (.cells #[xb, yb] 30 (0, 0))
  zy : z ≠ y
  kz : K z
  ky : K y
  gz : ¬ Ga z ∧ ¬ Gb z
  gy : ¬ Ga y ∧ ¬ Gb y
  g : Below w0.heap.size w0 w
  tab : I2.Tab w0
def Two (w0 w : World) (z y a b : Nat) (qa qb : AS) (xa ya xb yb la ma lb mb : Value) (lA : List It) (mA : List (ByteArray × Nat)) (lB : List It) (mB : List (ByteArray × Nat)) : Prop := ∃ Ga Gb K, TwoP w0 w z y a b qa qb xa ya xb yb la ma lb mb lA mA lB mB Ga Gb K
section
variable {w0 w w' : World} {z y a b : Nat} {qa qb : AS} {xa ya xb yb la ma lb mb : Value} {lA lB : List It} {mA mB : List (ByteArray × Nat)}
theorem Two.swap (h : Two w0 w z y a b qa qb xa ya xb yb la ma lb mb lA mA lB mB) : Two w0 w y z b a qb qa xb yb xa ya lb mb la ma lB mB lA mA := by
  obtain ⟨Ga, Gb, K, h⟩ := h
  exact ⟨Gb, Ga, K, h.B, h.A, fun i hb ha => h.ab i ha hb, h.low, h.rb, h.ra, h.fb, h.fa, h.zb, h.za, h.zy.symm, h.ky, h.kz, h.gy.symm, h.gz.symm, h.g, h.tab⟩
theorem Two.bel (h : Two w0 w z y a b qa qb xa ya xb yb la ma lb mb lA mA lB mB) (k : Below w.heap.size w w') : Two w0 w' z y a b qa qb xa ya xb yb la ma lb mb lA mA lB mB := by
  obtain ⟨Ga, Gb, K, h⟩ := h
  exact ⟨Ga, Gb, K, { h with A := h.A.bel k, B := h.B.bel k, ra := h.ra.bel k, rb := h.rb.bel k, za := bel_heap k h.za, zb := bel_heap k h.zb, g := bel_trans h.g k }⟩
theorem Two.below (h : Two w0 w z y a b qa qb xa ya xb yb la ma lb mb lA mA lB mB) : Below w0.heap.size w0 w := by obtain ⟨Ga, Gb, K, h⟩ := h; exact h.g
theorem Two.see (h : Two w0 w z y a b qa qb xa ya xb yb la ma lb mb lA mA lB mB) : ∃ G K, AsmB w a G K qa := by obtain ⟨Ga, Gb, K, h⟩ := h; exact ⟨_, _, h.A⟩
theorem Two.cells (h : Two w0 w z y a b qa qb xa ya xb yb la ma lb mb lA mA lB mB) : w.cell? ⟨z, 0, none⟩ = some xa ∧ w.cell? ⟨z, 1, none⟩ = some ya ∧ w.frozen? ⟨z, 0, none⟩ = false ∧ w.frozen? ⟨z, 1, none⟩ = false := by
  obtain ⟨Ga, Gb, K, h⟩ := h
  exact ⟨row_cell h.za rfl, row_cell h.za rfl, frozen_of_row _ _ _ _ _ h.za, frozen_of_row _ _ _ _ _ h.za⟩
theorem Two.ins (h : Two w0 w z y a b qa qb xa ya xb yb la ma lb mb lA mA lB mB) {v : Value} {k : Nat} {X : Nat → XI} (hi : Ins w0 (fun i => w0.heap.size ≤ i) v k X) : Ins w (fun i => w0.heap.size ≤ i) v k X := hi.bel h.below
theorem Two.forms (h : Two w0 w z y a b qa qb xa ya xb yb la ma lb mb lA mA lB mB) : (∃ p c, la = .slice p lA.length c) ∧ ∃ p c, ma = .slice p mA.length c := by obtain ⟨Ga, Gb, K, h⟩ := h; exact h.ra.forms
/-- An act on the first list. -/
theorem Two.does (h : Two w0 w z y a b qa qb xa ya xb yb la ma lb mb lA mA lB mB) {lx : Value} (c : Ac) (hr : Like qa lA mA) (hb : AcB c) (hi : Ins w (fun i => w0.heap.size ≤ i) lx c.k c.X) (hn : lA.length + c.k + 62 ≤ 100000) (hm : mA.length < 100000) :
    Calls Tryd.prog 9 #[.pointer (some ⟨a, 0, none⟩), .agg #[la, ma], .agg #[.int .u8 c.what, lx, .string c.nm, .int .u8 c.c, .int .u32 c.u]] w fun e w' => ∃ la' ma', e = .returned (.tuple #[.agg #[la', ma'], .bool true]) ∧ Two w0 w' z y a b (doA qa c) qb xa ya xb yb la' ma' lb mb (doL lA mA c) (doM lA mA c) lB mB := by
  obtain ⟨Ga, Gb, K, h⟩ := h
  refine (does_any c h.A h.ra hr h.fa hb (hi.mono h.low) hn hm).mono ?_
  rintro e w' ⟨lv, mv, G', rfl, A', T, lo, R', far⟩
  have no : ∀ i, i < w.heap.size → ¬ Ga i → ¬ G' i := fun i hl hn e => (lo i e).elim hn fun h => absurd hl (Nat.not_lt.2 h)
  have lz := heap_lt h.za
  have ly := heap_lt h.zb
  refine ⟨lv, mv, rfl, G', Gb, fun i => K i ∨ G' i, A', h.B.beside T (fun i hb ha => h.ab i ha hb) h.A.sub h.A.far lo A'.lt, fun i hi hb => no i (h.B.lt i hb) (fun e => h.ab i e hb) hi, ?_, R', h.rb.turns T (fun i hi hg => h.fb i hi (h.A.sub i hg)), far, fun i hi hk => ?_, T.heap h.gz.1 h.za, T.heap h.gy.1 h.zb, h.zy, .inl h.kz, .inl h.ky, ⟨no z lz h.gz.1, h.gz.2⟩, ⟨no y ly h.gy.1, h.gy.2⟩, Turns.bel h.g T (fun i hi => h.low i (h.A.sub i hi)), h.tab⟩
  · rintro i (hk | hg)
    · exact h.low i hk
    · exact (lo i hg).elim (fun e => h.low i (h.A.sub i e)) fun e => Nat.le_trans h.g.size e
  · have hl : i < w.heap.size := hi.elim (fun e => (h.rb.row.lt i e).2) fun e => (h.rb.marks.lt i e).2
    rcases hk with hk | hg
    · exact h.fb i hi hk
    · exact (lo i hg).elim (fun e => h.fb i hi (h.A.sub i e)) fun e => absurd hl (Nat.not_lt.2 e)
/-- What was told is laid into the first box. -/
theorem Two.store (h : Two w0 w z y a b qa qb xa ya xb yb la ma lb mb lA mA lB mB) : Two w0 ((w.setCell ⟨z, 0, none⟩ la).setCell ⟨z, 1, none⟩ ma) z y a b qa qb la ma xb yb la ma lb mb lA mA lB mB := by
  obtain ⟨Ga, Gb, K, h⟩ := h
  have E : Turns (fun i => i = z) w ((w.setCell ⟨z, 0, none⟩ la).setCell ⟨z, 1, none⟩ ma) := (turn1 (H := fun i => i = z) w z 0 la rfl).trans (turn1 (H := fun i => i = z) _ z 1 ma rfl) (fun _ e => .inl e)
  have hz := h.low z h.kz
  have nt : ∀ i, i = z → ¬ isTab i := fun i e ht => by have := tab_lt h.tab ht; omega
  have kk : ∀ i, i = z → K i := fun i e => e ▸ h.kz
  have A1 := h.A.beside (H' := fun _ => False) E (fun i hi e => h.gz.1 (e ▸ hi)) kk nt (fun _ e => e.elim) (fun _ e => e.elim)
  have B1 := h.B.beside (H' := fun _ => False) E (fun i hi e => h.gz.2 (e ▸ hi)) kk nt (fun _ e => e.elim) (fun _ e => e.elim)
  rw [K_or] at A1 B1
  refine ⟨Ga, Gb, K, A1, B1, h.ab, h.low, h.ra.turns E (fun i hi e => h.fa i hi (kk i e)), h.rb.turns E (fun i hi e => h.fb i hi (kk i e)), h.fa, h.fb, ?_, E.heap (fun e => h.zy e.symm) h.zb, h.zy, h.kz, h.ky, h.gz, h.gy, Turns.bel h.g E (fun i e => e ▸ hz), h.tab⟩
  have e1 := heap_setCell_same w z 0 _ _ la h.za
  have e2 := heap_setCell_same _ z 1 _ _ ma e1
  simpa using e2
end
theorem gsum_mono (A : Nat → Ac) : ∀ (i d : Nat), gsum A i ≤ gsum A (i + d)
  | _, 0 => Nat.le_refl _
  | i, d + 1 => by
    have h := gsum_mono A i d
    have e : gsum A (i + (d + 1)) = gsum A (i + d) + (A (i + d)).k + (A (i + d)).nm.size := rfl
    omega
theorem great_no {k : Nat} {A : Nat → Ac} (h : greatB k A = false) : k ≤ 60 ∧ gsum A k ≤ 1000 := by
  have := of_decide_eq_false h
  omega
theorem great_k {k j : Nat} {A : Nat → Ac} (h : greatB k A = false) (hj : j < k) : gsum A j + (A j).k ≤ 1000 := by
  have h1 := gsum_mono A (j + 1) (k - (j + 1))
  rw [show j + 1 + (k - (j + 1)) = k by omega] at h1
  have := (great_no h).2
  simp only [gsum] at h1
  omega
theorem RL.nil (w : World) : RL w (.slice none 0 0) (.slice none 0 0) [] [] := ⟨World.ownsRow_nil _ _ _ _, World.ownsRow_nil _ _ _ _, by simp, by simp⟩
end Go.Proofs.YtoecanjhkbeemaaDoor.A7
