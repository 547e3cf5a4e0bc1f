/- A list, and its copy, each beside a document's list, and the boxes where these lie (layer 7). AsmPlays (layer 7), walked: a list answers, and has words and marks, as the document's, whatever is done; a copy is independent. The law AsmPlays returns true for every input, and its arguments read afterwards as before, in every heap in which the listed package-level table reads as the program's own text lays it (the card ties that); no other condition. -/
import Derived.Test.YtoecanjhkbeemaaDoorAsmDoesE
import Derived.Test.YtoecanjhkbeemaaDoorAsmCopy
import Derived.Test.YtoecanjhkbeemaaDoorAsmTwo
import Derived.Test.YtoecanjhkbeemaaDoorAsmGS
import Derived.Test.YtoecanjhkbeemaaDoorAsmHead
import Derived.Test.YtoecanjhkbeemaaDoorAsmGreat
import Derived.Deep.CutRange
import Derived.Deep.RegionWith
import Derived.Deep.RegionHeld3
import Derived.Test.YtoecanjhkbeemaaDoorAsmOpen
import Derived.Test.YtoecanjhkbeemaaDoorAsmActs
import Derived.Test.YtoecanjhkbeemaaDoorPost
import Derived.Test.YtoecanjhkbeemaaDoorCards
import Derived.Test.YtoecanjhkbeemaaDoorTie
import Derived.SevenTiedAt
namespace Go.Proofs.YtoecanjhkbeemaaDoor.A7
open Go.RowKit Go.Maps
set_option linter.unusedVariables false
structure OneP (w0 w : World) (Z : Nat → Prop) (a : Nat) (q : AS) (la ma : Value) (l : List It) (ms : List (ByteArray × Nat)) (G K : Nat → Prop) : Prop where
  A : AsmB w a G K q
  low : ∀ i, K i → w0.heap.size ≤ i
  ra : RL w la ma l ms
  fa : ∀ i, la.ownBlock = some i ∨ ma.ownBlock = some i → ¬ K i
  kz : ∀ i, Z i → K i
  gz : ∀ i, Z i → ¬ G i
  g : Below w0.heap.size w0 w
  tab : I2.Tab w0
def One (w0 w : World) (Z : Nat → Prop) (a : Nat) (q : AS) (la ma : Value) (l : List It) (ms : List (ByteArray × Nat)) : Prop := ∃ G K, OneP w0 w Z a q la ma l ms G K
structure PairP (w0 w : World) (Z : Nat → Prop) (a b : Nat) (qa qb : AS) (la ma lb mb : Value) (lA : List It) (mA : List (ByteArray × Nat)) (lB : List It) (mB : List (ByteArray × Nat)) (Ga Gb K : Nat → Prop) : Prop where
  A : AsmB w a Ga K qa
  B : AsmB w b Gb K qb
  ab : ∀ i, Ga i → ¬ Gb i
  low : ∀ i, K i → w0.heap.size ≤ i
  ra : RL w la ma lA mA
  rb : RL w lb mb lB mB
  fa : ∀ i, la.ownBlock = some i ∨ ma.ownBlock = some i → ¬ K i
  fb : ∀ i, lb.ownBlock = some i ∨ mb.ownBlock = some i → ¬ K i
  kz : ∀ i, Z i → K i
  ga : ∀ i, Z i → ¬ Ga i
  gb : ∀ i, Z i → ¬ Gb i
  g : Below w0.heap.size w0 w
  tab : I2.Tab w0
def Pair (w0 w : World) (Z : Nat → Prop) (a b : Nat) (qa qb : AS) (la ma lb mb : Value) (lA : List It) (mA : List (ByteArray × Nat)) (lB : List It) (mB : List (ByteArray × Nat)) : Prop := ∃ Ga Gb K, PairP w0 w Z a b qa qb la ma lb mb lA mA lB mB Ga Gb K
section
variable {w0 w w' : World} {Z : Nat → Prop} {a b : Nat} {q qa qb : AS} {la ma lb mb : Value} {l lA lB : List It} {ms mA mB : List (ByteArray × Nat)}
theorem One.bel (h : One w0 w Z a q la ma l ms) (k : Below w.heap.size w w') : One w0 w' Z a q la ma l ms := by
  obtain ⟨G, K, h⟩ := h
  exact ⟨G, K, { h with A := h.A.bel k, ra := h.ra.bel k, g := bel_trans h.g k }⟩
theorem One.below (h : One w0 w Z a q la ma l ms) : Below w0.heap.size w0 w := by obtain ⟨G, K, h⟩ := h; exact h.g
theorem One.forms (h : One w0 w Z a q la ma l ms) : (∃ p c, la = .slice p l.length c) ∧ ∃ p c, ma = .slice p ms.length c := by obtain ⟨G, K, h⟩ := h; exact h.ra.forms
theorem One.z0 (h : One w0 w Z a q la ma l ms) {i : Nat} (hi : Z i) : w0.heap.size ≤ i := by obtain ⟨G, K, h⟩ := h; exact h.low i (h.kz i hi)
theorem Pair.bel (h : Pair w0 w Z a b qa qb la ma lb mb lA mA lB mB) (k : Below w.heap.size w w') : Pair w0 w' Z a b qa qb la ma lb mb lA mA lB mB := by
  obtain ⟨Ga, Gb, K, h⟩ := h
  exact ⟨Ga, Gb, K, { h with A := h.A.bel k, B := h.B.bel k, ra := h.ra.bel k, rb := h.rb.bel k, g := bel_trans h.g k }⟩
theorem Pair.below (h : Pair w0 w Z a b qa qb la ma lb mb lA mA lB mB) : Below w0.heap.size w0 w := by obtain ⟨Ga, Gb, K, h⟩ := h; exact h.g
theorem Pair.formsB (h : Pair w0 w Z a b qa qb la ma lb mb lA mA lB mB) : (∃ p c, lb = .slice p lB.length c) ∧ ∃ p c, mb = .slice p mB.length c := by obtain ⟨Ga, Gb, K, h⟩ := h; exact h.rb.forms
theorem Pair.seeA (h : Pair w0 w Z a b qa qb la ma lb mb lA mA lB mB) : ∃ G K, AsmB w a G K qa ∧ RL w la ma lA mA := by obtain ⟨Ga, Gb, K, h⟩ := h; exact ⟨_, _, h.A, h.ra⟩
theorem Pair.seeB (h : Pair w0 w Z a b qa qb la ma lb mb lA mA lB mB) : ∃ G K, AsmB w b G K qb ∧ RL w lb mb lB mB := by obtain ⟨Ga, Gb, K, h⟩ := h; exact ⟨_, _, h.B, h.rb⟩
/-- A copy. -/
theorem One.copy (h : One w0 w Z a q la ma l ms) : Calls Tryd.prog 8 #[.pointer (some ⟨a, 0, none⟩)] w fun e w' => ∃ c, e = .returned (.pointer (some ⟨c, 0, none⟩)) ∧ Pair w0 w' Z a c q q la ma la ma l ms l ms ∧ Below w.heap.size w w' := by
  obtain ⟨G, K, h⟩ := h
  refine (Copy_at h.A).mono ?_
  rintro e w' ⟨c, G', rfl, C, k, lo⟩
  have hlow : ∀ i, K i ∨ G' i → w0.heap.size ≤ i := fun i hi => hi.elim (h.low i) fun e => Nat.le_trans h.g.size (lo i e)
  have hfa : ∀ i, la.ownBlock = some i ∨ ma.ownBlock = some i → ¬ (K i ∨ G' i) := fun i hi hk => by
    have hl : i < w.heap.size := hi.elim (fun e => (h.ra.row.lt i e).2) fun e => (h.ra.marks.lt i e).2
    exact hk.elim (h.fa i hi) fun e => absurd hl (Nat.not_lt.2 (lo i e))
  refine ⟨c, rfl, ⟨G, G', fun i => K i ∨ G' i, h.A.besideNew k lo C.lt, C, fun i hi e => absurd (h.A.lt i hi) (Nat.not_lt.2 (lo i e)), hlow, h.ra.bel k, h.ra.bel k, hfa, hfa, fun i hi => .inl (h.kz i hi), h.gz, fun i hi e => ?_, bel_trans h.g k, h.tab⟩, k⟩
  have := h.A.klt i (h.kz i hi)
  exact absurd this (Nat.not_lt.2 (lo i e))
/-- An act on the second list. -/
theorem Pair.does (h : Pair w0 w Z a b qa qb la ma lb mb lA mA lB mB) {lx : Value} (c : Ac) (hr : Like qb lB mB) (hb : AcB c) (hi : Ins w (fun i => w0.heap.size ≤ i) lx c.k c.X) (hn : lB.length + c.k + 62 ≤ 100000) (hm : mB.length < 100000) :
    Calls Tryd.prog 9 #[.pointer (some ⟨b, 0, none⟩), .agg #[lb, mb], .agg #[.int .u8 c.what, lx, .string c.nm, .int .u8 c.c, .int .u32 c.u]] w fun e w' => ∃ lb' mb', e = .returned (.tuple #[.agg #[lb', mb'], .bool true]) ∧ Pair w0 w' Z a b qa (doA qb c) la ma lb' mb' lA mA (doL lB mB c) (doM lB mB c) ∧ ∀ i, Z i → w'.heap[i]? = w.heap[i]? := by
  obtain ⟨Ga, Gb, K, h⟩ := h
  refine (does_any c h.B h.rb hr h.fb hb (hi.mono h.low) hn hm).mono ?_
  rintro e w' ⟨lv, mv, G', rfl, B', T, lo, R', far⟩
  have no : ∀ i, i < w.heap.size → ¬ Gb i → ¬ G' i := fun i hl hn e => (lo i e).elim hn fun h => absurd hl (Nat.not_lt.2 h)
  have zl : ∀ i, Z i → i < w.heap.size := fun i hi => h.B.klt i (h.kz i hi)
  refine ⟨lv, mv, rfl, ⟨Ga, G', fun i => K i ∨ G' i, h.A.beside T h.ab h.B.sub h.B.far lo B'.lt, B', fun i ha => no i (h.A.lt i ha) (h.ab i ha), ?_, h.ra.turns T (fun i hi hg => h.fa i hi (h.B.sub i hg)), R', fun i hi hk => ?_, far, fun i hi => .inl (h.kz i hi), h.ga, fun i hi => no i (zl i hi) (h.gb i hi), Turns.bel h.g T (fun i hi => h.low i (h.B.sub i hi)), h.tab⟩, fun i hi => T.block i (zl i hi) (h.gb i hi)⟩
  · rintro i (hk | hg)
    · exact h.low i hk
    · exact (lo i hg).elim (fun e => h.low i (h.B.sub i e)) fun e => Nat.le_trans h.g.size e
  · have hl : i < w.heap.size := hi.elim (fun e => (h.ra.row.lt i e).2) fun e => (h.ra.marks.lt i e).2
    rcases hk with hk | hg
    · exact h.fa i hi hk
    · exact (lo i hg).elim (fun e => h.fa i hi (h.B.sub i e)) fun e => absurd hl (Nat.not_lt.2 e)
/-- A new box. -/
theorem Pair.box (h : Pair w0 w Z a b qa qb la ma lb mb lA mA lB mB) (o : Obj) : Pair w0 (w.alloc o) (fun i => Z i ∨ i = w.heap.size) a b qa qb la ma lb mb lA mA lB mB := by
  obtain ⟨Ga, Gb, K, h⟩ := h
  have k : Below w.heap.size w (w.alloc o) := (Below.refl _ _).alloc (Nat.le_refl _) _
  have l1 : ∀ i, i = w.heap.size → w.heap.size ≤ i := fun i e => by omega
  have l2 : ∀ i, i = w.heap.size → i < (w.alloc o).heap.size := fun i e => by simp; omega
  refine ⟨Ga, Gb, fun i => K i ∨ i = w.heap.size, h.A.besideNew k l1 l2, h.B.besideNew k l1 l2, h.ab, fun i hi => hi.elim (h.low i) fun e => Nat.le_trans h.g.size (l1 i e), h.ra.bel k, h.rb.bel k, fun i hi hk => ?_, fun i hi hk => ?_, fun i hi => hi.imp (h.kz i) id, fun i hi => hi.elim (h.ga i) fun e hg => ?_, fun i hi => hi.elim (h.gb i) fun e hg => ?_, bel_trans h.g k, h.tab⟩
  · have hl : i < w.heap.size := hi.elim (fun e => (h.ra.row.lt i e).2) fun e => (h.ra.marks.lt i e).2
    exact hk.elim (h.fa i hi) fun e => by omega
  · have hl : i < w.heap.size := hi.elim (fun e => (h.rb.row.lt i e).2) fun e => (h.rb.marks.lt i e).2
    exact hk.elim (h.fb i hi) fun e => by omega
  · have := h.A.lt i hg; omega
  · have := h.B.lt i hg; omega
/-- A box is written. -/
theorem Pair.set (h : Pair w0 w Z a b qa qb la ma lb mb lA mA lB mB) {z : Nat} (hz : Z z) (u v : Value) : Pair w0 ((w.setCell ⟨z, 0, none⟩ u).setCell ⟨z, 1, none⟩ v) Z a b qa qb la ma lb mb lA mA lB mB := by
  obtain ⟨Ga, Gb, K, h⟩ := h
  have E : Turns (fun i => i = z) w ((w.setCell ⟨z, 0, none⟩ u).setCell ⟨z, 1, none⟩ v) := (turn1 (H := fun i => i = z) w z 0 u rfl).trans (turn1 (H := fun i => i = z) _ z 1 v rfl) (fun _ e => .inl e)
  have hl := h.low z (h.kz z hz)
  have nt : ∀ i, i = z → ¬ isTab i := fun i e ht => by have := tab_lt h.tab ht; omega
  have kk : ∀ i, i = z → K i := fun i e => e ▸ h.kz z hz
  have A1 := h.A.beside (H' := fun _ => False) E (fun i hi e => h.ga z hz (e ▸ hi)) kk nt (fun _ e => e.elim) (fun _ e => e.elim)
  have B1 := h.B.beside (H' := fun _ => False) E (fun i hi e => h.gb z hz (e ▸ hi)) kk nt (fun _ e => e.elim) (fun _ e => e.elim)
  rw [K_or] at A1 B1
  exact ⟨Ga, Gb, K, { h with A := A1, B := B1, ra := h.ra.turns E (fun i hi e => h.fa i hi (kk i e)), rb := h.rb.turns E (fun i hi e => h.fb i hi (kk i e)), g := Turns.bel h.g E (fun i e => e ▸ hl) }⟩
theorem Pair.second (h : Pair w0 w Z a b qa qb la ma lb mb lA mA lB mB) {Z' : Nat → Prop} (hz : ∀ i, Z' i → Z i) : One w0 w Z' b qb lb mb lB mB := by
  obtain ⟨Ga, Gb, K, h⟩ := h
  exact ⟨Gb, K, h.B, h.low, h.rb, h.fb, fun i hi => h.kz i (hz i hi), fun i hi => h.gb i (hz i hi), h.g, h.tab⟩
end
theorem box_set (w : World) {z : Nat} {x y : Value} (u v : Value) (h : w.heap[z]? = some (.cells #[x, y] 30 (0, 0))) : ((w.setCell ⟨z, 0, none⟩ u).setCell ⟨z, 1, none⟩ v).heap[z]? = some (.cells #[u, v] 30 (0, 0)) := by
  have e1 := heap_setCell_same w z 0 _ _ u h
  have e2 := heap_setCell_same _ z 1 _ _ v e1
  simpa using e2
theorem box_other (w : World) {z y : Nat} (hzy : y ≠ z) (u v : Value) : ((w.setCell ⟨z, 0, none⟩ u).setCell ⟨z, 1, none⟩ v).heap[y]? = w.heap[y]? := by
  rw [heap_setCell_other _ _ _ _ hzy, heap_setCell_other _ _ _ _ hzy]
end Go.Proofs.YtoecanjhkbeemaaDoor.A7
namespace Go.Proofs.YtoecanjhkbeemaaDoor.A7
open Go.RowKit Go.Maps
set_option linter.unusedVariables false
theorem one_start {w0 w : World} {a : Nat} {q : AS} {G K : Nat → Prop} (A : AsmB w a G K q) (low : ∀ i, K i → w0.heap.size ≤ i) (g : Below w0.heap.size w0 w) (tab : I2.Tab w0) (o : Obj) :
    One w0 (w.alloc o) (fun i => i = w.heap.size) a q (.slice none 0 0) (.slice none 0 0) [] [] := by
  have k : Below w.heap.size w (w.alloc o) := (Below.refl _ _).alloc (Nat.le_refl _) _
  exact ⟨G, fun i => K i ∨ i = w.heap.size, A.besideNew k (fun i e => by omega) (fun i e => by simp; omega), fun i hi => hi.elim (low i) fun e => e ▸ g.size, RL.nil _, fun i h => (by rcases h with h | h <;> cases h), fun i e => .inr e, fun i e hg => by have := A.lt i hg; omega, bel_trans g k, tab⟩
set_option maxHeartbeats 8000000 in
set_option maxRecDepth 20000 in
theorem plays_walk {w : World} {v0 : Value} {k : Nat} {A : Nat → Ac} (hA : Acts w (fun i => w.heap.size ≤ i) v0 k A) (bA : ∀ i, i < k → AcB (A i)) (hk : k ≤ 140737488355328) (hT : I2.Tab w) :
    Calls Tryd.prog 3 #[v0] w fun e w' => e = .returned (.bool true) ∧ Below w.heap.size w w' := by
  have GR := great_at hA bA hk
  obtain ⟨p0, c0, rfl, hcs⟩ := hA
  have GR := Lib.hid GR
  have HC := Lib.hid hcs
  have HA := Lib.hid bA
  have HT := Lib.hid hT
  clear hcs bA hT
  go_enter Tryd.func3, Tryd.ntmps3
  go_wp2_with fail
  refine GR.out.mono ?_
  rintro e w1 ⟨rfl, g1⟩
  have T1 := Lib.hid (tab_bel HT.out g1)
  have G1 := Lib.hid g1
  clear g1 GR
  cases hgr : greatB k A
  · go_wp2_with fail
    refine (New_at (K := fun _ => False) w1 T1.out (fun _ e => e.elim)).mono ?_; rintro e w2 ⟨a0, Ga, rfl, A2, g2, low2⟩
    have ON0 := Lib.hid (one_start (w0 := w) A2 (fun i hi => hi.elim (fun e => e.elim) fun e => Nat.le_trans G1.out.size (low2 i e)) (bel_trans G1.out g2) HT.out (.cells #[.slice none 0 0, .slice none 0 0] 30))
    have BZ0 : Hid ((w2.alloc (.cells #[.slice none 0 0, .slice none 0 0] 30)).heap[w2.heap.size]? = some (.cells #[.slice none 0 0, .slice none 0 0] 30 (0, 0))) := heap_alloc_last _ _
    clear A2 g2 low2
    go_upto_region 5 with (fail)
    generalize w2.alloc (.cells #[.slice none 0 0, .slice none 0 0] 30) = V at ON0 BZ0 ⊢
    generalize w2.heap.size = z at ON0 BZ0 ⊢
    go_wp2_with fail
    go_loopw [3, 5] (fun s i wr => ∃ (j a : Nat) (q : AS) (la ma : Value) (l : List It) (ms : List (ByteArray × Nat)), j ≤ k ∧ i = .int .i64 j ∧ s = .pointer (some ⟨a, 0, none⟩) ∧ One w wr (fun i => i = z) a q la ma l ms ∧ wr.heap[z]? = some (.cells #[la, ma] 30 (0, 0)) ∧ Rel q l ms ∧ GL l ∧ l.length ≤ gsum A j + 2 * j ∧ ms.length ≤ j) (fun _ i _ => k - (intOf i).toNat)
    case atStart => exact ⟨0, _, _, _, _, _, _, Nat.zero_le _, rfl, rfl, ON0.out, BZ0.out, Rel.nil, GL.nil, Nat.zero_le _, Nat.le_refl _⟩
    case round =>
      obtain ⟨j, a, q, la, ma, l, ms, hj, rfl, rfl, on, bz, rel, gl, hln, hmn⟩ := hrel
      have GQ := Lib.hid (great_no hgr)
      have ON := Lib.hid on
      have BZ := Lib.hid bz
      have RR := Lib.hid rel
      have GLL := Lib.hid gl
      clear on bz rel gl ON0 BZ0
      by_cases hlt : j < k
      · obtain ⟨bb, o, rfl, hb, hcell⟩ := HC.out (by omega)
        obtain ⟨lx, x0, x1, hx, x2, x3, x4⟩ := hcell j hlt
        obtain ⟨ip, ic, rfl, his⟩ := hx
        have IJ : Hid (Ins w (fun i => w.heap.size ≤ i) (.slice ip (A j).k ic) (A j).k (A j).X) := ⟨ip, ic, rfl, his⟩
        have BJ := Lib.hid (HA.out j hlt)
        have NN : Hid (l.length + (A j).k + 62 ≤ 100000) := by have := great_k hgr hlt; have := GQ.out; unfold Hid; omega
        have MM : Hid (ms.length < 100000) := by have := GQ.out; unfold Hid; omega
        have XC := Lib.hid (And.intro x0 (And.intro x1 (And.intro x2 (And.intro x3 x4))))
        obtain ⟨⟨lp, lc, rfl⟩, mp, mc, rfl⟩ := ON.out.forms
        have HLT := Lib.hid hlt
        have HLN := Lib.hid hln
        have HMN := Lib.hid hmn
        clear his hcell hb hln hmn x0 x1 x2 x3 x4
        go_wp2_with fail
        refine ON.out.copy.mono ?_; rintro e w5 ⟨c, rfl, P5, g5⟩
        have P5 := Lib.hid P5
        have B5 := Lib.hid (bel_heap g5 BZ.out)
        have lz5 : z < w5.heap.size := heap_lt B5.out
        clear g5
        go_upto_region 11 with (fail)
        go_cut [7, 8] from 15 to 58 (fun s7 s8 wx => ∃ (y : Nat) (lc' mc' : Value), s7 = .pointer (some ⟨y, 0, none⟩) ∧ s8 = .bool true ∧ y ≠ z ∧ Pair w wx (fun i => i = z ∨ i = y) a c q (doA q (A j)) (.slice lp l.length lc) (.slice mp ms.length mc) lc' mc' l ms (doL l ms (A j)) (doM l ms (A j)) ∧ wx.heap[z]? = some (.cells #[.slice lp l.length lc, .slice mp ms.length mc] 30 (0, 0)) ∧ wx.heap[y]? = some (.cells #[lc', mc'] 30 (0, 0)))
        case first =>
          have gw := P5.out.below
          have x0 := bel_cell gw XC.out.1
          have x1 := bel_cell gw XC.out.2.1
          have x2 := bel_cell gw XC.out.2.2.1
          have x3 := bel_cell gw XC.out.2.2.2.1
          have x4 := bel_cell gw XC.out.2.2.2.2
          have z0 := row_cell B5.out (j := 0) rfl
          have z1 := row_cell B5.out (j := 1) rfl
          have lb5 : bb < w5.heap.size := block_lt_of_cell (a := ⟨bb, o + j * 5, none⟩) x0
          have Q1 := Lib.hid (P5.out.bel (Below.drew (Below.refl _ _)))
          have Q2 := Lib.hid ((P5.out.box (.cells #[.slice none 0 0, .slice none 0 0] 30)).bel (Below.drew (Below.refl _ _)))
          clear gw
          go_region_with (first
            | (go_at_call 9; refine (Pair.does Q1.out (A j) RR.out.like BJ.out (IJ.out.bel Q1.out.below) NN.out MM.out).mono ?_; rintro e V1 ⟨la', ma', rfl, T1, hz⟩; obtain ⟨⟨p', c', hv⟩, p2, c2, hv2⟩ := T1.formsB; subst hv hv2)
            | (go_at_call 9; refine (Pair.does Q2.out (A j) RR.out.like BJ.out (IJ.out.bel Q2.out.below) NN.out MM.out).mono ?_; rintro e V1 ⟨la', ma', rfl, T1, hz⟩; obtain ⟨⟨p', c', hv⟩, p2, c2, hv2⟩ := T1.formsB; subst hv hv2; have hy := (hz w5.heap.size (.inr rfl)).trans (heap_alloc_last w5 (.cells #[.slice none 0 0, .slice none 0 0] 30)); have cy0 := row_cell hy (j := 0) rfl; have cy1 := row_cell hy (j := 1) rfl; have fy0 : V1.frozen? ⟨w5.heap.size, 0, none⟩ = false := frozen_of_row _ _ _ _ _ hy; have fy1 : V1.frozen? ⟨w5.heap.size, 1, none⟩ = false := frozen_of_row _ _ _ _ _ hy))
          all_goals
            go_wp2_with fail
            go_meet
            first
              | exact ⟨V1.heap.size, _, _, rfl, rfl, (by have := heap_lt ((hz z rfl).trans B5.out); omega), T1.box _, bel_heap (row_bel V1 _ _) ((hz z rfl).trans B5.out), heap_alloc_last _ _⟩
              | exact ⟨w5.heap.size, _, _, rfl, rfl, (by omega), T1.set (.inr rfl) _ _, (box_other V1 (by omega) _ _).trans ((hz z (.inl rfl)).trans (bel_heap (row_bel w5 _ _) B5.out)), box_set V1 _ _ hy⟩
        case rest =>
          obtain ⟨y, lc', mc', rfl, rfl, hyz, P6, z6, y6⟩ := hcut
          have r6 := RR.out.does (A j)
          have gl6 := GLL.out.does ms (A j) BJ.out.x BJ.out.c BJ.out.u
          have HL6 : Hid ((doL l ms (A j)).length ≤ gsum A (j + 1) + 2 * (j + 1) ∧ (doM l ms (A j)).length ≤ j + 1) := ⟨by have := doL_len l ms (A j); have := HLN.out; simp only [gsum]; omega, by have := doM_len l ms (A j); have := HMN.out; omega⟩
          generalize doL l ms (A j) = l6 at *
          generalize doM l ms (A j) = m6 at *
          generalize doA q (A j) = q6' at *
          obtain ⟨⟨p6, c6, hv⟩, q6, d6, hv2⟩ := P6.formsB
          subst hv hv2
          obtain ⟨GA, KA, AA, RA⟩ := P6.seeA
          obtain ⟨GB, KB, BB, RB⟩ := P6.seeB
          have hs : (A j).nm.size ≤ maxLen := Nat.le_trans BJ.out.nm (by unfold maxLen; omega)
          have CS1 : Hid (∀ W : World, Below wc.heap.size wc W → Calls Tryd.prog 10 #[.pointer (some ⟨c, 0, none⟩), .agg #[.slice p6 l6.length c6, .slice q6 m6.length d6], .string (A j).nm] W fun e w' => e = .returned (.bool true) ∧ Below W.heap.size W w') := fun W k => same_at _ hs (BB.bel k) (RB.bel k) r6 gl6
          have CS2 : Hid (∀ W : World, Below wc.heap.size wc W → Calls Tryd.prog 10 #[.pointer (some ⟨a, 0, none⟩), .agg #[.slice lp l.length lc, .slice mp ms.length mc], .string (A j).nm] W fun e w' => e = .returned (.bool true) ∧ Below W.heap.size W w') := fun W k => same_at _ hs (AA.bel k) (RA.bel k) RR.out GLL.out
          have x2 := bel_cell P6.below XC.out.2.2.1
          have z0 := row_cell z6 (j := 0) rfl
          have z1 := row_cell z6 (j := 1) rfl
          have y0 := row_cell y6 (j := 0) rfl
          have y1 := row_cell y6 (j := 1) rfl
          have X2 := Lib.hid x2
          have Z6 := Lib.hid z6
          have Y6 := Lib.hid y6
          have P6 := Lib.hid P6
          clear z6 y6 AA RA BB RB hs P5 B5 lz5
          have HD : Hid (∀ w' : World, Below wc.heap.size wc w' → w'.cell? ⟨y, 0, none⟩ = some (.slice p6 l6.length c6) ∧ w'.cell? ⟨y, 1, none⟩ = some (.slice q6 m6.length d6) ∧ w'.cell? ⟨z, 0, none⟩ = some (.slice lp l.length lc) ∧ w'.cell? ⟨z, 1, none⟩ = some (.slice mp ms.length mc) ∧ w'.cell? ⟨bb, o + j * 5 + 2, none⟩ = some (.string (A j).nm)) := fun w' k => ⟨bel_cell k y0, bel_cell k y1, bel_cell k z0, bel_cell k z1, bel_cell k x2⟩
          have GD : Below wc.heap.size wc wc.drew := Below.drew (Below.refl _ _)
          have DD := HD.out _ GD
          clear x2 z0 z1 y0 y1
          go_upto_region 12 with (fail)
          go_region_held3 (fun w' => w'.cell? ⟨y, 0, none⟩ = some (.slice p6 l6.length c6) ∧ w'.cell? ⟨y, 1, none⟩ = some (.slice q6 m6.length d6) ∧ w'.cell? ⟨z, 0, none⟩ = some (.slice lp l.length lc) ∧ w'.cell? ⟨z, 1, none⟩ = some (.slice mp ms.length mc) ∧ w'.cell? ⟨bb, o + j * 5 + 2, none⟩ = some (.string (A j).nm))
            (first
              | exact DD
              | exact D7
              | exact D8)
            (first
              | (go_at_call_of 10 (Value.pointer (some ⟨c, 0, none⟩)); refine (CS1.out _ ?_).mono ?_; exact GD; rintro e W7 ⟨rfl, g7⟩; have G7 := bel_trans GD g7; have D7 := HD.out _ G7; clear g7)
              | (go_at_call_of 10 (Value.pointer (some ⟨a, 0, none⟩)); refine (CS2.out _ ?_).mono ?_; exact G7; rintro e W8 ⟨rfl, g8⟩; have G8 := bel_trans G7 g8; have D8 := HD.out _ G8; clear g8))
          all_goals
            have fz0 : W8.frozen? ⟨z, 0, none⟩ = false := frozen_of_row _ _ _ _ _ (bel_heap G8 Z6.out)
            have fz1 : W8.frozen? ⟨z, 1, none⟩ = false := frozen_of_row _ _ _ _ _ (bel_heap G8 Z6.out)
            obtain ⟨y0, y1, z0, z1, _⟩ := D8
            have ON9 := Lib.hid (((P6.out.bel G8).set (.inl rfl) (.slice p6 l6.length c6) (.slice q6 m6.length d6)).second (Z' := fun i => i = z) (fun i e => .inl e))
            have BZ9 := Lib.hid (box_set W8 (.slice p6 l6.length c6) (.slice q6 m6.length d6) (bel_heap G8 Z6.out))
            clear G7 G8 GD DD D7 HD CS1 CS2
            go_wp2_with fail
            go_roundw
            case rel => exact ⟨j + 1, _, _, _, _, _, _, HLT.out, by go_num, rfl, ON9.out, BZ9.out, r6, gl6, HL6.out.1, HL6.out.2⟩
            case measure => have h9 := HLT.out; simp only [intOf]; omega
      · obtain rfl : j = k := by omega
        clear hln hmn
        go_wp2_with fail
        refine (head_at wr (tab_bel HT.out ON.out.below)).mono ?_; rintro e w2 ⟨rfl, g2⟩
        have G2 := Lib.hid (bel_trans ON.out.below g2)
        clear g2
        go_wp2_with fail
        go_ret
        exact ⟨rfl, G2.out⟩
  · go_wp2_with fail
    refine (head_at w1 T1.out).mono ?_; rintro e w2 ⟨rfl, g2⟩
    have G2 := Lib.hid g2
    clear g2
    go_wp2_with fail
    go_ret
    exact ⟨rfl, bel_trans G1.out G2.out⟩
end Go.Proofs.YtoecanjhkbeemaaDoor.A7
namespace Go.Proofs.YtoecanjhkbeemaaDoor.asmPlays
open Go.Proofs.YtoecanjhkbeemaaDoor.A7
open Go.ChangeShapes Go.WideShapes Go.ChangeAt Go.WideMaps Go.WideElems Go.RowKit
set_option linter.unusedVariables false
set_option maxRecDepth 100000 in
theorem lifted (os : Os) (started : os.Started) (H : Type) (enc : TypeId × Value → H) :
    ReturnsInHanded {} Tryd.checked os 3 .any (fun w args => (Rows.asmPlaysSpec.pre enc Tryd.prog Tryd.f3 [] false w args ∧ laidMetH Tryd.prog laidTab w) ∧ sizedMet enc Tryd.prog Tryd.f3 (OpenSpec.ofChange Rows.asmPlaysSpec) false w args)
      (Rows.asmPlaysSpec.post enc Tryd.prog Tryd.f3 false true false false) := by
  refine returnsInHanded_of_change_and (C := Tryd.checked) (X := fun w _ => laidMetH Tryd.prog laidTab w) (fun _ _ _ hh h => h.of_heap hh) own started (by kernel_rfl) Tryd.func3
    (ChangeSpec.witness_shaped (enc := enc) (C := Tryd.checked) (os := os) (X := fun w _ => laidMetH Tryd.prog laidTab w) false (World.doorLaid Tryd.prog 191 os) #[.slice none 0 0] 8 rfl (World.shaped_of_RefB (by kernel_rfl) (by kernel_rfl)) (by kernel_rfl) (by kernel_rfl) (by kernel_rfl) (door_met os _)) ?_
  intro W base args ds gs before hval0 hW _ hwt hL _
  have hval : ∀ (j : Nat) t v, Tryd.f3.params[j]? = some t → args[j]? = some v → Value.okWide Tryd.prog W .any base t v := hval0
  have hW' := hW
  obtain ⟨p, q, hA0, hV, rfl, hfz, hnd⟩ := hW
  have hA : DataW.TrodAll enc Tryd.prog W 0 (fun _ => true) true Tryd.f3.params.toList args.toList ds p := hA0
  rw [Tryd.params3] at hA hval
  obtain ⟨v0, vs0, d0, ds0, p0, q0, hargs, rfl, rfl, h0, r0⟩ := trodAll_cons hA
  obtain ⟨rfl, rfl, rfl⟩ := trodAll_nil r0
  obtain rfl : args = #[v0] := by cases args; simp_all
  obtain ⟨rfl, rfl⟩ := trodVars_none hV
  obtain ⟨k0, A0, m0, b0, z0⟩ := open_acts (hval 0 22 v0 rfl rfl) h0 (sized_at hwt (j := 0) (by kernel_rfl) rfl)
  clear hA0 hval0
  have hlt0 : ∀ x ∈ p0, x.block < W.heap.size := fun x hx => hW'.lt x (by simp [hx])
  have hT := of_laid hL
  refine (plays_walk m0 b0 z0 hT).mono fun e W' ⟨he, hg⟩ => ?_
  subst he
  exact ⟨_, rfl, post_kept hg (pa := p0 ++ []) (pv := []) hW' (fun _ _ _ => (trodAll_cons_mk (shut_bool Tryd.underlying4 _) trodAll_mk0)) (fun sp hsp => (trodAll_cons_mk (WideElems.Trod_stays (by kernel_rfl) (by kernel_rfl) (by decide +kernel) h0 (fun x hx => hg.same (hlt0 x hx)) (fun x hx => hsp x (by simp [hx]))) trodAll_mk0)) (fun _ _ => rfl) rfl
    (ok_one (by kernel_rfl) rfl (okWide_bool_mk Tryd.underlying4 _))⟩

theorem row_holds : Rows.AsmPlaysSaid :=
  OpenClaim.holds_of_wide 3 Tryd.f3 rfl rfl rfl rfl rfl rfl rfl ⟨rfl, rfl, rfl, rfl, rfl⟩ rfl rfl rfl rfl rfl (by kernel_rfl) Tryd.func3 (by kernel_rfl)
    (of_decide_eq_true (by kernel_rfl)) (by unfold Func.isWrapper; first | (rw [if_pos (by decide +kernel)]; kernel_rfl) | (rw [if_neg (by decide +kernel)]; exact ⟨rfl, rfl⟩))
    (fun os started H enc _ => lifted os started H enc)

/-- THE STATEMENT: the tied card. -/
theorem proved : Rows.AsmPlaysCardSaid :=
  Claim7.holds_tied_plain_at .later [] [.data] true _ true
    row_holds (fun _ h => by cases h) (by kernel_rfl) (fun _ h => by cases h) asmPlays_row_tie rfl ⟨rfl, rfl⟩ (by kernel_rfl) rfl
    (fun f fn hf hfn => by
      obtain rfl : f = 3 := Option.some.inj ((show Tryd.prog.funcNamed "muntin/muntinlaw07.AsmPlays" = some 3 by kernel_rfl).symm.trans hf) |>.symm
      obtain rfl : fn = Tryd.f3 := (Option.some.inj (Tryd.func3.symm.trans hfn)).symm
      exact ⟨by kernel_rfl, fun j t ht => by
        rw [Tryd.params3] at ht
        have hm : t ∈ [22] := by simpa using Array.mem_of_getElem? ht
        have hall : ([22].all fun u => !Tryd.prog.wantsStandIn u) = true := by kernel_rfl
        exact (show Tryd.prog.wantsStandIn t = false by simpa using List.all_eq_true.1 hall t hm)⟩)
    (by kernel_rfl)
#print axioms proved
end Go.Proofs.YtoecanjhkbeemaaDoor.asmPlays
