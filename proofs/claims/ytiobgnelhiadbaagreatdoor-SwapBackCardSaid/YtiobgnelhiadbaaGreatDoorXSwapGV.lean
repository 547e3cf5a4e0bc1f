/- SwapBack (layer 10), walked: a thread that yields, and is chosen again at once. -/
import Derived.Test.YtiobgnelhiadbaaGreatDoorXSwapGH
import Derived.Test.YtiobgnelhiadbaaGreatDoorXSwapGI
import Derived.Test.YtiobgnelhiadbaaGreatDoorXSwapGS
import Derived.Deep.DeepAppendWide
import Derived.Laws.AppendOwnNone
namespace Go.Proofs.YtiobgnelhiadbaaGreatDoor.S10
open Go.RowKit K6
set_option linter.unusedVariables false
theorem slu_under : Tryz.prog.underlying 75 = some (.slice 25) := by kernel_rfl
theorem slu_parts : (Tryz.prog.info? 25).map (fun i => (i.zero, i.size, i.bytes)) = some (some (.slice none 0 0), 1, 24) := by kernel_rfl
section
variable {ops : Array Oper} {o : Oper} {a : Act} {w : World} {K : Act → World → Prop} {Q : Exit → Act → World → Prop}
/-- One value more, and what else has changed. -/
theorem wp_oneG (s x : Operand) (S E : TypeId) (z : Value) (nb : Nat) (hu : Tryz.prog.underlying S = some (.slice E)) (hp : (Tryz.prog.info? E).map (fun i => (i.zero, i.size, i.bytes)) = some (some z, 1, nb)) (hzs : z.cells.size = 1) (hnb : nb ≤ 64)
    (hop : o.op = Op.call { callee := Callee.builtin Builtin.append, args := #[s, x], argTypes := #[S, S] })
    (B : Nat) (v1 : Value) (n : Nat) (xs : List Value) (u : Value) (hu1 : u.oneCell' = true) (hs : a.eval s = v1) (h1 : w.ownsRow B E 1 v1 n xs) (g c : Nat) (hx : a.eval x = .slice (some ⟨g, 0, none⟩) 1 c) (hc : w.heap[g]? = some (.cells #[u] E (0, 0))) (hn : n ≤ 1000) (hB : B ≤ w.heap.size)
    (hK : ∀ g' c' w', w'.ownsRow B E 1 (.slice (some ⟨g', 0, none⟩) (n + 1) c') (n + 1) (xs ++ [u]) → w.grownBy w' v1.ownBlock → K (a.put o.dst (.slice (some ⟨g', 0, none⟩) (n + 1) c')) w') : Oper.wp Tryz.prog o a w K Q := by
  obtain ⟨i0, hi, hz0, hz1, hz2⟩ := info_parts hp
  have hbig : (n + 1 + (n + 1) / 4 + 192) * nb ≤ 281474976710656 := Nat.le_trans (Nat.mul_le_mul (by omega : n + 1 + (n + 1) / 4 + 192 ≤ 2000) hnb) (by decide)
  refine wp_append_own_wide w s x S hop B E i0 _ 1 nb hu hi hz0 hz1 hz2 hzs (by decide) v1 n xs hs h1 ⟨g, 0, none⟩ 1 c [u] hx rfl ?_ (fun v hv => by simp at hv; subst hv; exact hu1) (by unfold maxLen; omega) hbig hB ?_
  · intro j v hj
    rw [add_off, Nat.zero_add, cell_of_row _ _ _ _ _ _ hc]
    simpa using hj
  · intro v' w' ho hgrow _
    obtain ⟨g', c', rfl⟩ : ∃ g' c', v' = .slice (some ⟨g', 0, none⟩) (n + 1) c' := by
      obtain ⟨_, ⟨_, h0⟩ | ⟨g', c', _, rfl, _⟩⟩ := ho
      · omega
      · exact ⟨g', c', rfl⟩
    exact hK g' c' w' ho hgrow
theorem wpList_oneG {rest : List Oper} (hgd : o.guard = none) (s x : Operand) (S E : TypeId) (z : Value) (nb : Nat) (hu : Tryz.prog.underlying S = some (.slice E)) (hp : (Tryz.prog.info? E).map (fun i => (i.zero, i.size, i.bytes)) = some (some z, 1, nb)) (hzs : z.cells.size = 1) (hnb : nb ≤ 64)
    (hop : o.op = Op.call { callee := Callee.builtin Builtin.append, args := #[s, x], argTypes := #[S, S] })
    (B : Nat) (v1 : Value) (n : Nat) (xs : List Value) (u : Value) (hu1 : u.oneCell' = true) (hs : a.eval s = v1) (h1 : w.ownsRow B E 1 v1 n xs) (g c : Nat) (hx : a.eval x = .slice (some ⟨g, 0, none⟩) 1 c) (hc : w.heap[g]? = some (.cells #[u] E (0, 0))) (hn : n ≤ 1000) (hB : B ≤ w.heap.size)
    (h : ∀ g' c' w', w'.ownsRow B E 1 (.slice (some ⟨g', 0, none⟩) (n + 1) c') (n + 1) (xs ++ [u]) → w.grownBy w' v1.ownBlock → wpList Tryz.prog ops Q rest (a.put o.dst (.slice (some ⟨g', 0, none⟩) (n + 1) c')) w') :
    wpList Tryz.prog ops Q (o :: rest) a w :=
  wpList_plain hgd fun K hK => wp_oneG s x S E z nb hu hp hzs hnb hop B v1 n xs u hu1 hs h1 g c hx hc hn hB fun g' c' w' a1 a2 => hK _ _ (h g' c' w' a1 a2)
end
/-- Blocks turn that are none of the machines'. -/
theorem AllM_turn {a w w' : World} {L : List ME} {P : Nat → Prop} (h : AllM a w L) (k : Turns P w w') (hx : ∀ i, P i → a.heap.size ≤ i) (ht : ∀ i, P i → ¬ isTab i) (hn : ∀ (j : Nat) (e : ME), L[j]? = some e → ∀ i, e.G i → ¬ P i) : AllM a w' L :=
  ⟨Turns.bel h.bel k hx, h.tab.turns k ht, fun j e hj => (h.at' j e hj).turns k (fun i hi => hn j e hj i hi) ht, h.low, h.dis⟩
/-- A window, as a slice. -/
def sV (x : Nat) : Value := .slice (some ⟨x, 0, none⟩) 16 16
/-- The words of the window that is j ahead. -/
def rF (s : TC) (j : Nat) (i : Nat) : Int := s.R ((16 * ((s.c + j) % s.nw)).toNat + i)
def rO (s : TC) (j : Nat) : Obj := .cells (F3.wl (rF s j)).toArray 22 (0, 0)
/-- The windows that were looked at so far. -/
structure BK (V1 w2 wr : World) (s : TC) (b : Nat) (G : Nat → Prop) (v : Value) (bs : List Nat) : Prop where
  own : wr.ownsRow w2.heap.size 25 1 v bs.length (bs.map sV)
  all : AllM V1 wr [⟨b, G, mZ s⟩]
  sz : w2.heap.size ≤ wr.heap.size
  rows : ∀ j x, bs[j]? = some x → wr.heap[x]? = some (rO s j) ∧ w2.heap.size ≤ x
section
variable {V1 w2 wr W : World} {s : TC} {b : Nat} {G : Nat → Prop} {v : Value} {bs : List Nat}
theorem BK.more (h : BK V1 w2 wr s b G v bs) (k : Below wr.heap.size wr W) : BK V1 w2 W s b G v bs :=
  ⟨A7.own_same h.own fun j hj => k.block j (h.own.lt j hj).2, h.all.more k, Nat.le_trans h.sz k.size, fun j x hj => ⟨bel_heap k (h.rows j x hj).1, (h.rows j x hj).2⟩⟩
theorem BK.push (h : BK V1 w2 wr s b G v bs) {x : Nat} {v' : Value} (hx : wr.heap[x]? = some (rO s bs.length)) (hx2 : w2.heap.size ≤ x) (lt : ∀ i, G i → i < w2.heap.size) (nt : ∀ i, w2.heap.size ≤ i → ¬ isTab i) (s2 : V1.heap.size ≤ w2.heap.size)
    (k : wr.grownBy W v.ownBlock) (ho : W.ownsRow w2.heap.size 25 1 v' (bs.length + 1) (bs.map sV ++ [sV x])) : BK V1 w2 W s b G v' (bs ++ [x]) := by
  have hT : Turns (fun i => v.ownBlock = some i) wr W := ⟨k.os, k.tape, k.output, k.size, fun i hi hn => k.block i hi (fun e => hn e.symm)⟩
  have hlo : ∀ i, v.ownBlock = some i → w2.heap.size ≤ i := fun i hi => (h.own.lt i hi).1
  have row : ∀ (y : Nat) (o : Array Value), wr.heap[y]? = some (Obj.cells o 22 (0, 0)) → W.heap[y]? = some (Obj.cells o 22 (0, 0)) := fun y o hy => by
    refine hT.heap (fun e => ?_) hy
    obtain ⟨cur, hc⟩ := A7.own_typ h.own e
    rw [hy] at hc
    injection hc with hc
    first | done | (injection hc with _ hc _; exact absurd hc (by decide))
  refine ⟨by rw [List.length_append, List.map_append]; exact ho, AllM_turn h.all hT (fun i hi => Nat.le_trans s2 (hlo i hi)) (fun i hi => nt i (hlo i hi)) (fun j e hj i hi hp => ?_), Nat.le_trans h.sz k.size, fun j y hj => ?_⟩
  · cases j with
    | zero => simp at hj; subst hj; exact absurd (lt i hi) (Nat.not_lt.2 (hlo i hp))
    | succ j => simp at hj
  · rw [List.getElem?_append] at hj
    split at hj
    · exact ⟨row y _ (h.rows j y hj).1, (h.rows j y hj).2⟩
    · rename_i hl
      have hl : bs.length ≤ j := Nat.le_of_not_lt hl
      have e0 : j - bs.length = 0 := by
        have := (List.getElem?_eq_some_iff.1 hj).1
        simp at this
        omega
      rw [e0] at hj
      simp at hj
      subst hj
      obtain rfl : j = bs.length := by omega
      exact ⟨row x _ hx, hx2⟩
/-- What the list's block is. -/
theorem BK.block (h : BK V1 w2 wr s b G v bs) (hp : 0 < bs.length) (lt : ∀ i, G i → i < w2.heap.size) : ∃ (g c : Nat) (cur : Array Value), v = .slice (some ⟨g, 0, none⟩) bs.length c ∧ bs.length ≤ c ∧ Spect wr [⟨b, G, mZ s⟩] g (.cells cur 25 (0, 0)) ∧ ∀ (j x : Nat), bs[j]? = some x → cur[j]? = some (sV x) := by
  obtain ⟨hl, ⟨_, h0⟩ | ⟨g, c, cur, rfl, hB, hg, q1, q2, q3, q4⟩⟩ := h.own
  · omega
  · refine ⟨g, c, cur, rfl, q1, spect_one hg (fun e => absurd (lt g e) (Nat.not_lt.2 hB)), fun j x hj => ?_⟩
    have hjl := (List.getElem?_eq_some_iff.1 hj).1
    have e1 : (bs.map sV)[j]? = some (sV x) := by rw [List.getElem?_map, hj]; rfl
    rw [← q4, List.getElem?_take_of_lt (by omega)] at e1
    simpa using e1
theorem BK.spect (h : BK V1 w2 wr s b G v bs) (lt : ∀ i, G i → i < w2.heap.size) {j x : Nat} (hj : bs[j]? = some x) : Spect wr [⟨b, G, mZ s⟩] x (rO s j) :=
  spect_one (h.rows j x hj).1 (fun e => absurd (lt x e) (Nat.not_lt.2 (h.rows j x hj).2))
end
def faS (s : TC) (k : Nat) : Nat := (2048 + 64 * ((s.c + k) % s.nw)).toNat
theorem Wim_pw {w : World} {b fb mb g x : Nat} {cs os : Value} {G : Nat → Prop} {m : MS} (h : MachP w b fb mb g x cs os G m) {v : Int} (hv : m.wim = v) : Calls Tryz.prog 32 #[.pointer (some ⟨b, 0, none⟩)] w fun e w' => e = .returned (.int .u32 v) ∧ w = w' := by
  rw [← hv]
  exact Wim_get h
/-- A case of one thread. -/
def oneOf (s : TC) : TC := { s with en := false, th := 1, ru := 0, al := fun i => if i = 0 then true else s.al i, lf := 0 }
def oneW (w : World) (x : Nat) : World := ((((w.setCell ⟨x, 19, none⟩ (.bool false)).setCell ⟨x, 5, none⟩ (.int .i64 1)).setCell ⟨x, 6, none⟩ (.int .i64 0)).setCell ⟨x, 7, none⟩ (.bool true)).setCell ⟨x, 4, none⟩ (.slice none 0 0)
theorem oneW_row {w : World} {x : Nat} {s : TC} {vr vf : Value} (h : w.heap[x]? = some (.cells (zrow s vr vf) 54 (0, 0))) : (oneW w x).heap[x]? = some (.cells (zrow (oneOf s) vr (.slice none 0 0)) 54 (0, 0)) := by
  have h1 := heap_setCell_same w x 19 _ _ (.bool false) h
  have h2 := heap_setCell_same _ x 5 _ _ (.int .i64 1) h1
  have h3 := heap_setCell_same _ x 6 _ _ (.int .i64 0) h2
  have h4 := heap_setCell_same _ x 7 _ _ (.bool true) h3
  exact heap_setCell_same _ x 4 _ _ (.slice none 0 0) h4
theorem oneW_bel {a w : World} {x : Nat} (h : Below a.heap.size a w) (hx : a.heap.size ≤ x) : Below a.heap.size a (oneW w x) :=
  ((((h.setCell (p := ⟨x, 19, none⟩) hx _).setCell (p := ⟨x, 5, none⟩) hx _).setCell (p := ⟨x, 6, none⟩) hx _).setCell (p := ⟨x, 7, none⟩) hx _).setCell (p := ⟨x, 4, none⟩) hx _
theorem oneOf_may {s : TC} (h : s.May) : (oneOf s).May := ⟨h.n2, h.n32, h.c0, h.c1, h.i0, h.i1, h.ic, by show (1 : Int) ≤ 1; decide, by show (1 : Int) ≤ 4; decide, by show (0 : Int) ≤ 0; decide, by show (0 : Int) < 1; decide, h.pl, h.fl, h.lr, Nat.zero_le _⟩
theorem window_d {w : World} {b fb mb g x : Nat} {cs os : Value} {G : Nat → Prop} {m : MS} (h : MachP w b fb mb g x cs os G m) (c : Int) (c0 : 0 ≤ c) (c1 : c < m.nw) :
    Calls Tryz.prog 31 #[.pointer (some ⟨fb, 0, none⟩), .int .i64 c] w fun e w' => e = .returned (.tuple #[.slice (some ⟨w.heap.size, 0, none⟩) 16 16, .int .i64 0]) ∧ w'.heap[w.heap.size]? = some (.cells (F3.wl fun i => m.R ((16 * c).toNat + i)).toArray 22 (0, 0)) ∧ Below w.heap.size w w' := by
  refine (F3.window_at fb m.nw c m.R w h.file h.ok.n2 h.ok.n32 c0 c1).mono ?_
  rintro e w' ⟨rfl, gr, hrow⟩
  refine ⟨rfl, ?_, gr⟩
  rw [show (16 * c).toNat = c.toNat * 16 by omega]
  exact hrow
set_option maxRecDepth 100000 in
set_option maxHeartbeats 8000000 in
theorem zback_walk {w : World} (s0 : TC) {vr vf : Value} (hB0 : TCB s0) (hC0 : TCAt w s0 vr vf) (hT : Tabs w) :
    Calls Tryz.prog 5 #[.agg (zrow s0 vr vf)] w fun e w' => e = .returned (.bool true) ∧ Below w.heap.size w w' := by
  obtain ⟨pr, cr, rfl, _⟩ := id hC0.rr
  obtain ⟨pf, cf, rfl, _⟩ := id hC0.rf
  have hX : Hid ((w.alloc (.cells (zrow s0 (.slice pr s0.lr cr) (.slice pf s0.lf cf)) 54)).heap[w.heap.size]? = some (.cells (zrow s0 (.slice pr s0.lr cr) (.slice pf s0.lf cf)) 54 (0, 0))) := heap_alloc_last _ _
  have gX : Hid (Below w.heap.size w (w.alloc (.cells (zrow s0 (.slice pr s0.lr cr) (.slice pf s0.lf cf)) 54))) := bel_alK (Below.refl _ _)
  have HB0 := Lib.hid hB0
  have HC0 := Lib.hid hC0
  have HT := Lib.hid hT
  have HEAD : Hid (∀ W : World, Below w.heap.size w W → Calls Tryz.prog 19 #[] W fun e w' => e = .returned (.bool true) ∧ Below w.heap.size w w') := fun W k => (zhead_at W (HT.out.bel k)).mono fun e w' ⟨h1, h2⟩ => ⟨h1, bel_trans k h2⟩
  clear hB0 hC0 hT
  go_enter Tryz.func5, Tryz.ntmps5
  go_upto_region 1 with (fail)
  change Code.wp _ _ _ _ (w.alloc (.cells (zrow s0 (.slice pr s0.lr cr) (.slice pf s0.lf cf)) 54))
  generalize w.alloc (.cells (zrow s0 (.slice pr s0.lr cr) (.slice pf s0.lf cf)) 54) = V at hX gX ⊢
  go_wp2_with (refine wpList_load_row rfl 54 (.tmp 1) rfl w.heap.size rfl 54 (zrow s0 (.slice pr s0.lr cr) (.slice pf s0.lf cf)) (0, 0) _ hX.out zrow_under rfl (zrow_info _ _ _) ?_)
  refine (may_at s0 (HC0.out.bel gX.out)).mono ?_; rintro e w1 ⟨rfl, g1⟩
  have G1 := Lib.hid (bel_trans gX.out g1)
  have X1 : Hid (w1.heap[w.heap.size]? = some (.cells (zrow s0 (.slice pr s0.lr cr) (.slice pf s0.lf cf)) 54 (0, 0))) := bel_heap g1 hX.out
  clear g1 hX gX
  cases hv : mayZ s0
  · go_wp2_with fail
    refine (HEAD.out w1 G1.out).mono ?_; rintro e w2 ⟨rfl, g2⟩
    go_wp2_with fail
    go_ret
    exact ⟨rfl, g2⟩
  have HM0 := Lib.hid (mayZ_may hv)
  have x19 : w1.cell? ⟨w.heap.size, 19, none⟩ = some (.bool s0.en) := row_cell X1.out rfl
  have x5 : w1.cell? ⟨w.heap.size, 5, none⟩ = some (.int .i64 s0.th) := row_cell X1.out rfl
  have x6 : w1.cell? ⟨w.heap.size, 6, none⟩ = some (.int .i64 s0.ru) := row_cell X1.out rfl
  have x7 : w1.cell? ⟨w.heap.size, 7, none⟩ = some (.bool (s0.al 0)) := row_cell X1.out rfl
  have x4 : w1.cell? ⟨w.heap.size, 4, none⟩ = some (.slice pf s0.lf cf) := row_cell X1.out rfl
  have f19 : w1.frozen? ⟨w.heap.size, 19, none⟩ = false := row_frozen X1.out
  have f5 : w1.frozen? ⟨w.heap.size, 5, none⟩ = false := row_frozen X1.out
  have f6 : w1.frozen? ⟨w.heap.size, 6, none⟩ = false := row_frozen X1.out
  have f7 : w1.frozen? ⟨w.heap.size, 7, none⟩ = false := row_frozen X1.out
  have f4 : w1.frozen? ⟨w.heap.size, 4, none⟩ = false := row_frozen X1.out
  clear hv
  go_upto_region 8 with (fail)
  change Code.wp _ _ _ _ (oneW w1 w.heap.size)
  have XV := Lib.hid (oneW_row X1.out)
  have GV := Lib.hid (oneW_bel G1.out (Nat.le_refl _))
  generalize oneW w1 w.heap.size = V1 at XV GV ⊢
  clear x19 x5 x6 x7 x4 f19 f5 f6 f7 f4 X1 G1
  have HO : Hid (oneOf s0).One := ⟨rfl, rfl, rfl, rfl, rfl⟩
  have HM := Lib.hid (oneOf_may HM0.out)
  have HB : Hid (TCB (oneOf s0)) := ⟨HB0.out.rg, HB0.out.fr, HB0.out.sk, HB0.out.ch, HB0.out.fl, HB0.out.pl, HB0.out.fill⟩
  have HC : Hid (TCAt V1 (oneOf s0) (.slice pr s0.lr cr) (.slice none 0 0)) := ⟨HC0.out.rr.bel GV.out, Sl.nil _ _ _ _ _⟩
  generalize oneOf s0 = s at XV HO HM HB HC
  clear HM0 HB0 HC0
  go_wp2_with (refine wpList_load_row rfl 54 (.tmp 1) rfl w.heap.size rfl 54 (zrow s (.slice pr s0.lr cr) (.slice none 0 0)) (0, 0) _ XV.out zrow_under rfl (zrow_info _ _ _) ?_)
  refine (zmade_at s HM.out HB.out HC.out (HT.out.bel GV.out)).mono ?_; rintro e w2 ⟨b, G, rfl, B2, g2, low2⟩
  have A1 : Hid (AllM V1 w2 [⟨b, G, mZ s⟩]) := (AllM.none (HT.out.bel GV.out)).add g2 B2 low2
  have LT : Hid (∀ i, G i → i < w2.heap.size) := B2.lt
  have S12 : Hid (V1.heap.size ≤ w2.heap.size) := g2.size
  have NT : Hid (∀ i, w2.heap.size ≤ i → ¬ isTab i) := fun i hi ht => by
    have h1 := HT.out.lt ht
    have h2 := GV.out.size
    have h3 := S12.out
    omega
  have RX : Hid (∀ W : World, Below V1.heap.size V1 W → W.cell? ⟨w.heap.size, 0, none⟩ = some (.int .i64 s.nw) ∧ W.cell? ⟨w.heap.size, 1, none⟩ = some (.int .i64 s.c) ∧ W.cell? ⟨w.heap.size, 2, none⟩ = some (.int .i64 s.iv)) := fun W k => ⟨row_cell (bel_heap k XV.out) rfl, row_cell (bel_heap k XV.out) rfl, row_cell (bel_heap k XV.out) rfl⟩
  have K0 : Hid (BK V1 w2 w2 s b G (.slice none 0 0) []) := ⟨World.ownsRow_nil _ _ _ _, A1.out, Nat.le_refl _, fun j x h => by simp at h⟩
  clear B2 g2 low2 XV HC
  have c0 := HM.out.c0
  have c1 := HM.out.c1
  have n2 := HM.out.n2
  have n32 := HM.out.n32
  obtain ⟨d1, d2, d3, d4⟩ := d_is HM.out HB.out
  have D3 := Lib.hid d3
  have D4 := Lib.hid d4
  obtain ⟨d, hd⟩ : ∃ d, d = s.d := ⟨_, rfl⟩
  rw [← hd] at d1 d2 D3 D4
  have HD := Lib.hid hd
  have y1 := (RX.out _ A1.out.bel).2.1
  clear hd d3 d4
  go_wp2_with fail
  go_loopw [4, 5] (fun v i wr => ∃ bs : List Nat, bs.length ≤ d ∧ i = .int .i64 ((s.c + bs.length) % s.nw) ∧ BK V1 w2 wr s b G v bs) (fun v _ _ => d - P4.lenOf v)
  case atStart => exact ⟨[], Nat.zero_le _, by show _ = Value.int .i64 ((s.c + ((0 : Nat) : Int)) % s.nw); rw [wx_zero HM.out], K0.out⟩
  case round =>
    obtain ⟨bs, hk, rfl, K⟩ := hrel
    obtain ⟨pv, cv, rfl⟩ := lenOf_own K.own
    have K := Lib.hid K
    clear K0 y1
    obtain ⟨a0, a1⟩ := wx_in HM.out bs.length
    by_cases hlt : bs.length < d
    · have HL := Lib.hid hlt
      obtain ⟨x, hx⟩ : ∃ x, x = (s.c + bs.length) % s.nw := ⟨_, rfl⟩
      have hb : (x != s.iv) = true := by rw [hx]; simpa using D4.out _ hlt
      rw [← hx] at a0 a1 ⊢
      have HX := Lib.hid hx
      have y2 := (RX.out _ K.out.all.bel).2.2
      clear hx hlt
      go_wp2_with fail
      obtain ⟨fb, mb, gb, xb, cs, os, P⟩ := K.out.all.at' 0 _ rfl
      have P := Lib.hid P
      clear y2
      refine (File_get P.out).mono ?_; rintro e u1 ⟨rfl, rfl⟩
      go_wp2_with fail
      refine (window_d P.out x a0 a1).mono ?_; rintro e u2 ⟨rfl, hrow, gz⟩
      have K2 := Lib.hid (K.out.more (bel_trans gz (bel_alK (o := .cells #[sV wr.heap.size] 25) (Below.refl _ _))))
      have HS : Hid (w2.heap.size ≤ wr.heap.size ∧ wr.heap.size ≤ u2.heap.size ∧ bs.length ≤ 1000) := ⟨K.out.sz, gz.size, by omega⟩
      have HR : Hid ((u2.alloc (.cells #[sV wr.heap.size] 25)).heap[wr.heap.size]? = some (rO s bs.length)) := by
        refine bel_heap (bel_alK (Below.refl _ _)) ?_
        rw [HX.out] at hrow
        exact hrow
      have HS2 : Hid (w2.heap.size ≤ (u2.alloc (.cells #[sV wr.heap.size] 25)).heap.size) := K2.out.sz
      clear hrow gz P K
      go_upto_region 16 with (refine wpList_oneG rfl (.tmp 42) (.tmp 44) 75 25 _ 24 slu_under slu_parts rfl (by decide) rfl w2.heap.size (.slice pv bs.length cv) bs.length (bs.map sV) (sV wr.heap.size) rfl rfl K2.out.own u2.heap.size 1 rfl (heap_alloc_last _ _) HS.out.2.2 HS2.out ?_; rintro g' c' w' ho hgrow)
      have K3 := Lib.hid (K2.out.push HR.out HS.out.1 LT.out NT.out S12.out hgrow ho)
      clear ho hgrow K2 HR
      have y0 := (RX.out _ K3.out.all.bel).1
      have et : Int.tmod (x + 1) s.nw = (x + 1) % s.nw := Int.tmod_eq_emod_of_nonneg (by omega)
      go_wp2_with fail
      go_roundw
      case rel =>
        refine ⟨bs ++ [wr.heap.size], by rw [List.length_append]; exact HL.out, ?_, K3.out⟩
        rw [HX.out, wx_next HM.out, List.length_append]; rfl
      case measure => simp [P4.lenOf]; have := HL.out; omega
    · have hdl : bs.length = d := by omega
      have hb : ((s.c + bs.length) % s.nw != s.iv) = false := by rw [hdl, D3.out]; simp
      obtain ⟨gq, cq, cur, hve, hcq, SQ, hq⟩ := K.out.block (by omega) LT.out
      simp only [Value.slice.injEq, true_and] at hve
      obtain ⟨rfl, rfl⟩ := hve
      have SQ := Lib.hid SQ
      have HQ := Lib.hid hq
      have SPS : Hid (∀ j x, bs[j]? = some x → Spect wr [⟨b, G, mZ s⟩] x (rO s j)) := fun j x hj => K.out.spect LT.out hj
      have A := Lib.hid K.out.all
      have HDL := Lib.hid hdl
      obtain ⟨e, kn, Z, R, hkn⟩ := one_run HM.out HO.out HB.out
      have Z := Lib.hid Z
      have R := Lib.hid R
      have HKN := Lib.hid hkn
      have y2 := (RX.out _ A.out.bel).2.2
      have dlen : (bs.length : Int) ≤ 32 := by omega
      obtain ⟨x, hx⟩ : ∃ x, x = (s.c + bs.length) % s.nw := ⟨_, rfl⟩
      rw [← hx] at hb ⊢
      clear hx hq hkn K a0 a1 hlt hk hdl
      go_wp2_with fail
      clear hb y2
      have y0 := (RX.out _ A.out.bel).1
      have y1 := (RX.out _ A.out.bel).2.1
      have GD : Below wr.heap.size wr wr.drew := Below.drew (Below.refl _ _)
      have DD : wr.drew.cell? ⟨w.heap.size, 0, none⟩ = some (.int .i64 s.nw) ∧ wr.drew.cell? ⟨w.heap.size, 1, none⟩ = some (.int .i64 s.c) := ⟨(RX.out _ (A.out.more GD).bel).1, (RX.out _ (A.out.more GD).bel).2.1⟩
      have w40 : IntKind.i64.wrap (40 * s.nw) = 40 * s.nw := IntWalk.i64_in _ (by omega)
      have w140 : IntKind.i64.wrap (40 * s.nw + 140) = 40 * s.nw + 140 := IntWalk.i64_in _ (by omega)
      have wc1 : IntKind.i64.wrap (s.c + 1) = s.c + 1 := IntWalk.i64_in _ (by omega)
      have nz : ¬ s.nw = 0 := by omega
      obtain ⟨t, ht⟩ : ∃ t : Nat, (s.c + 1) % s.nw = t := ⟨((s.c + 1) % s.nw).toNat, by have := Int.emod_nonneg (s.c + 1) (b := s.nw) (by omega); omega⟩
      have t32 : t < 32 := by have := Int.emod_lt_of_pos (s.c + 1) (b := s.nw) (by omega); omega
      have et : Int.tmod (s.c + 1) s.nw = (t : Int) := by rw [Int.tmod_eq_emod_of_nonneg (by omega)]; exact ht
      have hw : (P4.pw t != IntKind.u32.wrap (2 ^ min (IntKind.u64.wrap (t : Int)).toNat 32)) = false := by
        have e1 : IntKind.u64.wrap (t : Int) = (t : Int) := IntWalk.u64_in _ (by omega)
        have e2 : ((2 : Int) ^ t) = P4.pw t := by unfold P4.pw; rw [Int.natCast_pow]; rfl
        have e3 := P4.pw_in t32
        rw [e1, Int.toNat_natCast, Nat.min_eq_left (by omega), e2, IntWalk.u32_in _ (by omega)]
        simp
      have WIM : Hid (e.wim = P4.pw t) := by unfold Hid; rw [Z.out.wim, show ((s.c + 1) % s.nw).toNat = t by omega]
      have RUN : Hid (∀ W, Below wr.heap.size wr W → Calls Tryz.prog 27 #[.pointer (some ⟨b, 0, none⟩), .int .u32 1540, .int .i64 (40 * s.nw + 140)] W fun x w' => x = .returned (.bool true) ∧ ∃ G', AllM V1 w' [⟨b, G', e⟩] ∧ KeepL W w' [⟨b, G, mZ s⟩] [⟨b, G', e⟩]) := fun W k =>
        runsZ_at (M := (40 * s.nw + 140).toNat) (A.out.more k) (p := 0) rfl R.out (by have := HKN.out; omega) (by omega) (by show (0 : Nat) ≤ 1000; decide) (40 * s.nw + 140) (by omega)
      clear ht y0 y1
      go_cut [70] (fun v wx => v = .bool false ∧ ∃ G4, AllM V1 wx [⟨b, G4, e⟩] ∧ ∀ x o, Spect wr [⟨b, G, mZ s⟩] x o → Spect wx [⟨b, G4, e⟩] x o)
      case first =>
        go_region_held3 (fun W => W.cell? ⟨w.heap.size, 0, none⟩ = some (.int .i64 s.nw) ∧ W.cell? ⟨w.heap.size, 1, none⟩ = some (.int .i64 s.c))
          (first
            | exact DD
            | exact DR)
          (first
            | (go_at_call 27; refine (RUN.out _ ?_).mono ?_; exact GD; rintro x4 w4 ⟨rfl, G4, A4, KP4⟩; have DR : w4.cell? ⟨w.heap.size, 0, none⟩ = some (.int .i64 s.nw) ∧ w4.cell? ⟨w.heap.size, 1, none⟩ = some (.int .i64 s.c) := ⟨(RX.out _ A4.bel).1, (RX.out _ A4.bel).2.1⟩)
            | (go_at_call 32; obtain ⟨_, _, _, _, _, _, PW⟩ := A4.at' 0 _ rfl; refine (Wim_pw PW WIM.out).mono ?_; rintro e5 w5 ⟨rfl, hw5⟩; subst hw5; clear PW))
        all_goals
          go_wp2_with fail
          go_meet
          exact ⟨rfl, G4, A4, fun x o h => KP4 x o (h.more GD)⟩
      case rest =>
      obtain ⟨rfl, G4, A4, KP4⟩ := hcut
      generalize wc = w4 at A4 KP4 ⊢
      have A4 := Lib.hid A4
      have LK : Hid (∀ W, Below w4.heap.size w4 W → ∀ j, j < d → ∃ y, W.cell? ⟨gq, j, none⟩ = some (.slice (some ⟨y, 0, none⟩) 16 16) ∧ Sl .u32 W (.slice (some ⟨y, 0, none⟩) 16 16) 16 (rF s j)) := fun W k j hj => by
        obtain ⟨y, hy⟩ : ∃ y, bs[j]? = some y := ⟨_, List.getElem?_eq_getElem (by have := HDL.out; omega)⟩
        have h1 := (KP4 _ _ SQ.out).1
        have h2 := (KP4 _ _ (SPS.out j y hy)).1
        exact ⟨y, row_cell (bel_heap k h1) (HQ.out j y hy), wl_sl (bel_heap k h2)⟩
      have HDL2 : bs.length = d := HDL.out
      rw [HDL2] at dlen hcq ⊢
      have enw : Hid (e.nw = s.nw) := Z.out.nw
      have efr : Hid (∀ j i, j < d → i < 16 → ldB e.f (faS s j + 4 * i) 4 = rF s j i) := fun j i hj hi => by rw [Z.out.f]; exact one_words HM.out HO.out HB.out (by rw [← HD.out]; exact hj) hi
      have eR : Hid (∀ i, i < 16 → e.R ((16 * s.c).toNat + i) = rF s 0 i) := fun i hi => by
        rw [Z.out.R _ (.inl (by omega)), one_row HM.out HO.out HB.out hi]
        unfold rF; rw [wx_zero HM.out]
      have eS : Hid (e.R (F3.loc e.nw s.c 0 14) = (faS s 0 : Nat)) := by
        have hl := (loc14z (b := 0) HM.out c0 c1).1
        unfold Hid
        rw [enw.out, Z.out.R _ (.inl (by omega)), one_sp HM.out HO.out HB.out]
        unfold faS
        rw [wx_zero HM.out]; omega
      have fok : Hid (∀ j, faS s j % 4 = 0 ∧ faS s j + 64 ≤ 8192) := fun j => by
        have := wx_in HM.out j
        unfold faS
        omega
      have nxt : Hid (∀ j, rF s j 14 = ((faS s (j + 1) : Nat) : Int)) := fun j => by
        have := wx_in HM.out (j + 1)
        unfold rF faS
        rw [R_i6 HM.out HO.out j]
        omega
      have esz : Hid (e.sz = 8192) := Z.out.sz
      have G4' := Lib.hid (bel_trans GV.out A4.out.bel)
      clear KP4 SQ HQ SPS HDL HDL2 Z R HKN RUN WIM A DD hw et wc1 w140 w40 GD t32
      obtain ⟨fb4, mb4, gb4, xb4, cs4, os4, P4⟩ := A4.out.at' 0 _ rfl
      have P4 := Lib.hid P4
      have RY : Hid (∀ W, Below w4.heap.size w4 W → W.cell? ⟨w.heap.size, 1, none⟩ = some (.int .i64 s.c)) := fun W k => (RX.out W (bel_trans A4.out.bel k)).2.1
      have c3 : s.c < e.nw := by rw [enw.out]; exact c1
      have y1 := RY.out _ (Below.refl _ _)
      clear A4 RX
      go_wp2_with fail
      have GD5 : Below w4.heap.size w4 w4.drew := Below.drew (Below.refl _ _)
      have DD5 := RY.out _ GD5
      have CF5 := Lib.hid (fun (W : World) (k : Below w4.heap.size w4 W) => file_bel (P4.out.bel k))
      have CW5 := Lib.hid (fun (W : World) (k : Below w4.heap.size w4 W) => window_c P4.out s.c c0 c3 k)
      clear y1
      go_region_held3 (fun W => W.cell? ⟨w.heap.size, 1, none⟩ = some (.int .i64 s.c))
        (first
          | exact DD5
          | exact DA5
          | exact DB5)
        (first
          | (go_at_call 25; refine (CF5.out _ ?_).mono ?_; exact GD5; rintro e WA5 ⟨rfl, ga⟩; have GA5 := bel_trans GD5 ga; have DA5 := RY.out _ GA5; clear ga)
          | (go_at_call 31; refine (CW5.out _ ?_).mono ?_; exact GA5; rintro e W5 ⟨sb2, rfl, hrow, hng, gz⟩; have GB5 := bel_trans GA5 gz; have DB5 := RY.out _ GB5; clear gz))
      have HROW := Lib.hid hrow
      have P5 := Lib.hid (P4.out.bel GB5)
      have RY5 : Hid (∀ W, Below W5.heap.size W5 W → W.cell? ⟨w.heap.size, 1, none⟩ = some (.int .i64 s.c)) := fun W k => RY.out W (bel_trans GB5 k)
      have GB := Lib.hid GB5
      clear GD5 DD5 CF5 CW5 GA5 DA5 GB5 DB5 hrow hng P4 RY
      have y1 := RY5.out _ (Below.refl _ _)
      go_wp2_with fail
      have GD6 : Below W5.heap.size W5 W5.drew := Below.drew (Below.refl _ _)
      have DD6 := RY5.out _ GD6
      have CF6 := Lib.hid (fun (W : World) (k : Below W5.heap.size W5 W) => file_bel (P5.out.bel k))
      have CW6 := Lib.hid (fun (W : World) (k : Below W5.heap.size W5 W) => get_c (P5.out.bel k) s.c c0 c3 eS.out)
      clear y1
      go_region_held3 (fun W => W.cell? ⟨w.heap.size, 1, none⟩ = some (.int .i64 s.c))
        (first
          | exact DD6
          | exact DA6
          | exact DB6)
        (first
          | (go_at_call 25; refine (CF6.out _ ?_).mono ?_; exact GD6; rintro e WA6 ⟨rfl, ga⟩; have GA6 := bel_trans GD6 ga; have DA6 := RY5.out _ GA6; clear ga)
          | (go_at_call 26; refine (CW6.out _ ?_).mono ?_; exact GA6; rintro e W6 ⟨rfl, gz⟩; have GB6 := bel_trans GA6 gz; have DB6 := RY5.out _ GB6; clear gz))
      have P6 := Lib.hid (P5.out.bel GB6)
      have G46 := Lib.hid (bel_trans GB.out GB6)
      have SL6 : Hid (Sl .u32 W6 (.slice (some ⟨sb2, 0, none⟩) 16 16) 16 fun i => e.R ((16 * s.c).toNat + i)) := wl_sl (bel_heap GB6 HROW.out)
      clear GD6 DD6 CF6 CW6 GA6 DA6 GB6 DB6 HROW P5 RY5 GB
      obtain ⟨yb, z0, SB⟩ := LK.out _ G46.out 0 (by omega)
      have SM := Lib.hid (M5.words_same _ _ 16 _ _ W6 (by decide) SL6.out SB (fun i hi => eR.out i hi))
      have dpos : 0 < d := by omega
      clear SB SL6 eR eS
      go_wp2_with fail
      refine SM.out.mono ?_; rintro e7 W7 ⟨rfl, g7⟩
      have P7 := Lib.hid (P6.out.bel g7)
      have G47 := Lib.hid (bel_trans G46.out g7)
      clear g7 SM z0 P6 G46
      go_wp2_with fail
      go_loopw [10, 12] (fun sp i wr => ∃ k : Nat, k ≤ d ∧ i = .int .i64 k ∧ sp = .int .u32 (faS s k : Nat) ∧ Below W7.heap.size W7 wr) (fun _ i _ => d - (intOf i).toNat)
      case atStart => exact ⟨0, Nat.zero_le _, rfl, rfl, Below.refl _ _⟩
      case round =>
        obtain ⟨k, hk, rfl, rfl, g⟩ := hrel
        have PA := Lib.hid (P7.out.bel g)
        have GA := Lib.hid g
        clear g
        by_cases hlt : k < d
        · have hlt' : (k : Int) < d := by omega
          have HL := Lib.hid hlt
          obtain ⟨f1, f2⟩ := fok.out k
          obtain ⟨fa, hfa⟩ : ∃ fa : Nat, fa = faS s k := ⟨_, rfl⟩
          rw [← hfa] at f1 f2 ⊢
          have HFA := Lib.hid hfa
          clear hfa
          go_wp2_with fail
          refine (Mem_get PA.out).mono ?_; rintro e8 w8 ⟨rfl, rfl⟩
          go_wp2_with fail
          refine (M5.words_yes fa 16 PA.out.mem ?_).mono ?_
          · show spE (e.sz : Int) (fa : Int) ((16 : Nat) : Int) = 0
            rw [esz.out]
            unfold spE
            rw [if_neg (by omega), if_neg (by omega), if_neg (by omega)]
          rintro e9 w9 ⟨sw, rfl, SW, g9⟩
          obtain ⟨pq, cw, rfl, hsw⟩ := id SW
          obtain ⟨gz, oz, rfl, hcz⟩ := hsw (by decide)
          have G9 := Lib.hid g9
          obtain ⟨yb, z0, SB⟩ := LK.out _ (bel_trans G47.out (bel_trans GA.out g9)) k hlt
          have SM := Lib.hid (M5.words_same _ _ 16 _ _ w9 (by decide) SW SB (fun i hi => by show ldB e.f (fa + 4 * i) 4 = _; rw [HFA.out]; exact efr.out k i hlt hi))
          have CZ : Hid (w9.cell? ⟨gz, oz + 14, none⟩ = some (.int .u32 (faS s (k + 1) : Nat))) := by
            have h := hcz 14 (by decide)
            have e1 : M5.wdB e.f fa 14 = ((faS s (k + 1) : Nat) : Int) := by
              show ldB e.f (fa + 4 * 14) 4 = _
              rw [HFA.out, efr.out k 14 hlt (by decide)]
              exact nxt.out k
            rw [e1] at h
            exact h
          clear SW SB hsw hcz g9 f1 f2
          have z1 : w9.cell? ⟨gq, 0 + k, none⟩ = some (.slice (some ⟨yb, 0, none⟩) 16 16) := by rw [Nat.zero_add]; exact z0
          go_wp2_with fail
          refine SM.out.mono ?_; rintro e10 w10 ⟨rfl, g10⟩
          have z2 := bel_cell g10 CZ.out
          have G10 := Lib.hid (bel_trans GA.out (bel_trans G9.out g10))
          clear g10 z0 z1 SM CZ
          go_wp2_with fail
          go_roundw
          case rel => exact ⟨k + 1, HL.out, by go_num, rfl, G10.out⟩
          case measure => simp only [intOf]; have := HL.out; omega
        · obtain rfl : k = d := by omega
          have GE := Lib.hid (bel_trans G4'.out (bel_trans G47.out GA.out))
          clear hlt hk
          go_wp2_with fail
          refine (HEAD.out _ GE.out).mono ?_; rintro e8 w8 ⟨rfl, g8⟩
          go_wp2_with fail
          go_ret
          exact ⟨rfl, g8⟩
end Go.Proofs.YtiobgnelhiadbaaGreatDoor.S10
