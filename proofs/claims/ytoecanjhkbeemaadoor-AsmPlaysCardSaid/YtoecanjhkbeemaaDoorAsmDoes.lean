/- does (layer 7): an act on a list and on the document's. -/
import Derived.Test.YtoecanjhkbeemaaDoorAsmGreat
import Derived.Test.YtoecanjhkbeemaaDoorAsmRefE
import Derived.Test.YtoecanjhkbeemaaDoorAsmTri
namespace Go.Proofs.YtoecanjhkbeemaaDoor.A7
open Go.RowKit Go.Maps
set_option linter.unusedVariables false
/-- The four boxes of does: the document's list, the act, the result, what was told. -/
structure BX (z : Nat) (lv mv lx : Value) (a : Ac) (V : World) : Prop where
  bq : V.heap[z]? = some (.cells #[lv, mv] 30 (0, 0))
  ba : V.heap[z + 1]? = some (.cells #[.int .u8 a.what, lx, .string a.nm, .int .u8 a.c, .int .u32 a.u] 36 (0, 0))
  br : V.heap[z + 2]? = some (.cells #[.slice none 0 0, .slice none 0 0] 30 (0, 0))
  bp : V.heap[z + 3]? = some (.cells #[.slice none 0 0, .slice none 0 0] 30 (0, 0))
theorem BX.turns {z : Nat} {lv mv lx : Value} {a : Ac} {V V' : World} {H : Nat → Prop} (h : BX z lv mv lx a V) (k : Turns H V V') (hz : ∀ i, H i → i < z ∨ z + 4 ≤ i) : BX z lv mv lx a V' :=
  ⟨k.heap (fun e => by have := hz _ e; omega) h.bq, k.heap (fun e => by have := hz _ e; omega) h.ba, k.heap (fun e => by have := hz _ e; omega) h.br, k.heap (fun e => by have := hz _ e; omega) h.bp⟩
theorem BX.bel {z : Nat} {lv mv lx : Value} {a : Ac} {V V' : World} (h : BX z lv mv lx a V) (k : Below V.heap.size V V') : BX z lv mv lx a V' := h.turns (H := fun _ => False) (Turns.of_bel k) (fun _ e => e.elim)
/-- The world in which does begins. -/
def dW (w : World) (lv mv lx : Value) (a : Ac) : World :=
  (((w.alloc (.cells #[lv, mv] 30)).alloc (.cells #[.int .u8 a.what, lx, .string a.nm, .int .u8 a.c, .int .u32 a.u] 36)).alloc (.cells #[.slice none 0 0, .slice none 0 0] 30)).alloc (.cells #[.slice none 0 0, .slice none 0 0] 30)
theorem dW_bel (w : World) (lv mv lx : Value) (a : Ac) : Below w.heap.size w (dW w lv mv lx a) :=
  ((((Below.refl _ _).alloc (Nat.le_refl _) _).alloc (by simp) _).alloc (by simp; omega) _).alloc (by simp; omega) _
theorem dW_size (w : World) (lv mv lx : Value) (a : Ac) : (dW w lv mv lx a).heap.size = w.heap.size + 4 := by simp [dW]
theorem dW_box (w : World) (lv mv lx : Value) (a : Ac) : BX w.heap.size lv mv lx a (dW w lv mv lx a) := by
  unfold dW
  have e1 : ∀ (W : World) (o o' : Obj) (i : Nat), W.heap[i]? = some o → (W.alloc o').heap[i]? = some o := fun W o o' i h => bel_heap ((Below.refl _ _).alloc (Nat.le_refl _) _) h
  refine ⟨e1 _ _ _ _ (e1 _ _ _ _ (e1 _ _ _ _ (heap_alloc_last _ _))), e1 _ _ _ _ (e1 _ _ _ _ ?_), e1 _ _ _ _ ?_, ?_⟩
  · have := heap_alloc_last (w.alloc (.cells #[lv, mv] 30)) (.cells #[.int .u8 a.what, lx, .string a.nm, .int .u8 a.c, .int .u32 a.u] 36)
    simpa using this
  · have := heap_alloc_last ((w.alloc (.cells #[lv, mv] 30)).alloc (.cells #[.int .u8 a.what, lx, .string a.nm, .int .u8 a.c, .int .u32 a.u] 36)) (.cells #[.slice none 0 0, .slice none 0 0] 30)
    simpa using this
  · have := heap_alloc_last (((w.alloc (.cells #[lv, mv] 30)).alloc (.cells #[.int .u8 a.what, lx, .string a.nm, .int .u8 a.c, .int .u32 a.u] 36)).alloc (.cells #[.slice none 0 0, .slice none 0 0] 30)) (.cells #[.slice none 0 0, .slice none 0 0] 30)
    simpa using this
theorem own_sameK {w w' : World} {B : Nat} {t : TypeId} {s : Value} {n size : Nat} {xs : List Value} (h : w.ownsRow B t size s n xs) (k : ∀ j, s.ownBlock = some j → w'.heap[j]? = w.heap[j]?) : w'.ownsRow B t size s n xs := by
  obtain ⟨h0, h | ⟨g, cap, cur, rfl, hB, hg, h1, h2, h3, h4⟩⟩ := h
  · exact ⟨h0, .inl h⟩
  · exact ⟨h0, .inr ⟨g, cap, cur, rfl, hB, (k g rfl).trans hg, h1, h2, h3, h4⟩⟩
theorem RL.turns {w w' : World} {lv mv : Value} {l : List It} {ms : List (ByteArray × Nat)} {H : Nat → Prop} (h : RL w lv mv l ms) (k : Turns H w w') (hH : ∀ i, lv.ownBlock = some i ∨ mv.ownBlock = some i → ¬ H i) : RL w' lv mv l ms :=
  ⟨own_sameK h.row fun j hj => k.block j (h.row.lt j hj).2 (hH j (.inl hj)), own_sameK h.marks fun j hj => k.block j (h.marks.lt j hj).2 (hH j (.inr hj)), h.ln, h.mn⟩
theorem Ins.turns {w w' : World} {H H' : Nat → Prop} {v : Value} {k : Nat} {X : Nat → XI} (h : Ins w H v k X) (t : Turns H' w w') (hH : ∀ i, H' i → H i) : Ins w' H v k X := by
  obtain ⟨p, c, rfl, h⟩ := h
  exact ⟨p, c, rfl, fun hk => by
    obtain ⟨b, o, rfl, hb, hc⟩ := h hk
    have hb' : ¬ H' b := fun e => hb (hH b e)
    exact ⟨b, o, rfl, hb, fun i hi => by obtain ⟨a0, a1, a2, a3, a4, a5⟩ := hc i hi; exact ⟨t.cell hb' a0, t.cell hb' a1, t.cell hb' a2, t.cell hb' a3, t.cell hb' a4, t.cell hb' a5⟩⟩⟩
/-- The boxes that does writes. -/
def EB (z : Nat) (i : Nat) : Prop := i = z + 1 + 1 ∨ i = z + 1 + 1 + 1
theorem turn1 {H : Nat → Prop} (w : World) (b o : Nat) (u : Value) (hb : H b) : Turns H w (w.setCell ⟨b, o, none⟩ u) := Turns.of_only (only_cell ⟨rfl, rfl, rfl, Nat.le_refl _, fun _ _ _ => rfl⟩ o u) hb
theorem turnE (z : Nat) (V : World) (u0 u1 u2 u3 : Value) : Turns (EB z) V ((((V.setCell ⟨z + 1 + 1 + 1, 0, none⟩ u0).setCell ⟨z + 1 + 1 + 1, 1, none⟩ u1).setCell ⟨z + 1 + 1, 0, none⟩ u2).setCell ⟨z + 1 + 1, 1, none⟩ u3) :=
  (((turn1 V _ 0 u0 (.inr rfl)).trans (turn1 _ _ 1 u1 (.inr rfl)) (fun _ e => .inl e)).trans (turn1 _ _ 0 u2 (.inl rfl)) (fun _ e => .inl e)).trans (turn1 _ _ 1 u3 (.inl rfl)) (fun _ e => .inl e)
theorem does_start {w U : World} {b : Nat} {G K : Nat → Prop} {q : AS} (A : AsmB w b G K q) (g : Below w.heap.size w U) (hz : U.heap.size = w.heap.size + 4) : AsmB U b G (fun i => K i ∨ EB w.heap.size i) q :=
  A.besideNew g (fun i hi => by unfold EB at hi; omega) (fun i hi => by unfold EB at hi; omega)
theorem does_end {w U V V2 W : World} {b : Nat} {G G' K : Nat → Prop} {q q' : AS} {lv mv lv' mv' : Value} {l l' : List It} {ms ms' : List (ByteArray × Nat)} (A : AsmB w b G K q) (g0 : Below w.heap.size w U) (hz : U.heap.size = w.heap.size + 4)
    (T : Turns G U V) (low : ∀ i, G' i → G i ∨ U.heap.size ≤ i) (A' : AsmB V b G' (fun i => (K i ∨ EB w.heap.size i) ∨ G' i) q') (g2 : Below V.heap.size V V2) (R : RL w lv mv l ms) (far : ∀ i, lv.ownBlock = some i ∨ mv.ownBlock = some i → ¬ K i) (R2 : RL V2 lv' mv' l' ms')
    (own : ∀ i, lv'.ownBlock = some i ∨ mv'.ownBlock = some i → (lv.ownBlock = some i ∨ mv.ownBlock = some i) ∨ V.heap.size ≤ i) (E : Turns (EB w.heap.size) V2 W) :
    AsmB W b G' (fun i => K i ∨ G' i) q' ∧ Turns G w W ∧ (∀ i, G' i → G i ∨ w.heap.size ≤ i) ∧ RL W lv' mv' l' ms' ∧ (∀ i, lv'.ownBlock = some i ∨ mv'.ownBlock = some i → ¬ (K i ∨ G' i)) := by
  have hU := T.size
  have hold : ∀ i, lv.ownBlock = some i ∨ mv.ownBlock = some i → i < w.heap.size := fun i hi => hi.elim (fun e => (R.row.lt i e).2) fun e => (R.marks.lt i e).2
  have hne : ∀ i, lv'.ownBlock = some i ∨ mv'.ownBlock = some i → ¬ EB w.heap.size i := fun i hi e => by
    unfold EB at e
    rcases own i hi with h | h
    · have := hold i h; omega
    · omega
  have hG' : ∀ i, G' i → ¬ EB w.heap.size i := fun i hi e => by
    unfold EB at e
    rcases low i hi with h | h
    · have := A.lt i h; omega
    · omega
  refine ⟨?_, ?_, fun i hi => (low i hi).imp id fun h => by omega, R2.turns E hne, fun i hi hk => ?_⟩
  · have h1 := (A'.bel g2).beside (H' := fun _ => False) E hG' (fun i e => .inl (.inr e)) (fun i e ht => by have := tab_lt A.tab ht; unfold EB at e; omega) (fun _ e => e.elim) (fun _ e => e.elim)
    obtain ⟨mp, wv, jv, vs, h1⟩ := h1
    exact (h1.narrow (fun i e => .inr e) (fun i e => e.elim (fun e => .inl (.inl (.inl e))) fun e => .inl (.inr e))).toB
  · have t1 : Turns G w V := (Turns.of_bel (G := G) g0).trans T (fun _ e => .inl e)
    have t2 : Turns G w V2 := t1.trans (G' := fun _ => False) (Turns.of_bel g2) (fun _ e => e.elim)
    exact t2.trans E (fun i e => .inr (by unfold EB at e; omega))
  · rcases own i hi with h | h
    · rcases hk with hk | hk
      · exact far i h hk
      · rcases low i hk with h' | h'
        · exact far i h (A.sub i h')
        · have := hold i h; omega
    · rcases hk with hk | hk
      · have := A.klt i hk; omega
      · have := A'.lt i hk; omega
set_option maxHeartbeats 4000000 in
set_option maxRecDepth 10000 in
theorem does_0 {w : World} {b : Nat} {G K : Nat → Prop} {q : AS} {lv mv lx : Value} {l : List It} {ms : List (ByteArray × Nat)} (a : Ac) (A : AsmB w b G K q) (R : RL w lv mv l ms) (hr : Like q l ms) (far : ∀ i, lv.ownBlock = some i ∨ mv.ownBlock = some i → ¬ K i) (hb : AcB a) (hi : Ins w K lx a.k a.X) (hn : l.length + a.k + 62 ≤ 100000) (hm : ms.length < 100000) (hw : a.what % 5 = 0) :
    Calls Tryd.prog 9 #[.pointer (some ⟨b, 0, none⟩), .agg #[lv, mv], .agg #[.int .u8 a.what, lx, .string a.nm, .int .u8 a.c, .int .u32 a.u]] w fun e w' => ∃ lv' mv' G', e = .returned (.tuple #[.agg #[lv', mv'], .bool true]) ∧ AsmB w' b G' (fun i => K i ∨ G' i) (doA q a) ∧ Turns G w w' ∧ (∀ i, G' i → G i ∨ w.heap.size ≤ i) ∧ RL w' lv' mv' (doL l ms a) (doM l ms a) ∧ (∀ i, lv'.ownBlock = some i ∨ mv'.ownBlock = some i → ¬ (K i ∨ G' i)) := by
  obtain ⟨⟨lp', lc', rfl⟩, mp', mc, rfl⟩ := R.forms
  obtain ⟨ip, ic, rfl, hcs⟩ := hi
  have U0 := Lib.hid (dW_bel w (.slice lp' l.length lc') (.slice mp' ms.length mc) (.slice ip a.k ic) a)
  have UZ := Lib.hid (dW_size w (.slice lp' l.length lc') (.slice mp' ms.length mc) (.slice ip a.k ic) a)
  have UB := Lib.hid (dW_box w (.slice lp' l.length lc') (.slice mp' ms.length mc) (.slice ip a.k ic) a)
  have hwh := hb.what
  have HB := Lib.hid hb
  have AA := Lib.hid A
  have RR := Lib.hid R
  have HR := Lib.hid hr
  have FAR := Lib.hid far
  have HCS := Lib.hid hcs
  clear A R hr far hcs hb
  go_enter Tryd.func9, Tryd.ntmps9
  go_upto_region 2 with (fail)
  change Code.wp _ _ _ _ (dW w (.slice lp' l.length lc') (.slice mp' ms.length mc) (.slice ip a.k ic) a)
  generalize dW w (.slice lp' l.length lc') (.slice mp' ms.length mc) (.slice ip a.k ic) a = U at U0 UZ UB ⊢
  have x0 : U.cell? ⟨w.heap.size + 1, 0, none⟩ = some (.int .u8 a.what) := row_cell UB.out.ba rfl
  have x1 : U.cell? ⟨w.heap.size + 1, 1, none⟩ = some (.slice ip a.k ic) := row_cell UB.out.ba rfl
  have hI : Hid (Ins U K (.slice ip a.k ic) a.k a.X) := Ins.bel ⟨ip, ic, rfl, HCS.out⟩ U0.out |> fun h => h
  have hqn : Hid (q.n + a.k ≤ 100000) := by have := HR.out.n; unfold Hid; omega
  go_wp2_with fail
  refine (Put_any (does_start AA.out U0.out UZ.out) (hI.out.mono (AA.out.sub)) HB.out.x hqn.out).mono ?_
  rintro e V h
  rcases h with ⟨rfl, hmay, G', A', T, low⟩ | ⟨rfl, hbad, G', A', T, low⟩
  · have BV := UB.out.turns T (fun i hi => .inl (AA.out.lt i hi))
    have RV := (RR.out.bel U0.out).turns T (fun i hi hg => FAR.out i hi (AA.out.sub i hg))
    have IV := hI.out.turns T (AA.out.sub)
    have y1 : V.cell? ⟨w.heap.size + 1, 1, none⟩ = some (.slice ip a.k ic) := row_cell BV.ba rfl
    have z0 : V.cell? ⟨w.heap.size, 0, none⟩ = some (.slice lp' l.length lc') := row_cell BV.bq rfl
    have z1 : V.cell? ⟨w.heap.size, 1, none⟩ = some (.slice mp' ms.length mc) := row_cell BV.bq rfl
    have BV := Lib.hid BV
    have RV := Lib.hid RV
    have IV := Lib.hid IV
    have MAY := Lib.hid hmay
    have A' := Lib.hid A'
    have T := Lib.hid T
    have LOW := Lib.hid low
    clear hmay low
    go_wp2_with fail
    refine (refPut_any RV.out (IV.out.mono fun _ e => e.elim) HB.out.x (by omega)).mono ?_
    rintro e V2 h
    rcases h with ⟨lv', rfl, _, R2, new, g2⟩ | ⟨rfl, ⟨i, hi, hf⟩, _⟩
    · have B2 := BV.out.bel g2
      have A2 := A'.out.bel g2
      have p0 : V2.cell? ⟨w.heap.size + 1 + 1 + 1, 0, none⟩ = some (.slice none 0 0) := row_cell B2.bp rfl
      have p1 : V2.cell? ⟨w.heap.size + 1 + 1 + 1, 1, none⟩ = some (.slice none 0 0) := row_cell B2.bp rfl
      have q0 : V2.cell? ⟨w.heap.size + 1 + 1, 0, none⟩ = some (.slice none 0 0) := row_cell B2.br rfl
      have q1 : V2.cell? ⟨w.heap.size + 1 + 1, 1, none⟩ = some (.slice none 0 0) := row_cell B2.br rfl
      have fp0 : V2.frozen? ⟨w.heap.size + 1 + 1 + 1, 0, none⟩ = false := frozen_of_row _ _ _ _ _ B2.bp
      have fp1 : V2.frozen? ⟨w.heap.size + 1 + 1 + 1, 1, none⟩ = false := frozen_of_row _ _ _ _ _ B2.bp
      have fq0 : V2.frozen? ⟨w.heap.size + 1 + 1, 0, none⟩ = false := frozen_of_row _ _ _ _ _ B2.br
      have fq1 : V2.frozen? ⟨w.heap.size + 1 + 1, 1, none⟩ = false := frozen_of_row _ _ _ _ _ B2.br
      obtain ⟨⟨p', c', rfl⟩, _⟩ := R2.forms
      have R2 := Lib.hid R2
      have A2 := Lib.hid A2
      have NEW := Lib.hid new
      have G2 := Lib.hid g2
      have B2 := Lib.hid B2
      clear new g2
      go_wp2_with fail
      have FIN := does_end AA.out U0.out UZ.out T.out LOW.out A'.out G2.out RR.out FAR.out R2.out (fun i hi => hi.elim (fun e => .inr (NEW.out i e)) fun e => .inl (.inr e)) (turnE w.heap.size V2 (.slice p' (l ++ its a.X a.k).length c') (.slice mp' ms.length mc) (.slice p' (l ++ its a.X a.k).length c') (.slice mp' ms.length mc))
      simp only [List.length_append] at FIN
      refine bodyPost_ret (v := .tuple #[.agg #[.slice p' (l.length + (its a.X a.k).length) c', .slice mp' ms.length mc], .bool true]) ?_ rfl ?_
      · simp [results, Tryd.results9, go_sem, q0, q1]
      · have ed : doA q a = q.adds (fun i => (a.X i).word) a.k := by unfold doA; rw [if_pos hw, if_pos (allMay_yes MAY.out)]
        have el : doL l ms a = l ++ its a.X a.k := by unfold doL; rw [if_pos hw, if_pos (allMay_yes MAY.out)]
        have em : doM l ms a = ms := by unfold doM; rw [if_neg (by omega)]
        rw [ed, el, em]
        exact ⟨_, _, G', rfl, FIN⟩
    · rw [MAY.out i hi] at hf; cases hf
  · have BV := UB.out.turns T (fun i hi => .inl (AA.out.lt i hi))
    have RV := (RR.out.bel U0.out).turns T (fun i hi hg => FAR.out i hi (AA.out.sub i hg))
    have IV := hI.out.turns T (AA.out.sub)
    have y1 : V.cell? ⟨w.heap.size + 1, 1, none⟩ = some (.slice ip a.k ic) := row_cell BV.ba rfl
    have z0 : V.cell? ⟨w.heap.size, 0, none⟩ = some (.slice lp' l.length lc') := row_cell BV.bq rfl
    have z1 : V.cell? ⟨w.heap.size, 1, none⟩ = some (.slice mp' ms.length mc) := row_cell BV.bq rfl
    have BV := Lib.hid BV
    have RV := Lib.hid RV
    have IV := Lib.hid IV
    have BAD := Lib.hid hbad
    have A' := Lib.hid A'
    have T := Lib.hid T
    have LOW := Lib.hid low
    clear hbad low
    go_wp2_with fail
    refine (refPut_any RV.out (IV.out.mono fun _ e => e.elim) HB.out.x (by omega)).mono ?_
    rintro e V2 h
    rcases h with ⟨lv', rfl, hmay, _⟩ | ⟨rfl, _, g2⟩
    · obtain ⟨i, hi, hf⟩ := BAD.out; rw [hmay i hi] at hf; cases hf
    · have R2 := RV.out.bel g2
      have B2 := BV.out.bel g2
      have A2 := A'.out.bel g2
      have p0 : V2.cell? ⟨w.heap.size + 1 + 1 + 1, 0, none⟩ = some (.slice none 0 0) := row_cell B2.bp rfl
      have p1 : V2.cell? ⟨w.heap.size + 1 + 1 + 1, 1, none⟩ = some (.slice none 0 0) := row_cell B2.bp rfl
      have q0 : V2.cell? ⟨w.heap.size + 1 + 1, 0, none⟩ = some (.slice none 0 0) := row_cell B2.br rfl
      have q1 : V2.cell? ⟨w.heap.size + 1 + 1, 1, none⟩ = some (.slice none 0 0) := row_cell B2.br rfl
      have fp0 : V2.frozen? ⟨w.heap.size + 1 + 1 + 1, 0, none⟩ = false := frozen_of_row _ _ _ _ _ B2.bp
      have fp1 : V2.frozen? ⟨w.heap.size + 1 + 1 + 1, 1, none⟩ = false := frozen_of_row _ _ _ _ _ B2.bp
      have fq0 : V2.frozen? ⟨w.heap.size + 1 + 1, 0, none⟩ = false := frozen_of_row _ _ _ _ _ B2.br
      have fq1 : V2.frozen? ⟨w.heap.size + 1 + 1, 1, none⟩ = false := frozen_of_row _ _ _ _ _ B2.br
      have R2 := Lib.hid R2
      have A2 := Lib.hid A2
      have G2 := Lib.hid g2
      have B2 := Lib.hid B2
      clear g2
      go_wp2_with fail
      have FIN := does_end AA.out U0.out UZ.out T.out LOW.out A'.out G2.out RR.out FAR.out R2.out (fun i hi => .inl hi) (turnE w.heap.size V2 (.slice lp' l.length lc') (.slice mp' ms.length mc) (.slice lp' l.length lc') (.slice mp' ms.length mc))
      refine bodyPost_ret (v := .tuple #[.agg #[.slice lp' l.length lc', .slice mp' ms.length mc], .bool true]) ?_ rfl ?_
      · simp [results, Tryd.results9, go_sem, q0, q1]
      · have hno : ¬ allMay a.k a.X = true := by obtain ⟨i, hi, hf⟩ := BAD.out; rw [allMay_no hi hf]; decide
        have ed : doA q a = q := by unfold doA; rw [if_pos hw, if_neg hno]
        have el : doL l ms a = l := by unfold doL; rw [if_pos hw, if_neg hno]
        have em : doM l ms a = ms := by unfold doM; rw [if_neg (by omega)]
        rw [ed, el, em]
        exact ⟨_, _, G', rfl, FIN⟩
end Go.Proofs.YtoecanjhkbeemaaDoor.A7
