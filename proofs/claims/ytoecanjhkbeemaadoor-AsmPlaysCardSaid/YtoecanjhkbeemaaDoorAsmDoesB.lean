/- does (layer 7): a mark, a jump, a call. -/
import Derived.Test.YtoecanjhkbeemaaDoorAsmDoes
namespace Go.Proofs.YtoecanjhkbeemaaDoor.A7
open Go.RowKit Go.Maps
set_option linter.unusedVariables false
theorem Mark_left {w : World} {b : Nat} {G K : Nat → Prop} {q : AS} (s : ByteArray) (hs : s.size ≤ maxLen) (h : AsmB w b G K q) (hl : (look q.ms s).isSome = true) : Calls Tryd.prog 17 #[.pointer (some ⟨b, 0, none⟩), .string s] w fun e w' => e = .returned (.int .i64 9) ∧ Left w b G K q w' :=
  (Mark_state s hs h hl).mono fun e w' h' => by obtain ⟨rfl, rfl⟩ := h'; exact ⟨rfl, Left.bel h (Below.refl _ _)⟩
set_option maxHeartbeats 4000000 in
set_option maxRecDepth 10000 in
theorem does_1y {w : World} {b : Nat} {G K : Nat → Prop} {q : AS} {lv mv lx : Value} {l : List It} {ms : List (ByteArray × Nat)} (a : Ac) (A : AsmB w b G K q) (R : RL w lv mv l ms) (hr : Like q l ms) (far : ∀ i, lv.ownBlock = some i ∨ mv.ownBlock = some i → ¬ K i) (hb : AcB a) (hi : Ins w K lx a.k a.X) (hn : l.length + a.k + 62 ≤ 100000) (hm : ms.length < 100000) (hw : a.what % 5 = 1) (hl : look ms a.nm = none) :
    Calls Tryd.prog 9 #[.pointer (some ⟨b, 0, none⟩), .agg #[lv, mv], .agg #[.int .u8 a.what, lx, .string a.nm, .int .u8 a.c, .int .u32 a.u]] w fun e w' => ∃ lv' mv' G', e = .returned (.tuple #[.agg #[lv', mv'], .bool true]) ∧ AsmB w' b G' (fun i => K i ∨ G' i) (doA q a) ∧ Turns G w w' ∧ (∀ i, G' i → G i ∨ w.heap.size ≤ i) ∧ RL w' lv' mv' (doL l ms a) (doM l ms a) ∧ (∀ i, lv'.ownBlock = some i ∨ mv'.ownBlock = some i → ¬ (K i ∨ G' i)) := by
  obtain ⟨⟨lp', lc', rfl⟩, mp', mc, rfl⟩ := R.forms
  obtain ⟨ip, ic, rfl, hcs⟩ := hi
  have U0 := Lib.hid (dW_bel w (.slice lp' l.length lc') (.slice mp' ms.length mc) (.slice ip a.k ic) a)
  have UZ := Lib.hid (dW_size w (.slice lp' l.length lc') (.slice mp' ms.length mc) (.slice ip a.k ic) a)
  have UB := Lib.hid (dW_box w (.slice lp' l.length lc') (.slice mp' ms.length mc) (.slice ip a.k ic) a)
  have hwh := hb.what
  have HB := Lib.hid hb
  have AA := Lib.hid A
  have RR := Lib.hid R
  have HR := Lib.hid hr
  have FAR := Lib.hid far
  have HCS := Lib.hid hcs
  clear A R hr far hcs hb
  go_enter Tryd.func9, Tryd.ntmps9
  go_upto_region 2 with (fail)
  change Code.wp _ _ _ _ (dW w (.slice lp' l.length lc') (.slice mp' ms.length mc) (.slice ip a.k ic) a)
  generalize dW w (.slice lp' l.length lc') (.slice mp' ms.length mc) (.slice ip a.k ic) a = U at U0 UZ UB ⊢
  have x0 : U.cell? ⟨w.heap.size + 1, 0, none⟩ = some (.int .u8 a.what) := row_cell UB.out.ba rfl
  have x2 : U.cell? ⟨w.heap.size + 1, 2, none⟩ = some (.string a.nm) := row_cell UB.out.ba rfl
  have hqn : Hid (q.n + 1 ≤ 100000) := by have := HR.out.n; unfold Hid; omega
  have hqm : Hid (q.ms.length < 100000) := by unfold Hid; rw [HR.out.len]; exact hm
  have hm := Lib.hid hm
  have hw := Lib.hid hw
  have HL := Lib.hid hl
  have hql : Hid (look q.ms a.nm = none) := HR.out.noMark hl
  clear hl
  go_wp2_with fail
  refine (Mark_yes a.nm (Nat.le_trans HB.out.nm (by unfold maxLen; omega)) (does_start AA.out U0.out UZ.out) hqm.out hql.out).mono ?_
  rintro e V ⟨rfl, G', A', T, low⟩
  have BV := UB.out.turns T (fun i hi => .inl (AA.out.lt i hi))
  have RV := (RR.out.bel U0.out).turns T (fun i hi hg => FAR.out i hi (AA.out.sub i hg))
  have y2 : V.cell? ⟨w.heap.size + 1, 2, none⟩ = some (.string a.nm) := row_cell BV.ba rfl
  have z0 : V.cell? ⟨w.heap.size, 0, none⟩ = some (.slice lp' l.length lc') := row_cell BV.bq rfl
  have z1 : V.cell? ⟨w.heap.size, 1, none⟩ = some (.slice mp' ms.length mc) := row_cell BV.bq rfl
  have BV := Lib.hid BV
  have RV := Lib.hid RV
  have A' := Lib.hid A'
  have T := Lib.hid T
  have LOW := Lib.hid low
  clear low
  go_wp2_with fail
  refine (refMark_yes a.nm RV.out ((HR.out.um.first a.nm).trans HL.out) hm.out).mono ?_
  rintro e V2 ⟨mv', rfl, R2, new, g2⟩
  have B2 := BV.out.bel g2
  have p0 : V2.cell? ⟨w.heap.size + 1 + 1 + 1, 0, none⟩ = some (.slice none 0 0) := row_cell B2.bp rfl
  have p1 : V2.cell? ⟨w.heap.size + 1 + 1 + 1, 1, none⟩ = some (.slice none 0 0) := row_cell B2.bp rfl
  have q0 : V2.cell? ⟨w.heap.size + 1 + 1, 0, none⟩ = some (.slice none 0 0) := row_cell B2.br rfl
  have q1 : V2.cell? ⟨w.heap.size + 1 + 1, 1, none⟩ = some (.slice none 0 0) := row_cell B2.br rfl
  have fp0 : V2.frozen? ⟨w.heap.size + 1 + 1 + 1, 0, none⟩ = false := frozen_of_row _ _ _ _ _ B2.bp
  have fp1 : V2.frozen? ⟨w.heap.size + 1 + 1 + 1, 1, none⟩ = false := frozen_of_row _ _ _ _ _ B2.bp
  have fq0 : V2.frozen? ⟨w.heap.size + 1 + 1, 0, none⟩ = false := frozen_of_row _ _ _ _ _ B2.br
  have fq1 : V2.frozen? ⟨w.heap.size + 1 + 1, 1, none⟩ = false := frozen_of_row _ _ _ _ _ B2.br
  obtain ⟨_, p', c', hv⟩ := R2.forms
  generalize (ms ++ [(a.nm, l.length)]).length = nn at hv
  subst hv
  have NEW := Lib.hid new
  clear new
  have R2 := Lib.hid R2
  have G2 := Lib.hid g2
  have B2 := Lib.hid B2
  clear g2
  go_wp2_with fail
  have FIN := does_end AA.out U0.out UZ.out T.out LOW.out A'.out G2.out RR.out FAR.out R2.out (fun i hi => hi.elim (fun e => .inl (.inl e)) fun e => .inr (NEW.out i e)) (turnE w.heap.size V2 (.slice lp' l.length lc') (.slice p' nn c') (.slice lp' l.length lc') (.slice p' nn c'))
  refine bodyPost_ret (v := .tuple #[.agg #[.slice lp' l.length lc', .slice p' nn c'], .bool true]) ?_ rfl ?_
  · simp [results, Tryd.results9, go_sem, q0, q1]
  · have ed : doA q a = q.mark a.nm := by unfold doA; rw [if_neg (by have := hw.out; omega)]; rw [if_pos hw.out, if_neg (by rw [hql.out]; decide)]
    have el : doL l ms a = l := by unfold doL; rw [if_neg (by have := hw.out; omega)]; rw [if_pos hw.out]
    have em : doM l ms a = ms ++ [(a.nm, l.length)] := by unfold doM; rw [if_pos hw.out, if_neg (by rw [HL.out]; decide)]
    rw [ed, el, em]
    exact ⟨_, _, G', rfl, FIN⟩
set_option maxHeartbeats 4000000 in
set_option maxRecDepth 10000 in
theorem does_1n {w : World} {b : Nat} {G K : Nat → Prop} {q : AS} {lv mv lx : Value} {l : List It} {ms : List (ByteArray × Nat)} (a : Ac) (A : AsmB w b G K q) (R : RL w lv mv l ms) (hr : Like q l ms) (far : ∀ i, lv.ownBlock = some i ∨ mv.ownBlock = some i → ¬ K i) (hb : AcB a) (hi : Ins w K lx a.k a.X) (hn : l.length + a.k + 62 ≤ 100000) (hm : ms.length < 100000) (hw : a.what % 5 = 1) {t : Nat} (hl : look ms a.nm = some t) :
    Calls Tryd.prog 9 #[.pointer (some ⟨b, 0, none⟩), .agg #[lv, mv], .agg #[.int .u8 a.what, lx, .string a.nm, .int .u8 a.c, .int .u32 a.u]] w fun e w' => ∃ lv' mv' G', e = .returned (.tuple #[.agg #[lv', mv'], .bool true]) ∧ AsmB w' b G' (fun i => K i ∨ G' i) (doA q a) ∧ Turns G w w' ∧ (∀ i, G' i → G i ∨ w.heap.size ≤ i) ∧ RL w' lv' mv' (doL l ms a) (doM l ms a) ∧ (∀ i, lv'.ownBlock = some i ∨ mv'.ownBlock = some i → ¬ (K i ∨ G' i)) := by
  obtain ⟨⟨lp', lc', rfl⟩, mp', mc, rfl⟩ := R.forms
  obtain ⟨ip, ic, rfl, hcs⟩ := hi
  have U0 := Lib.hid (dW_bel w (.slice lp' l.length lc') (.slice mp' ms.length mc) (.slice ip a.k ic) a)
  have UZ := Lib.hid (dW_size w (.slice lp' l.length lc') (.slice mp' ms.length mc) (.slice ip a.k ic) a)
  have UB := Lib.hid (dW_box w (.slice lp' l.length lc') (.slice mp' ms.length mc) (.slice ip a.k ic) a)
  have hwh := hb.what
  have HB := Lib.hid hb
  have AA := Lib.hid A
  have RR := Lib.hid R
  have HR := Lib.hid hr
  have FAR := Lib.hid far
  have HCS := Lib.hid hcs
  clear A R hr far hcs hb
  go_enter Tryd.func9, Tryd.ntmps9
  go_upto_region 2 with (fail)
  change Code.wp _ _ _ _ (dW w (.slice lp' l.length lc') (.slice mp' ms.length mc) (.slice ip a.k ic) a)
  generalize dW w (.slice lp' l.length lc') (.slice mp' ms.length mc) (.slice ip a.k ic) a = U at U0 UZ UB ⊢
  have x0 : U.cell? ⟨w.heap.size + 1, 0, none⟩ = some (.int .u8 a.what) := row_cell UB.out.ba rfl
  have x2 : U.cell? ⟨w.heap.size + 1, 2, none⟩ = some (.string a.nm) := row_cell UB.out.ba rfl
  have hqn : Hid (q.n + 1 ≤ 100000) := by have := HR.out.n; unfold Hid; omega
  have hqm : Hid (q.ms.length < 100000) := by unfold Hid; rw [HR.out.len]; exact hm
  have hm := Lib.hid hm
  have hw := Lib.hid hw
  have HL := Lib.hid hl
  have hql : Hid ((look q.ms a.nm).isSome = true) := HR.out.hasMark hl
  clear hl
  go_wp2_with fail
  refine (Mark_left a.nm (Nat.le_trans HB.out.nm (by unfold maxLen; omega)) (does_start AA.out U0.out UZ.out) hql.out).mono ?_
  rintro e V ⟨rfl, G', A', T, low⟩
  have BV := UB.out.turns T (fun i hi => .inl (AA.out.lt i hi))
  have RV := (RR.out.bel U0.out).turns T (fun i hi hg => FAR.out i hi (AA.out.sub i hg))
  have y2 : V.cell? ⟨w.heap.size + 1, 2, none⟩ = some (.string a.nm) := row_cell BV.ba rfl
  have z0 : V.cell? ⟨w.heap.size, 0, none⟩ = some (.slice lp' l.length lc') := row_cell BV.bq rfl
  have z1 : V.cell? ⟨w.heap.size, 1, none⟩ = some (.slice mp' ms.length mc) := row_cell BV.bq rfl
  have BV := Lib.hid BV
  have RV := Lib.hid RV
  have A' := Lib.hid A'
  have T := Lib.hid T
  have LOW := Lib.hid low
  clear low
  go_wp2_with fail
  refine (refMark_bad a.nm RV.out ((HR.out.um.first a.nm).trans HL.out)).mono ?_
  rintro e V2 ⟨rfl, g2⟩
  have B2 := BV.out.bel g2
  have p0 : V2.cell? ⟨w.heap.size + 1 + 1 + 1, 0, none⟩ = some (.slice none 0 0) := row_cell B2.bp rfl
  have p1 : V2.cell? ⟨w.heap.size + 1 + 1 + 1, 1, none⟩ = some (.slice none 0 0) := row_cell B2.bp rfl
  have q0 : V2.cell? ⟨w.heap.size + 1 + 1, 0, none⟩ = some (.slice none 0 0) := row_cell B2.br rfl
  have q1 : V2.cell? ⟨w.heap.size + 1 + 1, 1, none⟩ = some (.slice none 0 0) := row_cell B2.br rfl
  have fp0 : V2.frozen? ⟨w.heap.size + 1 + 1 + 1, 0, none⟩ = false := frozen_of_row _ _ _ _ _ B2.bp
  have fp1 : V2.frozen? ⟨w.heap.size + 1 + 1 + 1, 1, none⟩ = false := frozen_of_row _ _ _ _ _ B2.bp
  have fq0 : V2.frozen? ⟨w.heap.size + 1 + 1, 0, none⟩ = false := frozen_of_row _ _ _ _ _ B2.br
  have fq1 : V2.frozen? ⟨w.heap.size + 1 + 1, 1, none⟩ = false := frozen_of_row _ _ _ _ _ B2.br
  have R2 := RV.out.bel g2
  have R2 := Lib.hid R2
  have G2 := Lib.hid g2
  have B2 := Lib.hid B2
  clear g2
  go_wp2_with fail
  have FIN := does_end AA.out U0.out UZ.out T.out LOW.out A'.out G2.out RR.out FAR.out R2.out (fun i hi => .inl hi) (turnE w.heap.size V2 (.slice lp' l.length lc') (.slice mp' ms.length mc) (.slice lp' l.length lc') (.slice mp' ms.length mc))
  refine bodyPost_ret (v := .tuple #[.agg #[.slice lp' l.length lc', .slice mp' ms.length mc], .bool true]) ?_ rfl ?_
  · simp [results, Tryd.results9, go_sem, q0, q1]
  · have ed : doA q a = q := by unfold doA; rw [if_neg (by have := hw.out; omega)]; rw [if_pos hw.out, if_pos hql.out]
    have el : doL l ms a = l := by unfold doL; rw [if_neg (by have := hw.out; omega)]; rw [if_pos hw.out]
    have em : doM l ms a = ms := by unfold doM; rw [if_pos hw.out, if_pos (by rw [HL.out]; rfl)]
    rw [ed, el, em]
    exact ⟨_, _, G', rfl, FIN⟩
set_option maxHeartbeats 4000000 in
set_option maxRecDepth 10000 in
theorem does_2y {w : World} {b : Nat} {G K : Nat → Prop} {q : AS} {lv mv lx : Value} {l : List It} {ms : List (ByteArray × Nat)} (a : Ac) (A : AsmB w b G K q) (R : RL w lv mv l ms) (hr : Like q l ms) (far : ∀ i, lv.ownBlock = some i ∨ mv.ownBlock = some i → ¬ K i) (hb : AcB a) (hi : Ins w K lx a.k a.X) (hn : l.length + a.k + 62 ≤ 100000) (hm : ms.length < 100000) (hw : a.what % 5 = 2) (hc : a.c ≤ 6) :
    Calls Tryd.prog 9 #[.pointer (some ⟨b, 0, none⟩), .agg #[lv, mv], .agg #[.int .u8 a.what, lx, .string a.nm, .int .u8 a.c, .int .u32 a.u]] w fun e w' => ∃ lv' mv' G', e = .returned (.tuple #[.agg #[lv', mv'], .bool true]) ∧ AsmB w' b G' (fun i => K i ∨ G' i) (doA q a) ∧ Turns G w w' ∧ (∀ i, G' i → G i ∨ w.heap.size ≤ i) ∧ RL w' lv' mv' (doL l ms a) (doM l ms a) ∧ (∀ i, lv'.ownBlock = some i ∨ mv'.ownBlock = some i → ¬ (K i ∨ G' i)) := by
  obtain ⟨⟨lp', lc', rfl⟩, mp', mc, rfl⟩ := R.forms
  obtain ⟨ip, ic, rfl, hcs⟩ := hi
  have U0 := Lib.hid (dW_bel w (.slice lp' l.length lc') (.slice mp' ms.length mc) (.slice ip a.k ic) a)
  have UZ := Lib.hid (dW_size w (.slice lp' l.length lc') (.slice mp' ms.length mc) (.slice ip a.k ic) a)
  have UB := Lib.hid (dW_box w (.slice lp' l.length lc') (.slice mp' ms.length mc) (.slice ip a.k ic) a)
  have hwh := hb.what
  have HB := Lib.hid hb
  have AA := Lib.hid A
  have RR := Lib.hid R
  have HR := Lib.hid hr
  have FAR := Lib.hid far
  have HCS := Lib.hid hcs
  clear A R hr far hcs hb
  go_enter Tryd.func9, Tryd.ntmps9
  go_upto_region 2 with (fail)
  change Code.wp _ _ _ _ (dW w (.slice lp' l.length lc') (.slice mp' ms.length mc) (.slice ip a.k ic) a)
  generalize dW w (.slice lp' l.length lc') (.slice mp' ms.length mc) (.slice ip a.k ic) a = U at U0 UZ UB ⊢
  have x0 : U.cell? ⟨w.heap.size + 1, 0, none⟩ = some (.int .u8 a.what) := row_cell UB.out.ba rfl
  have x2 : U.cell? ⟨w.heap.size + 1, 2, none⟩ = some (.string a.nm) := row_cell UB.out.ba rfl
  have x3 : U.cell? ⟨w.heap.size + 1, 3, none⟩ = some (.int .u8 a.c) := row_cell UB.out.ba rfl
  have hqn : Hid (q.n + 1 ≤ 100000) := by have := HR.out.n; unfold Hid; omega
  have hqm : Hid (q.ms.length < 100000) := by unfold Hid; rw [HR.out.len]; exact hm
  have hm := Lib.hid hm
  have hw := Lib.hid hw
  have HC := Lib.hid hc
  clear hc
  go_wp2_with fail
  refine (Jump_yes a.c a.nm (does_start AA.out U0.out UZ.out) ⟨HB.out.c.1, HC.out⟩ (Nat.le_trans HB.out.nm (by unfold maxLen; omega)) hqn.out).mono ?_
  rintro e V ⟨rfl, G', A', T, low⟩
  have BV := UB.out.turns T (fun i hi => .inl (AA.out.lt i hi))
  have RV := (RR.out.bel U0.out).turns T (fun i hi hg => FAR.out i hi (AA.out.sub i hg))
  have y2 : V.cell? ⟨w.heap.size + 1, 2, none⟩ = some (.string a.nm) := row_cell BV.ba rfl
  have y3 : V.cell? ⟨w.heap.size + 1, 3, none⟩ = some (.int .u8 a.c) := row_cell BV.ba rfl
  have z0 : V.cell? ⟨w.heap.size, 0, none⟩ = some (.slice lp' l.length lc') := row_cell BV.bq rfl
  have z1 : V.cell? ⟨w.heap.size, 1, none⟩ = some (.slice mp' ms.length mc) := row_cell BV.bq rfl
  have BV := Lib.hid BV
  have RV := Lib.hid RV
  have A' := Lib.hid A'
  have T := Lib.hid T
  have LOW := Lib.hid low
  clear low
  go_wp2_with fail
  refine (refJump_yes 17 a.c a.nm RV.out (by decide) ⟨HB.out.c.1, HC.out⟩ (by omega)).mono ?_
  rintro e V2 ⟨lv', rfl, R2, new, g2⟩
  have B2 := BV.out.bel g2
  have p0 : V2.cell? ⟨w.heap.size + 1 + 1 + 1, 0, none⟩ = some (.slice none 0 0) := row_cell B2.bp rfl
  have p1 : V2.cell? ⟨w.heap.size + 1 + 1 + 1, 1, none⟩ = some (.slice none 0 0) := row_cell B2.bp rfl
  have q0 : V2.cell? ⟨w.heap.size + 1 + 1, 0, none⟩ = some (.slice none 0 0) := row_cell B2.br rfl
  have q1 : V2.cell? ⟨w.heap.size + 1 + 1, 1, none⟩ = some (.slice none 0 0) := row_cell B2.br rfl
  have fp0 : V2.frozen? ⟨w.heap.size + 1 + 1 + 1, 0, none⟩ = false := frozen_of_row _ _ _ _ _ B2.bp
  have fp1 : V2.frozen? ⟨w.heap.size + 1 + 1 + 1, 1, none⟩ = false := frozen_of_row _ _ _ _ _ B2.bp
  have fq0 : V2.frozen? ⟨w.heap.size + 1 + 1, 0, none⟩ = false := frozen_of_row _ _ _ _ _ B2.br
  have fq1 : V2.frozen? ⟨w.heap.size + 1 + 1, 1, none⟩ = false := frozen_of_row _ _ _ _ _ B2.br
  obtain ⟨⟨p', c', hv⟩, _⟩ := R2.forms
  generalize (l ++ [(⟨⟨17, a.c, 0, 0, true, 0⟩, true, a.nm⟩ : It)]).length = nn at hv
  subst hv
  have NEW := Lib.hid new
  clear new
  have R2 := Lib.hid R2
  have G2 := Lib.hid g2
  have B2 := Lib.hid B2
  clear g2
  go_wp2_with fail
  have FIN := does_end AA.out U0.out UZ.out T.out LOW.out A'.out G2.out RR.out FAR.out R2.out (fun i hi => hi.elim (fun e => .inr (NEW.out i e)) fun e => .inl (.inr e)) (turnE w.heap.size V2 (.slice p' nn c') (.slice mp' ms.length mc) (.slice p' nn c') (.slice mp' ms.length mc))
  refine bodyPost_ret (v := .tuple #[.agg #[.slice p' nn c', .slice mp' ms.length mc], .bool true]) ?_ rfl ?_
  · simp [results, Tryd.results9, go_sem, q0, q1]
  · have ed : doA q a = q.jump 17 a.c a.nm := by unfold doA; rw [if_neg (by have := hw.out; omega)]; rw [if_neg (by have := hw.out; omega)]; rw [if_pos hw.out, if_pos HC.out]
    have el : doL l ms a = l ++ [⟨⟨17, a.c, 0, 0, true, 0⟩, true, a.nm⟩] := by unfold doL; rw [if_neg (by have := hw.out; omega)]; rw [if_neg (by have := hw.out; omega)]; rw [if_pos hw.out, if_pos HC.out]
    have em : doM l ms a = ms := by unfold doM; rw [if_neg (by have := hw.out; omega)]
    rw [ed, el, em]
    exact ⟨_, _, G', rfl, FIN⟩
set_option maxHeartbeats 4000000 in
set_option maxRecDepth 10000 in
theorem does_2n {w : World} {b : Nat} {G K : Nat → Prop} {q : AS} {lv mv lx : Value} {l : List It} {ms : List (ByteArray × Nat)} (a : Ac) (A : AsmB w b G K q) (R : RL w lv mv l ms) (hr : Like q l ms) (far : ∀ i, lv.ownBlock = some i ∨ mv.ownBlock = some i → ¬ K i) (hb : AcB a) (hi : Ins w K lx a.k a.X) (hn : l.length + a.k + 62 ≤ 100000) (hm : ms.length < 100000) (hw : a.what % 5 = 2) (hc : 6 < a.c) :
    Calls Tryd.prog 9 #[.pointer (some ⟨b, 0, none⟩), .agg #[lv, mv], .agg #[.int .u8 a.what, lx, .string a.nm, .int .u8 a.c, .int .u32 a.u]] w fun e w' => ∃ lv' mv' G', e = .returned (.tuple #[.agg #[lv', mv'], .bool true]) ∧ AsmB w' b G' (fun i => K i ∨ G' i) (doA q a) ∧ Turns G w w' ∧ (∀ i, G' i → G i ∨ w.heap.size ≤ i) ∧ RL w' lv' mv' (doL l ms a) (doM l ms a) ∧ (∀ i, lv'.ownBlock = some i ∨ mv'.ownBlock = some i → ¬ (K i ∨ G' i)) := by
  obtain ⟨⟨lp', lc', rfl⟩, mp', mc, rfl⟩ := R.forms
  obtain ⟨ip, ic, rfl, hcs⟩ := hi
  have U0 := Lib.hid (dW_bel w (.slice lp' l.length lc') (.slice mp' ms.length mc) (.slice ip a.k ic) a)
  have UZ := Lib.hid (dW_size w (.slice lp' l.length lc') (.slice mp' ms.length mc) (.slice ip a.k ic) a)
  have UB := Lib.hid (dW_box w (.slice lp' l.length lc') (.slice mp' ms.length mc) (.slice ip a.k ic) a)
  have hwh := hb.what
  have HB := Lib.hid hb
  have AA := Lib.hid A
  have RR := Lib.hid R
  have HR := Lib.hid hr
  have FAR := Lib.hid far
  have HCS := Lib.hid hcs
  clear A R hr far hcs hb
  go_enter Tryd.func9, Tryd.ntmps9
  go_upto_region 2 with (fail)
  change Code.wp _ _ _ _ (dW w (.slice lp' l.length lc') (.slice mp' ms.length mc) (.slice ip a.k ic) a)
  generalize dW w (.slice lp' l.length lc') (.slice mp' ms.length mc) (.slice ip a.k ic) a = U at U0 UZ UB ⊢
  have x0 : U.cell? ⟨w.heap.size + 1, 0, none⟩ = some (.int .u8 a.what) := row_cell UB.out.ba rfl
  have x2 : U.cell? ⟨w.heap.size + 1, 2, none⟩ = some (.string a.nm) := row_cell UB.out.ba rfl
  have x3 : U.cell? ⟨w.heap.size + 1, 3, none⟩ = some (.int .u8 a.c) := row_cell UB.out.ba rfl
  have hqn : Hid (q.n + 1 ≤ 100000) := by have := HR.out.n; unfold Hid; omega
  have hqm : Hid (q.ms.length < 100000) := by unfold Hid; rw [HR.out.len]; exact hm
  have hm := Lib.hid hm
  have hw := Lib.hid hw
  have HC := Lib.hid hc
  clear hc
  go_wp2_with fail
  refine (Jump_bad a.c a.nm (does_start AA.out U0.out UZ.out) ⟨HC.out, HB.out.c.2⟩ hqn.out).mono ?_
  rintro e V ⟨rfl, G', A', T, low⟩
  have BV := UB.out.turns T (fun i hi => .inl (AA.out.lt i hi))
  have RV := (RR.out.bel U0.out).turns T (fun i hi hg => FAR.out i hi (AA.out.sub i hg))
  have y2 : V.cell? ⟨w.heap.size + 1, 2, none⟩ = some (.string a.nm) := row_cell BV.ba rfl
  have y3 : V.cell? ⟨w.heap.size + 1, 3, none⟩ = some (.int .u8 a.c) := row_cell BV.ba rfl
  have z0 : V.cell? ⟨w.heap.size, 0, none⟩ = some (.slice lp' l.length lc') := row_cell BV.bq rfl
  have z1 : V.cell? ⟨w.heap.size, 1, none⟩ = some (.slice mp' ms.length mc) := row_cell BV.bq rfl
  have BV := Lib.hid BV
  have RV := Lib.hid RV
  have A' := Lib.hid A'
  have T := Lib.hid T
  have LOW := Lib.hid low
  clear low
  go_wp2_with fail
  refine (refJump_bad 17 a.c a.nm RV.out ⟨HC.out, HB.out.c.2⟩).mono ?_
  rintro e V2 ⟨rfl, g2⟩
  have B2 := BV.out.bel g2
  have p0 : V2.cell? ⟨w.heap.size + 1 + 1 + 1, 0, none⟩ = some (.slice none 0 0) := row_cell B2.bp rfl
  have p1 : V2.cell? ⟨w.heap.size + 1 + 1 + 1, 1, none⟩ = some (.slice none 0 0) := row_cell B2.bp rfl
  have q0 : V2.cell? ⟨w.heap.size + 1 + 1, 0, none⟩ = some (.slice none 0 0) := row_cell B2.br rfl
  have q1 : V2.cell? ⟨w.heap.size + 1 + 1, 1, none⟩ = some (.slice none 0 0) := row_cell B2.br rfl
  have fp0 : V2.frozen? ⟨w.heap.size + 1 + 1 + 1, 0, none⟩ = false := frozen_of_row _ _ _ _ _ B2.bp
  have fp1 : V2.frozen? ⟨w.heap.size + 1 + 1 + 1, 1, none⟩ = false := frozen_of_row _ _ _ _ _ B2.bp
  have fq0 : V2.frozen? ⟨w.heap.size + 1 + 1, 0, none⟩ = false := frozen_of_row _ _ _ _ _ B2.br
  have fq1 : V2.frozen? ⟨w.heap.size + 1 + 1, 1, none⟩ = false := frozen_of_row _ _ _ _ _ B2.br
  have R2 := RV.out.bel g2
  have R2 := Lib.hid R2
  have G2 := Lib.hid g2
  have B2 := Lib.hid B2
  clear g2
  go_wp2_with fail
  have FIN := does_end AA.out U0.out UZ.out T.out LOW.out A'.out G2.out RR.out FAR.out R2.out (fun i hi => .inl hi) (turnE w.heap.size V2 (.slice lp' l.length lc') (.slice mp' ms.length mc) (.slice lp' l.length lc') (.slice mp' ms.length mc))
  refine bodyPost_ret (v := .tuple #[.agg #[.slice lp' l.length lc', .slice mp' ms.length mc], .bool true]) ?_ rfl ?_
  · simp [results, Tryd.results9, go_sem, q0, q1]
  · have ed : doA q a = q := by unfold doA; rw [if_neg (by have := hw.out; omega)]; rw [if_neg (by have := hw.out; omega)]; rw [if_pos hw.out, if_neg (by have := HC.out; omega)]
    have el : doL l ms a = l := by unfold doL; rw [if_neg (by have := hw.out; omega)]; rw [if_neg (by have := hw.out; omega)]; rw [if_pos hw.out, if_neg (by have := HC.out; omega)]
    have em : doM l ms a = ms := by unfold doM; rw [if_neg (by have := hw.out; omega)]
    rw [ed, el, em]
    exact ⟨_, _, G', rfl, FIN⟩
set_option maxHeartbeats 4000000 in
set_option maxRecDepth 10000 in
theorem does_3 {w : World} {b : Nat} {G K : Nat → Prop} {q : AS} {lv mv lx : Value} {l : List It} {ms : List (ByteArray × Nat)} (a : Ac) (A : AsmB w b G K q) (R : RL w lv mv l ms) (hr : Like q l ms) (far : ∀ i, lv.ownBlock = some i ∨ mv.ownBlock = some i → ¬ K i) (hb : AcB a) (hi : Ins w K lx a.k a.X) (hn : l.length + a.k + 62 ≤ 100000) (hm : ms.length < 100000) (hw : a.what % 5 = 3) :
    Calls Tryd.prog 9 #[.pointer (some ⟨b, 0, none⟩), .agg #[lv, mv], .agg #[.int .u8 a.what, lx, .string a.nm, .int .u8 a.c, .int .u32 a.u]] w fun e w' => ∃ lv' mv' G', e = .returned (.tuple #[.agg #[lv', mv'], .bool true]) ∧ AsmB w' b G' (fun i => K i ∨ G' i) (doA q a) ∧ Turns G w w' ∧ (∀ i, G' i → G i ∨ w.heap.size ≤ i) ∧ RL w' lv' mv' (doL l ms a) (doM l ms a) ∧ (∀ i, lv'.ownBlock = some i ∨ mv'.ownBlock = some i → ¬ (K i ∨ G' i)) := by
  obtain ⟨⟨lp', lc', rfl⟩, mp', mc, rfl⟩ := R.forms
  obtain ⟨ip, ic, rfl, hcs⟩ := hi
  have U0 := Lib.hid (dW_bel w (.slice lp' l.length lc') (.slice mp' ms.length mc) (.slice ip a.k ic) a)
  have UZ := Lib.hid (dW_size w (.slice lp' l.length lc') (.slice mp' ms.length mc) (.slice ip a.k ic) a)
  have UB := Lib.hid (dW_box w (.slice lp' l.length lc') (.slice mp' ms.length mc) (.slice ip a.k ic) a)
  have hwh := hb.what
  have HB := Lib.hid hb
  have AA := Lib.hid A
  have RR := Lib.hid R
  have HR := Lib.hid hr
  have FAR := Lib.hid far
  have HCS := Lib.hid hcs
  clear A R hr far hcs hb
  go_enter Tryd.func9, Tryd.ntmps9
  go_upto_region 2 with (fail)
  change Code.wp _ _ _ _ (dW w (.slice lp' l.length lc') (.slice mp' ms.length mc) (.slice ip a.k ic) a)
  generalize dW w (.slice lp' l.length lc') (.slice mp' ms.length mc) (.slice ip a.k ic) a = U at U0 UZ UB ⊢
  have x0 : U.cell? ⟨w.heap.size + 1, 0, none⟩ = some (.int .u8 a.what) := row_cell UB.out.ba rfl
  have x2 : U.cell? ⟨w.heap.size + 1, 2, none⟩ = some (.string a.nm) := row_cell UB.out.ba rfl
  have hqn : Hid (q.n + 1 ≤ 100000) := by have := HR.out.n; unfold Hid; omega
  have hqm : Hid (q.ms.length < 100000) := by unfold Hid; rw [HR.out.len]; exact hm
  have hm := Lib.hid hm
  have hw := Lib.hid hw
  go_wp2_with fail
  refine (Call_yes a.nm (does_start AA.out U0.out UZ.out) (Nat.le_trans HB.out.nm (by unfold maxLen; omega)) hqn.out).mono ?_
  rintro e V ⟨rfl, G', A', T, low⟩
  have BV := UB.out.turns T (fun i hi => .inl (AA.out.lt i hi))
  have RV := (RR.out.bel U0.out).turns T (fun i hi hg => FAR.out i hi (AA.out.sub i hg))
  have y2 : V.cell? ⟨w.heap.size + 1, 2, none⟩ = some (.string a.nm) := row_cell BV.ba rfl
  have z0 : V.cell? ⟨w.heap.size, 0, none⟩ = some (.slice lp' l.length lc') := row_cell BV.bq rfl
  have z1 : V.cell? ⟨w.heap.size, 1, none⟩ = some (.slice mp' ms.length mc) := row_cell BV.bq rfl
  have BV := Lib.hid BV
  have RV := Lib.hid RV
  have A' := Lib.hid A'
  have T := Lib.hid T
  have LOW := Lib.hid low
  clear low
  go_wp2_with fail
  refine (refJump_yes 18 0 a.nm RV.out (by decide) (by decide) (by omega)).mono ?_
  rintro e V2 ⟨lv', rfl, R2, new, g2⟩
  have B2 := BV.out.bel g2
  have p0 : V2.cell? ⟨w.heap.size + 1 + 1 + 1, 0, none⟩ = some (.slice none 0 0) := row_cell B2.bp rfl
  have p1 : V2.cell? ⟨w.heap.size + 1 + 1 + 1, 1, none⟩ = some (.slice none 0 0) := row_cell B2.bp rfl
  have q0 : V2.cell? ⟨w.heap.size + 1 + 1, 0, none⟩ = some (.slice none 0 0) := row_cell B2.br rfl
  have q1 : V2.cell? ⟨w.heap.size + 1 + 1, 1, none⟩ = some (.slice none 0 0) := row_cell B2.br rfl
  have fp0 : V2.frozen? ⟨w.heap.size + 1 + 1 + 1, 0, none⟩ = false := frozen_of_row _ _ _ _ _ B2.bp
  have fp1 : V2.frozen? ⟨w.heap.size + 1 + 1 + 1, 1, none⟩ = false := frozen_of_row _ _ _ _ _ B2.bp
  have fq0 : V2.frozen? ⟨w.heap.size + 1 + 1, 0, none⟩ = false := frozen_of_row _ _ _ _ _ B2.br
  have fq1 : V2.frozen? ⟨w.heap.size + 1 + 1, 1, none⟩ = false := frozen_of_row _ _ _ _ _ B2.br
  obtain ⟨⟨p', c', hv⟩, _⟩ := R2.forms
  generalize (l ++ [(⟨⟨18, 0, 0, 0, true, 0⟩, true, a.nm⟩ : It)]).length = nn at hv
  subst hv
  have NEW := Lib.hid new
  clear new
  have R2 := Lib.hid R2
  have G2 := Lib.hid g2
  have B2 := Lib.hid B2
  clear g2
  go_wp2_with fail
  have FIN := does_end AA.out U0.out UZ.out T.out LOW.out A'.out G2.out RR.out FAR.out R2.out (fun i hi => hi.elim (fun e => .inr (NEW.out i e)) fun e => .inl (.inr e)) (turnE w.heap.size V2 (.slice p' nn c') (.slice mp' ms.length mc) (.slice p' nn c') (.slice mp' ms.length mc))
  refine bodyPost_ret (v := .tuple #[.agg #[.slice p' nn c', .slice mp' ms.length mc], .bool true]) ?_ rfl ?_
  · simp [results, Tryd.results9, go_sem, q0, q1]
  · have ed : doA q a = q.jump 18 0 a.nm := by unfold doA; rw [if_neg (by have := hw.out; omega)]; rw [if_neg (by have := hw.out; omega)]; rw [if_neg (by have := hw.out; omega)]; rw [if_pos hw.out]
    have el : doL l ms a = l ++ [⟨⟨18, 0, 0, 0, true, 0⟩, true, a.nm⟩] := by unfold doL; rw [if_neg (by have := hw.out; omega)]; rw [if_neg (by have := hw.out; omega)]; rw [if_neg (by have := hw.out; omega)]; rw [if_pos hw.out]
    have em : doM l ms a = ms := by unfold doM; rw [if_neg (by have := hw.out; omega)]
    rw [ed, el, em]
    exact ⟨_, _, G', rfl, FIN⟩
end Go.Proofs.YtoecanjhkbeemaaDoor.A7
