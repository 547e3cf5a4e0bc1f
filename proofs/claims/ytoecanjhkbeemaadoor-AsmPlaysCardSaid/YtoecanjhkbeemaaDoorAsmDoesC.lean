/- does (layer 7): a constant. -/
import Derived.Test.YtoecanjhkbeemaaDoorAsmDoesB
import Derived.Deep.RegionHeld3
import Derived.Deep.RegionWith
namespace Go.Proofs.YtoecanjhkbeemaaDoor.A7
open Go.RowKit Go.Maps
set_option linter.unusedVariables false
set_option maxHeartbeats 4000000 in
set_option maxRecDepth 10000 in
theorem does_4y {w : World} {b : Nat} {G K : Nat → Prop} {q : AS} {lv mv lx : Value} {l : List It} {ms : List (ByteArray × Nat)} (a : Ac) (A : AsmB w b G K q) (R : RL w lv mv l ms) (hr : Like q l ms) (far : ∀ i, lv.ownBlock = some i ∨ mv.ownBlock = some i → ¬ K i) (hb : AcB a) (hi : Ins w K lx a.k a.X) (hn : l.length + a.k + 62 ≤ 100000) (hm : ms.length < 100000) (hw : a.what % 5 = 4) (hc : a.c ≤ 31) :
    Calls Tryd.prog 9 #[.pointer (some ⟨b, 0, none⟩), .agg #[lv, mv], .agg #[.int .u8 a.what, lx, .string a.nm, .int .u8 a.c, .int .u32 a.u]] w fun e w' => ∃ lv' mv' G', e = .returned (.tuple #[.agg #[lv', mv'], .bool true]) ∧ AsmB w' b G' (fun i => K i ∨ G' i) (doA q a) ∧ Turns G w w' ∧ (∀ i, G' i → G i ∨ w.heap.size ≤ i) ∧ RL w' lv' mv' (doL l ms a) (doM l ms a) ∧ (∀ i, lv'.ownBlock = some i ∨ mv'.ownBlock = some i → ¬ (K i ∨ G' i)) := by
  obtain ⟨⟨lp', lc', rfl⟩, mp', mc, rfl⟩ := R.forms
  obtain ⟨ip, ic, rfl, hcs⟩ := hi
  have U0 := Lib.hid (dW_bel w (.slice lp' l.length lc') (.slice mp' ms.length mc) (.slice ip a.k ic) a)
  have UZ := Lib.hid (dW_size w (.slice lp' l.length lc') (.slice mp' ms.length mc) (.slice ip a.k ic) a)
  have UB := Lib.hid (dW_box w (.slice lp' l.length lc') (.slice mp' ms.length mc) (.slice ip a.k ic) a)
  have hwh := hb.what
  have HB := Lib.hid hb
  have AA := Lib.hid A
  have RR := Lib.hid R
  have HR := Lib.hid hr
  have FAR := Lib.hid far
  have HCS := Lib.hid hcs
  clear A R hr far hcs hb
  go_enter Tryd.func9, Tryd.ntmps9
  go_upto_region 2 with (fail)
  change Code.wp _ _ _ _ (dW w (.slice lp' l.length lc') (.slice mp' ms.length mc) (.slice ip a.k ic) a)
  generalize dW w (.slice lp' l.length lc') (.slice mp' ms.length mc) (.slice ip a.k ic) a = U at U0 UZ UB ⊢
  have x0 : U.cell? ⟨w.heap.size + 1, 0, none⟩ = some (.int .u8 a.what) := row_cell UB.out.ba rfl
  have x3 : U.cell? ⟨w.heap.size + 1, 3, none⟩ = some (.int .u8 a.c) := row_cell UB.out.ba rfl
  have x4 : U.cell? ⟨w.heap.size + 1, 4, none⟩ = some (.int .u32 a.u) := row_cell UB.out.ba rfl
  have hqn : Hid (q.n + 2 ≤ 100000) := by have := HR.out.n; unfold Hid; omega
  have hqm : Hid (q.ms.length < 100000) := by unfold Hid; rw [HR.out.len]; exact hm
  have hm := Lib.hid hm
  have hw := Lib.hid hw
  have HC := Lib.hid hc
  clear hc
  go_wp2_with fail
  refine (Const_yes a.c a.u (does_start AA.out U0.out UZ.out) ⟨HB.out.c.1, HC.out⟩ HB.out.u hqn.out).mono ?_
  rintro e V ⟨rfl, G', A', T, low⟩
  have BV := UB.out.turns T (fun i hi => .inl (AA.out.lt i hi))
  have RV := (RR.out.bel U0.out).turns T (fun i hi hg => FAR.out i hi (AA.out.sub i hg))
  have y3 : V.cell? ⟨w.heap.size + 1, 3, none⟩ = some (.int .u8 a.c) := row_cell BV.ba rfl
  have y4 : V.cell? ⟨w.heap.size + 1, 4, none⟩ = some (.int .u32 a.u) := row_cell BV.ba rfl
  have z0 : V.cell? ⟨w.heap.size, 0, none⟩ = some (.slice lp' l.length lc') := row_cell BV.bq rfl
  have z1 : V.cell? ⟨w.heap.size, 1, none⟩ = some (.slice mp' ms.length mc) := row_cell BV.bq rfl
  have BV := Lib.hid BV
  have RV := Lib.hid RV
  have A' := Lib.hid A'
  have T := Lib.hid T
  have LOW := Lib.hid low
  clear low
  go_upto_region 5 with (fail)
  have CB := Lib.hid (fun i => cX_b a.c a.u i HB.out.c HB.out.u)
  have CM := Lib.hid (fun i => (cX_may a.c a.u i HB.out.c HB.out.u).trans (decide_eq_true (by have := HC.out; omega)))
  have hkk : Hid (l.length + cK a.u ≤ 100000) := by have := cK_le a.u; unfold Hid; omega
  go_region_with (first
    | (go_at_call 28; refine (refParts_at a.c a.u _ HB.out.c HB.out.u).mono ?_; rintro e V1 ⟨lp, rfl, IL, g1⟩; have gA := bel_trans (Below.drew (Below.refl V.heap.size V)) g1; have z0' := bel_cell gA z0; have z1' := bel_cell gA z1; have y3' := bel_cell gA y3; have y4' := bel_cell gA y4; have GA := Lib.hid gA; have IL := Lib.hid IL; clear g1 gA)
    | (go_at_call 25; refine (refPut_any (RV.out.bel GA.out) (IL.out.mono fun _ e => e.elim) (fun i _ => CB.out i) hkk.out).mono ?_; rintro e V2 h; rcases h with ⟨lv', rfl, _, R2, new, g2⟩ | ⟨rfl, ⟨i, hi, hf⟩, _⟩; rotate_left; (exfalso; rw [CM.out i] at hf; cases hf); have gB := bel_trans GA.out g2; have B2 := BV.out.bel gB; have p0 : V2.cell? ⟨w.heap.size + 1 + 1 + 1, 0, none⟩ = some (.slice none 0 0) := row_cell B2.bp rfl; have p1 : V2.cell? ⟨w.heap.size + 1 + 1 + 1, 1, none⟩ = some (.slice none 0 0) := row_cell B2.bp rfl; have fp0 : V2.frozen? ⟨w.heap.size + 1 + 1 + 1, 0, none⟩ = false := frozen_of_row _ _ _ _ _ B2.bp; have fp1 : V2.frozen? ⟨w.heap.size + 1 + 1 + 1, 1, none⟩ = false := frozen_of_row _ _ _ _ _ B2.bp; have hq := B2.br; obtain ⟨⟨p', c', hv⟩, _⟩ := R2.forms; generalize (l ++ its (cX a.c a.u) (cK a.u)).length = nn at hv; subst hv; have NEW := Lib.hid (fun j hj => Nat.le_trans GA.out.size (new j hj)); have R2 := Lib.hid R2; have G2 := Lib.hid gB; have B2 := Lib.hid B2; clear new g2 gB))
  all_goals
    have q0 : V2.cell? ⟨w.heap.size + 1 + 1, 0, none⟩ = some (.slice none 0 0) := row_cell hq rfl
    have q1 : V2.cell? ⟨w.heap.size + 1 + 1, 1, none⟩ = some (.slice none 0 0) := row_cell hq rfl
    have fq0 : V2.frozen? ⟨w.heap.size + 1 + 1, 0, none⟩ = false := frozen_of_row _ _ _ _ _ hq
    have fq1 : V2.frozen? ⟨w.heap.size + 1 + 1, 1, none⟩ = false := frozen_of_row _ _ _ _ _ hq
    clear hq
    go_wp2_with fail
    have FIN := does_end AA.out U0.out UZ.out T.out LOW.out A'.out G2.out RR.out FAR.out R2.out (fun i hi => hi.elim (fun e => .inr (NEW.out i e)) fun e => .inl (.inr e)) (turnE w.heap.size V2 (.slice p' nn c') (.slice mp' ms.length mc) (.slice p' nn c') (.slice mp' ms.length mc))
    refine bodyPost_ret (v := .tuple #[.agg #[.slice p' nn c', .slice mp' ms.length mc], .bool true]) ?_ rfl ?_
    · simp [results, Tryd.results9, go_sem, q0, q1]
    · have ed : doA q a = q.adds (fun i => (cX a.c a.u i).word) (cK a.u) := by unfold doA; rw [if_neg (by have := hw.out; omega)]; rw [if_neg (by have := hw.out; omega)]; rw [if_neg (by have := hw.out; omega)]; rw [if_neg (by have := hw.out; omega), if_pos HC.out]
      have el : doL l ms a = l ++ its (cX a.c a.u) (cK a.u) := by unfold doL; rw [if_neg (by have := hw.out; omega)]; rw [if_neg (by have := hw.out; omega)]; rw [if_neg (by have := hw.out; omega)]; rw [if_neg (by have := hw.out; omega), if_pos HC.out]
      have em : doM l ms a = ms := by unfold doM; rw [if_neg (by have := hw.out; omega)]
      rw [ed, el, em]
      exact ⟨_, _, G', rfl, FIN⟩
end Go.Proofs.YtoecanjhkbeemaaDoor.A7
